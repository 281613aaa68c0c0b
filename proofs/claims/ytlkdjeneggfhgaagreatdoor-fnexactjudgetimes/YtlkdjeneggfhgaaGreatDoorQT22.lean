/- Texts joined: MchC, MchB, SpecTk. -/
import Derived.Test.YtlkdjeneggfhgaaGreatDoorQT21
import Derived.Test.YtlkdjeneggfhgaaGreatDoorQT13
import Derived.Test.YtlkdjeneggfhgaaGreatDoorQT10
set_option maxHeartbeats 16000000
set_option maxRecDepth 100000
namespace Go.Proofs.YtlkdjeneggfhgaaGreatDoor
section
open Go.ChangeShapes Go.WideShapes Go.ChangeAt Go.RowKit Go.Joins
def numC : Cel → Int
 | .i x => x
 | _ => 0
def boolC : Cel → Bool
 | .b x => x
 | _ => false
def lenC : Cel → Nat
 | .l _ _ n _ => n
 | _ => 0
def listC : Cel → List Cel
 | .l _ _ _ cs => cs
 | _ => []
def nums (cs : List Cel) : List Int := cs.map numC
def nthC (cs : List Cel) (i : Nat) : Cel := cs.getD i (.i 0)
def thD (r : List Cel) : ThD := ⟨lenC (nthC r 0), nums (listC (nthC r 0)), numC (nthC r 1), boolC (nthC r 2), lenC (nthC r 3), nums (listC (nthC r 3)), lenC (nthC r 4), nums (listC (nthC r 4))⟩
def caD (r : List Cel) : CaD := ⟨numC (nthC r 0), numC (nthC r 1), numC (nthC r 2), numC (nthC r 3), numC (nthC r 4), numC (nthC r 5), numC (nthC r 6), numC (nthC r 7)⟩
def dkD (r : List Cel) : DK := ⟨numC (nthC r 0), numC (nthC r 1), lenC (nthC r 2), nums (listC (nthC r 2)), numC (nthC r 3), lenC (nthC r 4), nums (listC (nthC r 4))⟩
def maD (cs : List Cel) : MaD where
 nw := lenC (nthC cs 0)
 ws := nums (listC (nthC cs 0))
 nd := lenC (nthC cs 1)
 ds := (List.range (lenC (nthC cs 1))).map fun i => dkD (row (listC (nthC cs 1)) 5 i)
 nt := lenC (nthC cs 2)
 ts := fun i => thD (row (listC (nthC cs 2)) 5 i)
 tm := numC (nthC cs 3)
 nc := lenC (nthC cs 4)
 f := fun i => caD (row (listC (nthC cs 4)) 9 i)
 no := lenC (nthC cs 5)
 os := nums (listC (nthC cs 5))
 nh := lenC (nthC cs 6)
 hs := nums (listC (nthC cs 6))
 st := numC (nthC cs 7)
def Ty.isI : Ty → Bool
 | .i => true
 | _ => false
theorem at_kAt {q : Bool} {w : World} {a : Option Addr} {n c k : Nat} {T : TypeId} {cs : List Cel} {fs : List Ty} (h : At q w (.slice a n c) (.l T k n cs)) (hs : Has (.l T k n cs) (.l T k fs)) (hf : ∀ t ∈ fs, t = .i) : KAt k w a n (nums cs) := by
 obtain ⟨a', c', vs, e, h1, h2, hn, -, h3, h4⟩ := h.openL
 cases e
 refine ⟨by unfold nums; rw [List.length_map]; exact h2, hn, ?_⟩
 rcases h3 with h0 | ⟨b, o, rfl, hc⟩
 · exact .inl h0
 · refine .inr ⟨b, o, rfl, fun j hj => ?_⟩
   rw [hc j hj]
   have hv : vs[j]? = some (vs[j]'(by omega)) := List.getElem?_eq_getElem (by omega)
   have hcj : cs[j]? = some (cs[j]'(by omega)) := List.getElem?_eq_getElem (by omega)
   have hat := h4 j _ _ hv hcj
   have hx : ∃ x, cs[j]'(by omega) = .i x := by
     cases hs with
     | l _ _ _ _ _ hk hl hh =>
       have hk0 : 0 < k := Nat.pos_of_ne_zero fun e => by rw [e] at hj; simp at hj
       have hm : j % k < fs.length := by rw [hk]; exact Nat.mod_lt _ hk0
       have ht := hh j _ _ hcj (List.getElem?_eq_getElem hm)
       rw [hf _ (List.getElem_mem hm)] at ht
       exact ht.int
   obtain ⟨x, hx⟩ := hx
   rw [hx] at hat
   rw [hv, hat.int]
   have : (nums cs).getD j 0 = x := by
     unfold nums
     have hjc : j < cs.length := by omega
     simp [List.getD, hjc, hx, numC]
   rw [this]
theorem KAt.trip {w : World} {a : Option Addr} {n : Nat} {fs : List Int} (h : KAt 3 w a n fs) (hn : n ≤ 1048576) : TripAt w a n fs := ⟨h.1, hn, h.2.2⟩
theorem KAt.ints {w : World} {a : Option Addr} {n : Nat} {fs : List Int} (h : KAt 1 w a n fs) : IntAt w a n fs := by
 refine ⟨by have := h.1; omega, by have := h.2.1; omega, ?_⟩
 rcases h.2.2 with h0 | ⟨b, o, h1, h2⟩
 · exact .inl h0
 · exact .inr ⟨b, o, h1, fun i hi => h2 i (by omega)⟩
theorem at_rows {q : Bool} {w : World} {a : Option Addr} {n c k : Nat} {T : TypeId} {cs : List Cel} (h : At q w (.slice a n c) (.l T k n cs)) : n = 0 ∨ ∃ b o, a = some ⟨b, o, none⟩ ∧ ∀ i, i < n → ∃ us, AtL q w us (row cs k i) ∧ ∀ r, r < k → w.cell? ⟨b, o + i * k + r, none⟩ = us[r]? := by
 obtain ⟨a', c', vs, e, h1, h2, hn, -, h3, h4⟩ := h.openL
 cases e
 rcases h3 with h0 | ⟨b, o, rfl, hc⟩
 · exact .inl h0
 · refine .inr ⟨b, o, rfl, fun i hi => ⟨_, rowVals h1 h2 h4 hi, fun r hr => ?_⟩⟩
   have hle : i * k + k ≤ n * k := by rw [← Nat.succ_mul]; exact Nat.mul_le_mul_right k hi
   rw [List.getElem?_take_of_lt hr, List.getElem?_drop, Nat.add_assoc, hc (i * k + r) (by omega)]
theorem big_len {T : TypeId} {k n : Nat} {cs : List Cel} : n ≤ (Cel.l T k n cs).big := by simp only [Cel.big]; omega
theorem row_mem_big {cs : List Cel} {k n i : Nat} (hl : cs.length = n * k) (hi : i < n) {j : Nat} {c : Cel} (h : (row cs k i)[j]? = some c) : c.big ≤ bigL cs := by
 have hj : j < k := by have := (List.getElem?_eq_some_iff.1 h).1; rw [rowL_len hl hi] at this; exact this
 rw [row_at hj] at h
 exact big_mem h
theorem at_cap {w : World} {a : Option Addr} {n c k : Nat} {T : TypeId} {cs : List Cel} (h : At true w (.slice a n c) (.l T k n cs)) : n ≤ c := by
 obtain ⟨a', c', vs, e, h1, h2, hn, hq, h3, h4⟩ := h.openL
 cases e
 exact (hq rfl).2
theorem int_all {fs : List Ty} (h : fs.all Ty.isI = true) : ∀ t ∈ fs, t = .i := fun t ht => by
 have := (List.all_eq_true.1 h) t ht
 cases t <;> simp [Ty.isI] at this ⊢
theorem i1 : ∀ t ∈ ([.i] : List Ty), t = .i := int_all rfl
theorem iOp : ∀ t ∈ tyOp, t = .i := int_all rfl
theorem iPair : ∀ t ∈ tyPair, t = .i := int_all rfl
theorem iHelp : ∀ t ∈ tyHelp, t = .i := int_all rfl
theorem iEntry : ∀ t ∈ tyEntry, t = .i := int_all rfl
theorem iWord : ∀ t ∈ tyWord, t = .i := int_all rfl
theorem at_thread {w : World} {b p : Nat} {us : List Value} {r : List Cel} (h : AtL true w us r) (hs : HasL r tyThread) (hc : ∀ i, i < 5 → w.cell? ⟨b, p + i, none⟩ = us[i]?) :
   ∃ a0 c0 a1 c1 a2 c2, ThC w b p (thD r) a0 c0 a1 c1 a2 c2 ∧ ThL w a0 a1 a2 (thD r) ∧ (thD r).n0 ≤ c0 ∧ (thD r).n1 ≤ c1 ∧ (thD r).n2 ≤ c2 := by
 obtain ⟨x0, x1, x2, x3, x4, rfl, T0, T1, T2, T3, T4⟩ := hs.c5
 obtain ⟨v0, v1, v2, v3, v4, rfl, A0, A1, A2, A3, A4⟩ := h.c5
 obtain ⟨n0, l0, rfl, _⟩ := T0.list
 obtain ⟨y1, rfl⟩ := T1.int
 obtain ⟨y2, rfl⟩ := T2.bool
 obtain ⟨n3, l3, rfl, _⟩ := T3.list
 obtain ⟨n4, l4, rfl, _⟩ := T4.list
 obtain rfl := A1.int
 obtain rfl := A2.bool
 obtain ⟨a0, c0, rfl⟩ := A0.slice
 obtain ⟨a3, c3, rfl⟩ := A3.slice
 obtain ⟨a4, c4, rfl⟩ := A4.slice
 exact ⟨a0, c0, a3, c3, a4, c4, ⟨hc 0 (by omega), hc 1 (by omega), hc 2 (by omega), hc 3 (by omega), hc 4 (by omega)⟩, ⟨at_kAt A0 T0 iOp, at_kAt A3 T3 iPair, at_kAt A4 T4 iHelp⟩, at_cap A0, at_cap A3, at_cap A4⟩
theorem at_call {w : World} {b p : Nat} {us : List Value} {r : List Cel} (h : AtL true w us r) (hs : HasL r tyCall) (hc : ∀ i, i < 9 → w.cell? ⟨b, p + i, none⟩ = us[i]?) : ∃ ra rn rc, CaC w b p (caD r) (.slice ra rn rc) := by
 obtain ⟨x0, x1, x2, x3, x4, x5, x6, x7, x8, rfl, T0, T1, T2, T3, T4, T5, T6, T7, T8⟩ := hs.c9
 obtain ⟨v0, v1, v2, v3, v4, v5, v6, v7, v8, rfl, A0, A1, A2, A3, A4, A5, A6, A7, A8⟩ := h.c9
 obtain ⟨y0, rfl⟩ := T0.int
 obtain ⟨y1, rfl⟩ := T1.int
 obtain ⟨y2, rfl⟩ := T2.int
 obtain ⟨y3, rfl⟩ := T3.int
 obtain ⟨y4, rfl⟩ := T4.int
 obtain ⟨y5, rfl⟩ := T5.int
 obtain ⟨y6, rfl⟩ := T6.int
 obtain ⟨y7, rfl⟩ := T7.int
 obtain ⟨n8, l8, rfl, _⟩ := T8.list
 obtain rfl := A0.int
 obtain rfl := A1.int
 obtain rfl := A2.int
 obtain rfl := A3.int
 obtain rfl := A4.int
 obtain rfl := A5.int
 obtain rfl := A6.int
 obtain rfl := A7.int
 obtain ⟨a8, c8, rfl⟩ := A8.slice
 exact ⟨a8, n8, c8, hc 0 (by omega), hc 1 (by omega), hc 2 (by omega), hc 3 (by omega), hc 4 (by omega), hc 5 (by omega), hc 6 (by omega), hc 7 (by omega), hc 8 (by omega)⟩
theorem at_desc {w : World} {b p : Nat} {us : List Value} {r : List Cel} (h : AtL true w us r) (hs : HasL r tyDesc) (hb : ∀ (j : Nat) (c : Cel), r[j]? = some c → c.big ≤ 1048576) (hc : ∀ i, i < 5 → w.cell? ⟨b, p + i, none⟩ = us[i]?) :
   ∃ ea ec ra rc, Five w b p (dkD r) ea ec ra rc ∧ TripAt w ea (dkD r).en (dkD r).es ∧ IntAt w ra (dkD r).rn (dkD r).rs ∧ (dkD r).en ≤ ec := by
 obtain ⟨x0, x1, x2, x3, x4, rfl, T0, T1, T2, T3, T4⟩ := hs.c5
 obtain ⟨v0, v1, v2, v3, v4, rfl, A0, A1, A2, A3, A4⟩ := h.c5
 obtain ⟨y0, rfl⟩ := T0.int
 obtain ⟨y1, rfl⟩ := T1.int
 obtain ⟨n2, l2, rfl, _⟩ := T2.list
 obtain ⟨y3, rfl⟩ := T3.int
 obtain ⟨n4, l4, rfl, _⟩ := T4.list
 obtain rfl := A0.int
 obtain rfl := A1.int
 obtain rfl := A3.int
 obtain ⟨a2, c2, rfl⟩ := A2.slice
 obtain ⟨a4, c4, rfl⟩ := A4.slice
 have hb2 := hb 2 _ rfl
 have := big_len (T := 154) (k := 3) (n := n2) (cs := l2)
 exact ⟨a2, c2, a4, c4, ⟨hc 0 (by omega), hc 1 (by omega), hc 2 (by omega), hc 3 (by omega), hc 4 (by omega)⟩, (at_kAt A2 T2 iEntry).trip (by omega), (at_kAt A4 T4 i1).ints, at_cap A2⟩
theorem at_machine {w : World} {us : List Value} {cs : List Cel} (h : AtL true w us cs) (hs : HasL cs tyMachine) (hb : bigL cs ≤ 1048576) :
   ∃ wa wc da dc ta tc ca cc oa oc ha hc, .agg us.toArray = MaV wa wc da dc ta tc ca cc oa oc ha hc (maD cs) ∧ MaAt w wa da ta ca oa ha (maD cs) ∧ CapAt w da (maD cs).nd (maD cs).ds ∧ (maD cs).nh ≤ hc := by
 obtain ⟨x0, x1, x2, x3, x4, x5, x6, x7, rfl, T0, T1, T2, T3, T4, T5, T6, T7⟩ := hs.c8
 obtain ⟨v0, v1, v2, v3, v4, v5, v6, v7, rfl, A0, A1, A2, A3, A4, A5, A6, A7⟩ := h.c8
 obtain ⟨n0, l0, rfl, e0⟩ := T0.list
 obtain ⟨n1, l1, rfl, e1⟩ := T1.list
 obtain ⟨n2, l2, rfl, e2⟩ := T2.list
 obtain ⟨y3, rfl⟩ := T3.int
 obtain ⟨n4, l4, rfl, e4⟩ := T4.list
 obtain ⟨n5, l5, rfl, e5⟩ := T5.list
 obtain ⟨n6, l6, rfl, e6⟩ := T6.list
 obtain ⟨y7, rfl⟩ := T7.int
 obtain rfl := A3.int
 obtain rfl := A7.int
 obtain ⟨a0, c0, rfl⟩ := A0.slice
 obtain ⟨a1, c1, rfl⟩ := A1.slice
 obtain ⟨a2, c2, rfl⟩ := A2.slice
 obtain ⟨a4, c4, rfl⟩ := A4.slice
 obtain ⟨a5, c5, rfl⟩ := A5.slice
 obtain ⟨a6, c6, rfl⟩ := A6.slice
 have g0 := big_len (T := 151) (k := 3) (n := n0) (cs := l0)
 have g1 := big_len (T := 149) (k := 5) (n := n1) (cs := l1)
 simp only [bigL] at hb
 have hl1 : bigL l1 ≤ 1048576 := by
   have : bigL l1 ≤ (Cel.l 149 5 n1 l1).big := by simp only [Cel.big]; omega
   omega
 have N2 : n2 ≤ 2097152 := by obtain ⟨_, _, _, _, _, _, hn, _⟩ := A2.openL; exact hn
 have N4 : n4 ≤ 2097152 := by obtain ⟨_, _, _, _, _, _, hn, _⟩ := A4.openL; exact hn
 have HD : n1 = 0 ∨ ∃ b o, a1 = some ⟨b, o, none⟩ ∧ ∀ i, i < n1 → ∃ ea ec ra rc, Five w b (o + i * 5) (dkD (row l1 5 i)) ea ec ra rc ∧ TripAt w ea (dkD (row l1 5 i)).en (dkD (row l1 5 i)).es ∧ IntAt w ra (dkD (row l1 5 i)).rn (dkD (row l1 5 i)).rs ∧ (dkD (row l1 5 i)).en ≤ ec := by
   rcases at_rows A1 with h0 | ⟨b, o, rfl, hr⟩
   · exact .inl h0
   · refine .inr ⟨b, o, rfl, fun i hi => ?_⟩
     obtain ⟨us, hu, hc⟩ := hr i hi
     exact at_desc hu (T1.rowL hi) (fun j c hj => Nat.le_trans (row_mem_big e1 hi hj) hl1) hc
 have DK1 : ∀ i, i < n1 → dk ((List.range n1).map fun i => dkD (row l1 5 i)) i = dkD (row l1 5 i) := fun i hi => by
   unfold dk
   simp [List.getD, hi]
 refine ⟨a0, c0, a1, c1, a2, c2, a4, c4, a5, c5, a6, c6, rfl, ⟨(at_kAt A0 T0 iWord).trip (by show n0 ≤ _; omega), ⟨by show (List.map _ (List.range n1)).length = n1; simp, by show n1 ≤ _; omega, ?_⟩, ⟨N2, ?_⟩, ⟨N4, ?_⟩, (at_kAt A5 T5 i1).ints, (at_kAt A6 T6 i1).ints⟩, ?_, at_cap A6⟩
 · rcases HD with h0 | ⟨b, o, rfl, hr⟩
   · exact .inl h0
   · refine .inr ⟨b, o, rfl, fun i hi => ?_⟩
     obtain ⟨ea, ec, ra, rc, h5, h6, h7, _⟩ := hr i hi
     show ∃ ea ec ra rc, Five w b (o + i * 5) (dk ((List.range n1).map fun i => dkD (row l1 5 i)) i) ea ec ra rc ∧ TripAt w ea (dk ((List.range n1).map fun i => dkD (row l1 5 i)) i).en (dk ((List.range n1).map fun i => dkD (row l1 5 i)) i).es ∧ IntAt w ra (dk ((List.range n1).map fun i => dkD (row l1 5 i)) i).rn (dk ((List.range n1).map fun i => dkD (row l1 5 i)) i).rs
     rw [DK1 i hi]
     exact ⟨ea, ec, ra, rc, h5, h6, h7⟩
 · rcases at_rows A2 with h0 | ⟨b, o, rfl, hr⟩
   · exact .inl h0
   · refine .inr ⟨b, o, rfl, fun i hi => ?_⟩
     obtain ⟨us, hu, hc⟩ := hr i hi
     exact at_thread hu (T2.rowL hi) hc
 · rcases at_rows A4 with h0 | ⟨b, o, rfl, hr⟩
   · exact .inl h0
   · refine .inr ⟨b, o, rfl, fun i hi => ?_⟩
     obtain ⟨us, hu, hc⟩ := hr i hi
     exact at_call hu (T4.rowL hi) hc
 · rcases HD with h0 | ⟨b, o, rfl, hr⟩
   · exact .inl h0
   · refine .inr ⟨b, o, rfl, fun i hi => ?_⟩
     obtain ⟨ea, ec, ra, rc, h5, _, _, h8⟩ := hr i hi
     show ∃ ea ec, w.cell? ⟨b, o + i * 5 + 2, none⟩ = some (.slice ea (dk ((List.range n1).map fun i => dkD (row l1 5 i)) i).en ec) ∧ (dk ((List.range n1).map fun i => dkD (row l1 5 i)) i).en ≤ ec
     rw [DK1 i hi]
     exact ⟨ea, ec, h5.2.2.1, h8⟩
theorem forms8 {q : Bool} {w : World} {us : List Value} {cs : List Cel} (h : AtL q w us cs) (hs : HasL cs tyMachine) :
   ∃ b0 m0 k0 b1 m1 k1 b2 m2 k2 j3 b4 m4 k4 b5 m5 k5 b6 m6 k6 j7, us = [.slice b0 m0 k0, .slice b1 m1 k1, .slice b2 m2 k2, .int .i64 j3, .slice b4 m4 k4, .slice b5 m5 k5, .slice b6 m6 k6, .int .i64 j7] := by
 obtain ⟨x0, x1, x2, x3, x4, x5, x6, x7, rfl, T0, T1, T2, T3, T4, T5, T6, T7⟩ := hs.c8
 obtain ⟨v0, v1, v2, v3, v4, v5, v6, v7, rfl, A0, A1, A2, A3, A4, A5, A6, A7⟩ := h.c8
 obtain ⟨n0, l0, rfl, e0⟩ := T0.list
 obtain ⟨n1, l1, rfl, e1⟩ := T1.list
 obtain ⟨n2, l2, rfl, e2⟩ := T2.list
 obtain ⟨y3, rfl⟩ := T3.int
 obtain ⟨n4, l4, rfl, e4⟩ := T4.list
 obtain ⟨n5, l5, rfl, e5⟩ := T5.list
 obtain ⟨n6, l6, rfl, e6⟩ := T6.list
 obtain ⟨y7, rfl⟩ := T7.int
 obtain rfl := A3.int
 obtain rfl := A7.int
 obtain ⟨a0, c0, rfl⟩ := A0.slice
 obtain ⟨a1, c1, rfl⟩ := A1.slice
 obtain ⟨a2, c2, rfl⟩ := A2.slice
 obtain ⟨a4, c4, rfl⟩ := A4.slice
 obtain ⟨a5, c5, rfl⟩ := A5.slice
 obtain ⟨a6, c6, rfl⟩ := A6.slice
 exact ⟨_, _, _, _, _, _, _, _, _, _, _, _, _, _, _, _, _, _, _, _, rfl⟩
theorem wf_held {cs : List Cel} (hw : WfL cs) (hs : HasL cs tyMachine) : ∀ x ∈ (maD cs).hs, (Lit.int .i64 x).wf = true := by
 intro x hx
 obtain ⟨x0, r0, rfl, T0, hH0⟩ := hs.cons
 obtain ⟨x1, r1, rfl, T1, hH1⟩ := hH0.cons
 obtain ⟨x2, r2, rfl, T2, hH2⟩ := hH1.cons
 obtain ⟨x3, r3, rfl, T3, hH3⟩ := hH2.cons
 obtain ⟨x4, r4, rfl, T4, hH4⟩ := hH3.cons
 obtain ⟨x5, r5, rfl, T5, hH5⟩ := hH4.cons
 obtain ⟨x6, r6, rfl, T6, hH6⟩ := hH5.cons
 obtain ⟨n6, l6, rfl, e6⟩ := T6.list
 have h6 := hw 6 _ rfl
 have hx : x ∈ nums l6 := hx
 unfold nums at hx
 obtain ⟨c, hc, rfl⟩ := List.mem_map.1 hx
 obtain ⟨j, hj, rfl⟩ := List.getElem_of_mem hc
 cases h6 with
 | l _ _ _ _ h =>
   have hcj := h j _ (List.getElem?_eq_getElem hj)
   cases T6 with
   | l _ _ _ _ _ hk hl hh =>
     have ht := hh j _ .i (List.getElem?_eq_getElem hj) (by rw [Nat.mod_one]; rfl)
     obtain ⟨y, hy⟩ := ht.int
     rw [hy] at hcj ⊢
     cases hcj with
     | i _ h => exact h
end
section
open Go.ChangeShapes Go.WideShapes Go.ChangeAt Go.RowKit
theorem endN_succ (f : Nat → CaD) (t : Int) (k : Nat) : endN f t (k + 1) = endN f t k + if (f k).t = t ∧ 0 ≤ (f k).en then 1 else 0 := rfl
def EndsUpto (f : Nat → CaD) (t : Int) (on : Bool) (l : Int) (k : Nat) : Prop := ∀ j, j < k → (f j).t = t → 0 ≤ (f j).en ∨ (on = true ∧ (j : Int) = l)
theorem EndsUpto.next {f : Nat → CaD} {t : Int} {on : Bool} {l : Int} {k : Nat} (h : EndsUpto f t on l k) (h1 : (f k).t = t → 0 ≤ (f k).en ∨ (on = true ∧ (k : Int) = l)) : EndsUpto f t on l (k + 1) := fun j hj => by
 by_cases e : j = k
 · rw [e]; exact h1
 · exact h j (by omega)
theorem specTask_any (v0 v1 v3 v5 v6 v7 : Value) (ta : Option Addr) (nt tc : Nat) (ts : Nat → ThD) (ca : Option Addr) (nc cc : Nat) (f : Nat → CaD) (i : Nat) (hi : i < nt) (w : World) (h1 : ThsAt w ta nt ts) (h2 : CasAt w ca nc f)
   (hpc : (ts i).on = true → 0 ≤ (ts i).pc ∧ (ts i).pc < (ts i).n0) :
   Calls Tryz.prog 66 #[.agg #[v0, v1, .slice ta nt tc, v3, .slice ca nc cc, v5, v6, v7], .int .i64 (i : Int)] w fun e w' => ∃ ok, (e = .returned (.bool ok) ∧ (ok = true ↔ TaskSpec f nc (i : Int) (ts i))) ∧ Below w.heap.size w w' := by
 have hnt := h1.1
 have hnc := h2.1
 obtain ⟨G, hG⟩ : ∃ G : Prop, TaskSpec f nc (i : Int) (ts i) = G := ⟨_, rfl⟩
 have HG : Hid (G ↔ TaskSpec f nc (i : Int) (ts i)) := by show _ ↔ _; rw [hG]
 rw [hG]
 have H2 : Hid (CasAt w ca nc f) := h2
 rcases h1.2 with h0 | ⟨p0, o0, rfl, g0⟩
 · omega
 obtain ⟨a0, c0, a1, c1, a2, c2, hTC, hTL, _⟩ := g0 i hi
 have hi0 : (0 : Int) ≤ (i : Int) := by omega
 have hi1 : (i : Int) < (nt : Int) := by omega
 obtain ⟨X, hX⟩ : ∃ X, ts i = X := ⟨_, rfl⟩
 rw [hX] at HG hTC hTL hpc
 obtain ⟨n0, fs, pc, on, n1, gs, n2, hs⟩ := X
 obtain ⟨e0, e1, e2, e3, e4⟩ := hTC
 have HOPS : Hid (KAt 3 w a0 n0 fs) := hTL.ops
 have hm0 := hTL.ops.2.1
 dsimp only at e0 e1 e2 e3 e4 hpc hm0
 have q0 : p0 < w.heap.size := World.block_lt_of_cell? w _ e0
 have HPC : Hid (on = true → 0 ≤ pc ∧ pc < (n0 : Int)) := hpc
 have hl := lastN_lt f (i : Int) nc
 obtain ⟨l, hll⟩ : ∃ l, lastN f (i : Int) nc = l := ⟨_, rfl⟩
 have HL : Hid (lastN f (i : Int) nc = l) := hll
 rw [hll] at hl
 clear h1 h2 g0 hX hpc hTL hG hll
 rcases on with _ | _
 · obtain ⟨W, hW⟩ : ∃ W, (w.alloc (.cells #[v0, v1, .slice (some ⟨p0, o0, none⟩) nt tc, v3, .slice ca nc cc, v5, v6, v7] 44)).alloc (.cells #[.slice a0 n0 c0, .int .i64 pc, .bool false, .slice a1 n1 c1, .slice a2 n2 c2] 107) = W := ⟨_, rfl⟩
   have hb1 : Below w.heap.size w (w.alloc (.cells #[v0, v1, .slice (some ⟨p0, o0, none⟩) nt tc, v3, .slice ca nc cc, v5, v6, v7] 44)) := (Below.refl _ w).alloc (Nat.le_refl _) _
   have hb0 : Below w.heap.size w W := by rw [← hW]; exact hb1.alloc (by simp) _
   have BM : Hid (Box W w.heap.size #[v0, v1, .slice (some ⟨p0, o0, none⟩) nt tc, v3, .slice ca nc cc, v5, v6, v7] 44) := by rw [← hW]; exact (box_of w _ _).alloc _
   have BT : Hid (Box W (w.heap.size + 1) #[.slice a0 n0 c0, .int .i64 pc, .bool false, .slice a1 n1 c1, .slice a2 n2 c2] 107) := by
     rw [← hW]
     have := box_of (w.alloc (.cells #[v0, v1, .slice (some ⟨p0, o0, none⟩) nt tc, v3, .slice ca nc cc, v5, v6, v7] 44)) #[.slice a0 n0 c0, .int .i64 pc, .bool false, .slice a1 n1 c1, .slice a2 n2 c2] 107
     rwa [World.size_alloc] at this
   have HB0 : Hid (Below w.heap.size w W) := hb0
   have HW : Hid ((w.alloc (.cells #[v0, v1, .slice (some ⟨p0, o0, none⟩) nt tc, v3, .slice ca nc cc, v5, v6, v7] 44)).alloc (.cells #[.slice a0 n0 c0, .int .i64 pc, .bool false, .slice a1 n1 c1, .slice a2 n2 c2] 107) = W) := hW
   clear hb0 hb1 hW
   go_enter Tryz.func66, Tryz.ntmps66
   go_wp2_with fail
   rw [HW.out]
   refine (specLast_any v0 v1 (.slice (some ⟨p0, o0, none⟩) nt tc) v3 v5 v6 v7 ca nc cc f (i : Int) W (H2.out.below HB0.out (Nat.le_refl _))).mono ?_
   rintro e w2 ⟨rfl, hb2⟩
   rw [HL.out]
   have HB2 : Hid (Below w.heap.size w w2) := HB0.out.trans (hb2.mono HB0.out.size)
   have BM2 : Hid (Box w2 w.heap.size #[v0, v1, .slice (some ⟨p0, o0, none⟩) nt tc, v3, .slice ca nc cc, v5, v6, v7] 44) := BM.out.below hb2 BM.out.lt
   have BT2 : Hid (Box w2 (w.heap.size + 1) #[.slice a0 n0 c0, .int .i64 pc, .bool false, .slice a1 n1 c1, .slice a2 n2 c2] 107) := BT.out.below hb2 BT.out.lt
   clear e0 e1 e2 e3 e4 hb2
   obtain ⟨z0, z1, z2, z3, z4, z5, z6, z7⟩ := eight_of BM2.out
   obtain ⟨y0, y1, y2, y3, y4⟩ := five_of BT2.out
   have L0 : w.heap.size < w2.heap.size := BM2.out.lt
   have L1 : w.heap.size + 1 < w2.heap.size := BT2.out.lt
   go_wp2
   go_loopw [7, 8] (fun q ix wr => ∃ k : Nat, k ≤ nc ∧ q = .int .i64 ((endN f (i : Int) k : Nat) : Int) ∧ ix = .int .i64 (k : Int) ∧ EndsUpto f (i : Int) false l k ∧ wr = w2) (fun _ ix _ => nc - (intOf ix).toNat)
   case atStart => exact ⟨0, Nat.zero_le _, rfl, rfl, (fun j h => by omega), rfl⟩
   case round =>
     obtain ⟨k, hk, rfl, rfl, hall, rfl⟩ := hrel
     have HALL : Hid (EndsUpto f (i : Int) false l k) := hall
     have hen := endN_le f (i : Int) k
     obtain ⟨s, hs'⟩ : ∃ s, endN f (i : Int) k = s := ⟨_, rfl⟩
     have HS : Hid (endN f (i : Int) k = s) := hs'
     rw [hs'] at hen ⊢
     clear hall hs'
     by_cases hlt : k < nc
     · have hk0 : (0 : Int) ≤ (k : Int) := by omega
       have hk1 : (k : Int) < (nc : Int) := by omega
       rcases (H2.out.below HB2.out (Nat.le_refl _)).2 with h0 | ⟨p1, o1, rfl, g1⟩
       · omega
       obtain ⟨ra, rn, rc, d0, _, _, _, _, _, d6, _, _⟩ := g1 k hlt
       obtain ⟨x0, hx0⟩ : ∃ x, (f k).t = x := ⟨_, rfl⟩
       obtain ⟨x6, hx6⟩ : ∃ x, (f k).en = x := ⟨_, rfl⟩
       have HX0 : Hid ((f k).t = x0) := hx0
       have HX6 : Hid ((f k).en = x6) := hx6
       rw [hx0] at d0
       rw [hx6] at d6
       clear g1 hx0 hx6
       by_cases hxt : x0 = (i : Int)
       case neg =>
         have hxt' : (x0 != (i : Int)) = true := by simpa using hxt
         have HSN : Hid (endN f (i : Int) (k + 1) = s) := by show _ = _; rw [endN_succ, HX0.out, if_neg (fun h => hxt h.1), HS.out]; rfl
         have HN : Hid (EndsUpto f (i : Int) false l (k + 1)) := HALL.out.next (fun h => absurd (HX0.out.symm.trans h) hxt)
         clear hxt
         go_wp2
         exact ⟨⟨k + 1, by omega, by rw [HSN.out], by go_num, HN.out, by first | trivial | rfl⟩, by simp [intOf]; omega⟩
       have hxt' : (x0 != (i : Int)) = false := by simp [hxt]
       by_cases hx6 : 0 ≤ x6
       · have hx6' : decide (0 ≤ x6) = true := decide_eq_true hx6
         have HSN : Hid (endN f (i : Int) (k + 1) = s + 1) := by show _ = _; rw [endN_succ, HX0.out, HX6.out, if_pos ⟨hxt, hx6⟩, HS.out]
         have HN : Hid (EndsUpto f (i : Int) false l (k + 1)) := HALL.out.next (fun _ => .inl (by rw [HX6.out]; exact hx6))
         clear hxt hx6
         go_wp2
         exact ⟨⟨k + 1, by omega, by rw [HSN.out]; go_num, by go_num, HN.out, by first | trivial | rfl⟩, by simp [intOf]; omega⟩
       have hx6' : decide (0 ≤ x6) = false := decide_eq_false hx6
       have HNO : Hid (¬ G) := fun hg => by
         rcases (HG.out.1 hg).ends k hlt (by rw [HX0.out]; exact hxt) with h | h
         · rw [HX6.out] at h; exact hx6 h
         · cases h.1
       clear hxt hx6
       go_wp2
       go_ret
       first | exact ⟨false, ⟨rfl, by simp [HNO.out]⟩, HB2.out⟩ | exact ⟨.inl ⟨rfl, HNO.out⟩, HB2.out⟩
     · obtain rfl : nc = k := by omega
       have HE : Hid (∀ i_1, i_1 < nc → (f i_1).t = (i : Int) → 0 ≤ (f i_1).en ∨ (false = true ∧ (i_1 : Int) = lastN f (i : Int) nc)) := by
         show ∀ i_1, _
         rw [HL.out]
         exact HALL.out
       by_cases hsp : (s : Int) = pc
       case neg =>
         have hsp' : ((s : Int) != pc) = true := by simpa using hsp
         have HNO : Hid (¬ G) := fun hg => hsp (by have := (HG.out.1 hg).pc; rw [HS.out] at this; exact this)
         clear hsp
         go_wp2
         go_ret
         first | exact ⟨false, ⟨rfl, by simp [HNO.out]⟩, HB2.out⟩ | exact ⟨.inl ⟨rfl, HNO.out⟩, HB2.out⟩
       have hsp' : ((s : Int) != pc) = false := by simp [hsp]
       have HSP : Hid ((endN f (i : Int) nc : Int) = pc) := by show _ = _; rw [HS.out]; exact hsp
       clear hsp
       have HYES : Hid G := HG.out.2 ⟨HE.out, HSP.out, fun h => by cases h⟩
       go_wp2
       go_quiet (fail)
       go_wp2
       go_ret
       exact ⟨true, ⟨rfl, by simp [HYES.out]⟩, below_drewN6 HB2.out nq⟩
 · obtain ⟨W, hW⟩ : ∃ W, (w.alloc (.cells #[v0, v1, .slice (some ⟨p0, o0, none⟩) nt tc, v3, .slice ca nc cc, v5, v6, v7] 44)).alloc (.cells #[.slice a0 n0 c0, .int .i64 pc, .bool true, .slice a1 n1 c1, .slice a2 n2 c2] 107) = W := ⟨_, rfl⟩
   have hb1 : Below w.heap.size w (w.alloc (.cells #[v0, v1, .slice (some ⟨p0, o0, none⟩) nt tc, v3, .slice ca nc cc, v5, v6, v7] 44)) := (Below.refl _ w).alloc (Nat.le_refl _) _
   have hb0 : Below w.heap.size w W := by rw [← hW]; exact hb1.alloc (by simp) _
   have BM : Hid (Box W w.heap.size #[v0, v1, .slice (some ⟨p0, o0, none⟩) nt tc, v3, .slice ca nc cc, v5, v6, v7] 44) := by rw [← hW]; exact (box_of w _ _).alloc _
   have BT : Hid (Box W (w.heap.size + 1) #[.slice a0 n0 c0, .int .i64 pc, .bool true, .slice a1 n1 c1, .slice a2 n2 c2] 107) := by
     rw [← hW]
     have := box_of (w.alloc (.cells #[v0, v1, .slice (some ⟨p0, o0, none⟩) nt tc, v3, .slice ca nc cc, v5, v6, v7] 44)) #[.slice a0 n0 c0, .int .i64 pc, .bool true, .slice a1 n1 c1, .slice a2 n2 c2] 107
     rwa [World.size_alloc] at this
   have HB0 : Hid (Below w.heap.size w W) := hb0
   have HW : Hid ((w.alloc (.cells #[v0, v1, .slice (some ⟨p0, o0, none⟩) nt tc, v3, .slice ca nc cc, v5, v6, v7] 44)).alloc (.cells #[.slice a0 n0 c0, .int .i64 pc, .bool true, .slice a1 n1 c1, .slice a2 n2 c2] 107) = W) := hW
   clear hb0 hb1 hW
   go_enter Tryz.func66, Tryz.ntmps66
   go_wp2_with fail
   rw [HW.out]
   refine (specLast_any v0 v1 (.slice (some ⟨p0, o0, none⟩) nt tc) v3 v5 v6 v7 ca nc cc f (i : Int) W (H2.out.below HB0.out (Nat.le_refl _))).mono ?_
   rintro e w2 ⟨rfl, hb2⟩
   rw [HL.out]
   have HB2 : Hid (Below w.heap.size w w2) := HB0.out.trans (hb2.mono HB0.out.size)
   have BM2 : Hid (Box w2 w.heap.size #[v0, v1, .slice (some ⟨p0, o0, none⟩) nt tc, v3, .slice ca nc cc, v5, v6, v7] 44) := BM.out.below hb2 BM.out.lt
   have BT2 : Hid (Box w2 (w.heap.size + 1) #[.slice a0 n0 c0, .int .i64 pc, .bool true, .slice a1 n1 c1, .slice a2 n2 c2] 107) := BT.out.below hb2 BT.out.lt
   clear e0 e1 e2 e3 e4 hb2
   obtain ⟨z0, z1, z2, z3, z4, z5, z6, z7⟩ := eight_of BM2.out
   obtain ⟨y0, y1, y2, y3, y4⟩ := five_of BT2.out
   have L0 : w.heap.size < w2.heap.size := BM2.out.lt
   have L1 : w.heap.size + 1 < w2.heap.size := BT2.out.lt
   go_wp2
   go_loopw [7, 8] (fun q ix wr => ∃ k : Nat, k ≤ nc ∧ q = .int .i64 ((endN f (i : Int) k : Nat) : Int) ∧ ix = .int .i64 (k : Int) ∧ EndsUpto f (i : Int) true l k ∧ wr = w2) (fun _ ix _ => nc - (intOf ix).toNat)
   case atStart => exact ⟨0, Nat.zero_le _, rfl, rfl, (fun j h => by omega), rfl⟩
   case round =>
     obtain ⟨k, hk, rfl, rfl, hall, rfl⟩ := hrel
     have HALL : Hid (EndsUpto f (i : Int) true l k) := hall
     have hen := endN_le f (i : Int) k
     obtain ⟨s, hs'⟩ : ∃ s, endN f (i : Int) k = s := ⟨_, rfl⟩
     have HS : Hid (endN f (i : Int) k = s) := hs'
     rw [hs'] at hen ⊢
     clear hall hs'
     by_cases hlt : k < nc
     · have hk0 : (0 : Int) ≤ (k : Int) := by omega
       have hk1 : (k : Int) < (nc : Int) := by omega
       rcases (H2.out.below HB2.out (Nat.le_refl _)).2 with h0 | ⟨p1, o1, rfl, g1⟩
       · omega
       obtain ⟨ra, rn, rc, d0, _, _, _, _, _, d6, _, _⟩ := g1 k hlt
       obtain ⟨x0, hx0⟩ : ∃ x, (f k).t = x := ⟨_, rfl⟩
       obtain ⟨x6, hx6⟩ : ∃ x, (f k).en = x := ⟨_, rfl⟩
       have HX0 : Hid ((f k).t = x0) := hx0
       have HX6 : Hid ((f k).en = x6) := hx6
       rw [hx0] at d0
       rw [hx6] at d6
       clear g1 hx0 hx6
       by_cases hxt : x0 = (i : Int)
       case neg =>
         have hxt' : (x0 != (i : Int)) = true := by simpa using hxt
         have HSN : Hid (endN f (i : Int) (k + 1) = s) := by show _ = _; rw [endN_succ, HX0.out, if_neg (fun h => hxt h.1), HS.out]; rfl
         have HN : Hid (EndsUpto f (i : Int) true l (k + 1)) := HALL.out.next (fun h => absurd (HX0.out.symm.trans h) hxt)
         clear hxt
         go_wp2
         exact ⟨⟨k + 1, by omega, by rw [HSN.out], by go_num, HN.out, by first | trivial | rfl⟩, by simp [intOf]; omega⟩
       have hxt' : (x0 != (i : Int)) = false := by simp [hxt]
       by_cases hx6 : 0 ≤ x6
       · have hx6' : decide (0 ≤ x6) = true := decide_eq_true hx6
         have HSN : Hid (endN f (i : Int) (k + 1) = s + 1) := by show _ = _; rw [endN_succ, HX0.out, HX6.out, if_pos ⟨hxt, hx6⟩, HS.out]
         have HN : Hid (EndsUpto f (i : Int) true l (k + 1)) := HALL.out.next (fun _ => .inl (by rw [HX6.out]; exact hx6))
         clear hxt hx6
         go_wp2
         exact ⟨⟨k + 1, by omega, by rw [HSN.out]; go_num, by go_num, HN.out, by first | trivial | rfl⟩, by simp [intOf]; omega⟩
       have hx6' : decide (0 ≤ x6) = false := decide_eq_false hx6
       by_cases hkl : (k : Int) = l
       case neg =>
         have hkl' : ((k : Int) != l) = true := by simpa using hkl
         have HNO : Hid (¬ G) := fun hg => by
           rcases (HG.out.1 hg).ends k hlt (by rw [HX0.out]; exact hxt) with h | h
           · rw [HX6.out] at h; exact hx6 h
           · exact hkl (h.2.trans HL.out)
         clear hxt hx6
         go_wp2
         go_ret
         first | exact ⟨false, ⟨rfl, by simp [HNO.out]⟩, HB2.out⟩ | exact ⟨.inl ⟨rfl, HNO.out⟩, HB2.out⟩
       have hkl' : ((k : Int) != l) = false := by simp [hkl]
       have HSN : Hid (endN f (i : Int) (k + 1) = s) := by show _ = _; rw [endN_succ, HX6.out, if_neg (fun h => hx6 h.2), HS.out]; rfl
       have HN : Hid (EndsUpto f (i : Int) true l (k + 1)) := HALL.out.next (fun _ => .inr ⟨rfl, hkl⟩)
       clear hxt hx6 hkl
       go_wp2
       exact ⟨⟨k + 1, by omega, by rw [HSN.out], by go_num, HN.out, by first | trivial | rfl⟩, by simp [intOf]; omega⟩
     · obtain rfl : nc = k := by omega
       have HE : Hid (∀ i_1, i_1 < nc → (f i_1).t = (i : Int) → 0 ≤ (f i_1).en ∨ (true = true ∧ (i_1 : Int) = lastN f (i : Int) nc)) := by
         show ∀ i_1, _
         rw [HL.out]
         exact HALL.out
       by_cases hsp : (s : Int) = pc
       case neg =>
         have hsp' : ((s : Int) != pc) = true := by simpa using hsp
         have HNO : Hid (¬ G) := fun hg => hsp (by have := (HG.out.1 hg).pc; rw [HS.out] at this; exact this)
         clear hsp
         go_wp2
         go_ret
         first | exact ⟨false, ⟨rfl, by simp [HNO.out]⟩, HB2.out⟩ | exact ⟨.inl ⟨rfl, HNO.out⟩, HB2.out⟩
       have hsp' : ((s : Int) != pc) = false := by simp [hsp]
       have HSP : Hid ((endN f (i : Int) nc : Int) = pc) := by show _ = _; rw [HS.out]; exact hsp
       clear hsp
       obtain ⟨hp0, hp1⟩ := HPC.out (by first | rfl | trivial)
       obtain ⟨pn, rfl⟩ : ∃ m : Nat, pc = (m : Int) := ⟨pc.toNat, by omega⟩
       by_cases hl0 : 0 ≤ l
       case neg =>
         have hl' : decide (0 ≤ l) = false := decide_eq_false hl0
         have HNO : Hid (¬ G) := fun hg => hl0 (by have := ((HG.out.1 hg).last rfl).1; rw [HL.out] at this; exact this)
         clear hl0
         go_wp2
         go_quiet (fail)
         go_wp2
         go_ret
         first | exact ⟨false, ⟨rfl, by simp [HNO.out]⟩, below_drewN6 HB2.out nq⟩ | exact ⟨.inl ⟨rfl, HNO.out⟩, below_drewN6 HB2.out nq⟩
       obtain ⟨m, rfl⟩ : ∃ m : Nat, l = (m : Int) := ⟨l.toNat, by omega⟩
       have hl' : decide ((0 : Int) ≤ (m : Int)) = true := decide_eq_true hl0
       have hm1 : (m : Int) < (nc : Int) := hl.2
       rcases (H2.out.below HB2.out (Nat.le_refl _)).2 with h0 | ⟨p1, o1, rfl, g1⟩
       · omega
       obtain ⟨ra, rn, rc, _, d1, d2, d3, _, _, d6, _, _⟩ := g1 m (by omega)
       rcases (HOPS.out.below HB2.out (Nat.le_refl _)).2.2 with h0 | ⟨p3, o3, rfl, g3⟩
       · omega
       have c1 := g3 (pn * 3) (by omega)
       have c2 := g3 (pn * 3 + 1) (by omega)
       have c3 := g3 (pn * 3 + 2) (by omega)
       obtain ⟨x1, hx1⟩ : ∃ x, (f m).kd = x := ⟨_, rfl⟩
       obtain ⟨x2, hx2⟩ : ∃ x, (f m).k = x := ⟨_, rfl⟩
       obtain ⟨x3, hx3⟩ : ∃ x, (f m).v = x := ⟨_, rfl⟩
       obtain ⟨x6, hx6⟩ : ∃ x, (f m).en = x := ⟨_, rfl⟩
       obtain ⟨u1, hu1⟩ : ∃ x, fs.getD (pn * 3) 0 = x := ⟨_, rfl⟩
       obtain ⟨u2, hu2⟩ : ∃ x, fs.getD (pn * 3 + 1) 0 = x := ⟨_, rfl⟩
       obtain ⟨u3, hu3⟩ : ∃ x, fs.getD (pn * 3 + 2) 0 = x := ⟨_, rfl⟩
       have HLAST : Hid (∀ b1 b2 : Prop, ((f (lastN f (i : Int) nc).toNat).en = -1 ↔ b1) → (((f (lastN f (i : Int) nc).toNat).kd = fs.getD ((pn : Int).toNat * 3) 0 ∧ (f (lastN f (i : Int) nc).toNat).k = fs.getD ((pn : Int).toNat * 3 + 1) 0 ∧ (f (lastN f (i : Int) nc).toNat).v = fs.getD ((pn : Int).toNat * 3 + 2) 0) ↔ b2) → (G ↔ b1 ∧ b2)) := fun b1 b2 h1 h2 =>
         ⟨fun hg => ⟨h1.1 ((HG.out.1 hg).last rfl).2.1, h2.1 ((HG.out.1 hg).last rfl).2.2⟩, fun hg => HG.out.2 ⟨HE.out, HSP.out, fun _ => ⟨by rw [HL.out]; exact hl0, h1.2 hg.1, h2.2 hg.2⟩⟩⟩
       have HGG : Hid (G ↔ (x6 = -1 ∧ (x1 = u1 ∧ x2 = u2 ∧ x3 = u3))) := HLAST.out _ _ (by rw [HL.out, Int.toNat_natCast, hx6]) (by rw [HL.out, Int.toNat_natCast, Int.toNat_natCast, hx1, hx2, hx3, hu1, hu2, hu3])
       rw [hx1] at d1
       rw [hx2] at d2
       rw [hx3] at d3
       rw [hx6] at d6
       rw [hu1] at c1
       rw [hu2, ← Nat.add_assoc] at c2
       rw [hu3, ← Nat.add_assoc] at c3
       clear g1 g3 hx1 hx2 hx3 hx6 hu1 hu2 hu3 HLAST HE
       by_cases h6 : x6 = -1
       case neg =>
         have h6' : (x6 == -1) = false := by simpa using h6
         have HNO : Hid (¬ G) := fun hg => h6 (HGG.out.1 hg).1
         clear h6 HGG
         go_wp2
         go_quiet (fail)
         go_wp2
         go_ret
         first | exact ⟨false, ⟨rfl, by simp [HNO.out]⟩, below_drewN6 HB2.out nq⟩ | exact ⟨.inl ⟨rfl, HNO.out⟩, below_drewN6 HB2.out nq⟩
       have h6' : (x6 == -1) = true := by simp [h6]
       by_cases hop : x1 = u1 ∧ x2 = u2 ∧ x3 = u3
       · have HYES : Hid G := HGG.out.2 ⟨h6, hop⟩
         have hq := fun w => eql_op x1 x2 x3 u1 u2 u3 w true (ops_eq hop)
         clear hop h6 HGG
         go_wp2
         go_quiet (fail)
         go_wp2
         go_ret
         exact ⟨true, ⟨rfl, by simp [HYES.out]⟩, below_drewN6 HB2.out nq⟩
       · have HNO : Hid (¬ G) := fun hg => hop (HGG.out.1 hg).2
         have hq := fun w => eql_op x1 x2 x3 u1 u2 u3 w false (ops_ne hop)
         clear hop h6 HGG
         go_wp2
         go_quiet (fail)
         go_wp2
         go_ret
         first | exact ⟨false, ⟨rfl, by simp [HNO.out]⟩, below_drewN6 HB2.out nq⟩ | exact ⟨.inl ⟨rfl, HNO.out⟩, below_drewN6 HB2.out nq⟩
end
end Go.Proofs.YtlkdjeneggfhgaaGreatDoor
