/- Texts joined: DatO, MchC, MchB, ImplHow, AfterOk, Jud. -/
import Derived.Test.YtbfolanfbagofaaGreatDoorQA20
import Derived.Deep.Slices
import Derived.Test.YtbfolanfbagofaaGreatDoorQA13
import Derived.Test.YtbfolanfbagofaaGreatDoorQA11
import Derived.Test.YtbfolanfbagofaaGreatDoorQA02
import Derived.Test.YtbfolanfbagofaaGreatDoorQA16
set_option maxHeartbeats 1000000
set_option maxRecDepth 100000
namespace Go.Proofs.YtbfolanfbagofaaGreatDoor
section
open Go.ChangeShapes Go.WideShapes Go.ChangeAt Go.RowKit Go.Joins
inductive Flat (P : Program) : TypeId → List Ty → Prop
 | i (t : TypeId) (h : P.underlying t = some (.int .i64)) : Flat P t [.i]
 | b (t : TypeId) (h : P.underlying t = some .bool) : Flat P t [.b]
 | s (t : TypeId) (h : P.underlying t = some .string) : Flat P t [.s]
 | l (t e T : TypeId) (k : Nat) (fs : List Ty) (h : P.underlying t = some (.slice e)) (hk : fs.length = k) (hk0 : 0 < k) (hc : P.cellsOf e = k) (hf : Flat P e fs) : Flat P t [.l T k fs]
 | st (t : TypeId) (Fs : Array Field) (gs : List (List Ty)) (h : P.underlying t = some (.struct Fs)) (hl : gs.length = Fs.size) (hc : P.cellsOf t = gs.flatten.length)
     (ho : ∀ (i : Nat) (f : Field) (g : List Ty), Fs[i]? = some f → gs[i]? = some g → f.offset = (gs.take i).flatten.length ∧ P.cellsOf f.type = g.length) (hf : ∀ (i : Nat) (f : Field) (g : List Ty), Fs[i]? = some f → gs[i]? = some g → Flat P f.type g) : Flat P t gs.flatten
theorem InL.app {w : World} : ∀ {vs : List Value} {cs : List Cel} {vs' : List Value} {cs' : List Cel}, InL w vs cs → InL w vs' cs' → InL w (vs ++ vs') (cs ++ cs')
 | vs, [], _, _, h, h' => by obtain rfl := h.nilE; exact h'
 | vs, c :: cs, _, _, h, h' => by
   obtain ⟨v, vs, rfl, h0, h1⟩ := h.consE
   exact InL.cons h0 (InL.app h1 h')
theorem HasL.mk {c : Cel} {t : Ty} {cs : List Cel} {fs : List Ty} (h : Has c t) (hs : HasL cs fs) : HasL (c :: cs) (t :: fs) := by
 refine ⟨by simp [hs.1], fun j c' t' hc ht => ?_⟩
 cases j with
 | zero => simp at hc ht; subst hc ht; exact h
 | succ j => simp at hc ht; exact hs.2 j c' t' hc ht
theorem HasL.none : HasL [] [] := ⟨rfl, fun j c t hc _ => by simp at hc⟩
theorem HasL.app : ∀ {cs : List Cel} {fs : List Ty} {cs' : List Cel} {fs' : List Ty}, HasL cs fs → HasL cs' fs' → HasL (cs ++ cs') (fs ++ fs')
 | cs, [], _, _, h, h' => by obtain rfl := h.nil; exact h'
 | cs, t :: fs, _, _, h, h' => by
   obtain ⟨c, cs, rfl, h0, h1⟩ := h.cons
   exact HasL.mk h0 (HasL.app h1 h')
inductive WfC : Cel → Prop
 | i (x : Int) (h : (Lit.int .i64 x).wf = true) : WfC (.i x)
 | b (x : Bool) : WfC (.b x)
 | s (x : ByteArray) : WfC (.s x)
 | l (T : TypeId) (k n : Nat) (cs : List Cel) (h : ∀ (j : Nat) (c : Cel), cs[j]? = some c → WfC c) : WfC (.l T k n cs)
def WfL (ds : List Cel) : Prop := ∀ (j : Nat) (c : Cel), ds[j]? = some c → WfC c
theorem WfL.nil : WfL [] := fun j c h => by simp at h
theorem WfL.cons {c : Cel} {ds : List Cel} (h : WfC c) (hs : WfL ds) : WfL (c :: ds) := fun j d hd => by
 cases j with
 | zero => simp at hd; subst hd; exact h
 | succ j => exact hs j d (by simpa using hd)
theorem WfL.app {ds es : List Cel} (h : WfL ds) (h' : WfL es) : WfL (ds ++ es) := fun j c hc => by
 by_cases hj : j < ds.length
 · rw [List.getElem?_append_left hj] at hc; exact h j c hc
 · rw [List.getElem?_append_right (by omega)] at hc; exact h' _ c hc
theorem parts_in {W : World} : ∀ (gs : List (List Ty)) (cs : List Value), cs.length = gs.flatten.length → (∀ (i : Nat) (g : List Ty), gs[i]? = some g → ∃ d, InL W ((cs.drop (gs.take i).flatten.length).take g.length) d ∧ HasL d g ∧ WfL d) → ∃ ds, InL W cs ds ∧ HasL ds gs.flatten ∧ WfL ds
 | [], cs, hl, _ => by
   obtain rfl : cs = [] := List.length_eq_zero_iff.1 (by simpa using hl)
   exact ⟨[], InL.nil, HasL.none, WfL.nil⟩
 | g :: gs, cs, hl, h => by
   simp only [List.flatten_cons, List.length_append] at hl
   obtain ⟨d, h1, h2, h3⟩ := h 0 g rfl
   obtain ⟨ds, g1, g2, g3⟩ := parts_in gs (cs.drop g.length) (by rw [List.length_drop]; omega) (fun i g' hg => by
     have := h (i + 1) g' (by simpa using hg)
     simpa [List.drop_drop] using this)
   refine ⟨d ++ ds, ?_, ?_, h3.app g3⟩
   · have := InL.app h1 g1
     simpa using this
   · simpa using HasL.app h2 g2
theorem flat_len {α : Type} {f : Nat → List α} {k : Nat} : ∀ (n : Nat), (∀ i, i < n → (f i).length = k) → ((List.range n).flatMap f).length = n * k
 | 0, _ => by simp
 | n + 1, h => by
   rw [List.range_succ, List.flatMap_append, List.length_append, flat_len n (fun i hi => h i (by omega))]
   simp [h n (by omega), Nat.succ_mul]
theorem flat_at {α : Type} {f : Nat → List α} {k : Nat} : ∀ (n : Nat), (∀ i, i < n → (f i).length = k) → ∀ i r, i < n → r < k → ((List.range n).flatMap f)[i * k + r]? = (f i)[r]?
 | 0, _, i, _, hi, _ => by omega
 | n + 1, h, i, r, hi, hr => by
   have hl := flat_len n (fun i hi => h i (by omega)) (f := f)
   rw [List.range_succ, List.flatMap_append]
   by_cases hin : i < n
   · have hle : i * k + k ≤ n * k := by rw [← Nat.succ_mul]; exact Nat.mul_le_mul_right k hin
     rw [List.getElem?_append_left (by omega)]
     exact flat_at n (fun i hi => h i (by omega)) i r hin hr
   · obtain rfl : i = n := by omega
     rw [List.getElem?_append_right (by omega), hl, Nat.add_sub_cancel_left]
     simp
theorem spot_none {w : World} {a : Addr} {v : Value} (h : w.cell? a = some v) : a.spot = none := by
 unfold World.cell? at h
 split at h
 · split at h
   · cases h
   · rename_i hs
     cases e : a.spot with
     | none => rfl
     | some x => rw [e] at hs; exact absurd rfl hs
 · cases h
theorem open_flat {H : Type} {enc : TypeId × Value → H} {P : Program} {W : World} {base : Nat} {held : Bool} {t : TypeId} {fs : List Ty} (hf : Flat P t fs) : ∀ {fuel : Nat} {cs : List Value} {x : DataW H × List MemPlace}, DataW.trod enc P W base (fun _ => true) held fuel t cs = some x → ∃ ds, InL W cs ds ∧ HasL ds fs ∧ WfL ds := by
 induction hf with
 | i t h =>
   intro fuel cs x hx
   obtain ⟨z, rfl, _, hz⟩ := DataW.trod_int h hx
   exact ⟨[.i z], InL.cons (.i z) InL.nil, HasL.mk (.i z) HasL.none, WfL.cons (.i z hz) WfL.nil⟩
 | b t h =>
   intro fuel cs x hx
   obtain ⟨z, rfl, _⟩ := DataW.trod_bool h hx
   exact ⟨[.b z], InL.cons (.b z) InL.nil, HasL.mk (.b z) HasL.none, WfL.cons (.b z) WfL.nil⟩
 | s t h =>
   intro fuel cs x hx
   obtain ⟨z, rfl, _, _⟩ := DataW.trod_string h hx
   exact ⟨[.s z], InL.cons (.s z) InL.nil, HasL.mk (.s z) HasL.none, WfL.cons (.s z) WfL.nil⟩
 | l t e T k fs h hk hk0 hc hf ih =>
   intro fuel cs x hx
   rcases Go.Deep.open_slice h hx with ⟨rfl, _⟩ | ⟨a, len, cap, m, fu, D, Pl, rfl, hb, hl, hm, hmm, _, hx⟩
   · exact ⟨[.l T k 0 []], InL.cons (.l none T k 0 0 [] [] (by simp) (by simp) (by omega) (.inl rfl) (fun j v c hv _ => by simp at hv)) InL.nil, HasL.mk (.l T k 0 [] fs hk (by simp) (fun j c t hc _ => by simp at hc)) HasL.none, WfL.cons (.l T k 0 [] (fun j c h => by simp at h)) WfL.nil⟩
   · have hlm : len ≤ m := by rw [hmm]; split <;> omega
     have each : ∀ i, i < len → ∃ z : List Value × List Cel, z.1.length = k ∧ (∀ r, r < k → W.cell? (a.add (i * k + r)) = z.1[r]?) ∧ InL W z.1 z.2 ∧ HasL z.2 fs ∧ WfL z.2 := by
       intro i hi
       obtain ⟨cs', h1, h2⟩ := hx i (by omega)
       rw [hc] at h1
       obtain ⟨_, hlen, hcell⟩ := World.cells?_some h1
       obtain ⟨ds, g1, g2, g3⟩ := ih h2
       refine ⟨(cs', ds), hlen, fun r hr => ?_, g1, g2, g3⟩
       have := hcell r (by omega)
       rw [Go.Deep.add_add] at this
       rw [this, List.getElem?_eq_getElem (by omega)]
     obtain ⟨z, hz⟩ := Go.Deep.choose_lt each
     have l1 : ∀ i, i < len → (z i).1.length = k := fun i hi => (hz i hi).1
     have l2 : ∀ i, i < len → (z i).2.length = k := fun i hi => by rw [(hz i hi).2.2.2.1.1, hk]
     refine ⟨[.l T k len ((List.range len).flatMap fun i => (z i).2)], InL.cons (.l (some a) T k len cap _ ((List.range len).flatMap fun i => (z i).1) (flat_len len l1) (flat_len len l2) (by unfold maxLen at hm; omega) ?_ (fun j v c hv hc => ?_)) InL.nil, HasL.mk (.l T k len _ fs hk (flat_len len l2) (fun j c t hc ht => ?_)) HasL.none, WfL.cons (.l T k len _ (fun j c hc => ?_)) WfL.nil⟩
     · by_cases h0 : len = 0
       · exact .inl h0
       · have hc0 := (hz 0 (by omega)).2.1 0 (by omega)
         rw [List.getElem?_eq_getElem (by rw [l1 0 (by omega)]; omega)] at hc0
         have hs := spot_none hc0
         obtain ⟨bl, off, sp⟩ := a
         have hs : sp = none := by simpa [Addr.add] using hs
         subst hs
         refine .inr ⟨bl, off, rfl, fun j hj => ?_⟩
         have hjd : j = (j / k) * k + j % k := by rw [Nat.mul_comm]; exact (Nat.div_add_mod j k).symm
         have hd : j / k < len := Nat.div_lt_of_lt_mul (by rwa [Nat.mul_comm])
         have hm' : j % k < k := Nat.mod_lt _ (by omega)
         have := (hz (j / k) hd).2.1 (j % k) hm'
         rw [← hjd] at this
         rw [show (⟨bl, off, none⟩ : Addr).add j = ⟨bl, off + j, none⟩ by simp [Addr.add]] at this
         rw [this]
         conv => rhs; rw [hjd]
         exact (flat_at len l1 _ _ hd hm').symm
     · have hj : j < len * k := by have := (List.getElem?_eq_some_iff.1 hv).1; rwa [flat_len len l1] at this
       have hjd : j = (j / k) * k + j % k := by rw [Nat.mul_comm]; exact (Nat.div_add_mod j k).symm
       have hd : j / k < len := Nat.div_lt_of_lt_mul (by rwa [Nat.mul_comm])
       have hm' : j % k < k := Nat.mod_lt _ hk0
       rw [hjd, flat_at len l1 _ _ hd hm'] at hv
       rw [hjd, flat_at len l2 _ _ hd hm'] at hc
       exact (hz (j / k) hd).2.2.1.2 _ v c hv hc
     · have hj : j < len * k := by have := (List.getElem?_eq_some_iff.1 hc).1; rwa [flat_len len l2] at this
       have hjd : j = (j / k) * k + j % k := by rw [Nat.mul_comm]; exact (Nat.div_add_mod j k).symm
       have hd : j / k < len := Nat.div_lt_of_lt_mul (by rwa [Nat.mul_comm])
       have hm' : j % k < k := Nat.mod_lt _ hk0
       rw [hjd, flat_at len l2 _ _ hd hm'] at hc
       exact (hz (j / k) hd).2.2.2.1.2 _ c t hc ht
     · have hj : j < len * k := by have := (List.getElem?_eq_some_iff.1 hc).1; rwa [flat_len len l2] at this
       have hjd : j = (j / k) * k + j % k := by rw [Nat.mul_comm]; exact (Nat.div_add_mod j k).symm
       have hd : j / k < len := Nat.div_lt_of_lt_mul (by rwa [Nat.mul_comm])
       have hm' : j % k < k := Nat.mod_lt _ hk0
       rw [hjd, flat_at len l2 _ _ hd hm'] at hc
       exact (hz (j / k) hd).2.2.2.2 _ c hc
 | st t Fs gs h hl hc ho hf ih =>
   intro fuel cs x hx
   obtain ⟨xs, n, _, _, hlen, hxl, hxf⟩ := DataW.trod_struct h hx
   refine parts_in gs cs (by omega) fun i g hg => ?_
   have hi : i < Fs.size := by have := (List.getElem?_eq_some_iff.1 hg).1; omega
   have hF : Fs[i]? = some Fs[i] := Array.getElem?_eq_getElem hi
   have h1 := hxf i _ hF
   rw [(ho i _ g hF hg).1, (ho i _ g hF hg).2, List.getElem?_eq_getElem (by omega)] at h1
   exact ih i _ g hF hg h1
theorem open_st {H : Type} {enc : TypeId × Value → H} {P : Program} {W : World} {base b0 : Nat} {held : Bool} {t : TypeId} {Fs : Array Field} {fs : List Ty} {v : Value} {d : DataW H} {p : List MemPlace} (hu : P.underlying t = some (.struct Fs)) (hf : Flat P t fs)
   (hv : Value.okWide P W .any b0 t v) (h : DataW.Trod enc P W base (fun _ => true) held t v d p) : ∃ vs ds, v = .agg vs.toArray ∧ InL W vs ds ∧ HasL ds fs ∧ WfL ds := by
 obtain ⟨cs, rfl, _⟩ := okWide_struct hu hv
 obtain ⟨fuel, hx⟩ := h
 obtain ⟨ds, h1, h2, h3⟩ := open_flat hf hx
 exact ⟨cs.toList, ds, by simp, by simpa [Value.cells] using h1, h2, h3⟩
def numC : Cel → Int
 | .i x => x
 | _ => 0
def boolC : Cel → Bool
 | .b x => x
 | _ => false
def lenC : Cel → Nat
 | .l _ _ n _ => n
 | _ => 0
def listC : Cel → List Cel
 | .l _ _ _ cs => cs
 | _ => []
def nums (cs : List Cel) : List Int := cs.map numC
def nthC (cs : List Cel) (i : Nat) : Cel := cs.getD i (.i 0)
def thD (r : List Cel) : ThD := ⟨lenC (nthC r 0), nums (listC (nthC r 0)), numC (nthC r 1), boolC (nthC r 2), lenC (nthC r 3), nums (listC (nthC r 3)), lenC (nthC r 4), nums (listC (nthC r 4))⟩
def caD (r : List Cel) : CaD := ⟨numC (nthC r 0), numC (nthC r 1), numC (nthC r 2), numC (nthC r 3), numC (nthC r 4), numC (nthC r 5), numC (nthC r 6), numC (nthC r 7)⟩
def dkD (r : List Cel) : DK := ⟨numC (nthC r 0), numC (nthC r 1), lenC (nthC r 2), nums (listC (nthC r 2)), numC (nthC r 3), lenC (nthC r 4), nums (listC (nthC r 4))⟩
def maD (cs : List Cel) : MaD where
 nw := lenC (nthC cs 0)
 ws := nums (listC (nthC cs 0))
 nd := lenC (nthC cs 1)
 ds := (List.range (lenC (nthC cs 1))).map fun i => dkD (row (listC (nthC cs 1)) 5 i)
 nt := lenC (nthC cs 2)
 ts := fun i => thD (row (listC (nthC cs 2)) 5 i)
 tm := numC (nthC cs 3)
 nc := lenC (nthC cs 4)
 f := fun i => caD (row (listC (nthC cs 4)) 9 i)
 no := lenC (nthC cs 5)
 os := nums (listC (nthC cs 5))
 nh := lenC (nthC cs 6)
 hs := nums (listC (nthC cs 6))
 st := numC (nthC cs 7)
def Ty.isI : Ty → Bool
 | .i => true
 | _ => false
theorem at_kAt {q : Bool} {w : World} {a : Option Addr} {n c k : Nat} {T : TypeId} {cs : List Cel} {fs : List Ty} (h : At q w (.slice a n c) (.l T k n cs)) (hs : Has (.l T k n cs) (.l T k fs)) (hf : ∀ t ∈ fs, t = .i) : KAt k w a n (nums cs) := by
 obtain ⟨a', c', vs, e, h1, h2, hn, -, h3, h4⟩ := h.openL
 cases e
 refine ⟨by unfold nums; rw [List.length_map]; exact h2, hn, ?_⟩
 rcases h3 with h0 | ⟨b, o, rfl, hc⟩
 · exact .inl h0
 · refine .inr ⟨b, o, rfl, fun j hj => ?_⟩
   rw [hc j hj]
   have hv : vs[j]? = some (vs[j]'(by omega)) := List.getElem?_eq_getElem (by omega)
   have hcj : cs[j]? = some (cs[j]'(by omega)) := List.getElem?_eq_getElem (by omega)
   have hat := h4 j _ _ hv hcj
   have hx : ∃ x, cs[j]'(by omega) = .i x := by
     cases hs with
     | l _ _ _ _ _ hk hl hh =>
       have hk0 : 0 < k := Nat.pos_of_ne_zero fun e => by rw [e] at hj; simp at hj
       have hm : j % k < fs.length := by rw [hk]; exact Nat.mod_lt _ hk0
       have ht := hh j _ _ hcj (List.getElem?_eq_getElem hm)
       rw [hf _ (List.getElem_mem hm)] at ht
       exact ht.int
   obtain ⟨x, hx⟩ := hx
   rw [hx] at hat
   rw [hv, hat.int]
   have : (nums cs).getD j 0 = x := by
     unfold nums
     have hjc : j < cs.length := by omega
     simp [List.getD, hjc, hx, numC]
   rw [this]
theorem KAt.trip {w : World} {a : Option Addr} {n : Nat} {fs : List Int} (h : KAt 3 w a n fs) (hn : n ≤ 1048576) : TripAt w a n fs := ⟨h.1, hn, h.2.2⟩
theorem KAt.ints {w : World} {a : Option Addr} {n : Nat} {fs : List Int} (h : KAt 1 w a n fs) : IntAt w a n fs := by
 refine ⟨by have := h.1; omega, by have := h.2.1; omega, ?_⟩
 rcases h.2.2 with h0 | ⟨b, o, h1, h2⟩
 · exact .inl h0
 · exact .inr ⟨b, o, h1, fun i hi => h2 i (by omega)⟩
theorem at_rows {q : Bool} {w : World} {a : Option Addr} {n c k : Nat} {T : TypeId} {cs : List Cel} (h : At q w (.slice a n c) (.l T k n cs)) : n = 0 ∨ ∃ b o, a = some ⟨b, o, none⟩ ∧ ∀ i, i < n → ∃ us, AtL q w us (row cs k i) ∧ ∀ r, r < k → w.cell? ⟨b, o + i * k + r, none⟩ = us[r]? := by
 obtain ⟨a', c', vs, e, h1, h2, hn, -, h3, h4⟩ := h.openL
 cases e
 rcases h3 with h0 | ⟨b, o, rfl, hc⟩
 · exact .inl h0
 · refine .inr ⟨b, o, rfl, fun i hi => ⟨_, rowVals h1 h2 h4 hi, fun r hr => ?_⟩⟩
   have hle : i * k + k ≤ n * k := by rw [← Nat.succ_mul]; exact Nat.mul_le_mul_right k hi
   rw [List.getElem?_take_of_lt hr, List.getElem?_drop, Nat.add_assoc, hc (i * k + r) (by omega)]
theorem big_len {T : TypeId} {k n : Nat} {cs : List Cel} : n ≤ (Cel.l T k n cs).big := by simp only [Cel.big]; omega
theorem row_mem_big {cs : List Cel} {k n i : Nat} (hl : cs.length = n * k) (hi : i < n) {j : Nat} {c : Cel} (h : (row cs k i)[j]? = some c) : c.big ≤ bigL cs := by
 have hj : j < k := by have := (List.getElem?_eq_some_iff.1 h).1; rw [rowL_len hl hi] at this; exact this
 rw [row_at hj] at h
 exact big_mem h
theorem at_cap {w : World} {a : Option Addr} {n c k : Nat} {T : TypeId} {cs : List Cel} (h : At true w (.slice a n c) (.l T k n cs)) : n ≤ c := by
 obtain ⟨a', c', vs, e, h1, h2, hn, hq, h3, h4⟩ := h.openL
 cases e
 exact (hq rfl).2
theorem int_all {fs : List Ty} (h : fs.all Ty.isI = true) : ∀ t ∈ fs, t = .i := fun t ht => by
 have := (List.all_eq_true.1 h) t ht
 cases t <;> simp [Ty.isI] at this ⊢
theorem i1 : ∀ t ∈ ([.i] : List Ty), t = .i := int_all rfl
theorem iOp : ∀ t ∈ tyOp, t = .i := int_all rfl
theorem iPair : ∀ t ∈ tyPair, t = .i := int_all rfl
theorem iHelp : ∀ t ∈ tyHelp, t = .i := int_all rfl
theorem iEntry : ∀ t ∈ tyEntry, t = .i := int_all rfl
theorem iWord : ∀ t ∈ tyWord, t = .i := int_all rfl
theorem at_thread {w : World} {b p : Nat} {us : List Value} {r : List Cel} (h : AtL true w us r) (hs : HasL r tyThread) (hc : ∀ i, i < 5 → w.cell? ⟨b, p + i, none⟩ = us[i]?) :
   ∃ a0 c0 a1 c1 a2 c2, ThC w b p (thD r) a0 c0 a1 c1 a2 c2 ∧ ThL w a0 a1 a2 (thD r) ∧ (thD r).n0 ≤ c0 ∧ (thD r).n1 ≤ c1 ∧ (thD r).n2 ≤ c2 := by
 obtain ⟨x0, x1, x2, x3, x4, rfl, T0, T1, T2, T3, T4⟩ := hs.c5
 obtain ⟨v0, v1, v2, v3, v4, rfl, A0, A1, A2, A3, A4⟩ := h.c5
 obtain ⟨n0, l0, rfl, _⟩ := T0.list
 obtain ⟨y1, rfl⟩ := T1.int
 obtain ⟨y2, rfl⟩ := T2.bool
 obtain ⟨n3, l3, rfl, _⟩ := T3.list
 obtain ⟨n4, l4, rfl, _⟩ := T4.list
 obtain rfl := A1.int
 obtain rfl := A2.bool
 obtain ⟨a0, c0, rfl⟩ := A0.slice
 obtain ⟨a3, c3, rfl⟩ := A3.slice
 obtain ⟨a4, c4, rfl⟩ := A4.slice
 exact ⟨a0, c0, a3, c3, a4, c4, ⟨hc 0 (by omega), hc 1 (by omega), hc 2 (by omega), hc 3 (by omega), hc 4 (by omega)⟩, ⟨at_kAt A0 T0 iOp, at_kAt A3 T3 iPair, at_kAt A4 T4 iHelp⟩, at_cap A0, at_cap A3, at_cap A4⟩
theorem at_call {w : World} {b p : Nat} {us : List Value} {r : List Cel} (h : AtL true w us r) (hs : HasL r tyCall) (hc : ∀ i, i < 9 → w.cell? ⟨b, p + i, none⟩ = us[i]?) : ∃ ra rn rc, CaC w b p (caD r) (.slice ra rn rc) := by
 obtain ⟨x0, x1, x2, x3, x4, x5, x6, x7, x8, rfl, T0, T1, T2, T3, T4, T5, T6, T7, T8⟩ := hs.c9
 obtain ⟨v0, v1, v2, v3, v4, v5, v6, v7, v8, rfl, A0, A1, A2, A3, A4, A5, A6, A7, A8⟩ := h.c9
 obtain ⟨y0, rfl⟩ := T0.int
 obtain ⟨y1, rfl⟩ := T1.int
 obtain ⟨y2, rfl⟩ := T2.int
 obtain ⟨y3, rfl⟩ := T3.int
 obtain ⟨y4, rfl⟩ := T4.int
 obtain ⟨y5, rfl⟩ := T5.int
 obtain ⟨y6, rfl⟩ := T6.int
 obtain ⟨y7, rfl⟩ := T7.int
 obtain ⟨n8, l8, rfl, _⟩ := T8.list
 obtain rfl := A0.int
 obtain rfl := A1.int
 obtain rfl := A2.int
 obtain rfl := A3.int
 obtain rfl := A4.int
 obtain rfl := A5.int
 obtain rfl := A6.int
 obtain rfl := A7.int
 obtain ⟨a8, c8, rfl⟩ := A8.slice
 exact ⟨a8, n8, c8, hc 0 (by omega), hc 1 (by omega), hc 2 (by omega), hc 3 (by omega), hc 4 (by omega), hc 5 (by omega), hc 6 (by omega), hc 7 (by omega), hc 8 (by omega)⟩
theorem at_desc {w : World} {b p : Nat} {us : List Value} {r : List Cel} (h : AtL true w us r) (hs : HasL r tyDesc) (hb : ∀ (j : Nat) (c : Cel), r[j]? = some c → c.big ≤ 1048576) (hc : ∀ i, i < 5 → w.cell? ⟨b, p + i, none⟩ = us[i]?) :
   ∃ ea ec ra rc, Five w b p (dkD r) ea ec ra rc ∧ TripAt w ea (dkD r).en (dkD r).es ∧ IntAt w ra (dkD r).rn (dkD r).rs ∧ (dkD r).en ≤ ec := by
 obtain ⟨x0, x1, x2, x3, x4, rfl, T0, T1, T2, T3, T4⟩ := hs.c5
 obtain ⟨v0, v1, v2, v3, v4, rfl, A0, A1, A2, A3, A4⟩ := h.c5
 obtain ⟨y0, rfl⟩ := T0.int
 obtain ⟨y1, rfl⟩ := T1.int
 obtain ⟨n2, l2, rfl, _⟩ := T2.list
 obtain ⟨y3, rfl⟩ := T3.int
 obtain ⟨n4, l4, rfl, _⟩ := T4.list
 obtain rfl := A0.int
 obtain rfl := A1.int
 obtain rfl := A3.int
 obtain ⟨a2, c2, rfl⟩ := A2.slice
 obtain ⟨a4, c4, rfl⟩ := A4.slice
 have hb2 := hb 2 _ rfl
 have := big_len (T := 161) (k := 3) (n := n2) (cs := l2)
 exact ⟨a2, c2, a4, c4, ⟨hc 0 (by omega), hc 1 (by omega), hc 2 (by omega), hc 3 (by omega), hc 4 (by omega)⟩, (at_kAt A2 T2 iEntry).trip (by omega), (at_kAt A4 T4 i1).ints, at_cap A2⟩
theorem at_machine {w : World} {us : List Value} {cs : List Cel} (h : AtL true w us cs) (hs : HasL cs tyMachine) (hb : bigL cs ≤ 1048576) :
   ∃ wa wc da dc ta tc ca cc oa oc ha hc, .agg us.toArray = MaV wa wc da dc ta tc ca cc oa oc ha hc (maD cs) ∧ MaAt w wa da ta ca oa ha (maD cs) ∧ CapAt w da (maD cs).nd (maD cs).ds ∧ (maD cs).nh ≤ hc := by
 obtain ⟨x0, x1, x2, x3, x4, x5, x6, x7, rfl, T0, T1, T2, T3, T4, T5, T6, T7⟩ := hs.c8
 obtain ⟨v0, v1, v2, v3, v4, v5, v6, v7, rfl, A0, A1, A2, A3, A4, A5, A6, A7⟩ := h.c8
 obtain ⟨n0, l0, rfl, e0⟩ := T0.list
 obtain ⟨n1, l1, rfl, e1⟩ := T1.list
 obtain ⟨n2, l2, rfl, e2⟩ := T2.list
 obtain ⟨y3, rfl⟩ := T3.int
 obtain ⟨n4, l4, rfl, e4⟩ := T4.list
 obtain ⟨n5, l5, rfl, e5⟩ := T5.list
 obtain ⟨n6, l6, rfl, e6⟩ := T6.list
 obtain ⟨y7, rfl⟩ := T7.int
 obtain rfl := A3.int
 obtain rfl := A7.int
 obtain ⟨a0, c0, rfl⟩ := A0.slice
 obtain ⟨a1, c1, rfl⟩ := A1.slice
 obtain ⟨a2, c2, rfl⟩ := A2.slice
 obtain ⟨a4, c4, rfl⟩ := A4.slice
 obtain ⟨a5, c5, rfl⟩ := A5.slice
 obtain ⟨a6, c6, rfl⟩ := A6.slice
 have g0 := big_len (T := 125) (k := 3) (n := n0) (cs := l0)
 have g1 := big_len (T := 130) (k := 5) (n := n1) (cs := l1)
 simp only [bigL] at hb
 have hl1 : bigL l1 ≤ 1048576 := by
   have : bigL l1 ≤ (Cel.l 130 5 n1 l1).big := by simp only [Cel.big]; omega
   omega
 have N2 : n2 ≤ 2097152 := by obtain ⟨_, _, _, _, _, _, hn, _⟩ := A2.openL; exact hn
 have N4 : n4 ≤ 2097152 := by obtain ⟨_, _, _, _, _, _, hn, _⟩ := A4.openL; exact hn
 have HD : n1 = 0 ∨ ∃ b o, a1 = some ⟨b, o, none⟩ ∧ ∀ i, i < n1 → ∃ ea ec ra rc, Five w b (o + i * 5) (dkD (row l1 5 i)) ea ec ra rc ∧ TripAt w ea (dkD (row l1 5 i)).en (dkD (row l1 5 i)).es ∧ IntAt w ra (dkD (row l1 5 i)).rn (dkD (row l1 5 i)).rs ∧ (dkD (row l1 5 i)).en ≤ ec := by
   rcases at_rows A1 with h0 | ⟨b, o, rfl, hr⟩
   · exact .inl h0
   · refine .inr ⟨b, o, rfl, fun i hi => ?_⟩
     obtain ⟨us, hu, hc⟩ := hr i hi
     exact at_desc hu (T1.rowL hi) (fun j c hj => Nat.le_trans (row_mem_big e1 hi hj) hl1) hc
 have DK1 : ∀ i, i < n1 → dk ((List.range n1).map fun i => dkD (row l1 5 i)) i = dkD (row l1 5 i) := fun i hi => by
   unfold dk
   simp [List.getD, hi]
 refine ⟨a0, c0, a1, c1, a2, c2, a4, c4, a5, c5, a6, c6, rfl, ⟨(at_kAt A0 T0 iWord).trip (by show n0 ≤ _; omega), ⟨by show (List.map _ (List.range n1)).length = n1; simp, by show n1 ≤ _; omega, ?_⟩, ⟨N2, ?_⟩, ⟨N4, ?_⟩, (at_kAt A5 T5 i1).ints, (at_kAt A6 T6 i1).ints⟩, ?_, at_cap A6⟩
 · rcases HD with h0 | ⟨b, o, rfl, hr⟩
   · exact .inl h0
   · refine .inr ⟨b, o, rfl, fun i hi => ?_⟩
     obtain ⟨ea, ec, ra, rc, h5, h6, h7, _⟩ := hr i hi
     show ∃ ea ec ra rc, Five w b (o + i * 5) (dk ((List.range n1).map fun i => dkD (row l1 5 i)) i) ea ec ra rc ∧ TripAt w ea (dk ((List.range n1).map fun i => dkD (row l1 5 i)) i).en (dk ((List.range n1).map fun i => dkD (row l1 5 i)) i).es ∧ IntAt w ra (dk ((List.range n1).map fun i => dkD (row l1 5 i)) i).rn (dk ((List.range n1).map fun i => dkD (row l1 5 i)) i).rs
     rw [DK1 i hi]
     exact ⟨ea, ec, ra, rc, h5, h6, h7⟩
 · rcases at_rows A2 with h0 | ⟨b, o, rfl, hr⟩
   · exact .inl h0
   · refine .inr ⟨b, o, rfl, fun i hi => ?_⟩
     obtain ⟨us, hu, hc⟩ := hr i hi
     exact at_thread hu (T2.rowL hi) hc
 · rcases at_rows A4 with h0 | ⟨b, o, rfl, hr⟩
   · exact .inl h0
   · refine .inr ⟨b, o, rfl, fun i hi => ?_⟩
     obtain ⟨us, hu, hc⟩ := hr i hi
     exact at_call hu (T4.rowL hi) hc
 · rcases HD with h0 | ⟨b, o, rfl, hr⟩
   · exact .inl h0
   · refine .inr ⟨b, o, rfl, fun i hi => ?_⟩
     obtain ⟨ea, ec, ra, rc, h5, _, _, h8⟩ := hr i hi
     show ∃ ea ec, w.cell? ⟨b, o + i * 5 + 2, none⟩ = some (.slice ea (dk ((List.range n1).map fun i => dkD (row l1 5 i)) i).en ec) ∧ (dk ((List.range n1).map fun i => dkD (row l1 5 i)) i).en ≤ ec
     rw [DK1 i hi]
     exact ⟨ea, ec, h5.2.2.1, h8⟩
theorem forms8 {q : Bool} {w : World} {us : List Value} {cs : List Cel} (h : AtL q w us cs) (hs : HasL cs tyMachine) :
   ∃ b0 m0 k0 b1 m1 k1 b2 m2 k2 j3 b4 m4 k4 b5 m5 k5 b6 m6 k6 j7, us = [.slice b0 m0 k0, .slice b1 m1 k1, .slice b2 m2 k2, .int .i64 j3, .slice b4 m4 k4, .slice b5 m5 k5, .slice b6 m6 k6, .int .i64 j7] := by
 obtain ⟨x0, x1, x2, x3, x4, x5, x6, x7, rfl, T0, T1, T2, T3, T4, T5, T6, T7⟩ := hs.c8
 obtain ⟨v0, v1, v2, v3, v4, v5, v6, v7, rfl, A0, A1, A2, A3, A4, A5, A6, A7⟩ := h.c8
 obtain ⟨n0, l0, rfl, e0⟩ := T0.list
 obtain ⟨n1, l1, rfl, e1⟩ := T1.list
 obtain ⟨n2, l2, rfl, e2⟩ := T2.list
 obtain ⟨y3, rfl⟩ := T3.int
 obtain ⟨n4, l4, rfl, e4⟩ := T4.list
 obtain ⟨n5, l5, rfl, e5⟩ := T5.list
 obtain ⟨n6, l6, rfl, e6⟩ := T6.list
 obtain ⟨y7, rfl⟩ := T7.int
 obtain rfl := A3.int
 obtain rfl := A7.int
 obtain ⟨a0, c0, rfl⟩ := A0.slice
 obtain ⟨a1, c1, rfl⟩ := A1.slice
 obtain ⟨a2, c2, rfl⟩ := A2.slice
 obtain ⟨a4, c4, rfl⟩ := A4.slice
 obtain ⟨a5, c5, rfl⟩ := A5.slice
 obtain ⟨a6, c6, rfl⟩ := A6.slice
 exact ⟨_, _, _, _, _, _, _, _, _, _, _, _, _, _, _, _, _, _, _, _, rfl⟩
theorem wf_held {cs : List Cel} (hw : WfL cs) (hs : HasL cs tyMachine) : ∀ x ∈ (maD cs).hs, (Lit.int .i64 x).wf = true := by
 intro x hx
 obtain ⟨x0, r0, rfl, T0, hH0⟩ := hs.cons
 obtain ⟨x1, r1, rfl, T1, hH1⟩ := hH0.cons
 obtain ⟨x2, r2, rfl, T2, hH2⟩ := hH1.cons
 obtain ⟨x3, r3, rfl, T3, hH3⟩ := hH2.cons
 obtain ⟨x4, r4, rfl, T4, hH4⟩ := hH3.cons
 obtain ⟨x5, r5, rfl, T5, hH5⟩ := hH4.cons
 obtain ⟨x6, r6, rfl, T6, hH6⟩ := hH5.cons
 obtain ⟨n6, l6, rfl, e6⟩ := T6.list
 have h6 := hw 6 _ rfl
 have hx : x ∈ nums l6 := hx
 unfold nums at hx
 obtain ⟨c, hc, rfl⟩ := List.mem_map.1 hx
 obtain ⟨j, hj, rfl⟩ := List.getElem_of_mem hc
 cases h6 with
 | l _ _ _ _ h =>
   have hcj := h j _ (List.getElem?_eq_getElem hj)
   cases T6 with
   | l _ _ _ _ _ hk hl hh =>
     have ht := hh j _ .i (List.getElem?_eq_getElem hj) (by rw [Nat.mod_one]; rfl)
     obtain ⟨y, hy⟩ := ht.int
     rw [hy] at hcj ⊢
     cases hcj with
     | i _ h => exact h
end
section
open Go.ChangeShapes Go.WideShapes Go.ChangeAt Go.RowKit Go.Maps
theorem look_row {H : Type} {w : World} {base b n : Nat} {D : DataW H} {R : Value → Option (DataW H × List MemPlace)} {xs : List Int} (h : w.ownsMap Tryz.prog 3 R b n D) (hR : RowsIn R w base) (hD : HD xs D) (v : Int) (h0 : v ≠ 0) (hw : (Lit.int .i64 v).wf = true) :
   ∃ (p : Option Addr) (l c : Nat), (Instr.lookup 142 (.map (some b)) (.int .i64 v) false).run Tryz.prog w = .ok (.slice p l c) w ∧ ((posK xs 4 v = [] ∧ l = 0) ∨ (posK xs 4 v ≠ [] ∧ w.ownsInts base 3 .i64 (.slice p l c) (posK xs 4 v))) := by
 obtain ⟨es, clock, hb, F, _, rfl⟩ := h
 have hkey : keyOf Tryz.prog 3 (.int .i64 v) = some (.int .i64 v) := keyOf_int_mk Tryz.underlying3 hw
 rcases Maps.fit_look false mapLaw Tryz.underlying142 (zeroInts w) hb F hkey with ⟨hrun, _, hat⟩ | ⟨e0, y, _, _, hrun, hRv, hat, _⟩
 · refine ⟨none, 0, 0, hrun, .inl ⟨?_, rfl⟩⟩
   have h1 := Maps.has_false_of_atKey hat
   rw [(hD v).1] at h1
   have h2 := of_decide_eq_false h1
   by_cases hp : posK xs 4 v = []
   · exact hp
   · exact absurd ⟨h0, hp⟩ h2
 · obtain ⟨_, hp, ho⟩ := step_row hR hD hRv hat
   obtain ⟨⟨p, l, c⟩, e1⟩ := row_slice ho
   rw [e1] at ho hrun
   exact ⟨p, l, c, hrun, .inr ⟨hp, ho⟩⟩
theorem posK_four (xs : List Int) (v : Int) : posK xs 4 v = (if xs.getD 0 0 = v then [0] else []) ++ (if xs.getD 1 0 = v then [1] else []) ++ (if xs.getD 2 0 = v then [2] else []) ++ (if xs.getD 3 0 = v then [3] else []) := by
 have h : ∀ k : Nat, posK xs (k + 1) v = posK xs k v ++ (if xs.getD k 0 = v then [(k : Int)] else []) := fun k => by
   split
   · exact posK_same (by assumption)
   · rw [posK_other (by assumption), List.append_nil]
 rw [h 3, h 2, h 1, h 0, posK_zero]
 rfl
theorem posK_len (xs : List Int) (v : Int) : ((posK xs 4 v).length : Int) = (if xs.getD 0 0 = v then 1 else 0) + (if xs.getD 1 0 = v then 1 else 0) + (if xs.getD 2 0 = v then 1 else 0) + (if xs.getD 3 0 = v then 1 else 0) := by
 rw [posK_four]
 split <;> split <;> split <;> split <;> rfl
theorem posK_le (xs : List Int) (v : Int) : (posK xs 4 v).length ≤ 4 := by
 rw [posK_four]
 split <;> split <;> split <;> split <;> decide
theorem keyN_none {xs : List Int} {v : Int} (h : posK xs 4 v = []) : keyN xs v = -1 := by
 rw [posK_four] at h
 unfold keyN
 split <;> (try split) <;> (try split) <;> (try split) <;> simp_all
theorem keyN_some {xs : List Int} {v : Int} (h : posK xs 4 v ≠ []) : (posK xs 4 v).getD 0 0 = keyN xs v := by
 rw [posK_four] at h ⊢
 unfold keyN
 split <;> (try split) <;> (try split) <;> (try split) <;> simp_all
def mkH (left : Lit → Bool) (x : Int) : Int := if left (.int .i64 x) = true then 0 else x
def cntH (xs : List Int) (left : Lit → Bool) (c : Int) : Int := bitW (mkH left (xs.getD 0 0)) c + bitW (mkH left (xs.getD 1 0)) c + bitW (mkH left (xs.getD 2 0)) c + bitW (mkH left (xs.getD 3 0)) c
theorem cntH_le (xs : List Int) (left : Lit → Bool) (c : Int) : 0 ≤ cntH xs left c ∧ cntH xs left c ≤ 4 := by
 unfold cntH
 have h0 := bitW_le (mkH left (xs.getD 0 0)) c
 have h1 := bitW_le (mkH left (xs.getD 1 0)) c
 have h2 := bitW_le (mkH left (xs.getD 2 0)) c
 have h3 := bitW_le (mkH left (xs.getD 3 0)) c
 omega
theorem bitW_mkH {left : Lit → Bool} {x : Int} (y c : Int) (hl : left (.int .i64 x) = true) :
   bitW (mkH (fun z => left z && !z.sameKey (.int .i64 x)) y) c = bitW (mkH left y) c + (if y = x then bitW x c else 0) := by
 unfold mkH
 by_cases h : y = x
 · subst h
   simp [sameKey_int, hl, bitW_zero]
 · simp [sameKey_int, h]
theorem cntH_step {xs : List Int} {left : Lit → Bool} {x : Int} (c : Int) (hl : left (.int .i64 x) = true) :
   cntH xs (fun z => left z && !z.sameKey (.int .i64 x)) c = cntH xs left c + (if bitW x c = 1 then ((posK xs 4 x).length : Int) else 0) := by
 have hb := bitW_le x c
 unfold cntH
 rw [bitW_mkH _ c hl, bitW_mkH _ c hl, bitW_mkH _ c hl, bitW_mkH _ c hl, posK_len]
 by_cases h : bitW x c = 1
 · rw [h, if_pos rfl]
   omega
 · have h0 : bitW x c = 0 := by omega
   rw [h0]
   simp
theorem cntH_none {xs : List Int} {left : Lit → Bool} (c : Int) (h : ∀ i, i < 4 → xs.getD i 0 ≠ 0 → left (.int .i64 (xs.getD i 0)) = true) : cntH xs left c = 0 := by
 have h1 : ∀ i, i < 4 → bitW (mkH left (xs.getD i 0)) c = 0 := fun i hi => by
   unfold mkH
   split
   · exact bitW_zero
   · by_cases h0 : xs.getD i 0 = 0
     · rw [h0]; exact bitW_zero
     · exact absurd (h i hi h0) (by assumption)
 unfold cntH
 rw [h1 0 (by omega), h1 1 (by omega), h1 2 (by omega), h1 3 (by omega)]
 rfl
theorem cntH_all {xs : List Int} {left : Lit → Bool} (c : Int) (h : ∀ z, left z = false) : cntH xs left c = cntK xs c 4 := by
 have h1 : ∀ y, mkH left y = y := fun y => by unfold mkH; rw [h]; rfl
 unfold cntH
 rw [h1, h1, h1, h1, cntK_four]
 rfl
end
theorem four_of {xs : List Int} (h : xs.length = 4) : ∃ y0 y1 y2 y3, xs = [y0, y1, y2, y3] := by
 match xs, h with
 | [y0, y1, y2, y3], _ => exact ⟨y0, y1, y2, y3, rfl⟩
def OkFour (y0 y1 y2 y3 : Int) : Prop :=
 (y0 = 0 ∨ (1 ≤ y0 ∧ y0 ≤ 6)) ∧ (y1 = 0 ∨ (1 ≤ y1 ∧ y1 ≤ 6)) ∧ (y2 = 0 ∨ (1 ≤ y2 ∧ y2 ≤ 6)) ∧ (y3 = 0 ∨ (1 ≤ y3 ∧ y3 ≤ 6))
 ∧ (y0 = 0 ∨ (y0 ≠ y1 ∧ y0 ≠ y2 ∧ y0 ≠ y3)) ∧ (y1 = 0 ∨ (y1 ≠ y2 ∧ y1 ≠ y3)) ∧ (y2 = 0 ∨ y2 ≠ y3)
theorem good_len {xs : List Int} {x : Int} (h : Good xs x) : (1 ≤ x ∧ x ≤ 6) ∧ (if xs.getD 0 0 = x then 1 else 0) + (if xs.getD 1 0 = x then 1 else 0) + (if xs.getD 2 0 = x then 1 else 0) + (if xs.getD 3 0 = x then 1 else 0) ≤ (1 : Int) := by
 have h2 := h.2
 rw [← posK_len]
 exact ⟨h.1, by omega⟩
theorem posK_ne {xs : List Int} {x : Int} (h : xs.getD 0 0 = x ∨ xs.getD 1 0 = x ∨ xs.getD 2 0 = x ∨ xs.getD 3 0 = x) : posK xs 4 x ≠ [] := by
 intro e
 have hl := posK_len xs x
 rw [e] at hl
 simp only [List.length_nil] at hl
 rcases h with h | h | h | h <;> simp only [h, if_true] at hl <;> (repeat' split at hl) <;> omega
theorem okFour_iff (y0 y1 y2 y3 st : Int) : OkRows [y0, y1, y2, y3] st ↔ ((0 ≤ st ∧ st ≤ 5) ∧ OkFour y0 y1 y2 y3) := by
 constructor
 · rintro ⟨_, h0, h1, h⟩
   refine ⟨⟨h0, h1⟩, ?_⟩
   have g : ∀ x, x ≠ 0 → (y0 = x ∨ y1 = x ∨ y2 = x ∨ y3 = x) → (1 ≤ x ∧ x ≤ 6) ∧ (if y0 = x then 1 else 0) + (if y1 = x then 1 else 0) + (if y2 = x then 1 else 0) + (if y3 = x then 1 else 0) ≤ (1 : Int) := fun x hx hh => good_len (h x hx (posK_ne (by simpa using hh)))
   have g0 := g y0
   have g1 := g y1
   have g2 := g y2
   have g3 := g y3
   unfold OkFour
   clear g h
   simp only [true_or, or_true, if_true, forall_const] at g0 g1 g2 g3
   refine ⟨?_, ?_, ?_, ?_, ?_, ?_, ?_⟩
   · rcases Decidable.em (y0 = 0) with e | e
     · exact .inl e
     · exact .inr (g0 e).1
   · rcases Decidable.em (y1 = 0) with e | e
     · exact .inl e
     · exact .inr (g1 e).1
   · rcases Decidable.em (y2 = 0) with e | e
     · exact .inl e
     · exact .inr (g2 e).1
   · rcases Decidable.em (y3 = 0) with e | e
     · exact .inl e
     · exact .inr (g3 e).1
   · rcases Decidable.em (y0 = 0) with e | e
     · exact .inl e
     · have q := (g0 e).2
       refine .inr ⟨?_, ?_, ?_⟩ <;> (intro e2; simp only [← e2, if_true] at q; (repeat' split at q) <;> omega)
   · rcases Decidable.em (y1 = 0) with e | e
     · exact .inl e
     · have q := (g1 e).2
       refine .inr ⟨?_, ?_⟩ <;> (intro e2; simp only [← e2, if_true] at q; (repeat' split at q) <;> omega)
   · rcases Decidable.em (y2 = 0) with e | e
     · exact .inl e
     · have q := (g2 e).2
       refine .inr ?_
       intro e2; simp only [← e2, if_true] at q; (repeat' split at q) <;> omega
 · rintro ⟨⟨h0, h1⟩, h⟩
   refine ⟨rfl, h0, h1, fun x hx hp => ?_⟩
   unfold OkFour at h
   have hmem : y0 = x ∨ y1 = x ∨ y2 = x ∨ y3 = x := by
     rcases Decidable.em (y0 = x ∨ y1 = x ∨ y2 = x ∨ y3 = x) with e | e
     · exact e
     · exfalso
       apply hp
       rw [posK_four]
       simp only [not_or] at e
       simp [e]
   refine ⟨by omega, ?_⟩
   have hl := posK_len [y0, y1, y2, y3] x
   simp only [List.getD_cons_zero, List.getD_cons_succ] at hl
   have : ((posK [y0, y1, y2, y3] 4 x).length : Int) ≤ 1 := by
     rw [hl]
     (repeat' split) <;> omega
   omega
theorem keyN_lt {y0 y1 y2 y3 v : Int} (h : keyN [y0, y1, y2, y3] v < 0) : y0 ≠ v ∧ y1 ≠ v ∧ y2 ≠ v ∧ y3 ≠ v := by
 unfold keyN at h
 simp only [List.getD_cons_zero, List.getD_cons_succ] at h
 (repeat' split at h) <;> first | omega | (refine ⟨?_, ?_, ?_, ?_⟩ <;> assumption)
theorem keyN_eq {y0 y1 y2 y3 v k : Int} (h : keyN [y0, y1, y2, y3] v = k) (hk : 0 ≤ k) : (k = 0 ∧ y0 = v) ∨ (k = 1 ∧ y1 = v) ∨ (k = 2 ∧ y2 = v) ∨ (k = 3 ∧ y3 = v) := by
 unfold keyN at h
 simp only [List.getD_cons_zero, List.getD_cons_succ] at h
 (repeat' split at h) <;> omega
theorem after_ok {xs : List Int} {st kind k v : Int} {ys zs : List Int} {st' : Int} (hA : AllowM xs st kind k v 0 ys) (h : AfterM xs st kind k v 0 ys zs st') : OkRows zs st' := by
 rcases h with ⟨_, _, h⟩ | ⟨h, _⟩
 case inr => exact absurd ⟨hA, rfl⟩ h
 obtain ⟨hok, hop, hA⟩ := hA
 rcases hA with ⟨h0, _⟩ | ⟨_, hD, _⟩
 · exact absurd rfl h0
 obtain ⟨y0, y1, y2, y3, rfl⟩ := four_of hok.1
 have hf := (okFour_iff y0 y1 y2 y3 st).1 hok
 obtain ⟨hk, hkey, hval⟩ := hop
 unfold KeyGood at hkey
 unfold ValGood at hval
 unfold DoneM atK at hD
 rcases h with ⟨hkd, rfl, rfl⟩ | ⟨hkd, rfl, rfl⟩ | ⟨hkd, rfl, rfl⟩ | ⟨hkd, rfl, rfl⟩
 · have hk4 : 0 ≤ k ∧ k ≤ 3 := by omega
   have hv : 1 ≤ v ∧ v ≤ 6 := by omega
   have hcase : (keyN [y0, y1, y2, y3] v < 0) ∨ keyN [y0, y1, y2, y3] v = k := by omega
   have hne : (k = 0 ∨ y0 ≠ v) ∧ (k = 1 ∨ y1 ≠ v) ∧ (k = 2 ∨ y2 ≠ v) ∧ (k = 3 ∨ y3 ≠ v) := by
     rcases hcase with h1 | h1
     · have := keyN_lt h1; omega
     · have e := keyN_eq h1 hk4.1
       obtain ⟨_, hf2⟩ := hf
       unfold OkFour at hf2
       omega
   clear hD hcase hkey hval hk hkd hok
   obtain ⟨hst, hf⟩ := hf
   unfold OkFour at hf
   rcases (show k = 0 ∨ k = 1 ∨ k = 2 ∨ k = 3 by omega) with rfl | rfl | rfl | rfl
   · show OkRows [v, y1, y2, y3] _
     rw [okFour_iff]
     refine ⟨hst, ?_⟩
     have n : y1 ≠ v ∧ y2 ≠ v ∧ y3 ≠ v := by omega
     clear hne
     unfold OkFour
     refine ⟨?_, ?_, ?_, ?_, ?_, ?_, ?_⟩ <;> omega
   · show OkRows [y0, v, y2, y3] _
     rw [okFour_iff]
     refine ⟨hst, ?_⟩
     have n : y0 ≠ v ∧ y2 ≠ v ∧ y3 ≠ v := by omega
     clear hne
     unfold OkFour
     refine ⟨?_, ?_, ?_, ?_, ?_, ?_, ?_⟩ <;> omega
   · show OkRows [y0, y1, v, y3] _
     rw [okFour_iff]
     refine ⟨hst, ?_⟩
     have n : y0 ≠ v ∧ y1 ≠ v ∧ y3 ≠ v := by omega
     clear hne
     unfold OkFour
     refine ⟨?_, ?_, ?_, ?_, ?_, ?_, ?_⟩ <;> omega
   · show OkRows [y0, y1, y2, v] _
     rw [okFour_iff]
     refine ⟨hst, ?_⟩
     have n : y0 ≠ v ∧ y1 ≠ v ∧ y2 ≠ v := by omega
     clear hne
     unfold OkFour
     refine ⟨?_, ?_, ?_, ?_, ?_, ?_, ?_⟩ <;> omega
 · have hk4 : 0 ≤ k ∧ k ≤ 3 := by omega
   clear hD hkey hval hk hkd hok
   obtain ⟨hst, hf⟩ := hf
   unfold OkFour at hf
   rcases (show k = 0 ∨ k = 1 ∨ k = 2 ∨ k = 3 by omega) with rfl | rfl | rfl | rfl
   · show OkRows [0, y1, y2, y3] _
     rw [okFour_iff]
     refine ⟨hst, ?_⟩
     unfold OkFour
     refine ⟨?_, ?_, ?_, ?_, ?_, ?_, ?_⟩ <;> omega
   · show OkRows [y0, 0, y2, y3] _
     rw [okFour_iff]
     refine ⟨hst, ?_⟩
     unfold OkFour
     refine ⟨?_, ?_, ?_, ?_, ?_, ?_, ?_⟩ <;> omega
   · show OkRows [y0, y1, 0, y3] _
     rw [okFour_iff]
     refine ⟨hst, ?_⟩
     unfold OkFour
     refine ⟨?_, ?_, ?_, ?_, ?_, ?_, ?_⟩ <;> omega
   · show OkRows [y0, y1, y2, 0] _
     rw [okFour_iff]
     refine ⟨hst, ?_⟩
     unfold OkFour
     refine ⟨?_, ?_, ?_, ?_, ?_, ?_, ?_⟩ <;> omega
 · rw [okFour_iff]
   refine ⟨?_, hf.2⟩
   omega
 · exact hok
section
open Go.ChangeShapes Go.WideShapes Go.ChangeAt Go.RowKit Go.Joins
def resD (r : List Cel) : List Int := nums (listC (nthC r 8))
def rsD (cs : List Cel) : Nat → List Int := fun i => resD (row (listC (nthC cs 4)) 9 i)
def CasR (w : World) (a : Option Addr) (n : Nat) (f : Nat → CaD) (rs : Nat → List Int) : Prop :=
 n = 0 ∨ ∃ b o, a = some ⟨b, o, none⟩ ∧ ∀ i, i < n → ∃ ra rn rc, CaC w b (o + i * 9) (f i) (.slice ra rn rc) ∧ IntAt w ra rn (rs i)
theorem CasR.below {w w' : World} {a : Option Addr} {n : Nat} {f : Nat → CaD} {rs : Nat → List Int} (h : CasR w a n f rs) {B : Nat} (hb : Below B w w') (hB : w.heap.size ≤ B) : CasR w' a n f rs := by
 obtain h2 | ⟨b, o, h3, h4⟩ := h
 · exact .inl h2
 · refine .inr ⟨b, o, h3, fun i hi => ?_⟩
   obtain ⟨ra, rn, rc, h5, h6⟩ := h4 i hi
   exact ⟨ra, rn, rc, h5.below hb hB, h6.below hb hB⟩
theorem at_call_r {w : World} {b p : Nat} {us : List Value} {r : List Cel} (h : AtL true w us r) (hs : HasL r tyCall) (hc : ∀ i, i < 9 → w.cell? ⟨b, p + i, none⟩ = us[i]?) : ∃ ra rn rc, CaC w b p (caD r) (.slice ra rn rc) ∧ IntAt w ra rn (resD r) := by
 obtain ⟨x0, x1, x2, x3, x4, x5, x6, x7, x8, rfl, T0, T1, T2, T3, T4, T5, T6, T7, T8⟩ := hs.c9
 obtain ⟨v0, v1, v2, v3, v4, v5, v6, v7, v8, rfl, A0, A1, A2, A3, A4, A5, A6, A7, A8⟩ := h.c9
 obtain ⟨y0, rfl⟩ := T0.int
 obtain ⟨y1, rfl⟩ := T1.int
 obtain ⟨y2, rfl⟩ := T2.int
 obtain ⟨y3, rfl⟩ := T3.int
 obtain ⟨y4, rfl⟩ := T4.int
 obtain ⟨y5, rfl⟩ := T5.int
 obtain ⟨y6, rfl⟩ := T6.int
 obtain ⟨y7, rfl⟩ := T7.int
 obtain ⟨n8, l8, rfl, _⟩ := T8.list
 obtain rfl := A0.int
 obtain rfl := A1.int
 obtain rfl := A2.int
 obtain rfl := A3.int
 obtain rfl := A4.int
 obtain rfl := A5.int
 obtain rfl := A6.int
 obtain rfl := A7.int
 obtain ⟨a8, c8, rfl⟩ := A8.slice
 exact ⟨a8, n8, c8, ⟨hc 0 (by omega), hc 1 (by omega), hc 2 (by omega), hc 3 (by omega), hc 4 (by omega), hc 5 (by omega), hc 6 (by omega), hc 7 (by omega), hc 8 (by omega)⟩, (at_kAt A8 T8 i1).ints⟩
theorem at_machine_r {w : World} {us : List Value} {cs : List Cel} (h : AtL true w us cs) (hs : HasL cs tyMachine) (hb : bigL cs ≤ 1048576) :
   ∃ wa wc da dc ta tc ca cc oa oc ha hc, .agg us.toArray = MaV wa wc da dc ta tc ca cc oa oc ha hc (maD cs) ∧ MaAt w wa da ta ca oa ha (maD cs) ∧ CapAt w da (maD cs).nd (maD cs).ds ∧ (maD cs).nh ≤ hc ∧ CasR w ca (maD cs).nc (maD cs).f (rsD cs) := by
 obtain ⟨wa, wc, da, dc, ta, tc, ca, cc, oa, oc, ha, hc, e, hM, hC, hh⟩ := at_machine h hs hb
 refine ⟨wa, wc, da, dc, ta, tc, ca, cc, oa, oc, ha, hc, e, hM, hC, hh, ?_⟩
 clear hM hC hh
 obtain ⟨x0, x1, x2, x3, x4, x5, x6, x7, rfl, T0, T1, T2, T3, T4, T5, T6, T7⟩ := hs.c8
 obtain ⟨v0, v1, v2, v3, v4, v5, v6, v7, rfl, A0, A1, A2, A3, A4, A5, A6, A7⟩ := h.c8
 obtain ⟨n4, l4, rfl, e4⟩ := T4.list
 have hv : v4 = .slice ca n4 cc := by
   have := congrArg (fun v => match v with | Value.agg a => a.getD 4 undef | _ => undef) e
   exact this
 subst hv
 show n4 = 0 ∨ ∃ b o, ca = some ⟨b, o, none⟩ ∧ ∀ i, i < n4 → ∃ ra rn rc, CaC w b (o + i * 9) (caD (row l4 9 i)) (.slice ra rn rc) ∧ IntAt w ra rn (resD (row l4 9 i))
 rcases at_rows A4 with h0 | ⟨b, o, rfl, hr⟩
 · exact .inl h0
 · refine .inr ⟨b, o, rfl, fun i hi => ?_⟩
   obtain ⟨us, hu, hc⟩ := hr i hi
   exact at_call_r hu (T4.rowL hi) hc
def calN (M : MaD) (i : Nat) : Nat := (M.os.getD i 0).toNat
def AlwJ (M : MaD) (rs : Nat → List Int) (i : Nat) (xs : List Int) (st : Int) : Prop := AllowM xs st (M.f (calN M i)).kd (M.f (calN M i)).k (M.f (calN M i)).v (M.f (calN M i)).cd (rs (calN M i))
def ReplM (M : MaD) (rs : Nat → List Int) : Nat → List Int → Int → Prop
 | 0, xs, st => xs = M.hs ∧ st = M.st
 | i + 1, xs, st => ∃ xs0 st0, ReplM M rs i xs0 st0 ∧ AfterM xs0 st0 (M.f (calN M i)).kd (M.f (calN M i)).k (M.f (calN M i)).v (M.f (calN M i)).cd (rs (calN M i)) xs st
theorem ReplM.one {M : MaD} {rs : Nat → List Int} : ∀ {i : Nat} {xs ys : List Int} {s t : Int}, ReplM M rs i xs s → ReplM M rs i ys t → xs = ys ∧ s = t
 | 0, _, _, _, _, h, g => ⟨h.1.trans g.1.symm, h.2.trans g.2.symm⟩
 | i + 1, _, _, _, _, h, g => by
   obtain ⟨x0, s0, h0, h1⟩ := h
   obtain ⟨y0, t0, g0, g1⟩ := g
   obtain ⟨rfl, rfl⟩ := ReplM.one h0 g0
   exact h1.one g1
def SoM (M : MaD) (rs : Nat → List Int) (n : Nat) : Prop := ∀ i, i < n → ∀ xs st, ReplM M rs i xs st → AlwJ M rs i xs st
theorem SoM.succ {M : MaD} {rs : Nat → List Int} {n : Nat} {xs : List Int} {st : Int} (h : ReplM M rs n xs st) : SoM M rs (n + 1) ↔ SoM M rs n ∧ AlwJ M rs n xs st := by
 constructor
 · intro g
   exact ⟨fun i hi => g i (by omega), g n (by omega) _ _ h⟩
 · rintro ⟨g1, g2⟩ i hi ys t hy
   by_cases hn : i < n
   · exact g1 i hn ys t hy
   · obtain rfl : i = n := by omega
     obtain ⟨rfl, rfl⟩ := hy.one h
     exact g2
theorem after_rows {xs : List Int} {st kind k v code : Int} {ys zs : List Int} {st' : Int} (ho : OkRows xs st) (h : AfterM xs st kind k v code ys zs st') : OkRows zs st' := by
 by_cases hA : AllowM xs st kind k v code ys ∧ code = 0
 · obtain ⟨hA, rfl⟩ := hA
   exact after_ok hA h
 · rcases h with ⟨h1, h2, _⟩ | ⟨_, rfl, rfl⟩
   · exact absurd ⟨h1, h2⟩ hA
   · exact ho
theorem ReplM.ok {M : MaD} {rs : Nat → List Int} (ho : OkRows M.hs M.st) : ∀ {i : Nat} {xs : List Int} {st : Int}, ReplM M rs i xs st → OkRows xs st
 | 0, _, _, h => by obtain ⟨rfl, rfl⟩ := h; exact ho
 | i + 1, _, _, h => by
   obtain ⟨x0, s0, h0, h1⟩ := h
   exact after_rows (ReplM.ok ho h0) h1
def JSo (M : MaD) (rs : Nat → List Int) : Prop := MachGood M ∧ SoM M rs M.no
end
end Go.Proofs.YtbfolanfbagofaaGreatDoor
