/- Texts joined: DatS, DatSS, ClassOf, WordsM, SpecHow, Place, RowAt. -/
import Derived.Test.YtcfimaffeopbbaaGreatDoorQM03
import Derived.Deep.RegionHeld3
import Derived.Deep.Cut
import Derived.Handy
import Derived.Test.YtcfimaffeopbbaaGreatDoorQM07
import Derived.Test.YtcfimaffeopbbaaGreatDoorQM08
import Derived.Test.YtcfimaffeopbbaaGreatDoorRows
import Derived.WalkKit
import Derived.ProofKit
import Derived.Test.YtcfimaffeopbbaaGreatDoorQM06
import Derived.Test.YtcfimaffeopbbaaGreatDoorQM01
import Derived.WalkSmall
import Derived.Below
import Derived.Laws.StructEq
import Derived.ChangeKeysEq
import Derived.OwnWalk
set_option maxHeartbeats 2000000
set_option maxRecDepth 100000
namespace Go.Proofs.YtcfimaffeopbbaaGreatDoor
section
open Go.ChangeShapes Go.WideShapes Go.ChangeAt Go.RowKit Go.Joins
theorem dSzOpS (v : Value) (n : Nat) (cs : List Cel) (left : Int) (w : World) (h : In w v (.l 82 3 n cs)) (hs : Has (.l 82 3 n cs) (.l 82 3 tyOp)) (h0 : 0 ≤ left) (h1 : left ≤ 2097152) :
   Calls Tryz.prog 18 #[v, .int .i64 left] w (Left w (n + bigL cs) left) := by
 have hz := big_flat hs (by decide)
 obtain ⟨a, c, vs, rfl, -, -, hn, -, -⟩ := h.openL
 have HZ : Hid (n + bigL cs = n) := by show _ = _; omega
 clear hs hz
 by_cases hl : (n : Int) ≤ left
 · have h2 : ¬ (left - (n : Int) < 0) := by omega
   go_enter Tryz.func18, Tryz.ntmps18
   go_wp2
   go_ret
   refine ⟨Below.refl _ _, .inl ⟨_, rfl, ?_⟩⟩
   rw [HZ.out]
   exact ⟨hl, rfl⟩
 · have h2 : left - (n : Int) < 0 := by omega
   go_enter Tryz.func18, Tryz.ntmps18
   go_wp2
   go_ret
   refine ⟨Below.refl _ _, .inr ⟨rfl, ?_⟩⟩
   rw [HZ.out]
   omega
set_option linter.unusedSimpArgs false
def tyOpS : List Ty := [(.l 82 3 tyOp)]
theorem dToOpE (v : Value) (c : Cel) (w : World) (h : AtL false w [v] [c]) (hs : HasL [c] tyOpS) : Calls Tryz.prog 24 #[v] w fun e w' => Below w.heap.size w w' ∧ ∃ u S, e = .returned u ∧ OwnL w' w.heap.size [u] [c] S := by
 obtain ⟨c0, r0, e, T0, -⟩ := hs.cons
 cases e
 obtain ⟨n, cs, rfl, -⟩ := T0.list
 refine (dToOpS v n cs w h.head T0).mono ?_
 rintro e w' ⟨hb, u, S, rfl, o⟩
 exact ⟨hb, u, S, rfl, o.oneL⟩
theorem dEqOpE (v u : Value) (c : Cel) (w : World) (h : AtL false w [v] [c]) (h' : AtL false w [u] [c]) (hs : HasL [c] tyOpS) : Calls Tryz.prog 33 #[v, u] w (Yes w) := by
 obtain ⟨c0, r0, e, T0, -⟩ := hs.cons
 cases e
 obtain ⟨n, cs, rfl, -⟩ := T0.list
 exact dEqOpS v u n cs w h.head h'.head T0
theorem dSzOpE (v : Value) (c : Cel) (left : Int) (w : World) (h : InL w [v] [c]) (hs : HasL [c] tyOpS) (h0 : 0 ≤ left) (h1 : left ≤ 2097152) : Calls Tryz.prog 18 #[v, .int .i64 left] w (Left w (bigL [c]) left) := by
 obtain ⟨c0, r0, e, T0, -⟩ := hs.cons
 cases e
 obtain ⟨n, cs, rfl, -⟩ := T0.list
 have e : bigL [.l 82 3 n cs] = n + bigL cs := by simp [bigL, Cel.big]
 rw [e]
 exact dSzOpS v n cs left w (h.2 0 _ _ rfl rfl) T0 h0 h1
theorem dInfoOpS : (Tryz.prog.info? 55).map (fun i => (i.zero, i.size)) = some (some (.slice none 0 0), 1) := by kernel_rfl
theorem dBytesOpS : (Tryz.prog.info? 55).map (fun i => decide (i.bytes ≤ 1024)) = some true := by kernel_rfl
theorem dToOpSS (v : Value) (n : Nat) (cs : List Cel) (w : World) (h : At false w v (.l 55 1 n cs)) (hs : Has (.l 55 1 n cs) (.l 55 1 tyOpS)) :
   Calls Tryz.prog 8 #[v] w (Ret w (.l 55 1 n cs)) := by
 obtain ⟨a, c, vs, rfl, h1, h2, hn, -, h3, h4⟩ := h.openL
 have SRC : Hid (n = 0 ∨ ∃ b o, a = some ⟨b, o, none⟩ ∧ ∀ j, j < n * 1 → w.cell? ⟨b, o + j, none⟩ = vs[j]?) := h3
 have HV : Hid (∀ j, j < n → AtL false w ((vs.drop (j * 1)).take 1) (row cs 1 j)) := fun j hj => rowVals h1 h2 h4 hj
 have HR : Hid (∀ j, j < n → HasL (row cs 1 j) tyOpS) := fun j hj => hs.rowL hj
 have L2 : Hid (cs.length = n * 1) := h2
 have L1 : Hid (vs.length = n * 1) := h1
 obtain ⟨i0, hi, hz⟩ := Option.map_eq_some_iff.1 dInfoOpS
 obtain ⟨i1, hi', hb1⟩ := Option.map_eq_some_iff.1 dBytesOpS
 obtain rfl : i0 = i1 := Option.some.inj (hi.symm.trans hi')
 have hz0 : i0.zero = some (.slice none 0 0) := congrArg Prod.fst hz
 have hz1 : i0.size = 1 := congrArg Prod.snd hz
 have hz2 : i0.bytes ≤ 1024 := of_decide_eq_true hb1
 have hby : i0.bytes * n ≤ 1024 * 2097152 := Nat.mul_le_mul hz2 hn
 clear h h1 h2 h3 h4 hs hz hb1 hi'
 go_enter Tryz.func8, Tryz.ntmps8
 go_wp2_with (at_make; refine wpList_make_full _ rfl _ _ 40 rfl w.heap.size 55 i0 (.slice none 0 0) 1 Tryz.underlying40 hi hz0 hz1 .i64 .i64 _ _ n rfl rfl rfl rfl (by first | omega | (rw [Nat.mul_comm]; omega)) (by unfold maxLen; omega) (Nat.le_refl _) ?_; intro w1 own1 grow1)
 obtain ⟨ps0, lp0, O0⟩ := own_made (zv := [.slice none 0 0]) (zc := [.l 82 3 0 []]) own1 hn rfl (fun j v hv => made_at hv (by decide)) (by
   intro i v c hv hc w'
   have hi : i < 1 := by have := (List.getElem?_eq_some_iff.1 hv).1; simpa using this
   rcases (show i = 0 by omega) with rfl <;> (simp at hv hc; subst hv hc)
   · exact .nil _ _ _ (fun _ h => h))
 have hb1 : Below w.heap.size w w1 := (Below.refl _ _).grown grow1 (Nat.le_refl _) (fun k e => by cases e)
 clear own1 grow1
 go_loopw [4] (fun i wr => ∃ j : Nat, j ≤ n ∧ i = .int .i64 (j : Int) ∧ (∃ ps S, ps.length = n * 1 ∧ ps.take (j * 1) = cs.take (j * 1) ∧ Own wr w.heap.size (.slice (some ⟨w.heap.size, 0, none⟩) n n) (.l 55 1 n ps) S) ∧ Below w.heap.size w wr) (fun i _ => n - (intOf i).toNat)
 case atStart => exact ⟨0, Nat.zero_le _, by simp, ⟨ps0, _, lp0, by simp, O0⟩, hb1⟩
 case round =>
   obtain ⟨j, hj, rfl, ⟨ps, S, lp, tp, ho⟩, hb⟩ := hrel
   clear O0 hb1 lp0
   by_cases hlt : j < n
   · rcases SRC.out with h0 | ⟨p1, o1, rfl, g1⟩
     · omega
     have hk0 : (0 : Int) ≤ (j : Int) := by omega
     have hk1 : (j : Int) < (n : Int) := by omega
     have hA := HV.out j hlt
     have hH := HR.out j hlt
     have hcv := rowAt hb hlt g1 L1.out
     obtain ⟨rs, hrs⟩ : ∃ rs, row cs 1 j = rs := ⟨_, rfl⟩
     obtain ⟨ws, hws⟩ : ∃ ws, (vs.drop (j * 1)).take 1 = ws := ⟨_, rfl⟩
     have HRS : Hid (row cs 1 j = rs) := hrs
     rw [hrs] at hA hH
     rw [hws] at hA hcv
     clear g1 hrs hws
     obtain ⟨c0, rfl, T0⟩ := hH.c1
     have HL0 : Hid (HasL [c0] tyOpS) := hH
     obtain ⟨v0, rfl, A0⟩ := hA.c1
     have HA0 : Hid (AtL false w [v0] [c0]) := hA
     have e0 : wr.cell? ⟨p1, o1 + j * 1, none⟩ = some v0 := hcv 0 (by omega)
     simp only [Nat.mul_one] at e0
     clear hcv hA hH
     have HO : Hid (Own wr w.heap.size (.slice (some ⟨w.heap.size, 0, none⟩) n n) (.l 55 1 n ps) S) := ho
     clear ho
     go_wp2_with fail
     refine (dToOpE v0 c0 _ (HA0.out.on hb (Nat.le_refl _)) HL0.out).mono ?_
     rintro e w2 ⟨hb2, u0, S', rfl, oL⟩
     have U0 := oL.at.head
     have T0' := T0
     obtain ⟨n0, cs0, rfl, -⟩ := T0.list
     obtain ⟨q0, m0, rfl⟩ := U0.slice
     have O2 := HO.out.on hb2 (Nat.le_refl _)
     have hb02 : Below w.heap.size w w2 := hb.trans (hb2.mono hb.size)
     obtain ⟨pv0, -, hc0, hf0, -⟩ := O2.cell (j := j * 1) (List.getElem?_eq_getElem (by omega))
     simp only [Nat.mul_one] at hc0 hf0
     have OL : Hid (OwnL w2 wr.heap.size [.slice q0 n0 m0] [.l 82 3 n0 cs0] S') := oL
     have HO2 : Hid (Own w2 w.heap.size (.slice (some ⟨w.heap.size, 0, none⟩) n n) (.l 55 1 n ps) S) := O2
     have HRS' : Hid (row cs 1 j = [.l 82 3 n0 cs0]) := HRS.out
     clear oL O2 hb2 e0
     go_wp2
     go_roundw
     case rel =>
       have slt : ∀ x, S x → x < wr.heap.size := fun x hx => (HO.out.lt x hx).2
       obtain ⟨S'', o'', -⟩ := Own.storeL (p := j * 1) HO2.out (OL.out.weaken hb.size) (fun x hx hx' => by have h1 := (OL.out.lt x hx).1; have h2 := slt x hx'; omega) (by simp; omega)
       have hle : j * 1 + 1 ≤ n * 1 := by omega
       refine ⟨j + 1, by omega, by go_num, ⟨_, S'', ?_, ?_, by simpa [stores] using o''⟩, by simpa [stores] using stores_below (Nat.le_refl _) [.slice q0 n0 m0] w2 (j * 1) hb02⟩
       · rw [over_len]; exact lp
       · have h3 := over_take [.l 82 3 n0 cs0] ps (j * 1) (by simp; omega)
         rw [row_split (cs := cs), HRS'.out, ← tp, show (j + 1) * 1 = j * 1 + ([.l 82 3 n0 cs0] : List Cel).length by simp]
         simpa using h3
     case measure => simp [intOf]; omega
   · obtain rfl : j = n := by omega
     have e : ps = cs := by rwa [List.take_of_length_le (by omega), List.take_of_length_le (by have := L2.out; omega)] at tp
     subst e
     go_wp2
     go_ret
     exact ⟨hb, _, S, rfl, ho⟩
theorem dEqOpSS (v u : Value) (n : Nat) (cs : List Cel) (w : World) (h : At false w v (.l 55 1 n cs)) (h' : At false w u (.l 55 1 n cs)) (hs : Has (.l 55 1 n cs) (.l 55 1 tyOpS)) :
   Calls Tryz.prog 12 #[v, u] w (Yes w) := by
 obtain ⟨a, c, vs, rfl, h1, h2, hn, -, h3, h4⟩ := h.openL
 have SRC : Hid (n = 0 ∨ ∃ b o, a = some ⟨b, o, none⟩ ∧ ∀ j, j < n * 1 → w.cell? ⟨b, o + j, none⟩ = vs[j]?) := h3
 have HV : Hid (∀ j, j < n → AtL false w ((vs.drop (j * 1)).take 1) (row cs 1 j)) := fun j hj => rowVals h1 h2 h4 hj
 have Lvs : Hid (vs.length = n * 1) := h1
 clear h1 h2 h3 h4 hn
 obtain ⟨a', c', us, rfl, h1, h2, hn, -, h3, h4⟩ := h'.openL
 have SRD : Hid (n = 0 ∨ ∃ b o, a' = some ⟨b, o, none⟩ ∧ ∀ j, j < n * 1 → w.cell? ⟨b, o + j, none⟩ = us[j]?) := h3
 have HU : Hid (∀ j, j < n → AtL false w ((us.drop (j * 1)).take 1) (row cs 1 j)) := fun j hj => rowVals h1 h2 h4 hj
 have Lus : Hid (us.length = n * 1) := h1
 clear h1 h2 h3 h4
 have HR : Hid (∀ j, j < n → HasL (row cs 1 j) tyOpS) := fun j hj => hs.rowL hj
 clear h h' hs
 go_enter Tryz.func12, Tryz.ntmps12
 go_wp2
 go_loopw [5] (fun i wr => ∃ j : Nat, j ≤ n ∧ i = .int .i64 j ∧ Below w.heap.size w wr) (fun i _ => n - (intOf i).toNat)
 case atStart => exact ⟨0, Nat.zero_le _, rfl, Below.refl _ _⟩
 case round =>
   obtain ⟨j, hj, rfl, hb⟩ := hrel
   by_cases hlt : j < n
   · have hk0 : (0 : Int) ≤ (j : Int) := by omega
     have hk1 : (j : Int) < (n : Int) := by omega
     have hle : j * 1 + 1 ≤ n * 1 := by omega
     have hH := HR.out j hlt
     obtain ⟨rs, hrs⟩ : ∃ rs, row cs 1 j = rs := ⟨_, rfl⟩
     rw [hrs] at hH
     rcases SRC.out with h0 | ⟨p1, o1, rfl, g1⟩
     · omega
     have hA := HV.out j hlt
     have ce := rowAt hb hlt g1 Lvs.out
     obtain ⟨ws, hws⟩ : ∃ ws, (vs.drop (j * 1)).take 1 = ws := ⟨_, rfl⟩
     rw [hrs] at hA
     rw [hws] at hA ce
     clear g1 hws
     rcases SRD.out with h0 | ⟨p2, o2, rfl, g2⟩
     · omega
     have hB := HU.out j hlt
     have cf := rowAt hb hlt g2 Lus.out
     obtain ⟨ws', hws⟩ : ∃ ws, (us.drop (j * 1)).take 1 = ws := ⟨_, rfl⟩
     rw [hrs] at hB
     rw [hws] at hB cf
     clear g2 hws
     obtain ⟨c0, rfl, T0⟩ := hH.c1
     have HL0 : Hid (HasL [c0] tyOpS) := hH
     obtain ⟨v0, rfl, A0⟩ := hA.c1
     obtain ⟨u0, rfl, B0⟩ := hB.c1
     have HA0 : Hid (AtL false w [v0] [c0]) := hA
     have HB0 : Hid (AtL false w [u0] [c0]) := hB
     have e0 : wr.cell? ⟨p1, o1 + j * 1, none⟩ = some v0 := ce 0 (by omega)
     have f0 : wr.cell? ⟨p2, o2 + j * 1, none⟩ = some u0 := cf 0 (by omega)
     simp only [Nat.mul_one] at e0 f0
     clear ce cf hrs T0 A0 B0 hA hB hH
     have q1 : p1 < wr.heap.size := World.block_lt_of_cell? wr _ e0
     have q2 : p2 < wr.heap.size := World.block_lt_of_cell? wr _ f0
     go_wp2_with fail
     go_region_held3 (fun w' => w'.cell? ⟨p1, o1 + j, none⟩ = some v0 ∧ w'.cell? ⟨p2, o2 + j, none⟩ = some u0)
       (first | (with_reducible exact K2.out) | go_keep)
       (first
       | (go_at_call 33
          refine (dEqOpE v0 u0 c0 _ (HA0.out.on (hb.drew) (Nat.le_refl _)) (HB0.out.on (hb.drew) (Nat.le_refl _)) HL0.out).mono ?_
          rintro e w2 ⟨rfl, hb2⟩
          have hb2' : Below wr.heap.size wr w2 := (Below.refl _ wr).drew.trans hb2
          have K2 : Hid (w2.cell? ⟨p1, o1 + j, none⟩ = some v0 ∧ w2.cell? ⟨p2, o2 + j, none⟩ = some u0) := ⟨(hb2'.cell (show p1 < _ from q1)).trans e0, (hb2'.cell (show p2 < _ from q2)).trans f0⟩
          have hb02 : Below w.heap.size w w2 := hb.trans (hb2'.mono hb.size)
          clear hb2 hb2'))
     clear e0 f0 K2
     go_wp2
     exact ⟨⟨j + 1, by omega, by go_num, hb02⟩, by simp [intOf]; omega⟩
   · obtain rfl : j = n := by omega
     go_wp2
     go_ret
     exact ⟨rfl, hb⟩
theorem dSzOpSS (v : Value) (n : Nat) (cs : List Cel) (left : Int) (w : World) (h : In w v (.l 55 1 n cs)) (hs : Has (.l 55 1 n cs) (.l 55 1 tyOpS)) (h0 : 0 ≤ left) (h1 : left ≤ 2097152) :
   Calls Tryz.prog 5 #[v, .int .i64 left] w (Left w (n + bigL cs) left) := by
 obtain ⟨a, c, vs, rfl, h2, h3, hn, h4, h5⟩ := h.openL
 have SRC : Hid (n = 0 ∨ ∃ b o, a = some ⟨b, o, none⟩ ∧ ∀ j, j < n * 1 → w.cell? ⟨b, o + j, none⟩ = vs[j]?) := h4
 have HV : Hid (∀ j, j < n → InL w ((vs.drop (j * 1)).take 1) (row cs 1 j)) := fun j hj => rowIn h2 h3 h5 hj
 have HR : Hid (∀ j, j < n → HasL (row cs 1 j) tyOpS) := fun j hj => hs.rowL hj
 have L1 : Hid (vs.length = n * 1) := h2
 have L2 : Hid (cs.length = n * 1) := h3
 clear h h2 h3 h4 h5 hs
 by_cases hl : (n : Int) ≤ left
 rotate_left
 · have h2 : left - (n : Int) < 0 := by omega
   go_enter Tryz.func5, Tryz.ntmps5
   go_wp2
   go_ret
   exact ⟨Below.refl _ _, .inr ⟨rfl, by omega⟩⟩
 have h2 : ¬ (left - (n : Int) < 0) := by omega
 go_enter Tryz.func5, Tryz.ntmps5
 go_wp2
 go_loopw [1, 5] (fun l i wr => ∃ (j : Nat) (r : Int), j ≤ n ∧ l = .int .i64 r ∧ i = .int .i64 (j : Int) ∧ 0 ≤ r ∧ r = left - (n : Int) - (bigL (cs.take (j * 1)) : Int) ∧ Below w.heap.size w wr) (fun _ i _ => n - (intOf i).toNat)
 case atStart => exact ⟨0, left - n, Nat.zero_le _, rfl, rfl, by omega, by simp [bigL], Below.refl _ _⟩
 case round =>
   obtain ⟨j, r, hj, rfl, rfl, hr0, hr1, hb⟩ := hrel
   have HQ : Hid (r = left - (n : Int) - (bigL (cs.take (j * 1)) : Int)) := hr1
   have hr2 : r ≤ 2097152 := by omega
   clear hr1
   by_cases hlt : j < n
   · rcases SRC.out with h0' | ⟨p1, o1, rfl, g1⟩
     · omega
     have hk0 : (0 : Int) ≤ (j : Int) := by omega
     have hk1 : (j : Int) < (n : Int) := by omega
     have hle : j * 1 + 1 ≤ n * 1 := by omega
     have hA := HV.out j hlt
     have hH := HR.out j hlt
     have ce := rowAt hb hlt g1 L1.out
     obtain ⟨rs, hrs⟩ : ∃ rs, row cs 1 j = rs := ⟨_, rfl⟩
     obtain ⟨ws, hws⟩ : ∃ ws, (vs.drop (j * 1)).take 1 = ws := ⟨_, rfl⟩
     have HRS : Hid (row cs 1 j = rs) := hrs
     rw [hrs] at hA hH
     rw [hws] at hA ce
     clear g1 hrs hws
     obtain ⟨c0, rfl, T0⟩ := hH.c1
     have HL0 : Hid (HasL [c0] tyOpS) := hH
     obtain ⟨v0, rfl, A0⟩ := hA.c1
     have HA0 : Hid (InL w [v0] [c0]) := hA
     have e0 : wr.cell? ⟨p1, o1 + j * 1, none⟩ = some v0 := ce 0 (by omega)
     simp only [Nat.mul_one] at e0
     clear ce hA hH T0 A0
     obtain ⟨m, hm⟩ : ∃ m, bigL [c0] = m := ⟨_, rfl⟩
     have HM : Hid (bigL (cs.take ((j + 1) * 1)) = bigL (cs.take (j * 1)) + m) := by show _ = _; rw [row_split, bigL_append, HRS.out, hm]
     have MON : Hid (bigL (cs.take ((j + 1) * 1)) ≤ bigL cs) := by
       show _ ≤ _
       have := bigL_append (cs.take ((j + 1) * 1)) (cs.drop ((j + 1) * 1))
       rw [List.take_append_drop] at this
       omega
     go_wp2_with fail
     refine (dSzOpE v0 c0 _ _ (HA0.out.on hb (Nat.le_refl _)) HL0.out hr0 hr2).mono ?_
     rintro e w2 ⟨hb2, hc⟩
     rw [hm] at hc
     have hb02 : Below w.heap.size w w2 := hb.trans (hb2.mono hb.size)
     clear hb2 hm e0
     rcases hc with ⟨r2, rfl, hq1, rfl⟩ | ⟨rfl, hq⟩
     · have g : ¬ r - (m : Int) < 0 := by omega
       go_wp2
       exact ⟨⟨j + 1, r - (m : Int), by omega, rfl, by go_num, by omega, by have h5 := HM.out; have h6 := HQ.out; omega, hb02⟩, by simp [intOf]; omega⟩
     · go_wp2
       go_ret
       exact ⟨hb02, .inr ⟨rfl, by have h5 := HM.out; have h6 := HQ.out; have h7 := MON.out; omega⟩⟩
   · obtain rfl : j = n := by omega
     have HE : Hid (cs.take (j * 1) = cs) := List.take_of_length_le (by have := L2.out; omega)
     go_wp2
     go_ret
     refine ⟨hb, .inl ⟨_, rfl, ?_⟩⟩
     have h6 := HQ.out
     rw [HE.out] at h6
     omega
end
section
open Go.ChangeShapes Go.WideShapes Go.ChangeAt Go.RowKit
def classN (v : Int) : Int := if 1 ≤ v ∧ v ≤ 6 then v % 3 else -1
theorem specClassOf_any (k : Int) (w : World) :
   Calls Tryz.prog 121 #[.int .i64 k] w fun e w' => e = .returned (.int .i64 (classN k)) ∧ w' = w := by
 by_cases h : 1 ≤ k ∧ k ≤ 6
 · have h2 : k = 1 ∨ k = 2 ∨ k = 3 ∨ k = 4 ∨ k = 5 ∨ k = 6 := by omega
   clear h
   rcases h2 with rfl | rfl | rfl | rfl | rfl | rfl <;> (go_enter Tryz.func121, Tryz.ntmps121; go_wp2; go_ret; exact ⟨rfl, rfl⟩)
 · rw [show classN k = -1 from if_neg h]
   by_cases h0 : 1 ≤ k
   · have h1 : ¬ k ≤ 6 := by omega
     clear h
     go_enter Tryz.func121, Tryz.ntmps121
     go_wp2
     go_ret
     exact ⟨rfl, rfl⟩
   · clear h
     go_enter Tryz.func121, Tryz.ntmps121
     go_wp2
     go_ret
     exact ⟨rfl, rfl⟩
theorem implClassOf_any (k : Int) (w : World) :
   Calls Tryz.prog 96 #[.int .i64 k] w fun e w' => e = .returned (.int .i64 (classN k)) ∧ w' = w := by
 by_cases h : 1 ≤ k ∧ k ≤ 6
 · have h2 : k = 1 ∨ k = 2 ∨ k = 3 ∨ k = 4 ∨ k = 5 ∨ k = 6 := by omega
   clear h
   rcases h2 with rfl | rfl | rfl | rfl | rfl | rfl <;> (go_enter Tryz.func96, Tryz.ntmps96; go_wp2; go_ret; exact ⟨rfl, rfl⟩)
 · rw [show classN k = -1 from if_neg h]
   by_cases h0 : 1 ≤ k
   · have h1 : ¬ k ≤ 6 := by omega
     clear h
     go_enter Tryz.func96, Tryz.ntmps96
     go_wp2
     go_ret
     exact ⟨rfl, rfl⟩
   · clear h
     go_enter Tryz.func96, Tryz.ntmps96
     go_wp2
     go_ret
     exact ⟨rfl, rfl⟩
end
def ownW (y0 y1 y2 y3 v : Int) : Int := if y0 = v then 1 else if y1 = v then 2 else if y2 = v then 3 else if y3 = v then 4 else 0
def bitW (y c : Int) : Int := if (1 ≤ y ∧ y ≤ 6) ∧ classN y = c then 1 else 0
def clsW (y0 y1 y2 y3 c : Int) : Int := bitW y0 c + bitW y1 c + bitW y2 c + bitW y3 c
def viaW (y0 y1 y2 y3 st v : Int) : Int := if ownW y0 y1 y2 y3 v < st then ownW y0 y1 y2 y3 v else 0
def wordsG (y0 y1 y2 y3 c0 c1 c2 s st : Int) : List Int :=
 [y0, y1, y2, y3, ownW y0 y1 y2 y3 1, ownW y0 y1 y2 y3 2, ownW y0 y1 y2 y3 3, ownW y0 y1 y2 y3 4, ownW y0 y1 y2 y3 5, ownW y0 y1 y2 y3 6, c0, c1, c2, s,
  viaW y0 y1 y2 y3 st 1, viaW y0 y1 y2 y3 st 2, viaW y0 y1 y2 y3 st 3, viaW y0 y1 y2 y3 st 4, viaW y0 y1 y2 y3 st 5, viaW y0 y1 y2 y3 st 6]
def wordsL (y0 y1 y2 y3 st : Int) : List Int := wordsG y0 y1 y2 y3 (clsW y0 y1 y2 y3 0) (clsW y0 y1 y2 y3 1) (clsW y0 y1 y2 y3 2) st st
def stepW (L : List Int) (k : Nat) (x : Int) (st : Int) : List Int :=
 if (k : Int) + 1 < st then ((L.set k x).set (x + 3).toNat ((k : Int) + 1)).set (x + 13).toNat ((k : Int) + 1) else (L.set k x).set (x + 3).toNat ((k : Int) + 1)
theorem vals6 {x : Int} (h : 1 ≤ x ∧ x ≤ 6) : x = 1 ∨ x = 2 ∨ x = 3 ∨ x = 4 ∨ x = 5 ∨ x = 6 := by omega
theorem step0 (y1 y2 y3 c0 c1 c2 s st x : Int) (hx : 1 ≤ x ∧ x ≤ 6) (h1 : y1 ≠ x) (h2 : y2 ≠ x) (h3 : y3 ≠ x) : stepW (wordsG 0 y1 y2 y3 c0 c1 c2 s st) 0 x st = wordsG x y1 y2 y3 c0 c1 c2 s st := by
 rcases vals6 hx with rfl | rfl | rfl | rfl | rfl | rfl <;> by_cases hs : 1 < st <;> simp [stepW, wordsG, ownW, viaW, h1, h2, h3, hs]
theorem step1 (y0 y2 y3 c0 c1 c2 s st x : Int) (hx : 1 ≤ x ∧ x ≤ 6) (h0 : y0 ≠ x) (h2 : y2 ≠ x) (h3 : y3 ≠ x) : stepW (wordsG y0 0 y2 y3 c0 c1 c2 s st) 1 x st = wordsG y0 x y2 y3 c0 c1 c2 s st := by
 rcases vals6 hx with rfl | rfl | rfl | rfl | rfl | rfl <;> by_cases hs : 2 < st <;> simp [stepW, wordsG, ownW, viaW, h0, h2, h3, hs]
theorem step2 (y0 y1 y3 c0 c1 c2 s st x : Int) (hx : 1 ≤ x ∧ x ≤ 6) (h0 : y0 ≠ x) (h1 : y1 ≠ x) (h3 : y3 ≠ x) : stepW (wordsG y0 y1 0 y3 c0 c1 c2 s st) 2 x st = wordsG y0 y1 x y3 c0 c1 c2 s st := by
 rcases vals6 hx with rfl | rfl | rfl | rfl | rfl | rfl <;> by_cases hs : 3 < st <;> simp [stepW, wordsG, ownW, viaW, h0, h1, h3, hs]
theorem step3 (y0 y1 y2 c0 c1 c2 s st x : Int) (hx : 1 ≤ x ∧ x ≤ 6) (h0 : y0 ≠ x) (h1 : y1 ≠ x) (h2 : y2 ≠ x) : stepW (wordsG y0 y1 y2 0 c0 c1 c2 s st) 3 x st = wordsG y0 y1 y2 x c0 c1 c2 s st := by
 rcases vals6 hx with rfl | rfl | rfl | rfl | rfl | rfl <;> by_cases hs : 4 < st <;> simp [stepW, wordsG, ownW, viaW, h0, h1, h2, hs]
theorem bitW_zero {c : Int} : bitW 0 c = 0 := by simp [bitW]
theorem wordsG_new (st : Int) : wordsG 0 0 0 0 0 0 0 0 st = List.replicate 20 0 := by
 simp [wordsG, ownW, viaW, List.replicate_succ]
theorem wordsL_new (st : Int) : wordsL 0 0 0 0 st = (List.replicate 20 0).set 13 st := by
 simp [wordsL, clsW, bitW_zero, wordsG, ownW, viaW, List.replicate_succ]
def istepW (L : List Int) (k : Nat) (x : Int) (st : Int) : List Int :=
 if (k : Int) + 1 < st then (((L.set k x).set (x + 3).toNat ((k : Int) + 1)).set (10 + x % 3).toNat (((L.set k x).set (x + 3).toNat ((k : Int) + 1)).getD (10 + x % 3).toNat 0 + 1)).set (x + 13).toNat ((k : Int) + 1)
 else ((L.set k x).set (x + 3).toNat ((k : Int) + 1)).set (10 + x % 3).toNat (((L.set k x).set (x + 3).toNat ((k : Int) + 1)).getD (10 + x % 3).toNat 0 + 1)
theorem bitW_vals : bitW 1 0 = 0 ∧ bitW 1 1 = 1 ∧ bitW 1 2 = 0 ∧ bitW 2 0 = 0 ∧ bitW 2 1 = 0 ∧ bitW 2 2 = 1 ∧ bitW 3 0 = 1 ∧ bitW 3 1 = 0 ∧ bitW 3 2 = 0 ∧ bitW 4 0 = 0 ∧ bitW 4 1 = 1 ∧ bitW 4 2 = 0 ∧ bitW 5 0 = 0 ∧ bitW 5 1 = 0 ∧ bitW 5 2 = 1 ∧ bitW 6 0 = 1 ∧ bitW 6 1 = 0 ∧ bitW 6 2 = 0 := by decide
theorem istep0 (y1 y2 y3 st x : Int) (hx : 1 ≤ x ∧ x ≤ 6) (h1 : y1 ≠ x) (h2 : y2 ≠ x) (h3 : y3 ≠ x) : istepW (wordsL 0 y1 y2 y3 st) 0 x st = wordsL x y1 y2 y3 st := by
 rcases vals6 hx with rfl | rfl | rfl | rfl | rfl | rfl <;> by_cases hs : 1 < st <;> simp [istepW, wordsL, wordsG, ownW, viaW, clsW, bitW_zero, bitW_vals, h1, h2, h3, hs] <;> omega
theorem istep1 (y0 y2 y3 st x : Int) (hx : 1 ≤ x ∧ x ≤ 6) (h0 : y0 ≠ x) (h2 : y2 ≠ x) (h3 : y3 ≠ x) : istepW (wordsL y0 0 y2 y3 st) 1 x st = wordsL y0 x y2 y3 st := by
 rcases vals6 hx with rfl | rfl | rfl | rfl | rfl | rfl <;> by_cases hs : 2 < st <;> simp [istepW, wordsL, wordsG, ownW, viaW, clsW, bitW_zero, bitW_vals, h0, h2, h3, hs] <;> omega
theorem istep2 (y0 y1 y3 st x : Int) (hx : 1 ≤ x ∧ x ≤ 6) (h0 : y0 ≠ x) (h1 : y1 ≠ x) (h3 : y3 ≠ x) : istepW (wordsL y0 y1 0 y3 st) 2 x st = wordsL y0 y1 x y3 st := by
 rcases vals6 hx with rfl | rfl | rfl | rfl | rfl | rfl <;> by_cases hs : 3 < st <;> simp [istepW, wordsL, wordsG, ownW, viaW, clsW, bitW_zero, bitW_vals, h0, h1, h3, hs] <;> omega
theorem istep3 (y0 y1 y2 st x : Int) (hx : 1 ≤ x ∧ x ≤ 6) (h0 : y0 ≠ x) (h1 : y1 ≠ x) (h2 : y2 ≠ x) : istepW (wordsL y0 y1 y2 0 st) 3 x st = wordsL y0 y1 y2 x st := by
 rcases vals6 hx with rfl | rfl | rfl | rfl | rfl | rfl <;> by_cases hs : 4 < st <;> simp [istepW, wordsL, wordsG, ownW, viaW, clsW, bitW_zero, bitW_vals, h0, h1, h2, hs] <;> omega
section
open Go.ChangeShapes Go.WideShapes Go.ChangeAt Go.RowKit
def cntK (xs : List Int) (c : Int) : Nat → Int
 | 0 => 0
 | k + 1 => cntK xs c k + bitW (xs.getD k 0) c
theorem bitW_le (y c : Int) : 0 ≤ bitW y c ∧ bitW y c ≤ 1 := by unfold bitW; split <;> omega
theorem cntK_le (xs : List Int) (c : Int) (k : Nat) : 0 ≤ cntK xs c k ∧ cntK xs c k ≤ (k : Int) := by
 induction k with
 | zero => simp [cntK]
 | succ k ih =>
   have := bitW_le (xs.getD k 0) c
   simp only [cntK]
   omega
theorem cntK_four (xs : List Int) (c : Int) : cntK xs c 4 = clsW (xs.getD 0 0) (xs.getD 1 0) (xs.getD 2 0) (xs.getD 3 0) c := by
 simp [cntK, clsW]
theorem l1Bit_any (b : Bool) (w : World) : Calls Tryz.prog 88 #[.bool b] w fun e w' => e = .returned (.int .i64 (if b then 1 else 0)) ∧ w' = w := by
 cases b
 · go_enter Tryz.func88, Tryz.ntmps88
   go_wp2
   go_ret
   exact ⟨rfl, rfl⟩
 · go_enter Tryz.func88, Tryz.ntmps88
   go_wp2
   go_ret
   exact ⟨rfl, rfl⟩
theorem specHowMany_four (a : Option Addr) (cp : Nat) (st c : Int) (xs : List Int) (w : World) (hA : IntAt w a 4 xs) :
   Calls Tryz.prog 79 #[.agg #[.slice a 4 cp, .int .i64 st], .int .i64 c] w fun e w' => e = .returned (.int .i64 (cntK xs c 4)) ∧ Below w.heap.size w w' := by
 have HA : Hid (IntAt w a 4 xs) := hA
 clear hA
 go_enter Tryz.func79, Tryz.ntmps79
 go_wp2
 go_loopw [5, 6] (fun q i wr => ∃ k : Nat, k ≤ 4 ∧ q = .int .i64 (cntK xs c k) ∧ i = .int .i64 (k : Int) ∧ Below (w.heap.size + 1) (w.alloc (.cells #[.slice a 4 cp, .int .i64 st] 34)) wr) (fun _ i _ => 4 - (intOf i).toNat)
 case atStart => exact ⟨0, Nat.zero_le _, rfl, rfl, Below.refl _ _⟩
 case round =>
   obtain ⟨k, hk, rfl, rfl, hb⟩ := hrel
   have hbw : Below w.heap.size w wr := ((Below.refl _ w).alloc (Nat.le_refl _) _).trans (hb.mono (Nat.le_succ _))
   have hc0 : wr.cell? ⟨w.heap.size, 0, none⟩ = some (.slice a 4 cp) := by rw [hb.cell (by simp)]; simp
   by_cases hlt : k < 4
   · rcases (HA.out.below hbw (Nat.le_refl _)).2.2 with h0 | ⟨p1, o1, rfl, g1⟩
     · omega
     have e1 := g1 k hlt
     obtain ⟨x, hx⟩ : ∃ x, xs.getD k 0 = x := ⟨_, rfl⟩
     rw [hx] at e1
     obtain ⟨q, hq⟩ : ∃ q, cntK xs c k = q := ⟨_, rfl⟩
     have hqb := cntK_le xs c k
     have hnext : Hid (cntK xs c (k + 1) = cntK xs c k + bitW x c) := by rw [← hx]; rfl
     rw [hq] at hqb ⊢
     have HQ : Hid (cntK xs c k = q) := hq
     clear g1 hx hq
     by_cases hv : 1 ≤ x ∧ x ≤ 6
     · by_cases hc : classN x = c
       · have hbit : Hid (bitW x c = 1) := by simp [Hid, bitW, hv, hc]
         have hcc : (classN x == c) = true := by simpa using hc
         clear hc
         go_wp2_with (first
           | (go_at_call 85; refine (specValOk_any x _).mono ?_; rintro e w1 ⟨rfl, rfl⟩; rw [show decide (1 ≤ x ∧ x ≤ 6) = true from decide_eq_true hv])
           | (go_at_call 121; refine (specClassOf_any x _).mono ?_; rintro e w1 ⟨rfl, rfl⟩)
           | (go_at_call 88; refine (l1Bit_any _ _).mono ?_; rintro e w1 ⟨rfl, rfl⟩))
         exact ⟨⟨k + 1, by omega, by rw [hnext.out, HQ.out, hbit.out], by go_num, hb⟩, by simp [intOf]; omega⟩
       · have hbit : Hid (bitW x c = 0) := by simp [Hid, bitW, hc]
         have hcc : (classN x == c) = false := by simpa using hc
         clear hc
         go_wp2_with (first
           | (go_at_call 85; refine (specValOk_any x _).mono ?_; rintro e w1 ⟨rfl, rfl⟩; rw [show decide (1 ≤ x ∧ x ≤ 6) = true from decide_eq_true hv])
           | (go_at_call 121; refine (specClassOf_any x _).mono ?_; rintro e w1 ⟨rfl, rfl⟩)
           | (go_at_call 88; refine (l1Bit_any _ _).mono ?_; rintro e w1 ⟨rfl, rfl⟩))
         exact ⟨⟨k + 1, by omega, by rw [hnext.out, HQ.out, hbit.out, Int.add_zero], by go_num, hb⟩, by simp [intOf]; omega⟩
     · have hbit : Hid (bitW x c = 0) := by simp [Hid, bitW, hv]
       go_wp2_with (first
         | (go_at_call 85; refine (specValOk_any x _).mono ?_; rintro e w1 ⟨rfl, rfl⟩; rw [show decide (1 ≤ x ∧ x ≤ 6) = false from decide_eq_false hv])
         | (go_at_call 88; refine (l1Bit_any _ _).mono ?_; rintro e w1 ⟨rfl, rfl⟩))
       exact ⟨⟨k + 1, by omega, by rw [hnext.out, HQ.out, hbit.out, Int.add_zero], by go_num, hb⟩, by simp [intOf]; omega⟩
   · obtain rfl : k = 4 := by omega
     go_wp2
     go_ret
     exact ⟨rfl, hbw⟩
def nmL : List (Int × Int) := [(1, 0), (1, 1), (1, 2), (1, 3), (2, 1), (2, 2), (2, 3), (2, 4), (2, 5), (2, 6), (3, 0), (3, 1), (3, 2), (4, 0), (5, 1), (5, 2), (5, 3), (5, 4), (5, 5), (5, 6)]
def nmA (k : Nat) : Int := (nmL.getD k (0, 0)).1
def nmB (k : Nat) : Int := (nmL.getD k (0, 0)).2
def nmCells : Array Value := (nmL.flatMap fun p => [Value.int .i64 p.1, .int .i64 p.2]).toArray
def Names (w : World) : Prop := w.var? Tryz.prog "loop.example/g00468/impl.wordNames" = some nmCells
theorem gNames : Tryz.prog.globalNamed "loop.example/g00468/impl.wordNames" = some 0 := by kernel_rfl
theorem gNamesType : (Tryz.prog.globals[0]?).map (·.type) = some 150 := by kernel_rfl
theorem Names.block {w : World} (h : Names w) : ∃ t fr, w.heap[0]? = some (.cells nmCells t fr) := by
 unfold Names at h
 simp only [World.var?, gNames, Option.bind_some] at h
 split at h
 · rename_i c t fr hb
   simp only [Option.some.injEq] at h
   subst h
   exact ⟨t, fr, hb⟩
 · cases h
theorem Names.lt {w : World} (h : Names w) : 0 < w.heap.size := by
 obtain ⟨t, fr, h1⟩ := h.block
 exact (Array.getElem?_eq_some_iff.1 h1).1
theorem Names.below {w w' : World} {B : Nat} (h : Names w) (hb : Below B w w') (hB : 0 < B) : Names w' :=
 var?_below hb gNames hB h
theorem index_names (k : Nat) (hk : k < 20) (w : World) : (Instr.index 150 (.agg nmCells) (.int .i64 (k : Int))).run Tryz.prog w = .ok (.agg #[.int .i64 (nmA k), .int .i64 (nmB k)]) w := by
 have h : k = 0 ∨ k = 1 ∨ k = 2 ∨ k = 3 ∨ k = 4 ∨ k = 5 ∨ k = 6 ∨ k = 7 ∨ k = 8 ∨ k = 9 ∨ k = 10 ∨ k = 11 ∨ k = 12 ∨ k = 13 ∨ k = 14 ∨ k = 15 ∨ k = 16 ∨ k = 17 ∨ k = 18 ∨ k = 19 := by omega
 rcases h with rfl | rfl | rfl | rfl | rfl | rfl | rfl | rfl | rfl | rfl | rfl | rfl | rfl | rfl | rfl | rfl | rfl | rfl | rfl | rfl <;> (show _ = _; kernel_rfl)
def placeN (a b : Int) : Int :=
 if a = 1 ∧ 0 ≤ b ∧ b ≤ 3 then b else if a = 2 ∧ 1 ≤ b ∧ b ≤ 6 then b + 3 else if a = 3 ∧ 0 ≤ b ∧ b ≤ 2 then b + 10 else if a = 4 ∧ b = 0 then 13 else if a = 5 ∧ 1 ≤ b ∧ b ≤ 6 then b + 13 else -1
theorem place_at (k : Nat) (hk : k < 20) : placeN (nmA k) (nmB k) = k := by
 have h : k = 0 ∨ k = 1 ∨ k = 2 ∨ k = 3 ∨ k = 4 ∨ k = 5 ∨ k = 6 ∨ k = 7 ∨ k = 8 ∨ k = 9 ∨ k = 10 ∨ k = 11 ∨ k = 12 ∨ k = 13 ∨ k = 14 ∨ k = 15 ∨ k = 16 ∨ k = 17 ∨ k = 18 ∨ k = 19 := by omega
 rcases h with rfl | rfl | rfl | rfl | rfl | rfl | rfl | rfl | rfl | rfl | rfl | rfl | rfl | rfl | rfl | rfl | rfl | rfl | rfl | rfl <;> (show _ = _; kernel_rfl)
theorem place_none (a b : Int) (h : ∀ k : Nat, k < 20 → ¬ (nmA k = a ∧ nmB k = b)) : placeN a b = -1 := by
 have e1 : ¬ (a = 1 ∧ 0 ≤ b ∧ b ≤ 3) := by
   rintro ⟨rfl, h0, h1⟩
   have h2 : b = 0 ∨ b = 1 ∨ b = 2 ∨ b = 3 := by omega
   rcases h2 with rfl | rfl | rfl | rfl
   · exact h 0 (by omega) ⟨rfl, rfl⟩
   · exact h 1 (by omega) ⟨rfl, rfl⟩
   · exact h 2 (by omega) ⟨rfl, rfl⟩
   · exact h 3 (by omega) ⟨rfl, rfl⟩
 have e2 : ¬ (a = 2 ∧ 1 ≤ b ∧ b ≤ 6) := by
   rintro ⟨rfl, h0, h1⟩
   have h2 : b = 1 ∨ b = 2 ∨ b = 3 ∨ b = 4 ∨ b = 5 ∨ b = 6 := by omega
   rcases h2 with rfl | rfl | rfl | rfl | rfl | rfl
   · exact h 4 (by omega) ⟨rfl, rfl⟩
   · exact h 5 (by omega) ⟨rfl, rfl⟩
   · exact h 6 (by omega) ⟨rfl, rfl⟩
   · exact h 7 (by omega) ⟨rfl, rfl⟩
   · exact h 8 (by omega) ⟨rfl, rfl⟩
   · exact h 9 (by omega) ⟨rfl, rfl⟩
 have e3 : ¬ (a = 3 ∧ 0 ≤ b ∧ b ≤ 2) := by
   rintro ⟨rfl, h0, h1⟩
   have h2 : b = 0 ∨ b = 1 ∨ b = 2 := by omega
   rcases h2 with rfl | rfl | rfl
   · exact h 10 (by omega) ⟨rfl, rfl⟩
   · exact h 11 (by omega) ⟨rfl, rfl⟩
   · exact h 12 (by omega) ⟨rfl, rfl⟩
 have e4 : ¬ (a = 4 ∧ b = 0) := by
   rintro ⟨rfl, rfl⟩
   exact h 13 (by omega) ⟨rfl, rfl⟩
 have e5 : ¬ (a = 5 ∧ 1 ≤ b ∧ b ≤ 6) := by
   rintro ⟨rfl, h0, h1⟩
   have h2 : b = 1 ∨ b = 2 ∨ b = 3 ∨ b = 4 ∨ b = 5 ∨ b = 6 := by omega
   rcases h2 with rfl | rfl | rfl | rfl | rfl | rfl
   · exact h 14 (by omega) ⟨rfl, rfl⟩
   · exact h 15 (by omega) ⟨rfl, rfl⟩
   · exact h 16 (by omega) ⟨rfl, rfl⟩
   · exact h 17 (by omega) ⟨rfl, rfl⟩
   · exact h 18 (by omega) ⟨rfl, rfl⟩
   · exact h 19 (by omega) ⟨rfl, rfl⟩
 unfold placeN
 rw [if_neg e1, if_neg e2, if_neg e3, if_neg e4, if_neg e5]
theorem info_int : (Tryz.prog.info? 3).map (fun i => (i.zero, i.size, i.bytes)) = some (some (.int .i64 0), 1, 8) := by kernel_rfl
theorem cells_int : Tryz.prog.cellsOf 3 = 1 := by kernel_rfl
theorem part0 (x y : Int) (w : World) : (part 3 #[.int .i64 x, .int .i64 y] 0).run Tryz.prog w = .ok (.int .i64 x) w := by kernel_rfl
theorem part1 (x y : Int) (w : World) : (part 3 #[.int .i64 x, .int .i64 y] 1).run Tryz.prog w = .ok (.int .i64 y) w := by kernel_rfl
theorem eq_names (x y a b : Int) (w : World) : (binOp .eql 138 (.agg #[.int .i64 x, .int .i64 y]) (.agg #[.int .i64 a, .int .i64 b])).run Tryz.prog w = .ok (.bool (decide (x = a ∧ y = b))) w := by
 obtain ⟨i0, hi, hz0, hz1, hz2⟩ := info_parts info_int
 rw [run_eql_struct, run_equalIn_array w 9999 _ _ Tryz.underlying138 hi, cells_int, show List.range 2 = [0, 1] from rfl]
 simp only [Op.eqItems, Sem.run_bind, Nat.zero_mul, Nat.one_mul, part0, Result.andThen_ok, run_equalIn_int w 9998 3 .i64 .i64 _ _ Tryz.underlying3]
 by_cases h0 : x = a <;> by_cases h1 : y = b <;> simp [h0, h1, part1, run_equalIn_int w 9998 3 .i64 .i64 _ _ Tryz.underlying3]
theorem placeOf_any (a b : Int) (w : World) (hN : Names w) :
   Calls Tryz.prog 124 #[.agg #[.int .i64 a, .int .i64 b]] w fun e w' => e = .returned (.int .i64 (placeN a b)) ∧ Below w.heap.size w w' := by
 have hlt := hN.lt
 obtain ⟨tn, fr, hbl⟩ := (hN.below ((Below.refl _ w).alloc (Nat.le_refl _) (.cells #[.int .i64 a, .int .i64 b] 138)) hN.lt).block
 have hsz : nmCells.size = 40 := by decide +kernel
 have hix := index_names
 clear hN
 obtain ⟨C, hC⟩ : ∃ C, C = nmCells := ⟨_, rfl⟩
 rw [← hC] at hbl hsz hix
 have HC : Hid (C = nmCells) := hC
 have HB : Hid (_) := hbl
 have HS : Hid (_) := hsz
 clear hC hbl hsz
 go_enter Tryz.func124, Tryz.ntmps124
 iterate 15 (first | go_values | go_skip | go_guarded | go_step | go_upon)
 refine wpList_load_row rfl 150 (.global 0) rfl 0 ?q1 tn C fr _ HB.out Tryz.underlying150 rfl ?q3 ?_
 case q1 => rfl
 case q3 => rw [HS.out]; kernel_rfl
 go_wp2
 go_loopw [6] (fun i wr => ∃ k : Nat, i = .int .i64 (k : Int) ∧ k ≤ 20 ∧ (∀ j, j < k → ¬ (nmA j = a ∧ nmB j = b)) ∧ Below w.heap.size w wr ∧ wr.heap[w.heap.size]? = some (.cells #[.int .i64 a, .int .i64 b] 138 (0, 0))) (fun i _ => 20 - (intOf i).toNat)
 case atStart =>
   exact ⟨0, rfl, by omega, fun j hj => by omega, (Below.refl _ w).alloc (Nat.le_refl _) _, heap_alloc_new _ _⟩
 case round =>
   obtain ⟨k, rfl, hk, hno, hb, hnm⟩ := hrel
   have HNO : Hid (_) := hno
   have hB : w.heap.size < wr.heap.size := (Array.getElem?_eq_some_iff.1 hnm).1
   have c0 : wr.cell? ⟨w.heap.size, 0, none⟩ = some (.int .i64 a) := by rw [cell_of_row _ _ 0 _ _ _ hnm]; rfl
   have c1 : wr.cell? ⟨w.heap.size, 1, none⟩ = some (.int .i64 b) := by rw [cell_of_row _ _ 1 _ _ _ hnm]; rfl
   have HNM : Hid (_) := hnm
   clear hno hnm
   by_cases hlt : k < 20
   · obtain ⟨x, hx⟩ : ∃ x, x = nmA k := ⟨_, rfl⟩
     obtain ⟨y, hy⟩ : ∃ y, y = nmB k := ⟨_, rfl⟩
     have hi1 := hix k hlt
     rw [← hx, ← hy] at hi1
     have HX : Hid (_) := hx
     have HY : Hid (_) := hy
     clear hx hy hix
     have hq := eq_names x y a b
     by_cases he : x = a ∧ y = b
     · obtain ⟨rfl, rfl⟩ := he
       go_wp2
       go_ret
       exact ⟨by rw [HX.out, HY.out, place_at k hlt]; rfl, hb.alloc (Nat.le_of_lt hB) _⟩
     · go_wp2
       go_roundw
       case rel =>
         refine ⟨k + 1, by go_num, by omega, fun j hj => ?_, hb.alloc (Nat.le_of_lt hB) _, (Below.heap_alloc _ _ _ hB).trans HNM.out⟩
         by_cases hjk : j = k
         · subst hjk; rw [← HX.out, ← HY.out]; exact he
         · exact HNO.out j (by omega)
       case measure => simp [intOf]; omega
   · obtain rfl : k = 20 := by omega
     go_wp2
     go_ret
     exact ⟨by rw [place_none a b HNO.out]; rfl, hb⟩
theorem specRowAt_any (k : Int) (w : World) :
   Calls Tryz.prog 76 #[.int .i64 k] w fun e w' => e = .returned (.int .i64 (placeN 1 k)) ∧ w' = w := by
 by_cases h : 0 ≤ k ∧ k ≤ 3
 · have hp : placeN 1 k = k := by unfold placeN; repeat' split <;> omega
   rw [hp]
   clear hp
   obtain ⟨h0, h1⟩ := h
   go_enter Tryz.func76, Tryz.ntmps76
   go_wp2
   go_ret
   exact ⟨rfl, rfl⟩
 · have hp : placeN 1 k = -1 := by unfold placeN; repeat' split <;> omega
   rw [hp]
   clear hp
   by_cases h0 : 0 ≤ k
   · have h1 : ¬ k ≤ 3 := by omega
     clear h
     go_enter Tryz.func76, Tryz.ntmps76
     go_wp2
     go_ret
     exact ⟨rfl, rfl⟩
   · have h1 : k < 0 := by omega
     clear h h0
     go_enter Tryz.func76, Tryz.ntmps76
     go_wp2
     go_ret
     exact ⟨rfl, rfl⟩
theorem implRowAt_any (k : Int) (w : World) (hN : Names w) :
   Calls Tryz.prog 93 #[.int .i64 k] w fun e w' => e = .returned (.int .i64 (placeN 1 k)) ∧ Below w.heap.size w w' := by
 go_enter Tryz.func93, Tryz.ntmps93
 go_wp2_with (go_at_call 124; refine (placeOf_any 1 k _ hN).mono ?_; rintro e w1 ⟨rfl, hb⟩)
 go_ret
 exact ⟨rfl, hb⟩
end
end Go.Proofs.YtcfimaffeopbbaaGreatDoor
