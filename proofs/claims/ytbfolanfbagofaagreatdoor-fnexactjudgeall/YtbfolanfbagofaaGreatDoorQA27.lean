/- Texts joined: ImplAfter, KeyRoom, HowR, ComR1, ComR2. -/
import Derived.Test.YtbfolanfbagofaaGreatDoorQA22
import Derived.Test.YtbfolanfbagofaaGreatDoorQA26
import Derived.Test.YtbfolanfbagofaaGreatDoorQA21
import Derived.Test.YtbfolanfbagofaaGreatDoorQA15
import Derived.Test.YtbfolanfbagofaaGreatDoorQA23
import Derived.Test.YtbfolanfbagofaaGreatDoorQA05
import Derived.Deep.RegionHeld3
set_option maxHeartbeats 4000000
set_option maxRecDepth 100000
namespace Go.Proofs.YtbfolanfbagofaaGreatDoor
section
open Go.ChangeShapes Go.WideShapes Go.ChangeAt Go.RowKit
def Box0 (w : World) (b : Nat) : Prop := w.heap[b]? = some (.cells #[.slice none 0 0, .int .i64 0] 41)
theorem Box0.facts {w : World} {b : Nat} (h : Box0 w b) : w.cell? ⟨b, 0, none⟩ = some (.slice none 0 0) ∧ w.cell? ⟨b, 1, none⟩ = some (.int .i64 0) ∧ w.frozen? ⟨b, 0, none⟩ = false ∧ w.frozen? ⟨b, 1, none⟩ = false ∧ b < w.heap.size := by
 unfold Box0 at h
 exact ⟨by simp [World.cell?, h], by simp [World.cell?, h], by simp [World.frozen?, h], by simp [World.frozen?, h], (Array.getElem?_eq_some_iff.1 h).1⟩
theorem box_first {W w' : World} {b : Nat} {ob : Obj} (hb : W.heap.size = b) (hg : ((W.alloc (.cells #[.slice none 0 0, .int .i64 0] 41)).alloc ob).drew.grownBy w' (some (b + 1))) : Box0 w' b := by
 subst hb
 unfold Box0
 rw [hg.block W.heap.size (by simp; omega) (by simp)]
 show ((W.heap.push _).push _)[W.heap.size]? = _
 rw [Array.getElem?_push_lt (by simp), Array.getElem_push_eq]
theorem box_second {W w' : World} {b : Nat} {ob : Obj} (hb : W.heap.size = b) (hg : ((W.alloc ob).alloc (.cells #[.slice none 0 0, .int .i64 0] 41)).drew.grownBy w' (some b)) : Box0 w' (b + 1) := by
 subst hb
 unfold Box0
 rw [hg.block (W.heap.size + 1) (by simp) (by simp)]
 show ((W.heap.push ob).push _)[W.heap.size + 1]? = _
 rw [show W.heap.size + 1 = (W.heap.push ob).size by simp, Array.getElem?_push_size]
theorem Box0.apart {w : World} {b base n : Nat} {v : Value} {xs : List Value} (h : Box0 w b) (ho : w.ownsRow base 3 1 v n xs) : v.ownBlock ≠ some b := by
 intro e
 rcases ho.2 with ⟨rfl, _⟩ | ⟨g, cap, cur, rfl, _, hg, _⟩
 · simp [Value.ownBlock] at e
 · have e' : g = b := by simpa [Value.ownBlock] using e
   subst e'
   unfold Box0 at h
   rw [hg] at h
   simp at h
theorem stored_box {w : World} {b : Nat} {u0 u1 : Value} (h0 : w.cell? ⟨b, 0, none⟩ = some u0) (h1 : w.cell? ⟨b, 1, none⟩ = some u1) (x y : Value) :
   ((w.setCell ⟨b, 0, none⟩ x).setCell ⟨b, 1, none⟩ y).cell? ⟨b, 0, none⟩ = some x ∧ ((w.setCell ⟨b, 0, none⟩ x).setCell ⟨b, 1, none⟩ y).cell? ⟨b, 1, none⟩ = some y := by
 refine ⟨?_, ?_⟩
 · rw [World.cell?_setCell_other _ _ _ _ (fun e => by cases e), World.cell?_setCell_same _ _ _ h0]
 · refine World.cell?_setCell_same _ _ _ (u := u1) ?_
   rw [World.cell?_setCell_other _ _ _ _ (fun e => by cases e)]
   exact h1
theorem own_empty_at {w : World} {base g : Nat} (hg : w.heap.size = g) (hb : base ≤ g) : (w.alloc (.cells #[] 3)).ownsRow base 3 1 (.slice (some ⟨g, 0, none⟩) 0 0) 0 [] := by
 subst hg
 exact own_empty hb
theorem own_empty_box_drew {w : World} {base g : Nat} {ob : Obj} (hg : w.heap.size = g) (hb : base ≤ g) : ((w.alloc (.cells #[] 3)).alloc ob).drew.ownsRow base 3 1 (.slice (some ⟨g, 0, none⟩) 0 0) 0 [] := (own_empty_at hg hb).alloc ob
theorem news_of {w : World} {p o n : Nat} {xs : List Int} (h : IntAt w (some ⟨p, o, none⟩) n xs) : ∀ (j : Nat) (u : Value), (xs.map I)[j]? = some u → w.cell? ((⟨p, o, none⟩ : Addr).add j) = some u := by
 intro j u hj
 have hl := h.1
 have hj' : j < n := by
   rcases Nat.lt_or_ge j n with h1 | h1
   · exact h1
   · rw [List.getElem?_eq_none (by simp; omega)] at hj; cases hj
 have e : (⟨p, o, none⟩ : Addr).add j = ⟨p, o + j, none⟩ := by simp [Addr.add]
 rw [e, h.cells j hj']
 rw [List.getElem?_map, List.getElem?_eq_getElem (by omega)] at hj
 simpa [List.getD, show j < xs.length by omega] using hj
end
section
open Go.ChangeShapes Go.WideShapes Go.ChangeAt Go.RowKit Go.Maps
theorem implKeyOf_room (a : Option Addr) (cp : Nat) (hcp : 4 ≤ cp) (st v : Int) (xs : List Int) (w : World) (hA : IntAt w a 4 xs) (hi : ∀ x ∈ xs, (Lit.int .i64 x).wf = true) (hv : 1 ≤ v ∧ v ≤ 6) :
   Calls Tryz.prog 163 #[.agg #[.slice a 4 cp, .int .i64 st], .int .i64 v] w fun e w' => e = .returned (.int .i64 (keyN xs v)) ∧ Below w.heap.size w w' := by
 have HA : Hid (IntAt w a 4 xs) := hA
 have HI : Hid (∀ x ∈ xs, (Lit.int .i64 x).wf = true) := hi
 obtain ⟨B, hB⟩ : ∃ B, keyN xs v = B := ⟨_, rfl⟩
 rw [hB]
 have HB : Hid (keyN xs v = B) := hB
 clear hA hi hB
 go_enter Tryz.func163, Tryz.ntmps163
 go_wp2_with fail
 refine (holdersOf_cap Unit a cp hcp st xs _ (HA.out.below ((Below.refl _ w).alloc (Nat.le_refl _) _) (Nat.le_refl _)) HI.out).mono ?_
 rintro e w1 ⟨rfl, hb0, R, D, hown, hR, hD⟩
 have hb1 : Below w.heap.size w w1 := ((Below.refl _ w).alloc (Nat.le_refl _) _).trans (hb0.mono (by simp))
 clear hb0
 simp only [World.size_alloc] at hown hR
 obtain ⟨p, l, c, hrun, hc⟩ := look_row hown hR hD v (by omega) (WalkArith.wf_i64 (by omega))
 clear hown hR hD
 rcases hc with ⟨hp, rfl⟩ | ⟨hp, ho⟩
 · have HP : Hid (posK xs 4 v = []) := hp
   clear hp
   go_wp2
   go_ret
   exact ⟨by rw [← HB.out, keyN_none HP.out]; rfl, hb1⟩
 · obtain rfl := row_len ho
   obtain ⟨g, rfl, hg, _⟩ := row_intAt ho hp (posK_le xs v)
   rw [keyN_some hp, HB.out] at hg
   have h4 := posK_le xs v
   have h5 : 0 < (posK xs 4 v).length := List.length_pos_iff.2 hp
   obtain ⟨q, hq⟩ : ∃ q, (posK xs 4 v).length = q := ⟨_, rfl⟩
   rw [hq] at hrun h4 h5
   clear hp ho hq
   by_cases h1 : q = 1
   · subst h1
     go_wp2
     go_ret
     exact ⟨rfl, hb1⟩
   · have h6 : ((q : Int) == 1) = false := by simp; omega
     have h7 : 1 < q := by omega
     go_wp2_with fail
     refine (implValOk_any v _).mono ?_
     rintro e w2 ⟨rfl, rfl⟩
     rw [show decide (1 ≤ v ∧ v ≤ 6) = true from decide_eq_true hv]
     go_wp2
     go_ret
     exact ⟨rfl, hb1⟩
theorem own_room {w : World} {base : Nat} {a : Option Addr} {c : Nat} {xs : List Value} (h : w.ownsRow base 3 1 (.slice a 4 c) 4 xs) : 4 ≤ c ∧ ∃ g, a = some ⟨g, 0, none⟩ := by
 rcases h.2 with ⟨_, h0⟩ | ⟨g, cap, cur, hv, _, _, hle, _⟩
 · omega
 · cases hv
   exact ⟨hle, _, rfl⟩
theorem implHowMany_room (a : Option Addr) (cp : Nat) (hcp : 4 ≤ cp) (st c : Int) (xs : List Int) (w : World) (hA : IntAt w a 4 xs) (hi : ∀ x ∈ xs, (Lit.int .i64 x).wf = true) :
   Calls Tryz.prog 165 #[.agg #[.slice a 4 cp, .int .i64 st], .int .i64 c] w fun e w' => e = .returned (.int .i64 (cntK xs c 4)) ∧ Below w.heap.size w w' := by
 have HA : Hid (IntAt w a 4 xs) := hA
 have HI : Hid (∀ x ∈ xs, (Lit.int .i64 x).wf = true) := hi
 have HCP : Hid (4 ≤ cp) := hcp
 clear hA hi hcp
 go_enter Tryz.func165, Tryz.ntmps165
 go_wp2_with fail
 refine (holdersOf_cap Unit a cp HCP.out st xs _ (HA.out.below ((Below.refl _ w).alloc (Nat.le_refl _) _) (Nat.le_refl _)) HI.out).mono ?_
 rintro e w1 ⟨rfl, hb1, R, D, hown, hR, hD⟩
 have hbw : Below w.heap.size w w1 := ((Below.refl _ w).alloc (Nat.le_refl _) _).trans (hb1.mono (by simp))
 have hsz1 := hown.lt
 simp only [World.size_alloc] at hown hR hsz1
 have HR : Hid (RowsIn R w1 (w.heap.size + 1 + 2)) := hR
 have HD1 : Hid (HD xs D) := hD
 clear hb1 hR hD
 go_wp2_with (first | (at_range; refine wpList_range_own _ rfl _ 142 rfl 3 28 mapLaw Tryz.underlying142 R (w.heap.size + 1 + 1) 4 D rfl hown ?_; intro w2 hrg0 hg0 hs2) | fail)
 go_frame
 have hb2 : Below w1.heap.size w1 w2 := (Below.refl _ _).grown hg0 (Nat.le_refl _) (fun k e => by cases e)
 clear hown hg0
 go_loopw [5] (fun q wr => ∃ left cnt, q = .int .i64 (cntH xs left c) ∧ wr.ranges Tryz.prog 3 R (w.heap.size + 1 + 1) w1.heap.size 4 D left cnt ∧ Below w1.heap.size w1 wr) (fun _ wr => wr.rangeLeft (w.heap.size + 1 + 1) w1.heap.size)
 case atStart =>
   refine ⟨_, _, ?_, hrg0, hb2⟩
   rw [cntH_none c]
   intro i hi h0
   show Maps.has D _ = true
   rw [(HD1.out _).1]
   refine decide_eq_true ⟨h0, ?_⟩
   have hm : ((i : Nat) : Int) ∈ posK xs 4 (xs.getD i 0) := List.mem_map.2 ⟨i, List.mem_filter.2 ⟨List.mem_range.2 hi, by simp⟩, rfl⟩
   exact List.ne_nil_of_mem hm
 case round =>
   obtain ⟨left, cnt, rfl, hrg, hbr⟩ := hrel
   clear hrg0 hb2
   go_wp2_with (first | (at_next; refine wpList_next_rows _ rfl _ rfl R HR.out (w.heap.size + 1 + 1) w1.heap.size 4 D HD1.out left cnt rfl hrg ?_ ?_) | fail)
   · intro _ hl0
     go_wp2
     go_ret
     exact ⟨by rw [cntH_all c hl0]; rfl, hbw.trans (hbr.mono hbw.size)⟩
   · intro x p l c' w3 cnt3 hlx hx0 hpx hrow hrg3 hlt hg3 hs3 hen
     have hb3 : Below w1.heap.size w1 w3 := hbr.grown hg3 hbr.size (fun k e => by cases e; exact Nat.le_refl _)
     have hb03 := hbw.trans (hb3.mono hbw.size)
     obtain rfl := row_len hrow
     have hq := cntH_le xs left c
     have h4 := posK_le xs x
     have hst := cntH_step (xs := xs) c hlx
     obtain ⟨q, hq1⟩ : ∃ q, cntH xs left c = q := ⟨_, rfl⟩
     obtain ⟨m, hm1⟩ : ∃ m, (posK xs 4 x).length = m := ⟨_, rfl⟩
     rw [hq1, hm1] at hst
     rw [hq1] at hq ⊢
     rw [hm1] at h4 hen ⊢
     have HS : Hid (cntH xs (fun z => left z && !z.sameKey (.int .i64 x)) c = q + if bitW x c = 1 then (m : Int) else 0) := hst
     clear hrow hg3 hpx hst hq1 hm1
     go_wp2_with fail
     refine (implValOk_any x _).mono ?_
     rintro e w4 ⟨rfl, rfl⟩
     by_cases hv : 1 ≤ x ∧ x ≤ 6
     · rw [show decide (1 ≤ x ∧ x ≤ 6) = true from decide_eq_true hv]
       go_wp2_with fail
       refine (implClassOf_any x _).mono ?_
       rintro e w5 ⟨rfl, rfl⟩
       rcases eqb (classN x) c with ⟨g0, g1⟩ | ⟨g0, g1⟩
       · have hbit : Hid (bitW x c = 1) := by unfold bitW; exact if_pos ⟨hv, g0⟩
         go_wp2
         refine ⟨⟨_, _, ?_, hrg3, hb3⟩, by rw [hrg3.left_eq, hrg.left_eq]; omega⟩
         rw [HS.out, if_pos hbit.out]
       · have hbit : Hid (bitW x c = 0) := by unfold bitW; exact if_neg (fun h => g0 h.2)
         go_wp2
         refine ⟨⟨_, _, ?_, hrg3, hb3⟩, by rw [hrg3.left_eq, hrg.left_eq]; omega⟩
         rw [HS.out, hbit.out]
         simp
     · rw [show decide (1 ≤ x ∧ x ≤ 6) = false from decide_eq_false hv]
       have hbit : Hid (bitW x c = 0) := by unfold bitW; exact if_neg (fun h => hv h.1)
       go_wp2
       refine ⟨⟨_, _, ?_, hrg3, hb3⟩, by rw [hrg3.left_eq, hrg.left_eq]; omega⟩
       rw [HS.out, hbit.out]
       simp
theorem com_boxesR {w : World} {p o cp j : Nat} {st n k v x : Int} {T : TypeId} (hc : w.cell? ⟨p, o + j, none⟩ = some (I x)) {W0 w' : World} (hW : W0 = (w.alloc (.cells #[.slice (some ⟨p, o, none⟩) 4 cp, .int .i64 st] 41)).alloc (.cells #[.int .i64 n, .int .i64 k, .int .i64 v] T)) (hb : Below (w.heap.size + 1 + 1) W0 w') :
   (w'.cell? ⟨w.heap.size, 0, none⟩ = some (.slice (some ⟨p, o, none⟩) 4 cp) ∧ w'.cell? ⟨w.heap.size, 1, none⟩ = some (.int .i64 st) ∧ w'.cell? ⟨w.heap.size + 1, 1, none⟩ = some (.int .i64 k) ∧ w'.cell? ⟨w.heap.size + 1, 2, none⟩ = some (.int .i64 v) ∧ w'.cell? ⟨p, o + j, none⟩ = some (I x)) ∧ Below w.heap.size w w' := by
 have hp : p < w.heap.size := World.block_lt_of_cell? w _ hc
 subst hW
 refine ⟨⟨?_, ?_, ?_, ?_, ?_⟩, (((Below.refl _ w).alloc (Nat.le_refl _) _).alloc (by simp) _).trans (hb.mono (by omega))⟩
 · rw [hb.cell (show w.heap.size < _ by omega)]; simp
 · rw [hb.cell (show w.heap.size < _ by omega)]; simp
 · rw [hb.cell (show w.heap.size + 1 < _ by omega)]; simp
 · rw [hb.cell (show w.heap.size + 1 < _ by omega)]; simp
 · rw [hb.cell (show p < _ by omega), World.cell?_alloc_past _ _ _ (show p < _ by simp; omega), World.cell?_alloc_past _ _ _ (show p < _ from hp), hc]
theorem comR_3_0 (p o cp : Nat) (hcp : 4 ≤ cp) (j : Nat) (st x : Int) (xs : List Int) (w : World) (hA : IntAt w (some ⟨p, o, none⟩) 4 xs) (hi : ∀ x ∈ xs, (Lit.int .i64 x).wf = true) (hj : j < 4) (hx : xs.getD j 0 = x) (h0 : x = 0) :
   Calls Tryz.prog 133 #[.agg #[.slice (some ⟨p, o, none⟩) 4 cp, .int .i64 st], .iface 224 (OpV 3 ((j : Int)) (0))] w fun e w' => ComSays e w w' [(3, [])] ∧ Below w.heap.size w w' := by
 have hc : w.cell? ⟨p, o + j, none⟩ = some (I x) := by have h := hA.cells j hj; rwa [hx] at h
 have hp : p < w.heap.size := World.block_lt_of_cell? w _ hc
 have hj0 : (0 : Int) ≤ (j : Int) := by omega
 have hj1 : (j : Int) < 4 := by omega
 have HA : Hid (IntAt w (some ⟨p, o, none⟩) 4 xs) := hA
 have HI : Hid (∀ x ∈ xs, (Lit.int .i64 x).wf = true) := hi
 have HCP : Hid (4 ≤ cp) := hcp
 clear hA hi hx hcp
 have h0' : (x != 0) = false := by simpa using h0
 obtain ⟨W0, hW0⟩ : ∃ W0, W0 = (w.alloc (.cells #[.slice (some ⟨p, o, none⟩) 4 cp, .int .i64 st] 41)).alloc (.cells #[.int .i64 3, .int .i64 (j : Int), .int .i64 0] 224) := ⟨_, rfl⟩
 have hs0 : W0.heap.size = w.heap.size + 1 + 1 := by rw [hW0]; simp
 have HBX : Hid (∀ w', Below (w.heap.size + 1 + 1) W0 w' → (w'.cell? ⟨w.heap.size, 0, none⟩ = some (.slice (some ⟨p, o, none⟩) 4 cp) ∧ w'.cell? ⟨w.heap.size, 1, none⟩ = some (.int .i64 st) ∧ w'.cell? ⟨w.heap.size + 1, 1, none⟩ = some (.int .i64 (j : Int)) ∧ w'.cell? ⟨w.heap.size + 1, 2, none⟩ = some (.int .i64 0) ∧ w'.cell? ⟨p, o + j, none⟩ = some (I x)) ∧ Below w.heap.size w w') := fun w' hb => com_boxesR hc hW0 hb
 have t1 : ∀ w : World, (Instr.typeAssert (.iface 224 (OpV 3 ((j : Int)) (0))) 182 221 true).run Tryz.prog w = .ok (.tuple #[OpV 0 0 0, .bool false]) w := fun _ => by kernel_rfl
 have t2 : ∀ w : World, (Instr.typeAssert (.iface 224 (OpV 3 ((j : Int)) (0))) 182 223 true).run Tryz.prog w = .ok (.tuple #[OpV 0 0 0, .bool false]) w := fun _ => by kernel_rfl
 have t3 : ∀ w : World, (Instr.typeAssert (.iface 224 (OpV 3 ((j : Int)) (0))) 182 224 true).run Tryz.prog w = .ok (.tuple #[OpV 3 ((j : Int)) (0), .bool true]) w := fun _ => by kernel_rfl
 go_enter Tryz.func133, Tryz.ntmps133
 go_wp2_with fail
 rw [← hW0]
 clear hW0
 have hb9 : Below (w.heap.size + 1 + 1) W0 W0 := Below.refl _ _
 refine (or_on (w.heap.size + 1 + 1) W0 _ _ _ _ _ _ _ (by first | exact hc9 | exact hc9.alloc _ | exact com_empty_drew (by simp [hs0]) (by omega) | exact com_empty_at (by simp [hs0]) (by omega) | exact (com_empty_drew (by simp [hs0]) (by omega)).alloc _ | exact (com_empty_at (by simp [hs0]) (by omega)).alloc _ | exact com_empty_drew (by simp) (by omega) | exact com_empty_at (by simp) (by omega) | exact (com_empty_drew (by simp) (by omega)).alloc _ | exact (com_empty_at (by simp) (by omega)).alloc _) (by simp) (by repeat first | exact hb9 | apply Below.drew | apply Below.alloc | omega | (simp; omega) | simp) (by omega)).mono ?_
 rintro e w9 ⟨v9, rfl, hc9, hg9, hb9⟩
 have hs9 : w.heap.size + 1 + 1 ≤ w9.heap.size := by have h := hb9.size; omega
 go_wp2_with fail
 refine (or_no _ _ _ _ _ _).mono ?_
 rintro e w8 ⟨rfl, rfl⟩
 go_wp2
 go_ret
 first | exact ⟨com_done (by omega) hc9 (tells_1 _ _), (HBX.out _ hb9).2⟩ | exact ⟨com_done (by omega) (hc9.alloc _) (tells_1 _ _), (HBX.out _ (hb9.alloc (by omega) _)).2⟩
theorem comR_3_1 (p o cp : Nat) (hcp : 4 ≤ cp) (j : Nat) (st x : Int) (xs : List Int) (w : World) (hA : IntAt w (some ⟨p, o, none⟩) 4 xs) (hi : ∀ x ∈ xs, (Lit.int .i64 x).wf = true) (hj : j < 4) (hx : xs.getD j 0 = x) (h0 : x ≠ 0) :
   Calls Tryz.prog 133 #[.agg #[.slice (some ⟨p, o, none⟩) 4 cp, .int .i64 st], .iface 224 (OpV 3 ((j : Int)) (0))] w fun e w' => ComSays e w w' [(0, [])] ∧ Below w.heap.size w w' := by
 have hc : w.cell? ⟨p, o + j, none⟩ = some (I x) := by have h := hA.cells j hj; rwa [hx] at h
 have hp : p < w.heap.size := World.block_lt_of_cell? w _ hc
 have hj0 : (0 : Int) ≤ (j : Int) := by omega
 have hj1 : (j : Int) < 4 := by omega
 have HA : Hid (IntAt w (some ⟨p, o, none⟩) 4 xs) := hA
 have HI : Hid (∀ x ∈ xs, (Lit.int .i64 x).wf = true) := hi
 have HCP : Hid (4 ≤ cp) := hcp
 clear hA hi hx hcp
 have h0' : (x != 0) = true := by simpa using h0
 obtain ⟨W0, hW0⟩ : ∃ W0, W0 = (w.alloc (.cells #[.slice (some ⟨p, o, none⟩) 4 cp, .int .i64 st] 41)).alloc (.cells #[.int .i64 3, .int .i64 (j : Int), .int .i64 0] 224) := ⟨_, rfl⟩
 have hs0 : W0.heap.size = w.heap.size + 1 + 1 := by rw [hW0]; simp
 have HBX : Hid (∀ w', Below (w.heap.size + 1 + 1) W0 w' → (w'.cell? ⟨w.heap.size, 0, none⟩ = some (.slice (some ⟨p, o, none⟩) 4 cp) ∧ w'.cell? ⟨w.heap.size, 1, none⟩ = some (.int .i64 st) ∧ w'.cell? ⟨w.heap.size + 1, 1, none⟩ = some (.int .i64 (j : Int)) ∧ w'.cell? ⟨w.heap.size + 1, 2, none⟩ = some (.int .i64 0) ∧ w'.cell? ⟨p, o + j, none⟩ = some (I x)) ∧ Below w.heap.size w w') := fun w' hb => com_boxesR hc hW0 hb
 have t1 : ∀ w : World, (Instr.typeAssert (.iface 224 (OpV 3 ((j : Int)) (0))) 182 221 true).run Tryz.prog w = .ok (.tuple #[OpV 0 0 0, .bool false]) w := fun _ => by kernel_rfl
 have t2 : ∀ w : World, (Instr.typeAssert (.iface 224 (OpV 3 ((j : Int)) (0))) 182 223 true).run Tryz.prog w = .ok (.tuple #[OpV 0 0 0, .bool false]) w := fun _ => by kernel_rfl
 have t3 : ∀ w : World, (Instr.typeAssert (.iface 224 (OpV 3 ((j : Int)) (0))) 182 224 true).run Tryz.prog w = .ok (.tuple #[OpV 3 ((j : Int)) (0), .bool true]) w := fun _ => by kernel_rfl
 go_enter Tryz.func133, Tryz.ntmps133
 go_wp2_with fail
 rw [← hW0]
 clear hW0
 have hb9 : Below (w.heap.size + 1 + 1) W0 W0 := Below.refl _ _
 refine (or_no _ _ _ _ _ _).mono ?_
 rintro e w8 ⟨rfl, rfl⟩
 go_wp2_with fail
 refine (or_on (w.heap.size + 1 + 1) W0 _ _ _ _ _ _ _ (by first | exact hc9 | exact hc9.alloc _ | exact com_empty_drew (by simp [hs0]) (by omega) | exact com_empty_at (by simp [hs0]) (by omega) | exact (com_empty_drew (by simp [hs0]) (by omega)).alloc _ | exact (com_empty_at (by simp [hs0]) (by omega)).alloc _ | exact com_empty_drew (by simp) (by omega) | exact com_empty_at (by simp) (by omega) | exact (com_empty_drew (by simp) (by omega)).alloc _ | exact (com_empty_at (by simp) (by omega)).alloc _) (by simp) (by repeat first | exact hb9 | apply Below.drew | apply Below.alloc | omega | (simp; omega) | simp) (by omega)).mono ?_
 rintro e w9 ⟨v9, rfl, hc9, hg9, hb9⟩
 have hs9 : w.heap.size + 1 + 1 ≤ w9.heap.size := by have h := hb9.size; omega
 go_wp2
 go_ret
 first | exact ⟨com_done (by omega) hc9 (tells_1 _ _), (HBX.out _ hb9).2⟩ | exact ⟨com_done (by omega) (hc9.alloc _) (tells_1 _ _), (HBX.out _ (hb9.alloc (by omega) _)).2⟩
theorem comR_4_0 (p o cp : Nat) (hcp : 4 ≤ cp) (j : Nat) (st x : Int) (xs : List Int) (w : World) (hA : IntAt w (some ⟨p, o, none⟩) 4 xs) (hi : ∀ x ∈ xs, (Lit.int .i64 x).wf = true) (hj : j < 4) (hx : xs.getD j 0 = x) (h0 : x = 0) :
   Calls Tryz.prog 133 #[.agg #[.slice (some ⟨p, o, none⟩) 4 cp, .int .i64 st], .iface 225 (OpV 4 ((j : Int)) (0))] w fun e w' => ComSays e w w' [(3, [])] ∧ Below w.heap.size w w' := by
 have hc : w.cell? ⟨p, o + j, none⟩ = some (I x) := by have h := hA.cells j hj; rwa [hx] at h
 have hp : p < w.heap.size := World.block_lt_of_cell? w _ hc
 have hj0 : (0 : Int) ≤ (j : Int) := by omega
 have hj1 : (j : Int) < 4 := by omega
 have HA : Hid (IntAt w (some ⟨p, o, none⟩) 4 xs) := hA
 have HI : Hid (∀ x ∈ xs, (Lit.int .i64 x).wf = true) := hi
 have HCP : Hid (4 ≤ cp) := hcp
 clear hA hi hx hcp
 have h0' : (x != 0) = false := by simpa using h0
 obtain ⟨W0, hW0⟩ : ∃ W0, W0 = (w.alloc (.cells #[.slice (some ⟨p, o, none⟩) 4 cp, .int .i64 st] 41)).alloc (.cells #[.int .i64 4, .int .i64 (j : Int), .int .i64 0] 225) := ⟨_, rfl⟩
 have hs0 : W0.heap.size = w.heap.size + 1 + 1 := by rw [hW0]; simp
 have HBX : Hid (∀ w', Below (w.heap.size + 1 + 1) W0 w' → (w'.cell? ⟨w.heap.size, 0, none⟩ = some (.slice (some ⟨p, o, none⟩) 4 cp) ∧ w'.cell? ⟨w.heap.size, 1, none⟩ = some (.int .i64 st) ∧ w'.cell? ⟨w.heap.size + 1, 1, none⟩ = some (.int .i64 (j : Int)) ∧ w'.cell? ⟨w.heap.size + 1, 2, none⟩ = some (.int .i64 0) ∧ w'.cell? ⟨p, o + j, none⟩ = some (I x)) ∧ Below w.heap.size w w') := fun w' hb => com_boxesR hc hW0 hb
 have t1 : ∀ w : World, (Instr.typeAssert (.iface 225 (OpV 4 ((j : Int)) (0))) 182 221 true).run Tryz.prog w = .ok (.tuple #[OpV 0 0 0, .bool false]) w := fun _ => by kernel_rfl
 have t2 : ∀ w : World, (Instr.typeAssert (.iface 225 (OpV 4 ((j : Int)) (0))) 182 223 true).run Tryz.prog w = .ok (.tuple #[OpV 0 0 0, .bool false]) w := fun _ => by kernel_rfl
 have t3 : ∀ w : World, (Instr.typeAssert (.iface 225 (OpV 4 ((j : Int)) (0))) 182 224 true).run Tryz.prog w = .ok (.tuple #[OpV 0 0 0, .bool false]) w := fun _ => by kernel_rfl
 have t4 : ∀ w : World, (Instr.typeAssert (.iface 225 (OpV 4 ((j : Int)) (0))) 182 225 true).run Tryz.prog w = .ok (.tuple #[OpV 4 ((j : Int)) (0), .bool true]) w := fun _ => by kernel_rfl
 go_enter Tryz.func133, Tryz.ntmps133
 go_wp2_with fail
 rw [← hW0]
 clear hW0
 have hb9 : Below (w.heap.size + 1 + 1) W0 W0 := Below.refl _ _
 go_region_held3 (fun w' => w'.cell? ⟨w.heap.size, 0, none⟩ = some (.slice (some ⟨p, o, none⟩) 4 cp) ∧ w'.cell? ⟨w.heap.size, 1, none⟩ = some (.int .i64 st) ∧ w'.cell? ⟨w.heap.size + 1, 1, none⟩ = some (.int .i64 (j : Int)) ∧ w'.cell? ⟨w.heap.size + 1, 2, none⟩ = some (.int .i64 0) ∧ w'.cell? ⟨p, o + j, none⟩ = some (I x))
     (first | (exact (HBX.out _ (by repeat first | exact hb9 | apply Below.drew | apply Below.alloc | omega | (simp; omega) | simp)).1) | go_keep)
     (first
     | (have _m := m1
        go_at_call 164
        refine (or_no _ _ _ _ _ _).mono ?_
        rintro e w8 ⟨rfl, rfl⟩
        have m2 : True := trivial)
     | (skip
        go_at_call 164
        refine (or_on (w.heap.size + 1 + 1) W0 _ _ _ _ _ _ _ (by first | exact hc9 | exact hc9.alloc _ | exact com_empty_drew (by simp [hs0]) (by omega) | exact com_empty_at (by simp [hs0]) (by omega) | exact (com_empty_drew (by simp [hs0]) (by omega)).alloc _ | exact (com_empty_at (by simp [hs0]) (by omega)).alloc _ | exact com_empty_drew (by simp) (by omega) | exact com_empty_at (by simp) (by omega) | exact (com_empty_drew (by simp) (by omega)).alloc _ | exact (com_empty_at (by simp) (by omega)).alloc _) (by simp) (by repeat first | exact hb9 | apply Below.drew | apply Below.alloc | omega | (simp; omega) | simp) (by omega)).mono ?_
        rintro e w9 ⟨v9, rfl, hc9, hg9, hb9⟩
        have hs9 : w.heap.size + 1 + 1 ≤ w9.heap.size := by have h := hb9.size; omega
        have m1 : True := trivial))
 all_goals
   go_wp2
   go_ret
   first | exact ⟨com_done (by omega) hc9 (tells_1 _ _), (HBX.out _ hb9).2⟩ | exact ⟨com_done (by omega) (hc9.alloc _) (tells_1 _ _), (HBX.out _ (hb9.alloc (by omega) _)).2⟩
theorem comR_4_1 (p o cp : Nat) (hcp : 4 ≤ cp) (j : Nat) (st x : Int) (xs : List Int) (w : World) (hA : IntAt w (some ⟨p, o, none⟩) 4 xs) (hi : ∀ x ∈ xs, (Lit.int .i64 x).wf = true) (hj : j < 4) (hx : xs.getD j 0 = x) (h0 : x ≠ 0) :
   Calls Tryz.prog 133 #[.agg #[.slice (some ⟨p, o, none⟩) 4 cp, .int .i64 st], .iface 225 (OpV 4 ((j : Int)) (0))] w fun e w' => ComSays e w w' [(0, [x])] ∧ Below w.heap.size w w' := by
 have hc : w.cell? ⟨p, o + j, none⟩ = some (I x) := by have h := hA.cells j hj; rwa [hx] at h
 have hp : p < w.heap.size := World.block_lt_of_cell? w _ hc
 have hj0 : (0 : Int) ≤ (j : Int) := by omega
 have hj1 : (j : Int) < 4 := by omega
 have HA : Hid (IntAt w (some ⟨p, o, none⟩) 4 xs) := hA
 have HI : Hid (∀ x ∈ xs, (Lit.int .i64 x).wf = true) := hi
 have HCP : Hid (4 ≤ cp) := hcp
 clear hA hi hx hcp
 have h0' : (x != 0) = true := by simpa using h0
 obtain ⟨W0, hW0⟩ : ∃ W0, W0 = (w.alloc (.cells #[.slice (some ⟨p, o, none⟩) 4 cp, .int .i64 st] 41)).alloc (.cells #[.int .i64 4, .int .i64 (j : Int), .int .i64 0] 225) := ⟨_, rfl⟩
 have hs0 : W0.heap.size = w.heap.size + 1 + 1 := by rw [hW0]; simp
 have HBX : Hid (∀ w', Below (w.heap.size + 1 + 1) W0 w' → (w'.cell? ⟨w.heap.size, 0, none⟩ = some (.slice (some ⟨p, o, none⟩) 4 cp) ∧ w'.cell? ⟨w.heap.size, 1, none⟩ = some (.int .i64 st) ∧ w'.cell? ⟨w.heap.size + 1, 1, none⟩ = some (.int .i64 (j : Int)) ∧ w'.cell? ⟨w.heap.size + 1, 2, none⟩ = some (.int .i64 0) ∧ w'.cell? ⟨p, o + j, none⟩ = some (I x)) ∧ Below w.heap.size w w') := fun w' hb => com_boxesR hc hW0 hb
 have t1 : ∀ w : World, (Instr.typeAssert (.iface 225 (OpV 4 ((j : Int)) (0))) 182 221 true).run Tryz.prog w = .ok (.tuple #[OpV 0 0 0, .bool false]) w := fun _ => by kernel_rfl
 have t2 : ∀ w : World, (Instr.typeAssert (.iface 225 (OpV 4 ((j : Int)) (0))) 182 223 true).run Tryz.prog w = .ok (.tuple #[OpV 0 0 0, .bool false]) w := fun _ => by kernel_rfl
 have t3 : ∀ w : World, (Instr.typeAssert (.iface 225 (OpV 4 ((j : Int)) (0))) 182 224 true).run Tryz.prog w = .ok (.tuple #[OpV 0 0 0, .bool false]) w := fun _ => by kernel_rfl
 have t4 : ∀ w : World, (Instr.typeAssert (.iface 225 (OpV 4 ((j : Int)) (0))) 182 225 true).run Tryz.prog w = .ok (.tuple #[OpV 4 ((j : Int)) (0), .bool true]) w := fun _ => by kernel_rfl
 go_enter Tryz.func133, Tryz.ntmps133
 go_wp2_with fail
 rw [← hW0]
 clear hW0
 have hb9 : Below (w.heap.size + 1 + 1) W0 W0 := Below.refl _ _
 go_region_held3 (fun w' => w'.cell? ⟨w.heap.size, 0, none⟩ = some (.slice (some ⟨p, o, none⟩) 4 cp) ∧ w'.cell? ⟨w.heap.size, 1, none⟩ = some (.int .i64 st) ∧ w'.cell? ⟨w.heap.size + 1, 1, none⟩ = some (.int .i64 (j : Int)) ∧ w'.cell? ⟨w.heap.size + 1, 2, none⟩ = some (.int .i64 0) ∧ w'.cell? ⟨p, o + j, none⟩ = some (I x))
     (first | (exact (HBX.out _ (by repeat first | exact hb9 | apply Below.drew | apply Below.alloc | omega | (simp; omega) | simp)).1) | go_keep)
     (first
     | (have _m := m1
        go_at_call 164
        refine (or_on (w.heap.size + 1 + 1) W0 _ _ _ _ _ _ _ (by first | exact hc9 | exact hc9.alloc _ | exact com_empty_drew (by simp [hs0]) (by omega) | exact com_empty_at (by simp [hs0]) (by omega) | exact (com_empty_drew (by simp [hs0]) (by omega)).alloc _ | exact (com_empty_at (by simp [hs0]) (by omega)).alloc _ | exact com_empty_drew (by simp) (by omega) | exact com_empty_at (by simp) (by omega) | exact (com_empty_drew (by simp) (by omega)).alloc _ | exact (com_empty_at (by simp) (by omega)).alloc _) (by simp) (by repeat first | exact hb9 | apply Below.drew | apply Below.alloc | omega | (simp; omega) | simp) (by omega)).mono ?_
        rintro e w9 ⟨v9, rfl, hc9, hg9, hb9⟩
        have hs9 : w.heap.size + 1 + 1 ≤ w9.heap.size := by have h := hb9.size; omega
        have m2 : True := trivial)
     | (skip
        go_at_call 164
        refine (or_no _ _ _ _ _ _).mono ?_
        rintro e w8 ⟨rfl, rfl⟩
        have m1 : True := trivial))
 all_goals
   go_wp2
   go_ret
   exact ⟨com_done (by omega) hc9 (tells_l (one_at (hg9.cell (by first | exact told_first_drew hs0 | exact told_second_drew hs0) (by simp [Value.ownBlock]))) _), (HBX.out _ hb9).2⟩
theorem comR_1_00 (p o cp : Nat) (hcp : 4 ≤ cp) (j : Nat) (st x : Int) (xs : List Int) (w : World) (hA : IntAt w (some ⟨p, o, none⟩) 4 xs) (hi : ∀ x ∈ xs, (Lit.int .i64 x).wf = true) (hj : j < 4) (hx : xs.getD j 0 = x) (v q : Int) (hv : 1 ≤ v ∧ v ≤ 6) (hq : keyN xs v = q) (h0 : x = 0) (hq0 : q < 0) :
   Calls Tryz.prog 133 #[.agg #[.slice (some ⟨p, o, none⟩) 4 cp, .int .i64 st], .iface 221 (OpV 1 ((j : Int)) (v))] w fun e w' => ComSays e w w' [(0, [])] ∧ Below w.heap.size w w' := by
 have hc : w.cell? ⟨p, o + j, none⟩ = some (I x) := by have h := hA.cells j hj; rwa [hx] at h
 have hp : p < w.heap.size := World.block_lt_of_cell? w _ hc
 have hj0 : (0 : Int) ≤ (j : Int) := by omega
 have hj1 : (j : Int) < 4 := by omega
 have HA : Hid (IntAt w (some ⟨p, o, none⟩) 4 xs) := hA
 have HI : Hid (∀ x ∈ xs, (Lit.int .i64 x).wf = true) := hi
 have HCP : Hid (4 ≤ cp) := hcp
 clear hA hi hx hcp
 have HQ : Hid (keyN xs v = q) := hq
 clear hq
 have h0' : (x != 0) = false := by simpa using h0
 clear h0
 have hq1 : ¬ 0 ≤ q := by omega
 have HD1 : Hid (decide (0 ≤ q) = false) := decide_eq_false hq1
 have HD2 : Hid (decide (q < 0) = true) := decide_eq_true hq0
 obtain ⟨W0, hW0⟩ : ∃ W0, W0 = (w.alloc (.cells #[.slice (some ⟨p, o, none⟩) 4 cp, .int .i64 st] 41)).alloc (.cells #[.int .i64 1, .int .i64 (j : Int), .int .i64 v] 221) := ⟨_, rfl⟩
 have hs0 : W0.heap.size = w.heap.size + 1 + 1 := by rw [hW0]; simp
 have HBX : Hid (∀ w', Below (w.heap.size + 1 + 1) W0 w' → (w'.cell? ⟨w.heap.size, 0, none⟩ = some (.slice (some ⟨p, o, none⟩) 4 cp) ∧ w'.cell? ⟨w.heap.size, 1, none⟩ = some (.int .i64 st) ∧ w'.cell? ⟨w.heap.size + 1, 1, none⟩ = some (.int .i64 (j : Int)) ∧ w'.cell? ⟨w.heap.size + 1, 2, none⟩ = some (.int .i64 v) ∧ w'.cell? ⟨p, o + j, none⟩ = some (I x)) ∧ Below w.heap.size w w') := fun w' hb => com_boxesR hc hW0 hb
 have t1 : ∀ w : World, (Instr.typeAssert (.iface 221 (OpV 1 ((j : Int)) (v))) 182 221 true).run Tryz.prog w = .ok (.tuple #[OpV 1 ((j : Int)) (v), .bool true]) w := fun _ => by kernel_rfl
 go_enter Tryz.func133, Tryz.ntmps133
 go_wp2_with fail
 rw [← hW0]
 clear hW0
 have hb9 : Below (w.heap.size + 1 + 1) W0 W0 := Below.refl _ _
 go_region_held3 (fun w' => w'.cell? ⟨w.heap.size, 0, none⟩ = some (.slice (some ⟨p, o, none⟩) 4 cp) ∧ w'.cell? ⟨w.heap.size, 1, none⟩ = some (.int .i64 st) ∧ w'.cell? ⟨w.heap.size + 1, 1, none⟩ = some (.int .i64 (j : Int)) ∧ w'.cell? ⟨w.heap.size + 1, 2, none⟩ = some (.int .i64 v) ∧ w'.cell? ⟨p, o + j, none⟩ = some (I x))
     (first | (exact (HBX.out _ (by repeat first | exact hb9 | apply Below.drew | apply Below.alloc | omega | (simp; omega) | simp)).1) | go_keep)
     (first
     | (go_at_call 163
        refine (implKeyOf_room _ cp HCP.out st v xs _ (HA.out.below (HBX.out _ (by repeat first | exact hb9 | apply Below.drew | apply Below.alloc | omega | (simp; omega) | simp)).2 (Nat.le_refl _)) HI.out hv).mono ?_
        rintro e w1 ⟨rfl, hb1⟩
        rw [HQ.out]
        have hb9 : Below (w.heap.size + 1 + 1) W0 w1 := (show Below (w.heap.size + 1 + 1) W0 _ from (by repeat first | exact hb9 | apply Below.drew | apply Below.alloc | omega | (simp; omega) | simp)).trans (hb1.mono (by simp [hs0]))
        have hs1 : w.heap.size + 1 + 1 ≤ w1.heap.size := by have h := hb9.size; omega))
 go_wp2_with fail
 try rw [HD1.out]
 try rw [HD2.out]
 refine (or_no _ _ _ _ _ _).mono ?_
 rintro e w8 ⟨rfl, rfl⟩
 go_wp2_with fail
 try rw [HD1.out]
 try rw [HD2.out]
 refine (or_no _ _ _ _ _ _).mono ?_
 rintro e w8 ⟨rfl, rfl⟩
 go_wp2_with fail
 try rw [HD1.out]
 try rw [HD2.out]
 refine (or_on (w.heap.size + 1 + 1) W0 _ _ _ _ _ _ _ (by repeat first | exact hc9 | exact com_empty_at rfl (by omega) | exact com_empty_drew rfl (by omega) | exact com_empty_drew (by simp [hs0]) (by omega) | exact com_empty_at (by simp [hs0]) (by omega) | apply World.ownsRow.alloc) (by simp) (by repeat first | exact hb9 | apply Below.drew | apply Below.alloc | omega | (simp; omega) | simp) (by omega)).mono ?_
 rintro e w9 ⟨v9, rfl, hc9, hg9, hb9⟩
 have hs9 : w.heap.size + 1 + 1 ≤ w9.heap.size := by have h := hb9.size; omega
 go_wp2
 go_ret
 first | exact ⟨com_done (by omega) hc9 (tells_1 _ _), (HBX.out _ hb9).2⟩ | exact ⟨com_done (by omega) (hc9.alloc _) (tells_1 _ _), (HBX.out _ (hb9.alloc (by omega) _)).2⟩
theorem comR_1_01 (p o cp : Nat) (hcp : 4 ≤ cp) (j : Nat) (st x : Int) (xs : List Int) (w : World) (hA : IntAt w (some ⟨p, o, none⟩) 4 xs) (hi : ∀ x ∈ xs, (Lit.int .i64 x).wf = true) (hj : j < 4) (hx : xs.getD j 0 = x) (v q : Int) (hv : 1 ≤ v ∧ v ≤ 6) (hq : keyN xs v = q) (h0 : x = 0) (hq0 : 0 ≤ q) :
   Calls Tryz.prog 133 #[.agg #[.slice (some ⟨p, o, none⟩) 4 cp, .int .i64 st], .iface 221 (OpV 1 ((j : Int)) (v))] w fun e w' => ComSays e w w' [(2, [])] ∧ Below w.heap.size w w' := by
 have hc : w.cell? ⟨p, o + j, none⟩ = some (I x) := by have h := hA.cells j hj; rwa [hx] at h
 have hp : p < w.heap.size := World.block_lt_of_cell? w _ hc
 have hj0 : (0 : Int) ≤ (j : Int) := by omega
 have hj1 : (j : Int) < 4 := by omega
 have HA : Hid (IntAt w (some ⟨p, o, none⟩) 4 xs) := hA
 have HI : Hid (∀ x ∈ xs, (Lit.int .i64 x).wf = true) := hi
 have HCP : Hid (4 ≤ cp) := hcp
 clear hA hi hx hcp
 have HQ : Hid (keyN xs v = q) := hq
 clear hq
 have h0' : (x != 0) = false := by simpa using h0
 clear h0
 have hq1 : ¬ q < 0 := by omega
 have HD1 : Hid (decide (0 ≤ q) = true) := decide_eq_true hq0
 have HD2 : Hid (decide (q < 0) = false) := decide_eq_false hq1
 obtain ⟨W0, hW0⟩ : ∃ W0, W0 = (w.alloc (.cells #[.slice (some ⟨p, o, none⟩) 4 cp, .int .i64 st] 41)).alloc (.cells #[.int .i64 1, .int .i64 (j : Int), .int .i64 v] 221) := ⟨_, rfl⟩
 have hs0 : W0.heap.size = w.heap.size + 1 + 1 := by rw [hW0]; simp
 have HBX : Hid (∀ w', Below (w.heap.size + 1 + 1) W0 w' → (w'.cell? ⟨w.heap.size, 0, none⟩ = some (.slice (some ⟨p, o, none⟩) 4 cp) ∧ w'.cell? ⟨w.heap.size, 1, none⟩ = some (.int .i64 st) ∧ w'.cell? ⟨w.heap.size + 1, 1, none⟩ = some (.int .i64 (j : Int)) ∧ w'.cell? ⟨w.heap.size + 1, 2, none⟩ = some (.int .i64 v) ∧ w'.cell? ⟨p, o + j, none⟩ = some (I x)) ∧ Below w.heap.size w w') := fun w' hb => com_boxesR hc hW0 hb
 have t1 : ∀ w : World, (Instr.typeAssert (.iface 221 (OpV 1 ((j : Int)) (v))) 182 221 true).run Tryz.prog w = .ok (.tuple #[OpV 1 ((j : Int)) (v), .bool true]) w := fun _ => by kernel_rfl
 go_enter Tryz.func133, Tryz.ntmps133
 go_wp2_with fail
 rw [← hW0]
 clear hW0
 have hb9 : Below (w.heap.size + 1 + 1) W0 W0 := Below.refl _ _
 go_region_held3 (fun w' => w'.cell? ⟨w.heap.size, 0, none⟩ = some (.slice (some ⟨p, o, none⟩) 4 cp) ∧ w'.cell? ⟨w.heap.size, 1, none⟩ = some (.int .i64 st) ∧ w'.cell? ⟨w.heap.size + 1, 1, none⟩ = some (.int .i64 (j : Int)) ∧ w'.cell? ⟨w.heap.size + 1, 2, none⟩ = some (.int .i64 v) ∧ w'.cell? ⟨p, o + j, none⟩ = some (I x))
     (first | (exact (HBX.out _ (by repeat first | exact hb9 | apply Below.drew | apply Below.alloc | omega | (simp; omega) | simp)).1) | go_keep)
     (first
     | (go_at_call 163
        refine (implKeyOf_room _ cp HCP.out st v xs _ (HA.out.below (HBX.out _ (by repeat first | exact hb9 | apply Below.drew | apply Below.alloc | omega | (simp; omega) | simp)).2 (Nat.le_refl _)) HI.out hv).mono ?_
        rintro e w1 ⟨rfl, hb1⟩
        rw [HQ.out]
        have hb9 : Below (w.heap.size + 1 + 1) W0 w1 := (show Below (w.heap.size + 1 + 1) W0 _ from (by repeat first | exact hb9 | apply Below.drew | apply Below.alloc | omega | (simp; omega) | simp)).trans (hb1.mono (by simp [hs0]))
        have hs1 : w.heap.size + 1 + 1 ≤ w1.heap.size := by have h := hb9.size; omega))
 go_wp2_with fail
 try rw [HD1.out]
 try rw [HD2.out]
 refine (or_no _ _ _ _ _ _).mono ?_
 rintro e w8 ⟨rfl, rfl⟩
 go_wp2_with fail
 try rw [HD1.out]
 try rw [HD2.out]
 refine (or_on (w.heap.size + 1 + 1) W0 _ _ _ _ _ _ _ (by repeat first | exact hc9 | exact com_empty_at rfl (by omega) | exact com_empty_drew rfl (by omega) | exact com_empty_drew (by simp [hs0]) (by omega) | exact com_empty_at (by simp [hs0]) (by omega) | apply World.ownsRow.alloc) (by simp) (by repeat first | exact hb9 | apply Below.drew | apply Below.alloc | omega | (simp; omega) | simp) (by omega)).mono ?_
 rintro e w9 ⟨v9, rfl, hc9, hg9, hb9⟩
 have hs9 : w.heap.size + 1 + 1 ≤ w9.heap.size := by have h := hb9.size; omega
 go_wp2_with fail
 try rw [HD1.out]
 try rw [HD2.out]
 refine (or_no _ _ _ _ _ _).mono ?_
 rintro e w8 ⟨rfl, rfl⟩
 go_wp2
 go_ret
 first | exact ⟨com_done (by omega) hc9 (tells_1 _ _), (HBX.out _ hb9).2⟩ | exact ⟨com_done (by omega) (hc9.alloc _) (tells_1 _ _), (HBX.out _ (hb9.alloc (by omega) _)).2⟩
theorem comR_1_10 (p o cp : Nat) (hcp : 4 ≤ cp) (j : Nat) (st x : Int) (xs : List Int) (w : World) (hA : IntAt w (some ⟨p, o, none⟩) 4 xs) (hi : ∀ x ∈ xs, (Lit.int .i64 x).wf = true) (hj : j < 4) (hx : xs.getD j 0 = x) (v q : Int) (hv : 1 ≤ v ∧ v ≤ 6) (hq : keyN xs v = q) (h0 : x ≠ 0) (hq0 : q < 0) :
   Calls Tryz.prog 133 #[.agg #[.slice (some ⟨p, o, none⟩) 4 cp, .int .i64 st], .iface 221 (OpV 1 ((j : Int)) (v))] w fun e w' => ComSays e w w' [(1, [])] ∧ Below w.heap.size w w' := by
 have hc : w.cell? ⟨p, o + j, none⟩ = some (I x) := by have h := hA.cells j hj; rwa [hx] at h
 have hp : p < w.heap.size := World.block_lt_of_cell? w _ hc
 have hj0 : (0 : Int) ≤ (j : Int) := by omega
 have hj1 : (j : Int) < 4 := by omega
 have HA : Hid (IntAt w (some ⟨p, o, none⟩) 4 xs) := hA
 have HI : Hid (∀ x ∈ xs, (Lit.int .i64 x).wf = true) := hi
 have HCP : Hid (4 ≤ cp) := hcp
 clear hA hi hx hcp
 have HQ : Hid (keyN xs v = q) := hq
 clear hq
 have h0' : (x != 0) = true := by simpa using h0
 clear h0
 have hq1 : ¬ 0 ≤ q := by omega
 have HD1 : Hid (decide (0 ≤ q) = false) := decide_eq_false hq1
 have HD2 : Hid (decide (q < 0) = true) := decide_eq_true hq0
 obtain ⟨W0, hW0⟩ : ∃ W0, W0 = (w.alloc (.cells #[.slice (some ⟨p, o, none⟩) 4 cp, .int .i64 st] 41)).alloc (.cells #[.int .i64 1, .int .i64 (j : Int), .int .i64 v] 221) := ⟨_, rfl⟩
 have hs0 : W0.heap.size = w.heap.size + 1 + 1 := by rw [hW0]; simp
 have HBX : Hid (∀ w', Below (w.heap.size + 1 + 1) W0 w' → (w'.cell? ⟨w.heap.size, 0, none⟩ = some (.slice (some ⟨p, o, none⟩) 4 cp) ∧ w'.cell? ⟨w.heap.size, 1, none⟩ = some (.int .i64 st) ∧ w'.cell? ⟨w.heap.size + 1, 1, none⟩ = some (.int .i64 (j : Int)) ∧ w'.cell? ⟨w.heap.size + 1, 2, none⟩ = some (.int .i64 v) ∧ w'.cell? ⟨p, o + j, none⟩ = some (I x)) ∧ Below w.heap.size w w') := fun w' hb => com_boxesR hc hW0 hb
 have t1 : ∀ w : World, (Instr.typeAssert (.iface 221 (OpV 1 ((j : Int)) (v))) 182 221 true).run Tryz.prog w = .ok (.tuple #[OpV 1 ((j : Int)) (v), .bool true]) w := fun _ => by kernel_rfl
 go_enter Tryz.func133, Tryz.ntmps133
 go_wp2_with fail
 rw [← hW0]
 clear hW0
 have hb9 : Below (w.heap.size + 1 + 1) W0 W0 := Below.refl _ _
 go_region_held3 (fun w' => w'.cell? ⟨w.heap.size, 0, none⟩ = some (.slice (some ⟨p, o, none⟩) 4 cp) ∧ w'.cell? ⟨w.heap.size, 1, none⟩ = some (.int .i64 st) ∧ w'.cell? ⟨w.heap.size + 1, 1, none⟩ = some (.int .i64 (j : Int)) ∧ w'.cell? ⟨w.heap.size + 1, 2, none⟩ = some (.int .i64 v) ∧ w'.cell? ⟨p, o + j, none⟩ = some (I x))
     (first | (exact (HBX.out _ (by repeat first | exact hb9 | apply Below.drew | apply Below.alloc | omega | (simp; omega) | simp)).1) | go_keep)
     (first
     | (go_at_call 163
        refine (implKeyOf_room _ cp HCP.out st v xs _ (HA.out.below (HBX.out _ (by repeat first | exact hb9 | apply Below.drew | apply Below.alloc | omega | (simp; omega) | simp)).2 (Nat.le_refl _)) HI.out hv).mono ?_
        rintro e w1 ⟨rfl, hb1⟩
        rw [HQ.out]
        have hb9 : Below (w.heap.size + 1 + 1) W0 w1 := (show Below (w.heap.size + 1 + 1) W0 _ from (by repeat first | exact hb9 | apply Below.drew | apply Below.alloc | omega | (simp; omega) | simp)).trans (hb1.mono (by simp [hs0]))
        have hs1 : w.heap.size + 1 + 1 ≤ w1.heap.size := by have h := hb9.size; omega))
 go_wp2_with fail
 try rw [HD1.out]
 try rw [HD2.out]
 refine (or_on (w.heap.size + 1 + 1) W0 _ _ _ _ _ _ _ (by repeat first | exact hc9 | exact com_empty_at rfl (by omega) | exact com_empty_drew rfl (by omega) | exact com_empty_drew (by simp [hs0]) (by omega) | exact com_empty_at (by simp [hs0]) (by omega) | apply World.ownsRow.alloc) (by simp) (by repeat first | exact hb9 | apply Below.drew | apply Below.alloc | omega | (simp; omega) | simp) (by omega)).mono ?_
 rintro e w9 ⟨v9, rfl, hc9, hg9, hb9⟩
 have hs9 : w.heap.size + 1 + 1 ≤ w9.heap.size := by have h := hb9.size; omega
 go_wp2_with fail
 try rw [HD1.out]
 try rw [HD2.out]
 refine (or_no _ _ _ _ _ _).mono ?_
 rintro e w8 ⟨rfl, rfl⟩
 go_wp2_with fail
 try rw [HD1.out]
 try rw [HD2.out]
 refine (or_no _ _ _ _ _ _).mono ?_
 rintro e w8 ⟨rfl, rfl⟩
 go_wp2
 go_ret
 first | exact ⟨com_done (by omega) hc9 (tells_1 _ _), (HBX.out _ hb9).2⟩ | exact ⟨com_done (by omega) (hc9.alloc _) (tells_1 _ _), (HBX.out _ (hb9.alloc (by omega) _)).2⟩
theorem comR_1_11 (p o cp : Nat) (hcp : 4 ≤ cp) (j : Nat) (st x : Int) (xs : List Int) (w : World) (hA : IntAt w (some ⟨p, o, none⟩) 4 xs) (hi : ∀ x ∈ xs, (Lit.int .i64 x).wf = true) (hj : j < 4) (hx : xs.getD j 0 = x) (v q : Int) (hv : 1 ≤ v ∧ v ≤ 6) (hq : keyN xs v = q) (h0 : x ≠ 0) (hq0 : 0 ≤ q) :
   Calls Tryz.prog 133 #[.agg #[.slice (some ⟨p, o, none⟩) 4 cp, .int .i64 st], .iface 221 (OpV 1 ((j : Int)) (v))] w fun e w' => ComSays e w w' [(1, []), (2, [])] ∧ Below w.heap.size w w' := by
 have hc : w.cell? ⟨p, o + j, none⟩ = some (I x) := by have h := hA.cells j hj; rwa [hx] at h
 have hp : p < w.heap.size := World.block_lt_of_cell? w _ hc
 have hj0 : (0 : Int) ≤ (j : Int) := by omega
 have hj1 : (j : Int) < 4 := by omega
 have HA : Hid (IntAt w (some ⟨p, o, none⟩) 4 xs) := hA
 have HI : Hid (∀ x ∈ xs, (Lit.int .i64 x).wf = true) := hi
 have HCP : Hid (4 ≤ cp) := hcp
 clear hA hi hx hcp
 have HQ : Hid (keyN xs v = q) := hq
 clear hq
 have h0' : (x != 0) = true := by simpa using h0
 clear h0
 have hq1 : ¬ q < 0 := by omega
 have HD1 : Hid (decide (0 ≤ q) = true) := decide_eq_true hq0
 have HD2 : Hid (decide (q < 0) = false) := decide_eq_false hq1
 obtain ⟨W0, hW0⟩ : ∃ W0, W0 = (w.alloc (.cells #[.slice (some ⟨p, o, none⟩) 4 cp, .int .i64 st] 41)).alloc (.cells #[.int .i64 1, .int .i64 (j : Int), .int .i64 v] 221) := ⟨_, rfl⟩
 have hs0 : W0.heap.size = w.heap.size + 1 + 1 := by rw [hW0]; simp
 have HBX : Hid (∀ w', Below (w.heap.size + 1 + 1) W0 w' → (w'.cell? ⟨w.heap.size, 0, none⟩ = some (.slice (some ⟨p, o, none⟩) 4 cp) ∧ w'.cell? ⟨w.heap.size, 1, none⟩ = some (.int .i64 st) ∧ w'.cell? ⟨w.heap.size + 1, 1, none⟩ = some (.int .i64 (j : Int)) ∧ w'.cell? ⟨w.heap.size + 1, 2, none⟩ = some (.int .i64 v) ∧ w'.cell? ⟨p, o + j, none⟩ = some (I x)) ∧ Below w.heap.size w w') := fun w' hb => com_boxesR hc hW0 hb
 have t1 : ∀ w : World, (Instr.typeAssert (.iface 221 (OpV 1 ((j : Int)) (v))) 182 221 true).run Tryz.prog w = .ok (.tuple #[OpV 1 ((j : Int)) (v), .bool true]) w := fun _ => by kernel_rfl
 go_enter Tryz.func133, Tryz.ntmps133
 go_wp2_with fail
 rw [← hW0]
 clear hW0
 have hb9 : Below (w.heap.size + 1 + 1) W0 W0 := Below.refl _ _
 go_region_held3 (fun w' => w'.cell? ⟨w.heap.size, 0, none⟩ = some (.slice (some ⟨p, o, none⟩) 4 cp) ∧ w'.cell? ⟨w.heap.size, 1, none⟩ = some (.int .i64 st) ∧ w'.cell? ⟨w.heap.size + 1, 1, none⟩ = some (.int .i64 (j : Int)) ∧ w'.cell? ⟨w.heap.size + 1, 2, none⟩ = some (.int .i64 v) ∧ w'.cell? ⟨p, o + j, none⟩ = some (I x))
     (first | (exact (HBX.out _ (by repeat first | exact hb9 | apply Below.drew | apply Below.alloc | omega | (simp; omega) | simp)).1) | go_keep)
     (first
     | (go_at_call 163
        refine (implKeyOf_room _ cp HCP.out st v xs _ (HA.out.below (HBX.out _ (by repeat first | exact hb9 | apply Below.drew | apply Below.alloc | omega | (simp; omega) | simp)).2 (Nat.le_refl _)) HI.out hv).mono ?_
        rintro e w1 ⟨rfl, hb1⟩
        rw [HQ.out]
        have hb9 : Below (w.heap.size + 1 + 1) W0 w1 := (show Below (w.heap.size + 1 + 1) W0 _ from (by repeat first | exact hb9 | apply Below.drew | apply Below.alloc | omega | (simp; omega) | simp)).trans (hb1.mono (by simp [hs0]))
        have hs1 : w.heap.size + 1 + 1 ≤ w1.heap.size := by have h := hb9.size; omega))
 go_wp2_with fail
 try rw [HD1.out]
 try rw [HD2.out]
 refine (or_on (w.heap.size + 1 + 1) W0 _ _ _ _ _ _ _ (by repeat first | exact hc9 | exact com_empty_at rfl (by omega) | exact com_empty_drew rfl (by omega) | exact com_empty_drew (by simp [hs0]) (by omega) | exact com_empty_at (by simp [hs0]) (by omega) | apply World.ownsRow.alloc) (by simp) (by repeat first | exact hb9 | apply Below.drew | apply Below.alloc | omega | (simp; omega) | simp) (by omega)).mono ?_
 rintro e w9 ⟨v9, rfl, hc9, hg9, hb9⟩
 have hs9 : w.heap.size + 1 + 1 ≤ w9.heap.size := by have h := hb9.size; omega
 go_wp2_with fail
 try rw [HD1.out]
 try rw [HD2.out]
 refine (or_on (w.heap.size + 1 + 1) W0 _ _ _ _ _ _ _ (by repeat first | exact hc9 | exact com_empty_at rfl (by omega) | exact com_empty_drew rfl (by omega) | exact com_empty_drew (by simp [hs0]) (by omega) | exact com_empty_at (by simp [hs0]) (by omega) | apply World.ownsRow.alloc) (by simp) (by repeat first | exact hb9 | apply Below.drew | apply Below.alloc | omega | (simp; omega) | simp) (by omega)).mono ?_
 rintro e w9 ⟨v9, rfl, hc9, hg9, hb9⟩
 have hs9 : w.heap.size + 1 + 1 ≤ w9.heap.size := by have h := hb9.size; omega
 go_wp2_with fail
 try rw [HD1.out]
 try rw [HD2.out]
 refine (or_no _ _ _ _ _ _).mono ?_
 rintro e w8 ⟨rfl, rfl⟩
 go_wp2
 go_ret
 exact ⟨com_done (by omega) hc9 (tells_2 _ _ _), (HBX.out _ hb9).2⟩
end
end Go.Proofs.YtbfolanfbagofaaGreatDoor
