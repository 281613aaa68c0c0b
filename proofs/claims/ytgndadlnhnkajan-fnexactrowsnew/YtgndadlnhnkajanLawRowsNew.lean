/- RowsNew of the program answers as the specification's RowsNew, new memory each time: the statement of the law FnExactRowsNew holds, with no condition. -/
import Derived.Test.YtgndadlnhnkajanRows
import Derived.Test.YtgndadlnhnkajanMarkI
import Derived.WalkKit
import Derived.ProofKit
import Derived.OpenShut
import Derived.ChangeOld
import Derived.Below
namespace Go.Proofs.Ytgndadlnhnkajan.fnExactRowsNew
open Go.ChangeShapes Go.WideShapes Go.ChangeAt Go.RowKit

theorem own : ownKnob Try.prog.godebug = none := by kernel_rfl

theorem grown_box {w w1 : World} {u v : Value} {t : TypeId} (h : (w.alloc (.cells #[u, v] t)).grownBy w1 none) : w1.cell? ⟨w.heap.size, 0, none⟩ = some u ∧ w1.cell? ⟨w.heap.size, 1, none⟩ = some v ∧ w1.frozen? ⟨w.heap.size, 0, none⟩ = false ∧ w1.frozen? ⟨w.heap.size, 1, none⟩ = false ∧ Below w.heap.size w w1 := by
  have hb : Below (w.heap.size + 1) (w.alloc (.cells #[u, v] t)) w1 := (Below.refl _ _).grown h (by simp) (fun k e => by cases e)
  exact ⟨by rw [hb.cell (by simp)]; simp, by rw [hb.cell (by simp)]; simp, by rw [hb.frozen (by simp)]; simp, by rw [hb.frozen (by simp)]; simp, ((Below.refl _ w).alloc (Nat.le_refl _) _).trans (hb.mono (Nat.le_succ _))⟩

set_option maxHeartbeats 400000 in
theorem specNew (w : World) :
    Calls Try.prog 10 #[] w fun e w' => e = .returned (RowsV (some ⟨w.heap.size + 1, 0, none⟩) 4 4 0) ∧ w'.ownsRow (w.heap.size + 1) 3 1 (.slice (some ⟨w.heap.size + 1, 0, none⟩) 4 4) 4 (([0, 0, 0, 0] : List Int).map I) ∧ Below w.heap.size w w' := by
  obtain ⟨i0, hi, hz0, hz1, hz2⟩ := info_parts infoInt
  go_enter Try.func10, Try.ntmps10
  go_wp2_with (first | (at_make; refine wpList_make_full _ rfl _ _ 22 rfl (w.heap.size + 1) 3 i0 (.int .i64 0) 1 Try.underlying22 hi hz0 hz1 .i64 .i64 _ _ 4 rfl rfl rfl rfl (by rw [hz2]; omega) (by unfold maxLen; omega) (by simp) ?_; intro w1 own1 grow1; obtain ⟨c0, c1, f0, f1, hb1⟩ := grown_box grow1) | fail)
  (try simp only [Exit.inBlock, Exit.then])
  refine bodyPost_ret (by simp [results, Try.results10, go_sem, c0, c1]; try rfl) rfl ?_
  rw [show (madeCells (Value.int .i64 0).cells (4 * 1)).toList = (([0, 0, 0, 0] : List Int).map I) from (toList_madeCells_one _ _).trans rfl] at own1
  simp only [World.size_alloc] at own1
  refine ⟨rfl, ownsRow_setCell_below (ownsRow_setCell_below own1 (Nat.lt_succ_self _) _) (Nat.lt_succ_self _) _, (hb1.setCell (Nat.le_refl _) _).setCell (Nat.le_refl _) _⟩

set_option maxHeartbeats 400000 in
theorem implNew (w : World) :
    Calls Try.prog 11 #[] w fun e w' => e = .returned (RowsV (some ⟨w.heap.size + 1, 0, none⟩) 4 4 0) ∧ w'.ownsRow (w.heap.size + 1) 3 1 (.slice (some ⟨w.heap.size + 1, 0, none⟩) 4 4) 4 (([0, 0, 0, 0] : List Int).map I) ∧ Below w.heap.size w w' := by
  obtain ⟨i0, hi, hz0, hz1, hz2⟩ := info_parts infoInt
  go_enter Try.func11, Try.ntmps11
  go_wp2_with (first | (at_make; refine wpList_make_full _ rfl _ _ 22 rfl (w.heap.size + 1) 3 i0 (.int .i64 0) 1 Try.underlying22 hi hz0 hz1 .i64 .i64 _ _ 4 rfl rfl rfl rfl (by rw [hz2]; omega) (by unfold maxLen; omega) (by simp) ?_; intro w1 own1 grow1; obtain ⟨c0, c1, f0, f1, hb1⟩ := grown_box grow1) | fail)
  (try simp only [Exit.inBlock, Exit.then])
  refine bodyPost_ret (by simp [results, Try.results11, go_sem, c0, c1]; try rfl) rfl ?_
  rw [show (madeCells (Value.int .i64 0).cells (4 * 1)).toList = (([0, 0, 0, 0] : List Int).map I) from (toList_madeCells_one _ _).trans rfl] at own1
  simp only [World.size_alloc] at own1
  refine ⟨rfl, ownsRow_setCell_below (ownsRow_setCell_below own1 (Nat.lt_succ_self _) _) (Nat.lt_succ_self _) _, (hb1.setCell (Nat.le_refl _) _).setCell (Nat.le_refl _) _⟩

abbrev Z4 : List Int := [0, 0, 0, 0]

theorem box_at {w w' : World} {u v : Value} {t : TypeId} (hb : Below (w.heap.size + 1) (w.alloc (.cells #[u, v] t)) w') : w'.cell? ⟨w.heap.size, 0, none⟩ = some u ∧ w'.cell? ⟨w.heap.size, 1, none⟩ = some v :=
  ⟨by rw [hb.cell (by simp)]; simp, by rw [hb.cell (by simp)]; simp⟩

set_option maxHeartbeats 2000000 in
theorem walk (w : World) : Calls Try.prog 4 #[] w fun e w' => e = .returned (.bool true) ∧ Below w.heap.size w w' := by
  go_enter Try.func4, Try.ntmps4
  go_wp2_with fail
  refine (specNew _).mono ?_
  rintro e w1 ⟨rfl, own1, hb1⟩
  obtain ⟨g1, hg1⟩ : ∃ g1, g1 = w.heap.size + 1 := ⟨_, rfl⟩
  rw [← hg1] at own1 ⊢
  have HG1 : Hid (g1 = w.heap.size + 1) := hg1
  clear hg1
  have lt1 := own_base own1
  go_wp2_with fail
  -- the world behind the first box
  have hbx1 : Below w1.heap.size w1 (w1.alloc (.cells #[.slice (some ⟨g1, 0, none⟩) 4 4, .int .i64 0] 27)) := (Below.refl _ w1).alloc (Nat.le_refl _) _
  refine (implNew _).mono ?_
  rintro e w3 ⟨rfl, own3, hb3⟩
  simp only [World.size_alloc] at own3 hb3
  obtain ⟨g3, hg3⟩ : ∃ g3, g3 = w1.heap.size + 1 + 1 := ⟨_, rfl⟩
  simp only [World.size_alloc]
  rw [← hg3] at own3 ⊢
  have HG3 : Hid (g3 = w1.heap.size + 1 + 1) := hg3
  clear hg3
  have lt3 := own_base own3
  have hb13 : Below w1.heap.size w1 w3 := hbx1.trans (hb3.mono (Nat.le_succ _))
  have hs13 : w1.heap.size + 1 ≤ w3.heap.size := by simpa using hb3.size
  have own13 := owns_below own1 hb13 (Nat.le_refl _)
  have bx3 := box_at hb3
  have hbw3 : Below w.heap.size w w3 := hb1.trans (hb13.mono hb1.size)
  clear own1 hbx1 hb1 hb13 hb3
  obtain ⟨c10, c11⟩ := bx3
  have lt13 : w1.heap.size < w3.heap.size := by omega
  go_wp2_with fail
  have hbx3 : Below w3.heap.size w3 (w3.alloc (.cells #[.slice (some ⟨g3, 0, none⟩) 4 4, .int .i64 0] 27)) := (Below.refl _ w3).alloc (Nat.le_refl _) _
  refine (eqRows_same _ _ 4 4 4 4 0 Z4 _ ((own_intAt own3 (by omega)).below hbx3 (Nat.le_refl _)) ((own_intAt own13 (by omega)).below hbx3 (Nat.le_refl _))).mono ?_
  rintro e w5 ⟨rfl, hb5⟩
  simp only [World.size_alloc] at hb5
  have hb35 : Below w3.heap.size w3 w5 := hbx3.trans (hb5.mono (Nat.le_succ _))
  have hs35 : w3.heap.size + 1 ≤ w5.heap.size := by simpa using hb5.size
  obtain ⟨c30, c31⟩ := box_at hb5
  have own15 := owns_below own13 hb35 (Nat.le_refl _)
  have own5 := owns_below own3 hb35 (Nat.le_refl _)
  have d10 : w5.cell? ⟨w1.heap.size, 0, none⟩ = some (.slice (some ⟨g1, 0, none⟩) 4 4) := (hb35.cell lt13).trans c10
  have d11 : w5.cell? ⟨w1.heap.size, 1, none⟩ = some (.int .i64 0) := (hb35.cell lt13).trans c11
  have hbw5 : Below w.heap.size w w5 := hbw3.trans (hb35.mono hbw3.size)
  clear own13 own3 hbx3 hb5 hb35 c10 c11 hbw3
  go_wp2_with fail
  refine (markRows_own _ g3 4 4 0 Z4 _ rfl (by omega) own5).mono ?_
  rintro e w6 ⟨rfl, own6, hs56, e1, e2, e3, ho6⟩
  have hg1 := HG1.out
  have hg3 := HG3.out
  have b10 : w6.cell? ⟨w1.heap.size, 0, none⟩ = some (.slice (some ⟨g1, 0, none⟩) 4 4) := (World.cell?_of_block (w := w5) (ho6 w1.heap.size (by omega) (by omega))).trans d10
  have b11 : w6.cell? ⟨w1.heap.size, 1, none⟩ = some (.int .i64 0) := (World.cell?_of_block (w := w5) (ho6 w1.heap.size (by omega) (by omega))).trans d11
  have b30 : w6.cell? ⟨w3.heap.size, 0, none⟩ = some (.slice (some ⟨g3, 0, none⟩) 4 4) := (World.cell?_of_block (w := w5) (ho6 w3.heap.size (by omega) (by omega))).trans c30
  have b31 : w6.cell? ⟨w3.heap.size, 1, none⟩ = some (.int .i64 0) := (World.cell?_of_block (w := w5) (ho6 w3.heap.size (by omega) (by omega))).trans c31
  have A16 : IntAt w6 (some ⟨g1, 0, none⟩) 4 Z4 := by
    obtain ⟨h1, h2, h3 | ⟨b, o, h3, h4⟩⟩ := own_intAt own15 (by omega)
    · omega
    · cases h3
      exact ⟨h1, h2, .inr ⟨_, _, rfl, fun i hi => (World.cell?_of_block (w := w5) (ho6 g1 (by omega) (by omega))).trans (h4 i hi)⟩⟩
  have hbw6 : Below w.heap.size w w6 := hbw5.trans ⟨e1, e2, e3, hs56, fun k hk => ho6 k (by have := hbw5.size; omega) (by omega)⟩
  have HA16 : Hid (IntAt w6 (some ⟨g1, 0, none⟩) 4 Z4) := A16
  have lt16 : w1.heap.size < w6.heap.size := by omega
  have lt36 : w3.heap.size < w6.heap.size := by omega
  clear hg1 hg3 ho6 e1 e2 e3 own15 own5 d10 d11 c30 c31 hbw5 A16
  go_wp2_with fail
  refine (heldRows_any _ 4 4 0 _ (own_intAt own6 (by omega))).mono ?_
  rintro e w7 ⟨rfl, hb7⟩
  have own7 := owns_below own6 hb7 (Nat.le_refl _)
  have a10 := (hb7.cell lt16).trans b10
  have a11 := (hb7.cell lt16).trans b11
  have a30 := (hb7.cell lt36).trans b30
  have a31 := (hb7.cell lt36).trans b31
  have HA17 : Hid (IntAt w7 (some ⟨g1, 0, none⟩) 4 Z4) := HA16.out.below hb7 (Nat.le_refl _)
  have hbw7 := hbw6.trans (hb7.mono hbw6.size)
  have lt17 : w1.heap.size < w7.heap.size := Nat.lt_of_lt_of_le lt16 hb7.size
  have lt37 : w3.heap.size < w7.heap.size := Nat.lt_of_lt_of_le lt36 hb7.size
  clear own6 hb7 b10 b11 b30 b31 HA16 hbw6
  go_wp2_with fail
  refine (implNew _).mono ?_
  rintro e w8 ⟨rfl, own8, hb8⟩
  have own78 := owns_below own7 hb8 (Nat.le_refl _)
  have p10 := (hb8.cell lt17).trans a10
  have p11 := (hb8.cell lt17).trans a11
  have p30 := (hb8.cell lt37).trans a30
  have p31 := (hb8.cell lt37).trans a31
  have HA18 : Hid (IntAt w8 (some ⟨g1, 0, none⟩) 4 Z4) := HA17.out.below hb8 (Nat.le_refl _)
  have hbw8 := hbw7.trans (hb8.mono hbw7.size)
  have lt18 : w1.heap.size < w8.heap.size := Nat.lt_of_lt_of_le lt17 hb8.size
  have lt38 : w3.heap.size < w8.heap.size := Nat.lt_of_lt_of_le lt37 hb8.size
  obtain ⟨g8, hg8⟩ : ∃ g8, g8 = w7.heap.size + 1 := ⟨_, rfl⟩
  rw [← hg8] at own8 ⊢
  clear hg8 own7 hb8 a10 a11 a30 a31 HA17 hbw7
  go_wp2_with fail
  have hbx8 : Below w8.heap.size w8 (w8.alloc (.cells #[.slice (some ⟨g8, 0, none⟩) 4 4, .int .i64 0] 27)) := (Below.refl _ w8).alloc (Nat.le_refl _) _
  refine (eqRows_same _ _ 4 4 4 4 0 Z4 _ ((own_intAt own8 (by omega)).below hbx8 (Nat.le_refl _)) (HA18.out.below hbx8 (Nat.le_refl _))).mono ?_
  rintro e w10 ⟨rfl, hb10⟩
  have hb810 : Below w8.heap.size w8 w10 := hbx8.trans (hb10.mono (by simp))
  have q30 := (hb810.cell lt38).trans p30
  have q31 := (hb810.cell lt38).trans p31
  have own10 := owns_below own78 hb810 (Nat.le_refl _)
  have hbw10 := hbw8.trans (hb810.mono hbw8.size)
  clear own8 own78 hbx8 hb10 hb810 p10 p11 p30 p31 HA18 hbw8
  go_wp2_with fail
  refine (heldRows_any _ 4 4 0 _ (own_intAt own10 (by omega))).mono ?_
  rintro e w11 ⟨rfl, hb11⟩
  have hbw11 := hbw10.trans (hb11.mono hbw10.size)
  clear own10 hb11 hbw10
  go_wp2
  go_ret
  exact ⟨rfl, hbw11⟩

set_option maxRecDepth 100000 in
theorem lifted (os : Os) (started : os.Started) (H : Type) (enc : TypeId × Value → H) :
    ReturnsInHanded {} Try.checked os 4 .any (Rows.fnExactRowsNewSpec.pre6 enc Try.prog Try.f4 Rows.fnExactRowsNewRow.domain false) (Rows.fnExactRowsNewSpec.post enc Try.prog Try.f4 false true false false) := by
  refine returnsInHanded_of_change (C := Try.checked) own started (by kernel_rfl) Try.func4
    (ChangeSpec.witness6 (enc := enc) (C := Try.checked) false ⟨#[], #[], []⟩ 8 (by kernel_rfl) (by kernel_rfl) (by kernel_rfl) (by kernel_rfl)) ?_
  intro W base args ds gs before hval0 hW hcnd _
  have hW' := hW
  obtain ⟨p, q, hA0, hV, rfl, hfz, hnd⟩ := hW
  have hA : DataW.TrodAll enc Try.prog W 0 (fun _ => true) true Try.f4.params.toList args.toList ds p := hA0
  rw [Try.params4] at hA
  obtain ⟨rfl, rfl, rfl⟩ := trodAll_none hA
  obtain ⟨rfl, rfl⟩ := trodVars_none hV
  refine (walk W).mono fun e W' ⟨he, bel⟩ => ?_
  subst he
  exact ⟨_, rfl, _, _, _, [], [], [], hW', trodAll_mk1 (shut_bool Try.underlying4 _), trodAll_mk0, rfl, bel.frame _, fun h => by cases h⟩

theorem over : Rows.FnExactRowsNewSaid :=
  OpenClaim.holds_of_wide 4 Try.f4 rfl rfl rfl rfl rfl rfl rfl ⟨rfl, rfl, rfl, rfl, rfl⟩ rfl rfl rfl rfl rfl (by kernel_rfl) Try.func4 (by kernel_rfl)
    (of_decide_eq_true (by kernel_rfl)) (by unfold Func.isWrapper; first | (rw [if_pos (by decide +kernel)]; kernel_rfl) | (rw [if_neg (by decide +kernel)]; exact ⟨rfl, rfl⟩))
    (fun os started H enc _ => lifted os started H enc)
end Go.Proofs.Ytgndadlnhnkajan.fnExactRowsNew
namespace Go.Proofs.Ytgndadlnhnkajan
theorem fnExactRowsNew_holds : Rows.FnExactRowsNewSaid := fnExactRowsNew.over
#print axioms fnExactRowsNew_holds
end Go.Proofs.Ytgndadlnhnkajan
