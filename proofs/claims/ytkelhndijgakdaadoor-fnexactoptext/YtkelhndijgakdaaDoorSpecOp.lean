/- spec.OpOk, walked. -/
import Derived.Test.YtkelhndijgakdaaDoorOpM
import Derived.Test.YtkelhndijgakdaaDoorKeyOk
import Derived.Test.YtkelhndijgakdaaDoorValOk
namespace Go.Proofs.YtkelhndijgakdaaDoor
open Go.ChangeShapes Go.WideShapes Go.ChangeAt Go.RowKit

set_option maxHeartbeats 2000000 in
theorem specOpOk_1 (k v : Int) (w : World) :
    Calls Tryd.prog 19 #[OpV 1 k v] w fun e w' => e = .returned (.bool (decide ((0 ≤ k ∧ k ≤ 3) ∧ (1 ≤ v ∧ v ≤ 6)))) ∧ Below w.heap.size w w' := by
  obtain ⟨B, hB⟩ : ∃ B, decide ((0 ≤ k ∧ k ≤ 3) ∧ (1 ≤ v ∧ v ≤ 6)) = B := ⟨_, rfl⟩
  rw [hB]
  have HB : Hid (decide ((0 ≤ k ∧ k ≤ 3) ∧ (1 ≤ v ∧ v ≤ 6)) = B) := hB
  clear hB
  rcases tri 0 3 k (by decide) with ⟨h0, h1⟩ | ⟨h0, h1⟩ | ⟨h0, h1⟩ <;> rcases tri 1 6 v (by decide) with ⟨g0, g1⟩ | ⟨g0, g1⟩ | ⟨g0, g1⟩
  all_goals
    go_enter Tryd.func19, Tryd.ntmps19
    go_wp2
    go_ret
    refine ⟨?_, (Below.refl _ _).alloc (Nat.le_refl _) _⟩
    rw [← HB.out]
    first
      | exact says_true (by omega)
      | exact says_false (by omega)

set_option maxHeartbeats 2000000 in
theorem specOpOk_2 (k v : Int) (w : World) :
    Calls Tryd.prog 19 #[OpV 2 k v] w fun e w' => e = .returned (.bool (decide ((0 ≤ k ∧ k ≤ 3) ∧ (1 ≤ v ∧ v ≤ 6)))) ∧ Below w.heap.size w w' := by
  obtain ⟨B, hB⟩ : ∃ B, decide ((0 ≤ k ∧ k ≤ 3) ∧ (1 ≤ v ∧ v ≤ 6)) = B := ⟨_, rfl⟩
  rw [hB]
  have HB : Hid (decide ((0 ≤ k ∧ k ≤ 3) ∧ (1 ≤ v ∧ v ≤ 6)) = B) := hB
  clear hB
  rcases tri 0 3 k (by decide) with ⟨h0, h1⟩ | ⟨h0, h1⟩ | ⟨h0, h1⟩ <;> rcases tri 1 6 v (by decide) with ⟨g0, g1⟩ | ⟨g0, g1⟩ | ⟨g0, g1⟩
  all_goals
    go_enter Tryd.func19, Tryd.ntmps19
    go_wp2
    go_ret
    refine ⟨?_, (Below.refl _ _).alloc (Nat.le_refl _) _⟩
    rw [← HB.out]
    first
      | exact says_true (by omega)
      | exact says_false (by omega)

set_option maxHeartbeats 2000000 in
theorem specOpOk_3 (k v : Int) (w : World) :
    Calls Tryd.prog 19 #[OpV 3 k v] w fun e w' => e = .returned (.bool (decide ((0 ≤ k ∧ k ≤ 3) ∧ (v = 0)))) ∧ Below w.heap.size w w' := by
  obtain ⟨B, hB⟩ : ∃ B, decide ((0 ≤ k ∧ k ≤ 3) ∧ (v = 0)) = B := ⟨_, rfl⟩
  rw [hB]
  have HB : Hid (decide ((0 ≤ k ∧ k ≤ 3) ∧ (v = 0)) = B) := hB
  clear hB
  rcases tri 0 3 k (by decide) with ⟨h0, h1⟩ | ⟨h0, h1⟩ | ⟨h0, h1⟩ <;> rcases eqb v 0 with ⟨g0, g1⟩ | ⟨g0, g1⟩
  all_goals
    go_enter Tryd.func19, Tryd.ntmps19
    go_wp2
    go_ret
    refine ⟨?_, (Below.refl _ _).alloc (Nat.le_refl _) _⟩
    rw [← HB.out]
    first
      | exact says_true (by omega)
      | exact says_false (by omega)

set_option maxHeartbeats 2000000 in
theorem specOpOk_4 (k v : Int) (w : World) :
    Calls Tryd.prog 19 #[OpV 4 k v] w fun e w' => e = .returned (.bool (decide ((0 ≤ k ∧ k ≤ 3) ∧ (v = 0)))) ∧ Below w.heap.size w w' := by
  obtain ⟨B, hB⟩ : ∃ B, decide ((0 ≤ k ∧ k ≤ 3) ∧ (v = 0)) = B := ⟨_, rfl⟩
  rw [hB]
  have HB : Hid (decide ((0 ≤ k ∧ k ≤ 3) ∧ (v = 0)) = B) := hB
  clear hB
  rcases tri 0 3 k (by decide) with ⟨h0, h1⟩ | ⟨h0, h1⟩ | ⟨h0, h1⟩ <;> rcases eqb v 0 with ⟨g0, g1⟩ | ⟨g0, g1⟩
  all_goals
    go_enter Tryd.func19, Tryd.ntmps19
    go_wp2
    go_ret
    refine ⟨?_, (Below.refl _ _).alloc (Nat.le_refl _) _⟩
    rw [← HB.out]
    first
      | exact says_true (by omega)
      | exact says_false (by omega)

set_option maxHeartbeats 2000000 in
theorem specOpOk_5 (k v : Int) (w : World) :
    Calls Tryd.prog 19 #[OpV 5 k v] w fun e w' => e = .returned (.bool (decide ((k = 0) ∧ (1 ≤ v ∧ v ≤ 6)))) ∧ Below w.heap.size w w' := by
  obtain ⟨B, hB⟩ : ∃ B, decide ((k = 0) ∧ (1 ≤ v ∧ v ≤ 6)) = B := ⟨_, rfl⟩
  rw [hB]
  have HB : Hid (decide ((k = 0) ∧ (1 ≤ v ∧ v ≤ 6)) = B) := hB
  clear hB
  rcases eqb k 0 with ⟨h0, h1⟩ | ⟨h0, h1⟩ <;> rcases tri 1 6 v (by decide) with ⟨g0, g1⟩ | ⟨g0, g1⟩ | ⟨g0, g1⟩
  all_goals
    go_enter Tryd.func19, Tryd.ntmps19
    go_wp2
    go_ret
    refine ⟨?_, (Below.refl _ _).alloc (Nat.le_refl _) _⟩
    rw [← HB.out]
    first
      | exact says_true (by omega)
      | exact says_false (by omega)

set_option maxHeartbeats 2000000 in
theorem specOpOk_6 (k v : Int) (w : World) :
    Calls Tryd.prog 19 #[OpV 6 k v] w fun e w' => e = .returned (.bool (decide ((0 ≤ k ∧ k ≤ 2) ∧ (v = 0)))) ∧ Below w.heap.size w w' := by
  obtain ⟨B, hB⟩ : ∃ B, decide ((0 ≤ k ∧ k ≤ 2) ∧ (v = 0)) = B := ⟨_, rfl⟩
  rw [hB]
  have HB : Hid (decide ((0 ≤ k ∧ k ≤ 2) ∧ (v = 0)) = B) := hB
  clear hB
  rcases tri 0 2 k (by decide) with ⟨h0, h1⟩ | ⟨h0, h1⟩ | ⟨h0, h1⟩ <;> rcases eqb v 0 with ⟨g0, g1⟩ | ⟨g0, g1⟩
  all_goals
    go_enter Tryd.func19, Tryd.ntmps19
    go_wp2
    go_ret
    refine ⟨?_, (Below.refl _ _).alloc (Nat.le_refl _) _⟩
    rw [← HB.out]
    first
      | exact says_true (by omega)
      | exact says_false (by omega)

set_option maxHeartbeats 2000000 in
theorem specOpOk_7 (k v : Int) (w : World) :
    Calls Tryd.prog 19 #[OpV 7 k v] w fun e w' => e = .returned (.bool (decide ((k = 0) ∧ (v = 0)))) ∧ Below w.heap.size w w' := by
  obtain ⟨B, hB⟩ : ∃ B, decide ((k = 0) ∧ (v = 0)) = B := ⟨_, rfl⟩
  rw [hB]
  have HB : Hid (decide ((k = 0) ∧ (v = 0)) = B) := hB
  clear hB
  rcases eqb k 0 with ⟨h0, h1⟩ | ⟨h0, h1⟩ <;> rcases eqb v 0 with ⟨g0, g1⟩ | ⟨g0, g1⟩
  all_goals
    go_enter Tryd.func19, Tryd.ntmps19
    go_wp2
    go_ret
    refine ⟨?_, (Below.refl _ _).alloc (Nat.le_refl _) _⟩
    rw [← HB.out]
    first
      | exact says_true (by omega)
      | exact says_false (by omega)

set_option maxHeartbeats 2000000 in
theorem specOpOk_8 (k v : Int) (w : World) :
    Calls Tryd.prog 19 #[OpV 8 k v] w fun e w' => e = .returned (.bool (decide ((k = 0) ∧ (v = 0)))) ∧ Below w.heap.size w w' := by
  obtain ⟨B, hB⟩ : ∃ B, decide ((k = 0) ∧ (v = 0)) = B := ⟨_, rfl⟩
  rw [hB]
  have HB : Hid (decide ((k = 0) ∧ (v = 0)) = B) := hB
  clear hB
  rcases eqb k 0 with ⟨h0, h1⟩ | ⟨h0, h1⟩ <;> rcases eqb v 0 with ⟨g0, g1⟩ | ⟨g0, g1⟩
  all_goals
    go_enter Tryd.func19, Tryd.ntmps19
    go_wp2
    go_ret
    refine ⟨?_, (Below.refl _ _).alloc (Nat.le_refl _) _⟩
    rw [← HB.out]
    first
      | exact says_true (by omega)
      | exact says_false (by omega)

set_option maxHeartbeats 2000000 in
theorem specOpOk_9 (k v : Int) (w : World) :
    Calls Tryd.prog 19 #[OpV 9 k v] w fun e w' => e = .returned (.bool (decide ((k = 0) ∧ (v = 0)))) ∧ Below w.heap.size w w' := by
  obtain ⟨B, hB⟩ : ∃ B, decide ((k = 0) ∧ (v = 0)) = B := ⟨_, rfl⟩
  rw [hB]
  have HB : Hid (decide ((k = 0) ∧ (v = 0)) = B) := hB
  clear hB
  rcases eqb k 0 with ⟨h0, h1⟩ | ⟨h0, h1⟩ <;> rcases eqb v 0 with ⟨g0, g1⟩ | ⟨g0, g1⟩
  all_goals
    go_enter Tryd.func19, Tryd.ntmps19
    go_wp2
    go_ret
    refine ⟨?_, (Below.refl _ _).alloc (Nat.le_refl _) _⟩
    rw [← HB.out]
    first
      | exact says_true (by omega)
      | exact says_false (by omega)

set_option maxHeartbeats 2000000 in
theorem specOpOk_10 (k v : Int) (w : World) :
    Calls Tryd.prog 19 #[OpV 10 k v] w fun e w' => e = .returned (.bool (decide ((k = 0) ∧ (1 ≤ v ∧ v ≤ 6)))) ∧ Below w.heap.size w w' := by
  obtain ⟨B, hB⟩ : ∃ B, decide ((k = 0) ∧ (1 ≤ v ∧ v ≤ 6)) = B := ⟨_, rfl⟩
  rw [hB]
  have HB : Hid (decide ((k = 0) ∧ (1 ≤ v ∧ v ≤ 6)) = B) := hB
  clear hB
  rcases eqb k 0 with ⟨h0, h1⟩ | ⟨h0, h1⟩ <;> rcases tri 1 6 v (by decide) with ⟨g0, g1⟩ | ⟨g0, g1⟩ | ⟨g0, g1⟩
  all_goals
    go_enter Tryd.func19, Tryd.ntmps19
    go_wp2
    go_ret
    refine ⟨?_, (Below.refl _ _).alloc (Nat.le_refl _) _⟩
    rw [← HB.out]
    first
      | exact says_true (by omega)
      | exact says_false (by omega)

set_option maxHeartbeats 2000000 in
theorem specOpOk_any (kind k v : Int) (w : World) :
    Calls Tryd.prog 19 #[OpV kind k v] w fun e w' => e = .returned (.bool (decide (OpGood kind k v))) ∧ Below w.heap.size w w' := by
  by_cases hk : 1 ≤ kind ∧ kind ≤ 10
  · have hd : ∀ (P : Prop) [Decidable P], (OpGood kind k v ↔ P) → decide (OpGood kind k v) = decide P := fun P _ h => decide_eq_decide.2 h
    rcases kinds hk with rfl | rfl | rfl | rfl | rfl | rfl | rfl | rfl | rfl | rfl
    · rw [hd _ (good_of hk (P := 0 ≤ k ∧ k ≤ 3) (Q := 1 ≤ v ∧ v ≤ 6) (by unfold KeyGood; omega) (by unfold ValGood; omega))]
      exact specOpOk_1 k v w
    · rw [hd _ (good_of hk (P := 0 ≤ k ∧ k ≤ 3) (Q := 1 ≤ v ∧ v ≤ 6) (by unfold KeyGood; omega) (by unfold ValGood; omega))]
      exact specOpOk_2 k v w
    · rw [hd _ (good_of hk (P := 0 ≤ k ∧ k ≤ 3) (Q := v = 0) (by unfold KeyGood; omega) (by unfold ValGood; omega))]
      exact specOpOk_3 k v w
    · rw [hd _ (good_of hk (P := 0 ≤ k ∧ k ≤ 3) (Q := v = 0) (by unfold KeyGood; omega) (by unfold ValGood; omega))]
      exact specOpOk_4 k v w
    · rw [hd _ (good_of hk (P := k = 0) (Q := 1 ≤ v ∧ v ≤ 6) (by unfold KeyGood; omega) (by unfold ValGood; omega))]
      exact specOpOk_5 k v w
    · rw [hd _ (good_of hk (P := 0 ≤ k ∧ k ≤ 2) (Q := v = 0) (by unfold KeyGood; omega) (by unfold ValGood; omega))]
      exact specOpOk_6 k v w
    · rw [hd _ (good_of hk (P := k = 0) (Q := v = 0) (by unfold KeyGood; omega) (by unfold ValGood; omega))]
      exact specOpOk_7 k v w
    · rw [hd _ (good_of hk (P := k = 0) (Q := v = 0) (by unfold KeyGood; omega) (by unfold ValGood; omega))]
      exact specOpOk_8 k v w
    · rw [hd _ (good_of hk (P := k = 0) (Q := v = 0) (by unfold KeyGood; omega) (by unfold ValGood; omega))]
      exact specOpOk_9 k v w
    · rw [hd _ (good_of hk (P := k = 0) (Q := 1 ≤ v ∧ v ≤ 6) (by unfold KeyGood; omega) (by unfold ValGood; omega))]
      exact specOpOk_10 k v w
  · rw [show decide (OpGood kind k v) = false from decide_eq_false (fun h => hk h.1)]
    by_cases h0 : 1 ≤ kind
    · have h1 : ¬ kind ≤ 10 := fun h => hk ⟨h0, h⟩
      clear hk
      go_enter Tryd.func19, Tryd.ntmps19
      go_wp2
      go_ret
      exact ⟨rfl, (Below.refl _ _).alloc (Nat.le_refl _) _⟩
    · clear hk
      go_enter Tryd.func19, Tryd.ntmps19
      go_wp2
      go_ret
      exact ⟨rfl, (Below.refl _ _).alloc (Nat.le_refl _) _⟩
end Go.Proofs.YtkelhndijgakdaaDoor
