/- spec.RowAt and impl.RowAt, walked: both answer the place of the name. -/
import Derived.Test.YtekafaoleniebapDoorPlace
import Derived.WalkKit
import Derived.ProofKit
namespace Go.Proofs.YtekafaoleniebapDoor
open Go.ChangeShapes Go.WideShapes Go.ChangeAt Go.RowKit

theorem specRowAt_any (k : Int) (w : World) :
    Calls Tryd.prog 27 #[.int .i64 k] w fun e w' => e = .returned (.int .i64 (placeN 1 k)) ∧ w' = w := by
  by_cases h : 0 ≤ k ∧ k ≤ 3
  · have hp : placeN 1 k = k := by unfold placeN; repeat' split <;> omega
    rw [hp]
    clear hp
    obtain ⟨h0, h1⟩ := h
    go_enter Tryd.func27, Tryd.ntmps27
    go_wp2
    go_ret
    exact ⟨rfl, rfl⟩
  · have hp : placeN 1 k = -1 := by unfold placeN; repeat' split <;> omega
    rw [hp]
    clear hp
    by_cases h0 : 0 ≤ k
    · have h1 : ¬ k ≤ 3 := by omega
      clear h
      go_enter Tryd.func27, Tryd.ntmps27
      go_wp2
      go_ret
      exact ⟨rfl, rfl⟩
    · have h1 : k < 0 := by omega
      clear h h0
      go_enter Tryd.func27, Tryd.ntmps27
      go_wp2
      go_ret
      exact ⟨rfl, rfl⟩

theorem implRowAt_any (k : Int) (w : World) (hN : Names w) :
    Calls Tryd.prog 44 #[.int .i64 k] w fun e w' => e = .returned (.int .i64 (placeN 1 k)) ∧ Below w.heap.size w w' := by
  go_enter Tryd.func44, Tryd.ntmps44
  go_wp2_with (go_at_call 62; refine (placeOf_any 1 k _ hN).mono ?_; rintro e w1 ⟨rfl, hb⟩)
  go_ret
  exact ⟨rfl, hb⟩
end Go.Proofs.YtekafaoleniebapDoor
