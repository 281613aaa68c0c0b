/- spec.OwnerAt and impl.OwnerAt, walked: both answer the place of the name. -/
import Derived.Test.YtkifebhkgldefaaDoorPlace
import Derived.WalkKit
import Derived.ProofKit
namespace Go.Proofs.YtkifebhkgldefaaDoor
open Go.ChangeShapes Go.WideShapes Go.ChangeAt Go.RowKit

theorem specOwnerAt_any (k : Int) (w : World) :
    Calls Tryd.prog 36 #[.int .i64 k] w fun e w' => e = .returned (.int .i64 (placeN 2 k)) ∧ w' = w := by
  by_cases h : 1 ≤ k ∧ k ≤ 6
  · have hp : placeN 2 k = 3 + k := by unfold placeN; repeat' split <;> omega
    rw [hp]
    clear hp
    obtain ⟨h0, h1⟩ := h
    go_enter Tryd.func36, Tryd.ntmps36
    go_wp2
    go_ret
    exact ⟨rfl, rfl⟩
  · have hp : placeN 2 k = -1 := by unfold placeN; repeat' split <;> omega
    rw [hp]
    clear hp
    by_cases h0 : 1 ≤ k
    · have h1 : ¬ k ≤ 6 := by omega
      clear h
      go_enter Tryd.func36, Tryd.ntmps36
      go_wp2
      go_ret
      exact ⟨rfl, rfl⟩
    · have h1 : k < 1 := by omega
      clear h h0
      go_enter Tryd.func36, Tryd.ntmps36
      go_wp2
      go_ret
      exact ⟨rfl, rfl⟩

theorem implOwnerAt_any (k : Int) (w : World) (hN : Names w) :
    Calls Tryd.prog 38 #[.int .i64 k] w fun e w' => e = .returned (.int .i64 (placeN 2 k)) ∧ Below w.heap.size w w' := by
  go_enter Tryd.func38, Tryd.ntmps38
  go_wp2_with (go_at_call 42; refine (placeOf_any 2 k _ hN).mono ?_; rintro e w1 ⟨rfl, hb⟩)
  go_ret
  exact ⟨rfl, hb⟩
end Go.Proofs.YtkifebhkgldefaaDoor
