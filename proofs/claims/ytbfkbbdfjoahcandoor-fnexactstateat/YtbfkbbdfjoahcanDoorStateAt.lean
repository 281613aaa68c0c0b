/- spec.StateAt and impl.StateAt, walked: both answer the place of the name. -/
import Derived.Test.YtbfkbbdfjoahcanDoorPlace
import Derived.WalkKit
import Derived.ProofKit
namespace Go.Proofs.YtbfkbbdfjoahcanDoor
open Go.ChangeShapes Go.WideShapes Go.ChangeAt Go.RowKit

theorem specStateAt_any (w : World) :
    Calls Tryd.prog 8 #[] w fun e w' => e = .returned (.int .i64 13) ∧ w' = w := by
  go_enter Tryd.func8, Tryd.ntmps8
  go_wp2
  go_ret
  exact ⟨rfl, rfl⟩

theorem implStateAt_any (w : World) (hN : Names w) :
    Calls Tryd.prog 9 #[] w fun e w' => e = .returned (.int .i64 13) ∧ Below w.heap.size w w' := by
  go_enter Tryd.func9, Tryd.ntmps9
  go_wp2_with (go_at_call 13; refine (placeOf_any 4 0 _ hN).mono ?_; rintro e w1 ⟨rfl, hb⟩)
  go_ret
  exact ⟨rfl, hb⟩
end Go.Proofs.YtbfkbbdfjoahcanDoor
