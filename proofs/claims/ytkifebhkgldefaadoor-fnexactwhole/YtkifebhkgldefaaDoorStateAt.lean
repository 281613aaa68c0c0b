/- spec.StateAt and impl.StateAt, walked: both answer the place of the name. -/
import Derived.Test.YtkifebhkgldefaaDoorPlace
import Derived.WalkKit
import Derived.ProofKit
namespace Go.Proofs.YtkifebhkgldefaaDoor
open Go.ChangeShapes Go.WideShapes Go.ChangeAt Go.RowKit

theorem specStateAt_any (w : World) :
    Calls Tryd.prog 25 #[] w fun e w' => e = .returned (.int .i64 13) ∧ w' = w := by
  go_enter Tryd.func25, Tryd.ntmps25
  go_wp2
  go_ret
  exact ⟨rfl, rfl⟩

theorem implStateAt_any (w : World) (hN : Names w) :
    Calls Tryd.prog 27 #[] w fun e w' => e = .returned (.int .i64 13) ∧ Below w.heap.size w w' := by
  go_enter Tryd.func27, Tryd.ntmps27
  go_wp2_with (go_at_call 42; refine (placeOf_any 4 0 _ hN).mono ?_; rintro e w1 ⟨rfl, hb⟩)
  go_ret
  exact ⟨rfl, hb⟩
end Go.Proofs.YtkifebhkgldefaaDoor
