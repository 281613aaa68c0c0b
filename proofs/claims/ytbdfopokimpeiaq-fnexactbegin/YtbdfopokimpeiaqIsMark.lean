/- impl.isMark, walked. -/
import Derived.Test.YtbdfopokimpeiaqWrd1
namespace Go.Proofs.Ytbdfopokimpeiaq
open Go.ChangeShapes Go.WideShapes Go.ChangeAt Go.RowKit

theorem isMark_any (n t s : Int) (w : World) : Calls Try.prog 49 #[WordV n t s] w fun e w' => e = .returned (.bool (t != 0)) ∧ Below w.heap.size w w' := by
  go_enter Try.func49, Try.ntmps49
  go_wp2
  go_ret
  exact ⟨rfl, (Below.refl _ w).alloc (Nat.le_refl _) _⟩
end Go.Proofs.Ytbdfopokimpeiaq
