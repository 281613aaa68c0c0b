/- impl.isMark, walked. -/
import Derived.Test.YtbdfopokimpeiarWrd1
namespace Go.Proofs.Ytbdfopokimpeiar
open Go.ChangeShapes Go.WideShapes Go.ChangeAt Go.RowKit

theorem isMark_any (n t s : Int) (w : World) : Calls Try.prog 17 #[WordV n t s] w fun e w' => e = .returned (.bool (t != 0)) ∧ Below w.heap.size w w' := by
  go_enter Try.func17, Try.ntmps17
  go_wp2
  go_ret
  exact ⟨rfl, (Below.refl _ w).alloc (Nat.le_refl _) _⟩
end Go.Proofs.Ytbdfopokimpeiar
