/- spec.l1Once, walked. -/
import Derived.Test.YtmgofehafjogfaaDraw
import Derived.Test.YtmgofehafjogfaaDrawF
namespace Go.Proofs.Ytmgofehafjogfaa
open Go.ChangeShapes Go.WideShapes Go.ChangeAt Go.RowKit

theorem l1Once_anyB (p : Nat) (a : Option Addr) (n c : Nat) (m : Int) (h0 : 1 ≤ m) (hm : m ≤ 256) (w : World) (hC : Cur 102 w p a n c) :
    Calls Try.prog 79 #[.pointer (some ⟨p, 0, none⟩), .int .i64 m] w fun e w' => (∃ b : Bool, e = .returned (.bool b)) ∧ Cur 102 w' p a n c ∧ Only p w w' := by
  go_enter Try.func79, Try.ntmps79
  go_wp2_with (go_at_call 45; refine (l1Below_any p a n c m h0 hm _ hC).mono ?_; rintro e w1 ⟨x, -, rfl, hC1, hO1⟩)
  go_ret
  exact ⟨⟨_, rfl⟩, hC1, hO1⟩
end Go.Proofs.Ytmgofehafjogfaa
