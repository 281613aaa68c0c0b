/- spec.l1Once, walked. -/
import Derived.Test.YtnjgeokjlfghcaaDoorDraw
import Derived.Test.YtnjgeokjlfghcaaDoorDrawF
namespace Go.Proofs.YtnjgeokjlfghcaaDoor
open Go.ChangeShapes Go.WideShapes Go.ChangeAt Go.RowKit

theorem l1Once_anyB (p : Nat) (a : Option Addr) (n c : Nat) (m : Int) (h0 : 1 ≤ m) (hm : m ≤ 256) (w : World) (hC : Cur 50 w p a n c) :
    Calls Tryd.prog 22 #[.pointer (some ⟨p, 0, none⟩), .int .i64 m] w fun e w' => (∃ b : Bool, e = .returned (.bool b)) ∧ Cur 50 w' p a n c ∧ Only p w w' := by
  go_enter Tryd.func22, Tryd.ntmps22
  go_wp2_with (go_at_call 31; refine (l1Below_any p a n c m h0 hm _ hC).mono ?_; rintro e w1 ⟨x, -, rfl, hC1, hO1⟩)
  go_ret
  exact ⟨⟨_, rfl⟩, hC1, hO1⟩
end Go.Proofs.YtnjgeokjlfghcaaDoor
