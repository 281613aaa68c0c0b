/- The laws' own helper heldRows, walked. -/
import Derived.Test.YtkifebhkgldefaaDoorMarkI
namespace Go.Proofs.YtkifebhkgldefaaDoor
open Go.ChangeShapes Go.WideShapes Go.ChangeAt Go.RowKit

set_option maxHeartbeats 400000 in
theorem heldRows_any (a : Option Addr) (n cap : Nat) (st : Int) (w : World) (hA : IntAt w a n (marksI n)) :
    Calls Tryd.prog 15 #[RowsV a n cap st, .int .i64 1] w fun e w' => e = .returned (.int .i64 ((n : Int) + 1)) ∧ Below w.heap.size w w' := by
  have HA : Hid (IntAt w a n (marksI n)) := hA
  have hn := hA.2.1
  clear hA
  go_enter Tryd.func15, Tryd.ntmps15
  go_wp2_with fail
  refine (heldIntS_any a n cap _ (HA.out.below ((Below.refl _ w).alloc (Nat.le_refl _) _) (Nat.le_refl _))).mono ?_
  rintro e w1 ⟨rfl, m, rfl⟩
  have h0 : ¬ ((n : Int) + 1 < 0) := by omega
  go_wp2
  go_ret
  exact ⟨rfl, below_drewN ((Below.refl _ _).alloc (Nat.le_refl _) _) m⟩
end Go.Proofs.YtkifebhkgldefaaDoor
