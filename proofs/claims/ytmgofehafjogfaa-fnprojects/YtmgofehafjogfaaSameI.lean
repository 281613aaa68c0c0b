/- The laws' own big and sameInts, walked. -/
import Derived.Test.YtmgofehafjogfaaIntAt
import Derived.Deep.RegionHeld3
import Derived.Handy
import Derived.Below
namespace Go.Proofs.Ytmgofehafjogfaa
open Go.ChangeShapes Go.WideShapes Go.ChangeAt Go.RowKit

theorem bigI (a : Option Addr) (n c : Nat) (w : World) : Calls Try.prog 9 #[.slice a n c] w fun e w' => e = .returned (.bool (decide (1048576 < n))) ∧ w' = w := by
  obtain ⟨B, hB⟩ : ∃ B, decide (1048576 < n) = B := ⟨_, rfl⟩
  rw [hB]
  have HB : Hid (decide ((1048576 : Int) < (n : Int)) = B) := by
    show _ = _
    rw [← hB, decide_eq_decide]
    omega
  clear hB
  go_enter Try.func9, Try.ntmps9
  go_wp2
  go_ret
  refine ⟨?_, rfl⟩
  rw [← HB.out]
  first | rfl | simp
end Go.Proofs.Ytmgofehafjogfaa
