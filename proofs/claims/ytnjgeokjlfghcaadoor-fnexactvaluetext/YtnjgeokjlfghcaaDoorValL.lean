/- The laws' own functions on one value. -/
import Derived.Test.YtnjgeokjlfghcaaDoorVal17
import Derived.Test.YtnjgeokjlfghcaaDoorRows
import Derived.Below
namespace Go.Proofs.YtnjgeokjlfghcaaDoor
open Go.ChangeShapes Go.WideShapes Go.ChangeAt Go.RowKit

set_option maxHeartbeats 1000000 in
theorem toValue_any (k n : Int) (s : ByteArray) (w : World) : Calls Tryd.prog 19 #[VaV k n s] w fun e w' => e = .returned (VaV k n s) ∧ Below w.heap.size w w' := by
  go_enter Tryd.func19, Tryd.ntmps19
  go_wp2
  (try simp only [Exit.inBlock, Exit.then])
  refine bodyPost_ret (by simp [results, Tryd.results19, go_sem]; try rfl) rfl ?_
  exact ⟨rfl, (((Below.refl _ _).alloc (Nat.le_refl _) _).alloc (by simp) _).alloc (by simp; omega) _⟩
/-- What is left behind a value. -/
def leftV (s : ByteArray) (left : Int) : Int := if (s.size : Int) ≤ left then left - s.size else -1
theorem szValue_any (k n : Int) (s : ByteArray) (left : Int) (hs : s.size ≤ 9223372036854775807) (h0 : 0 ≤ left) (h1 : left ≤ 2097152) (w : World) : Calls Tryd.prog 18 #[VaV k n s, .int .i64 left] w fun e w' => e = .returned (.int .i64 (leftV s left)) ∧ Below w.heap.size w w' := by
  have HB : Hid (Below w.heap.size w (w.alloc (.cells #[.int .i64 k, .int .i64 n, .string s] 32))) := (Below.refl _ w).alloc (Nat.le_refl _) _
  by_cases hl : (s.size : Int) ≤ left
  · have HL : Hid (leftV s left = left - s.size) := if_pos hl
    rw [HL.out]
    have h2 : ¬ (left - (s.size : Int) < 0) := by omega
    go_enter Tryd.func18, Tryd.ntmps18
    go_wp2
    go_ret
    exact ⟨rfl, HB.out⟩
  · have HL : Hid (leftV s left = -1) := if_neg hl
    rw [HL.out]
    have h2 : left - (s.size : Int) < 0 := by omega
    go_enter Tryd.func18, Tryd.ntmps18
    go_wp2
    go_ret
    exact ⟨rfl, HB.out⟩
end Go.Proofs.YtnjgeokjlfghcaaDoor
