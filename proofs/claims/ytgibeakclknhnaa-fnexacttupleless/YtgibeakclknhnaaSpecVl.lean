/- spec.ValueLess, walked. -/
import Derived.Test.YtgibeakclknhnaaVal17
import Derived.Test.YtgibeakclknhnaaRows
import Derived.Deep.Cut
namespace Go.Proofs.Ytgibeakclknhnaa
open Go.ChangeShapes Go.WideShapes Go.ChangeAt Go.RowKit

set_option maxHeartbeats 4000000 in
set_option maxRecDepth 100000 in
theorem specValueLess_any (k n : Int) (s : ByteArray) (k' n' : Int) (s' : ByteArray) (w : World) :
    Calls Try.prog 33 #[VaV k n s, VaV k' n' s'] w fun e w' => e = .returned (.bool (lessV k n s k' n' s')) ∧ Below w.heap.size w w' := by
  obtain ⟨W, hW⟩ : ∃ W, (w.alloc (.cells #[.int .i64 k, .int .i64 n, .string s] 44)).alloc (.cells #[.int .i64 k', .int .i64 n', .string s'] 44) = W := ⟨_, rfl⟩
  have HB0 : Hid (Below w.heap.size w W) := by rw [← hW]; exact ((Below.refl _ w).alloc (Nat.le_refl _) _).alloc (by simp) _
  have X0 : Hid (Box W w.heap.size #[.int .i64 k, .int .i64 n, .string s] 44) := by rw [← hW]; exact (box_of w _ _).alloc _
  have X1 : Hid (Box W (w.heap.size + 1) #[.int .i64 k', .int .i64 n', .string s'] 44) := by rw [← hW]; have := box_of (w.alloc (.cells #[.int .i64 k, .int .i64 n, .string s] 44)) #[.int .i64 k', .int .i64 n', .string s'] 44; rwa [World.size_alloc] at this
  have HW : Hid ((w.alloc (.cells #[.int .i64 k, .int .i64 n, .string s] 44)).alloc (.cells #[.int .i64 k', .int .i64 n', .string s'] 44) = W) := hW
  obtain ⟨c0, c1, c2⟩ := X0.out.triV
  obtain ⟨d0, d1, d2⟩ := X1.out.triV
  clear hW
  by_cases hk : k = k'
  · by_cases hn : n = n'
    · have HL : Hid (lessV k n s k' n' s' = Op.bytesLess s.toList s'.toList) := by show _ = _; unfold lessV; rw [if_pos hk, if_pos hn]
      rw [HL.out]
      subst hk hn
      go_enter Try.func33, Try.ntmps33
      go_upto_region 1 with (fail)
      rw [HW.out]
      go_wp2
      go_ret
      exact ⟨rfl, HB0.out⟩
    · have HL : Hid (lessV k n s k' n' s' = decide (n < n')) := by show _ = _; unfold lessV; rw [if_pos hk, if_neg hn]
      rw [HL.out]
      subst hk
      have hb : (n == n') = false := by simpa using hn
      have hc : (n != n') = true := by simpa using hn
      go_enter Try.func33, Try.ntmps33
      go_upto_region 1 with (fail)
      rw [HW.out]
      go_wp2
      go_ret
      exact ⟨rfl, HB0.out⟩
  · have HL : Hid (lessV k n s k' n' s' = decide (k < k')) := by show _ = _; unfold lessV; rw [if_neg hk]
    rw [HL.out]
    have hb : (k == k') = false := by simpa using hk
    have hc : (k != k') = true := by simpa using hk
    go_enter Try.func33, Try.ntmps33
    go_upto_region 1 with (fail)
    rw [HW.out]
    go_wp2
    go_ret
    exact ⟨rfl, HB0.out⟩
end Go.Proofs.Ytgibeakclknhnaa
