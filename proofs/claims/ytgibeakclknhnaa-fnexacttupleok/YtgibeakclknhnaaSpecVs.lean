/- spec.ValueSame: two values compared. -/
import Derived.Test.YtgibeakclknhnaaVal17
import Derived.Test.YtgibeakclknhnaaRows
import Derived.Laws.StructEq
import Derived.Deep.Cut
namespace Go.Proofs.Ytgibeakclknhnaa
open Go.ChangeShapes Go.WideShapes Go.ChangeAt Go.RowKit

theorem str_ne {s s' : ByteArray} (h : ¬ s = s') : (s.toList == s'.toList) = false := by
  simp only [ByteArray.toList_eq]
  rw [beq_eq_false_iff_ne]
  exact fun e => h (str_eq e)
theorem equalIn_va (k n : Int) (s : ByteArray) (k' n' : Int) (s' : ByteArray) (w : World) : (Op.equalIn 10000 44 (.agg #[.int .i64 k, .int .i64 n, .string s]) (.agg #[.int .i64 k', .int .i64 n', .string s'])).run Try.prog w = .ok (sameV k n s k' n' s') w := by
  have hS : Try.prog.underlying 44 = some (.struct (Try.prog.fieldsOf 44)) := by kernel_rfl
  have hp : Try.prog.stoodInHeld 44 = false := by kernel_rfl
  have u3 := Try.underlying3
  have u9 := Try.underlying9
  rw [show (10000 : Nat) = 9999 + 1 from rfl, run_equalIn_agg w 9999 44 _ _ hS hp]
  simp only [Program.fieldsOf, Try.underlying44]
  unfold sameV
  by_cases hk : k = k'
  · subst hk
    by_cases hn : n = n'
    · subst hn
      by_cases hs : s = s'
      · subst hs
        rw [decide_eq_true ⟨rfl, rfl, rfl⟩]
        go_simp
      · have h1 := str_ne hs
        rw [decide_eq_false (fun h => hs h.2.2)]
        go_simp
    · have h1 : (n == n') = false := by simpa using hn
      rw [decide_eq_false (fun h => hn h.2.1)]
      go_simp
  · have h1 : (k == k') = false := by simpa using hk
    rw [decide_eq_false (fun h => hk h.1)]
    go_simp
theorem eql_va (k n : Int) (s : ByteArray) (k' n' : Int) (s' : ByteArray) (w : World) : (binOp .eql 44 (.agg #[.int .i64 k, .int .i64 n, .string s]) (.agg #[.int .i64 k', .int .i64 n', .string s'])).run Try.prog w = .ok (.bool (sameV k n s k' n' s')) w := by
  rw [run_eql_struct, equalIn_va]
  rfl
set_option maxHeartbeats 4000000 in
set_option maxRecDepth 100000 in
theorem specValueSame_any (k n : Int) (s : ByteArray) (k' n' : Int) (s' : ByteArray) (w : World) :
    Calls Try.prog 32 #[VaV k n s, VaV k' n' s'] w fun e w' => e = .returned (.bool (sameV k n s k' n' s')) ∧ Below w.heap.size w w' := by
  obtain ⟨W, hW⟩ : ∃ W, (w.alloc (.cells #[.int .i64 k, .int .i64 n, .string s] 44)).alloc (.cells #[.int .i64 k', .int .i64 n', .string s'] 44) = W := ⟨_, rfl⟩
  have HB0 : Hid (Below w.heap.size w W) := by rw [← hW]; exact ((Below.refl _ w).alloc (Nat.le_refl _) _).alloc (by simp) _
  have X0 : Hid (Box W w.heap.size #[.int .i64 k, .int .i64 n, .string s] 44) := by rw [← hW]; exact (box_of w _ _).alloc _
  have X1 : Hid (Box W (w.heap.size + 1) #[.int .i64 k', .int .i64 n', .string s'] 44) := by rw [← hW]; have := box_of (w.alloc (.cells #[.int .i64 k, .int .i64 n, .string s] 44)) #[.int .i64 k', .int .i64 n', .string s'] 44; rwa [World.size_alloc] at this
  have HW : Hid ((w.alloc (.cells #[.int .i64 k, .int .i64 n, .string s] 44)).alloc (.cells #[.int .i64 k', .int .i64 n', .string s'] 44) = W) := hW
  obtain ⟨c0, c1, c2⟩ := X0.out.triV
  obtain ⟨d0, d1, d2⟩ := X1.out.triV
  obtain ⟨B, hB⟩ : ∃ B, sameV k n s k' n' s' = B := ⟨_, rfl⟩
  have heq : ∀ w : World, (binOp .eql 44 (.agg #[.int .i64 k, .int .i64 n, .string s]) (.agg #[.int .i64 k', .int .i64 n', .string s'])).run Try.prog w = .ok (.bool B) w := fun w => by rw [← hB]; exact eql_va k n s k' n' s' w
  rw [hB]
  clear hW hB
  go_enter Try.func32, Try.ntmps32
  go_upto_region 1 with (fail)
  rw [HW.out]
  go_wp2
  go_ret
  exact ⟨rfl, HB0.out⟩
end Go.Proofs.Ytgibeakclknhnaa
