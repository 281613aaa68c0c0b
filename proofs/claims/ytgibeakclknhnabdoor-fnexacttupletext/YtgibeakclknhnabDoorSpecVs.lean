/- spec.ValueSame: two values compared. -/
import Derived.Test.YtgibeakclknhnabDoorVal17
import Derived.Test.YtgibeakclknhnabDoorRows
import Derived.Laws.StructEq
import Derived.Deep.Cut
namespace Go.Proofs.YtgibeakclknhnabDoor
open Go.ChangeShapes Go.WideShapes Go.ChangeAt Go.RowKit

theorem str_ne {s s' : ByteArray} (h : ¬ s = s') : (s.toList == s'.toList) = false := by
  simp only [ByteArray.toList_eq]
  rw [beq_eq_false_iff_ne]
  exact fun e => h (str_eq e)
theorem equalIn_va (k n : Int) (s : ByteArray) (k' n' : Int) (s' : ByteArray) (w : World) : (Op.equalIn 10000 38 (.agg #[.int .i64 k, .int .i64 n, .string s]) (.agg #[.int .i64 k', .int .i64 n', .string s'])).run Tryd.prog w = .ok (sameV k n s k' n' s') w := by
  have hS : Tryd.prog.underlying 38 = some (.struct (Tryd.prog.fieldsOf 38)) := by kernel_rfl
  have hp : Tryd.prog.stoodInHeld 38 = false := by kernel_rfl
  have u3 := Tryd.underlying3
  have u9 := Tryd.underlying9
  rw [show (10000 : Nat) = 9999 + 1 from rfl, run_equalIn_agg w 9999 38 _ _ hS hp]
  simp only [Program.fieldsOf, Tryd.underlying38]
  unfold sameV
  by_cases hk : k = k'
  · subst hk
    by_cases hn : n = n'
    · subst hn
      by_cases hs : s = s'
      · subst hs
        rw [decide_eq_true ⟨rfl, rfl, rfl⟩]
        go_simp
      · have h1 := str_ne hs
        rw [decide_eq_false (fun h => hs h.2.2)]
        go_simp
    · have h1 : (n == n') = false := by simpa using hn
      rw [decide_eq_false (fun h => hn h.2.1)]
      go_simp
  · have h1 : (k == k') = false := by simpa using hk
    rw [decide_eq_false (fun h => hk h.1)]
    go_simp
theorem eql_va (k n : Int) (s : ByteArray) (k' n' : Int) (s' : ByteArray) (w : World) : (binOp .eql 38 (.agg #[.int .i64 k, .int .i64 n, .string s]) (.agg #[.int .i64 k', .int .i64 n', .string s'])).run Tryd.prog w = .ok (.bool (sameV k n s k' n' s')) w := by
  rw [run_eql_struct, equalIn_va]
  rfl
end Go.Proofs.YtgibeakclknhnabDoor
