/- Texts joined: KeyOk, ValOk. -/
import Derived.Test.YthdpicmcgofghasGreatRows
import Derived.WalkKit
import Derived.ProofKit
/- spec.KeyOk and impl.KeyOk, walked. -/
namespace Go.Proofs.YthdpicmcgofghasGreat
open Go.ChangeShapes Go.WideShapes Go.ChangeAt Go.RowKit

theorem specKeyOk_any (k : Int) (w : World) :
    Calls Tryz.prog 87 #[.int .i64 k] w fun e w' => e = .returned (.bool (decide (0 ≤ k ∧ k ≤ 3))) ∧ w' = w := by
  by_cases h0 : 0 ≤ k
  · by_cases h1 : k ≤ 3
    · rw [show decide (0 ≤ k ∧ k ≤ 3) = true from decide_eq_true ⟨h0, h1⟩]
      go_enter Tryz.func87, Tryz.ntmps87
      go_wp2
      go_ret
      exact ⟨rfl, rfl⟩
    · rw [show decide (0 ≤ k ∧ k ≤ 3) = false from decide_eq_false (fun h => h1 h.2)]
      go_enter Tryz.func87, Tryz.ntmps87
      go_wp2
      go_ret
      exact ⟨rfl, rfl⟩
  · rw [show decide (0 ≤ k ∧ k ≤ 3) = false from decide_eq_false (fun h => h0 h.1)]
    go_enter Tryz.func87, Tryz.ntmps87
    go_wp2
    go_ret
    exact ⟨rfl, rfl⟩

theorem implKeyOk_any (k : Int) (w : World) :
    Calls Tryz.prog 159 #[.int .i64 k] w fun e w' => e = .returned (.bool (decide (0 ≤ k ∧ k ≤ 3))) ∧ w' = w := by
  by_cases h0 : 0 ≤ k
  · by_cases h1 : k ≤ 3
    · rw [show decide (0 ≤ k ∧ k ≤ 3) = true from decide_eq_true ⟨h0, h1⟩]
      have h2 : k < 4 := by omega
      go_enter Tryz.func159, Tryz.ntmps159
      go_wp2
      go_ret
      exact ⟨rfl, rfl⟩
    · rw [show decide (0 ≤ k ∧ k ≤ 3) = false from decide_eq_false (fun h => h1 h.2)]
      have h2 : ¬ k < 4 := by omega
      go_enter Tryz.func159, Tryz.ntmps159
      go_wp2
      go_ret
      exact ⟨rfl, rfl⟩
  · rw [show decide (0 ≤ k ∧ k ≤ 3) = false from decide_eq_false (fun h => h0 h.1)]
    go_enter Tryz.func159, Tryz.ntmps159
    go_wp2
    go_ret
    exact ⟨rfl, rfl⟩
end Go.Proofs.YthdpicmcgofghasGreat

/- spec.ValOk and impl.ValOk, walked. -/
namespace Go.Proofs.YthdpicmcgofghasGreat
open Go.ChangeShapes Go.WideShapes Go.ChangeAt Go.RowKit

theorem specValOk_any (k : Int) (w : World) :
    Calls Tryz.prog 50 #[.int .i64 k] w fun e w' => e = .returned (.bool (decide (1 ≤ k ∧ k ≤ 6))) ∧ w' = w := by
  by_cases h0 : 1 ≤ k
  · by_cases h1 : k ≤ 6
    · rw [show decide (1 ≤ k ∧ k ≤ 6) = true from decide_eq_true ⟨h0, h1⟩]
      go_enter Tryz.func50, Tryz.ntmps50
      go_wp2
      go_ret
      exact ⟨rfl, rfl⟩
    · rw [show decide (1 ≤ k ∧ k ≤ 6) = false from decide_eq_false (fun h => h1 h.2)]
      go_enter Tryz.func50, Tryz.ntmps50
      go_wp2
      go_ret
      exact ⟨rfl, rfl⟩
  · rw [show decide (1 ≤ k ∧ k ≤ 6) = false from decide_eq_false (fun h => h0 h.1)]
    go_enter Tryz.func50, Tryz.ntmps50
    go_wp2
    go_ret
    exact ⟨rfl, rfl⟩

theorem implValOk_any (k : Int) (w : World) :
    Calls Tryz.prog 72 #[.int .i64 k] w fun e w' => e = .returned (.bool (decide (1 ≤ k ∧ k ≤ 6))) ∧ w' = w := by
  by_cases h0 : 1 ≤ k
  · by_cases h1 : k ≤ 6
    · rw [show decide (1 ≤ k ∧ k ≤ 6) = true from decide_eq_true ⟨h0, h1⟩]
      have h2 : k < 7 := by omega
      go_enter Tryz.func72, Tryz.ntmps72
      go_wp2
      go_ret
      exact ⟨rfl, rfl⟩
    · rw [show decide (1 ≤ k ∧ k ≤ 6) = false from decide_eq_false (fun h => h1 h.2)]
      have h2 : ¬ k < 7 := by omega
      go_enter Tryz.func72, Tryz.ntmps72
      go_wp2
      go_ret
      exact ⟨rfl, rfl⟩
  · rw [show decide (1 ≤ k ∧ k ≤ 6) = false from decide_eq_false (fun h => h0 h.1)]
    go_enter Tryz.func72, Tryz.ntmps72
    go_wp2
    go_ret
    exact ⟨rfl, rfl⟩
end Go.Proofs.YthdpicmcgofghasGreat
