/- spec.ClassOf and impl.ClassOf, walked: both answer the class, -1 of what is none. -/
import Derived.Test.YtkifebhkgldefaaDoorRows
import Derived.WalkKit
import Derived.ProofKit
namespace Go.Proofs.YtkifebhkgldefaaDoor
open Go.ChangeShapes Go.WideShapes Go.ChangeAt Go.RowKit

def classN (v : Int) : Int := if 1 ≤ v ∧ v ≤ 6 then v % 3 else -1

theorem specClassOf_any (k : Int) (w : World) :
    Calls Tryd.prog 56 #[.int .i64 k] w fun e w' => e = .returned (.int .i64 (classN k)) ∧ w' = w := by
  by_cases h : 1 ≤ k ∧ k ≤ 6
  · have h2 : k = 1 ∨ k = 2 ∨ k = 3 ∨ k = 4 ∨ k = 5 ∨ k = 6 := by omega
    clear h
    rcases h2 with rfl | rfl | rfl | rfl | rfl | rfl <;> (go_enter Tryd.func56, Tryd.ntmps56; go_wp2; go_ret; exact ⟨rfl, rfl⟩)
  · rw [show classN k = -1 from if_neg h]
    by_cases h0 : 1 ≤ k
    · have h1 : ¬ k ≤ 6 := by omega
      clear h
      go_enter Tryd.func56, Tryd.ntmps56
      go_wp2
      go_ret
      exact ⟨rfl, rfl⟩
    · clear h
      go_enter Tryd.func56, Tryd.ntmps56
      go_wp2
      go_ret
      exact ⟨rfl, rfl⟩

theorem implClassOf_any (k : Int) (w : World) :
    Calls Tryd.prog 53 #[.int .i64 k] w fun e w' => e = .returned (.int .i64 (classN k)) ∧ w' = w := by
  by_cases h : 1 ≤ k ∧ k ≤ 6
  · have h2 : k = 1 ∨ k = 2 ∨ k = 3 ∨ k = 4 ∨ k = 5 ∨ k = 6 := by omega
    clear h
    rcases h2 with rfl | rfl | rfl | rfl | rfl | rfl <;> (go_enter Tryd.func53, Tryd.ntmps53; go_wp2; go_ret; exact ⟨rfl, rfl⟩)
  · rw [show classN k = -1 from if_neg h]
    by_cases h0 : 1 ≤ k
    · have h1 : ¬ k ≤ 6 := by omega
      clear h
      go_enter Tryd.func53, Tryd.ntmps53
      go_wp2
      go_ret
      exact ⟨rfl, rfl⟩
    · clear h
      go_enter Tryd.func53, Tryd.ntmps53
      go_wp2
      go_ret
      exact ⟨rfl, rfl⟩
end Go.Proofs.YtkifebhkgldefaaDoor
