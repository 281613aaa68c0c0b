/- Tuples in order, in plain words. No program. -/
import Derived.Test.YtmgofehafjogfaaVasL
namespace Go.Proofs.Ytmgofehafjogfaa
open Go.ChangeShapes Go.WideShapes Go.ChangeAt Go.RowKit

/-- By the first place where they are not alike; else the shorter one. -/
def tupLess : List Va3 → List Va3 → Bool
  | [], b => decide (0 < b.length)
  | _ :: _, [] => false
  | x :: a, y :: b => if sameV x.1 x.2.1 x.2.2 y.1 y.2.1 y.2.2 = true then tupLess a b else lessV x.1 x.2.1 x.2.2 y.1 y.2.1 y.2.2
theorem drop_at {L : List Va3} {j : Nat} {x : Va3} (h : L[j]? = some x) : L.drop j = x :: L.drop (j + 1) := by
  rw [List.drop_eq_getElem_cons (List.getElem?_eq_some_iff.1 h).1, (List.getElem?_eq_some_iff.1 h).2]
theorem tup_step {L M : List Va3} {j : Nat} {x y : Va3} (h : L[j]? = some x) (h' : M[j]? = some y) : tupLess (L.drop j) (M.drop j) = if sameV x.1 x.2.1 x.2.2 y.1 y.2.1 y.2.2 = true then tupLess (L.drop (j + 1)) (M.drop (j + 1)) else lessV x.1 x.2.1 x.2.2 y.1 y.2.1 y.2.2 := by
  rw [drop_at h, drop_at h', tupLess]
theorem tup_end {L M : List Va3} {j : Nat} (hl : j ≤ L.length) (hm : j ≤ M.length) (h : ¬ (j < L.length ∧ j < M.length)) : tupLess (L.drop j) (M.drop j) = decide (L.length < M.length) := by
  by_cases h1 : j = L.length
  · rw [List.drop_eq_nil_of_le (by omega), tupLess, List.length_drop]
    exact decide_eq_decide.2 (by omega)
  · have h2 : M.length ≤ j := by omega
    rw [List.drop_eq_nil_of_le h2, drop_at (List.getElem?_eq_getElem (by omega)), tupLess]
    exact (decide_eq_false (by omega)).symm
end Go.Proofs.Ytmgofehafjogfaa
