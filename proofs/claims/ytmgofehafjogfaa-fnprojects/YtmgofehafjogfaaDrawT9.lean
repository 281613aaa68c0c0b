/- The drawing of two tuples, walked. -/
import Derived.Test.YtmgofehafjogfaaDrawT8
import Derived.Test.YtmgofehafjogfaaMarkAt
import Derived.Deep.Cut
namespace Go.Proofs.Ytmgofehafjogfaa
open Go.ChangeShapes Go.WideShapes Go.ChangeAt Go.RowKit

theorem own_low {w w' : World} {base : Nat} {e : TypeId} {size n : Nat} {v : Value} {xs : List Value} {B : Nat} (h : w.ownsRow base e size v n xs) (hl : ∀ k, v.ownBlock = some k → k < B) (hb : Below B w w') : w'.ownsRow base e size v n xs :=
  owns_heap h fun k hk => hb.block k (hl k hk)
theorem vaC_set {L : List Va3} {j : Nat} {x : Va3} (hj : j < L.length) : (((vaC L).set (j * 3) (.int .i64 x.1)).set (j * 3 + 1) (.int .i64 x.2.1)).set (j * 3 + 2) (.string x.2.2) = vaC (L.set j x) := by
  have e : L = L.take j ++ L[j] :: L.drop (j + 1) := by rw [← List.drop_eq_getElem_cons hj, List.take_append_drop]
  have h1 : vaC L = vaC (L.take j) ++ .int .i64 L[j].1 :: .int .i64 L[j].2.1 :: .string L[j].2.2 :: vaC (L.drop (j + 1)) := by
    have h2 := congrArg vaC e
    rw [vaC_append, vaC] at h2
    exact h2
  rw [h1, set_three _ _ _ _ _ _ _ _ _ (by rw [vaC_length, List.length_take]; omega), List.set_eq_take_append_cons_drop, if_pos hj, vaC_append, vaC]
end Go.Proofs.Ytmgofehafjogfaa
