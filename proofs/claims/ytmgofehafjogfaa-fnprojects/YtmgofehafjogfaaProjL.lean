/- Values at places, in plain words. No program. -/
import Derived.Test.YtmgofehafjogfaaVasL
namespace Go.Proofs.Ytmgofehafjogfaa
open Go.ChangeShapes Go.WideShapes Go.ChangeAt Go.RowKit

/-- What stands at that place; nothing where it is none. -/
def projOne (L : List Va3) (x : Int) : List Va3 := if 0 ≤ x ∧ x ≤ (L.length : Int) - 1 then [L.getD x.toNat default] else []
/-- No text of these is too long. -/
abbrev VasSz (L : List Va3) : Prop := ∀ x ∈ L, x.2.2.size ≤ 2097152
/-- Those at these places. -/
def projL (L : List Va3) (xs : List Int) : List Va3 := xs.flatMap (projOne L)
theorem proj_snoc (L : List Va3) {xs : List Int} {j : Nat} {x : Int} (h : xs[j]? = some x) : projL L (xs.take (j + 1)) = projL L (xs.take j) ++ projOne L x := by
  unfold projL
  rw [List.take_add_one, h, List.flatMap_append]
  simp
theorem proj_len (L : List Va3) : ∀ xs : List Int, (projL L xs).length ≤ xs.length
  | [] => by simp [projL]
  | x :: xs => by
    have h1 := proj_len L xs
    unfold projL at h1 ⊢
    rw [List.flatMap_cons, List.length_append, List.length_cons]
    have h2 : (projOne L x).length ≤ 1 := by unfold projOne; split <;> simp
    omega
theorem proj_append (L : List Va3) (xs ys : List Int) : projL L (xs ++ ys) = projL L xs ++ projL L ys := by unfold projL; rw [List.flatMap_append]
theorem proj_yes {L : List Va3} {m : Nat} {y : Va3} (h : L[m]? = some y) : projOne L (m : Int) = [y] := by
  have hm := (List.getElem?_eq_some_iff.1 h).1
  unfold projOne
  rw [if_pos (by omega), Int.toNat_natCast]
  simp [List.getD, h]
end Go.Proofs.Ytmgofehafjogfaa
