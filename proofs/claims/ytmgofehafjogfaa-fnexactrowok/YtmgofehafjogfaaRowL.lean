/- Rows of a schema, in plain words. No program. -/
import Derived.Test.YtmgofehafjogfaaSchL
namespace Go.Proofs.Ytmgofehafjogfaa
open Go.ChangeShapes Go.WideShapes Go.ChangeAt Go.RowKit

/-- The value is right, and of the column's kind, or nothing where that may be. -/
def rowFit (p : Va3 × Col3) : Prop := VaGood p.1.1 p.1.2.1 p.1.2.2 ∧ (p.1.1 = p.2.2.1 ∨ (p.2.2.2 = true ∧ p.1.1 = 0))
instance (p : Va3 × Col3) : Decidable (rowFit p) := by unfold rowFit; infer_instance
def RowGood (S : SchD) (L : List Va3) : Prop := ScGood S ∧ L.length = S.cols.length ∧ ∀ p ∈ L.zip S.cols, rowFit p
instance (S : SchD) (L : List Va3) : Decidable (RowGood S L) := by unfold RowGood; infer_instance
theorem zip_at {L : List Va3} {M : List Col3} {j : Nat} {x : Va3} {y : Col3} (h : L[j]? = some x) (h' : M[j]? = some y) : (L.zip M)[j]? = some (x, y) := by
  rw [List.getElem?_zip_eq_some]
  exact ⟨h, h'⟩
end Go.Proofs.Ytmgofehafjogfaa
