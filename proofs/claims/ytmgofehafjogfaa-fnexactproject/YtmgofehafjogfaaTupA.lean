/- What is answered of bytes is one. No program. -/
import Derived.Test.YtmgofehafjogfaaVasO
import Derived.Test.YtmgofehafjogfaaByA
namespace Go.Proofs.Ytmgofehafjogfaa
open Go.ChangeShapes Go.WideShapes Go.ChangeAt Go.RowKit Go.Joins
open Go.Lib (byteCells byteCells_length byteCells_append)

/-- Is there a tuple of which these are the bytes; and which. -/
noncomputable def okT (b : List UInt8) : Bool := @decide (∃ L, TupIs b L) (Classical.propDecidable _)
noncomputable def lstT (b : List UInt8) : List Va3 := @dite _ (∃ L, TupIs b L) (Classical.propDecidable _) (fun h => Classical.choose h) (fun _ => [])
theorem lstT_is {b : List UInt8} {L : List Va3} (h : TupIs b L) : okT b = true ∧ lstT b = L := by
  have he : ∃ L, TupIs b L := ⟨L, h⟩
  refine ⟨@decide_eq_true _ (Classical.propDecidable _) he, ?_⟩
  unfold lstT
  rw [dif_pos he]
  exact (Classical.choose_spec he).one h
theorem lstT_no {b : List UInt8} (h : ∀ M, ¬ TupIs b M) : okT b = false ∧ lstT b = [] := by
  have he : ¬ ∃ L, TupIs b L := fun ⟨L, hL⟩ => h L hL
  refine ⟨@decide_eq_false _ (Classical.propDecidable _) he, ?_⟩
  unfold lstT
  rw [dif_neg he]
theorem lstT_le (b : List UInt8) : (lstT b).length ≤ 4 := by
  unfold lstT
  split
  · rename_i h
    exact (Classical.choose_spec h).1.2
  · decide
/-- The tuple of which these are the bytes; and true; nothing and false. -/
def TupAns (b : List UInt8) (w : World) (e : Ending) (w' : World) : Prop := ∃ v ok L, e = .returned (.tuple #[v, .bool ok]) ∧ VOwn w' w.heap.size v L ∧ ((ok = true ∧ TupIs b L) ∨ (ok = false ∧ L = [] ∧ ∀ M, ¬ TupIs b M))
theorem TupAns.one {b : List UInt8} {w w' : World} {e : Ending} (h : TupAns b w e w') : ∃ v, e = .returned (.tuple #[v, .bool (okT b)]) ∧ VOwn w' w.heap.size v (lstT b) := by
  obtain ⟨v, ok, L, rfl, ho, ⟨rfl, hL⟩ | ⟨rfl, rfl, hn⟩⟩ := h
  · obtain ⟨h1, h2⟩ := lstT_is hL
    rw [h1, h2]
    exact ⟨v, rfl, ho⟩
  · obtain ⟨h1, h2⟩ := lstT_no hn
    rw [h1, h2]
    exact ⟨v, rfl, ho⟩
end Go.Proofs.Ytmgofehafjogfaa
