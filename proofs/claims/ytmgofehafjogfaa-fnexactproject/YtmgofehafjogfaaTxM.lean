/- Marks that are texts; a text put into a list of the call's own. -/
import Derived.Test.YtmgofehafjogfaaDatM
import Derived.Test.YtmgofehafjogfaaMark
namespace Go.Proofs.Ytmgofehafjogfaa
open Go.ChangeShapes Go.WideShapes Go.ChangeAt Go.RowKit Go.Joins

/-- The text that marks by that number. -/
def txM (k : Int) : ByteArray := ⟨(markS k.toNat).toArray⟩
theorem own_s {w : World} {base : Nat} {y : ByteArray} (v : Value) (Sj : Nat → Prop) (h : Own w base v (.s y) Sj) : ∀ x, ¬ Sj x := by cases h; assumption
theorem Own.putS {w : World} {base : Nat} {g n cap : Nat} {T : TypeId} {k : Nat} {cs : List Cel} {S : Nat → Prop} (h : Own w base (.slice (some ⟨g, 0, none⟩) n cap) (.l T k n cs) S) {j : Nat} {y : ByteArray} (hc : cs[j]? = some (.s y)) (z : ByteArray) :
    Own (w.setCell ⟨g, j, none⟩ (.string z)) base (.slice (some ⟨g, 0, none⟩) n cap) (.l T k n (cs.set j (.s z))) S := h.put hc own_s fun _ _ hS => .s z _ hS
end Go.Proofs.Ytmgofehafjogfaa
