/- A block of cells that may all be written, as one fact: what it reads as, what keeps it, what a store into it makes of it; of no program. -/
import Derived.Test.YtmgofehafjogfabIntAt
import Derived.Below
namespace Go.Proofs.Ytmgofehafjogfab
open Go.RowKit

def Box (w : World) (b : Nat) (cs : Array Value) (T : TypeId) : Prop := w.heap[b]? = some (.cells cs T)
section
variable {w w' : World} {b : Nat} {cs : Array Value} {T : TypeId}
theorem Box.lt (h : Box w b cs T) : b < w.heap.size := (Array.getElem?_eq_some_iff.1 h).1
theorem Box.cell (h : Box w b cs T) (i : Nat) : w.cell? ⟨b, i, none⟩ = cs[i]? := by unfold Box at h; simp [World.cell?, h]
theorem Box.frozen (h : Box w b cs T) (i : Nat) : w.frozen? ⟨b, i, none⟩ = false := by unfold Box at h; simp [World.frozen?, h]
theorem Box.below (h : Box w b cs T) {B : Nat} (hb : Below B w w') (hB : b < B) : Box w' b cs T := by
  unfold Box at h ⊢
  rw [hb.block b hB]
  exact h
theorem Box.set (h : Box w b cs T) {q : Addr} (hq : b ≠ q.block) (v : Value) : Box (w.setCell q v) b cs T := by
  unfold Box at h ⊢
  rw [Below.heap_setCell _ _ _ _ hq]
  exact h
theorem Box.put (h : Box w b cs T) (i : Nat) (v : Value) : Box (w.setCell ⟨b, i, none⟩ v) b (cs.setIfInBounds i v) T := by
  unfold Box at h ⊢
  obtain ⟨hlt, h'⟩ := Array.getElem?_eq_some_iff.1 h
  show (w.heap.modify b _)[b]? = _
  rw [Array.getElem?_eq_getElem (by simpa using hlt), Array.getElem_modify_self, h']
  rfl
theorem Box.alloc (h : Box w b cs T) (o : Obj) : Box (w.alloc o) b cs T := h.below ((Below.refl w.heap.size w).alloc (Nat.le_refl _) o) h.lt
theorem box_of (w : World) (cs : Array Value) (T : TypeId) : Box (w.alloc (.cells cs T)) w.heap.size cs T := by
  show (w.heap.push _)[w.heap.size]? = _
  simp
theorem Box.drew (h : Box w b cs T) : Box w.drew b cs T := h
end
theorem size_setCell (w : World) (a : Addr) (v : Value) : (w.setCell a v).heap.size = w.heap.size := by simp [World.setCell]
theorem Box.two {w : World} {b : Nat} {T : TypeId} {x y : Value} (h : Box w b #[x, y] T) : w.cell? ⟨b, 0, none⟩ = some x ∧ w.cell? ⟨b, 1, none⟩ = some y ∧ w.frozen? ⟨b, 0, none⟩ = false ∧ w.frozen? ⟨b, 1, none⟩ = false :=
  ⟨h.cell 0, h.cell 1, h.frozen 0, h.frozen 1⟩
end Go.Proofs.Ytmgofehafjogfab
