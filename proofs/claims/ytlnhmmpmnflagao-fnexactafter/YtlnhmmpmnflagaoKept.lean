/- What stays in memory while rows of a few known blocks are written and new memory is made. -/
import Derived.Test.YtlnhmmpmnflagaoClone
namespace Go.Proofs.Ytlnhmmpmnflagao
open Go.RowKit

def Kept (W w' : World) (g1 g2 : Nat) (gg : Option Nat) : Prop := (∀ k, k < W.heap.size → k ≠ g1 → k ≠ g2 → gg ≠ some k → w'.heap[k]? = W.heap[k]?) ∧ W.heap.size ≤ w'.heap.size
theorem Kept.refl (W : World) (g1 g2 : Nat) (gg : Option Nat) : Kept W W g1 g2 gg := ⟨fun _ _ _ _ _ => rfl, Nat.le_refl _⟩
theorem Kept.below {W w' w'' : World} {g1 g2 : Nat} {gg : Option Nat} (h : Kept W w' g1 g2 gg) {B : Nat} (hb : Below B w' w'') (hB : W.heap.size ≤ B) : Kept W w'' g1 g2 gg :=
  ⟨fun k hk h1 h2 h3 => (hb.block k (by omega)).trans (h.1 k hk h1 h2 h3), Nat.le_trans h.2 hb.size⟩
theorem Kept.grown {W w' w'' : World} {g1 g2 : Nat} {gg row : Option Nat} (h : Kept W w' g1 g2 gg) (hg : w'.grownBy w'' row) (hr : row = some g1 ∨ row = some g2 ∨ row = gg) : Kept W w'' g1 g2 gg := by
  refine ⟨fun k hk h1 h2 h3 => (hg.block k (Nat.lt_of_lt_of_le hk h.2) ?_).trans (h.1 k hk h1 h2 h3), Nat.le_trans h.2 hg.size⟩
  rcases hr with rfl | rfl | rfl
  · exact fun e => h1 (by simpa using e)
  · exact fun e => h2 (by simpa using e)
  · exact fun e => h3 e.symm
theorem Kept.cell {W w' : World} {g1 g2 : Nat} {gg : Option Nat} (h : Kept W w' g1 g2 gg) {b i : Nat} {u : Value} (hc : W.cell? ⟨b, i, none⟩ = some u) (h1 : b ≠ g1) (h2 : b ≠ g2) (h3 : gg ≠ some b) : w'.cell? ⟨b, i, none⟩ = some u := by
  have hk := World.block_lt_of_cell? W _ hc
  rw [World.cell?_of_block (w := W) (h.1 b hk h1 h2 h3)]
  exact hc
theorem Kept.owns {W w' : World} {g1 g2 : Nat} {gg : Option Nat} (h : Kept W w' g1 g2 gg) {base : Nat} {e : TypeId} {size n : Nat} {v : Value} {xs : List Value} (ho : W.ownsRow base e size v n xs) (hv : ∀ k, v.ownBlock = some k → k ≠ g1 ∧ k ≠ g2 ∧ gg ≠ some k) : w'.ownsRow base e size v n xs := by
  refine ⟨ho.1, ?_⟩
  rcases ho.2 with h2 | ⟨g, cap, cur, rfl, hg, hh, r⟩
  · exact .inl h2
  · refine .inr ⟨g, cap, cur, rfl, hg, ?_, r⟩
    obtain ⟨q1, q2, q3⟩ := hv g rfl
    rw [h.1 g (Array.getElem?_eq_some_iff.1 hh).1 q1 q2 q3]
    exact hh
theorem below_marked {w w' w'' : World} {row : Option Nat} (hb : Below w.heap.size w w') (hg : w'.grownBy w'' row) (hr : ∀ k, row = some k → w.heap.size ≤ k) : Below w.heap.size w w'' := hb.grown hg hb.size hr
/-- A box of two cells that may be written, at place b, not below lo. -/
def BoxAt (w : World) (lo b : Nat) (u v : Value) : Prop := (w.cell? ⟨b, 0, none⟩ = some u ∧ w.cell? ⟨b, 1, none⟩ = some v) ∧ (w.frozen? ⟨b, 0, none⟩ = false ∧ w.frozen? ⟨b, 1, none⟩ = false) ∧ lo ≤ b ∧ b < w.heap.size
theorem box_made {V : World} {lo : Nat} {u v : Value} {T : TypeId} (hlo : lo ≤ V.heap.size) : BoxAt (V.alloc (.cells #[u, v] T)) lo V.heap.size u v := ⟨⟨by simp, by simp⟩, ⟨by simp, by simp⟩, hlo, by simp⟩
theorem BoxAt.carry {w w' : World} {lo b : Nat} {u v : Value} (h : BoxAt w lo b u v) (hb : Below w.heap.size w w') : BoxAt w' lo b u v := by
  obtain ⟨⟨h0, h1⟩, ⟨h2, h3⟩, h4, h5⟩ := h
  exact ⟨⟨(hb.cell h5).trans h0, (hb.cell h5).trans h1⟩, ⟨(hb.frozen h5).trans h2, (hb.frozen h5).trans h3⟩, h4, Nat.lt_of_lt_of_le h5 hb.size⟩
theorem box_new {V w' : World} {lo : Nat} {u v : Value} {T : TypeId} (hb : Below (V.alloc (.cells #[u, v] T)).heap.size (V.alloc (.cells #[u, v] T)) w') (hlo : lo ≤ V.heap.size) : BoxAt w' lo V.heap.size u v := (box_made hlo).carry hb
theorem box_new_drew {V w' : World} {lo : Nat} {u v : Value} {T : TypeId} (hb : Below (V.alloc (.cells #[u, v] T)).drew.heap.size (V.alloc (.cells #[u, v] T)).drew w') (hlo : lo ≤ V.heap.size) : BoxAt w' lo V.heap.size u v :=
  (box_made hlo).carry ((Below.refl _ _).drew.trans hb)
theorem BoxAt.stored {w : World} {lo b : Nat} {u v : Value} (h : BoxAt w lo b u v) (x y : Value) : BoxAt ((w.setCell ⟨b, 0, none⟩ x).setCell ⟨b, 1, none⟩ y) lo b x y := by
  obtain ⟨⟨h0, h1⟩, ⟨h2, h3⟩, h4, h5⟩ := h
  refine ⟨⟨?_, ?_⟩, ⟨by simpa using h2, by simpa using h3⟩, h4, by simpa [World.setCell] using h5⟩
  · rw [World.cell?_setCell_other _ _ _ _ (fun e => by cases e), World.cell?_setCell_same _ _ _ h0]
  · refine World.cell?_setCell_same _ _ _ (u := v) ?_
    rw [World.cell?_setCell_other _ _ _ _ (fun e => by cases e)]
    exact h1
theorem apart_of {w w' : World} {lo b n : Nat} {u v val : Value} {e : TypeId} {l : List Value} (h : BoxAt w lo b u v) (ho : w'.ownsRow w.heap.size e 1 val n l) : ∀ k, val.ownBlock = some k → k ≠ b := fun k hk => by
  have h1 := (ho.lt k hk).1
  have h2 := h.2.2.2
  omega
theorem apart_new {V w' : World} {n : Nat} {o : Obj} {val : Value} {e : TypeId} {l : List Value} (ho : w'.ownsRow (V.alloc o).heap.size e 1 val n l) : ∀ k, val.ownBlock = some k → k ≠ V.heap.size := fun k hk => by
  have h1 := (ho.lt k hk).1
  simp at h1
  omega
theorem own_boxed {w : World} {base b n : Nat} {val x y : Value} {e : TypeId} {l : List Value} (ho : w.ownsRow base e 1 val n l) (hne : ∀ k, val.ownBlock = some k → k ≠ b) : ((w.setCell ⟨b, 0, none⟩ x).setCell ⟨b, 1, none⟩ y).ownsRow base e 1 val n l :=
  own_setCell_far (own_setCell_far ho (fun e => hne _ e rfl) _) (fun e => hne _ e rfl) _
end Go.Proofs.Ytlnhmmpmnflagao
