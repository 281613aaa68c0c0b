/- The specification's Swap and Pop. -/
import Derived.Test.YtemeklfkbjpnmarSpec8
import Derived.Deep.Cut
namespace Go.Proofs.Ytemeklfkbjpnmar
open Go.ChangeShapes Go.WideShapes Go.ChangeAt Go.RowKit Go.Joins

theorem set4_end {hs : List Int} {k : Nat} (hl : hs.length = k + 4) (a b c d : Int) : (((hs.set k a).set (k + 1) b).set (k + 2) c).set (k + 3) d = hs.take k ++ [a, b, c, d] := by
  apply List.ext_getElem?
  intro i
  rcases Nat.lt_or_ge i k with h | h
  · rw [List.getElem?_set_ne (by omega), List.getElem?_set_ne (by omega), List.getElem?_set_ne (by omega), List.getElem?_set_ne (by omega), List.getElem?_append_left (by rw [List.length_take]; omega), List.getElem?_take_of_lt h]
  · rw [List.getElem?_append_right (by rw [List.length_take]; omega), List.length_take, Nat.min_eq_left (by omega)]
    rcases (show i = k ∨ i = k + 1 ∨ i = k + 2 ∨ i = k + 3 ∨ k + 4 ≤ i by omega) with rfl | rfl | rfl | rfl | h4
    · rw [List.getElem?_set_ne (by omega), List.getElem?_set_ne (by omega), List.getElem?_set_ne (by omega), List.getElem?_set_self (by omega)]; simp
    · rw [List.getElem?_set_ne (by omega), List.getElem?_set_ne (by omega), List.getElem?_set_self (by simp; omega), show k + 1 - k = 1 by omega]; rfl
    · rw [List.getElem?_set_ne (by omega), List.getElem?_set_self (by simp; omega), show k + 2 - k = 2 by omega]; rfl
    · rw [List.getElem?_set_self (by simp; omega), show k + 3 - k = 3 by omega]; rfl
    · rw [List.getElem?_eq_none (by simp; omega), List.getElem?_eq_none (by simp; omega)]
/-- Another Stack, which is new. -/
theorem ThO.stack {w w' : World} {base : Nat} {v0 v1 v2 v : Value} {n0 n1 n2 m : Nat} {fs gs hs zs : List Int} {pc : Int} {on : Bool} (T : ThO w base v0 v1 v2 ⟨n0, fs, pc, on, n1, gs, n2, hs⟩) (hb : Below w.heap.size w w') (hB : base ≤ w.heap.size) (ho : w'.ownsRow w.heap.size 62 4 v m (zs.map I)) :
    ThO w' base v0 v1 v ⟨n0, fs, pc, on, n1, gs, m, zs⟩ :=
  ⟨owns_below T.ops hb (Nat.le_refl _), owns_below T.got hb (Nat.le_refl _), own_weaken ho hB, T.sep.1, fun k e e' => by have h1 := (T.ops.lt k e).2; have h2 := (ho.lt k e').1; omega, fun k e e' => by have h1 := (T.got.lt k e).2; have h2 := (ho.lt k e').1; omega⟩
/-- The last one of Stack, written over. -/
theorem ThO.swapped {w : World} {base : Nat} {v0 v1 : Value} {g2 d n0 n1 k : Nat} {fs gs hs : List Int} {pc : Int} {on : Bool} (h : Nat → Int) (T : ThO w base v0 v1 (.slice (some ⟨g2, 0, none⟩) (k + 1) d) ⟨n0, fs, pc, on, n1, gs, k + 1, hs⟩) :
    ThO ((((w.setCell ⟨g2, k * 4, none⟩ (.int .i64 (h 0))).setCell ⟨g2, k * 4 + 1, none⟩ (.int .i64 (h 1))).setCell ⟨g2, k * 4 + 2, none⟩ (.int .i64 (h 2))).setCell ⟨g2, k * 4 + 3, none⟩ (.int .i64 (h 3))) base v0 v1 (.slice (some ⟨g2, 0, none⟩) (k + 1) d) (TD.swap ⟨n0, fs, pc, on, n1, gs, k + 1, hs⟩ h) := by
  have hl : hs.length = k * 4 + 4 := by have := T.stk.1; simp at this; omega
  have e : TD.swap ⟨n0, fs, pc, on, n1, gs, k + 1, hs⟩ h = ⟨n0, fs, pc, on, n1, gs, k + 1, hs.take (k * 4) ++ helpL h⟩ := rfl
  rw [e]
  have f0 : v0.ownBlock ≠ some g2 := fun e => T.sep.2.1 g2 e rfl
  have f1 : v1.ownBlock ≠ some g2 := fun e => T.sep.2.2 g2 e rfl
  have o := ((((T.stk.stored (k * 4) (I (h 0))).1.stored (k * 4 + 1) (I (h 1))).1.stored (k * 4 + 2) (I (h 2))).1.stored (k * 4 + 3) (I (h 3))).1
  rw [← List.map_set, ← List.map_set, ← List.map_set, ← List.map_set, set4_end hl] at o
  exact ⟨own_setCell_far (own_setCell_far (own_setCell_far (own_setCell_far T.ops f0 _) f0 _) f0 _) f0 _, own_setCell_far (own_setCell_far (own_setCell_far (own_setCell_far T.got f1 _) f1 _) f1 _) f1 _, o, T.sep⟩
theorem below_set4 {B : Nat} {w w' : World} (h : Below B w w') {b i0 i1 i2 i3 : Nat} (hb : B ≤ b) (x0 x1 x2 x3 : Value) :
    Below B w ((((w'.setCell ⟨b, i0, none⟩ x0).setCell ⟨b, i1, none⟩ x1).setCell ⟨b, i2, none⟩ x2).setCell ⟨b, i3, none⟩ x3) :=
  (((h.setCell hb x0).setCell hb x1).setCell hb x2).setCell hb x3
theorem Box.set4 {w : World} {q : Nat} {cs : Array Value} {T : TypeId} (h : Box w q cs T) {b i0 i1 i2 i3 : Nat} (hb : q ≠ b) (x0 x1 x2 x3 : Value) :
    Box ((((w.setCell ⟨b, i0, none⟩ x0).setCell ⟨b, i1, none⟩ x1).setCell ⟨b, i2, none⟩ x2).setCell ⟨b, i3, none⟩ x3) q cs T :=
  (((h.set (q := ⟨b, i0, none⟩) hb x0).set (q := ⟨b, i1, none⟩) hb x1).set (q := ⟨b, i2, none⟩) hb x2).set (q := ⟨b, i3, none⟩) hb x3
end Go.Proofs.Ytemeklfkbjpnmar
