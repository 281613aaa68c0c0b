/- Bytes as they lie in memory; how they are read from a place on. No program. -/
import Derived.Test.YtmgofehafjogfaaRd18
import Derived.Test.YtmgofehafjogfaaAppB
namespace Go.Proofs.Ytmgofehafjogfaa
open Go.ChangeShapes Go.WideShapes Go.ChangeAt Go.RowKit
open Go.Lib (byteCells byteCells_length byteCells_append)

/-- n bytes lie there. -/
def BysAt (w : World) (a : Option Addr) (n : Nat) (l : List UInt8) : Prop :=
  l.length = n ∧ n ≤ 2097152 ∧ (n = 0 ∨ ∃ b o, a = some ⟨b, o, none⟩ ∧ ∀ i x, l[i]? = some x → w.cell? ⟨b, o + i, none⟩ = some (.int .u8 (x.toNat : Int)))
theorem BysAt.below {w w' : World} {a : Option Addr} {n : Nat} {l : List UInt8} (h : BysAt w a n l) {B : Nat} (hb : Below B w w') (hB : w.heap.size ≤ B) : BysAt w' a n l := by
  obtain ⟨h1, h2, h3 | ⟨b, o, h3, h4⟩⟩ := h
  · exact ⟨h1, h2, .inl h3⟩
  · refine ⟨h1, h2, .inr ⟨b, o, h3, fun i x hi => ?_⟩⟩
    have h5 := h4 i x hi
    exact (hb.cell (Nat.lt_of_lt_of_le (World.block_lt_of_cell? w _ h5) hB)).trans h5
theorem BysAt.set {w : World} {b o n : Nat} {l : List UInt8} {q : Addr} (h : BysAt w (some ⟨b, o, none⟩) n l) (hq : ¬ b = q.block) (v : Value) : BysAt (w.setCell q v) (some ⟨b, o, none⟩) n l := by
  obtain ⟨h1, h2, h3 | ⟨b', o', h3, h4⟩⟩ := h
  · exact ⟨h1, h2, .inl h3⟩
  · cases h3
    refine ⟨h1, h2, .inr ⟨b, o, rfl, fun i x hi => ?_⟩⟩
    rw [World.cell?_of_block (w := w) (Below.heap_setCell _ _ _ _ hq)]
    exact h4 i x hi
/-- The text of bytes that lie there. -/
theorem bys_text {w : World} {a : Option Addr} {n c : Nat} {l : List UInt8} (h : BysAt w a n l) : (convert 22 9 (.slice a n c)).run Try.prog w = .ok (.string ⟨l.toArray⟩) w := by
  obtain ⟨rfl, _, h0 | ⟨b, o, rfl, h4⟩⟩ := h
  · have hl : l = [] := List.length_eq_zero_iff.1 h0
    subst hl
    cases a with
    | none => exact run_convert_bytes_nil w 22 5 Try.underlying22 Try.underlying5 0 c 9 Try.underlying9
    | some ad => exact run_convert_bytes_back w 22 9 5 ad c [] Try.underlying22 Try.underlying5 Try.underlying9 (fun j hj => by simp at hj)
  · refine run_convert_bytes_back w 22 9 5 ⟨b, o, none⟩ c l Try.underlying22 Try.underlying5 Try.underlying9 ?_
    intro j hj
    rw [add_plain]
    exact h4 j _ (List.getElem?_eq_getElem hj)
theorem dropB {l : List UInt8} {j : Nat} {x : UInt8} (h : l[j]? = some x) : l.drop j = x :: l.drop (j + 1) := by
  rw [List.drop_eq_getElem_cons (List.getElem?_eq_some_iff.1 h).1, (List.getElem?_eq_some_iff.1 h).2]
/-- While a text is read from place i: these bytes are read, and it goes on at j. -/
def RdT (l : List UInt8) (i j : Nat) (o : List UInt8) : Prop := o.length ≤ j ∧ rdT (l.drop i) = (rdT (l.drop j)).map fun p => (o ++ p.1, p.2)
theorem RdT.start (l : List UInt8) (i : Nat) : RdT l i i [] := ⟨Nat.zero_le _, by rcases h : rdT (l.drop i) with _ | ⟨a, b⟩ <;> rfl⟩
theorem RdT.done {l : List UInt8} {i j : Nat} {o : List UInt8} (h : RdT l i j o) (h0 : l[j]? = some 0) (h1 : l[j + 1]? = some 1) : rdT (l.drop i) = some (o, l.drop (j + 2)) := by
  rw [h.2, dropB h0, dropB h1, rdT, if_pos rfl, if_pos rfl]
  simp
theorem RdT.two {l : List UInt8} {i j : Nat} {o : List UInt8} {y : UInt8} (h : RdT l i j o) (h0 : l[j]? = some 0) (h1 : l[j + 1]? = some y) (hy : ¬ y = 1) : RdT l i (j + 2) (o ++ [0]) := by
  refine ⟨by rw [List.length_append, List.length_singleton]; have := h.1; omega, ?_⟩
  rw [h.2, dropB h0, dropB h1, rdT, if_pos rfl, if_neg hy]
  rcases rdT (l.drop (j + 2)) with _ | ⟨a, b⟩
  · rfl
  · simp
theorem RdT.one {l : List UInt8} {i j : Nat} {o : List UInt8} {x y : UInt8} (h : RdT l i j o) (h0 : l[j]? = some x) (h1 : l[j + 1]? = some y) (hx : ¬ x = 0) : RdT l i (j + 1) (o ++ [x]) := by
  refine ⟨by rw [List.length_append, List.length_singleton]; have := h.1; omega, ?_⟩
  rw [h.2, dropB h0, dropB h1, rdT, if_neg hx, ← dropB h1]
  rcases rdT (l.drop (j + 1)) with _ | ⟨a, b⟩
  · rfl
  · simp
theorem RdT.none {l : List UInt8} {i j : Nat} {o : List UInt8} (h : RdT l i j o) (hj : ¬ j + 1 < l.length) : rdT (l.drop i) = none := by
  rw [h.2]
  have h1 : (l.drop j).length ≤ 1 := by rw [List.length_drop]; omega
  generalize l.drop j = d at h1 ⊢
  rcases d with _ | ⟨x, _ | ⟨y, r⟩⟩
  · rw [rdT]; rfl
    intro a b r e; cases e
  · rw [rdT]; rfl
    intro a b r e; cases e
  · simp at h1
/-- What l18Text answers: the text that begins at a place, and the place behind it. -/
def TxAns (l : List UInt8) (i : Nat) (e : Ending) : Prop := ∃ (s : ByteArray) (next : Nat), e = .returned (.tuple #[.string s, .int .i64 (next : Int)]) ∧ i < next ∧ next ≤ l.length + 1 ∧ s.size ≤ l.length ∧ ∀ t r, rdT (l.drop i) = some (t, r) → s.data.toList = t ∧ next + r.length = l.length
end Go.Proofs.Ytmgofehafjogfaa
