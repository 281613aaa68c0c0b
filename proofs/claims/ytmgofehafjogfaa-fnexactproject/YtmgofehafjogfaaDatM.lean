/- Data that is marked in its place: what a call writes into the lists it owns. No program. -/
import Derived.Test.YtmgofehafjogfaaDatI
namespace Go.Proofs.Ytmgofehafjogfaa
open Go.ChangeShapes Go.WideShapes Go.ChangeAt Go.RowKit Go.Joins

/-- Nothing was turned but blocks of S. -/
structure Kept (S : Nat → Prop) (w w' : World) : Prop where
  on : Below 0 w w'
  oth : ∀ x, x < w.heap.size → ¬ S x → w'.heap[x]? = w.heap[x]?
theorem Kept.refl (S : Nat → Prop) (w : World) : Kept S w w := ⟨Below.refl _ _, fun _ _ _ => rfl⟩
theorem Kept.trans {S : Nat → Prop} {w w1 w2 : World} (h : Kept S w w1) (h' : Kept S w1 w2) : Kept S w w2 :=
  ⟨h.on.trans h'.on, fun x hx hS => (h'.oth x (Nat.lt_of_lt_of_le hx h.on.size) hS).trans (h.oth x hx hS)⟩
theorem Kept.mono {S S' : Nat → Prop} {w w' : World} (h : Kept S w w') (hS : ∀ x, S x → S' x) : Kept S' w w' := ⟨h.on, fun x hx hn => h.oth x hx fun hs => hn (hS x hs)⟩
theorem Kept.set {S : Nat → Prop} {w w' : World} (h : Kept S w w') {g i : Nat} (hg : S g) (v : Value) : Kept S w (w'.setCell ⟨g, i, none⟩ v) :=
  ⟨h.on.setCell (Nat.zero_le _) v, fun x hx hn => (Below.heap_setCell _ _ _ _ (fun e => by
    have e : x = g := e
    exact hn (by rw [e]; exact hg))).trans (h.oth x hx hn)⟩
theorem Kept.grow {S : Nat → Prop} {w w' w2 : World} (h : Kept S w w') (hb : Below w'.heap.size w' w2) : Kept S w w2 :=
  ⟨h.on.trans (hb.mono (Nat.zero_le _)), fun x hx hn => (hb.block x (Nat.lt_of_lt_of_le hx h.on.size)).trans (h.oth x hx hn)⟩
theorem Kept.below {S : Nat → Prop} {w w' : World} (h : Kept S w w') {B : Nat} (hS : ∀ x, S x → B ≤ x) (hB : B ≤ w.heap.size) : Below B w w' :=
  ⟨h.on.os, h.on.tape, h.on.output, h.on.size, fun k hk => h.oth k (by omega) fun hs => by have := hS k hs; omega⟩
theorem cell_ne (w : World) {g i j : Nat} (h : i ≠ j) (u : Value) : (w.setCell ⟨g, i, none⟩ u).cell? ⟨g, j, none⟩ = w.cell? ⟨g, j, none⟩ := World.cell?_setCell_other _ _ _ _ (fun e => by simp only [Addr.mk.injEq] at e; omega)
/-- A cell that is a list: what is marked within it. -/
theorem Own.lensL {w : World} {base : Nat} {g n cap : Nat} {T : TypeId} {k : Nat} {cs : List Cel} {S : Nat → Prop} (h : Own w base (.slice (some ⟨g, 0, none⟩) n cap) (.l T k n cs) S) {j : Nat} {c : Cel} (hc : cs[j]? = some c) :
    ∃ v Sj, w.cell? ⟨g, j, none⟩ = some v ∧ Own w base v c Sj ∧ (∀ x, Sj x → S x) ∧ ∀ w' c', Own w' base v c' Sj → (∀ x, S x → ¬ Sj x → w'.heap[x]? = w.heap[x]?) → Own w' base (.slice (some ⟨g, 0, none⟩) n cap) (.l T k n (cs.set j c')) S := by
  cases h with
  | l g cap T k n cs vs S Ss h1 h2 hn h4 h5 h6 h7 =>
    have hj : j < cs.length := (List.getElem?_eq_some_iff.1 hc).1
    have hl := h1.1
    have hv : vs[j]? = some (vs[j]'(by omega)) := List.getElem?_eq_getElem (by omega)
    have sub : ∀ i x, i < n * k → Ss i x → S x := fun i x hi hx => (h7 x).2 (.inr ⟨i, hi, hx⟩)
    refine ⟨_, Ss j, own_cellV h1 hv, h4 j _ _ hv hc, fun x => sub j x (by omega), fun w' c' ho he => ?_⟩
    refine .l g cap T k n _ vs S Ss (owns_heap h1 fun x hx => ?_) (by simpa using h2) hn (fun i v d hvi hdi => ?_) h5 h6 h7
    · cases hx
      exact he g ((h7 g).2 (.inl rfl)) (h5 j)
    · by_cases hij : j = i
      · subst hij
        rw [List.getElem?_set_self hj] at hdi
        cases hdi
        rw [hv] at hvi
        cases hvi
        exact ho
      · rw [List.getElem?_set_ne hij] at hdi
        have hi : i < n * k := by have := (List.getElem?_eq_some_iff.1 hvi).1; omega
        exact (h4 i v d hvi hdi).heap fun x hx => he x (sub i x hi hx) (h6 i j x (Ne.symm hij) hx)
/-- A cell that is a number or a flag, written. -/
theorem Own.put {w : World} {base : Nat} {g n cap : Nat} {T : TypeId} {k : Nat} {cs : List Cel} {S : Nat → Prop} (h : Own w base (.slice (some ⟨g, 0, none⟩) n cap) (.l T k n cs) S) {j : Nat} {c c' : Cel} (hc : cs[j]? = some c) (h0 : ∀ v Sj, Own w base v c Sj → ∀ x, ¬ Sj x) {u : Value} (hu : ∀ w' Sj, (∀ x, ¬ Sj x) → Own w' base u c' Sj) :
    Own (w.setCell ⟨g, j, none⟩ u) base (.slice (some ⟨g, 0, none⟩) n cap) (.l T k n (cs.set j c')) S := by
  cases h with
  | l g cap T k n cs vs S Ss h1 h2 hn h4 h5 h6 h7 =>
    have hj : j < cs.length := (List.getElem?_eq_some_iff.1 hc).1
    have hl := h1.1
    have hv : vs[j]? = some (vs[j]'(by omega)) := List.getElem?_eq_getElem (by omega)
    have hz := h0 _ _ (h4 j _ _ hv hc)
    refine .l g cap T k n _ (vs.set j u) S Ss (h1.stored j u).1 (by simpa using h2) hn (fun i v d hvi hdi => ?_) h5 h6 h7
    by_cases hij : j = i
    · subst hij
      rw [List.getElem?_set_self (by omega)] at hvi hdi
      cases hvi
      cases hdi
      exact hu _ _ hz
    · rw [List.getElem?_set_ne hij] at hvi hdi
      exact (h4 i v d hvi hdi).heap fun x hx => Below.heap_setCell _ _ _ _ (fun e => h5 i (by have e : x = g := e; rw [← e]; exact hx))
theorem own_i {w : World} {base : Nat} {y : Int} (v : Value) (Sj : Nat → Prop) (h : Own w base v (.i y) Sj) : ∀ x, ¬ Sj x := by cases h; assumption
theorem own_b {w : World} {base : Nat} {y : Bool} (v : Value) (Sj : Nat → Prop) (h : Own w base v (.b y) Sj) : ∀ x, ¬ Sj x := by cases h; assumption
theorem Own.putI {w : World} {base : Nat} {g n cap : Nat} {T : TypeId} {k : Nat} {cs : List Cel} {S : Nat → Prop} (h : Own w base (.slice (some ⟨g, 0, none⟩) n cap) (.l T k n cs) S) {j : Nat} {y : Int} (hc : cs[j]? = some (.i y)) (z : Int) :
    Own (w.setCell ⟨g, j, none⟩ (.int .i64 z)) base (.slice (some ⟨g, 0, none⟩) n cap) (.l T k n (cs.set j (.i z))) S := h.put hc own_i fun _ _ hS => .i z _ hS
theorem Own.putB {w : World} {base : Nat} {g n cap : Nat} {T : TypeId} {k : Nat} {cs : List Cel} {S : Nat → Prop} (h : Own w base (.slice (some ⟨g, 0, none⟩) n cap) (.l T k n cs) S) {j : Nat} {y : Bool} (hc : cs[j]? = some (.b y)) (z : Bool) :
    Own (w.setCell ⟨g, j, none⟩ (.bool z)) base (.slice (some ⟨g, 0, none⟩) n cap) (.l T k n (cs.set j (.b z))) S := h.put hc own_b fun _ _ hS => .b z _ hS
/-- What a function that marks answers. -/
def Marked (tx : Int → ByteArray) (w : World) (base : Nat) (v : Value) (c : Cel) (S : Nat → Prop) (q : Int) (e : Ending) (w' : World) : Prop := e = .returned (.int .i64 (q + (c.cnt : Int))) ∧ Own w' base v (c.mark tx q) S ∧ Kept S w w'
theorem over_mid : ∀ (C A B : List Cel), C.length ≤ B.length → over (A ++ B) A.length C = A ++ C ++ B.drop C.length
  | [], A, B, _ => by simp [over]
  | c :: C, A, B, h => by
    match B, h with
    | [], h => simp at h
    | b :: B, h =>
      simp only [over]
      have e : (A ++ b :: B).set A.length c = (A ++ [c]) ++ B := by simp
      rw [e]
      have := over_mid C (A ++ [c]) B (by simpa using h)
      rw [List.length_append] at this
      simp only [List.length_singleton] at this
      rw [this]
      simp
theorem mark_row (tx : Int → ByteArray) {cs : List Cel} {k n j : Nat} (hl : cs.length = n * k) (hj : j < n) (q : Int) :
    over (markL tx (cs.take (j * k)) q ++ cs.drop (j * k)) (j * k) (markL tx (row cs k j) (q + (cntL (cs.take (j * k)) : Int))) = markL tx (cs.take ((j + 1) * k)) q ++ cs.drop ((j + 1) * k) := by
  have hle : j * k + k ≤ n * k := by rw [← Nat.succ_mul]; exact Nat.mul_le_mul_right k hj
  have hA : (markL tx (cs.take (j * k)) q).length = j * k := by rw [markL_len, List.length_take]; omega
  have := over_mid (markL tx (row cs k j) (q + (cntL (cs.take (j * k)) : Int))) (markL tx (cs.take (j * k)) q) (cs.drop (j * k)) (by rw [markL_len, rowL_len hl hj, List.length_drop]; omega)
  rw [hA] at this
  rw [this, markL_len, rowL_len hl hj, List.drop_drop, ← Nat.succ_mul, row_split, markL_append]
theorem mark_at (tx : Int → ByteArray) {cs : List Cel} {p i : Nat} (hp : p ≤ cs.length) (q : Int) : (markL tx (cs.take p) q ++ cs.drop p)[p + i]? = cs[p + i]? := by
  have hA : (markL tx (cs.take p) q).length = p := by rw [markL_len, List.length_take]; omega
  rw [List.getElem?_append_right (by omega), hA, List.getElem?_drop]
  congr 1; omega
theorem cnt_split {cs : List Cel} {k j : Nat} : cntL (cs.take ((j + 1) * k)) = cntL (cs.take (j * k)) + cntL (row cs k j) := by rw [row_split, cntL_append]
theorem cnt_le {cs : List Cel} {p : Nat} : cntL (cs.take p) ≤ cntL cs := by
  have := cntL_append (cs.take p) (cs.drop p)
  rw [List.take_append_drop] at this
  omega
theorem markL_drop (tx : Int → ByteArray) (cs : List Cel) (p : Nat) (q : Int) : (markL tx cs q).drop p = markL tx (cs.drop p) (q + (cntL (cs.take p) : Int)) := by
  by_cases hp : p ≤ cs.length
  · have h := markL_append tx (cs.take p) (cs.drop p) q
    rw [List.take_append_drop] at h
    rw [h, List.drop_left' (by rw [markL_len, List.length_take]; omega)]
  · rw [List.drop_eq_nil_of_le (by rw [markL_len]; omega), List.drop_eq_nil_of_le (by omega)]
    rfl
theorem markL_take (tx : Int → ByteArray) (cs : List Cel) (p : Nat) (q : Int) : (markL tx cs q).take p = markL tx (cs.take p) q := by
  by_cases hp : p ≤ cs.length
  · have h := markL_append tx (cs.take p) (cs.drop p) q
    rw [List.take_append_drop] at h
    rw [h, List.take_left' (by rw [markL_len, List.length_take]; omega)]
  · rw [List.take_of_length_le (by rw [markL_len]; omega), List.take_of_length_le (by omega)]
theorem row_mark (tx : Int → ByteArray) (cs : List Cel) (k j : Nat) (q : Int) : row (markL tx cs q) k j = markL tx (row cs k j) (q + (cntL (cs.take (j * k)) : Int)) := by
  unfold row
  rw [markL_drop, markL_take]
def SaysD (w : World) (x : Int) (e : Ending) (w' : World) : Prop := e = .returned (.int .i64 x) ∧ Below w.heap.size w w'
end Go.Proofs.Ytmgofehafjogfaa
