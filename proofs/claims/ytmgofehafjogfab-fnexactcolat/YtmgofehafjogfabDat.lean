/- Data of any shape in memory: numbers, flags, texts, lists of structs of these, one within the other. What is read (At), what a call owns (Own); what keeps them; a store into a list. No program. -/
import Derived.Test.YtmgofehafjogfabOwnsF
import Derived.Test.YtmgofehafjogfabClone
import Derived.Test.YtmgofehafjogfabTrip
namespace Go.Proofs.Ytmgofehafjogfab
open Go.ChangeShapes Go.WideShapes Go.ChangeAt Go.RowKit Go.Joins

/-- A cell's data: a number, a flag, a text, or a list of n structs of k cells each, cell by cell. -/
inductive Cel where
  | i (x : Int)
  | b (x : Bool)
  | s (x : ByteArray)
  | l (T : TypeId) (k n : Nat) (cs : List Cel)
/-- The value reads as the data. q: its lists have room as Go's own have. -/
inductive At (q : Bool) (w : World) : Value → Cel → Prop
  | i (x : Int) : At q w (.int .i64 x) (.i x)
  | b (x : Bool) : At q w (.bool x) (.b x)
  | s (x : ByteArray) : At q w (.string x) (.s x)
  | l (a : Option Addr) (T : TypeId) (k n c : Nat) (cs : List Cel) (vs : List Value) (h1 : vs.length = n * k) (h2 : cs.length = n * k) (hn : n ≤ 2097152) (hc : q = true → (a = none → c = 0) ∧ n ≤ c)
      (h3 : n = 0 ∨ ∃ b o, a = some ⟨b, o, none⟩ ∧ ∀ j, j < n * k → w.cell? ⟨b, o + j, none⟩ = vs[j]?) (h4 : ∀ (j : Nat) (v : Value) (c : Cel), vs[j]? = some v → cs[j]? = some c → At q w v c) : At q w (.slice a n c) (.l T k n cs)
def AtL (q : Bool) (w : World) (vs : List Value) (cs : List Cel) : Prop := vs.length = cs.length ∧ ∀ (j : Nat) (v : Value) (c : Cel), vs[j]? = some v → cs[j]? = some c → At q w v c
theorem At.on {q : Bool} {w w' : World} {v : Value} {c : Cel} (h : At q w v c) {B : Nat} (hb : Below B w w') (hB : w.heap.size ≤ B) : At q w' v c := by
  induction h with
  | i x => exact .i x
  | b x => exact .b x
  | s x => exact .s x
  | l a T k n c cs vs h1 h2 hn hc h3 h4 ih =>
    refine .l a T k n c cs vs h1 h2 hn hc ?_ ih
    rcases h3 with h3 | ⟨b, o, e, g⟩
    · exact .inl h3
    · refine .inr ⟨b, o, e, fun j hj => ?_⟩
      have h5 := g j hj
      have h6 : w.cell? ⟨b, o + j, none⟩ = some (vs[j]'(by omega)) := by rw [h5, List.getElem?_eq_getElem (by omega)]
      rw [hb.cell (show b < B from Nat.lt_of_lt_of_le (World.block_lt_of_cell? w _ h6) hB)]
      exact h5
theorem AtL.on {q : Bool} {w w' : World} {vs : List Value} {cs : List Cel} (h : AtL q w vs cs) {B : Nat} (hb : Below B w w') (hB : w.heap.size ≤ B) : AtL q w' vs cs :=
  ⟨h.1, fun j v c hv hc => (h.2 j v c hv hc).on hb hB⟩
theorem At.loose {q : Bool} {w : World} {v : Value} {c : Cel} (h : At q w v c) : At false w v c := by
  induction h with
  | i x => exact .i x
  | b x => exact .b x
  | s x => exact .s x
  | l a T k n c cs vs h1 h2 hn hc h3 h4 ih => exact .l a T k n c cs vs h1 h2 hn (fun h => by cases h) h3 ih
theorem AtL.nil {q : Bool} {w : World} : AtL q w [] [] := ⟨rfl, fun j v c hv _ => by simp at hv⟩
theorem AtL.cons {q : Bool} {w : World} {v : Value} {c : Cel} {vs : List Value} {cs : List Cel} (h : At q w v c) (hs : AtL q w vs cs) : AtL q w (v :: vs) (c :: cs) := by
  refine ⟨by simp [hs.1], fun j v' c' hv hc => ?_⟩
  cases j with
  | zero => simp at hv hc; subst hv hc; exact h
  | succ j => simp at hv hc; exact hs.2 j v' c' hv hc
theorem AtL.head {q : Bool} {w : World} {v : Value} {c : Cel} {vs : List Value} {cs : List Cel} (h : AtL q w (v :: vs) (c :: cs)) : At q w v c := h.2 0 v c rfl rfl
theorem AtL.tail {q : Bool} {w : World} {v : Value} {c : Cel} {vs : List Value} {cs : List Cel} (h : AtL q w (v :: vs) (c :: cs)) : AtL q w vs cs :=
  ⟨by have := h.1; simpa using this, fun j v' c' hv hc => h.2 (j + 1) v' c' (by simpa using hv) (by simpa using hc)⟩

/-- The value's lists are the call's own, S their blocks, no two lists in one. -/
inductive Own (w : World) (base : Nat) : Value → Cel → (Nat → Prop) → Prop
  | i (x : Int) (S : Nat → Prop) (hS : ∀ k, ¬ S k) : Own w base (.int .i64 x) (.i x) S
  | b (x : Bool) (S : Nat → Prop) (hS : ∀ k, ¬ S k) : Own w base (.bool x) (.b x) S
  | s (x : ByteArray) (S : Nat → Prop) (hS : ∀ k, ¬ S k) : Own w base (.string x) (.s x) S
  | nil (T : TypeId) (k : Nat) (S : Nat → Prop) (hS : ∀ k, ¬ S k) : Own w base (.slice none 0 0) (.l T k 0 []) S
  | l (g cap : Nat) (T : TypeId) (k n : Nat) (cs : List Cel) (vs : List Value) (S : Nat → Prop) (Ss : Nat → Nat → Prop) (h1 : w.ownsRow base T k (.slice (some ⟨g, 0, none⟩) n cap) n vs) (h2 : cs.length = n * k) (hn : n ≤ 2097152)
      (h4 : ∀ (j : Nat) (v : Value) (c : Cel), vs[j]? = some v → cs[j]? = some c → Own w base v c (Ss j)) (h5 : ∀ j, ¬ Ss j g) (h6 : ∀ i j x, i ≠ j → Ss i x → ¬ Ss j x) (h7 : ∀ x, S x ↔ x = g ∨ ∃ j, j < n * k ∧ Ss j x) :
      Own w base (.slice (some ⟨g, 0, none⟩) n cap) (.l T k n cs) S
/-- A struct's cells, likewise. -/
def OwnL (w : World) (base : Nat) (vs : List Value) (cs : List Cel) (S : Nat → Prop) : Prop :=
  vs.length = cs.length ∧ ∃ Ss : Nat → Nat → Prop, (∀ (j : Nat) (v : Value) (c : Cel), vs[j]? = some v → cs[j]? = some c → Own w base v c (Ss j)) ∧ (∀ i j x, i ≠ j → Ss i x → ¬ Ss j x) ∧ ∀ x, S x ↔ ∃ j, j < vs.length ∧ Ss j x
theorem Own.set {w : World} {base : Nat} {v : Value} {c : Cel} {S S' : Nat → Prop} (h : Own w base v c S) (hS : ∀ x, S x ↔ S' x) : Own w base v c S' := by
  cases h with
  | i x S h => exact .i x S' fun k hk => h k ((hS k).2 hk)
  | b x S h => exact .b x S' fun k hk => h k ((hS k).2 hk)
  | s x S h => exact .s x S' fun k hk => h k ((hS k).2 hk)
  | nil T k S h => exact .nil T k S' fun k hk => h k ((hS k).2 hk)
  | l g cap T k n cs vs S Ss h1 h2 hn h4 h5 h6 h7 => exact .l g cap T k n cs vs S' Ss h1 h2 hn h4 h5 h6 fun x => (hS x).symm.trans (h7 x)
theorem Own.lt {w : World} {base : Nat} {v : Value} {c : Cel} {S : Nat → Prop} (h : Own w base v c S) : ∀ x, S x → base ≤ x ∧ x < w.heap.size := by
  induction h with
  | i x S h => exact fun k hk => absurd hk (h k)
  | b x S h => exact fun k hk => absurd hk (h k)
  | s x S h => exact fun k hk => absurd hk (h k)
  | nil T k S h => exact fun k hk => absurd hk (h k)
  | l g cap T k n cs vs S Ss h1 h2 hn h4 h5 h6 h7 ih =>
    intro x hx
    rcases (h7 x).1 hx with rfl | ⟨j, hj, hxj⟩
    · exact h1.lt x rfl
    · have hl := h1.1
      exact ih j _ _ (List.getElem?_eq_getElem (by omega)) (List.getElem?_eq_getElem (by omega)) x hxj
theorem Own.heap {w w' : World} {base : Nat} {v : Value} {c : Cel} {S : Nat → Prop} (h : Own w base v c S) (he : ∀ x, S x → w'.heap[x]? = w.heap[x]?) : Own w' base v c S := by
  induction h with
  | i x S h => exact .i x S h
  | b x S h => exact .b x S h
  | s x S h => exact .s x S h
  | nil T k S h => exact .nil T k S h
  | l g cap T k n cs vs S Ss h1 h2 hn h4 h5 h6 h7 ih =>
    refine .l g cap T k n cs vs S Ss (owns_heap h1 fun k hk => ?_) h2 hn (fun j v c hv hc => ?_) h5 h6 h7
    · cases hk
      exact he g ((h7 g).2 (.inl rfl))
    · exact ih j v c hv hc fun x hx => he x ((h7 x).2 (.inr ⟨j, by
        have hl := h1.1
        have := (List.getElem?_eq_some_iff.1 hv).1
        omega, hx⟩))
theorem Own.on {w w' : World} {base : Nat} {v : Value} {c : Cel} {S : Nat → Prop} (h : Own w base v c S) {B : Nat} (hb : Below B w w') (hB : w.heap.size ≤ B) : Own w' base v c S :=
  h.heap fun x hx => hb.block x (by have := (h.lt x hx).2; omega)
theorem Own.weaken {w : World} {base base' : Nat} {v : Value} {c : Cel} {S : Nat → Prop} (h : Own w base v c S) (hb : base' ≤ base) : Own w base' v c S := by
  induction h with
  | i x S h => exact .i x S h
  | b x S h => exact .b x S h
  | s x S h => exact .s x S h
  | nil T k S h => exact .nil T k S h
  | l g cap T k n cs vs S Ss h1 h2 hn h4 h5 h6 h7 ih => exact .l g cap T k n cs vs S Ss (own_weaken h1 hb) h2 hn ih h5 h6 h7
theorem Own.at {w : World} {base : Nat} {v : Value} {c : Cel} {S : Nat → Prop} (h : Own w base v c S) : At true w v c := by
  induction h with
  | i x S h => exact .i x
  | b x S h => exact .b x
  | s x S h => exact .s x
  | nil T k S h => exact .l none T k 0 0 [] [] (by simp) (by simp) (by omega) (fun _ => ⟨fun _ => rfl, Nat.le_refl _⟩) (.inl rfl) (fun j v c hv _ => by simp at hv)
  | l g cap T k n cs vs S Ss h1 h2 hn h4 h5 h6 h7 ih =>
    obtain ⟨_, c', e, hcap⟩ := owns_slice h1
    cases e
    exact .l _ T k n cap cs vs h1.1 h2 hn (fun _ => ⟨(fun h => by cases h), hcap⟩) (.inr ⟨g, 0, rfl, fun j hj => by rw [Nat.zero_add]; exact h1.cellAt j hj⟩) ih
/-- Where a list of the call's own lies. -/
theorem Own.forms {w : World} {base : Nat} {v : Value} {T : TypeId} {k n : Nat} {cs : List Cel} {S : Nat → Prop} (h : Own w base v (.l T k n cs) S) : (v = .slice none 0 0 ∧ n = 0 ∧ cs = [] ∧ ∀ x, ¬ S x) ∨ ∃ g cap, v = .slice (some ⟨g, 0, none⟩) n cap ∧ n ≤ cap ∧ S g := by
  cases h with
  | nil T k S h => exact .inl ⟨rfl, rfl, rfl, h⟩
  | l g cap T k n cs vs S Ss h1 h2 hn h4 h5 h6 h7 =>
    obtain ⟨_, c', e, hcap⟩ := owns_slice h1
    cases e
    exact .inr ⟨g, cap, rfl, hcap, (h7 g).2 (.inl rfl)⟩
theorem Own.len {w : World} {base : Nat} {v : Value} {T : TypeId} {k n : Nat} {cs : List Cel} {S : Nat → Prop} (h : Own w base v (.l T k n cs) S) : cs.length = n * k ∧ n ≤ 2097152 := by
  cases h with
  | nil T k S h => exact ⟨by simp, by omega⟩
  | l g cap T k n cs vs S Ss h1 h2 hn h4 h5 h6 h7 => exact ⟨h2, hn⟩
theorem Own.slice {w : World} {base : Nat} {v : Value} {T : TypeId} {k n : Nat} {cs : List Cel} {S : Nat → Prop} (h : Own w base v (.l T k n cs) S) : ∃ a c, v = .slice a n c ∧ n ≤ c := by
  rcases h.forms with ⟨rfl, rfl, -, -⟩ | ⟨g, cap, rfl, hc, -⟩
  · exact ⟨none, 0, rfl, Nat.le_refl _⟩
  · exact ⟨_, cap, rfl, hc⟩
/-- A cell of a list of the call's own: what stands there, and that it may be written. -/
theorem Own.cell {w : World} {base : Nat} {g n cap : Nat} {T : TypeId} {k : Nat} {cs : List Cel} {S : Nat → Prop} (h : Own w base (.slice (some ⟨g, 0, none⟩) n cap) (.l T k n cs) S) {j : Nat} {c : Cel} (hc : cs[j]? = some c) :
    ∃ v Sj, w.cell? ⟨g, j, none⟩ = some v ∧ w.frozen? ⟨g, j, none⟩ = false ∧ Own w base v c Sj ∧ (∀ x, Sj x → S x) ∧ ¬ Sj g := by
  cases h with
  | l g cap T k n cs vs S Ss h1 h2 hn h4 h5 h6 h7 =>
    have hj : j < cs.length := (List.getElem?_eq_some_iff.1 hc).1
    have hl := h1.1
    have hv : vs[j]? = some (vs[j]'(by omega)) := List.getElem?_eq_getElem (by omega)
    exact ⟨_, Ss j, own_cellV h1 hv, h1.frozenAt j, h4 j _ _ hv hc, fun x hx => (h7 x).2 (.inr ⟨j, by omega, hx⟩), h5 j⟩
/-- A store into a list of the call's own: the new cell's lists lie elsewhere. -/
theorem Own.store {w : World} {base : Nat} {g n cap : Nat} {T : TypeId} {k : Nat} {cs : List Cel} {S S' : Nat → Prop} (h : Own w base (.slice (some ⟨g, 0, none⟩) n cap) (.l T k n cs) S) {j : Nat} (hj : j < n * k) {u : Value} {c' : Cel} (hu : Own w base u c' S') (hS : ∀ x, S' x → ¬ S x) :
    ∃ S'', Own (w.setCell ⟨g, j, none⟩ u) base (.slice (some ⟨g, 0, none⟩) n cap) (.l T k n (cs.set j c')) S'' ∧ S'' g ∧ (∀ x, S'' x → S x ∨ S' x) ∧ ∀ x, S' x → S'' x := by
  cases h with
  | l g cap T k n cs vs S Ss h1 h2 hn h4 h5 h6 h7 =>
    have hl := h1.1
    have hg : S g := (h7 g).2 (.inl rfl)
    have sub : ∀ i x, i < n * k → Ss i x → S x := fun i x hi hx => (h7 x).2 (.inr ⟨i, hi, hx⟩)
    refine ⟨fun x => x = g ∨ ∃ i, i < n * k ∧ (if i = j then S' else Ss i) x, .l g cap T k n _ (vs.set j u) _ (fun i => if i = j then S' else if i < n * k then Ss i else fun _ => False) (h1.stored j u).1 (by simpa using h2) hn ?_ ?_ ?_ ?_, .inl rfl, ?_, fun x hx => .inr ⟨j, hj, by simpa using hx⟩⟩
    · intro i v c hv hc
      by_cases hij : i = j
      · subst hij
        rw [List.getElem?_set_self (by omega)] at hv
        rw [List.getElem?_set_self (by omega)] at hc
        cases hv
        cases hc
        rw [if_pos rfl]
        exact hu.heap fun x hx => Below.heap_setCell _ _ _ _ (fun e => hS x hx (by have e : x = g := e; rw [e]; exact hg))
      · rw [List.getElem?_set_ne (Ne.symm hij)] at hv hc
        have hi : i < n * k := by have := (List.getElem?_eq_some_iff.1 hv).1; omega
        rw [if_neg hij, if_pos hi]
        exact (h4 i v c hv hc).heap fun x hx => Below.heap_setCell _ _ _ _ (fun e => h5 i (by have e : x = g := e; rw [← e]; exact hx))
    · intro i
      show ¬ (if i = j then S' else if i < n * k then Ss i else fun _ => False) g
      split
      · exact fun hx => hS g hx hg
      · split
        · exact h5 i
        · exact fun h => h
    · intro a b x hab
      show (if a = j then S' else if a < n * k then Ss a else fun _ => False) x → ¬ (if b = j then S' else if b < n * k then Ss b else fun _ => False) x
      by_cases ha : a = j
      · rw [if_pos ha, if_neg (show ¬ b = j by omega)]
        intro hx
        split
        · rename_i hb
          exact fun hb' => hS x hx (sub b x hb hb')
        · exact fun h => h
      · rw [if_neg ha]
        split
        · rename_i hal
          intro hx
          by_cases hb : b = j
          · rw [if_pos hb]; exact fun hx' => hS x hx' (sub a x hal hx)
          · rw [if_neg hb]
            split
            · exact h6 a b x hab hx
            · exact fun h => h
        · exact fun h => h.elim
    · intro x
      constructor
      · rintro (rfl | ⟨i, hi, hx⟩)
        · exact .inl rfl
        · exact .inr ⟨i, hi, by by_cases e : i = j <;> simp [e, hi] at hx ⊢ <;> exact hx⟩
      · rintro (rfl | ⟨i, hi, hx⟩)
        · exact .inl rfl
        · exact .inr ⟨i, hi, by by_cases e : i = j <;> simp [e, hi] at hx ⊢ <;> exact hx⟩
    · rintro x (rfl | ⟨i, hi, hx⟩)
      · exact .inl hg
      · by_cases e : i = j
        · rw [if_pos e] at hx; exact .inr hx
        · rw [if_neg e] at hx; exact .inl (sub i x hi hx)

theorem OwnL.nil {w : World} {base : Nat} {S : Nat → Prop} (hS : ∀ x, ¬ S x) : OwnL w base [] [] S :=
  ⟨rfl, fun _ _ => False, (fun j v c hv _ => by simp at hv), (fun _ _ _ _ h => h.elim), fun x => ⟨fun h => absurd h (hS x), fun ⟨j, hj, _⟩ => by simp at hj⟩⟩
theorem OwnL.cons {w : World} {base : Nat} {v : Value} {c : Cel} {vs : List Value} {cs : List Cel} {S0 S S' : Nat → Prop} (h : Own w base v c S0) (hs : OwnL w base vs cs S) (hd : ∀ x, S0 x → ¬ S x) (hS : ∀ x, S' x ↔ S0 x ∨ S x) : OwnL w base (v :: vs) (c :: cs) S' := by
  obtain ⟨hl, Ss, h1, h2, h3⟩ := hs
  refine ⟨by simp [hl], fun j => match j with | 0 => S0 | j + 1 => fun x => j < vs.length ∧ Ss j x, ?_, ?_, ?_⟩
  · intro j v' c' hv hc
    cases j with
    | zero => simp at hv hc; subst hv hc; exact h
    | succ j =>
      simp at hv hc
      have hj := (List.getElem?_eq_some_iff.1 hv).1
      exact (h1 j v' c' hv hc).set fun x => ⟨fun hx => ⟨hj, hx⟩, fun hx => hx.2⟩
  · intro i j x hij
    match i, j with
    | 0, 0 => exact absurd rfl hij
    | 0, j + 1 => exact fun hx hx' => hd x hx ((h3 x).2 ⟨j, hx'.1, hx'.2⟩)
    | i + 1, 0 => exact fun hx hx' => hd x hx' ((h3 x).2 ⟨i, hx.1, hx.2⟩)
    | i + 1, j + 1 => exact fun hx hx' => h2 i j x (by omega) hx.2 hx'.2
  · intro x
    rw [hS x, h3 x]
    constructor
    · rintro (hx | ⟨j, hj, hx⟩)
      · exact ⟨0, by simp, hx⟩
      · exact ⟨j + 1, by simpa using hj, hj, hx⟩
    · rintro ⟨j, hj, hx⟩
      cases j with
      | zero => exact .inl hx
      | succ j => exact .inr ⟨j, hx.1, hx.2⟩
theorem OwnL.parts {w : World} {base : Nat} {v : Value} {c : Cel} {vs : List Value} {cs : List Cel} {S : Nat → Prop} (h : OwnL w base (v :: vs) (c :: cs) S) : ∃ S0 S1, Own w base v c S0 ∧ OwnL w base vs cs S1 ∧ (∀ x, S0 x → ¬ S1 x) ∧ ∀ x, S x ↔ S0 x ∨ S1 x := by
  obtain ⟨hl, Ss, h1, h2, h3⟩ := h
  refine ⟨Ss 0, fun x => ∃ j, j < vs.length ∧ Ss (j + 1) x, h1 0 v c rfl rfl, ⟨by simpa using hl, fun j => Ss (j + 1), fun j v' c' hv hc => h1 (j + 1) v' c' (by simpa using hv) (by simpa using hc), fun i j x hij => h2 _ _ x (by omega), fun x => Iff.rfl⟩, ?_, ?_⟩
  · rintro x hx ⟨j, _, hx'⟩
    exact h2 0 (j + 1) x (by omega) hx hx'
  · intro x
    rw [h3 x]
    constructor
    · rintro ⟨j, hj, hx⟩
      cases j with
      | zero => exact .inl hx
      | succ j => exact .inr ⟨j, by simpa using hj, hx⟩
    · rintro (hx | ⟨j, hj, hx⟩)
      · exact ⟨0, by simp, hx⟩
      · exact ⟨j + 1, by simpa using hj, hx⟩
theorem OwnL.heap {w w' : World} {base : Nat} {vs : List Value} {cs : List Cel} {S : Nat → Prop} (h : OwnL w base vs cs S) (he : ∀ x, S x → w'.heap[x]? = w.heap[x]?) : OwnL w' base vs cs S := by
  obtain ⟨hl, Ss, h1, h2, h3⟩ := h
  exact ⟨hl, Ss, fun j v c hv hc => (h1 j v c hv hc).heap fun x hx => he x ((h3 x).2 ⟨j, (List.getElem?_eq_some_iff.1 hv).1, hx⟩), h2, h3⟩
theorem OwnL.lt {w : World} {base : Nat} {vs : List Value} {cs : List Cel} {S : Nat → Prop} (h : OwnL w base vs cs S) : ∀ x, S x → base ≤ x ∧ x < w.heap.size := by
  obtain ⟨hl, Ss, h1, h2, h3⟩ := h
  intro x hx
  obtain ⟨j, hj, hx⟩ := (h3 x).1 hx
  exact (h1 j _ _ (List.getElem?_eq_getElem hj) (List.getElem?_eq_getElem (by omega))).lt x hx
theorem OwnL.on {w w' : World} {base : Nat} {vs : List Value} {cs : List Cel} {S : Nat → Prop} (h : OwnL w base vs cs S) {B : Nat} (hb : Below B w w') (hB : w.heap.size ≤ B) : OwnL w' base vs cs S :=
  h.heap fun x hx => hb.block x (by have := (h.lt x hx).2; omega)
theorem OwnL.weaken {w : World} {base base' : Nat} {vs : List Value} {cs : List Cel} {S : Nat → Prop} (h : OwnL w base vs cs S) (hb : base' ≤ base) : OwnL w base' vs cs S := by
  obtain ⟨hl, Ss, h1, h2, h3⟩ := h
  exact ⟨hl, Ss, fun j v c hv hc => (h1 j v c hv hc).weaken hb, h2, h3⟩
theorem OwnL.at {w : World} {base : Nat} {vs : List Value} {cs : List Cel} {S : Nat → Prop} (h : OwnL w base vs cs S) : AtL true w vs cs := by
  obtain ⟨hl, Ss, h1, h2, h3⟩ := h
  exact ⟨hl, fun j v c hv hc => (h1 j v c hv hc).at⟩
end Go.Proofs.Ytmgofehafjogfab
