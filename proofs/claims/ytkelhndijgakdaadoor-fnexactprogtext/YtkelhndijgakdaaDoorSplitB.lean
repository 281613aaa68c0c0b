/- Plain facts on a text parted at a byte, of no program. -/
import Derived.Lib.Bytealg
import Derived.Lib.IndexLaws
namespace Go.Proofs.YtkelhndijgakdaaDoor
open Go.Lib

/-- p ahead of the first of the parts. -/
def addHead (p : List UInt8) : List (List UInt8) → List (List UInt8)
  | [] => [p]
  | h :: t => (p ++ h) :: t
/-- What stands between the bytes b, in order. -/
def splitB (b : UInt8) : List UInt8 → List (List UInt8)
  | [] => [[]]
  | c :: l => if c = b then [] :: splitB b l else addHead [c] (splitB b l)

theorem splitB_ne (b : UInt8) : ∀ l, splitB b l ≠ []
  | [] => by simp [splitB]
  | c :: l => by
    unfold splitB
    split
    · simp
    · cases splitB b l <;> simp [addHead]
theorem addHead_nil {x : List (List UInt8)} (h : x ≠ []) : addHead [] x = x := by cases x <;> simp_all [addHead]
theorem addHead_app (p q : List UInt8) (x : List (List UInt8)) : addHead (p ++ q) x = addHead p (addHead q x) := by cases x <;> simp [addHead]
theorem addHead_len (p : List UInt8) {x : List (List UInt8)} (h : x ≠ []) : (addHead p x).length = x.length := by cases x <;> simp_all [addHead]
theorem splitB_len (b : UInt8) : ∀ l, (splitB b l).length ≤ l.length + 1
  | [] => by simp [splitB]
  | c :: l => by
    have := splitB_len b l
    unfold splitB
    split
    · simp; omega
    · rw [addHead_len _ (splitB_ne b l)]; simp; omega

/-- Where the loop of the specification's Split stands: at k, the part under way begun at f, done the parts behind it. -/
def SplitAt (b : UInt8) (l : List UInt8) (k f : Nat) (done : List (List UInt8)) : Prop :=
  f ≤ k ∧ k ≤ l.length ∧ done ++ addHead ((l.drop f).take (k - f)) (splitB b (l.drop k)) = splitB b l

theorem SplitAt.start (b : UInt8) (l : List UInt8) : SplitAt b l 0 0 [] := ⟨Nat.le_refl _, Nat.zero_le _, by simp [addHead_nil (splitB_ne b l)]⟩
theorem SplitAt.len {b : UInt8} {l : List UInt8} {k f : Nat} {done : List (List UInt8)} (h : SplitAt b l k f done) : done.length ≤ l.length + 1 := by
  have h1 := splitB_len b l
  rw [← h.2.2] at h1
  simp at h1; omega
theorem part_grow (l : List UInt8) (k f : Nat) (hf : f ≤ k) (hk : k < l.length) : (l.drop f).take (k + 1 - f) = (l.drop f).take (k - f) ++ [l[k]] := by
  rw [show k + 1 - f = (k - f) + 1 by omega, List.take_succ_eq_append_getElem (by simp; omega)]
  simp [show f + (k - f) = k by omega]
theorem SplitAt.no {b : UInt8} {l : List UInt8} {k f : Nat} {done : List (List UInt8)} (h : SplitAt b l k f done) (hk : k < l.length) (hb : l[k] ≠ b) : SplitAt b l (k + 1) f done := by
  obtain ⟨h1, h2, h3⟩ := h
  refine ⟨by omega, hk, ?_⟩
  rw [List.drop_eq_getElem_cons hk, splitB, if_neg hb] at h3
  rw [part_grow l k f h1 hk, addHead_app]
  exact h3
theorem SplitAt.yes {b : UInt8} {l : List UInt8} {k f : Nat} {done : List (List UInt8)} (h : SplitAt b l k f done) (hk : k < l.length) (hb : l[k] = b) : SplitAt b l (k + 1) (k + 1) (done ++ [(l.drop f).take (k - f)]) := by
  obtain ⟨h1, h2, h3⟩ := h
  refine ⟨Nat.le_refl _, hk, ?_⟩
  rw [List.drop_eq_getElem_cons hk, splitB, if_pos hb] at h3
  simp [addHead] at h3
  simp [addHead_nil (splitB_ne b _), h3]
theorem SplitAt.fin {b : UInt8} {l : List UInt8} {k f : Nat} {done : List (List UInt8)} (h : SplitAt b l k f done) (hk : k = l.length) : done ++ [(l.drop f).take (k - f)] = splitB b l := by
  obtain ⟨h1, h2, h3⟩ := h
  rw [hk, List.drop_length] at h3
  rw [hk, ← h3]
  simp [splitB, addHead]

theorem splitB_no (b : UInt8) : ∀ l : List UInt8, (∀ k : Nat, l[k]? ≠ some b) → splitB b l = [l]
  | [], _ => rfl
  | c :: l, h => by
    have h0 : c ≠ b := fun e => h 0 (by simp [e])
    have hr := splitB_no b l fun k e => h (k + 1) (by simpa using e)
    simp [splitB, h0, hr, addHead]
theorem splitB_none {b : UInt8} {l : List UInt8} (h : indexByte l b = -1) : splitB b l = [l] := splitB_no b l fun k => indexByte_none h k
theorem splitB_at (b : UInt8) : ∀ (l : List UInt8) (i : Nat), l[i]? = some b → (∀ k : Nat, k < i → l[k]? ≠ some b) → splitB b l = l.take i :: splitB b (l.drop (i + 1))
  | [], i, h, _ => by simp at h
  | c :: l, 0, h, _ => by
    have : c = b := by simpa using h
    simp [splitB, this]
  | c :: l, i + 1, h, hn => by
    have h0 : c ≠ b := fun e => hn 0 (by omega) (by simp [e])
    have hr := splitB_at b l i (by simpa using h) fun k hk e => hn (k + 1) (by omega) (by simpa using e)
    simp [splitB, h0, hr, addHead]
theorem splitB_some {b : UInt8} {l : List UInt8} {i : Nat} (h : indexByte l b = i) : splitB b l = l.take i :: splitB b (l.drop (i + 1)) ∧ i < l.length := by
  obtain ⟨h1, h2⟩ := indexByte_some h
  exact ⟨splitB_at b l i h1 h2, by
    have := (List.getElem?_eq_some_iff.1 h1).1
    exact this⟩
end Go.Proofs.YtkelhndijgakdaaDoor
