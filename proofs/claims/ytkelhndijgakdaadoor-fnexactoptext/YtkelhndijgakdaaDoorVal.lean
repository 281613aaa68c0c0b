/- Plain facts on texts that are numerals, of no program: which texts of one to six bytes are the numeral of their own value. -/
import Derived.Test.YtkelhndijgakdaaDoorNums
namespace Go.Proofs.YtkelhndijgakdaaDoor
open Go.Lib

/-- The value of a text of digits. -/
def val (l : List UInt8) : Nat := l.foldl (fun a c => 10 * a + (c.toNat - 48)) 0
/-- A text of digits alone. -/
def Digs (l : List UInt8) : Prop := ∀ c ∈ l, 48 ≤ c.toNat ∧ c.toNat ≤ 57

theorem snoc_ind {p : List UInt8 → Prop} (h0 : p []) (hs : ∀ l c, p l → p (l ++ [c])) (l : List UInt8) : p l := by
  have : ∀ m : List UInt8, p m.reverse := by
    intro m
    induction m with
    | nil => exact h0
    | cons a m ih => rw [List.reverse_cons]; exact hs _ _ ih
  simpa using this l.reverse
theorem head_app {l : List UInt8} (m : List UInt8) (h : l ≠ []) : (l ++ m).head? = l.head? := by
  cases l with
  | nil => exact absurd rfl h
  | cons a l => rfl

theorem val_nil : val [] = 0 := rfl
theorem val_snoc (l : List UInt8) (c : UInt8) : val (l ++ [c]) = 10 * val l + (c.toNat - 48) := by simp [val]
theorem digs_nil : Digs [] := fun _ h => by simp at h
theorem digs_snoc {l : List UInt8} {c : UInt8} (h : Digs l) (h1 : 48 ≤ c.toNat) (h2 : c.toNat ≤ 57) : Digs (l ++ [c]) := by
  intro x hx
  rcases List.mem_append.1 hx with hx | hx
  · exact h x hx
  · simp at hx; subst hx; exact ⟨h1, h2⟩
theorem digs_of_snoc {l : List UInt8} {c : UInt8} (h : Digs (l ++ [c])) : Digs l ∧ 48 ≤ c.toNat ∧ c.toNat ≤ 57 :=
  ⟨fun x hx => h x (List.mem_append_left _ hx), h c (by simp)⟩

theorem val_lt (l : List UInt8) (h : Digs l) : val l < 10 ^ l.length := by
  revert h
  induction l using snoc_ind with
  | h0 => intro _; simp [val_nil]
  | hs l c ih =>
    intro h
    obtain ⟨h1, h2, h3⟩ := digs_of_snoc h
    have := ih h1
    rw [val_snoc, List.length_append, List.length_singleton, Nat.pow_succ]
    omega

theorem val_le6 (l : List UInt8) (h : Digs l) (hl : l.length ≤ 6) : val l ≤ 999999 := by
  have h1 := val_lt l h
  have h2 : 10 ^ l.length ≤ 10 ^ 6 := Nat.pow_le_pow_right (by omega) hl
  omega

theorem dec_head (u : Nat) : (decDigits u).head? = some 48 → u = 0 := by
  induction u using Nat.strongRecOn with
  | _ u ih =>
    intro h
    by_cases hs : u < 10
    · rw [dec_small hs] at h
      simp at h
      have h2 := congrArg UInt8.toNat h
      simp at h2
      omega
    · rw [dec_big hs] at h
      have hne : decDigits (u / 10) ≠ [] := by
        intro e
        have e1 := decDigits_length (u / 10)
        rw [e] at e1
        have e2 := nDigits_pos (u / 10)
        simp at e1
        omega
      rw [head_app _ hne] at h
      have := ih (u / 10) (by omega) h
      omega

theorem byte_of (c : UInt8) (h1 : 48 ≤ c.toNat) : UInt8.ofNat (48 + (c.toNat - 48)) = c := by
  have : 48 + (c.toNat - 48) = c.toNat := by omega
  rw [this]; simp

/-- A text of digits with no nought ahead is the numeral of its value. -/
theorem dec_val (l : List UInt8) (h : Digs l) (hne : l ≠ []) (h0 : l.length = 1 ∨ l.head? ≠ some 48) : decDigits (val l) = l := by
  revert h hne h0
  induction l using snoc_ind with
  | h0 => intro _ hne; exact absurd rfl hne
  | hs l c ih =>
    intro h hne h0
    obtain ⟨h1, h2, h3⟩ := digs_of_snoc h
    rw [val_snoc]
    by_cases hl : l = []
    · subst hl
      rw [val_nil, Nat.mul_zero, Nat.zero_add, dec_small (by omega), byte_of c h2]; rfl
    · have hh : l.head? ≠ some 48 := by
        rcases h0 with h0 | h0
        · have : l.length = 0 := by simpa using h0
          exact absurd (List.length_eq_zero_iff.1 this) hl
        · rwa [head_app _ hl] at h0
      have e := ih h1 hl (.inr hh)
      have hp : ¬ val l = 0 := by
        intro e0
        rw [e0, dec_small (by omega)] at e
        rw [← e] at hh
        exact hh rfl
      rw [dec_big (by omega)]
      have a1 : (10 * val l + (c.toNat - 48)) / 10 = val l := by omega
      have a2 : (10 * val l + (c.toNat - 48)) % 10 = c.toNat - 48 := by omega
      rw [a1, a2, e, byte_of c h2]

/-- With a nought ahead and more behind it, it is not. -/
theorem dec_val_not (l : List UInt8) (hl : 1 < l.length) (h0 : l.head? = some 48) : decDigits (val l) ≠ l := by
  intro e
  have hz := dec_head (val l) (by rw [e]; exact h0)
  rw [hz, dec_small (by omega)] at e
  rw [← e] at hl
  simp at hl

theorem take_snoc (s : ByteArray) (k : Nat) (h : k < s.size) : s.data.toList.take (k + 1) = s.data.toList.take k ++ [s[k]] := by
  rw [List.take_succ_eq_append_getElem (by simpa using h)]; rfl
theorem take_all (s : ByteArray) (k : Nat) (h : s.size ≤ k) : s.data.toList.take k = s.data.toList := List.take_of_length_le (by simpa using h)
theorem head_get (s : ByteArray) (h : 0 < s.size) : s.data.toList.head? = some s[0] := by
  rw [List.head?_eq_getElem?, List.getElem?_eq_getElem (by simpa using h)]; rfl

/-- The texts that are numbers, by the document's words: one to six digits, no nought ahead of others. -/
def Num (l : List UInt8) : Prop := 1 ≤ l.length ∧ l.length ≤ 6 ∧ Digs l ∧ (l.length = 1 ∨ l.head? ≠ some 48)

theorem num_dec {l : List UInt8} (h : Num l) : decDigits (val l) = l :=
  dec_val l h.2.2.1 (fun e => by have := h.1; rw [e] at this; simp at this) h.2.2.2
theorem num_of_dec {l : List UInt8} (h1 : 1 ≤ l.length) (h6 : l.length ≤ 6) (hd : Digs l) (e : decDigits (val l) = l) : Num l := by
  refine ⟨h1, h6, hd, ?_⟩
  by_cases hl : l.length = 1
  · exact .inl hl
  · exact .inr fun h0 => dec_val_not l (by omega) h0 e
theorem not_num_at (s : ByteArray) (k : Nat) (h : k < s.size) (hx : s[k].toNat < 48 ∨ 57 < s[k].toNat) : ¬ Num s.data.toList := by
  intro hn
  have hm : s[k] ∈ s.data.toList := by
    rw [List.mem_iff_getElem]; exact ⟨k, by simpa using h, rfl⟩
  have := hn.2.2.1 _ hm
  omega
end Go.Proofs.YtkelhndijgakdaaDoor
