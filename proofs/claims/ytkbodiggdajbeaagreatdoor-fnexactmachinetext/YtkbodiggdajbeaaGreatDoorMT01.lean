/- Texts joined: OpM, Nums, Val, SplitB, Nums2, Txt14, Str, TextS, TxtW, Own, IntAt, Trip, Quad, BoxN, OwnsF, Clone. -/
import Derived.Test.YtkbodiggdajbeaaGreatDoorRows
import Derived.WalkKit
import Derived.ProofKit
import Derived.Lib.ItoaNum
import Derived.Lib.ItoaLen
import Derived.Lib.Bytealg
import Derived.Lib.IndexLaws
import Derived.Lib.Join
import Derived.WalkSmall
import Derived.OpenShut
import Derived.Handy
import Derived.Below
import Derived.Lib.SmallJoins
import Derived.Deep.Slices
import Derived.Deep.SlicePairs
import Derived.Deep.Strs
import Derived.Laws.AppendOwn
import Derived.Deep.RegionLaw
/- What is asked, in plain words: which ops are right (no program). -/
namespace Go.Proofs.YtkbodiggdajbeaaGreatDoor

/-- The key of an op of that kind is right. -/
def KeyGood (kind k : Int) : Prop := (kind ≤ 4 ∧ 0 ≤ k ∧ k ≤ 3) ∨ (kind = 6 ∧ 0 ≤ k ∧ k ≤ 2) ∨ (4 < kind ∧ kind ≠ 6 ∧ k = 0)
/-- What an op of that kind names is right. -/
def ValGood (kind v : Int) : Prop := ((kind = 1 ∨ kind = 2 ∨ kind = 5 ∨ kind = 10) ∧ 1 ≤ v ∧ v ≤ 6) ∨ (¬ (kind = 1 ∨ kind = 2 ∨ kind = 5 ∨ kind = 10) ∧ v = 0)
def OpGood (kind k v : Int) : Prop := (1 ≤ kind ∧ kind ≤ 10) ∧ KeyGood kind k ∧ ValGood kind v
instance (kind k : Int) : Decidable (KeyGood kind k) := by unfold KeyGood; infer_instance
instance (kind v : Int) : Decidable (ValGood kind v) := by unfold ValGood; infer_instance
instance (kind k v : Int) : Decidable (OpGood kind k v) := by unfold OpGood; infer_instance

theorem kinds {kind : Int} (h : 1 ≤ kind ∧ kind ≤ 10) : kind = 1 ∨ kind = 2 ∨ kind = 3 ∨ kind = 4 ∨ kind = 5 ∨ kind = 6 ∨ kind = 7 ∨ kind = 8 ∨ kind = 9 ∨ kind = 10 := by omega
/-- An op as a value. -/
abbrev OpV (kind k v : Int) : Value := .agg #[.int .i64 kind, .int .i64 k, .int .i64 v]

theorem says_true {P : Prop} [Decidable P] (h : P) : Ending.returned (.bool true) = .returned (.bool (decide P)) := by rw [decide_eq_true h]
theorem says_false {P : Prop} [Decidable P] (h : ¬ P) : Ending.returned (.bool false) = .returned (.bool (decide P)) := by rw [decide_eq_false h]
theorem good_of {kind k v : Int} {P Q : Prop} (h : 1 ≤ kind ∧ kind ≤ 10) (hp : KeyGood kind k ↔ P) (hq : ValGood kind v ↔ Q) : OpGood kind k v ↔ (P ∧ Q) :=
  ⟨fun g => ⟨hp.1 g.2.1, hq.1 g.2.2⟩, fun g => ⟨h, hp.2 g.1, hq.2 g.2⟩⟩
theorem eqb (a b : Int) : (a = b ∧ (a == b) = true) ∨ (¬ a = b ∧ (a == b) = false) := by
  by_cases h : a = b
  · exact .inl ⟨h, by simp [h]⟩
  · exact .inr ⟨h, by simp [h]⟩
theorem tri (a b x : Int) (h : a ≤ b) : (a ≤ x ∧ x ≤ b) ∨ (¬ a ≤ x ∧ x ≤ b) ∨ (a ≤ x ∧ ¬ x ≤ b) := by omega

end Go.Proofs.YtkbodiggdajbeaaGreatDoor

/- Plain facts on decimal digits, of no program: what one step of dividing by ten leaves of a numeral. -/
namespace Go.Proofs.YtkbodiggdajbeaaGreatDoor
open Go.Lib

theorem dec_small {u : Nat} (h : u < 10) : decDigits u = [UInt8.ofNat (48 + u)] := by rw [decDigits, dif_pos h]
theorem dec_big {u : Nat} (h : ¬ u < 10) : decDigits u = decDigits (u / 10) ++ [UInt8.ofNat (48 + u % 10)] := by rw [decDigits, dif_neg h]

/-- What the loop of the specification's Digits keeps: k is still to be written, l is written already. -/
def LeftD (N k : Nat) (l : List UInt8) : Prop := (k = 0 → l = decDigits N) ∧ (0 < k → decDigits k ++ l = decDigits N)

theorem left_start (N : Nat) (h : 0 < N) : LeftD N N [] := ⟨fun e => by omega, fun _ => by simp⟩

theorem left_step {N k : Nat} {l : List UInt8} (hk : 0 < k) (h : LeftD N k l) : LeftD N (k / 10) (UInt8.ofNat (48 + k % 10) :: l) := by
  have h2 := h.2 hk
  by_cases hs : k < 10
  · rw [dec_small hs] at h2
    have e0 : k / 10 = 0 := by omega
    have e1 : k % 10 = k := by omega
    rw [e0, e1]
    exact ⟨fun _ => h2, fun e => by omega⟩
  · rw [dec_big hs] at h2
    refine ⟨fun e => by omega, fun _ => ?_⟩
    rw [← h2]; simp

theorem left_len {N k : Nat} {l : List UInt8} (h : LeftD N k l) (hN : N < 18446744073709551616) : l.length ≤ 20 := by
  have hn := nDigits_le20 N hN
  rw [← decDigits_length] at hn
  by_cases hk : k = 0
  · rw [h.1 hk]; exact hn
  · have := h.2 (by omega)
    rw [← this] at hn
    simp at hn; omega

theorem itoa_zero : itoa 0 = [48] := by decide +kernel
theorem itoa_of_pos (k : Nat) : itoa (k : Int) = decDigits k := by unfold itoa; rw [if_neg (by omega)]; simp
theorem itoa_of_neg (k : Nat) (h : 0 < k) : itoa (-(k : Int)) = 45 :: decDigits k := by unfold itoa; rw [if_pos (by omega)]; simp

theorem neg_tmod (k : Nat) : (-(k : Int)).tmod 10 = -((k % 10 : Nat) : Int) := by
  rw [Int.neg_tmod, Int.tmod_eq_emod_of_nonneg (by omega)]; rfl
theorem neg_tdiv (k : Nat) : (-(k : Int)).tdiv 10 = -((k / 10 : Nat) : Int) := by
  rw [Int.neg_tdiv, Int.tdiv_eq_ediv_of_nonneg (by omega)]; rfl
end Go.Proofs.YtkbodiggdajbeaaGreatDoor

/- Plain facts on texts that are numerals, of no program: which texts of one to six bytes are the numeral of their own value. -/
namespace Go.Proofs.YtkbodiggdajbeaaGreatDoor
open Go.Lib

/-- The value of a text of digits. -/
def val (l : List UInt8) : Nat := l.foldl (fun a c => 10 * a + (c.toNat - 48)) 0
/-- A text of digits alone. -/
def Digs (l : List UInt8) : Prop := ∀ c ∈ l, 48 ≤ c.toNat ∧ c.toNat ≤ 57

theorem snoc_ind {p : List UInt8 → Prop} (h0 : p []) (hs : ∀ l c, p l → p (l ++ [c])) (l : List UInt8) : p l := by
  have : ∀ m : List UInt8, p m.reverse := by
    intro m
    induction m with
    | nil => exact h0
    | cons a m ih => rw [List.reverse_cons]; exact hs _ _ ih
  simpa using this l.reverse
theorem head_app {l : List UInt8} (m : List UInt8) (h : l ≠ []) : (l ++ m).head? = l.head? := by
  cases l with
  | nil => exact absurd rfl h
  | cons a l => rfl

theorem val_nil : val [] = 0 := rfl
theorem val_snoc (l : List UInt8) (c : UInt8) : val (l ++ [c]) = 10 * val l + (c.toNat - 48) := by simp [val]
theorem digs_nil : Digs [] := fun _ h => by simp at h
theorem digs_snoc {l : List UInt8} {c : UInt8} (h : Digs l) (h1 : 48 ≤ c.toNat) (h2 : c.toNat ≤ 57) : Digs (l ++ [c]) := by
  intro x hx
  rcases List.mem_append.1 hx with hx | hx
  · exact h x hx
  · simp at hx; subst hx; exact ⟨h1, h2⟩
theorem digs_of_snoc {l : List UInt8} {c : UInt8} (h : Digs (l ++ [c])) : Digs l ∧ 48 ≤ c.toNat ∧ c.toNat ≤ 57 :=
  ⟨fun x hx => h x (List.mem_append_left _ hx), h c (by simp)⟩

theorem val_lt (l : List UInt8) (h : Digs l) : val l < 10 ^ l.length := by
  revert h
  induction l using snoc_ind with
  | h0 => intro _; simp [val_nil]
  | hs l c ih =>
    intro h
    obtain ⟨h1, h2, h3⟩ := digs_of_snoc h
    have := ih h1
    rw [val_snoc, List.length_append, List.length_singleton, Nat.pow_succ]
    omega

theorem val_le6 (l : List UInt8) (h : Digs l) (hl : l.length ≤ 6) : val l ≤ 999999 := by
  have h1 := val_lt l h
  have h2 : 10 ^ l.length ≤ 10 ^ 6 := Nat.pow_le_pow_right (by omega) hl
  omega

theorem dec_head (u : Nat) : (decDigits u).head? = some 48 → u = 0 := by
  induction u using Nat.strongRecOn with
  | _ u ih =>
    intro h
    by_cases hs : u < 10
    · rw [dec_small hs] at h
      simp at h
      have h2 := congrArg UInt8.toNat h
      simp at h2
      omega
    · rw [dec_big hs] at h
      have hne : decDigits (u / 10) ≠ [] := by
        intro e
        have e1 := decDigits_length (u / 10)
        rw [e] at e1
        have e2 := nDigits_pos (u / 10)
        simp at e1
        omega
      rw [head_app _ hne] at h
      have := ih (u / 10) (by omega) h
      omega

theorem byte_of (c : UInt8) (h1 : 48 ≤ c.toNat) : UInt8.ofNat (48 + (c.toNat - 48)) = c := by
  have : 48 + (c.toNat - 48) = c.toNat := by omega
  rw [this]; simp

/-- A text of digits with no nought ahead is the numeral of its value. -/
theorem dec_val (l : List UInt8) (h : Digs l) (hne : l ≠ []) (h0 : l.length = 1 ∨ l.head? ≠ some 48) : decDigits (val l) = l := by
  revert h hne h0
  induction l using snoc_ind with
  | h0 => intro _ hne; exact absurd rfl hne
  | hs l c ih =>
    intro h hne h0
    obtain ⟨h1, h2, h3⟩ := digs_of_snoc h
    rw [val_snoc]
    by_cases hl : l = []
    · subst hl
      rw [val_nil, Nat.mul_zero, Nat.zero_add, dec_small (by omega), byte_of c h2]; rfl
    · have hh : l.head? ≠ some 48 := by
        rcases h0 with h0 | h0
        · have : l.length = 0 := by simpa using h0
          exact absurd (List.length_eq_zero_iff.1 this) hl
        · rwa [head_app _ hl] at h0
      have e := ih h1 hl (.inr hh)
      have hp : ¬ val l = 0 := by
        intro e0
        rw [e0, dec_small (by omega)] at e
        rw [← e] at hh
        exact hh rfl
      rw [dec_big (by omega)]
      have a1 : (10 * val l + (c.toNat - 48)) / 10 = val l := by omega
      have a2 : (10 * val l + (c.toNat - 48)) % 10 = c.toNat - 48 := by omega
      rw [a1, a2, e, byte_of c h2]

/-- With a nought ahead and more behind it, it is not. -/
theorem dec_val_not (l : List UInt8) (hl : 1 < l.length) (h0 : l.head? = some 48) : decDigits (val l) ≠ l := by
  intro e
  have hz := dec_head (val l) (by rw [e]; exact h0)
  rw [hz, dec_small (by omega)] at e
  rw [← e] at hl
  simp at hl

theorem take_snoc (s : ByteArray) (k : Nat) (h : k < s.size) : s.data.toList.take (k + 1) = s.data.toList.take k ++ [s[k]] := by
  rw [List.take_succ_eq_append_getElem (by simpa using h)]; rfl
theorem take_all (s : ByteArray) (k : Nat) (h : s.size ≤ k) : s.data.toList.take k = s.data.toList := List.take_of_length_le (by simpa using h)
theorem head_get (s : ByteArray) (h : 0 < s.size) : s.data.toList.head? = some s[0] := by
  rw [List.head?_eq_getElem?, List.getElem?_eq_getElem (by simpa using h)]; rfl

/-- The texts that are numbers, by the document's words: one to six digits, no nought ahead of others. -/
def Num (l : List UInt8) : Prop := 1 ≤ l.length ∧ l.length ≤ 6 ∧ Digs l ∧ (l.length = 1 ∨ l.head? ≠ some 48)

theorem num_dec {l : List UInt8} (h : Num l) : decDigits (val l) = l :=
  dec_val l h.2.2.1 (fun e => by have := h.1; rw [e] at this; simp at this) h.2.2.2
theorem num_of_dec {l : List UInt8} (h1 : 1 ≤ l.length) (h6 : l.length ≤ 6) (hd : Digs l) (e : decDigits (val l) = l) : Num l := by
  refine ⟨h1, h6, hd, ?_⟩
  by_cases hl : l.length = 1
  · exact .inl hl
  · exact .inr fun h0 => dec_val_not l (by omega) h0 e
theorem not_num_at (s : ByteArray) (k : Nat) (h : k < s.size) (hx : s[k].toNat < 48 ∨ 57 < s[k].toNat) : ¬ Num s.data.toList := by
  intro hn
  have hm : s[k] ∈ s.data.toList := by
    rw [List.mem_iff_getElem]; exact ⟨k, by simpa using h, rfl⟩
  have := hn.2.2.1 _ hm
  omega
end Go.Proofs.YtkbodiggdajbeaaGreatDoor

/- Plain facts on a text parted at a byte, of no program. -/
namespace Go.Proofs.YtkbodiggdajbeaaGreatDoor
open Go.Lib

/-- p ahead of the first of the parts. -/
def addHead (p : List UInt8) : List (List UInt8) → List (List UInt8)
  | [] => [p]
  | h :: t => (p ++ h) :: t
/-- What stands between the bytes b, in order. -/
def splitB (b : UInt8) : List UInt8 → List (List UInt8)
  | [] => [[]]
  | c :: l => if c = b then [] :: splitB b l else addHead [c] (splitB b l)

theorem splitB_ne (b : UInt8) : ∀ l, splitB b l ≠ []
  | [] => by simp [splitB]
  | c :: l => by
    unfold splitB
    split
    · simp
    · cases splitB b l <;> simp [addHead]
theorem addHead_nil {x : List (List UInt8)} (h : x ≠ []) : addHead [] x = x := by cases x <;> simp_all [addHead]
theorem addHead_app (p q : List UInt8) (x : List (List UInt8)) : addHead (p ++ q) x = addHead p (addHead q x) := by cases x <;> simp [addHead]
theorem addHead_len (p : List UInt8) {x : List (List UInt8)} (h : x ≠ []) : (addHead p x).length = x.length := by cases x <;> simp_all [addHead]
theorem splitB_len (b : UInt8) : ∀ l, (splitB b l).length ≤ l.length + 1
  | [] => by simp [splitB]
  | c :: l => by
    have := splitB_len b l
    unfold splitB
    split
    · simp; omega
    · rw [addHead_len _ (splitB_ne b l)]; simp; omega

/-- Where the loop of the specification's Split stands: at k, the part under way begun at f, done the parts behind it. -/
def SplitAt (b : UInt8) (l : List UInt8) (k f : Nat) (done : List (List UInt8)) : Prop :=
  f ≤ k ∧ k ≤ l.length ∧ done ++ addHead ((l.drop f).take (k - f)) (splitB b (l.drop k)) = splitB b l

theorem SplitAt.start (b : UInt8) (l : List UInt8) : SplitAt b l 0 0 [] := ⟨Nat.le_refl _, Nat.zero_le _, by simp [addHead_nil (splitB_ne b l)]⟩
theorem SplitAt.len {b : UInt8} {l : List UInt8} {k f : Nat} {done : List (List UInt8)} (h : SplitAt b l k f done) : done.length ≤ l.length + 1 := by
  have h1 := splitB_len b l
  rw [← h.2.2] at h1
  simp at h1; omega
theorem part_grow (l : List UInt8) (k f : Nat) (hf : f ≤ k) (hk : k < l.length) : (l.drop f).take (k + 1 - f) = (l.drop f).take (k - f) ++ [l[k]] := by
  rw [show k + 1 - f = (k - f) + 1 by omega, List.take_succ_eq_append_getElem (by simp; omega)]
  simp [show f + (k - f) = k by omega]
theorem SplitAt.no {b : UInt8} {l : List UInt8} {k f : Nat} {done : List (List UInt8)} (h : SplitAt b l k f done) (hk : k < l.length) (hb : l[k] ≠ b) : SplitAt b l (k + 1) f done := by
  obtain ⟨h1, h2, h3⟩ := h
  refine ⟨by omega, hk, ?_⟩
  rw [List.drop_eq_getElem_cons hk, splitB, if_neg hb] at h3
  rw [part_grow l k f h1 hk, addHead_app]
  exact h3
theorem SplitAt.yes {b : UInt8} {l : List UInt8} {k f : Nat} {done : List (List UInt8)} (h : SplitAt b l k f done) (hk : k < l.length) (hb : l[k] = b) : SplitAt b l (k + 1) (k + 1) (done ++ [(l.drop f).take (k - f)]) := by
  obtain ⟨h1, h2, h3⟩ := h
  refine ⟨Nat.le_refl _, hk, ?_⟩
  rw [List.drop_eq_getElem_cons hk, splitB, if_pos hb] at h3
  simp [addHead] at h3
  simp [addHead_nil (splitB_ne b _), h3]
theorem SplitAt.fin {b : UInt8} {l : List UInt8} {k f : Nat} {done : List (List UInt8)} (h : SplitAt b l k f done) (hk : k = l.length) : done ++ [(l.drop f).take (k - f)] = splitB b l := by
  obtain ⟨h1, h2, h3⟩ := h
  rw [hk, List.drop_length] at h3
  rw [hk, ← h3]
  simp [splitB, addHead]

theorem splitB_no (b : UInt8) : ∀ l : List UInt8, (∀ k : Nat, l[k]? ≠ some b) → splitB b l = [l]
  | [], _ => rfl
  | c :: l, h => by
    have h0 : c ≠ b := fun e => h 0 (by simp [e])
    have hr := splitB_no b l fun k e => h (k + 1) (by simpa using e)
    simp [splitB, h0, hr, addHead]
theorem splitB_none {b : UInt8} {l : List UInt8} (h : indexByte l b = -1) : splitB b l = [l] := splitB_no b l fun k => indexByte_none h k
theorem splitB_at (b : UInt8) : ∀ (l : List UInt8) (i : Nat), l[i]? = some b → (∀ k : Nat, k < i → l[k]? ≠ some b) → splitB b l = l.take i :: splitB b (l.drop (i + 1))
  | [], i, h, _ => by simp at h
  | c :: l, 0, h, _ => by
    have : c = b := by simpa using h
    simp [splitB, this]
  | c :: l, i + 1, h, hn => by
    have h0 : c ≠ b := fun e => hn 0 (by omega) (by simp [e])
    have hr := splitB_at b l i (by simpa using h) fun k hk e => hn (k + 1) (by omega) (by simpa using e)
    simp [splitB, h0, hr, addHead]
theorem splitB_some {b : UInt8} {l : List UInt8} {i : Nat} (h : indexByte l b = i) : splitB b l = l.take i :: splitB b (l.drop (i + 1)) ∧ i < l.length := by
  obtain ⟨h1, h2⟩ := indexByte_some h
  exact ⟨splitB_at b l i h1 h2, by
    have := (List.getElem?_eq_some_iff.1 h1).1
    exact this⟩
end Go.Proofs.YtkbodiggdajbeaaGreatDoor

/- Plain facts on numerals with commas between, of no program. -/
namespace Go.Proofs.YtkbodiggdajbeaaGreatDoor
open Go.Lib

/-- The numerals of xs, commas between. -/
def numsB (xs : List Int) : List UInt8 := join (xs.map itoa) [44]

theorem join_snoc (l : List (List UInt8)) (x sep : List UInt8) (h : l ≠ []) : join (l ++ [x]) sep = join l sep ++ sep ++ x := by
  cases l with
  | nil => exact absurd rfl h
  | cons a l =>
    rw [List.cons_append, join_cons, join_cons]
    simp [joinTail]

theorem numsB_nil : numsB [] = [] := rfl
theorem numsB_first (x : Int) : numsB ([] ++ [x]) = itoa x := by simp [numsB, join_one]
theorem numsB_snoc (l : List Int) (x : Int) (h : l ≠ []) : numsB (l ++ [x]) = numsB l ++ [44] ++ itoa x := by
  unfold numsB
  rw [List.map_append, List.map_singleton, join_snoc _ _ _ (by simpa using h)]

/-- Each number is an int. -/
def In64s (xs : List Int) : Prop := ∀ x ∈ xs, -9223372036854775808 ≤ x ∧ x ≤ 9223372036854775807

theorem numsB_len : ∀ (n : Nat) (xs : List Int), xs.length = n → In64s xs → (numsB xs).length ≤ 22 * n
  | 0, xs, hn, _ => by rw [List.length_eq_zero_iff.1 hn]; simp [numsB_nil]
  | n + 1, xs, hn, h => by
    have hne : xs ≠ [] := fun e => by rw [e] at hn; simp at hn
    have e := List.dropLast_concat_getLast hne
    have hx := h _ (List.getLast_mem hne)
    have h1 := numsB_len n xs.dropLast (by simp; omega) (fun x hx => h x (List.dropLast_subset _ hx))
    have h2 := itoa_length_le _ hx.1 hx.2
    rw [← e]
    by_cases hd : xs.dropLast = []
    · rw [hd, numsB_first]; omega
    · rw [numsB_snoc _ _ hd]; simp; omega

theorem in64_at {xs : List Int} (h : In64s xs) (k : Nat) (hk : k < xs.length) : -9223372036854775808 ≤ xs.getD k 0 ∧ xs.getD k 0 ≤ 9223372036854775807 := by
  have := h xs[k] (List.getElem_mem hk)
  simpa [List.getD, hk] using this
theorem take_snocI {xs : List Int} {k : Nat} (h : k < xs.length) : xs.take (k + 1) = xs.take k ++ [xs.getD k 0] := by
  rw [List.take_succ_eq_append_getElem h]; simp [List.getD, h]
theorem in64_take {xs : List Int} (h : In64s xs) (k : Nat) : In64s (xs.take k) := fun x hx => h x (List.mem_of_mem_take hx)
end Go.Proofs.YtkbodiggdajbeaaGreatDoor

/- The texts of ops, programs and results, as data. No program. -/
namespace Go.Proofs.YtkbodiggdajbeaaGreatDoor
open Go.Lib

/-- The word of a kind. -/
def nameB (k : Int) : List UInt8 :=
  if k = 1 then [112, 117, 116] else if k = 2 then [115, 101, 116] else if k = 3 then [100, 101, 108] else if k = 4 then [103, 101, 116] else if k = 5 then [102, 105, 110, 100]
  else if k = 6 then [99, 111, 117, 110, 116] else if k = 7 then [115, 99, 97, 110] else if k = 8 then [111, 112, 101, 110] else if k = 9 then [109, 97, 107, 101] else if k = 10 then [118, 105, 97] else []
def noneB : List UInt8 := [110, 111, 110, 101]
/-- The kind has a key, or a class. -/
def HasK (kind : Int) : Prop := kind = 1 ∨ kind = 2 ∨ kind = 3 ∨ kind = 4 ∨ kind = 6
/-- The kind has something that is held. -/
def HasV (kind : Int) : Prop := kind = 1 ∨ kind = 2 ∨ kind = 5 ∨ kind = 10
instance (kind : Int) : Decidable (HasK kind) := by unfold HasK; infer_instance
instance (kind : Int) : Decidable (HasV kind) := by unfold HasV; infer_instance
/-- What stands behind the word of a kind. -/
def tailB (kind k v : Int) : List UInt8 := (if HasK kind then 32 :: itoa k else []) ++ (if HasV kind then 32 :: itoa v else [])
/-- The text of an op. -/
def opB (kind k v : Int) : List UInt8 := if OpGood kind k v then nameB kind ++ tailB kind k v else noneB
/-- Its words. -/
def opP (kind k v : Int) : List (List UInt8) := nameB kind :: ((if HasK kind then [itoa k] else []) ++ (if HasV kind then [itoa v] else []))
theorem itoa_small {k : Int} (h0 : 0 ≤ k) (h1 : k ≤ 6) : itoa k = [UInt8.ofNat (48 + k.toNat)] := by
  obtain ⟨n, rfl⟩ : ∃ n : Nat, k = (n : Int) := ⟨k.toNat, by omega⟩
  rw [itoa_nonneg, dec_small (by omega)]
  simp
theorem small_cases {k : Int} (h0 : 0 ≤ k) (h1 : k ≤ 6) : k = 0 ∨ k = 1 ∨ k = 2 ∨ k = 3 ∨ k = 4 ∨ k = 5 ∨ k = 6 := by omega
theorem itoa_inj {k k' : Int} (h0 : 0 ≤ k) (h1 : k ≤ 6) (h0' : 0 ≤ k') (h1' : k' ≤ 6) (h : itoa k = itoa k') : k = k' := by
  rw [itoa_small h0 h1, itoa_small h0' h1'] at h
  rcases small_cases h0 h1 with rfl | rfl | rfl | rfl | rfl | rfl | rfl <;> rcases small_cases h0' h1' with rfl | rfl | rfl | rfl | rfl | rfl | rfl <;> first | rfl | (revert h; decide)
theorem itoa_num {k : Int} (h0 : 0 ≤ k) (h1 : k ≤ 6) : Num (itoa k) ∧ (val (itoa k) : Int) = k := by
  rw [itoa_small h0 h1]
  rcases small_cases h0 h1 with rfl | rfl | rfl | rfl | rfl | rfl | rfl <;> refine ⟨⟨by decide, by decide, ?_, .inl (by decide)⟩, by decide⟩ <;> (intro c hc; simp at hc; subst hc; decide)
/-- The number of a text, or 0. -/
def NumIs (l : List UInt8) (x : Int) : Prop := (Num l ∧ x = (val l : Int)) ∨ (¬ Num l ∧ x = 0)
theorem NumIs.itoa {k x : Int} (h0 : 0 ≤ k) (h1 : k ≤ 6) (h : NumIs (itoa k) x) : x = k := by
  obtain ⟨h2, h3⟩ := itoa_num h0 h1
  rcases h with ⟨_, rfl⟩ | ⟨h4, _⟩
  · exact h3
  · exact absurd h2 h4
theorem good_small {kind k v : Int} (h : OpGood kind k v) : (1 ≤ kind ∧ kind ≤ 10) ∧ (0 ≤ k ∧ k ≤ 6) ∧ (0 ≤ v ∧ v ≤ 6) ∧ (¬ HasK kind → k = 0) ∧ (¬ HasV kind → v = 0) := by
  unfold OpGood KeyGood ValGood at h
  unfold HasK HasV
  omega
theorem name_split {kind : Int} (h : 1 ≤ kind ∧ kind ≤ 10) : splitB 32 (nameB kind) = [nameB kind] ∧ ∀ l, splitB 32 (nameB kind ++ 32 :: l) = nameB kind :: splitB 32 l := by
  rcases kinds h with rfl | rfl | rfl | rfl | rfl | rfl | rfl | rfl | rfl | rfl <;> (refine ⟨by decide, fun l => ?_⟩; simp [nameB, splitB, addHead])
theorem digit_split {k : Int} (h0 : 0 ≤ k) (h1 : k ≤ 6) : splitB 32 (itoa k) = [itoa k] ∧ ∀ l, splitB 32 (itoa k ++ 32 :: l) = itoa k :: splitB 32 l := by
  rw [itoa_small h0 h1]
  rcases small_cases h0 h1 with rfl | rfl | rfl | rfl | rfl | rfl | rfl <;> (refine ⟨by decide, fun l => ?_⟩; simp [splitB, addHead])
theorem op_split {kind k v : Int} (h : OpGood kind k v) : splitB 32 (opB kind k v) = opP kind k v := by
  obtain ⟨hk, ⟨k0, k1⟩, ⟨v0, v1⟩, _, _⟩ := good_small h
  unfold opB opP tailB
  rw [if_pos h]
  by_cases hK : HasK kind <;> by_cases hV : HasV kind <;> simp only [hK, hV, if_true, if_false, List.append_nil, List.nil_append]
  · rw [List.cons_append, (name_split hk).2, (digit_split k0 k1).2, (digit_split v0 v1).1]; rfl
  · rw [(name_split hk).2, (digit_split k0 k1).1]
  · rw [(name_split hk).2, (digit_split v0 v1).1]
  · exact (name_split hk).1
theorem name_inj {a b : Int} (ha : 1 ≤ a ∧ a ≤ 10) (hb : 1 ≤ b ∧ b ≤ 10) (h : nameB a = nameB b) : a = b := by
  rcases kinds ha with rfl | rfl | rfl | rfl | rfl | rfl | rfl | rfl | rfl | rfl <;> rcases kinds hb with rfl | rfl | rfl | rfl | rfl | rfl | rfl | rfl | rfl | rfl <;> first | rfl | (revert h; decide)
theorem op_inj {a b c a' b' c' : Int} (h : OpGood a b c) (h' : OpGood a' b' c') (e : opB a b c = opB a' b' c') : a = a' ∧ b = b' ∧ c = c' := by
  have e1 : opP a b c = opP a' b' c' := by rw [← op_split h, ← op_split h', e]
  obtain ⟨ka, ⟨k0, k1⟩, ⟨v0, v1⟩, nk, nv⟩ := good_small h
  obtain ⟨ka', ⟨k0', k1'⟩, ⟨v0', v1'⟩, nk', nv'⟩ := good_small h'
  unfold opP at e1
  rw [List.cons.injEq] at e1
  obtain ⟨en, et⟩ := e1
  obtain rfl := name_inj ka ka' en
  refine ⟨rfl, ?_⟩
  by_cases hK : HasK a <;> by_cases hV : HasV a <;> simp only [hK, hV, if_true, if_false, List.append_nil, List.nil_append, List.cons_append, List.cons.injEq, and_true] at et
  · exact ⟨itoa_inj k0 k1 k0' k1' et.1, itoa_inj v0 v1 v0' v1' et.2⟩
  · exact ⟨itoa_inj k0 k1 k0' k1' et, (nv hV).trans (nv' hV).symm⟩
  · exact ⟨(nk hK).trans (nk' hK).symm, itoa_inj v0 v1 v0' v1' et⟩
  · exact ⟨(nk hK).trans (nk' hK).symm, (nv hV).trans (nv' hV).symm⟩
/-- What is read of a text. -/
def ReadO (l : List UInt8) (a b c : Int) (ok : Bool) : Prop :=
  (ok = true ∧ OpGood a b c ∧ opB a b c = l) ∨ (ok = false ∧ a = 0 ∧ b = 0 ∧ c = 0 ∧ ∀ a' b' c', OpGood a' b' c' → opB a' b' c' ≠ l)
theorem ReadO.one {l : List UInt8} {a b c a' b' c' : Int} {ok ok' : Bool} (h : ReadO l a b c ok) (h' : ReadO l a' b' c' ok') : a = a' ∧ b = b' ∧ c = c' ∧ ok = ok' := by
  rcases h with ⟨rfl, h1, h2⟩ | ⟨rfl, rfl, rfl, rfl, h1⟩ <;> rcases h' with ⟨rfl, k1, k2⟩ | ⟨rfl, rfl, rfl, rfl, k1⟩
  · obtain ⟨e1, e2, e3⟩ := op_inj h1 k1 (h2.trans k2.symm)
    exact ⟨e1, e2, e3, rfl⟩
  · exact absurd h2 (k1 _ _ _ h1)
  · exact absurd k2 (h1 _ _ _ k1)
  · exact ⟨rfl, rfl, rfl, rfl⟩
/-- The text of a program. -/
def progB (ops : List (Int × Int × Int)) : List UInt8 := join (ops.map fun o => opB o.1 o.2.1 o.2.2) [59]
/-- The text of a result. -/
def codeB (code : Int) : List UInt8 :=
  if code = 0 then [100, 111, 110, 101] else if code = 1 then [116, 104, 101, 114, 101] else if code = 2 then [116, 97, 107, 101, 110] else if code = 3 then [110, 111, 110, 101] else if code = 4 then [110, 111, 116] else [119, 104, 97, 116]
def resB (code : Int) (xs : List Int) : List UInt8 := if xs = [] then codeB code else codeB code ++ 32 :: numsB xs
end Go.Proofs.YtkbodiggdajbeaaGreatDoor

/- Plain facts on texts as values, of no program. -/
namespace Go.Proofs.YtkbodiggdajbeaaGreatDoor

theorem str_eq {a b : ByteArray} (h : a.data.toList = b.data.toList) : a = b := by
  cases a; cases b; simp_all
theorem ret_str {a b : ByteArray} (h : a.data.toList = b.data.toList) : Ending.returned (.string a) = .returned (.string b) := by rw [str_eq h]
/-- A text as a value. -/
abbrev S (l : List UInt8) : Value := .string ⟨l.toArray⟩
theorem str_S (s : ByteArray) : Value.string s = S s.data.toList := by cases s; simp
theorem neq_S (a b : List UInt8) : (!(⟨a.toArray⟩ : ByteArray).toList == (⟨b.toArray⟩ : ByteArray).toList) = decide (a ≠ b) := by
  simp only [ByteArray.toList_eq]
  by_cases h : a = b <;> simp [h]
end Go.Proofs.YtkbodiggdajbeaaGreatDoor

/- What a text answers; one text behind the other. No program. -/
namespace Go.Proofs.YtkbodiggdajbeaaGreatDoor
open Go.ChangeShapes Go.WideShapes Go.RowKit

/-- The answer is that text. -/
def TextSays (e : Ending) (l : List UInt8) : Prop := ∃ s : ByteArray, e = .returned (.string s) ∧ s.data.toList = l
theorem cat_run {P : Program} (t : TypeId) (a b u : ByteArray) (hu : a ++ b = u) (h : a.size + b.size ≤ 281474976710656) (w : World) : (binOp .add t (.string a) (.string b)).run P w = .ok (.string u) w := by
  subst hu
  simp [binOp, run_string_add_sum w a b (by omega)]
theorem cat_ex (a b : ByteArray) : ∃ u, a ++ b = u ∧ u.data.toList = a.data.toList ++ b.data.toList ∧ u.size = a.size + b.size := ⟨_, rfl, by simp, by simp⟩
end Go.Proofs.YtkbodiggdajbeaaGreatDoor

/- A word as it is written. No program. -/
namespace Go.Proofs.YtkbodiggdajbeaaGreatDoor
open Go.Lib

/-- One less, as the machine reckons. -/
def dec64 (t : Int) : Int := if t = -9223372036854775808 then 9223372036854775807 else t - 1
def wordB (n t q : Int) : List UInt8 := if t = 0 then itoa n else 42 :: (itoa (dec64 t) ++ 46 :: itoa q)
def I64 (x : Int) : Prop := -9223372036854775808 ≤ x ∧ x ≤ 9223372036854775807
theorem dec_i64 {t : Int} (h : I64 t) : I64 (dec64 t) := by
  unfold I64 dec64 at *
  split <;> omega
theorem szS (s : ByteArray) {l : List UInt8} (h : s.data.toList = l) : s.size = l.length := by rw [← h]; simp
theorem itoa_le {x : Int} (h : I64 x) : (itoa x).length ≤ 21 := itoa_length_le x h.1 h.2
end Go.Proofs.YtkbodiggdajbeaaGreatDoor

/- Small facts on lists that a call owns, of no program. -/
namespace Go.Proofs.YtkbodiggdajbeaaGreatDoor
open Go.RowKit

theorem owns_below {w w' : World} {base : Nat} {e : TypeId} {size : Nat} {v : Value} {n : Nat} {xs : List Value} (h : w.ownsRow base e size v n xs) {B : Nat} (hb : Below B w w') (hB : w.heap.size ≤ B) : w'.ownsRow base e size v n xs := by
  obtain ⟨h1, h2 | ⟨g, cap, cur, h3, h4, h5, h6⟩⟩ := h
  · exact ⟨h1, .inl h2⟩
  · refine ⟨h1, .inr ⟨g, cap, cur, h3, h4, ?_, h6⟩⟩
    have := (Array.getElem?_eq_some_iff.1 h5).1
    rw [hb.block g (by omega)]
    exact h5

theorem own_cell {w : World} {base : Nat} {e : TypeId} {g n cap j : Nat} {xs : List Value} (h : w.ownsRow base e 1 (.slice (some ⟨g, 0, none⟩) n cap) n xs) (hj : j < n) : ∃ u, w.cell? ⟨g, j, none⟩ = some u := by
  have h1 := h.cellAt j (by omega)
  have h2 : j < xs.length := by rw [h.1]; omega
  exact ⟨xs[j], by rw [h1, List.getElem?_eq_getElem h2]⟩

theorem own_base {w : World} {base : Nat} {e : TypeId} {g n cap : Nat} {xs : List Value} (h : w.ownsRow base e 1 (.slice (some ⟨g, 0, none⟩) n cap) n xs) : base ≤ g ∧ g < w.heap.size := h.lt g rfl
end Go.Proofs.YtkbodiggdajbeaaGreatDoor

/- Small facts on lists of numbers in memory. -/
namespace Go.Proofs.YtkbodiggdajbeaaGreatDoor
open Go.ChangeShapes Go.WideShapes Go.ChangeAt Go.RowKit

/-- A number as a value. -/
abbrev I (x : Int) : Value := .int .i64 x
/-- The slice of address a and length n holds the numbers xs. -/
def IntAt (w : World) (a : Option Addr) (n : Nat) (xs : List Int) : Prop :=
  xs.length = n ∧ n ≤ 1099511627776 ∧ (n = 0 ∨ ∃ b o, a = some ⟨b, o, none⟩ ∧ ∀ i, i < n → w.cell? ⟨b, o + i, none⟩ = some (I (xs.getD i 0)))

theorem IntAt.below {w w' : World} {a : Option Addr} {n : Nat} {xs : List Int} (h : IntAt w a n xs) {B : Nat} (hb : Below B w w') (hB : w.heap.size ≤ B) : IntAt w' a n xs := by
  obtain ⟨h1, h2, h3 | ⟨b, o, h3, h4⟩⟩ := h
  · exact ⟨h1, h2, .inl h3⟩
  · refine ⟨h1, h2, .inr ⟨b, o, h3, fun i hi => ?_⟩⟩
    have h5 := h4 i hi
    have h6 := World.block_lt_of_cell? w _ h5
    rw [hb.cell (show _ < B from Nat.lt_of_lt_of_le h6 hB)]
    exact h5
theorem own_intAt {w : World} {base : Nat} {e : TypeId} {g n cap : Nat} {xs : List Int} (h : w.ownsRow base e 1 (.slice (some ⟨g, 0, none⟩) n cap) n (xs.map I)) (hn : n ≤ 1099511627776) : IntAt w (some ⟨g, 0, none⟩) n xs := by
  have hl : xs.length = n := by have := h.1; simpa using this
  refine ⟨hl, hn, .inr ⟨g, 0, rfl, fun i hi => ?_⟩⟩
  rw [Nat.zero_add, h.cellAt i (by omega), List.getElem?_map, List.getElem?_eq_getElem (by omega)]
  simp [List.getD, show i < xs.length by omega]

theorem take_nextI {xs ys : List Int} {k : Nat} (hx : k < xs.length) (hy : k < ys.length) (h : xs.take k = ys.take k) (e : xs.getD k 0 = ys.getD k 0) : xs.take (k + 1) = ys.take (k + 1) := by
  have e' : xs[k] = ys[k] := by simpa [List.getD, hx, hy] using e
  rw [List.take_succ_eq_append_getElem hx, List.take_succ_eq_append_getElem hy, h, e']

theorem infoInt : (Tryz.prog.info? 3).map (fun i => (i.zero, i.size, i.bytes)) = some (some (.int .i64 0), 1, 8) := by kernel_rfl
end Go.Proofs.YtkbodiggdajbeaaGreatDoor

/- Lists of three numbers each (entries, words), as they lie in memory, number by number. -/
namespace Go.Proofs.YtkbodiggdajbeaaGreatDoor
open Go.ChangeShapes Go.WideShapes Go.ChangeAt Go.RowKit Go.Joins

theorem below_drewN6 {B : Nat} {w w' : World} (h : Below B w w') : ∀ n, Below B w (w'.drewN n)
  | 0 => h
  | n + 1 => by
    have := (below_drewN6 h n).drew
    exact this
/-- n threes lie there: 3 * n numbers. -/
def TripAt (w : World) (a : Option Addr) (n : Nat) (fs : List Int) : Prop :=
  fs.length = n * 3 ∧ n ≤ 1048576 ∧ (n = 0 ∨ ∃ b o, a = some ⟨b, o, none⟩ ∧ ∀ i, i < n * 3 → w.cell? ⟨b, o + i, none⟩ = some (I (fs.getD i 0)))
theorem TripAt.below {w w' : World} {a : Option Addr} {n : Nat} {fs : List Int} (h : TripAt w a n fs) {B : Nat} (hb : Below B w w') (hB : w.heap.size ≤ B) : TripAt w' a n fs := by
  obtain ⟨h1, h2, h3 | ⟨b, o, h3, h4⟩⟩ := h
  · exact ⟨h1, h2, .inl h3⟩
  · refine ⟨h1, h2, .inr ⟨b, o, h3, fun i hi => ?_⟩⟩
    have h5 := h4 i hi
    rw [hb.cell (show b < B from Nat.lt_of_lt_of_le (World.block_lt_of_cell? w _ h5) hB)]
    exact h5
theorem own_tripAt {w : World} {base : Nat} {e : TypeId} {g n cap : Nat} {fs : List Int} (h : w.ownsRow base e 3 (.slice (some ⟨g, 0, none⟩) n cap) n (fs.map I)) (hn : n ≤ 1048576) : TripAt w (some ⟨g, 0, none⟩) n fs := by
  have hl : fs.length = n * 3 := by have := h.1; simpa using this
  refine ⟨hl, hn, .inr ⟨g, 0, rfl, fun i hi => ?_⟩⟩
  rw [Nat.zero_add, h.cellAt i (by omega), List.getElem?_map, List.getElem?_eq_getElem (by omega)]
  simp [List.getD, show i < fs.length by omega]
/-- What has been laid of fs, nought behind it. -/
def uptoT (fs : List Int) (k n : Nat) : List Int := fs.take k ++ List.replicate (n - k) 0
theorem uptoT_step {fs : List Int} {k n : Nat} (hx : fs.length = n) (h : k < n) : (((uptoT fs k n).map I).set k (I (fs.getD k 0))) = (uptoT fs (k + 1) n).map I := by
  rw [← List.map_set]
  congr 1
  unfold uptoT
  have hl : (fs.take k).length = k := by rw [List.length_take]; omega
  rw [List.set_append_right _ _ (by omega), hl, Nat.sub_self, show n - k = (n - (k + 1)) + 1 by omega, List.replicate_succ, List.set_cons_zero,
    List.take_succ_eq_append_getElem (show k < fs.length by omega), List.append_assoc]
  simp [List.getD, show k < fs.length by omega]
theorem uptoT_end {fs : List Int} {n : Nat} (hx : fs.length = n) : uptoT fs n n = fs := by
  unfold uptoT
  rw [List.take_of_length_le (by omega)]; simp
theorem made_trips (n : Nat) : (madeCells (Value.agg #[.int .i64 0, .int .i64 0, .int .i64 0]).cells n).toList = List.replicate n (Value.int .i64 0) := by
  apply List.ext_getElem?
  intro j
  by_cases hj : j < n
  · have h2 : j % 3 = 0 ∨ j % 3 = 1 ∨ j % 3 = 2 := by omega
    rcases h2 with h2 | h2 | h2 <;> simp [madeCells, hj, Value.cells, h2]
  · simp [madeCells, hj]
theorem take_three {fs gs : List Int} {k : Nat} (hf : k * 3 + 2 < fs.length) (hg : k * 3 + 2 < gs.length) (h : fs.take (k * 3) = gs.take (k * 3)) (e1 : fs.getD (k * 3) 0 = gs.getD (k * 3) 0) (e2 : fs.getD (k * 3 + 1) 0 = gs.getD (k * 3 + 1) 0) (e3 : fs.getD (k * 3 + 2) 0 = gs.getD (k * 3 + 2) 0) : fs.take ((k + 1) * 3) = gs.take ((k + 1) * 3) := by
  rw [show (k + 1) * 3 = k * 3 + 1 + 1 + 1 by omega]
  exact take_nextI (by omega) (by omega) (take_nextI (by omega) (by omega) (take_nextI (by omega) (by omega) h e1) e2) e3

/-- The numbers of threes, one behind the other. -/
def flat3 (f : Nat → Int × Int × Int) (n : Nat) : List Int := (List.range n).flatMap fun i => [(f i).1, (f i).2.1, (f i).2.2]
theorem flat3_succ (f : Nat → Int × Int × Int) (n : Nat) : flat3 f (n + 1) = flat3 f n ++ [(f n).1, (f n).2.1, (f n).2.2] := by
  unfold flat3; rw [List.range_succ, List.flatMap_append]; simp
theorem flat3_len (f : Nat → Int × Int × Int) (n : Nat) : (flat3 f n).length = n * 3 := by
  induction n with
  | zero => rfl
  | succ n ih => rw [flat3_succ, List.length_append, ih]; simp; omega
theorem flat3_at (f : Nat → Int × Int × Int) (n : Nat) : ∀ i, i < n → (flat3 f n).getD (i * 3) 0 = (f i).1 ∧ (flat3 f n).getD (i * 3 + 1) 0 = (f i).2.1 ∧ (flat3 f n).getD (i * 3 + 2) 0 = (f i).2.2 := by
  induction n with
  | zero => intro i hi; omega
  | succ n ih =>
    intro i hi
    have hl := flat3_len f n
    rw [flat3_succ]
    simp only [List.getD_eq_getElem?_getD] at ih ⊢
    by_cases h : i < n
    · rw [List.getElem?_append_left (by omega), List.getElem?_append_left (by omega), List.getElem?_append_left (by omega)]
      exact ih i h
    · obtain rfl : i = n := by omega
      rw [List.getElem?_append_right (by omega), List.getElem?_append_right (by omega), List.getElem?_append_right (by omega), hl, Nat.sub_self, show i * 3 + 1 - i * 3 = 1 by omega, show i * 3 + 2 - i * 3 = 2 by omega]
      exact ⟨rfl, rfl, rfl⟩
theorem flat3_mem {f : Nat → Int × Int × Int} {n : Nat} {P : Int → Prop} (h : ∀ i, i < n → P (f i).1 ∧ P (f i).2.1 ∧ P (f i).2.2) : ∀ x ∈ flat3 f n, P x := by
  intro x hx
  unfold flat3 at hx
  obtain ⟨i, hi, hx⟩ := List.mem_flatMap.1 hx
  have := h i (List.mem_range.1 hi)
  simp only [List.mem_cons, List.not_mem_nil, or_false] at hx
  rcases hx with rfl | rfl | rfl
  · exact this.1
  · exact this.2.1
  · exact this.2.2

set_option maxRecDepth 100000 in
/-- A list of structs of three ints that came in, by its cells, opened. -/
theorem open_trips {H : Type} {enc : TypeId × Value → H} {W : World} {base : Nat} {held : Bool} {t e : TypeId} {f0 f1 f2 : Field} {fuel : Nat} {v : Value} {x : DataW H × List MemPlace}
    (ht : Tryz.prog.underlying t = some (.slice e)) (he : Tryz.prog.underlying e = some (.struct #[f0, f1, f2])) (ce : Tryz.prog.cellsOf e = 3) (o0 : f0.offset = 0) (o1 : f1.offset = 1) (o2 : f2.offset = 2)
    (c0 : Tryz.prog.cellsOf f0.type = 1) (c1 : Tryz.prog.cellsOf f1.type = 1) (c2 : Tryz.prog.cellsOf f2.type = 1) (i0 : Tryz.prog.underlying f0.type = some (.int .i64)) (i1 : Tryz.prog.underlying f1.type = some (.int .i64)) (i2 : Tryz.prog.underlying f2.type = some (.int .i64))
    (h : DataW.trod enc Tryz.prog W base (fun _ => true) held fuel t [v] = some x) :
    ∃ (a : Option Addr) (n c : Nat) (fs : List Int), v = .slice a n c ∧ n ≤ 9223372036854775807 ∧ (∀ x ∈ fs, (Lit.int .i64 x).wf = true) ∧ (n ≤ 1048576 → TripAt W a n fs) := by
  rcases Go.Deep.open_slice ht h with ⟨hcs, _⟩ | ⟨a, len, cap, m, k, D, Pl, hcs, hb, hl, hm, hmm, _, hx⟩
  · obtain rfl : v = .slice none 0 0 := by simpa using hcs
    exact ⟨none, 0, 0, [], rfl, by omega, fun x hx => by simp at hx, fun _ => ⟨rfl, by omega, .inl rfl⟩⟩
  · obtain rfl : v = .slice (some a) len cap := by simpa using hcs
    have hlm : len ≤ m := by rw [hmm]; split <;> omega
    have each : ∀ i, i < len → ∃ z : Int × Int × Int, W.cell? (a.add (i * 3)) = some (I z.1) ∧ W.cell? (a.add (i * 3 + 1)) = some (I z.2.1) ∧ W.cell? (a.add (i * 3 + 2)) = some (I z.2.2) ∧ (Lit.int .i64 z.1).wf = true ∧ (Lit.int .i64 z.2.1).wf = true ∧ (Lit.int .i64 z.2.2).wf = true := by
      intro i hi
      obtain ⟨cs', h1, h2⟩ := hx i (by omega)
      rw [ce] at h1
      obtain ⟨_, hlen, hcell⟩ := World.cells?_some h1
      obtain ⟨xs, k', hk, hxy, _, hxl, hf⟩ := DataW.trod_struct he h2
      match xs, hxl, cs', hlen with
      | [y0, y1, y2], _, [v0, v1, v2], _ =>
        have g0 := hf 0 f0 rfl
        have g1 := hf 1 f1 rfl
        have g2 := hf 2 f2 rfl
        simp [o0, o1, o2, c0, c1, c2] at g0 g1 g2
        have e0 := hcell 0 (by omega)
        have e1 := hcell 1 (by omega)
        have e2 := hcell 2 (by omega)
        rw [Go.Deep.add_add] at e0 e1 e2
        obtain ⟨z0, q0, _, w0⟩ := DataW.trod_int i0 g0
        obtain ⟨z1, q1, _, w1⟩ := DataW.trod_int i1 g1
        obtain ⟨z2, q2, _, w2⟩ := DataW.trod_int i2 g2
        obtain rfl : v0 = I z0 := by simpa using q0
        obtain rfl : v1 = I z1 := by simpa using q1
        obtain rfl : v2 = I z2 := by simpa using q2
        exact ⟨(z0, z1, z2), by simpa using e0, by simpa using e1, by simpa using e2, w0, w1, w2⟩
    obtain ⟨z, hz⟩ := Go.Deep.choose_lt each
    have hL := flat3_len z len
    have hAt := flat3_at z len
    refine ⟨some a, len, cap, flat3 z len, rfl, by unfold maxLen at hm; omega, flat3_mem fun i hi => ⟨(hz i hi).2.2.2.1, (hz i hi).2.2.2.2.1, (hz i hi).2.2.2.2.2⟩, fun hn => ⟨hL, hn, ?_⟩⟩
    by_cases h0 : len = 0
    · exact .inl h0
    · have hcells : ∀ i, i < (flat3 z len).length → W.cell? (a.add i) = some (.int .i64 ((flat3 z len).getD i 0)) := fun i hi => by
        rw [hL] at hi
        obtain ⟨c0, c1, c2, _⟩ := hz (i / 3) (by omega)
        have q := hAt (i / 3) (by omega)
        rcases (show i % 3 = 0 ∨ i % 3 = 1 ∨ i % 3 = 2 by omega) with e | e | e
        · have e' : i = i / 3 * 3 := by omega
          rw [e', c0, q.1]
        · have e' : i = i / 3 * 3 + 1 := by omega
          rw [e', c1, q.2.1]
        · have e' : i = i / 3 * 3 + 2 := by omega
          rw [e', c2, q.2.2]
      obtain ⟨b, o, rfl, hc⟩ := ints_at hcells (by omega)
      exact .inr ⟨b, o, rfl, fun i hi => hc i (by omega)⟩
end Go.Proofs.YtkbodiggdajbeaaGreatDoor

/- Lists of four numbers each (helps), as they lie in memory, number by number. -/
namespace Go.Proofs.YtkbodiggdajbeaaGreatDoor
open Go.ChangeShapes Go.WideShapes Go.ChangeAt Go.RowKit Go.Joins

/-- n fours lie there: 4 * n numbers. -/
def QuadAt (w : World) (a : Option Addr) (n : Nat) (fs : List Int) : Prop :=
  fs.length = n * 4 ∧ n ≤ 1048576 ∧ (n = 0 ∨ ∃ b o, a = some ⟨b, o, none⟩ ∧ ∀ i, i < n * 4 → w.cell? ⟨b, o + i, none⟩ = some (I (fs.getD i 0)))
theorem QuadAt.below {w w' : World} {a : Option Addr} {n : Nat} {fs : List Int} (h : QuadAt w a n fs) {B : Nat} (hb : Below B w w') (hB : w.heap.size ≤ B) : QuadAt w' a n fs := by
  obtain ⟨h1, h2, h3 | ⟨b, o, h3, h4⟩⟩ := h
  · exact ⟨h1, h2, .inl h3⟩
  · refine ⟨h1, h2, .inr ⟨b, o, h3, fun i hi => ?_⟩⟩
    have h5 := h4 i hi
    rw [hb.cell (show b < B from Nat.lt_of_lt_of_le (World.block_lt_of_cell? w _ h5) hB)]
    exact h5
theorem own_quadAt {w : World} {base : Nat} {e : TypeId} {g n cap : Nat} {fs : List Int} (h : w.ownsRow base e 4 (.slice (some ⟨g, 0, none⟩) n cap) n (fs.map I)) (hn : n ≤ 1048576) : QuadAt w (some ⟨g, 0, none⟩) n fs := by
  have hl : fs.length = n * 4 := by have := h.1; simpa using this
  refine ⟨hl, hn, .inr ⟨g, 0, rfl, fun i hi => ?_⟩⟩
  rw [Nat.zero_add, h.cellAt i (by omega), List.getElem?_map, List.getElem?_eq_getElem (by omega)]
  simp [List.getD, show i < fs.length by omega]
theorem made_quads (n : Nat) : (madeCells (Value.agg #[.int .i64 0, .int .i64 0, .int .i64 0, .int .i64 0]).cells n).toList = List.replicate n (Value.int .i64 0) := by
  apply List.ext_getElem?
  intro j
  by_cases hj : j < n
  · have h2 : j % 4 = 0 ∨ j % 4 = 1 ∨ j % 4 = 2 ∨ j % 4 = 3 := by omega
    rcases h2 with h2 | h2 | h2 | h2 <;> simp [madeCells, hj, Value.cells, h2]
  · simp [madeCells, hj]
theorem take_four {fs gs : List Int} {k : Nat} (hf : k * 4 + 3 < fs.length) (hg : k * 4 + 3 < gs.length) (h : fs.take (k * 4) = gs.take (k * 4)) (e1 : fs.getD (k * 4) 0 = gs.getD (k * 4) 0) (e2 : fs.getD (k * 4 + 1) 0 = gs.getD (k * 4 + 1) 0) (e3 : fs.getD (k * 4 + 2) 0 = gs.getD (k * 4 + 2) 0) (e4 : fs.getD (k * 4 + 3) 0 = gs.getD (k * 4 + 3) 0) : fs.take ((k + 1) * 4) = gs.take ((k + 1) * 4) := by
  rw [show (k + 1) * 4 = k * 4 + 1 + 1 + 1 + 1 by omega]
  exact take_nextI (by omega) (by omega) (take_nextI (by omega) (by omega) (take_nextI (by omega) (by omega) (take_nextI (by omega) (by omega) h e1) e2) e3) e4

/-- The numbers of fours, one behind the other. -/
def flat4 (f : Nat → Int × Int × Int × Int) (n : Nat) : List Int := (List.range n).flatMap fun i => [(f i).1, (f i).2.1, (f i).2.2.1, (f i).2.2.2]
theorem flat4_succ (f : Nat → Int × Int × Int × Int) (n : Nat) : flat4 f (n + 1) = flat4 f n ++ [(f n).1, (f n).2.1, (f n).2.2.1, (f n).2.2.2] := by
  unfold flat4; rw [List.range_succ, List.flatMap_append]; simp
theorem flat4_len (f : Nat → Int × Int × Int × Int) (n : Nat) : (flat4 f n).length = n * 4 := by
  induction n with
  | zero => rfl
  | succ n ih => rw [flat4_succ, List.length_append, ih]; simp; omega
theorem flat4_at (f : Nat → Int × Int × Int × Int) (n : Nat) : ∀ i, i < n → (flat4 f n).getD (i * 4) 0 = (f i).1 ∧ (flat4 f n).getD (i * 4 + 1) 0 = (f i).2.1 ∧ (flat4 f n).getD (i * 4 + 2) 0 = (f i).2.2.1 ∧ (flat4 f n).getD (i * 4 + 3) 0 = (f i).2.2.2 := by
  induction n with
  | zero => intro i hi; omega
  | succ n ih =>
    intro i hi
    have hl := flat4_len f n
    rw [flat4_succ]
    simp only [List.getD_eq_getElem?_getD] at ih ⊢
    by_cases h : i < n
    · rw [List.getElem?_append_left (by omega), List.getElem?_append_left (by omega), List.getElem?_append_left (by omega), List.getElem?_append_left (by omega)]
      exact ih i h
    · obtain rfl : i = n := by omega
      rw [List.getElem?_append_right (by omega), List.getElem?_append_right (by omega), List.getElem?_append_right (by omega), List.getElem?_append_right (by omega), hl, Nat.sub_self, show i * 4 + 1 - i * 4 = 1 by omega, show i * 4 + 2 - i * 4 = 2 by omega, show i * 4 + 3 - i * 4 = 3 by omega]
      exact ⟨rfl, rfl, rfl, rfl⟩
theorem flat4_mem {f : Nat → Int × Int × Int × Int} {n : Nat} {P : Int → Prop} (h : ∀ i, i < n → P (f i).1 ∧ P (f i).2.1 ∧ P (f i).2.2.1 ∧ P (f i).2.2.2) : ∀ x ∈ flat4 f n, P x := by
  intro x hx
  unfold flat4 at hx
  obtain ⟨i, hi, hx⟩ := List.mem_flatMap.1 hx
  have := h i (List.mem_range.1 hi)
  simp only [List.mem_cons, List.not_mem_nil, or_false] at hx
  rcases hx with rfl | rfl | rfl | rfl
  · exact this.1
  · exact this.2.1
  · exact this.2.2.1
  · exact this.2.2.2

set_option maxRecDepth 100000 in
/-- A list of structs of four ints that came in, by its cells, opened. -/
theorem open_quads {H : Type} {enc : TypeId × Value → H} {W : World} {base : Nat} {held : Bool} {t e : TypeId} {f0 f1 f2 f3 : Field} {fuel : Nat} {v : Value} {x : DataW H × List MemPlace}
    (ht : Tryz.prog.underlying t = some (.slice e)) (he : Tryz.prog.underlying e = some (.struct #[f0, f1, f2, f3])) (ce : Tryz.prog.cellsOf e = 4) (o0 : f0.offset = 0) (o1 : f1.offset = 1) (o2 : f2.offset = 2) (o3 : f3.offset = 3)
    (c0 : Tryz.prog.cellsOf f0.type = 1) (c1 : Tryz.prog.cellsOf f1.type = 1) (c2 : Tryz.prog.cellsOf f2.type = 1) (c3 : Tryz.prog.cellsOf f3.type = 1) (i0 : Tryz.prog.underlying f0.type = some (.int .i64)) (i1 : Tryz.prog.underlying f1.type = some (.int .i64)) (i2 : Tryz.prog.underlying f2.type = some (.int .i64)) (i3 : Tryz.prog.underlying f3.type = some (.int .i64))
    (h : DataW.trod enc Tryz.prog W base (fun _ => true) held fuel t [v] = some x) :
    ∃ (a : Option Addr) (n c : Nat) (fs : List Int), v = .slice a n c ∧ n ≤ 9223372036854775807 ∧ (∀ x ∈ fs, (Lit.int .i64 x).wf = true) ∧ (n ≤ 1048576 → QuadAt W a n fs) := by
  rcases Go.Deep.open_slice ht h with ⟨hcs, _⟩ | ⟨a, len, cap, m, k, D, Pl, hcs, hb, hl, hm, hmm, _, hx⟩
  · obtain rfl : v = .slice none 0 0 := by simpa using hcs
    exact ⟨none, 0, 0, [], rfl, by omega, fun x hx => by simp at hx, fun _ => ⟨rfl, by omega, .inl rfl⟩⟩
  · obtain rfl : v = .slice (some a) len cap := by simpa using hcs
    have hlm : len ≤ m := by rw [hmm]; split <;> omega
    have each : ∀ i, i < len → ∃ z : Int × Int × Int × Int, W.cell? (a.add (i * 4)) = some (I z.1) ∧ W.cell? (a.add (i * 4 + 1)) = some (I z.2.1) ∧ W.cell? (a.add (i * 4 + 2)) = some (I z.2.2.1) ∧ W.cell? (a.add (i * 4 + 3)) = some (I z.2.2.2) ∧ (Lit.int .i64 z.1).wf = true ∧ (Lit.int .i64 z.2.1).wf = true ∧ (Lit.int .i64 z.2.2.1).wf = true ∧ (Lit.int .i64 z.2.2.2).wf = true := by
      intro i hi
      obtain ⟨cs', h1, h2⟩ := hx i (by omega)
      rw [ce] at h1
      obtain ⟨_, hlen, hcell⟩ := World.cells?_some h1
      obtain ⟨xs, k', hk, hxy, _, hxl, hf⟩ := DataW.trod_struct he h2
      match xs, hxl, cs', hlen with
      | [y0, y1, y2, y3], _, [v0, v1, v2, v3], _ =>
        have g0 := hf 0 f0 rfl
        have g1 := hf 1 f1 rfl
        have g2 := hf 2 f2 rfl
        have g3 := hf 3 f3 rfl
        simp [o0, o1, o2, o3, c0, c1, c2, c3] at g0 g1 g2 g3
        have e0 := hcell 0 (by omega)
        have e1 := hcell 1 (by omega)
        have e2 := hcell 2 (by omega)
        have e3 := hcell 3 (by omega)
        rw [Go.Deep.add_add] at e0 e1 e2 e3
        obtain ⟨z0, q0, _, w0⟩ := DataW.trod_int i0 g0
        obtain ⟨z1, q1, _, w1⟩ := DataW.trod_int i1 g1
        obtain ⟨z2, q2, _, w2⟩ := DataW.trod_int i2 g2
        obtain ⟨z3, q3, _, w3⟩ := DataW.trod_int i3 g3
        obtain rfl : v0 = I z0 := by simpa using q0
        obtain rfl : v1 = I z1 := by simpa using q1
        obtain rfl : v2 = I z2 := by simpa using q2
        obtain rfl : v3 = I z3 := by simpa using q3
        exact ⟨(z0, z1, z2, z3), by simpa using e0, by simpa using e1, by simpa using e2, by simpa using e3, w0, w1, w2, w3⟩
    obtain ⟨z, hz⟩ := Go.Deep.choose_lt each
    have hL := flat4_len z len
    have hAt := flat4_at z len
    refine ⟨some a, len, cap, flat4 z len, rfl, by unfold maxLen at hm; omega, flat4_mem fun i hi => ⟨(hz i hi).2.2.2.2.1, (hz i hi).2.2.2.2.2.1, (hz i hi).2.2.2.2.2.2.1, (hz i hi).2.2.2.2.2.2.2⟩, fun hn => ⟨hL, hn, ?_⟩⟩
    by_cases h0 : len = 0
    · exact .inl h0
    · have hcells : ∀ i, i < (flat4 z len).length → W.cell? (a.add i) = some (.int .i64 ((flat4 z len).getD i 0)) := fun i hi => by
        rw [hL] at hi
        obtain ⟨c0, c1, c2, c3, _⟩ := hz (i / 4) (by omega)
        have q := hAt (i / 4) (by omega)
        rcases (show i % 4 = 0 ∨ i % 4 = 1 ∨ i % 4 = 2 ∨ i % 4 = 3 by omega) with e | e | e | e
        · have e' : i = i / 4 * 4 := by omega
          rw [e', c0, q.1]
        · have e' : i = i / 4 * 4 + 1 := by omega
          rw [e', c1, q.2.1]
        · have e' : i = i / 4 * 4 + 2 := by omega
          rw [e', c2, q.2.2.1]
        · have e' : i = i / 4 * 4 + 3 := by omega
          rw [e', c3, q.2.2.2]
      obtain ⟨b, o, rfl, hc⟩ := ints_at hcells (by omega)
      exact .inr ⟨b, o, rfl, fun i hi => hc i (by omega)⟩
end Go.Proofs.YtkbodiggdajbeaaGreatDoor

/- A block of cells that may all be written, as one fact: what it reads as, what keeps it, what a store into it makes of it; of no program. -/
namespace Go.Proofs.YtkbodiggdajbeaaGreatDoor
open Go.RowKit

def Box (w : World) (b : Nat) (cs : Array Value) (T : TypeId) : Prop := w.heap[b]? = some (.cells cs T)
section
variable {w w' : World} {b : Nat} {cs : Array Value} {T : TypeId}
theorem Box.lt (h : Box w b cs T) : b < w.heap.size := (Array.getElem?_eq_some_iff.1 h).1
theorem Box.cell (h : Box w b cs T) (i : Nat) : w.cell? ⟨b, i, none⟩ = cs[i]? := by unfold Box at h; simp [World.cell?, h]
theorem Box.frozen (h : Box w b cs T) (i : Nat) : w.frozen? ⟨b, i, none⟩ = false := by unfold Box at h; simp [World.frozen?, h]
theorem Box.below (h : Box w b cs T) {B : Nat} (hb : Below B w w') (hB : b < B) : Box w' b cs T := by
  unfold Box at h ⊢
  rw [hb.block b hB]
  exact h
theorem Box.set (h : Box w b cs T) {q : Addr} (hq : b ≠ q.block) (v : Value) : Box (w.setCell q v) b cs T := by
  unfold Box at h ⊢
  rw [Below.heap_setCell _ _ _ _ hq]
  exact h
theorem Box.put (h : Box w b cs T) (i : Nat) (v : Value) : Box (w.setCell ⟨b, i, none⟩ v) b (cs.setIfInBounds i v) T := by
  unfold Box at h ⊢
  obtain ⟨hlt, h'⟩ := Array.getElem?_eq_some_iff.1 h
  show (w.heap.modify b _)[b]? = _
  rw [Array.getElem?_eq_getElem (by simpa using hlt), Array.getElem_modify_self, h']
  rfl
theorem Box.alloc (h : Box w b cs T) (o : Obj) : Box (w.alloc o) b cs T := h.below ((Below.refl w.heap.size w).alloc (Nat.le_refl _) o) h.lt
theorem box_of (w : World) (cs : Array Value) (T : TypeId) : Box (w.alloc (.cells cs T)) w.heap.size cs T := by
  show (w.heap.push _)[w.heap.size]? = _
  simp
theorem Box.drew (h : Box w b cs T) : Box w.drew b cs T := h
end
theorem size_setCell (w : World) (a : Addr) (v : Value) : (w.setCell a v).heap.size = w.heap.size := by simp [World.setCell]
theorem Box.two {w : World} {b : Nat} {T : TypeId} {x y : Value} (h : Box w b #[x, y] T) : w.cell? ⟨b, 0, none⟩ = some x ∧ w.cell? ⟨b, 1, none⟩ = some y ∧ w.frozen? ⟨b, 0, none⟩ = false ∧ w.frozen? ⟨b, 1, none⟩ = false :=
  ⟨h.cell 0, h.cell 1, h.frozen 0, h.frozen 1⟩
end Go.Proofs.YtkbodiggdajbeaaGreatDoor

/- Lists of a call's own: what keeps them; numbers that ascend; a world in which one list alone has changed. No program. -/
namespace Go.Proofs.YtkbodiggdajbeaaGreatDoor
open Go.ChangeShapes Go.WideShapes Go.ChangeAt Go.RowKit

abbrev SL (g n : Nat) : Value := .slice (some ⟨g, 0, none⟩) n n
theorem own_cellV {w : World} {base : Nat} {e : TypeId} {g n cap size j : Nat} {vs : List Value} {u : Value} (h : w.ownsRow base e size (.slice (some ⟨g, 0, none⟩) n cap) n vs) (hj : vs[j]? = some u) : w.cell? ⟨g, j, none⟩ = some u := by
  have hl : j < vs.length := (List.getElem?_eq_some_iff.1 hj).1
  rw [h.cellAt j (by rw [← h.1]; exact hl)]
  exact hj
theorem owns_heap {w w' : World} {base : Nat} {e : TypeId} {size n : Nat} {v : Value} {xs : List Value} (h : w.ownsRow base e size v n xs) (he : ∀ k, v.ownBlock = some k → w'.heap[k]? = w.heap[k]?) : w'.ownsRow base e size v n xs := by
  refine ⟨h.1, ?_⟩
  rcases h.2 with h2 | ⟨g, cap, cur, rfl, hg, hh, r⟩
  · exact .inl h2
  · exact .inr ⟨g, cap, cur, rfl, hg, by rw [he g rfl]; exact hh, r⟩
theorem owns_forms {w : World} {base : Nat} {e : TypeId} {size n : Nat} {v : Value} {xs : List Value} (h : w.ownsRow base e size v n xs) : (v = .slice none 0 0 ∧ n = 0) ∨ ∃ g cap, v = .slice (some ⟨g, 0, none⟩) n cap := by
  rcases h.2 with h2 | ⟨g, cap, cur, hv, _⟩
  · exact .inl h2
  · exact .inr ⟨g, cap, hv⟩
theorem owns_slice {w : World} {base : Nat} {e : TypeId} {size n : Nat} {v : Value} {xs : List Value} (h : w.ownsRow base e size v n xs) : ∃ a c, v = .slice a n c ∧ n ≤ c := by
  rcases h.2 with ⟨h2, h3⟩ | ⟨g, cap, cur, hv, _, _, hc, _⟩
  · exact ⟨none, 0, by rw [h2, h3], by omega⟩
  · exact ⟨_, cap, hv, hc⟩
/-- Numbers that ascend from k on. -/
def asc (k : Int) (n : Nat) : List Int := (List.range n).map fun (i : Nat) => k + (i : Int)
theorem asc_len (k : Int) (n : Nat) : (asc k n).length = n := by simp [asc]
theorem asc_at {k : Int} {n i : Nat} (h : i < n) : (asc k n).getD i 0 = k + (i : Int) := by simp [asc, List.getD, h]
def Asc (zs : List Int) (k : Int) (j : Nat) : Prop := ∀ i, i < j → zs[i]? = some (k + (i : Int))
theorem Asc.three {zs : List Int} {k q : Int} {j : Nat} (h : Asc zs k (j * 3)) (hl : j * 3 + 2 < zs.length) (hq : k + (j : Int) * 3 = q) : Asc (((zs.set (j * 3) q).set (j * 3 + 1) (q + 1)).set (j * 3 + 2) (q + 1 + 1)) k ((j + 1) * 3) := by
  intro i hi
  by_cases e2 : i = j * 3 + 2
  · subst e2
    rw [List.getElem?_set_self (by simp; omega)]
    congr 1; push_cast; omega
  rw [List.getElem?_set_ne (by omega)]
  by_cases e1 : i = j * 3 + 1
  · subst e1
    rw [List.getElem?_set_self (by simp; omega)]
    congr 1; push_cast; omega
  rw [List.getElem?_set_ne (by omega)]
  by_cases e0 : i = j * 3
  · subst e0
    rw [List.getElem?_set_self (by omega)]
    congr 1; push_cast; omega
  rw [List.getElem?_set_ne (by omega)]
  exact h i (by omega)
theorem Asc.one {zs : List Int} {k q : Int} {j : Nat} (h : Asc zs k j) (hl : j < zs.length) (hq : k + (j : Int) = q) : Asc (zs.set j q) k (j + 1) := by
  intro i hi
  by_cases e0 : i = j
  · subst e0
    rw [List.getElem?_set_self (by omega), hq]
  rw [List.getElem?_set_ne (by omega)]
  exact h i (by omega)
theorem Asc.all {zs : List Int} {k : Int} {n : Nat} (h : Asc zs k n) (hl : zs.length = n) : zs = asc k n := by
  refine List.ext_getElem? fun i => ?_
  rcases Nat.lt_or_ge i n with hi | hi
  · rw [h i hi]; simp [asc, hi]
  · rw [List.getElem?_eq_none (by omega), List.getElem?_eq_none (by rw [asc_len]; omega)]
/-- Only the block of this list has changed, and nothing was made. -/
structure OnlyV (base : Nat) (v : Value) (w w' : World) : Prop where
  bel : Below base w w'
  size : w'.heap.size = w.heap.size
  oth : ∀ k, v.ownBlock ≠ some k → w'.heap[k]? = w.heap[k]?
theorem OnlyV.refl (base : Nat) (v : Value) (w : World) : OnlyV base v w w := ⟨Below.refl _ _, rfl, fun _ _ => rfl⟩
theorem OnlyV.set {base g n cap : Nat} {w w' : World} (h : OnlyV base (.slice (some ⟨g, 0, none⟩) n cap) w w') (hb : base ≤ g) (j : Nat) (u : Value) : OnlyV base (.slice (some ⟨g, 0, none⟩) n cap) w (w'.setCell ⟨g, j, none⟩ u) :=
  ⟨h.bel.setCell hb _, by rw [size_setCell]; exact h.size, fun k hk => (Below.heap_setCell _ _ _ _ (fun e => hk (by simp [Value.ownBlock, e]))).trans (h.oth k hk)⟩
end Go.Proofs.YtkbodiggdajbeaaGreatDoor

/- A list that is copied by append onto an empty one: what the walk needs there. -/
namespace Go.Proofs.YtkbodiggdajbeaaGreatDoor
open Go.ChangeShapes Go.WideShapes Go.ChangeAt Go.RowKit

theorem own_empty {w : World} {base : Nat} (hb : base ≤ w.heap.size) : (w.alloc (.cells #[] 3)).ownsRow base 3 1 (.slice (some ⟨w.heap.size, 0, none⟩) 0 0) 0 [] :=
  ⟨rfl, .inr ⟨w.heap.size, 0, #[], rfl, hb, (by show (w.heap.push _)[w.heap.size]? = _; simp), Nat.le_refl _, by unfold maxLen; omega, rfl, rfl⟩⟩
theorem own_empty_drew {w : World} {base g : Nat} (hg : w.heap.size = g) (hb : base ≤ g) : (w.alloc (.cells #[] 3)).drew.ownsRow base 3 1 (.slice (some ⟨g, 0, none⟩) 0 0) 0 [] := by
  subst hg
  exact own_empty hb
theorem own_weaken {w : World} {base base' : Nat} {e : TypeId} {size : Nat} {v : Value} {n : Nat} {xs : List Value} (h : w.ownsRow base e size v n xs) (hb : base' ≤ base) : w.ownsRow base' e size v n xs := by
  refine ⟨h.1, ?_⟩
  rcases h.2 with h2 | ⟨g, cap, cur, hv, hg, r⟩
  · exact .inl h2
  · exact .inr ⟨g, cap, cur, hv, Nat.le_trans hb hg, r⟩
theorem own_setCell_far {w : World} {base : Nat} {e : TypeId} {size : Nat} {v : Value} {n : Nat} {xs : List Value} (h : w.ownsRow base e size v n xs) {a : Addr} (ha : v.ownBlock ≠ some a.block) (u : Value) : (w.setCell a u).ownsRow base e size v n xs := by
  refine ⟨h.1, ?_⟩
  rcases h.2 with h2 | ⟨g, cap, cur, rfl, hg, hh, r⟩
  · exact .inl h2
  · exact .inr ⟨g, cap, cur, rfl, hg, by rw [Below.heap_setCell _ _ _ _ (fun e => ha (by simp [Value.ownBlock, e]))]; exact hh, r⟩
theorem own_at {w : World} {base : Nat} {e : TypeId} {v : Value} {n : Nat} {xs : List Int} (h : w.ownsRow base e 1 v n (xs.map I)) (hn : n ≤ 1099511627776) : ∃ a c, v = .slice a n c ∧ IntAt w a n xs := by
  have hl : xs.length = n := by have := h.1; simpa using this
  rcases h.2 with ⟨rfl, h0⟩ | ⟨g, cap, cur, rfl, _⟩
  · exact ⟨none, 0, by rw [h0], hl, hn, .inl h0⟩
  · exact ⟨_, cap, rfl, own_intAt h hn⟩
theorem news_len {xs : List Int} {n : Nat} (h : xs.length = n) : (xs.map I).length = n * 1 := by simp [h]
theorem news_at {w : World} {p o n : Nat} {xs : List Int} {ob : Obj} (hl : xs.length = n) (h : ∀ i, i < n → w.cell? ⟨p, o + i, none⟩ = some (I (xs.getD i 0))) :
    ∀ (j : Nat) (u : Value), (xs.map I)[j]? = some u → (w.alloc ob).cell? ((⟨p, o, none⟩ : Addr).add j) = some u := by
  intro j u hj
  have hj' : j < n := by
    rcases Nat.lt_or_ge j n with h1 | h1
    · exact h1
    · rw [List.getElem?_eq_none (by simp; omega)] at hj; cases hj
  have h1 := h j hj'
  have h2 := World.block_lt_of_cell? w _ h1
  have e : (⟨p, o, none⟩ : Addr).add j = ⟨p, o + j, none⟩ := by simp [Addr.add]
  rw [e, World.cell?_alloc_past _ _ _ (show p < w.heap.size from h2), h1]
  rw [List.getElem?_map, List.getElem?_eq_getElem (by omega)] at hj
  simpa [List.getD, show j < xs.length by omega] using hj
theorem news_at_drew {w : World} {p o n : Nat} {xs : List Int} {ob : Obj} (hl : xs.length = n) (h : ∀ i, i < n → w.cell? ⟨p, o + i, none⟩ = some (I (xs.getD i 0))) :
    ∀ (j : Nat) (u : Value), (xs.map I)[j]? = some u → (w.alloc ob).drew.cell? ((⟨p, o, none⟩ : Addr).add j) = some u := fun j u hj => news_at hl h j u hj
theorem IntAt.cells {w : World} {p o n : Nat} {xs : List Int} (h : IntAt w (some ⟨p, o, none⟩) n xs) : ∀ i, i < n → w.cell? ⟨p, o + i, none⟩ = some (I (xs.getD i 0)) := by
  intro i hi
  rcases h.2.2 with h0 | ⟨b, c, e, g⟩
  · omega
  · cases e
    exact g i hi
theorem below_appended_drew {a w1 w' : World} {B g c : Nat} {ob : Obj} (hb : Below B a w1) (hs : B ≤ w1.heap.size) (he : w1.heap.size = g) (hg : (w1.alloc ob).drew.grownBy w' (Value.slice (some ⟨g, 0, none⟩) 0 c).ownBlock) : Below B a w' :=
  (hb.alloc hs _).drew.grown hg (by simp; omega) fun k e => by cases e; exact he ▸ hs
theorem news_one {xs : List Int} : ∀ u ∈ xs.map I, u.oneCell' = true := by
  intro u hu
  simp at hu
  obtain ⟨x, _, rfl⟩ := hu
  rfl
theorem below_appended {w w1 w' : World} {ob : Obj} {c : Nat} (hb : Below w.heap.size w w1) (hs : w.heap.size ≤ w1.heap.size) (hg : (w1.alloc ob).grownBy w' (Value.slice (some ⟨w1.heap.size, 0, none⟩) 0 c).ownBlock) : Below w.heap.size w w' :=
  (hb.alloc hs _).grown hg (by simp; omega) fun k e => by cases e; exact hs
/-- append onto a list of the call's own, as one step of a region that draws its order. -/
theorem step_append_own {P : Program} {ops : Array Oper} {o : Oper} {a : Act} (w : World) {K : Act → World → Prop} {Q : Exit → Act → World → Prop} {E : Prop} (hg : o.guard = none) (s x : Operand) (t : TypeId)
    (ho : o.op = .call { callee := .builtin .append, args := #[s, x], argTypes := #[t, t] })
    (base : Nat) (e : TypeId) (i : TypeInfo) (z : Value) (size bytes : Nat) (ht : P.underlying t = some (.slice e)) (hi : P.info? e = some i) (hz : i.zero = some z)
    (hsize : i.size = size) (hby : i.bytes = bytes) (hzs : z.cells.size = size) (hsz : 0 < size)
    (v : Value) (n : Nat) (xs : List Value) (hs : a.eval s = v) (hown : w.ownsRow base e size v n xs)
    (ad : Addr) (m c : Nat) (news : List Value) (hx : a.eval x = .slice (some ad) m c) (hl : news.length = m * size) (hnews : ∀ j u, news[j]? = some u → w.cell? (ad.add j) = some u) (h1 : ∀ u ∈ news, u.oneCell' = true)
    (h63 : n + m ≤ maxLen) (hbytes : (n + m) * bytes ≤ 140737488355328) (hbase : base ≤ w.heap.size)
    (h : ∀ v' w', w'.ownsRow base e size v' (n + m) (xs ++ news) → w.grownBy w' v.ownBlock → (v' = .slice none 0 0 ↔ v = .slice none 0 0 ∧ m = 0) → K (a.put o.dst v') w') :
    if Region.wanted o (yielded ops a.tmps) = true then Oper.wp P o a w K Q else E := by
  rw [if_pos (by simp [Region.wanted, hg])]
  exact wp_append_own w s x t ho base e i z size bytes ht hi hz hsize hby hzs hsz v n xs hs hown ad m c news hx hl hnews h1 h63 hbytes hbase h
end Go.Proofs.YtkbodiggdajbeaaGreatDoor
