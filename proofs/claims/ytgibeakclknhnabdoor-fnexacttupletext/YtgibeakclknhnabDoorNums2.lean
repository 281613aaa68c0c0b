/- Plain facts on numerals with commas between, of no program. -/
import Derived.Lib.Join
import Derived.Lib.ItoaLen
namespace Go.Proofs.YtgibeakclknhnabDoor
open Go.Lib

/-- The numerals of xs, commas between. -/
def numsB (xs : List Int) : List UInt8 := join (xs.map itoa) [44]

theorem join_snoc (l : List (List UInt8)) (x sep : List UInt8) (h : l ≠ []) : join (l ++ [x]) sep = join l sep ++ sep ++ x := by
  cases l with
  | nil => exact absurd rfl h
  | cons a l =>
    rw [List.cons_append, join_cons, join_cons]
    simp [joinTail]

theorem numsB_nil : numsB [] = [] := rfl
theorem numsB_first (x : Int) : numsB ([] ++ [x]) = itoa x := by simp [numsB, join_one]
theorem numsB_snoc (l : List Int) (x : Int) (h : l ≠ []) : numsB (l ++ [x]) = numsB l ++ [44] ++ itoa x := by
  unfold numsB
  rw [List.map_append, List.map_singleton, join_snoc _ _ _ (by simpa using h)]

/-- Each number is an int. -/
def In64s (xs : List Int) : Prop := ∀ x ∈ xs, -9223372036854775808 ≤ x ∧ x ≤ 9223372036854775807

theorem numsB_len : ∀ (n : Nat) (xs : List Int), xs.length = n → In64s xs → (numsB xs).length ≤ 22 * n
  | 0, xs, hn, _ => by rw [List.length_eq_zero_iff.1 hn]; simp [numsB_nil]
  | n + 1, xs, hn, h => by
    have hne : xs ≠ [] := fun e => by rw [e] at hn; simp at hn
    have e := List.dropLast_concat_getLast hne
    have hx := h _ (List.getLast_mem hne)
    have h1 := numsB_len n xs.dropLast (by simp; omega) (fun x hx => h x (List.dropLast_subset _ hx))
    have h2 := itoa_length_le _ hx.1 hx.2
    rw [← e]
    by_cases hd : xs.dropLast = []
    · rw [hd, numsB_first]; omega
    · rw [numsB_snoc _ _ hd]; simp; omega

theorem in64_at {xs : List Int} (h : In64s xs) (k : Nat) (hk : k < xs.length) : -9223372036854775808 ≤ xs.getD k 0 ∧ xs.getD k 0 ≤ 9223372036854775807 := by
  have := h xs[k] (List.getElem_mem hk)
  simpa [List.getD, hk] using this
theorem take_snocI {xs : List Int} {k : Nat} (h : k < xs.length) : xs.take (k + 1) = xs.take k ++ [xs.getD k 0] := by
  rw [List.take_succ_eq_append_getElem h]; simp [List.getD, h]
theorem in64_take {xs : List Int} (h : In64s xs) (k : Nat) : In64s (xs.take k) := fun x hx => h x (List.mem_of_mem_take hx)
end Go.Proofs.YtgibeakclknhnabDoor
