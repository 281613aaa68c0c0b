/- A tuple as it is written. No program. -/
import Derived.Test.YtgibeakclknhnabDoorTxt17
import Derived.Test.YtgibeakclknhnabDoorVasL
namespace Go.Proofs.YtgibeakclknhnabDoor
open Go.ChangeShapes Go.WideShapes Go.ChangeAt Go.RowKit
open Go.Lib (join join_nil join_one join_cons joinTail itoa itoa_length_le)

/-- The values as they are written, commas between. -/
def txtsB (L : List Va3) : List UInt8 := join (L.map fun x => valB x.1 x.2.1 x.2.2) [44]
theorem txtsB_first (x : Va3) : txtsB ([] ++ [x]) = valB x.1 x.2.1 x.2.2 := by simp [txtsB, join_one]
theorem txtsB_snoc (L : List Va3) (x : Va3) (h : L ≠ []) : txtsB (L ++ [x]) = txtsB L ++ [44] ++ valB x.1 x.2.1 x.2.2 := by
  unfold txtsB
  rw [List.map_append, List.map_singleton, join_snoc _ _ _ (by simpa using h)]
theorem valB_le (k n : Int) (s : ByteArray) : (valB k n s).length ≤ 41 := by
  unfold valB
  split
  · decide
  · rename_i hg
    split
    · split <;> decide
    · split
      · have hn : -9223372036854775808 ≤ n ∧ n ≤ 9223372036854775807 := by
          have h1 := Decidable.of_not_not hg
          unfold VaGood at h1
          omega
        have := itoa_length_le n hn.1 hn.2
        omega
      · split
        · rename_i h1 h2 h3
          have h4 := Decidable.of_not_not hg
          unfold VaGood at h4
          rw [List.length_cons, hex_len]
          have : s.data.toList.length = s.size := by simp
          omega
        · decide
theorem txtsB_len : ∀ (n : Nat) (L : List Va3), L.length = n → (txtsB L).length ≤ 42 * n
  | 0, L, hn => by rw [List.length_eq_zero_iff.1 hn]; simp [txtsB, join_nil]
  | n + 1, L, hn => by
    have hne : L ≠ [] := fun e => by rw [e] at hn; simp at hn
    have e := List.dropLast_concat_getLast hne
    have h1 := txtsB_len n L.dropLast (by simp; omega)
    have h2 := valB_le (L.getLast hne).1 (L.getLast hne).2.1 (L.getLast hne).2.2
    rw [← e]
    by_cases hd : L.dropLast = []
    · rw [hd, txtsB_first]; omega
    · rw [txtsB_snoc _ _ hd]; simp; omega
theorem take_snocV {L : List Va3} {k : Nat} {x : Va3} (h : L[k]? = some x) : L.take (k + 1) = L.take k ++ [x] := by
  rw [List.take_succ_eq_append_getElem (List.getElem?_eq_some_iff.1 h).1, (List.getElem?_eq_some_iff.1 h).2]
end Go.Proofs.YtgibeakclknhnabDoor
