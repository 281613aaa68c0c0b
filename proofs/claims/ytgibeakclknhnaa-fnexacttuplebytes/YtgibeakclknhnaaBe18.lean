/- The bytes of a number, place by place; of a text, byte by byte. No program. -/
import Derived.Test.YtgibeakclknhnaaOrd18
namespace Go.Proofs.Ytgibeakclknhnaa
open Go.ChangeShapes Go.WideShapes Go.ChangeAt Go.RowKit
open Go.Lib (byteCells byteCells_length byteCells_append)

theorem beN_at : ∀ (k m j : Nat), j < k → (beN k m)[j]? = some (UInt8.ofNat (m / 256 ^ (k - 1 - j) % 256))
  | k + 1, m, j, h => by
    rw [beN]
    by_cases hj : j < k
    · rw [List.getElem?_append_left (by rw [beN_length]; exact hj), beN_at k _ j hj, Nat.div_div_eq_div_mul, ← Nat.pow_succ', show (k - 1 - j).succ = k + 1 - 1 - j by omega]
    · have e : j = k := by omega
      subst e
      rw [List.getElem?_append_right (by rw [beN_length]; exact Nat.le_refl _), beN_length, Nat.sub_self, show j + 1 - 1 - j = 0 by omega, Nat.pow_zero, Nat.div_one]
      rfl
theorem beN_succ {k m j : Nat} (h : j < k) : (beN k m).take (j + 1) = (beN k m).take j ++ [UInt8.ofNat (m / 256 ^ (k - 1 - j) % 256)] := by
  have h1 := beN_at k m j h
  have hl : j < (beN k m).length := (List.getElem?_eq_some_iff.1 h1).1
  rw [List.take_succ_eq_append_getElem hl, (List.getElem?_eq_some_iff.1 h1).2]
theorem escB_append (a b : List UInt8) : escB (a ++ b) = escB a ++ escB b := by
  induction a with
  | nil => rfl
  | cons x a ih =>
    show escB (x :: (a ++ b)) = _
    rw [escB, escB, ih]
    split <;> rfl
theorem escB_succ {l : List UInt8} {j : Nat} {b : UInt8} (h : l[j]? = some b) : escB (l.take (j + 1)) = escB (l.take j) ++ (if b = 0 then [0, 255] else [b]) := by
  have hl : j < l.length := (List.getElem?_eq_some_iff.1 h).1
  rw [List.take_succ_eq_append_getElem hl, escB_append, (List.getElem?_eq_some_iff.1 h).2, escB, escB]
theorem shift_byte {m : Nat} {j : Nat} (h : j < 8) : (m : Int) / 2 ^ (56 - 8 * (j : Int)).toNat % 256 = ((m / 256 ^ (8 - 1 - j) % 256 : Nat) : Int) := by
  have e : (2 : Int) ^ (56 - 8 * (j : Int)).toNat = ((256 ^ (8 - 1 - j) : Nat) : Int) := by
    match j, h with
    | 0, _ => rfl
    | 1, _ => rfl
    | 2, _ => rfl
    | 3, _ => rfl
    | 4, _ => rfl
    | 5, _ => rfl
    | 6, _ => rfl
    | 7, _ => rfl
  rw [e, ← Int.natCast_ediv]
  show _ = ((_ : Nat) : Int)
  rw [Int.natCast_emod]
  rfl
end Go.Proofs.Ytgibeakclknhnaa
