/- Plain facts on parts put together again with a byte between, of no program. -/
import Derived.Test.YtpcbjifklcdnaafDoorSplitB
import Derived.Test.YtpcbjifklcdnaafDoorNums2
namespace Go.Proofs.YtpcbjifklcdnaafDoor
open Go.Lib

theorem join_addHead (p sep : List UInt8) (x : List (List UInt8)) : join (addHead p x) sep = p ++ join x sep := by
  cases x with
  | nil => simp [addHead, join_one, join_nil]
  | cons a r => simp [addHead, join_cons]
theorem join_cons2 (x y : List UInt8) (r : List (List UInt8)) (sep : List UInt8) : join (x :: y :: r) sep = x ++ sep ++ join (y :: r) sep := by
  rw [join_cons, join_cons]
  simp [joinTail]
/-- What was parted at b, with b between, is what it was. -/
theorem join_split (b : UInt8) : ∀ l : List UInt8, join (splitB b l) [b] = l
  | [] => by simp [splitB, join_one]
  | c :: l => by
    have ih := join_split b l
    unfold splitB
    split
    · rename_i h
      obtain ⟨a, r, e⟩ : ∃ a r, splitB b l = a :: r := by
        cases h2 : splitB b l with
        | nil => exact absurd h2 (splitB_ne b l)
        | cons a r => exact ⟨a, r, rfl⟩
      rw [e, join_cons2, ← e, ih, h]
      simp
    · rw [join_addHead, ih]
      simp
theorem join_take_len (l : List (List UInt8)) (k : Nat) (sep : List UInt8) : (join (l.take k) sep).length ≤ (join l sep).length := by
  cases l with
  | nil => simp
  | cons a r =>
    cases k with
    | zero => simp [join_nil]
    | succ k =>
      rw [List.take_succ_cons, join_cons, join_cons]
      have : joinTail sep r = joinTail sep (r.take k) ++ joinTail sep (r.drop k) := by
        unfold joinTail
        rw [← List.flatten_append, ← List.map_append, List.take_append_drop]
      rw [this]
      simp
theorem take_snocS {xs : List (List UInt8)} {k : Nat} (h : k < xs.length) : xs.take (k + 1) = xs.take k ++ [xs.getD k []] := by
  rw [List.take_succ_eq_append_getElem h]; simp [List.getD, h]
end Go.Proofs.YtpcbjifklcdnaafDoor
