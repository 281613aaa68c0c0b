/- A value as it is written. No program. -/
import Derived.Test.YtgibeakclknhnabDoorVal17
import Derived.Test.YtgibeakclknhnabDoorNums2
import Derived.Test.YtgibeakclknhnabDoorTextS
namespace Go.Proofs.YtgibeakclknhnabDoor
open Go.ChangeShapes Go.WideShapes Go.ChangeAt Go.RowKit
open Go.Lib (itoa itoa_length_le)

def signsL : List UInt8 := [48, 49, 50, 51, 52, 53, 54, 55, 56, 57, 97, 98, 99, 100, 101, 102]
def signU (i : Nat) : UInt8 := signsL.getD i 0
def hexB (l : List UInt8) : List UInt8 := l.flatMap fun b => [signU (b.toNat / 16), signU (b.toNat % 16)]
def valB (k n : Int) (s : ByteArray) : List UInt8 :=
  if ¬ VaGood k n s then [98, 97, 100] else if k = 1 then (if n = 0 then [110, 111] else [121, 101, 115]) else if k = 2 then itoa n else if k = 3 then 34 :: hexB s.data.toList else [110, 117, 108, 108]
theorem hex_succ {l : List UInt8} {j : Nat} {b : UInt8} (h : l[j]? = some b) : hexB (l.take (j + 1)) = hexB (l.take j) ++ [signU (b.toNat / 16), signU (b.toNat % 16)] := by
  have hj : j < l.length := (List.getElem?_eq_some_iff.1 h).1
  unfold hexB
  rw [List.take_succ_eq_append_getElem hj, List.flatMap_append, (List.getElem?_eq_some_iff.1 h).2]
  simp
theorem hex_len (l : List UInt8) : (hexB l).length = 2 * l.length := by
  induction l with
  | nil => rfl
  | cons b l ih => unfold hexB at ih ⊢; rw [List.flatMap_cons, List.length_append, ih]; simp; omega
end Go.Proofs.YtgibeakclknhnabDoor
