/- The laws' own helpers on bytes, walked: whether two lists are alike; what marks one, and whether it is marked. -/
import Derived.Test.YtmgofehafjogfaaByA
import Derived.Test.YtmgofehafjogfaaCur
import Derived.WalkSmall
import Derived.Deep.RegionHeld3
namespace Go.Proofs.Ytmgofehafjogfaa
open Go.ChangeShapes Go.WideShapes Go.ChangeAt Go.RowKit
open Go.Lib (byteCells byteCells_length byteCells_append)

/-- The bytes that markByteS lays, from 1 on. -/
def marksB (n : Nat) : List UInt8 := (List.range n).map fun i => UInt8.ofNat ((i + 1) % 256)
theorem marksB_len (n : Nat) : (marksB n).length = n := by simp [marksB]
theorem marksB_at {n i : Nat} (h : i < n) : (marksB n)[i]? = some (UInt8.ofNat ((i + 1) % 256)) := by simp [marksB, h]
theorem u8_mark (i : Nat) : ((UInt8.ofNat ((i + 1) % 256)).toNat : Int) = ((i : Int) + 1) % 256 := by
  have h : (UInt8.ofNat ((i + 1) % 256)).toNat = (i + 1) % 256 := by simp
  rw [h]
  omega
theorem below_drewN (w : World) (m : Nat) : Below w.heap.size w (w.drewN m) := ⟨rfl, rfl, rfl, Nat.le_refl _, fun _ _ => rfl⟩
theorem markB_step (n j : Nat) (l : List UInt8) (hx : l.length = n) (h : j < n) :
    (byteCells (marksB j ++ l.drop j)).set j (.int .u8 (((j : Int) + 1) % 256)) = byteCells (marksB (j + 1) ++ l.drop (j + 1)) := by
  have e : marksB (j + 1) = marksB j ++ [UInt8.ofNat ((j + 1) % 256)] := by simp [marksB, List.range_succ]
  rw [← u8_mark, e]
  unfold byteCells
  rw [show Value.int IntKind.u8 ((UInt8.ofNat ((j + 1) % 256)).toNat : Int) = (fun b : UInt8 => Value.int IntKind.u8 (b.toNat : Int)) (UInt8.ofNat ((j + 1) % 256)) from rfl, ← List.map_set]
  congr 1
  rw [List.set_append_right _ _ (by simp [marksB]), show j - (marksB j).length = 0 by simp [marksB], List.drop_eq_getElem_cons (show j < l.length by omega), List.set_cons_zero, List.append_assoc]
  rfl
/-- What has been written of bytes so far: the first k of xs, noughts behind them. -/
def uptoB (xs : List UInt8) (k n : Nat) : List UInt8 := xs.take k ++ List.replicate (n - k) 0
theorem uptoB_step {xs : List UInt8} {k n : Nat} {x : UInt8} (hx : xs.length = n) (h : xs[k]? = some x) : (byteCells (uptoB xs k n)).set k (.int .u8 (x.toNat : Int)) = byteCells (uptoB xs (k + 1) n) := by
  have hk : k < xs.length := (List.getElem?_eq_some_iff.1 h).1
  unfold byteCells
  rw [show Value.int IntKind.u8 (x.toNat : Int) = (fun b : UInt8 => Value.int IntKind.u8 (b.toNat : Int)) x from rfl, ← List.map_set]
  congr 1
  unfold uptoB
  have hl : (xs.take k).length = k := by rw [List.length_take]; omega
  rw [List.set_append_right _ _ (by omega), hl, Nat.sub_self, show n - k = (n - (k + 1)) + 1 by omega, List.replicate_succ, List.set_cons_zero,
    List.take_succ_eq_append_getElem hk, (List.getElem?_eq_some_iff.1 h).2, List.append_assoc]
  rfl
theorem uptoB_end {xs : List UInt8} {n : Nat} (hx : xs.length = n) : uptoB xs n n = xs := by
  unfold uptoB
  rw [List.take_of_length_le (by omega)]; simp
end Go.Proofs.Ytmgofehafjogfaa
