/- What a column and an index are called. -/
import Derived.Test.YtmgofehafjogfabBoxN
import Derived.Below
import Derived.Deep.Cut
namespace Go.Proofs.Ytmgofehafjogfab
open Go.ChangeShapes Go.WideShapes Go.ChangeAt Go.RowKit Go.Maps

set_option maxHeartbeats 8000000 in
set_option maxRecDepth 100000 in
theorem nameCol_any (s : ByteArray) (k : Int) (b : Bool) (w : World) : Calls Try.prog 63 #[.agg #[.string s, .int .i64 k, .bool b]] w fun e w' => e = .returned (.string s) ∧ Below w.heap.size w w' := by
  obtain ⟨W, hW⟩ : ∃ W, w.alloc (.cells #[.string s, .int .i64 k, .bool b] 65) = W := ⟨_, rfl⟩
  have HB0 : Hid (Below w.heap.size w W) := by rw [← hW]; exact (Below.refl _ w).alloc (Nat.le_refl _) _
  have X0 : Hid (Box W w.heap.size #[.string s, .int .i64 k, .bool b] 65) := by rw [← hW]; exact box_of w _ _
  have HW : Hid (w.alloc (.cells #[.string s, .int .i64 k, .bool b] 65) = W) := hW
  have c0 : W.cell? ⟨w.heap.size, 0, none⟩ = some (.string s) := X0.out.cell 0
  clear hW
  go_enter Try.func63, Try.ntmps63
  go_upto_region 1 with (fail)
  rw [HW.out]
  go_wp2
  go_ret
  exact ⟨rfl, HB0.out⟩
theorem callCol_any (s : ByteArray) (k : Int) (b : Bool) (w : World) : (callMethod (.iface 65 (.agg #[.string s, .int .i64 k, .bool b])) "loop.example/g00468/impl.name" #[]).run Try.prog w = .ok (.enter 63 #[.agg #[.string s, .int .i64 k, .bool b]]) w := by kernel_rfl
set_option maxHeartbeats 8000000 in
set_option maxRecDepth 100000 in
theorem nameIndex_any (s : ByteArray) (a : Option Addr) (m d : Nat) (b : Bool) (w : World) : Calls Try.prog 64 #[.agg #[.string s, .slice a m d, .bool b]] w fun e w' => e = .returned (.string s) ∧ Below w.heap.size w w' := by
  obtain ⟨W, hW⟩ : ∃ W, w.alloc (.cells #[.string s, .slice a m d, .bool b] 75) = W := ⟨_, rfl⟩
  have HB0 : Hid (Below w.heap.size w W) := by rw [← hW]; exact (Below.refl _ w).alloc (Nat.le_refl _) _
  have X0 : Hid (Box W w.heap.size #[.string s, .slice a m d, .bool b] 75) := by rw [← hW]; exact box_of w _ _
  have HW : Hid (w.alloc (.cells #[.string s, .slice a m d, .bool b] 75) = W) := hW
  have c0 : W.cell? ⟨w.heap.size, 0, none⟩ = some (.string s) := X0.out.cell 0
  clear hW
  go_enter Try.func64, Try.ntmps64
  go_upto_region 1 with (fail)
  rw [HW.out]
  go_wp2
  go_ret
  exact ⟨rfl, HB0.out⟩
theorem callIndex_any (s : ByteArray) (a : Option Addr) (m d : Nat) (b : Bool) (w : World) : (callMethod (.iface 75 (.agg #[.string s, .slice a m d, .bool b])) "loop.example/g00468/impl.name" #[]).run Try.prog w = .ok (.enter 64 #[.agg #[.string s, .slice a m d, .bool b]]) w := by kernel_rfl
end Go.Proofs.Ytmgofehafjogfab
