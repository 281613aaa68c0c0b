/- The law FnExactOpText, walked from what the program's function is said to answer. -/
import Derived.Test.YtkelhndijgakdaaDoorSpecTx
import Derived.Test.YtkelhndijgakdaaDoorKOp
import Derived.Deep.Cut
import Derived.Deep.RegionHeld3
namespace Go.Proofs.YtkelhndijgakdaaDoor
open Go.ChangeShapes Go.WideShapes Go.ChangeAt Go.RowKit Go.Lib

set_option maxHeartbeats 4000000 in
set_option maxRecDepth 100000 in
theorem opText_walk (T : World → Prop) (kind k v : Int) (w : World) (hT : ∀ w', Below w.heap.size w w' → T w')
    (implC : ∀ (kind k v : Int) (w : World), T w → Calls Tryd.prog 8 #[OpV kind k v] w fun e w' => TextSays e (opB kind k v) ∧ Below w.heap.size w w') :
    Calls Tryd.prog 3 #[OpV kind k v] w fun e w' => e = .returned (.bool true) ∧ Below w.heap.size w w' := by
  have HT : Hid (∀ w', Below w.heap.size w w' → T w') := hT
  have HC : Hid (∀ (kind k v : Int) (w : World), T w → Calls Tryd.prog 8 #[OpV kind k v] w fun e w' => TextSays e (opB kind k v) ∧ Below w.heap.size w w') := implC
  obtain ⟨W, hW⟩ : ∃ W, w.alloc (.cells #[.int .i64 kind, .int .i64 k, .int .i64 v] 23) = W := ⟨_, rfl⟩
  have B0 : Hid (Below w.heap.size w W) := by rw [← hW]; exact (Below.refl _ w).alloc (Nat.le_refl _) _
  have X0 : Hid (Box W w.heap.size #[.int .i64 kind, .int .i64 k, .int .i64 v] 23) := by rw [← hW]; exact box_of w _ _
  have HW : Hid (w.alloc (.cells #[.int .i64 kind, .int .i64 k, .int .i64 v] 23) = W) := hW
  clear hW hT implC
  go_enter Tryd.func3, Tryd.ntmps3
  go_upto_region 1 with (fail)
  rw [HW.out]
  obtain ⟨c0, c1, c2⟩ := X0.out.three
  go_wp2_with fail
  refine (kToOp kind k v _).mono ?_
  rintro e w1 ⟨rfl, hb1⟩
  have B1 : Hid (Below w.heap.size w w1) := B0.out.trans (hb1.mono B0.out.size)
  have X1 : Hid (Box w1 w.heap.size #[.int .i64 kind, .int .i64 k, .int .i64 v] 23) := X0.out.below hb1 X0.out.lt
  clear hb1 c0 c1 c2
  go_wp2_with fail
  refine (specOpText_any kind k v _).mono ?_
  rintro e w2 ⟨⟨s2, rfl, hs2⟩, hb2⟩
  have S2 : Hid (s2.data.toList = opB kind k v) := hs2
  have B2 : Hid (Below w.heap.size w w2) := B1.out.trans (hb2.mono B1.out.size)
  have X2 : Hid (Box w2 w.heap.size #[.int .i64 kind, .int .i64 k, .int .i64 v] 23) := X1.out.below hb2 X1.out.lt
  clear hs2 hb2
  obtain ⟨c0, c1, c2⟩ := X2.out.three
  go_wp2_with fail
  refine (kToOp kind k v _).mono ?_
  rintro e w3 ⟨rfl, hb3⟩
  have B3 : Hid (Below w.heap.size w w3) := B2.out.trans (hb3.mono B2.out.size)
  clear hb3 c0 c1 c2
  go_wp2_with fail
  refine (HC.out kind k v _ (HT.out _ B3.out)).mono ?_
  rintro e w4 ⟨⟨s4, rfl, hs4⟩, hb4⟩
  obtain rfl : s2 = s4 := str_eq (S2.out.trans hs4.symm)
  have B4 : Hid (Below w.heap.size w w4) := B3.out.trans (hb4.mono B3.out.size)
  clear hs4 hb4
  go_wp2
  go_ret
  exact ⟨rfl, B4.out⟩
end Go.Proofs.YtkelhndijgakdaaDoor
