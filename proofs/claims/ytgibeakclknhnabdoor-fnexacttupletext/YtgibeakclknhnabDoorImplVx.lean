/- The program's ValueText. -/
import Derived.Test.YtgibeakclknhnabDoorImplVo
import Derived.Test.YtgibeakclknhnabDoorImplHx
import Derived.Test.YtgibeakclknhnabDoorPowT
namespace Go.Proofs.YtgibeakclknhnabDoor
open Go.ChangeShapes Go.WideShapes Go.ChangeAt Go.RowKit

open Go.Lib (itoa itoa_length_le)

set_option maxHeartbeats 4000000 in
set_option maxRecDepth 100000 in
theorem implVT_bad (k n : Int) (s : ByteArray) (hg : ¬ VaGood k n s) (w : World) (hT : PowT w) :
    Calls Tryd.prog 27 #[VaV k n s] w fun e w' => TextSays e [98, 97, 100] ∧ Below w.heap.size w w' := by
  have HG : Hid (decide (VaGood k n s) = false) := decide_eq_false hg
  have HT : Hid (PowT w) := hT
  clear hT
  obtain ⟨W, hW⟩ : ∃ W, w.alloc (.cells #[.int .i64 k, .int .i64 n, .string s] 38) = W := ⟨_, rfl⟩
  have HB0 : Hid (Below w.heap.size w W) := by rw [← hW]; exact (Below.refl _ w).alloc (Nat.le_refl _) _
  have X0 : Hid (Box W w.heap.size #[.int .i64 k, .int .i64 n, .string s] 38) := by rw [← hW]; exact box_of w _ _
  have HW : Hid (w.alloc (.cells #[.int .i64 k, .int .i64 n, .string s] 38) = W) := hW
  obtain ⟨c0, c1, c2⟩ := X0.out.triV
  clear hW
  go_enter Tryd.func27, Tryd.ntmps27
  go_upto_region 1 with (fail)
  rw [HW.out]
  go_wp2_with fail
  refine (implValueOk_any k n s _).mono ?_
  rintro e w1 ⟨rfl, hb1⟩
  rw [HG.out]
  have X1 : Hid (Box w1 w.heap.size #[.int .i64 k, .int .i64 n, .string s] 38) := X0.out.below hb1 X0.out.lt
  have HB1 : Hid (Below w.heap.size w w1) := HB0.out.trans (hb1.mono HB0.out.size)
  clear hb1 c0 c1 c2
  obtain ⟨c0, c1, c2⟩ := X1.out.triV
  go_wp2
  go_ret
  exact ⟨⟨_, rfl, rfl⟩, HB1.out⟩
set_option maxHeartbeats 4000000 in
set_option maxRecDepth 100000 in
theorem implVT_null  (w : World) (hT : PowT w) :
    Calls Tryd.prog 27 #[VaV 0 0 ⟨#[]⟩] w fun e w' => TextSays e [110, 117, 108, 108] ∧ Below w.heap.size w w' := by
  have HG : Hid (decide (VaGood 0 0 ⟨#[]⟩) = true) := decide_eq_true (by unfold VaGood; exact .inl ⟨rfl, rfl, rfl⟩)
  have HT : Hid (PowT w) := hT
  clear hT
  obtain ⟨W, hW⟩ : ∃ W, w.alloc (.cells #[.int .i64 0, .int .i64 0, .string ⟨#[]⟩] 38) = W := ⟨_, rfl⟩
  have HB0 : Hid (Below w.heap.size w W) := by rw [← hW]; exact (Below.refl _ w).alloc (Nat.le_refl _) _
  have X0 : Hid (Box W w.heap.size #[.int .i64 0, .int .i64 0, .string ⟨#[]⟩] 38) := by rw [← hW]; exact box_of w _ _
  have HW : Hid (w.alloc (.cells #[.int .i64 0, .int .i64 0, .string ⟨#[]⟩] 38) = W) := hW
  obtain ⟨c0, c1, c2⟩ := X0.out.triV
  clear hW
  go_enter Tryd.func27, Tryd.ntmps27
  go_upto_region 1 with (fail)
  rw [HW.out]
  go_wp2_with fail
  refine (implValueOk_any 0 0 ⟨#[]⟩ _).mono ?_
  rintro e w1 ⟨rfl, hb1⟩
  rw [HG.out]
  have X1 : Hid (Box w1 w.heap.size #[.int .i64 0, .int .i64 0, .string ⟨#[]⟩] 38) := X0.out.below hb1 X0.out.lt
  have HB1 : Hid (Below w.heap.size w w1) := HB0.out.trans (hb1.mono HB0.out.size)
  clear hb1 c0 c1 c2
  obtain ⟨c0, c1, c2⟩ := X1.out.triV
  go_wp2
  go_ret
  exact ⟨⟨_, rfl, rfl⟩, HB1.out⟩
set_option maxHeartbeats 4000000 in
set_option maxRecDepth 100000 in
theorem implVT_flag (n : Int) (hn : 0 ≤ n ∧ n ≤ 1) (L : List UInt8) (hL : (if n = 0 then [110, 111] else [121, 101, 115]) = L) (w : World) (hT : PowT w) :
    Calls Tryd.prog 27 #[VaV 1 n ⟨#[]⟩] w fun e w' => TextSays e L ∧ Below w.heap.size w w' := by
  have HG : Hid (decide (VaGood 1 n ⟨#[]⟩) = true) := decide_eq_true (by unfold VaGood; exact .inr (.inl ⟨rfl, hn, rfl⟩))
  have HT : Hid (PowT w) := hT
  clear hT
  obtain ⟨W, hW⟩ : ∃ W, w.alloc (.cells #[.int .i64 1, .int .i64 n, .string ⟨#[]⟩] 38) = W := ⟨_, rfl⟩
  have HB0 : Hid (Below w.heap.size w W) := by rw [← hW]; exact (Below.refl _ w).alloc (Nat.le_refl _) _
  have X0 : Hid (Box W w.heap.size #[.int .i64 1, .int .i64 n, .string ⟨#[]⟩] 38) := by rw [← hW]; exact box_of w _ _
  have HW : Hid (w.alloc (.cells #[.int .i64 1, .int .i64 n, .string ⟨#[]⟩] 38) = W) := hW
  obtain ⟨c0, c1, c2⟩ := X0.out.triV
  clear hW
  go_enter Tryd.func27, Tryd.ntmps27
  go_upto_region 1 with (fail)
  rw [HW.out]
  go_wp2_with fail
  refine (implValueOk_any 1 n ⟨#[]⟩ _).mono ?_
  rintro e w1 ⟨rfl, hb1⟩
  rw [HG.out]
  have X1 : Hid (Box w1 w.heap.size #[.int .i64 1, .int .i64 n, .string ⟨#[]⟩] 38) := X0.out.below hb1 X0.out.lt
  have HB1 : Hid (Below w.heap.size w w1) := HB0.out.trans (hb1.mono HB0.out.size)
  clear hb1 c0 c1 c2
  obtain ⟨c0, c1, c2⟩ := X1.out.triV
  go_wp2_with fail
  refine (flagText_any n _).mono ?_
  rintro e w2 ⟨⟨t, rfl, ht⟩, hb2⟩
  have HTX : Hid (t.data.toList = L) := ht.trans hL
  have HB2 : Hid (Below w.heap.size w w2) := HB1.out.trans (hb2.mono HB1.out.size)
  clear hb2 ht hL
  go_wp2
  go_ret
  exact ⟨⟨_, rfl, HTX.out⟩, HB2.out⟩
set_option maxHeartbeats 4000000 in
set_option maxRecDepth 100000 in
theorem implVT_int (n : Int) (hn : -1000000000000 ≤ n ∧ n ≤ 1000000000000) (w : World) (hT : PowT w) :
    Calls Tryd.prog 27 #[VaV 2 n ⟨#[]⟩] w fun e w' => TextSays e (itoa n) ∧ Below w.heap.size w w' := by
  have HG : Hid (decide (VaGood 2 n ⟨#[]⟩) = true) := decide_eq_true (by unfold VaGood; exact .inr (.inr (.inl ⟨rfl, hn, rfl⟩)))
  have HT : Hid (PowT w) := hT
  clear hT
  obtain ⟨W, hW⟩ : ∃ W, w.alloc (.cells #[.int .i64 2, .int .i64 n, .string ⟨#[]⟩] 38) = W := ⟨_, rfl⟩
  have HB0 : Hid (Below w.heap.size w W) := by rw [← hW]; exact (Below.refl _ w).alloc (Nat.le_refl _) _
  have X0 : Hid (Box W w.heap.size #[.int .i64 2, .int .i64 n, .string ⟨#[]⟩] 38) := by rw [← hW]; exact box_of w _ _
  have HW : Hid (w.alloc (.cells #[.int .i64 2, .int .i64 n, .string ⟨#[]⟩] 38) = W) := hW
  obtain ⟨c0, c1, c2⟩ := X0.out.triV
  clear hW
  go_enter Tryd.func27, Tryd.ntmps27
  go_upto_region 1 with (fail)
  rw [HW.out]
  go_wp2_with fail
  refine (implValueOk_any 2 n ⟨#[]⟩ _).mono ?_
  rintro e w1 ⟨rfl, hb1⟩
  rw [HG.out]
  have X1 : Hid (Box w1 w.heap.size #[.int .i64 2, .int .i64 n, .string ⟨#[]⟩] 38) := X0.out.below hb1 X0.out.lt
  have HB1 : Hid (Below w.heap.size w w1) := HB0.out.trans (hb1.mono HB0.out.size)
  clear hb1 c0 c1 c2
  obtain ⟨c0, c1, c2⟩ := X1.out.triV
  go_wp2_with fail
  refine (implDigits_any n (by omega) (by omega) _ (HT.out.below HB1.out (Nat.le_refl _)).pow).mono ?_
  rintro e w2 ⟨rfl, hb2⟩
  have HB2 : Hid (Below w.heap.size w w2) := HB1.out.trans (hb2.mono HB1.out.size)
  clear hb2
  go_wp2
  go_ret
  exact ⟨⟨_, rfl, rfl⟩, HB2.out⟩
set_option maxHeartbeats 4000000 in
set_option maxRecDepth 100000 in
theorem implVT_text (s : ByteArray) (hs : s.size ≤ 20) (w : World) (hT : PowT w) :
    Calls Tryd.prog 27 #[VaV 3 0 s] w fun e w' => TextSays e (34 :: hexB s.data.toList) ∧ Below w.heap.size w w' := by
  have HG : Hid (decide (VaGood 3 0 s) = true) := decide_eq_true (by unfold VaGood; exact .inr (.inr (.inr ⟨rfl, rfl, hs⟩)))
  have HT : Hid (PowT w) := hT
  clear hT
  obtain ⟨W, hW⟩ : ∃ W, w.alloc (.cells #[.int .i64 3, .int .i64 0, .string s] 38) = W := ⟨_, rfl⟩
  have HB0 : Hid (Below w.heap.size w W) := by rw [← hW]; exact (Below.refl _ w).alloc (Nat.le_refl _) _
  have X0 : Hid (Box W w.heap.size #[.int .i64 3, .int .i64 0, .string s] 38) := by rw [← hW]; exact box_of w _ _
  have HW : Hid (w.alloc (.cells #[.int .i64 3, .int .i64 0, .string s] 38) = W) := hW
  obtain ⟨c0, c1, c2⟩ := X0.out.triV
  clear hW
  go_enter Tryd.func27, Tryd.ntmps27
  go_upto_region 1 with (fail)
  rw [HW.out]
  go_wp2_with fail
  refine (implValueOk_any 3 0 s _).mono ?_
  rintro e w1 ⟨rfl, hb1⟩
  rw [HG.out]
  have X1 : Hid (Box w1 w.heap.size #[.int .i64 3, .int .i64 0, .string s] 38) := X0.out.below hb1 X0.out.lt
  have HB1 : Hid (Below w.heap.size w w1) := HB0.out.trans (hb1.mono HB0.out.size)
  clear hb1 c0 c1 c2
  obtain ⟨c0, c1, c2⟩ := X1.out.triV
  go_wp2_with fail
  refine (hexText_any s hs _).mono ?_
  rintro e w2 ⟨⟨u, rfl, hu⟩, hb2⟩
  have HB2 : Hid (Below w.heap.size w w2) := HB1.out.trans (hb2.mono HB1.out.size)
  have hul : u.size ≤ 40 := by
    have h1 := congrArg List.length hu
    rw [hex_len] at h1
    have h2 : u.data.toList.length = u.size := by simp
    have h3 : s.data.toList.length = s.size := by simp
    omega
  have HV : Hid ((⟨#[34]⟩ ++ u : ByteArray).data.toList = 34 :: hexB s.data.toList) := by show _ = _; rw [show (⟨#[34]⟩ ++ u : ByteArray).data.toList = 34 :: u.data.toList by simp, hu]
  have hc1 : (⟨#[34]⟩ : ByteArray).size + u.size ≤ 9223372036854775807 := by show 1 + u.size ≤ _; omega
  have hc2 : ¬ 9223372036854775807 < (⟨#[34]⟩ : ByteArray).size + u.size := by omega
  have hc3 : 1 + u.size ≤ 9223372036854775807 := hc1
  have hc4 : ¬ 9223372036854775807 < 1 + u.size := hc2
  clear hb2 hu hul
  go_wp2
  go_ret
  exact ⟨⟨_, rfl, HV.out⟩, HB2.out⟩
theorem implValueText_any (k n : Int) (s : ByteArray) (w : World) (hT : PowT w) :
    Calls Tryd.prog 27 #[VaV k n s] w fun e w' => TextSays e (valB k n s) ∧ Below w.heap.size w w' := by
  by_cases hg : VaGood k n s
  · unfold valB
    rw [if_neg (fun h => h hg)]
    rcases hg with ⟨rfl, rfl, h2⟩ | ⟨rfl, h1, h2⟩ | ⟨rfl, h1, h2⟩ | ⟨rfl, rfl, h2⟩
    · rw [str_nil h2]
      exact implVT_null w hT
    · rw [str_nil h2]
      exact implVT_flag n h1 _ rfl w hT
    · rw [str_nil h2]
      exact implVT_int n h1 w hT
    · exact implVT_text s h2 w hT
  · unfold valB
    rw [if_pos hg]
    exact implVT_bad k n s hg w hT
end Go.Proofs.YtgibeakclknhnabDoor
