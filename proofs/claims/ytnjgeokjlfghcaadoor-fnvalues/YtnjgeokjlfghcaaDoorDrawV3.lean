/- The drawing of values for a law, walked: one value. -/
import Derived.Test.YtnjgeokjlfghcaaDoorDrawV2
import Derived.Test.YtnjgeokjlfghcaaDoorOnceL
import Derived.Deep.RegionHeld3
import Derived.Deep.Cut
namespace Go.Proofs.YtnjgeokjlfghcaaDoor
open Go.ChangeShapes Go.WideShapes Go.ChangeAt Go.RowKit

theorem bytes_nowV {w w' : World} {a : Option Addr} {n : Nat} (h : BytesAt w w.heap.size a n) (hb : Below w.heap.size w w') : BytesAt w' w'.heap.size a n :=
  (h.keep fun k hk => hb.block k hk).mono hb.size
set_option maxHeartbeats 4000000 in
set_option maxRecDepth 100000 in
theorem drawValueOk_any (a : Option Addr) (n c : Nat) (w : World) (hn : n ≤ 1048576) (hB : BytesAt w w.heap.size a n) :
    Calls Tryd.prog 8 #[.slice a n c] w fun e w' => ∃ (k m : Int) (s : ByteArray), e = .returned (VaV k m s) ∧ (s.size ≤ 40 ∧ (-9223372036854775808 ≤ k ∧ k ≤ 9223372036854775807) ∧ (-9223372036854775808 ≤ m ∧ m ≤ 9223372036854775807)) ∧ Below w.heap.size w w' := by
  obtain ⟨W, hW⟩ : ∃ W, w.alloc (.cells #[.int .i64 0, .int .i64 0, .string ⟨#[]⟩] 25) = W := ⟨_, rfl⟩
  have HW : Hid (w.alloc (.cells #[.int .i64 0, .int .i64 0, .string ⟨#[]⟩] 25) = W) := hW
  have B0 : Hid (Below w.heap.size w W) := by rw [← hW]; exact (Below.refl _ w).alloc (Nat.le_refl _) _
  have R0 : Hid (Box W w.heap.size #[.int .i64 0, .int .i64 0, .string ⟨#[]⟩] 25) := by rw [← hW]; exact box_of w _ _
  have HB : Hid (BytesAt W W.heap.size a n) := bytes_nowV hB B0.out
  clear hW hB
  go_enter Tryd.func8, Tryd.ntmps8
  go_upto_region 1 with (fail)
  rw [HW.out]
  go_wp2_with fail
  refine (l1New_any a n c _ hn HB.out).mono ?_
  rintro e w1 ⟨rfl, hC, hb, hz⟩
  have HC1 : Hid (Cur 50 w1 W.heap.size a n c) := hC
  have R1 : Hid (Box w1 w.heap.size #[.int .i64 0, .int .i64 0, .string ⟨#[]⟩] 25) := R0.out.below hb R0.out.lt
  have B1 : Hid (Below w.heap.size w w1) := B0.out.trans (hb.mono B0.out.size)
  have hpn : ¬ w.heap.size = W.heap.size := by have := R0.out.lt; omega
  have HPW : Hid (w.heap.size ≤ W.heap.size) := B0.out.size
  clear hC hb hz
  go_wp2_with fail
  refine (l17Draw_any W.heap.size a n c w1 HC1.out).mono ?_
  rintro e w2 ⟨k, m, s, rfl, hg, hC2, hO2⟩
  have HGD : Hid (s.size ≤ 40 ∧ (-9223372036854775808 ≤ k ∧ k ≤ 9223372036854775807) ∧ (-9223372036854775808 ≤ m ∧ m ≤ 9223372036854775807)) := hg
  have R2 : Hid (Box w2 w.heap.size #[.int .i64 0, .int .i64 0, .string ⟨#[]⟩] 25) := R1.out.farG hO2 hpn
  have B2 : Hid (Below w.heap.size w w2) := B1.out.grown hO2 B1.out.size (fun k hk => by cases hk; exact HPW.out)
  clear hg hC2 hO2
  obtain ⟨c0, c1, c2⟩ := R2.out.triV
  have f0 := R2.out.frozen 0
  have f1 := R2.out.frozen 1
  have f2 := R2.out.frozen 2
  go_wp2
  have E := ((R2.out.put 0 (.int .i64 k)).put 1 (.int .i64 m)).put 2 (.string s)
  have q0 := E.cell 0
  have q1 := E.cell 1
  have q2 := E.cell 2
  (try simp only [Exit.inBlock, Exit.then])
  refine bodyPost_ret (by simp [results, Tryd.results8, go_sem, q0, q1, q2]; try rfl) rfl ?_
  exact ⟨k, m, s, rfl, HGD.out, ((B2.out.setCell (Nat.le_refl _) _).setCell (Nat.le_refl _) _).setCell (Nat.le_refl _) _⟩
set_option maxHeartbeats 4000000 in
set_option maxRecDepth 100000 in
theorem drawValueText_any (a : Option Addr) (n c : Nat) (w : World) (hn : n ≤ 1048576) (hB : BytesAt w w.heap.size a n) :
    Calls Tryd.prog 9 #[.slice a n c] w fun e w' => ∃ (k m : Int) (s : ByteArray), e = .returned (VaV k m s) ∧ (s.size ≤ 40 ∧ (-9223372036854775808 ≤ k ∧ k ≤ 9223372036854775807) ∧ (-9223372036854775808 ≤ m ∧ m ≤ 9223372036854775807)) ∧ Below w.heap.size w w' := by
  obtain ⟨W, hW⟩ : ∃ W, w.alloc (.cells #[.int .i64 0, .int .i64 0, .string ⟨#[]⟩] 25) = W := ⟨_, rfl⟩
  have HW : Hid (w.alloc (.cells #[.int .i64 0, .int .i64 0, .string ⟨#[]⟩] 25) = W) := hW
  have B0 : Hid (Below w.heap.size w W) := by rw [← hW]; exact (Below.refl _ w).alloc (Nat.le_refl _) _
  have R0 : Hid (Box W w.heap.size #[.int .i64 0, .int .i64 0, .string ⟨#[]⟩] 25) := by rw [← hW]; exact box_of w _ _
  have HB : Hid (BytesAt W W.heap.size a n) := bytes_nowV hB B0.out
  clear hW hB
  go_enter Tryd.func9, Tryd.ntmps9
  go_upto_region 1 with (fail)
  rw [HW.out]
  go_wp2_with fail
  refine (l1New_any a n c _ hn HB.out).mono ?_
  rintro e w1 ⟨rfl, hC, hb, hz⟩
  have HC1 : Hid (Cur 50 w1 W.heap.size a n c) := hC
  have R1 : Hid (Box w1 w.heap.size #[.int .i64 0, .int .i64 0, .string ⟨#[]⟩] 25) := R0.out.below hb R0.out.lt
  have B1 : Hid (Below w.heap.size w w1) := B0.out.trans (hb.mono B0.out.size)
  have hpn : ¬ w.heap.size = W.heap.size := by have := R0.out.lt; omega
  have HPW : Hid (w.heap.size ≤ W.heap.size) := B0.out.size
  clear hC hb hz
  go_wp2_with fail
  refine (l17Draw_any W.heap.size a n c w1 HC1.out).mono ?_
  rintro e w2 ⟨k, m, s, rfl, hg, hC2, hO2⟩
  have HGD : Hid (s.size ≤ 40 ∧ (-9223372036854775808 ≤ k ∧ k ≤ 9223372036854775807) ∧ (-9223372036854775808 ≤ m ∧ m ≤ 9223372036854775807)) := hg
  have R2 : Hid (Box w2 w.heap.size #[.int .i64 0, .int .i64 0, .string ⟨#[]⟩] 25) := R1.out.farG hO2 hpn
  have B2 : Hid (Below w.heap.size w w2) := B1.out.grown hO2 B1.out.size (fun k hk => by cases hk; exact HPW.out)
  clear hg hC2 hO2
  obtain ⟨c0, c1, c2⟩ := R2.out.triV
  have f0 := R2.out.frozen 0
  have f1 := R2.out.frozen 1
  have f2 := R2.out.frozen 2
  go_wp2
  have E := ((R2.out.put 0 (.int .i64 k)).put 1 (.int .i64 m)).put 2 (.string s)
  have q0 := E.cell 0
  have q1 := E.cell 1
  have q2 := E.cell 2
  (try simp only [Exit.inBlock, Exit.then])
  refine bodyPost_ret (by simp [results, Tryd.results9, go_sem, q0, q1, q2]; try rfl) rfl ?_
  exact ⟨k, m, s, rfl, HGD.out, ((B2.out.setCell (Nat.le_refl _) _).setCell (Nat.le_refl _) _).setCell (Nat.le_refl _) _⟩
end Go.Proofs.YtnjgeokjlfghcaaDoor
