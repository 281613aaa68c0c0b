/- Texts joined: SpecVa. -/
import Derived.Test.YtmgofehafjogfaaSH01
import Derived.Test.YtmgofehafjogfaaSH09
import Derived.Test.YtmgofehafjogfaaRows
import Derived.Deep.Cut
set_option maxHeartbeats 4000000
set_option maxRecDepth 100000
namespace Go.Proofs.Ytmgofehafjogfaa
section
open Go.ChangeShapes Go.WideShapes Go.ChangeAt Go.RowKit
theorem specValueOk_any (k n : Int) (s : ByteArray) (w : World) :
    Calls Try.prog 49 #[VaV k n s] w fun e w' => e = .returned (.bool (decide (VaGood k n s))) ∧ Below w.heap.size w w' := by
  obtain ⟨B, hB⟩ : ∃ B, decide (VaGood k n s) = B := ⟨_, rfl⟩
  rw [hB]
  have HB : Hid (decide (VaGood k n s) = B) := hB
  clear hB
  obtain ⟨W, hW⟩ : ∃ W, w.alloc (.cells #[.int .i64 k, .int .i64 n, .string s] 43) = W := ⟨_, rfl⟩
  have HB0 : Hid (Below w.heap.size w W) := by rw [← hW]; exact (Below.refl _ w).alloc (Nat.le_refl _) _
  have X0 : Hid (Box W w.heap.size #[.int .i64 k, .int .i64 n, .string s] 43) := by rw [← hW]; exact box_of w _ _
  have HW : Hid (w.alloc (.cells #[.int .i64 k, .int .i64 n, .string s] 43) = W) := hW
  clear hW
  have hk : k = 0 ∨ k = 1 ∨ k = 2 ∨ k = 3 ∨ (¬ k = 0 ∧ ¬ k = 1 ∧ ¬ k = 2 ∧ ¬ k = 3) := by omega
  rcases hk with rfl | rfl | rfl | rfl | ⟨hk0, hk1, hk2, hk3⟩
  · by_cases hn : n = 0 <;> by_cases hs : s.size = 0
    · have HBV : Hid (B = true) := by
        show _ = _
        rw [← HB.out]
        exact decide_eq_true (by unfold VaGood; omega)
      rw [HBV.out]
      obtain rfl := str_nil hs
      subst hn
      obtain ⟨c0, c1, c2⟩ := X0.out.triV
      go_enter Try.func49, Try.ntmps49
      go_upto_region 1 with (fail)
      rw [HW.out]
      go_wp2
      go_ret
      exact ⟨rfl, HB0.out⟩
    · have HBV : Hid (B = false) := by
        show _ = _
        rw [← HB.out]
        exact decide_eq_false (by unfold VaGood; omega)
      rw [HBV.out]
      have hse := str_some hs
      subst hn
      obtain ⟨c0, c1, c2⟩ := X0.out.triV
      go_enter Try.func49, Try.ntmps49
      go_upto_region 1 with (fail)
      rw [HW.out]
      go_wp2
      go_ret
      exact ⟨rfl, HB0.out⟩
    · have HBV : Hid (B = false) := by
        show _ = _
        rw [← HB.out]
        exact decide_eq_false (by unfold VaGood; omega)
      rw [HBV.out]
      obtain rfl := str_nil hs
      obtain ⟨c0, c1, c2⟩ := X0.out.triV
      have hnb : (n == 0) = false := by simpa using hn
      go_enter Try.func49, Try.ntmps49
      go_upto_region 1 with (fail)
      rw [HW.out]
      go_wp2
      go_ret
      exact ⟨rfl, HB0.out⟩
    · have HBV : Hid (B = false) := by
        show _ = _
        rw [← HB.out]
        exact decide_eq_false (by unfold VaGood; omega)
      rw [HBV.out]
      have hse := str_some hs
      obtain ⟨c0, c1, c2⟩ := X0.out.triV
      have hnb : (n == 0) = false := by simpa using hn
      go_enter Try.func49, Try.ntmps49
      go_upto_region 1 with (fail)
      rw [HW.out]
      go_wp2
      go_ret
      exact ⟨rfl, HB0.out⟩
  · by_cases hn : 0 ≤ n ∧ n ≤ 1 <;> by_cases hs : s.size = 0
    · have HBV : Hid (B = true) := by
        show _ = _
        rw [← HB.out]
        exact decide_eq_true (by unfold VaGood; omega)
      rw [HBV.out]
      obtain rfl := str_nil hs
      have hin : inB n 0 1 = true := inB_yes hn
      obtain ⟨c0, c1, c2⟩ := X0.out.triV
      go_enter Try.func49, Try.ntmps49
      go_upto_region 1 with (fail)
      rw [HW.out]
      go_wp2_with fail
      refine (l1In_g n 0 1 _).mono ?_
      rintro e w1 ⟨rfl, hw1⟩
      rw [hw1, hin]
      clear hw1
      go_wp2
      go_ret
      exact ⟨rfl, HB0.out⟩
    · have HBV : Hid (B = false) := by
        show _ = _
        rw [← HB.out]
        exact decide_eq_false (by unfold VaGood; omega)
      rw [HBV.out]
      have hse := str_some hs
      have hin : inB n 0 1 = true := inB_yes hn
      obtain ⟨c0, c1, c2⟩ := X0.out.triV
      go_enter Try.func49, Try.ntmps49
      go_upto_region 1 with (fail)
      rw [HW.out]
      go_wp2_with fail
      refine (l1In_g n 0 1 _).mono ?_
      rintro e w1 ⟨rfl, hw1⟩
      rw [hw1, hin]
      clear hw1
      go_wp2
      go_ret
      exact ⟨rfl, HB0.out⟩
    · have HBV : Hid (B = false) := by
        show _ = _
        rw [← HB.out]
        exact decide_eq_false (by unfold VaGood; omega)
      rw [HBV.out]
      obtain rfl := str_nil hs
      have hin : inB n 0 1 = false := inB_no hn
      obtain ⟨c0, c1, c2⟩ := X0.out.triV
      go_enter Try.func49, Try.ntmps49
      go_upto_region 1 with (fail)
      rw [HW.out]
      go_wp2_with fail
      refine (l1In_g n 0 1 _).mono ?_
      rintro e w1 ⟨rfl, hw1⟩
      rw [hw1, hin]
      clear hw1
      go_wp2
      go_ret
      exact ⟨rfl, HB0.out⟩
    · have HBV : Hid (B = false) := by
        show _ = _
        rw [← HB.out]
        exact decide_eq_false (by unfold VaGood; omega)
      rw [HBV.out]
      have hse := str_some hs
      have hin : inB n 0 1 = false := inB_no hn
      obtain ⟨c0, c1, c2⟩ := X0.out.triV
      go_enter Try.func49, Try.ntmps49
      go_upto_region 1 with (fail)
      rw [HW.out]
      go_wp2_with fail
      refine (l1In_g n 0 1 _).mono ?_
      rintro e w1 ⟨rfl, hw1⟩
      rw [hw1, hin]
      clear hw1
      go_wp2
      go_ret
      exact ⟨rfl, HB0.out⟩
  · by_cases hn : -1000000000000 ≤ n ∧ n ≤ 1000000000000 <;> by_cases hs : s.size = 0
    · have HBV : Hid (B = true) := by
        show _ = _
        rw [← HB.out]
        exact decide_eq_true (by unfold VaGood; omega)
      rw [HBV.out]
      obtain rfl := str_nil hs
      have hin : inB n (-1000000000000) 1000000000000 = true := inB_yes hn
      obtain ⟨c0, c1, c2⟩ := X0.out.triV
      go_enter Try.func49, Try.ntmps49
      go_upto_region 1 with (fail)
      rw [HW.out]
      go_wp2_with fail
      refine (l1In_g n (-1000000000000) 1000000000000 _).mono ?_
      rintro e w1 ⟨rfl, hw1⟩
      rw [hw1, hin]
      clear hw1
      go_wp2
      go_ret
      exact ⟨rfl, HB0.out⟩
    · have HBV : Hid (B = false) := by
        show _ = _
        rw [← HB.out]
        exact decide_eq_false (by unfold VaGood; omega)
      rw [HBV.out]
      have hse := str_some hs
      have hin : inB n (-1000000000000) 1000000000000 = true := inB_yes hn
      obtain ⟨c0, c1, c2⟩ := X0.out.triV
      go_enter Try.func49, Try.ntmps49
      go_upto_region 1 with (fail)
      rw [HW.out]
      go_wp2_with fail
      refine (l1In_g n (-1000000000000) 1000000000000 _).mono ?_
      rintro e w1 ⟨rfl, hw1⟩
      rw [hw1, hin]
      clear hw1
      go_wp2
      go_ret
      exact ⟨rfl, HB0.out⟩
    · have HBV : Hid (B = false) := by
        show _ = _
        rw [← HB.out]
        exact decide_eq_false (by unfold VaGood; omega)
      rw [HBV.out]
      obtain rfl := str_nil hs
      have hin : inB n (-1000000000000) 1000000000000 = false := inB_no hn
      obtain ⟨c0, c1, c2⟩ := X0.out.triV
      go_enter Try.func49, Try.ntmps49
      go_upto_region 1 with (fail)
      rw [HW.out]
      go_wp2_with fail
      refine (l1In_g n (-1000000000000) 1000000000000 _).mono ?_
      rintro e w1 ⟨rfl, hw1⟩
      rw [hw1, hin]
      clear hw1
      go_wp2
      go_ret
      exact ⟨rfl, HB0.out⟩
    · have HBV : Hid (B = false) := by
        show _ = _
        rw [← HB.out]
        exact decide_eq_false (by unfold VaGood; omega)
      rw [HBV.out]
      have hse := str_some hs
      have hin : inB n (-1000000000000) 1000000000000 = false := inB_no hn
      obtain ⟨c0, c1, c2⟩ := X0.out.triV
      go_enter Try.func49, Try.ntmps49
      go_upto_region 1 with (fail)
      rw [HW.out]
      go_wp2_with fail
      refine (l1In_g n (-1000000000000) 1000000000000 _).mono ?_
      rintro e w1 ⟨rfl, hw1⟩
      rw [hw1, hin]
      clear hw1
      go_wp2
      go_ret
      exact ⟨rfl, HB0.out⟩
  · by_cases hn : n = 0 <;> by_cases hs : s.size ≤ 20
    · have HBV : Hid (B = true) := by
        show _ = _
        rw [← HB.out]
        exact decide_eq_true (by unfold VaGood; omega)
      rw [HBV.out]
      have hsz : ((s.size : Int) ≤ 20) := by omega
      subst hn
      obtain ⟨c0, c1, c2⟩ := X0.out.triV
      go_enter Try.func49, Try.ntmps49
      go_upto_region 1 with (fail)
      rw [HW.out]
      go_wp2
      go_ret
      exact ⟨rfl, HB0.out⟩
    · have HBV : Hid (B = false) := by
        show _ = _
        rw [← HB.out]
        exact decide_eq_false (by unfold VaGood; omega)
      rw [HBV.out]
      have hsz : ¬ ((s.size : Int) ≤ 20) := by omega
      subst hn
      obtain ⟨c0, c1, c2⟩ := X0.out.triV
      go_enter Try.func49, Try.ntmps49
      go_upto_region 1 with (fail)
      rw [HW.out]
      go_wp2
      go_ret
      exact ⟨rfl, HB0.out⟩
    · have HBV : Hid (B = false) := by
        show _ = _
        rw [← HB.out]
        exact decide_eq_false (by unfold VaGood; omega)
      rw [HBV.out]
      have hsz : ((s.size : Int) ≤ 20) := by omega
      obtain ⟨c0, c1, c2⟩ := X0.out.triV
      have hnb : (n == 0) = false := by simpa using hn
      go_enter Try.func49, Try.ntmps49
      go_upto_region 1 with (fail)
      rw [HW.out]
      go_wp2
      go_ret
      exact ⟨rfl, HB0.out⟩
    · have HBV : Hid (B = false) := by
        show _ = _
        rw [← HB.out]
        exact decide_eq_false (by unfold VaGood; omega)
      rw [HBV.out]
      have hsz : ¬ ((s.size : Int) ≤ 20) := by omega
      obtain ⟨c0, c1, c2⟩ := X0.out.triV
      have hnb : (n == 0) = false := by simpa using hn
      go_enter Try.func49, Try.ntmps49
      go_upto_region 1 with (fail)
      rw [HW.out]
      go_wp2
      go_ret
      exact ⟨rfl, HB0.out⟩
  · have HBV : Hid (B = false) := by
      show _ = _
      rw [← HB.out]
      exact decide_eq_false (by unfold VaGood; omega)
    rw [HBV.out]
    obtain ⟨c0, c1, c2⟩ := X0.out.triV
    go_enter Try.func49, Try.ntmps49
    go_upto_region 1 with (fail)
    rw [HW.out]
    go_wp2
    go_ret
    exact ⟨rfl, HB0.out⟩
end
end Go.Proofs.Ytmgofehafjogfaa
