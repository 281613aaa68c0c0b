/- Texts joined: ImplVu, ImplRt, AsX, AsH, ImplTof. -/
import Derived.Test.YtgibeakclknhnabDoorTO07
import Derived.Test.YtgibeakclknhnabDoorTO02
import Derived.Test.YtgibeakclknhnabDoorTO01
import Derived.WalkKit
import Derived.LaidEql
import Derived.Stop.Asserts
import Derived.RowKitTokens
import Derived.Test.YtgibeakclknhnabDoorTO06
import Derived.Test.YtgibeakclknhnabDoorTO03
set_option maxHeartbeats 4000000
set_option maxRecDepth 100000
namespace Go.Proofs.YtgibeakclknhnabDoor
section
open Go.ChangeShapes Go.WideShapes Go.ChangeAt Go.RowKit
theorem value_text (w : World) (R : Nat) (a : Option Addr) (n c : Nat) (l : List UInt8) (j : Nat) (h : RdAt w R a n c l j) (hR : R < w.heap.size) (hx : l[j]? = some 4) :
    Calls Tryd.prog 32 #[.pointer (some ⟨R, 0, none⟩)] w fun e w' => ValSays w R a n c l j e w' := by
  obtain ⟨B, hB⟩ : ∃ B, w.heap.size = B := ⟨_, rfl⟩
  have HBQ : Hid (w.heap.size = B) := hB
  obtain ⟨W, hW⟩ : ∃ W, w.alloc (.cells #[.int .i64 0, .int .i64 0, .string ⟨#[]⟩] 38) = W := ⟨_, rfl⟩
  have HW : Hid (w.alloc (.cells #[.int .i64 0, .int .i64 0, .string ⟨#[]⟩] 38) = W) := hW
  have H0 : Hid (RdAt W R a n c l j) := by rw [← hW]; exact h.below ((Below.refl _ w).alloc (Nat.le_refl _) _)
  have HG0 : Hid (w.grownBy W (some R)) := by rw [← hW]; exact World.grownBy_alloc w _ _
  have RB0 : Hid (Box W B #[.int .i64 0, .int .i64 0, .string ⟨#[]⟩] 38) := by rw [← hW, ← hB]; exact box_of w _ _
  have HLT : Hid (∀ ad, a = some ad → 0 < n → ad.block < B) := by have := h.bys.lt; rw [hB] at this; exact this
  have HR : Hid (R < B) := by rw [← hB]; exact hR
  have HN : Hid (n ≤ 2097152 ∧ l.length = n) := ⟨h.bys.2.1, h.bys.1⟩
  have HX : Hid (l[j]? = some 4) := hx
  have HJN : Hid (j < n) := by have := one_len hx; show j < n; rw [← h.bys.1]; exact this
  have HV1 : Hid (numV ((l.drop j).take 1) = 4) := by
    show _ = _
    rw [dropB hx, List.take_succ_cons, List.take_zero, numV_one]
    rfl
  obtain ⟨c0, c1, _, _⟩ := H0.out.box.two
  clear hW hB h hR hx
  go_enter Tryd.func32, Tryd.ntmps32
  go_upto_region 1 with (fail)
  rw [HW.out]
  (try rw [HBQ.out])
  go_wp2_with fail
  refine (number_ok W R a n c l j H0.out 1 (by have := HJN.out; omega) (by decide) (by decide)).mono ?_
  rintro e w1 ⟨rfl, h1, h2⟩
  rw [HV1.out]
  have HRD1 : Hid (RdAt w1 R a n c l (j + 1)) := h1
  have HG1 : Hid (w.grownBy w1 (some R)) := HG0.out.trans h2
  have RB1 : Hid (Box w1 B #[.int .i64 0, .int .i64 0, .string ⟨#[]⟩] 38) := RB0.out.grown h2 (by have := HR.out; omega)
  clear h1 h2 c0 c1
  obtain ⟨g, hg⟩ : ∃ g, w1.heap.size = g := ⟨_, rfl⟩
  have HGQ : Hid (w1.heap.size = g) := hg
  have HBG : Hid (B < g) := by rw [← hg]; exact RB1.out.lt
  obtain ⟨W2, hW2⟩ : ∃ W2, w1.alloc (.cells #[.int .i64 3, .int .i64 0, .string ⟨#[]⟩] 38) = W2 := ⟨_, rfl⟩
  have HW2 : Hid (w1.alloc (.cells #[.int .i64 3, .int .i64 0, .string ⟨#[]⟩] 38) = W2) := hW2
  have hb2 : Below w.heap.size w1 W2 := by rw [← hW2]; exact (Below.refl _ w1).alloc (by rw [HBQ.out, hg]; exact Nat.le_of_lt HBG.out) _
  have X2 : Hid (Box W2 g #[.int .i64 3, .int .i64 0, .string ⟨#[]⟩] 38) := by rw [← hW2, ← hg]; exact box_of w1 _ _
  have RB2 : Hid (Box W2 B #[.int .i64 0, .int .i64 0, .string ⟨#[]⟩] 38) := by rw [← hW2]; exact RB1.out.alloc _
  have HG2 : Hid (w.grownBy W2 (some R)) := far_since HG1.out hb2
  have HRD2 : Hid (RdAt W2 R a n c l (j + 1)) := HRD1.out.since (by rw [← HBQ.out]; exact hb2) HR.out HLT.out
  clear hW2 hb2 hg
  go_upto_region 4 with (fail)
  rw [HW2.out, HGQ.out]
  obtain ⟨c0, c1, c2⟩ := X2.out.triV
  have HXB : True := trivial
  have XB2 : Hid (Box W2 g #[.int .i64 3, .int .i64 0, .string ⟨#[]⟩] 38) := X2.out
  clear HXB c0 c1 c2
  obtain ⟨c0, c1, c2⟩ := XB2.out.triV
  go_wp2_with fail
  refine (text_any W2 R a n c l (j + 1) HRD2.out HRD2.out.box.lt).mono ?_
  rintro e w3 ⟨⟨s, k, rfl, he, hk, h1⟩ | ⟨q, k, rfl, hno, h1⟩, h2⟩
  · have HT : Hid (l.drop (j + 1) = (escB s.data.toList ++ [0, 1]) ++ l.drop k) := he
    have HK : Hid (j + 1 < k) := hk
    have HKL : Hid (k ≤ l.length) := by have := h1.le; have := HN.out.2; show k ≤ _; omega
    clear he hk
    have XB3 : Hid (Box w3 g _ 38) := XB2.out.grown h2 (by have := HR.out; have := HBG.out; omega)
    have RB3 : Hid (Box w3 B #[.int .i64 0, .int .i64 0, .string ⟨#[]⟩] 38) := RB2.out.grown h2 (by have := HR.out; omega)
    have HG3 : Hid (w.grownBy w3 (some R)) := HG2.out.trans h2
    have HRD3 : Hid (RdAt w3 R a n c l _) := h1
    clear h1 h2 c0 c1 c2
    obtain ⟨W4, hW⟩ : ∃ W4, w3.setCell ⟨g, 2, none⟩ (.string s) = W4 := ⟨_, rfl⟩
    have HW4 : Hid (w3.setCell ⟨g, 2, none⟩ (.string s) = W4) := hW
    have hb : Below B w3 W4 := by rw [← hW]; exact (Below.refl B _).setCell (Nat.le_of_lt HBG.out) _
    have XB4 : Hid (Box W4 g #[.int .i64 3, .int .i64 0, .string s] 38) := by rw [← hW]; exact XB3.out.put 2 (.string s)
    have RB4 : Hid (Box W4 B #[.int .i64 0, .int .i64 0, .string ⟨#[]⟩] 38) := by rw [← hW]; exact RB3.out.set (Nat.ne_of_lt HBG.out) _
    have HG4 : Hid (w.grownBy W4 (some R)) := far_since HG3.out (by rw [HBQ.out]; exact hb)
    have HRD4 : Hid (RdAt W4 R a n c l _) := HRD3.out.since hb HR.out HLT.out
    obtain ⟨c0, c1, c2⟩ := XB3.out.triV
    have f2 := XB3.out.frozen 2
    clear hW hb
    go_upto_region 12 with (fail)
    rw [HW4.out]
    clear c0 c1 c2 f2
    by_cases hg : VaGood 3 0 s
    · have HGD : Hid (VaGood 3 0 s) := hg
      have HVG : Hid (decide (VaGood 3 0 s) = true) := decide_eq_true hg
      clear hg
      obtain ⟨c0, c1, c2⟩ := XB4.out.triV
      go_wp2_with fail
      refine (implValueOk_any 3 0 s _).mono ?_
      rintro e w9 ⟨rfl, hb⟩
      rw [HVG.out]
      have HRD9 : Hid (RdAt w9 R a n c l _) := HRD4.out.below hb
      have HG9 : Hid (w.grownBy w9 (some R)) := far_below_of HG4.out hb
      have RB9 : Hid (Box w9 B #[.int .i64 0, .int .i64 0, .string ⟨#[]⟩] 38) := RB4.out.below hb RB4.out.lt
      have XB9 : Hid (Box w9 g #[.int .i64 3, .int .i64 0, .string s] 38) := XB4.out.below hb XB4.out.lt
      clear hb c0 c1 c2
      obtain ⟨c0, c1, c2⟩ := XB9.out.triV
      obtain ⟨r0, r1, r2⟩ := RB9.out.triV
      have z0 := RB9.out.frozen 0
      have z1 := RB9.out.frozen 1
      have z2 := RB9.out.frozen 2
      go_wp2
      have E := ((RB9.out.put 0 (.int .i64 3)).put 1 (.int .i64 0)).put 2 (.string s)
      have q0 := E.cell 0
      have q1 := E.cell 1
      have q2 := E.cell 2
      refine bodyPost_ret (by simp [results, Tryd.results32, go_sem, q0, q1, q2]; try rfl) rfl ?_
      exact ⟨.inl ⟨(3, 0, s), _, rfl, (va_text HX.out HT.out HK.out HKL.out).2 HGD.out, HRD9.out.since (below_put3 _ _ _ _ _) HR.out HLT.out⟩, far_since HG9.out (by rw [HBQ.out]; exact below_put3 _ _ _ _ _)⟩
    · have HGD : Hid (¬ VaGood 3 0 s) := hg
      have HVG : Hid (decide (VaGood 3 0 s) = false) := decide_eq_false hg
      clear hg
      obtain ⟨c0, c1, c2⟩ := XB4.out.triV
      go_wp2_with fail
      refine (implValueOk_any 3 0 s _).mono ?_
      rintro e w9 ⟨rfl, hb⟩
      rw [HVG.out]
      have HRD9 : Hid (RdAt w9 R a n c l _) := HRD4.out.below hb
      have HG9 : Hid (w.grownBy w9 (some R)) := far_below_of HG4.out hb
      have RB9 : Hid (Box w9 B #[.int .i64 0, .int .i64 0, .string ⟨#[]⟩] 38) := RB4.out.below hb RB4.out.lt
      have XB9 : Hid (Box w9 g #[.int .i64 3, .int .i64 0, .string s] 38) := XB4.out.below hb XB4.out.lt
      clear hb c0 c1 c2
      obtain ⟨r0, r1, r2⟩ := RB9.out.triV
      have z0 := RB9.out.frozen 0
      have z1 := RB9.out.frozen 1
      have z2 := RB9.out.frozen 2
      go_wp2
      have E := ((RB9.out.put 0 (.int .i64 0)).put 1 (.int .i64 0)).put 2 (.string ⟨#[]⟩)
      have q0 := E.cell 0
      have q1 := E.cell 1
      have q2 := E.cell 2
      refine bodyPost_ret (by simp [results, Tryd.results32, go_sem, q0, q1, q2]; try rfl) rfl ?_
      exact ⟨.inr ⟨_, _, rfl, VaNo.of (va_text HX.out HT.out HK.out HKL.out).1 HGD.out, HRD9.out.since (below_put3 _ _ _ _ _) HR.out HLT.out⟩, far_since HG9.out (by rw [HBQ.out]; exact below_put3 _ _ _ _ _)⟩
  · have HNO : Hid (VaNo l j) := no_text HX.out hno
    clear hno
    have XB3 : Hid (Box w3 g _ 38) := XB2.out.grown h2 (by have := HR.out; have := HBG.out; omega)
    have RB3 : Hid (Box w3 B #[.int .i64 0, .int .i64 0, .string ⟨#[]⟩] 38) := RB2.out.grown h2 (by have := HR.out; omega)
    have HG3 : Hid (w.grownBy w3 (some R)) := HG2.out.trans h2
    have HRD3 : Hid (RdAt w3 R a n c l _) := h1
    clear h1 h2 c0 c1 c2
    obtain ⟨W4, hW⟩ : ∃ W4, w3.setCell ⟨g, 2, none⟩ (.string ⟨#[]⟩) = W4 := ⟨_, rfl⟩
    have HW4 : Hid (w3.setCell ⟨g, 2, none⟩ (.string ⟨#[]⟩) = W4) := hW
    have hb : Below B w3 W4 := by rw [← hW]; exact (Below.refl B _).setCell (Nat.le_of_lt HBG.out) _
    have XB4 : Hid (Box W4 g #[.int .i64 3, .int .i64 0, .string ⟨#[]⟩] 38) := by rw [← hW]; exact XB3.out.put 2 (.string ⟨#[]⟩)
    have RB4 : Hid (Box W4 B #[.int .i64 0, .int .i64 0, .string ⟨#[]⟩] 38) := by rw [← hW]; exact RB3.out.set (Nat.ne_of_lt HBG.out) _
    have HG4 : Hid (w.grownBy W4 (some R)) := far_since HG3.out (by rw [HBQ.out]; exact hb)
    have HRD4 : Hid (RdAt W4 R a n c l _) := HRD3.out.since hb HR.out HLT.out
    obtain ⟨c0, c1, c2⟩ := XB3.out.triV
    have f2 := XB3.out.frozen 2
    clear hW hb
    go_upto_region 12 with (fail)
    rw [HW4.out]
    clear c0 c1 c2 f2
    obtain ⟨r0, r1, r2⟩ := RB4.out.triV
    have z0 := RB4.out.frozen 0
    have z1 := RB4.out.frozen 1
    have z2 := RB4.out.frozen 2
    go_wp2
    have E := ((RB4.out.put 0 (.int .i64 0)).put 1 (.int .i64 0)).put 2 (.string ⟨#[]⟩)
    have q0 := E.cell 0
    have q1 := E.cell 1
    have q2 := E.cell 2
    refine bodyPost_ret (by simp [results, Tryd.results32, go_sem, q0, q1, q2]; try rfl) rfl ?_
    exact ⟨.inr ⟨_, _, rfl, HNO.out, HRD4.out.since (below_put3 _ _ _ _ _) HR.out HLT.out⟩, far_since HG4.out (by rw [HBQ.out]; exact below_put3 _ _ _ _ _)⟩
theorem value_none (w : World) (R : Nat) (a : Option Addr) (n c : Nat) (l : List UInt8) (j : Nat) (h : RdAt w R a n c l j) (hR : R < w.heap.size) (y : UInt8) (m : Nat) (hm : y.toNat = m) (hc : ¬ (1 ≤ m ∧ m ≤ 4)) (hx : l[j]? = some y) :
    Calls Tryd.prog 32 #[.pointer (some ⟨R, 0, none⟩)] w fun e w' => ValSays w R a n c l j e w' := by
  have HM : Hid (y.toNat = m) := hm
  have HC : Hid (¬ (1 ≤ m ∧ m ≤ 4)) := hc
  have hm256 : m < 256 := by rw [← hm]; exact y.toNat_lt
  have hk1 : (((m : Int) - 1) == 1) = false := by rw [beq_eq_false_iff_ne]; omega
  have hk2 : (((m : Int) - 1) == 2) = false := by rw [beq_eq_false_iff_ne]; omega
  have hk3 : (((m : Int) - 1) == 3) = false := by rw [beq_eq_false_iff_ne]; omega
  have hm0 : (0 : Int) ≤ (m : Int) := by omega
  have hm1 : (m : Int) < 256 := by omega
  clear hc
  obtain ⟨B, hB⟩ : ∃ B, w.heap.size = B := ⟨_, rfl⟩
  have HBQ : Hid (w.heap.size = B) := hB
  obtain ⟨W, hW⟩ : ∃ W, w.alloc (.cells #[.int .i64 0, .int .i64 0, .string ⟨#[]⟩] 38) = W := ⟨_, rfl⟩
  have HW : Hid (w.alloc (.cells #[.int .i64 0, .int .i64 0, .string ⟨#[]⟩] 38) = W) := hW
  have H0 : Hid (RdAt W R a n c l j) := by rw [← hW]; exact h.below ((Below.refl _ w).alloc (Nat.le_refl _) _)
  have HG0 : Hid (w.grownBy W (some R)) := by rw [← hW]; exact World.grownBy_alloc w _ _
  have RB0 : Hid (Box W B #[.int .i64 0, .int .i64 0, .string ⟨#[]⟩] 38) := by rw [← hW, ← hB]; exact box_of w _ _
  have HLT : Hid (∀ ad, a = some ad → 0 < n → ad.block < B) := by have := h.bys.lt; rw [hB] at this; exact this
  have HR : Hid (R < B) := by rw [← hB]; exact hR
  have HN : Hid (n ≤ 2097152 ∧ l.length = n) := ⟨h.bys.2.1, h.bys.1⟩
  have HX : Hid (l[j]? = some y) := hx
  have HJN : Hid (j < n) := by have := one_len hx; show j < n; rw [← h.bys.1]; exact this
  have HV1 : Hid (numV ((l.drop j).take 1) = (m : Int)) := by
    show _ = _
    rw [dropB hx, List.take_succ_cons, List.take_zero, numV_one]
    rw [hm]
  obtain ⟨c0, c1, _, _⟩ := H0.out.box.two
  clear hW hB h hR hx
  go_enter Tryd.func32, Tryd.ntmps32
  go_upto_region 1 with (fail)
  rw [HW.out]
  (try rw [HBQ.out])
  go_wp2_with fail
  refine (number_ok W R a n c l j H0.out 1 (by have := HJN.out; omega) (by decide) (by decide)).mono ?_
  rintro e w1 ⟨rfl, h1, h2⟩
  rw [HV1.out]
  have HRD1 : Hid (RdAt w1 R a n c l (j + 1)) := h1
  have HG1 : Hid (w.grownBy w1 (some R)) := HG0.out.trans h2
  have RB1 : Hid (Box w1 B #[.int .i64 0, .int .i64 0, .string ⟨#[]⟩] 38) := RB0.out.grown h2 (by have := HR.out; omega)
  clear h1 h2 c0 c1
  obtain ⟨g, hg⟩ : ∃ g, w1.heap.size = g := ⟨_, rfl⟩
  have HGQ : Hid (w1.heap.size = g) := hg
  have HBG : Hid (B < g) := by rw [← hg]; exact RB1.out.lt
  obtain ⟨W2, hW2⟩ : ∃ W2, w1.alloc (.cells #[.int .i64 ((m : Int) - 1), .int .i64 0, .string ⟨#[]⟩] 38) = W2 := ⟨_, rfl⟩
  have HW2 : Hid (w1.alloc (.cells #[.int .i64 ((m : Int) - 1), .int .i64 0, .string ⟨#[]⟩] 38) = W2) := hW2
  have hb2 : Below w.heap.size w1 W2 := by rw [← hW2]; exact (Below.refl _ w1).alloc (by rw [HBQ.out, hg]; exact Nat.le_of_lt HBG.out) _
  have X2 : Hid (Box W2 g #[.int .i64 ((m : Int) - 1), .int .i64 0, .string ⟨#[]⟩] 38) := by rw [← hW2, ← hg]; exact box_of w1 _ _
  have RB2 : Hid (Box W2 B #[.int .i64 0, .int .i64 0, .string ⟨#[]⟩] 38) := by rw [← hW2]; exact RB1.out.alloc _
  have HG2 : Hid (w.grownBy W2 (some R)) := far_since HG1.out hb2
  have HRD2 : Hid (RdAt W2 R a n c l (j + 1)) := HRD1.out.since (by rw [← HBQ.out]; exact hb2) HR.out HLT.out
  clear hW2 hb2 hg
  go_upto_region 4 with (fail)
  rw [HW2.out, HGQ.out]
  obtain ⟨c0, c1, c2⟩ := X2.out.triV
  have HXB : True := trivial
  have XB2 : Hid (Box W2 g #[.int .i64 ((m : Int) - 1), .int .i64 0, .string ⟨#[]⟩] 38) := X2.out
  clear HXB c0 c1 c2
  have HNO : Hid (VaNo l j) := no_none HX.out (by rw [HM.out]; exact HC.out)
  have HVG : Hid (decide (VaGood ((m : Int) - 1) 0 ⟨#[]⟩) = false) := decide_eq_false (by have := HC.out; unfold VaGood; omega)
  obtain ⟨c0, c1, c2⟩ := XB2.out.triV
  go_wp2_with fail
  refine (implValueOk_any ((m : Int) - 1) 0 ⟨#[]⟩ _).mono ?_
  rintro e w3 ⟨rfl, hb⟩
  rw [HVG.out]
  have HRD3 : Hid (RdAt w3 R a n c l _) := HRD2.out.below hb
  have HG3 : Hid (w.grownBy w3 (some R)) := far_below_of HG2.out hb
  have RB3 : Hid (Box w3 B #[.int .i64 0, .int .i64 0, .string ⟨#[]⟩] 38) := RB2.out.below hb RB2.out.lt
  have XB3 : Hid (Box w3 g #[.int .i64 ((m : Int) - 1), .int .i64 0, .string ⟨#[]⟩] 38) := XB2.out.below hb XB2.out.lt
  clear hb c0 c1 c2
  obtain ⟨r0, r1, r2⟩ := RB3.out.triV
  have z0 := RB3.out.frozen 0
  have z1 := RB3.out.frozen 1
  have z2 := RB3.out.frozen 2
  go_wp2
  have E := ((RB3.out.put 0 (.int .i64 0)).put 1 (.int .i64 0)).put 2 (.string ⟨#[]⟩)
  have q0 := E.cell 0
  have q1 := E.cell 1
  have q2 := E.cell 2
  refine bodyPost_ret (by simp [results, Tryd.results32, go_sem, q0, q1, q2]; try rfl) rfl ?_
  exact ⟨.inr ⟨_, _, rfl, HNO.out, HRD3.out.since (below_put3 _ _ _ _ _) HR.out HLT.out⟩, far_since HG3.out (by rw [HBQ.out]; exact below_put3 _ _ _ _ _)⟩
theorem value_any (w : World) (R : Nat) (a : Option Addr) (n c : Nat) (l : List UInt8) (j : Nat) (h : RdAt w R a n c l j) (hR : R < w.heap.size) (hj : j < n) :
    Calls Tryd.prog 32 #[.pointer (some ⟨R, 0, none⟩)] w fun e w' => ValSays w R a n c l j e w' := by
  have hl := h.bys.1
  obtain ⟨x, hx⟩ := h.byte hj
  by_cases h1 : x = 1
  · subst h1; exact value_null w R a n c l j h hR hx
  by_cases h2 : x = 2
  · subst h2
    by_cases hs : j + 1 < n
    · obtain ⟨y, hy⟩ : ∃ y, l[j + 1]? = some y := ⟨_, List.getElem?_eq_getElem (show j + 1 < l.length by omega)⟩
      exact value_flag w R a n c l j h hR y hy hx
    · exact value_flag0 w R a n c l j h hR hs hx
  by_cases h3 : x = 3
  · subst h3
    by_cases hs : j + 9 ≤ l.length
    · exact value_int w R a n c l j h hR hs hx
    · exact value_int0 w R a n c l j h hR (by omega) hx
  by_cases h4 : x = 4
  · subst h4; exact value_text w R a n c l j h hR hx
  · refine value_none w R a n c l j h hR x x.toNat rfl ?_ hx
    rintro ⟨g1, g2⟩
    have h5 : x.toNat = 1 ∨ x.toNat = 2 ∨ x.toNat = 3 ∨ x.toNat = 4 := by omega
    rcases h5 with e | e | e | e
    · exact h1 (UInt8.toNat_inj.1 e)
    · exact h2 (UInt8.toNat_inj.1 e)
    · exact h3 (UInt8.toNat_inj.1 e)
    · exact h4 (UInt8.toNat_inj.1 e)
def RtSays (w : World) (l : List UInt8) (e : Ending) (w' : World) : Prop :=
  ((∃ (v : Value) (L : List Va3), e = .returned (.tuple #[v, .nilIface]) ∧ VOwn w' w.heap.size v L ∧ TupIs l L) ∨ (∃ p : Int, e = .returned (.tuple #[.slice none 0 0, ErrV p]) ∧ ∀ M, ¬ TupIs l M)) ∧ Below w.heap.size w w'
theorem readTuple_any (a : Option Addr) (n c : Nat) (l : List UInt8) (w : World) (h : BysAt w a n l) (hc : n ≤ c) :
    Calls Tryd.prog 20 #[.slice a n c] w fun e w' => RtSays w l e w' := by
  obtain ⟨R, hR⟩ : ∃ R, w.heap.size = R := ⟨_, rfl⟩
  have HRQ : Hid (w.heap.size = R) := hR
  obtain ⟨W, hW⟩ : ∃ W, w.alloc (.cells #[.slice a n c, .int .i64 0] 65) = W := ⟨_, rfl⟩
  have HW : Hid (w.alloc (.cells #[.slice a n c, .int .i64 0] 65) = W) := hW
  have HLT : Hid (∀ ad, a = some ad → 0 < n → ad.block < R + 1) := fun ad e h0 => by have := h.lt ad e h0; rw [hR] at this; omega
  by_cases hn0 : n = 0
  · have HT : Hid (TupIs l []) := by
      have h1 : l = [] := List.length_eq_zero_iff.1 (by have := h.1; omega)
      rw [h1]
      exact ⟨⟨fun _ h => (by cases h), Nat.zero_le _⟩, rfl⟩
    have XB : Hid (Box W R #[.slice a n c, .int .i64 0] 65) := by rw [← hW, ← hR]; exact box_of w _ _
    have HB : Hid (Below w.heap.size w W) := by rw [← hW]; exact (Below.refl _ w).alloc (Nat.le_refl _) _
    subst hn0
    clear h hW hR hc HLT
    go_enter Tryd.func20, Tryd.ntmps20
    go_upto_region 2 with (fail)
    rw [HW.out]
    (try rw [HRQ.out])
    obtain ⟨c0, c1, _, _⟩ := XB.out.two
    go_wp2
    go_loopw [5] (fun v wr => v = .slice none 0 0 ∧ wr = W) (fun _ _ => 0)
    case atStart => exact ⟨rfl, rfl⟩
    case round =>
      obtain ⟨rfl, rfl⟩ := hrel
      go_wp2
      go_ret2
      exact ⟨.inl ⟨_, [], rfl, ⟨rfl, .inl ⟨rfl, rfl⟩⟩, HT.out⟩, HB.out⟩
  have HR0 : Hid (RdAt W R a n c l 0) := by
    refine ⟨by rw [← hW, ← hR]; exact box_of w _ _, by rw [← hW]; exact h.below ((Below.refl _ w).alloc (Nat.le_refl _) _) (Nat.le_refl _), fun ad e => ?_, Nat.zero_le _, hc⟩
    have := h.lt ad e (by omega)
    omega
  have HB0 : Hid (Below R w W) := by rw [← hW]; exact (Below.refl _ w).alloc (Nat.le_of_eq hR.symm) _
  have HS0 : Hid (R + 1 ≤ W.heap.size) := by rw [← hW, World.size_alloc, hR]; exact Nat.le_refl _
  have HN : Hid (n ≤ 2097152 ∧ l.length = n) := ⟨h.2.1, h.1⟩
  clear h hW hR hc hn0
  go_enter Tryd.func20, Tryd.ntmps20
  go_upto_region 2 with (fail)
  rw [HW.out]
  (try rw [HRQ.out])
  go_upto_region 3 with (fail)
  go_loopw [5] (fun v wr => ∃ (L : List Va3) (j : Nat), RdAt wr R a n c l j ∧ TupTo l L j ∧ VOwn wr (R + 1) v L ∧ Below R w wr ∧ R + 1 ≤ wr.heap.size) (fun _ wr => n - posOf wr R)
  case atStart => exact ⟨[], 0, HR0.out, TupTo.start l, ⟨rfl, .inl ⟨rfl, rfl⟩⟩, HB0.out, HS0.out⟩
  case round =>
    obtain ⟨L, j, hrd, htt, ho, hb, hs⟩ := hrel
    have HRD : Hid (RdAt wr R a n c l j) := hrd
    have HTT : Hid (TupTo l L j) := htt
    have HB : Hid (Below R w wr) := hb
    have HSZ : Hid (R + 1 ≤ wr.heap.size) := hs
    have HPOS : Hid (posOf wr R = j) := hrd.pos
    have hL4 := htt.len
    have hjn := hrd.le
    obtain ⟨va, vc, rfl, hvc, hvas⟩ := own_vas ho (by omega)
    have HO : Hid (VOwn wr (R + 1) (.slice va L.length vc) L) := ho
    obtain ⟨c0, c1, _, _⟩ := HRD.out.box.two
    clear hrd htt ho hb hs hvas
    by_cases hlt : j < n
    · have hk1 : (j : Int) < (n : Int) := by omega
      by_cases h4 : L.length = 4
      · have HNO : Hid (∀ M, ¬ TupIs l M) := HTT.out.many (by have := HN.out.2; omega) h4
        have hb4 : ((L.length : Int) == 4) = true := by rw [h4]; rfl
        clear h4
        go_upto_region 5 with (fail)
        go_region_held3 (fun w' => w'.cell? ⟨R, 0, none⟩ = some (.slice a n c) ∧ w'.cell? ⟨R, 1, none⟩ = some (.int .i64 (j : Int)))
          (first | (with_reducible exact ⟨c0, c1⟩) | go_keep)
          (fail)
        go_wp2
        go_ret2
        exact ⟨.inr ⟨_, rfl, HNO.out⟩, by rw [HRQ.out]; exact HB.out.drew⟩
      · have hb4 : ((L.length : Int) == 4) = false := by rw [beq_eq_false_iff_ne]; omega
        have HL4 : Hid (¬ L.length = 4) := h4
        clear h4
        go_wp2_with fail
        refine (value_any wr R a n c l j HRD.out (by have := HSZ.out; omega) hlt).mono ?_
        rintro e w1 ⟨⟨⟨xk, xn, xs⟩, k, rfl, hva, h1⟩ | ⟨p, k, rfl, hno, h1⟩, h2⟩
        · have HVA : Hid (VaIs l j (xk, xn, xs) k) := hva
          have HB1 : Hid (Below R w w1) := HB.out.grown h2 (by have := HSZ.out; omega) (fun q e => by cases e; exact Nat.le_refl _)
          have HO1 : Hid (VOwn w1 (R + 1) (.slice va L.length vc) L) := HO.out.kept h2 (.inr (fun e => by have := own_block HO.out R e; omega))
          have HSZ1 : Hid (R + 1 ≤ w1.heap.size) := Nat.le_trans HSZ.out h2.size
          have HTN : Hid (TupTo l (L ++ [(xk, xn, xs)]) k) := HTT.out.next (by have := HN.out.2; omega) HL4.out hva
          have HKJ : Hid (j < k) := hva.2.1.1
          obtain ⟨W2, hW2⟩ : ∃ W2, w1.alloc (.cells #[.int .i64 xk, .int .i64 xn, .string xs] 38) = W2 := ⟨_, rfl⟩
          have HW2 : Hid (w1.alloc (.cells #[.int .i64 xk, .int .i64 xn, .string xs] 38) = W2) := hW2
          have X2 : Hid (Box W2 w1.heap.size #[.int .i64 xk, .int .i64 xn, .string xs] 38) := by rw [← hW2]; exact box_of _ _ _
          have HRD2 : Hid (RdAt W2 R a n c l k) := by rw [← hW2]; exact h1.below ((Below.refl _ w1).alloc (Nat.le_refl _) _)
          have HB2 : Hid (Below R w W2) := by rw [← hW2]; exact HB1.out.alloc (by have := HSZ1.out; omega) _
          have HO2 : Hid (VOwn W2 (R + 1) (.slice va L.length vc) L) := by rw [← hW2]; exact HO1.out.alloc _
          have HSZ2 : Hid (R + 1 ≤ W2.heap.size) := by rw [← hW2]; exact Nat.le_trans HSZ1.out (by simp)
          clear hva h1 h2 hW2 c0 c1
          go_upto_region 7 with (fail)
          rw [HW2.out]
          obtain ⟨c0, c1, c2⟩ := X2.out.triV
          go_wp2_with
            (at_builtin
             refine list_appV _ rfl _ _ rfl (R + 1) (.slice va L.length vc) L rfl (HO2.out.alloc _) ⟨W2.heap.size, 0, none⟩ 1 1 [(xk, xn, xs)] rfl rfl (vnews _ _ rfl (xk, xn, xs)) (by omega) (by have := HSZ2.out; simp; omega) ?_
             intro v' w' hown hbel _
             have HO3 : Hid (VOwn w' (R + 1) v' (L ++ [(xk, xn, xs)])) := hown
             have hal : Below (R + 1) W2 w' := hbel W2 (R + 1) (Nat.le_refl _) ((Below.refl _ W2).alloc HSZ2.out _)
             have HB3 : Hid (Below R w w') := HB2.out.trans (hal.mono (Nat.le_succ R))
             have HRD3 : Hid (RdAt w' R a n c l k) := HRD2.out.since hal (Nat.lt_succ_self R) HLT.out
             have HSZ3 : Hid (R + 1 ≤ w'.heap.size) := Nat.le_trans HSZ2.out hal.size
             clear hown hbel hal)
          go_roundw
          case rel => exact ⟨L ++ [(xk, xn, xs)], k, HRD3.out, HTN.out, HO3.out, HB3.out, HSZ3.out⟩
          case measure => rw [HPOS.out, HRD3.out.pos]; have := HKJ.out; omega
        · have HNO : Hid (∀ M, ¬ TupIs l M) := HTT.out.no (by have := HN.out.2; omega) hno
          have HB1 : Hid (Below R w w1) := HB.out.grown h2 (by have := HSZ.out; omega) (fun q e => by cases e; exact Nat.le_refl _)
          have HSZ1 : Hid (R ≤ w1.heap.size) := by have := HSZ.out; have := h2.size; show R ≤ _; omega
          clear hno h1 h2 c0 c1
          go_wp2
          go_ret2
          exact ⟨.inr ⟨_, rfl, HNO.out⟩, by rw [HRQ.out]; exact HB1.out.alloc HSZ1.out _⟩
    · have hk1 : ¬ (j : Int) < (n : Int) := by omega
      have HT : Hid (TupIs l L) := HTT.out.done (by have := HN.out.2; omega)
      go_wp2
      go_ret2
      exact ⟨.inl ⟨_, L, rfl, by rw [HRQ.out]; exact own_weaken HO.out (Nat.le_succ R), HT.out⟩, by rw [HRQ.out]; exact HB.out⟩
end
section
open Go.RowKit Go.Extern.Stop Go.Stop Go.Extern
def asIsNil : Array Value → Sem Value := ReflectliteValue.method (ReflectliteValue.valueError "reflectlite.Value.IsNil" 0) ReflectliteValue.isNil
def asElem : Array Value → Sem Value := ReflectliteValue.method (ReflectliteValue.valueError "reflectlite.Value.Elem" 0) ReflectliteValue.elem
def asKind : Array Value → Sem Value := ReflectliteType.abiMethod fun t => do pure (.int .u8 (← Rtype.kind t))
theorem as_nil (t : Value) (w : World) :
    Calls Tryd.prog 21 #[.nilIface, t] w fun e w' => e = .returned (.bool false) ∧ w' = w := by
  go_enter Tryd.func21, Tryd.ntmps21
  go_wp2
  go_ret
  exact ⟨rfl, rfl⟩
theorem as_valueOfP (t : Addr) (w : World) : (ReflectliteValue.unpack (.iface 50 (.pointer (some t)))).run Tryd.prog w = .ok (.agg #[.pointer (some ⟨5, 50, none⟩), .pointer (some ⟨w.heap.size, 0, none⟩), .int .u64 150]) (w.alloc (.cells #[.pointer (some t)] 50)) := by kernel_rfl
theorem as_typeP (a : Addr) (w : World) : (ReflectliteValue.methodAny (ReflectliteValue.valueError "reflectlite.Value.Type" 0) (fun t _ _ _ => ReflectliteType.toType t) #[.agg #[.pointer (some ⟨5, 50, none⟩), .pointer (some a), .int .u64 150]]).run Tryd.prog w = .ok (.iface 95 (.agg #[.pointer (some ⟨5, 50, none⟩)])) w := by kernel_rfl
theorem as_methodKind (h : Value) (w : World) : (Go.method 258 95 (.agg #[h]) "Kind").run Tryd.prog w = .ok (86, h) w := by kernel_rfl
theorem as_kindP (w : World) : (asKind #[.pointer (some ⟨5, 50, none⟩)]).run Tryd.prog w = .ok (.int .u8 22) w := by kernel_rfl
theorem as_kindN (w : World) : (asKind #[.pointer (some ⟨5, 48, none⟩)]).run Tryd.prog w = .ok (.int .u8 25) w := by kernel_rfl
theorem as_rlm (z : Sem Value) (f : TypeId → Addr → Nat → Nat → Sem Value) (v : Value) :
    ReflectliteValue.method z f #[v] = (do match ← ReflectliteValue.parts v with | none => z | some (t, a, fl) => f t a fl (fl % 32)) := rfl
theorem as_partsP (a : Addr) (w : World) : (ReflectliteValue.parts (.agg #[.pointer (some ⟨5, 50, none⟩), .pointer (some a), .int .u64 150])).run Tryd.prog w = .ok (some (50, a, 150)) w := by kernel_rfl
theorem as_isNilP (a p : Addr) (W : World) (ha : W.cell? a = some (.pointer (some p))) : (asIsNil #[.agg #[.pointer (some ⟨5, 50, none⟩), .pointer (some a), .int .u64 150]]).run Tryd.prog W = .ok (.bool false) W := by
  unfold asIsNil
  rw [as_rlm]
  simp only [Sem.run_bind, as_partsP, Result.andThen]
  simp [ReflectliteValue.isNil, loadVar, isAgg, underlying, Tryd.underlying50, ha, Result.andThen]
theorem as_methodElem (h : Value) (w : World) : (Go.method 258 95 (.agg #[h]) "Elem").run Tryd.prog w = .ok (97, .agg #[h]) w := by kernel_rfl
theorem as_methodImplements (h : Value) (w : World) : (Go.method 258 95 (.agg #[h]) "Implements").run Tryd.prog w = .ok (98, .agg #[h]) w := by kernel_rfl
theorem as_methodAssignableTo (h : Value) (w : World) : (Go.method 258 95 (.agg #[h]) "AssignableTo").run Tryd.prog w = .ok (95, .agg #[h]) w := by kernel_rfl
theorem as_elemP (w : World) : (ReflectliteType.method ReflectliteType.elem #[.agg #[.pointer (some ⟨5, 50, none⟩)]]).run Tryd.prog w = .ok (.iface 95 (.agg #[.pointer (some ⟨5, 48, none⟩)])) w := by kernel_rfl
theorem as_implementsN (w : World) : (ReflectliteType.relation "Implements" ReflectliteType.implements_ #[.agg #[.pointer (some ⟨5, 48, none⟩)], .iface 95 (.agg #[.pointer (some ⟨5, 44, none⟩)])]).run Tryd.prog w = .ok (.bool true) w := by kernel_rfl
theorem as_typeOfN (v : Value) (w : World) : (ReflectliteType.typeOf #[.iface 48 v]).run Tryd.prog w = .ok (.iface 95 (.agg #[.pointer (some ⟨5, 48, none⟩)])) w := by kernel_rfl
theorem as_assignableN (w : World) : (ReflectliteType.relation "AssignableTo" ReflectliteType.assignableTo #[.agg #[.pointer (some ⟨5, 48, none⟩)], .iface 95 (.agg #[.pointer (some ⟨5, 48, none⟩)])]).run Tryd.prog w = .ok (.bool true) w := by kernel_rfl
theorem as_valueOfN (p : Int) (w : World) : (ReflectliteValue.unpack (ErrV p)).run Tryd.prog w = .ok (.agg #[.pointer (some ⟨5, 48, none⟩), .pointer (some ⟨w.heap.size, 0, none⟩), .int .u64 153]) (w.alloc (.cells #[.int .i64 p] 48)) := by kernel_rfl
theorem as_elemOfP (w : World) : (Rtype.elem? 50).run Tryd.prog w = .ok (some 48) w := by kernel_rfl
theorem as_mkN (p : Addr) (w : World) : (ReflectliteValue.mk 48 p ReflectliteValue.flagAddr).run Tryd.prog w = .ok (.agg #[.pointer (some ⟨5, 48, none⟩), .pointer (some p), .int .u64 409]) w := by kernel_rfl
theorem as_elemV (a p : Addr) (W : World) (ha : W.cell? a = some (.pointer (some p))) : (asElem #[.agg #[.pointer (some ⟨5, 50, none⟩), .pointer (some a), .int .u64 150]]).run Tryd.prog W = .ok (.agg #[.pointer (some ⟨5, 48, none⟩), .pointer (some p), .int .u64 409]) W := by
  unfold asElem
  rw [as_rlm]
  simp only [Sem.run_bind, as_partsP, Result.andThen]
  simp [ReflectliteValue.elem, loadVar, isAgg, underlying, Tryd.underlying50, ha, Result.andThen, as_elemOfP, as_mkN]
theorem as_rls (v x : Value) : ReflectliteValue.set #[v, x] = (do
    let (some (dst, a, fl), some (src, b, _)) := (← ReflectliteValue.parts v, ← ReflectliteValue.parts x)
      | unsupported (.noEntry "extern/(internal/reflectlite.Value).Set.zeroValue")
    if fl / ReflectliteValue.flagAddr % 2 == 0 then unsupported (.noEntry "extern/(internal/reflectlite.Value).Set.unaddressable")
    let val ← loadVar src b
    if ← Rtype.directlyAssignable dst src then storeVar dst a val
    else if ← Rtype.implements dst src then
      if (← Rtype.kind src) == 20 then
        match val with
        | .nilIface => unsupported (.noEntry "extern/reflectlite: a nil value of one interface type handed on as a value of another")
        | _ => storeVar dst a val
      else storeVar dst a (.iface src val)
    else panicString ("reflectlite.Set: value of type " ++ (← Rtype.spelt src) ++ " is not assignable to type " ++ (← Rtype.spelt dst))
    pure (.tuple #[])) := rfl
theorem as_partsNa (a : Addr) (w : World) : (ReflectliteValue.parts (.agg #[.pointer (some ⟨5, 48, none⟩), .pointer (some a), .int .u64 409])).run Tryd.prog w = .ok (some (48, a, 409)) w := by kernel_rfl
theorem as_partsN (a : Addr) (w : World) : (ReflectliteValue.parts (.agg #[.pointer (some ⟨5, 48, none⟩), .pointer (some a), .int .u64 153])).run Tryd.prog w = .ok (some (48, a, 153)) w := by kernel_rfl
theorem as_directN (w : World) : (Rtype.directlyAssignable 48 48).run Tryd.prog w = .ok true w := by kernel_rfl
theorem as_loadN (b : Nat) (p : Int) (W : World) (hb : W.cell? ⟨b, 0, none⟩ = some (.int .i64 p)) : (loadVar 48 ⟨b, 0, none⟩).run Tryd.prog W = .ok (.agg #[.int .i64 p]) W := by
  simp [loadVar, isAgg, underlying, Tryd.underlying48, loadCells, loadCellsFrom, Addr.add, hb, Result.andThen]
theorem as_setN (tb b : Nat) (p : Int) (old : Value) (W : World) (hb : W.cell? ⟨b, 0, none⟩ = some (.int .i64 p)) (ht : W.cell? ⟨tb, 0, none⟩ = some old) (hf : W.frozen? ⟨tb, 0, none⟩ = false) :
    (ReflectliteValue.set #[.agg #[.pointer (some ⟨5, 48, none⟩), .pointer (some ⟨tb, 0, none⟩), .int .u64 409], .agg #[.pointer (some ⟨5, 48, none⟩), .pointer (some ⟨b, 0, none⟩), .int .u64 153]]).run Tryd.prog W = .ok (.tuple #[]) (W.setCell ⟨tb, 0, none⟩ (.int .i64 p)) := by
  rw [as_rls]
  simp only [Sem.run_bind, as_partsNa, as_partsN, Result.andThen]
  simp [ReflectliteValue.flagAddr, as_loadN b p W hb, Result.andThen, as_directN, storeVar, Value.cells, storeCells, Addr.add]
  rw [run_store Tryd.prog W ⟨tb, 0, none⟩ _ _ (by rfl)]
  simp [ht, hf]
theorem as_hit (tb : Nat) (p : Int) (old : Value) (w : World) (hg : ErrT w) (ht0 : w.cell? ⟨tb, 0, none⟩ = some old) (hf0 : w.frozen? ⟨tb, 0, none⟩ = false) (hg0 : 0 < w.heap.size) :
    Calls Tryd.prog 21 #[ErrV p, .iface 50 (.pointer (some ⟨tb, 0, none⟩))] w fun ev w' => ev = .returned (.bool true) ∧ w.grownBy w' (some tb) := by
  have h6 := @run_callFunc_extern Tryd.prog 33 _ (fun args => ReflectliteValue.unpack (args.getD 0 (.tuple #[]))) Tryd.func33 (by kernel_rfl) (by kernel_rfl) (by kernel_rfl) (by kernel_rfl)
  have h7 := @run_callFunc_extern Tryd.prog 34 _ (ReflectliteValue.methodAny (ReflectliteValue.valueError "reflectlite.Value.Type" 0) (fun t _ _ _ => ReflectliteType.toType t)) Tryd.func34 (by kernel_rfl) (by kernel_rfl) (by kernel_rfl) (by kernel_rfl)
  have h8 := @run_callFunc_extern Tryd.prog 35 _ asIsNil Tryd.func35 (by kernel_rfl) (by kernel_rfl) (by kernel_rfl) (by kernel_rfl)
  have h27 := @run_callFunc_extern Tryd.prog 86 _ asKind Tryd.func86 (by kernel_rfl) (by kernel_rfl) (by kernel_rfl) (by kernel_rfl)
  have h37 := @run_callFunc_extern Tryd.prog 97 _ (ReflectliteType.method ReflectliteType.elem) Tryd.func97 (by kernel_rfl) (by kernel_rfl) (by kernel_rfl) (by kernel_rfl)
  have h38 := @run_callFunc_extern Tryd.prog 98 _ (ReflectliteType.relation "Implements" ReflectliteType.implements_) Tryd.func98 (by kernel_rfl) (by kernel_rfl) (by kernel_rfl) (by kernel_rfl)
  have h10 := @run_callFunc_extern Tryd.prog 48 _ ReflectliteType.typeOf Tryd.func48 (by kernel_rfl) (by kernel_rfl) (by kernel_rfl) (by kernel_rfl)
  have h35 := @run_callFunc_extern Tryd.prog 95 _ (ReflectliteType.relation "AssignableTo" ReflectliteType.assignableTo) Tryd.func95 (by kernel_rfl) (by kernel_rfl) (by kernel_rfl) (by kernel_rfl)
  have h11 := @run_callFunc_extern Tryd.prog 49 _ asElem Tryd.func49 (by kernel_rfl) (by kernel_rfl) (by kernel_rfl) (by kernel_rfl)
  have h12 := @run_callFunc_extern Tryd.prog 50 _ ReflectliteValue.set Tryd.func50 (by kernel_rfl) (by kernel_rfl) (by kernel_rfl) (by kernel_rfl)
  have tO := as_typeOfN
  have mA := as_methodAssignableTo
  have aN := as_assignableN
  have vN := as_valueOfN
  have f6 := as_valueOfP
  have f7 := as_typeP
  have mK := as_methodKind
  have mE := as_methodElem
  have mI := as_methodImplements
  have kP := as_kindP
  have kN := as_kindN
  have eP := as_elemP
  have iN := as_implementsN
  have htl : tb < w.heap.size := World.block_lt_of_cell? w _ ht0
  have n8 := as_isNilP ⟨w.heap.size, 0, none⟩ ⟨tb, 0, none⟩ ((w.alloc (.cells #[.pointer (some ⟨tb, 0, none⟩)] 50)).alloc (.cells #[.pointer (some ⟨5, 50, none⟩), .pointer (some ⟨w.heap.size, 0, none⟩), .int .u64 150] 71)) (by simp)
  have hg2 : ((w.alloc (.cells #[.pointer (some ⟨tb, 0, none⟩)] 50)).alloc (.cells #[.pointer (some ⟨5, 50, none⟩), .pointer (some ⟨w.heap.size, 0, none⟩), .int .u64 150] 71)).cell? ⟨0, 0, none⟩ = some (.iface 95 (.agg #[.pointer (some ⟨5, 44, none⟩)])) := by
    rw [World.cell?_alloc_lt _ _ ⟨0, 0, none⟩ (by rw [World.size_alloc]; exact Nat.lt_succ_of_lt hg0), World.cell?_alloc_lt _ _ ⟨0, 0, none⟩ hg0]; exact hg
  have el := as_elemV ⟨w.heap.size, 0, none⟩ ⟨tb, 0, none⟩ (((w.alloc (.cells #[.pointer (some ⟨tb, 0, none⟩)] 50)).alloc (.cells #[.pointer (some ⟨5, 50, none⟩), .pointer (some ⟨w.heap.size, 0, none⟩), .int .u64 150] 71)).alloc (.cells #[.pointer (some ⟨5, 50, none⟩), .pointer (some ⟨w.heap.size, 0, none⟩), .int .u64 150] 71)) (by rw [World.cell?_alloc_lt _ _ ⟨w.heap.size, 0, none⟩ (by simp; omega)]; simp)
  have st := as_setN tb (w.heap.size + 1 + 1 + 1) p old ((((w.alloc (.cells #[.pointer (some ⟨tb, 0, none⟩)] 50)).alloc (.cells #[.pointer (some ⟨5, 50, none⟩), .pointer (some ⟨w.heap.size, 0, none⟩), .int .u64 150] 71)).alloc (.cells #[.pointer (some ⟨5, 50, none⟩), .pointer (some ⟨w.heap.size, 0, none⟩), .int .u64 150] 71)).alloc (.cells #[.int .i64 p] 48))
    (by rw [World.cell?_alloc_at _ _ _ _ (by simp)]; rfl)
    (by rw [World.cell?_alloc_lt _ _ ⟨tb, 0, none⟩ (by simp; omega), World.cell?_alloc_lt _ _ ⟨tb, 0, none⟩ (by simp; omega), World.cell?_alloc_lt _ _ ⟨tb, 0, none⟩ (by simp; omega), World.cell?_alloc_lt _ _ ⟨tb, 0, none⟩ htl]; exact ht0)
    (by rw [World.frozen?_alloc_old _ _ ⟨tb, 0, none⟩ (by simp; omega), World.frozen?_alloc_old _ _ ⟨tb, 0, none⟩ (by simp; omega), World.frozen?_alloc_old _ _ ⟨tb, 0, none⟩ (by simp; omega), World.frozen?_alloc_old _ _ ⟨tb, 0, none⟩ (Nat.ne_of_lt htl)]; exact hf0)
  go_enter Tryd.func21, Tryd.ntmps21
  go_wp2
  refine wp_loop_rounds 1 ?_
  rw [rounds_succ]
  go_wp2
  go_ret
  exact ⟨rfl, ((((World.grownBy_alloc w _ _).trans (World.grownBy_alloc _ _ _)).trans (World.grownBy_alloc _ _ _)).trans (World.grownBy_alloc _ _ _)).trans (grownBy_setAt _ _ _ _)⟩
end
section
open Go.ChangeShapes Go.WideShapes Go.ChangeAt Go.RowKit
theorem implTupleOf_any (a : Option Addr) (n c : Nat) (l : List UInt8) (w : World) (hT : ErrT w) (h : BysAt w a n l) (hc : n ≤ c) :
    Calls Tryd.prog 7 #[.slice a n c] w fun e w' => TupAns l w e w' ∧ Below w.heap.size w w' := by
  have H : Hid (BysAt w a n l ∧ n ≤ c) := ⟨h, hc⟩
  have HT : Hid (ErrT w) := hT
  clear h hc hT
  go_enter Tryd.func7, Tryd.ntmps7
  go_wp2_with fail
  refine (readTuple_any a n c l w H.out.1 H.out.2).mono ?_
  rintro e w1 ⟨⟨v, L, rfl, ho, ht⟩ | ⟨p, rfl, hno⟩, hb⟩
  · have HB1 : Hid (Below w.heap.size w w1) := hb
    have HO1 : Hid (VOwn w1 w.heap.size v L) := ho
    have HTI : Hid (TupIs l L) := ht
    clear ho ht hb
    go_wp2_with fail
    refine (as_nil _ _).mono ?_
    rintro e w2 ⟨rfl, rfl⟩
    go_wp2
    go_ret2
    exact ⟨⟨_, true, L, rfl, HO1.out.alloc _, .inl ⟨rfl, HTI.out⟩⟩, HB1.out.alloc HB1.out.size _⟩
  · have HB1 : Hid (Below w.heap.size w w1) := hb
    have HNO : Hid (∀ M, ¬ TupIs l M) := hno
    clear hno hb
    obtain ⟨W, hW⟩ : ∃ W, w1.alloc (.cells #[.int .i64 0] 48) = W := ⟨_, rfl⟩
    have HW : Hid (w1.alloc (.cells #[.int .i64 0] 48) = W) := hW
    have XB : Hid (Box W w1.heap.size #[.int .i64 0] 48) := by rw [← hW]; exact box_of w1 _ _
    have HBW : Hid (Below w.heap.size w W) := by rw [← hW]; exact HB1.out.alloc HB1.out.size _
    have HTW : Hid (ErrT W) := HT.out.below HBW.out (Nat.le_refl _)
    clear hW
    go_upto_region 3 with (fail)
    rw [HW.out]
    go_wp2_with fail
    refine (as_hit w1.heap.size p (.int .i64 0) W HTW.out (XB.out.cell 0) (XB.out.frozen 0) HTW.out.lt).mono ?_
    rintro e w2 ⟨rfl, hg⟩
    have HB2 : Hid (Below w.heap.size w w2) := HBW.out.grown hg HBW.out.size (fun q e => by cases e; exact HB1.out.size)
    clear hg
    go_wp2
    go_ret2
    exact ⟨⟨_, false, [], rfl, ⟨rfl, .inl ⟨rfl, rfl⟩⟩, .inr ⟨rfl, rfl, HNO.out⟩⟩, HB2.out⟩
end
end Go.Proofs.YtgibeakclknhnabDoor
