/- The drawing of any values, walked. -/
import Derived.Test.YtmgofehafjogfaaDrawV
import Derived.Test.YtmgofehafjogfaaTextS
import Derived.Deep.Cut
namespace Go.Proofs.Ytmgofehafjogfaa
open Go.ChangeShapes Go.WideShapes Go.ChangeAt Go.RowKit

theorem pickU : ∀ x : Nat, x < 3 → -9223372036854775808 ≤ ([2, 1000000000001, -9223372036854775808] : List Int).getD x 0 ∧ ([2, 1000000000001, -9223372036854775808] : List Int).getD x 0 ≤ 9223372036854775807 := by decide
set_option maxHeartbeats 4000000 in
set_option maxRecDepth 100000 in
theorem l17Draw_any (p : Nat) (a : Option Addr) (n c : Nat) (w : World) (hC : Cur 102 w p a n c) :
    Calls Try.prog 46 #[.pointer (some ⟨p, 0, none⟩)] w fun e w' => ∃ (k m : Int) (s : ByteArray), e = .returned (VaV k m s) ∧ (s.size ≤ 40 ∧ (-9223372036854775808 ≤ k ∧ k ≤ 9223372036854775807) ∧ (-9223372036854775808 ≤ m ∧ m ≤ 9223372036854775807)) ∧ Cur 102 w' p a n c ∧ w.grownBy w' (some p) := by
  have hpw := hC.lt
  have hpn : ¬ w.heap.size = p := by omega
  obtain ⟨W, hW⟩ : ∃ W, w.alloc (.cells #[.int .i64 0, .int .i64 0, .string ⟨#[]⟩] 43) = W := ⟨_, rfl⟩
  have HW : Hid (w.alloc (.cells #[.int .i64 0, .int .i64 0, .string ⟨#[]⟩] 43) = W) := hW
  have HC : Hid (Cur 102 W p a n c) := by rw [← hW]; exact cur_alloc hC _
  have R0 : Hid (Box W w.heap.size #[.int .i64 0, .int .i64 0, .string ⟨#[]⟩] 43) := by rw [← hW]; exact box_of w _ _
  have F0 : Hid (w.grownBy W (some p)) := by rw [← hW]; exact World.grownBy_alloc _ _ _
  have HSW : Hid (W.heap.size = w.heap.size + 1) := by show _ = _; rw [← hW]; simp
  clear hW hC
  go_enter Try.func46, Try.ntmps46
  go_upto_region 1 with (fail)
  rw [HW.out]
  go_upto_region 2 with
    (go_at_call 82
     refine (l17DrawRight_any p a n c W HC.out).mono ?_
     rintro e w1 ⟨k, m, s, rfl, hg, hC1, hO1⟩
     have HGD : Hid (s.size ≤ 20 ∧ (-1000000000000 ≤ m ∧ m ≤ 1000000000000) ∧ 0 ≤ k ∧ k ≤ 3) := by show _ ∧ _; unfold VaGood at hg; omega
     have HC1 : Hid (Cur 102 w1 p a n c) := hC1
     have R1 : Hid (Box w1 w.heap.size #[.int .i64 0, .int .i64 0, .string ⟨#[]⟩] 43) := R0.out.farG hO1 hpn
     have F1 : Hid (w.grownBy w1 (some p)) := F0.out.trans hO1
     clear hg hC1 hO1)
  obtain ⟨g, hg⟩ : ∃ g, w1.heap.size = g := ⟨_, rfl⟩
  obtain ⟨W2, hW2⟩ : ∃ W2, w1.alloc (.cells #[.int .i64 k, .int .i64 m, .string s] 43) = W2 := ⟨_, rfl⟩
  have HG : Hid (w1.heap.size = g) := hg
  have HW2 : Hid (w1.alloc (.cells #[.int .i64 k, .int .i64 m, .string s] 43) = W2) := hW2
  have HGW : Hid (w.heap.size < g) := by rw [← hg]; exact R1.out.lt
  have X2 : Hid (Box W2 g #[.int .i64 k, .int .i64 m, .string s] 43) := by rw [← hW2, ← hg]; exact box_of _ _ _
  have HC2 : Hid (Cur 102 W2 p a n c) := by rw [← hW2]; exact cur_alloc HC1.out _
  have R2 : Hid (Box W2 w.heap.size #[.int .i64 0, .int .i64 0, .string ⟨#[]⟩] 43) := by rw [← hW2]; exact R1.out.alloc _
  have F2 : Hid (w.grownBy W2 (some p)) := by rw [← hW2]; exact far_alloc F1.out _
  have hgr : ¬ w.heap.size = g := by have := HGW.out; omega
  have hgr' : ¬ g = w.heap.size := fun e => hgr e.symm
  have hgp : ¬ g = p := by have := HGW.out; omega
  rw [HW2.out, HG.out]
  clear hW2 hg
  go_upto_region 3 with
    (go_at_call 45
     refine (l1Below_any p a n c 12 (by omega) (by omega) W2 HC2.out).mono ?_
     rintro e w3 ⟨x, -, rfl, hC3, hO3⟩
     have HC3 : Hid (Cur 102 w3 p a n c) := hC3
     have X3 : Hid (Box w3 g #[.int .i64 k, .int .i64 m, .string s] 43) := X2.out.only hO3 hgp
     have R3 : Hid (Box w3 w.heap.size #[.int .i64 0, .int .i64 0, .string ⟨#[]⟩] 43) := R2.out.only hO3 hpn
     have F3 : Hid (w.grownBy w3 (some p)) := F2.out.trans (far_only hO3)
     clear hC3 hO3)
  obtain ⟨c0, c1, c2⟩ := X3.out.triV
  have f0 := X3.out.frozen 0
  have f1 := X3.out.frozen 1
  have f2 := X3.out.frozen 2
  obtain ⟨r0, r1, r2⟩ := R3.out.triV
  have z0 := R3.out.frozen 0
  have z1 := R3.out.frozen 1
  have z2 := R3.out.frozen 2
  rcases (show x = 0 ∨ x = 1 ∨ x = 2 ∨ (¬ x = 0 ∧ ¬ x = 1 ∧ ¬ x = 2) by omega) with hx | hx | hx | ⟨hx0, hx1, hx2⟩
  · subst hx
    go_upto_region 4 with (fail)
    go_wp2_with
      (go_at_call 45
       refine (l1Below_any p a n c 6 (by omega) (by omega) w3 HC3.out).mono ?_
       rintro e w4 ⟨y, hy, rfl, hC4, hO4⟩
       have HY : Hid (y < 6) := by show y < 6; omega
       have X4' := X3.out.only hO4 hgp
       have R4' := R3.out.only hO4 hpn
       have F4' := F3.out.trans (far_only hO4)
       have hy0 : (y : Int) ≤ 6 := by omega
       clear hO4 hy
       have HC4 : Hid (Cur 102 w4 p a n c) := hC4
       have X4 : Hid (Box w4 g #[.int .i64 k, .int .i64 m, .string s] 43) := X4'
       have R4 : Hid (Box w4 w.heap.size #[.int .i64 0, .int .i64 0, .string ⟨#[]⟩] 43) := R4'
       have F4 : Hid (w.grownBy w4 (some p)) := F4'
       clear hC4 X4' R4' F4' c0 c1 c2 f0 f1 f2 r0 r1 r2 z0 z1 z2
       obtain ⟨c0, c1, c2⟩ := X4.out.triV
       have f0 := X4.out.frozen 0
       have f1 := X4.out.frozen 1
       have f2 := X4.out.frozen 2
       obtain ⟨r0, r1, r2⟩ := R4.out.triV
       have z0 := R4.out.frozen 0
       have z1 := R4.out.frozen 1
       have z2 := R4.out.frozen 2)
    have E := (((R4.out.set (q := ⟨g, 0, none⟩) hgr (.int .i64 ((y : Int) - 1))).put 0 (.int .i64 ((y : Int) - 1))).put 1 (.int .i64 m)).put 2 (.string s)
    have q0 := E.cell 0
    have q1 := E.cell 1
    have q2 := E.cell 2
    (try simp only [Exit.inBlock, Exit.then])
    refine bodyPost_ret (by simp [results, Try.results46, go_sem, q0, q1, q2]; try rfl) rfl ?_
    exact ⟨((y : Int) - 1), m, s, rfl, ⟨by have := HGD.out; omega, by have := HY.out; omega, by have := HGD.out; omega⟩, cur_set (cur_set (cur_set (cur_set HC4.out (show p < g from Nat.lt_trans hpw HGW.out) (.int .i64 ((y : Int) - 1))) (show p < w.heap.size from hpw) _) (show p < w.heap.size from hpw) _) (show p < w.heap.size from hpw) _, far_set (far_set (far_set (far_set F4.out (show w.heap.size ≤ g from Nat.le_of_lt HGW.out) (.int .i64 ((y : Int) - 1))) (Nat.le_refl _) _) (Nat.le_refl _) _) (Nat.le_refl _) _⟩
  · subst hx
    go_upto_region 6 with (fail)
    go_wp2_with
      (go_at_call 78
       refine (l1PickInt_any p a n c w3.heap.size 3 3 [2, 1000000000001, -9223372036854775808] (by omega) (by omega) _ (cur_alloc HC3.out _) (by have := R3.out.lt; omega) (by intro i hi; exact intsL_at w3 [2, 1000000000001, -9223372036854775808] _ rfl rfl i hi)).mono ?_
       rintro e w4 ⟨y, hy, rfl, hC4, hO4⟩
       obtain ⟨v, hv⟩ : ∃ v, ([2, 1000000000001, -9223372036854775808] : List Int).getD y 0 = v := ⟨_, rfl⟩
       rw [hv]
       have HY : Hid (-9223372036854775808 ≤ v ∧ v ≤ 9223372036854775807) := by rw [← hv]; exact pickU y hy
       have X4' := (X3.out.alloc _).only hO4 hgp
       have R4' := (R3.out.alloc _).only hO4 hpn
       have F4' := (far_alloc F3.out _).trans (far_only hO4)
       clear hO4 hy hv
       have HC4 : Hid (Cur 102 w4 p a n c) := hC4
       have X4 : Hid (Box w4 g #[.int .i64 k, .int .i64 m, .string s] 43) := X4'
       have R4 : Hid (Box w4 w.heap.size #[.int .i64 0, .int .i64 0, .string ⟨#[]⟩] 43) := R4'
       have F4 : Hid (w.grownBy w4 (some p)) := F4'
       clear hC4 X4' R4' F4' c0 c1 c2 f0 f1 f2 r0 r1 r2 z0 z1 z2
       obtain ⟨c0, c1, c2⟩ := X4.out.triV
       have f0 := X4.out.frozen 0
       have f1 := X4.out.frozen 1
       have f2 := X4.out.frozen 2
       obtain ⟨r0, r1, r2⟩ := R4.out.triV
       have z0 := R4.out.frozen 0
       have z1 := R4.out.frozen 1
       have z2 := R4.out.frozen 2)
    have E := (((R4.out.set (q := ⟨g, 1, none⟩) hgr (.int .i64 v)).put 0 (.int .i64 k)).put 1 (.int .i64 v)).put 2 (.string s)
    have q0 := E.cell 0
    have q1 := E.cell 1
    have q2 := E.cell 2
    (try simp only [Exit.inBlock, Exit.then])
    refine bodyPost_ret (by simp [results, Try.results46, go_sem, q0, q1, q2]; try rfl) rfl ?_
    exact ⟨k, v, s, rfl, ⟨by have := HGD.out; omega, by have := HGD.out; omega, HY.out⟩, cur_set (cur_set (cur_set (cur_set HC4.out (show p < g from Nat.lt_trans hpw HGW.out) (.int .i64 v)) (show p < w.heap.size from hpw) _) (show p < w.heap.size from hpw) _) (show p < w.heap.size from hpw) _, far_set (far_set (far_set (far_set F4.out (show w.heap.size ≤ g from Nat.le_of_lt HGW.out) (.int .i64 v)) (Nat.le_refl _) _) (Nat.le_refl _) _) (Nat.le_refl _) _⟩
  · subst hx
    have HTS : Hid ((s ++ (⟨#[97, 97, 97, 97, 97, 97, 97, 97, 97, 97, 97, 97, 97, 97, 97, 97, 97, 97, 97, 97]⟩ : ByteArray)).size = s.size + 20) := by show _ = _; rw [ByteArray.size_append]; rfl
    have hsz : s.size ≤ 20 := HGD.out.1
    have HC4 := HC3
    have X4 := X3
    have R4 := R3
    have F4 := F3
    go_wp2
    generalize s ++ (⟨#[97, 97, 97, 97, 97, 97, 97, 97, 97, 97, 97, 97, 97, 97, 97, 97, 97, 97, 97, 97]⟩ : ByteArray) = t at HTS ⊢
    have E := (((R4.out.set (q := ⟨g, 2, none⟩) hgr (.string t)).put 0 (.int .i64 k)).put 1 (.int .i64 m)).put 2 (.string t)
    have q0 := E.cell 0
    have q1 := E.cell 1
    have q2 := E.cell 2
    (try simp only [Exit.inBlock, Exit.then])
    refine bodyPost_ret (by simp [results, Try.results46, go_sem, q0, q1, q2]; try rfl) rfl ?_
    exact ⟨k, m, t, rfl, ⟨by have := HGD.out; have := HTS.out; omega, by have := HGD.out; omega, by have := HGD.out; omega⟩, cur_set (cur_set (cur_set (cur_set HC4.out (show p < g from Nat.lt_trans hpw HGW.out) (.string t)) (show p < w.heap.size from hpw) _) (show p < w.heap.size from hpw) _) (show p < w.heap.size from hpw) _, far_set (far_set (far_set (far_set F4.out (show w.heap.size ≤ g from Nat.le_of_lt HGW.out) (.string t)) (Nat.le_refl _) _) (Nat.le_refl _) _) (Nat.le_refl _) _⟩
  · have HC4 := HC3
    have R4 := R3
    have F4 := F3
    have hb0 : ((x : Int) == 0) = false := by rw [beq_eq_false_iff_ne]; omega
    have hb1 : ((x : Int) == 1) = false := by rw [beq_eq_false_iff_ne]; omega
    have hb2 : ((x : Int) == 2) = false := by rw [beq_eq_false_iff_ne]; omega
    go_wp2
    have E := ((R4.out.put 0 (.int .i64 k)).put 1 (.int .i64 m)).put 2 (.string s)
    have q0 := E.cell 0
    have q1 := E.cell 1
    have q2 := E.cell 2
    (try simp only [Exit.inBlock, Exit.then])
    refine bodyPost_ret (by simp [results, Try.results46, go_sem, q0, q1, q2]; try rfl) rfl ?_
    exact ⟨k, m, s, rfl, ⟨by have := HGD.out; omega, by have := HGD.out; omega, by have := HGD.out; omega⟩, cur_set (cur_set (cur_set HC4.out (show p < w.heap.size from hpw) _) (show p < w.heap.size from hpw) _) (show p < w.heap.size from hpw) _, far_set (far_set (far_set F4.out (Nat.le_refl _) _) (Nat.le_refl _) _) (Nat.le_refl _) _⟩
end Go.Proofs.Ytmgofehafjogfaa
