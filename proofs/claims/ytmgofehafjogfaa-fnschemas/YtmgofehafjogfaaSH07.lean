/- Texts joined: DrawV, DrawV2, DrawT8, ProjL, DrawRw, DrawT9, Draw2. -/
import Derived.Test.YtmgofehafjogfaaSH02
import Derived.Test.YtmgofehafjogfaaSH04
import Derived.Test.YtmgofehafjogfaaSH01
import Derived.Deep.RegionHeld3
import Derived.Deep.Cut
import Derived.Test.YtmgofehafjogfaaSH03
set_option maxHeartbeats 16000000
set_option maxRecDepth 100000
namespace Go.Proofs.Ytmgofehafjogfaa
section
open Go.ChangeShapes Go.WideShapes Go.ChangeAt Go.RowKit
theorem intsL_at (w : World) (xs : List Int) (g : Nat) (hg : w.heap.size = g) {cs : Array Value} {T : TypeId} (hc : cs = (xs.map I).toArray) : ∀ i, i < xs.length → (w.alloc (.cells cs T)).cell? ⟨g, i, none⟩ = some (.int .i64 (xs.getD i 0)) := by
  intro i hi
  subst hg hc
  simp [World.cell?_alloc_at, List.getD, hi]
theorem textsL_at (w : World) (xs : List (List UInt8)) (g : Nat) (hg : w.heap.size = g) {cs : Array Value} {T : TypeId} (hc : cs = (xs.map S).toArray) : ∀ i, i < xs.length → (w.alloc (.cells cs T)).cell? ⟨g, i, none⟩ = some (S (xs.getD i [])) := by
  intro i hi
  subst hg hc
  simp [World.cell?_alloc_at, List.getD, hi]
theorem pickV : ∀ x : Nat, x < 8 → -1000000000000 ≤ ([0, 1, -1, 7, 255, 256, -1000000000000, 1000000000000] : List Int).getD x 0 ∧ ([0, 1, -1, 7, 255, 256, -1000000000000, 1000000000000] : List Int).getD x 0 ≤ 1000000000000 := by decide
theorem pickT : ∀ x : Nat, x < 9 → (⟨(([[], [97], [97, 98], [97, 0], [97, 0, 98], [0], [1], [255], [98]] : List (List UInt8)).getD x []).toArray⟩ : ByteArray).size ≤ 20 := by decide
theorem l17DrawOf_any (p : Nat) (a : Option Addr) (n c : Nat) (kind : Int) (w : World) (hC : Cur 102 w p a n c) :
    Calls Try.prog 80 #[.pointer (some ⟨p, 0, none⟩), .int .i64 kind] w fun e w' => ∃ (k m : Int) (s : ByteArray), e = .returned (VaV k m s) ∧ (VaGood k m s ∧ k = (if kind = 1 ∨ kind = 2 ∨ kind = 3 then kind else 0)) ∧ Cur 102 w' p a n c ∧ w.grownBy w' (some p) := by
  have hpw := hC.lt
  have hpn : ¬ w.heap.size = p := by omega
  obtain ⟨W, hW⟩ : ∃ W, w.alloc (.cells #[.int .i64 0, .int .i64 0, .string ⟨#[]⟩] 43) = W := ⟨_, rfl⟩
  have HW : Hid (w.alloc (.cells #[.int .i64 0, .int .i64 0, .string ⟨#[]⟩] 43) = W) := hW
  have HC : Hid (Cur 102 W p a n c) := by rw [← hW]; exact cur_alloc hC _
  have R0 : Hid (Box W w.heap.size #[.int .i64 0, .int .i64 0, .string ⟨#[]⟩] 43) := by rw [← hW]; exact box_of w _ _
  have F0 : Hid (w.grownBy W (some p)) := by rw [← hW]; exact World.grownBy_alloc _ _ _
  have HSW : Hid (W.heap.size = w.heap.size + 1) := by show _ = _; rw [← hW]; simp
  clear hW hC
  rcases (show kind = 1 ∨ kind = 2 ∨ kind = 3 ∨ (¬ kind = 1 ∧ ¬ kind = 2 ∧ ¬ kind = 3) by omega) with rfl | rfl | rfl | ⟨h1, h2, h3⟩
  · go_enter Try.func80, Try.ntmps80
    go_upto_region 1 with (fail)
    rw [HW.out]
    go_upto_region 3 with (fail)
    go_wp2_with
      (refine (l1Below_any p a n c 2 (by omega) (by omega) W HC.out).mono ?_
       rintro e w1 ⟨x, hx, rfl, hC1, hO1⟩
       have HX : Hid (x < 2) := by show x < 2; omega
       have HC1 : Hid (Cur 102 w1 p a n c) := hC1
       have R1 : Hid (Box w1 w.heap.size #[.int .i64 0, .int .i64 0, .string ⟨#[]⟩] 43) := R0.out.only hO1 hpn
       have F1 : Hid (w.grownBy w1 (some p)) := F0.out.trans (far_only hO1)
       clear hC1 hO1 hx
       obtain ⟨c0, c1, c2⟩ := R1.out.triV
       have f0 := R1.out.frozen 0
       have f1 := R1.out.frozen 1
       have f2 := R1.out.frozen 2)
    have E := ((R1.out.put 0 (.int .i64 1)).put 1 (.int .i64 (x : Int))).put 2 (.string ⟨#[]⟩)
    have q0 := E.cell 0
    have q1 := E.cell 1
    have q2 := E.cell 2
    (try simp only [Exit.inBlock, Exit.then])
    refine bodyPost_ret (by simp [results, Try.results80, go_sem, q0, q1, q2]; try rfl) rfl ?_
    exact ⟨1, (x : Int), ⟨#[]⟩, rfl, ⟨.inr (.inl ⟨rfl, ⟨by omega, by have := HX.out; omega⟩, rfl⟩), rfl⟩, cur_set (cur_set (cur_set HC1.out (show p < w.heap.size from hpw) _) (show p < w.heap.size from hpw) _) (show p < w.heap.size from hpw) _, far_set (far_set (far_set F1.out (Nat.le_refl _) _) (Nat.le_refl _) _) (Nat.le_refl _) _⟩
  · go_enter Try.func80, Try.ntmps80
    go_upto_region 1 with (fail)
    rw [HW.out]
    go_upto_region 5 with (fail)
    go_wp2_with
      (refine (l1PickInt_any p a n c W.heap.size 8 8 [0, 1, -1, 7, 255, 256, -1000000000000, 1000000000000] (by omega) (by omega) _ (cur_alloc HC.out _) (by have := HSW.out; omega) (by intro i hi; exact intsL_at W [0, 1, -1, 7, 255, 256, -1000000000000, 1000000000000] _ rfl rfl i hi)).mono ?_
       rintro e w1 ⟨x, hx, rfl, hC1, hO1⟩
       obtain ⟨m, hm⟩ : ∃ m, ([0, 1, -1, 7, 255, 256, -1000000000000, 1000000000000] : List Int).getD x 0 = m := ⟨_, rfl⟩
       rw [hm]
       have HX : Hid (-1000000000000 ≤ m ∧ m ≤ 1000000000000) := by rw [← hm]; exact pickV x hx
       have HC1 : Hid (Cur 102 w1 p a n c) := hC1
       have R1 : Hid (Box w1 w.heap.size #[.int .i64 0, .int .i64 0, .string ⟨#[]⟩] 43) := (R0.out.alloc _).only hO1 hpn
       have F1 : Hid (w.grownBy w1 (some p)) := (far_alloc F0.out _).trans (far_only hO1)
       clear hC1 hO1 hx hm
       obtain ⟨c0, c1, c2⟩ := R1.out.triV
       have f0 := R1.out.frozen 0
       have f1 := R1.out.frozen 1
       have f2 := R1.out.frozen 2)
    have E := ((R1.out.put 0 (.int .i64 2)).put 1 (.int .i64 m)).put 2 (.string ⟨#[]⟩)
    have q0 := E.cell 0
    have q1 := E.cell 1
    have q2 := E.cell 2
    (try simp only [Exit.inBlock, Exit.then])
    refine bodyPost_ret (by simp [results, Try.results80, go_sem, q0, q1, q2]; try rfl) rfl ?_
    exact ⟨2, m, ⟨#[]⟩, rfl, ⟨.inr (.inr (.inl ⟨rfl, HX.out, rfl⟩)), rfl⟩, cur_set (cur_set (cur_set HC1.out (show p < w.heap.size from hpw) _) (show p < w.heap.size from hpw) _) (show p < w.heap.size from hpw) _, far_set (far_set (far_set F1.out (Nat.le_refl _) _) (Nat.le_refl _) _) (Nat.le_refl _) _⟩
  · go_enter Try.func80, Try.ntmps80
    go_upto_region 1 with (fail)
    rw [HW.out]
    go_upto_region 7 with (fail)
    go_wp2_with
      (refine (l1Pick_any p a n c W.heap.size 9 9 [[], [97], [97, 98], [97, 0], [97, 0, 98], [0], [1], [255], [98]] (by omega) (by omega) _ (cur_alloc HC.out _) (by have := HSW.out; omega) (by intro i hi; exact textsL_at W [[], [97], [97, 98], [97, 0], [97, 0, 98], [0], [1], [255], [98]] _ rfl rfl i hi)).mono ?_
       rintro e w1 ⟨x, hx, rfl, hC1, hO1⟩
       obtain ⟨s, hm⟩ : ∃ s : ByteArray, S (([[], [97], [97, 98], [97, 0], [97, 0, 98], [0], [1], [255], [98]] : List (List UInt8)).getD x []) = .string s := ⟨_, rfl⟩
       rw [hm]
       have HX : Hid (s.size ≤ 20) := by rw [← Value.string.inj hm]; exact pickT x hx
       have HC1 : Hid (Cur 102 w1 p a n c) := hC1
       have R1 : Hid (Box w1 w.heap.size #[.int .i64 0, .int .i64 0, .string ⟨#[]⟩] 43) := (R0.out.alloc _).only hO1 hpn
       have F1 : Hid (w.grownBy w1 (some p)) := (far_alloc F0.out _).trans (far_only hO1)
       clear hC1 hO1 hx hm
       obtain ⟨c0, c1, c2⟩ := R1.out.triV
       have f0 := R1.out.frozen 0
       have f1 := R1.out.frozen 1
       have f2 := R1.out.frozen 2)
    have E := ((R1.out.put 0 (.int .i64 3)).put 1 (.int .i64 0)).put 2 (.string s)
    have q0 := E.cell 0
    have q1 := E.cell 1
    have q2 := E.cell 2
    (try simp only [Exit.inBlock, Exit.then])
    refine bodyPost_ret (by simp [results, Try.results80, go_sem, q0, q1, q2]; try rfl) rfl ?_
    exact ⟨3, 0, s, rfl, ⟨.inr (.inr (.inr ⟨rfl, rfl, HX.out⟩)), rfl⟩, cur_set (cur_set (cur_set HC1.out (show p < w.heap.size from hpw) _) (show p < w.heap.size from hpw) _) (show p < w.heap.size from hpw) _, far_set (far_set (far_set F1.out (Nat.le_refl _) _) (Nat.le_refl _) _) (Nat.le_refl _) _⟩
  · go_enter Try.func80, Try.ntmps80
    go_upto_region 1 with (fail)
    rw [HW.out]
    obtain ⟨c0, c1, c2⟩ := R0.out.triV
    have f0 := R0.out.frozen 0
    have f1 := R0.out.frozen 1
    have f2 := R0.out.frozen 2
    go_wp2
    have E := ((R0.out.put 0 (.int .i64 0)).put 1 (.int .i64 0)).put 2 (.string ⟨#[]⟩)
    have q0 := E.cell 0
    have q1 := E.cell 1
    have q2 := E.cell 2
    (try simp only [Exit.inBlock, Exit.then])
    refine bodyPost_ret (by simp [results, Try.results80, go_sem, q0, q1, q2]; try rfl) rfl ?_
    exact ⟨0, 0, ⟨#[]⟩, rfl, ⟨.inl ⟨rfl, rfl, rfl⟩, (by first | rfl | exact (if_neg (by omega)).symm)⟩, cur_set (cur_set (cur_set HC.out (show p < w.heap.size from hpw) _) (show p < w.heap.size from hpw) _) (show p < w.heap.size from hpw) _, far_set (far_set (far_set F0.out (Nat.le_refl _) _) (Nat.le_refl _) _) (Nat.le_refl _) _⟩
theorem l17DrawRight_any (p : Nat) (a : Option Addr) (n c : Nat) (w : World) (hC : Cur 102 w p a n c) :
    Calls Try.prog 82 #[.pointer (some ⟨p, 0, none⟩)] w fun e w' => ∃ (k m : Int) (s : ByteArray), e = .returned (VaV k m s) ∧ (VaGood k m s) ∧ Cur 102 w' p a n c ∧ w.grownBy w' (some p) := by
  have hpw := hC.lt
  have hpn : ¬ w.heap.size = p := by omega
  obtain ⟨W, hW⟩ : ∃ W, w.alloc (.cells #[.int .i64 0, .int .i64 0, .string ⟨#[]⟩] 43) = W := ⟨_, rfl⟩
  have HW : Hid (w.alloc (.cells #[.int .i64 0, .int .i64 0, .string ⟨#[]⟩] 43) = W) := hW
  have HC : Hid (Cur 102 W p a n c) := by rw [← hW]; exact cur_alloc hC _
  have R0 : Hid (Box W w.heap.size #[.int .i64 0, .int .i64 0, .string ⟨#[]⟩] 43) := by rw [← hW]; exact box_of w _ _
  have F0 : Hid (w.grownBy W (some p)) := by rw [← hW]; exact World.grownBy_alloc _ _ _
  have HSW : Hid (W.heap.size = w.heap.size + 1) := by show _ = _; rw [← hW]; simp
  clear hW hC
  go_enter Try.func82, Try.ntmps82
  go_upto_region 1 with (fail)
  rw [HW.out]
  go_wp2_with fail
  refine (l1Below_any p a n c 4 (by omega) (by omega) W HC.out).mono ?_
  rintro e w1 ⟨x, hx, rfl, hC1, hO1⟩
  have HC1 : Hid (Cur 102 w1 p a n c) := hC1
  have R1 : Hid (Box w1 w.heap.size #[.int .i64 0, .int .i64 0, .string ⟨#[]⟩] 43) := R0.out.only hO1 hpn
  have F1 : Hid (w.grownBy w1 (some p)) := F0.out.trans (far_only hO1)
  clear hC1 hO1 hx
  go_wp2_with fail
  refine (l17DrawOf_any p a n c (x : Int) w1 HC1.out).mono ?_
  rintro e w2 ⟨k, m, s, rfl, ⟨hg, -⟩, hC2, hO2⟩
  have HGD : Hid (VaGood k m s) := hg
  have HC2 : Hid (Cur 102 w2 p a n c) := hC2
  have R2 : Hid (Box w2 w.heap.size #[.int .i64 0, .int .i64 0, .string ⟨#[]⟩] 43) := R1.out.farG hO2 hpn
  have F2 : Hid (w.grownBy w2 (some p)) := F1.out.trans hO2
  clear hg hC2 hO2
  obtain ⟨c0, c1, c2⟩ := R2.out.triV
  have f0 := R2.out.frozen 0
  have f1 := R2.out.frozen 1
  have f2 := R2.out.frozen 2
  go_wp2
  have E := ((R2.out.put 0 (.int .i64 k)).put 1 (.int .i64 m)).put 2 (.string s)
  have q0 := E.cell 0
  have q1 := E.cell 1
  have q2 := E.cell 2
  (try simp only [Exit.inBlock, Exit.then])
  refine bodyPost_ret (by simp [results, Try.results82, go_sem, q0, q1, q2]; try rfl) rfl ?_
  exact ⟨k, m, s, rfl, HGD.out, cur_set (cur_set (cur_set HC2.out (show p < w.heap.size from hpw) _) (show p < w.heap.size from hpw) _) (show p < w.heap.size from hpw) _, far_set (far_set (far_set F2.out (Nat.le_refl _) _) (Nat.le_refl _) _) (Nat.le_refl _) _⟩
theorem pickU : ∀ x : Nat, x < 3 → -9223372036854775808 ≤ ([2, 1000000000001, -9223372036854775808] : List Int).getD x 0 ∧ ([2, 1000000000001, -9223372036854775808] : List Int).getD x 0 ≤ 9223372036854775807 := by decide
theorem l17Draw_any (p : Nat) (a : Option Addr) (n c : Nat) (w : World) (hC : Cur 102 w p a n c) :
    Calls Try.prog 46 #[.pointer (some ⟨p, 0, none⟩)] w fun e w' => ∃ (k m : Int) (s : ByteArray), e = .returned (VaV k m s) ∧ (s.size ≤ 40 ∧ (-9223372036854775808 ≤ k ∧ k ≤ 9223372036854775807) ∧ (-9223372036854775808 ≤ m ∧ m ≤ 9223372036854775807)) ∧ Cur 102 w' p a n c ∧ w.grownBy w' (some p) := by
  have hpw := hC.lt
  have hpn : ¬ w.heap.size = p := by omega
  obtain ⟨W, hW⟩ : ∃ W, w.alloc (.cells #[.int .i64 0, .int .i64 0, .string ⟨#[]⟩] 43) = W := ⟨_, rfl⟩
  have HW : Hid (w.alloc (.cells #[.int .i64 0, .int .i64 0, .string ⟨#[]⟩] 43) = W) := hW
  have HC : Hid (Cur 102 W p a n c) := by rw [← hW]; exact cur_alloc hC _
  have R0 : Hid (Box W w.heap.size #[.int .i64 0, .int .i64 0, .string ⟨#[]⟩] 43) := by rw [← hW]; exact box_of w _ _
  have F0 : Hid (w.grownBy W (some p)) := by rw [← hW]; exact World.grownBy_alloc _ _ _
  have HSW : Hid (W.heap.size = w.heap.size + 1) := by show _ = _; rw [← hW]; simp
  clear hW hC
  go_enter Try.func46, Try.ntmps46
  go_upto_region 1 with (fail)
  rw [HW.out]
  go_upto_region 2 with
    (go_at_call 82
     refine (l17DrawRight_any p a n c W HC.out).mono ?_
     rintro e w1 ⟨k, m, s, rfl, hg, hC1, hO1⟩
     have HGD : Hid (s.size ≤ 20 ∧ (-1000000000000 ≤ m ∧ m ≤ 1000000000000) ∧ 0 ≤ k ∧ k ≤ 3) := by show _ ∧ _; unfold VaGood at hg; omega
     have HC1 : Hid (Cur 102 w1 p a n c) := hC1
     have R1 : Hid (Box w1 w.heap.size #[.int .i64 0, .int .i64 0, .string ⟨#[]⟩] 43) := R0.out.farG hO1 hpn
     have F1 : Hid (w.grownBy w1 (some p)) := F0.out.trans hO1
     clear hg hC1 hO1)
  obtain ⟨g, hg⟩ : ∃ g, w1.heap.size = g := ⟨_, rfl⟩
  obtain ⟨W2, hW2⟩ : ∃ W2, w1.alloc (.cells #[.int .i64 k, .int .i64 m, .string s] 43) = W2 := ⟨_, rfl⟩
  have HG : Hid (w1.heap.size = g) := hg
  have HW2 : Hid (w1.alloc (.cells #[.int .i64 k, .int .i64 m, .string s] 43) = W2) := hW2
  have HGW : Hid (w.heap.size < g) := by rw [← hg]; exact R1.out.lt
  have X2 : Hid (Box W2 g #[.int .i64 k, .int .i64 m, .string s] 43) := by rw [← hW2, ← hg]; exact box_of _ _ _
  have HC2 : Hid (Cur 102 W2 p a n c) := by rw [← hW2]; exact cur_alloc HC1.out _
  have R2 : Hid (Box W2 w.heap.size #[.int .i64 0, .int .i64 0, .string ⟨#[]⟩] 43) := by rw [← hW2]; exact R1.out.alloc _
  have F2 : Hid (w.grownBy W2 (some p)) := by rw [← hW2]; exact far_alloc F1.out _
  have hgr : ¬ w.heap.size = g := by have := HGW.out; omega
  have hgr' : ¬ g = w.heap.size := fun e => hgr e.symm
  have hgp : ¬ g = p := by have := HGW.out; omega
  rw [HW2.out, HG.out]
  clear hW2 hg
  go_upto_region 3 with
    (go_at_call 45
     refine (l1Below_any p a n c 12 (by omega) (by omega) W2 HC2.out).mono ?_
     rintro e w3 ⟨x, -, rfl, hC3, hO3⟩
     have HC3 : Hid (Cur 102 w3 p a n c) := hC3
     have X3 : Hid (Box w3 g #[.int .i64 k, .int .i64 m, .string s] 43) := X2.out.only hO3 hgp
     have R3 : Hid (Box w3 w.heap.size #[.int .i64 0, .int .i64 0, .string ⟨#[]⟩] 43) := R2.out.only hO3 hpn
     have F3 : Hid (w.grownBy w3 (some p)) := F2.out.trans (far_only hO3)
     clear hC3 hO3)
  obtain ⟨c0, c1, c2⟩ := X3.out.triV
  have f0 := X3.out.frozen 0
  have f1 := X3.out.frozen 1
  have f2 := X3.out.frozen 2
  obtain ⟨r0, r1, r2⟩ := R3.out.triV
  have z0 := R3.out.frozen 0
  have z1 := R3.out.frozen 1
  have z2 := R3.out.frozen 2
  rcases (show x = 0 ∨ x = 1 ∨ x = 2 ∨ (¬ x = 0 ∧ ¬ x = 1 ∧ ¬ x = 2) by omega) with hx | hx | hx | ⟨hx0, hx1, hx2⟩
  · subst hx
    go_upto_region 4 with (fail)
    go_wp2_with
      (go_at_call 45
       refine (l1Below_any p a n c 6 (by omega) (by omega) w3 HC3.out).mono ?_
       rintro e w4 ⟨y, hy, rfl, hC4, hO4⟩
       have HY : Hid (y < 6) := by show y < 6; omega
       have X4' := X3.out.only hO4 hgp
       have R4' := R3.out.only hO4 hpn
       have F4' := F3.out.trans (far_only hO4)
       have hy0 : (y : Int) ≤ 6 := by omega
       clear hO4 hy
       have HC4 : Hid (Cur 102 w4 p a n c) := hC4
       have X4 : Hid (Box w4 g #[.int .i64 k, .int .i64 m, .string s] 43) := X4'
       have R4 : Hid (Box w4 w.heap.size #[.int .i64 0, .int .i64 0, .string ⟨#[]⟩] 43) := R4'
       have F4 : Hid (w.grownBy w4 (some p)) := F4'
       clear hC4 X4' R4' F4' c0 c1 c2 f0 f1 f2 r0 r1 r2 z0 z1 z2
       obtain ⟨c0, c1, c2⟩ := X4.out.triV
       have f0 := X4.out.frozen 0
       have f1 := X4.out.frozen 1
       have f2 := X4.out.frozen 2
       obtain ⟨r0, r1, r2⟩ := R4.out.triV
       have z0 := R4.out.frozen 0
       have z1 := R4.out.frozen 1
       have z2 := R4.out.frozen 2)
    have E := (((R4.out.set (q := ⟨g, 0, none⟩) hgr (.int .i64 ((y : Int) - 1))).put 0 (.int .i64 ((y : Int) - 1))).put 1 (.int .i64 m)).put 2 (.string s)
    have q0 := E.cell 0
    have q1 := E.cell 1
    have q2 := E.cell 2
    (try simp only [Exit.inBlock, Exit.then])
    refine bodyPost_ret (by simp [results, Try.results46, go_sem, q0, q1, q2]; try rfl) rfl ?_
    exact ⟨((y : Int) - 1), m, s, rfl, ⟨by have := HGD.out; omega, by have := HY.out; omega, by have := HGD.out; omega⟩, cur_set (cur_set (cur_set (cur_set HC4.out (show p < g from Nat.lt_trans hpw HGW.out) (.int .i64 ((y : Int) - 1))) (show p < w.heap.size from hpw) _) (show p < w.heap.size from hpw) _) (show p < w.heap.size from hpw) _, far_set (far_set (far_set (far_set F4.out (show w.heap.size ≤ g from Nat.le_of_lt HGW.out) (.int .i64 ((y : Int) - 1))) (Nat.le_refl _) _) (Nat.le_refl _) _) (Nat.le_refl _) _⟩
  · subst hx
    go_upto_region 6 with (fail)
    go_wp2_with
      (go_at_call 78
       refine (l1PickInt_any p a n c w3.heap.size 3 3 [2, 1000000000001, -9223372036854775808] (by omega) (by omega) _ (cur_alloc HC3.out _) (by have := R3.out.lt; omega) (by intro i hi; exact intsL_at w3 [2, 1000000000001, -9223372036854775808] _ rfl rfl i hi)).mono ?_
       rintro e w4 ⟨y, hy, rfl, hC4, hO4⟩
       obtain ⟨v, hv⟩ : ∃ v, ([2, 1000000000001, -9223372036854775808] : List Int).getD y 0 = v := ⟨_, rfl⟩
       rw [hv]
       have HY : Hid (-9223372036854775808 ≤ v ∧ v ≤ 9223372036854775807) := by rw [← hv]; exact pickU y hy
       have X4' := (X3.out.alloc _).only hO4 hgp
       have R4' := (R3.out.alloc _).only hO4 hpn
       have F4' := (far_alloc F3.out _).trans (far_only hO4)
       clear hO4 hy hv
       have HC4 : Hid (Cur 102 w4 p a n c) := hC4
       have X4 : Hid (Box w4 g #[.int .i64 k, .int .i64 m, .string s] 43) := X4'
       have R4 : Hid (Box w4 w.heap.size #[.int .i64 0, .int .i64 0, .string ⟨#[]⟩] 43) := R4'
       have F4 : Hid (w.grownBy w4 (some p)) := F4'
       clear hC4 X4' R4' F4' c0 c1 c2 f0 f1 f2 r0 r1 r2 z0 z1 z2
       obtain ⟨c0, c1, c2⟩ := X4.out.triV
       have f0 := X4.out.frozen 0
       have f1 := X4.out.frozen 1
       have f2 := X4.out.frozen 2
       obtain ⟨r0, r1, r2⟩ := R4.out.triV
       have z0 := R4.out.frozen 0
       have z1 := R4.out.frozen 1
       have z2 := R4.out.frozen 2)
    have E := (((R4.out.set (q := ⟨g, 1, none⟩) hgr (.int .i64 v)).put 0 (.int .i64 k)).put 1 (.int .i64 v)).put 2 (.string s)
    have q0 := E.cell 0
    have q1 := E.cell 1
    have q2 := E.cell 2
    (try simp only [Exit.inBlock, Exit.then])
    refine bodyPost_ret (by simp [results, Try.results46, go_sem, q0, q1, q2]; try rfl) rfl ?_
    exact ⟨k, v, s, rfl, ⟨by have := HGD.out; omega, by have := HGD.out; omega, HY.out⟩, cur_set (cur_set (cur_set (cur_set HC4.out (show p < g from Nat.lt_trans hpw HGW.out) (.int .i64 v)) (show p < w.heap.size from hpw) _) (show p < w.heap.size from hpw) _) (show p < w.heap.size from hpw) _, far_set (far_set (far_set (far_set F4.out (show w.heap.size ≤ g from Nat.le_of_lt HGW.out) (.int .i64 v)) (Nat.le_refl _) _) (Nat.le_refl _) _) (Nat.le_refl _) _⟩
  · subst hx
    have HTS : Hid ((s ++ (⟨#[97, 97, 97, 97, 97, 97, 97, 97, 97, 97, 97, 97, 97, 97, 97, 97, 97, 97, 97, 97]⟩ : ByteArray)).size = s.size + 20) := by show _ = _; rw [ByteArray.size_append]; rfl
    have hsz : s.size ≤ 20 := HGD.out.1
    have HC4 := HC3
    have X4 := X3
    have R4 := R3
    have F4 := F3
    go_wp2
    generalize s ++ (⟨#[97, 97, 97, 97, 97, 97, 97, 97, 97, 97, 97, 97, 97, 97, 97, 97, 97, 97, 97, 97]⟩ : ByteArray) = t at HTS ⊢
    have E := (((R4.out.set (q := ⟨g, 2, none⟩) hgr (.string t)).put 0 (.int .i64 k)).put 1 (.int .i64 m)).put 2 (.string t)
    have q0 := E.cell 0
    have q1 := E.cell 1
    have q2 := E.cell 2
    (try simp only [Exit.inBlock, Exit.then])
    refine bodyPost_ret (by simp [results, Try.results46, go_sem, q0, q1, q2]; try rfl) rfl ?_
    exact ⟨k, m, t, rfl, ⟨by have := HGD.out; have := HTS.out; omega, by have := HGD.out; omega, by have := HGD.out; omega⟩, cur_set (cur_set (cur_set (cur_set HC4.out (show p < g from Nat.lt_trans hpw HGW.out) (.string t)) (show p < w.heap.size from hpw) _) (show p < w.heap.size from hpw) _) (show p < w.heap.size from hpw) _, far_set (far_set (far_set (far_set F4.out (show w.heap.size ≤ g from Nat.le_of_lt HGW.out) (.string t)) (Nat.le_refl _) _) (Nat.le_refl _) _) (Nat.le_refl _) _⟩
  · have HC4 := HC3
    have R4 := R3
    have F4 := F3
    have hb0 : ((x : Int) == 0) = false := by rw [beq_eq_false_iff_ne]; omega
    have hb1 : ((x : Int) == 1) = false := by rw [beq_eq_false_iff_ne]; omega
    have hb2 : ((x : Int) == 2) = false := by rw [beq_eq_false_iff_ne]; omega
    go_wp2
    have E := ((R4.out.put 0 (.int .i64 k)).put 1 (.int .i64 m)).put 2 (.string s)
    have q0 := E.cell 0
    have q1 := E.cell 1
    have q2 := E.cell 2
    (try simp only [Exit.inBlock, Exit.then])
    refine bodyPost_ret (by simp [results, Try.results46, go_sem, q0, q1, q2]; try rfl) rfl ?_
    exact ⟨k, m, s, rfl, ⟨by have := HGD.out; omega, by have := HGD.out; omega, by have := HGD.out; omega⟩, cur_set (cur_set (cur_set HC4.out (show p < w.heap.size from hpw) _) (show p < w.heap.size from hpw) _) (show p < w.heap.size from hpw) _, far_set (far_set (far_set F4.out (Nat.le_refl _) _) (Nat.le_refl _) _) (Nat.le_refl _) _⟩
theorem far_low {w0 w w' : World} {row : Option Nat} (h0 : w0.grownBy w row) (h : Below w0.heap.size w w') : w0.grownBy w' row :=
  ⟨h.os.trans h0.os, h.tape.trans h0.tape, h.output.trans h0.output, Nat.le_trans h0.size h.size, fun k hk hr => (h.block k hk).trans (h0.block k hk hr)⟩
def projOne (L : List Va3) (x : Int) : List Va3 := if 0 ≤ x ∧ x ≤ (L.length : Int) - 1 then [L.getD x.toNat default] else []
abbrev VasSz (L : List Va3) : Prop := ∀ x ∈ L, x.2.2.size ≤ 2097152
def projL (L : List Va3) (xs : List Int) : List Va3 := xs.flatMap (projOne L)
theorem proj_snoc (L : List Va3) {xs : List Int} {j : Nat} {x : Int} (h : xs[j]? = some x) : projL L (xs.take (j + 1)) = projL L (xs.take j) ++ projOne L x := by
  unfold projL
  rw [List.take_add_one, h, List.flatMap_append]
  simp
theorem proj_len (L : List Va3) : ∀ xs : List Int, (projL L xs).length ≤ xs.length
  | [] => by simp [projL]
  | x :: xs => by
    have h1 := proj_len L xs
    unfold projL at h1 ⊢
    rw [List.flatMap_cons, List.length_append, List.length_cons]
    have h2 : (projOne L x).length ≤ 1 := by unfold projOne; split <;> simp
    omega
theorem proj_yes {L : List Va3} {m : Nat} {y : Va3} (h : L[m]? = some y) : projOne L (m : Int) = [y] := by
  have hm := (List.getElem?_eq_some_iff.1 h).1
  unfold projOne
  rw [if_pos (by omega), Int.toNat_natCast]
  simp [List.getD, h]
end
section
open Go.ChangeShapes Go.WideShapes Go.ChangeAt Go.RowKit Go.Joins
structure RowIn (w : World) (g q p : Nat) (a : Option Addr) (n c base : Nat) (us : List Value) (D : SchD) (T : Nat → Prop) (v : Value) (L : List Va3) (wr : World) : Prop where
  box : Box wr q us.toArray 28
  own : OwnL wr base us (schE D) T
  row : VOwn wr g v L
  cur : Cur 102 wr p a n c
  far : w.grownBy wr (some p)
  sz : g ≤ wr.heap.size
  hg : w.heap.size = q ∧ q < g
  hp : p < base ∧ p < q
  nt : ∀ x, T x → x < q
theorem RowIn.grown {w : World} {g q p : Nat} {a : Option Addr} {n c base : Nat} {us : List Value} {D : SchD} {T : Nat → Prop} {v : Value} {L : List Va3} {z w' : World} (h : RowIn w g q p a n c base us D T v L z) (hf : z.grownBy w' (some p)) (hc : Cur 102 w' p a n c) : RowIn w g q p a n c base us D T v L w' := by
  obtain ⟨h1, h2⟩ := h.hg
  obtain ⟨h3, h4⟩ := h.hp
  exact ⟨(hf.block q h.box.lt (fun e => by injection e with e; omega)).trans h.box, h.own.heap fun x hx => hf.block x (h.own.lt x hx).2 (fun e => by injection e with e; have := (h.own.lt x hx).1; omega), own_only h.row hf (by omega), hc, h.far.trans hf, Nat.le_trans h.sz hf.size, h.hg, h.hp, h.nt⟩
theorem RowIn.more {w : World} {g q p : Nat} {a : Option Addr} {n c base : Nat} {us : List Value} {D : SchD} {T : Nat → Prop} {v : Value} {L : List Va3} {z w' : World} (h : RowIn w g q p a n c base us D T v L z) {v' : Value} {x : Va3} (hb : Below g z w') (ho : VOwn w' g v' (L ++ [x])) : RowIn w g q p a n c base us D T v' (L ++ [x]) w' := by
  obtain ⟨h1, h2⟩ := h.hg
  obtain ⟨h3, h4⟩ := h.hp
  exact ⟨h.box.below hb h2, h.own.heap fun y hy => hb.block y (by have := h.nt y hy; omega), ho, h.cur.keep fun k hk => hb.block k (by omega), far_low h.far (by rw [h1]; exact ⟨hb.os, hb.tape, hb.output, by have := hb.size; have := h.sz; omega, fun k hk => hb.block k (by omega)⟩), Nat.le_trans h.sz hb.size, h.hg, h.hp, h.nt⟩
theorem own_cols {w : World} {base : Nat} {a1 a2 a3 : Option Addr} {n1 c1 n2 c2 n3 c3 : Nat} {D : SchD} {T : Nat → Prop} (h : OwnL w base [.slice a1 n1 c1, .slice a2 n2 c2, .slice a3 n3 c3] (schE D) T) : n1 = 0 ∨ ∃ b o, a1 = some ⟨b, o, none⟩ ∧ ∀ i x, D.cols[i]? = some x → w.cell? ⟨b, o + i * 3, none⟩ = some (.string x.1) ∧ w.cell? ⟨b, o + i * 3 + 1, none⟩ = some (.int .i64 x.2.1) ∧ w.cell? ⟨b, o + i * 3 + 2, none⟩ = some (.bool x.2.2) := by
  obtain ⟨_, _, _, _, _, _, _, _, _, he, hs⟩ := own_sch h
  simp only [List.cons.injEq, Value.slice.injEq, and_true] at he
  obtain ⟨⟨rfl, rfl, rfl⟩, -⟩ := he
  exact hs.cols.2.2
theorem l19DrawRow_any (p : Nat) (a : Option Addr) (n c base : Nat) (us : List Value) (D : SchD) (T : Nat → Prop) (w : World) (hC : Cur 102 w p a n c) (hO : OwnL w base us (schE D) T) (hpb : p < base) :
    Calls Try.prog 44 #[.pointer (some ⟨p, 0, none⟩), .agg us.toArray] w fun e w' => ∃ v L, e = .returned v ∧ VOwn w' w.heap.size v L ∧ (L.length = D.cols.length ∧ ∀ x ∈ L, x.2.2.size ≤ 40) ∧ Cur 102 w' p a n c ∧ w.grownBy w' (some p) := by
  obtain ⟨a1, n1, c1, a2, n2, c2, a3, n3, c3, rfl, hsch⟩ := own_sch hO
  have HCL : Hid (D.cols.length = n1 ∧ n1 ≤ 2097152) := ⟨hsch.cols.1, hsch.cols.2.1⟩
  obtain ⟨q, hq⟩ : ∃ q, w.heap.size = q := ⟨_, rfl⟩
  have HQ : Hid (w.heap.size = q) := hq
  obtain ⟨W, hW⟩ : ∃ W, w.alloc (.cells #[.slice a1 n1 c1, .slice a2 n2 c2, .slice a3 n3 c3] 28) = W := ⟨_, rfl⟩
  have HW : Hid (w.alloc (.cells #[.slice a1 n1 c1, .slice a2 n2 c2, .slice a3 n3 c3] 28) = W) := hW
  have ZW : W.heap.size = q + 1 := by rw [← hW, World.size_alloc, hq]
  obtain ⟨g, hg⟩ : ∃ g, q + 1 = g := ⟨_, rfl⟩
  have HQ1 : Hid (q + 1 = g) := hg
  obtain ⟨W1, hW1⟩ : ∃ W1, W.alloc (.cells #[] 43) = W1 := ⟨_, rfl⟩
  have HW1 : Hid (W.alloc (.cells #[] 43) = W1) := hW1
  have I1 : Hid (RowIn w g q p a n c base [.slice a1 n1 c1, .slice a2 n2 c2, .slice a3 n3 c3] D T (.slice (some ⟨g, 0, none⟩) 0 0) [] W1) := by
    have b1 : Below w.heap.size w W1 := by rw [← hW1, ← hW]; exact ((Below.refl _ w).alloc (Nat.le_refl _) _).alloc (by rw [World.size_alloc]; omega) _
    refine ⟨?_, hO.on b1 (Nat.le_refl _), ?_, cur_below hC b1, far_below b1 _, ?_, ⟨hq, by omega⟩, ⟨hpb, by have := hC.lt; omega⟩, fun x hx => by have := (hO.lt x hx).2; omega⟩
    · have h1 : Box W q #[.slice a1 n1 c1, .slice a2 n2 c2, .slice a3 n3 c3] 28 := by rw [← hW, ← hq]; exact box_of w _ _
      rw [← hW1]
      exact h1.alloc _
    · rw [← hW1]
      exact vown_nil W (by omega) (Nat.le_refl _)
    · rw [← hW1, World.size_alloc]
      omega
  clear hW hW1 hq hg ZW hC hO hsch hpb
  go_enter Try.func44, Try.ntmps44
  go_upto_region 2 with (fail)
  rw [HW.out, HQ.out, HW1.out, HQ1.out]
  go_wp2
  go_loopw [5, 6] (fun v i wr => ∃ L : List Va3, L.length ≤ n1 ∧ i = .int .i64 (L.length : Int) ∧ (∀ x ∈ L, x.2.2.size ≤ 40) ∧ RowIn w g q p a n c base [.slice a1 n1 c1, .slice a2 n2 c2, .slice a3 n3 c3] D T v L wr) (fun _ i _ => n1 - (RowKit.intOf i).toNat)
  case atStart => exact ⟨[], Nat.zero_le _, rfl, (fun x hx => by cases hx), I1.out⟩
  case round =>
    obtain ⟨L, hL, rfl, hsz, hI⟩ := hrel
    have IR : Hid (RowIn w g q p a n c base [.slice a1 n1 c1, .slice a2 n2 c2, .slice a3 n3 c3] D T u5 L wr) := hI
    have HSZ : Hid (∀ x ∈ L, x.2.2.size ≤ 40) := hsz
    obtain ⟨c0, c1', c2'⟩ := (show Box wr q #[.slice a1 n1 c1, .slice a2 n2 c2, .slice a3 n3 c3] 28 from hI.box).triV
    clear hI hsz
    by_cases hlt : L.length < n1
    · rcases (own_cols IR.out.own) with h0 | ⟨p1, o1, rfl, -⟩
      · omega
      obtain ⟨y, hy⟩ : ∃ y, D.cols[L.length]? = some y := ⟨_, List.getElem?_eq_getElem (by have := HCL.out; omega)⟩
      obtain ⟨nm, kd, nl⟩ := y
      have CEL : Hid (∀ v M z, RowIn w g q p a n c base [.slice (some ⟨p1, o1, none⟩) n1 c1, .slice a2 n2 c2, .slice a3 n3 c3] D T v M z → z.cell? ⟨q, 0, none⟩ = some (.slice (some ⟨p1, o1, none⟩) n1 c1) ∧ z.cell? ⟨p1, o1 + L.length * 3 + 1, none⟩ = some (.int .i64 kd) ∧ z.cell? ⟨p1, o1 + L.length * 3 + 2, none⟩ = some (.bool nl)) := fun v M z hz => by
        rcases (own_cols hz.own) with h0 | ⟨p1', o1', he, g1⟩
        · omega
        cases he
        exact ⟨hz.box.cell 0, (g1 _ _ hy).2.1, (g1 _ _ hy).2.2⟩
      have hi0 : (0 : Int) ≤ (L.length : Int) := by omega
      have hi1 : (L.length : Int) < (n1 : Int) := by omega
      have HLN : Hid (L.length < n1 ∧ n1 ≤ 2097152) := ⟨hlt, HCL.out.2⟩
      have hi2 : (n1 : Int) ≤ 2097152 := by have := HCL.out.2; omega
      obtain ⟨c0, e1, e2⟩ := CEL.out _ _ _ IR.out
      clear hy hlt c1' c2'
      cases nl
      case false =>
        go_wp2_with (first
          | (go_at_call 80
             refine (l17DrawOf_any p a n c kd wr IR.out.cur).mono ?_
             rintro e w3 ⟨k, m, s, rfl, ⟨hgd, -⟩, hC3, hO3⟩
             have HGD : Hid (s.size ≤ 40) := by show _ ≤ _; unfold VaGood at hgd; omega
             have I3 : Hid (RowIn w g q p a n c base [.slice (some ⟨p1, o1, none⟩) n1 c1, .slice a2 n2 c2, .slice a3 n3 c3] D T u5 L w3) := IR.out.grown hO3 hC3
             clear hgd hC3 hO3 c0 e1 e2)
          | (at_builtin
             refine list_appV _ rfl _ _ rfl g u5 L rfl (I3.out.row.alloc _) ⟨w3.heap.size, 0, none⟩ 1 1 [(k, m, s)] rfl rfl (vnews _ _ rfl (k, m, s)) (by have := HLN.out; omega) (by have := I3.out.sz; simp; omega) ?_
             intro v4 w4 hown hbel hnil
             have hb4 : Below g w3 w4 := hbel w3 g (Nat.le_refl _) ((Below.refl g w3).alloc I3.out.sz _)
             have I4 : Hid (RowIn w g q p a n c base [.slice (some ⟨p1, o1, none⟩) n1 c1, .slice a2 n2 c2, .slice a3 n3 c3] D T v4 (L ++ [(k, m, s)]) w4) := I3.out.more hb4 hown
             clear hown hbel hb4 hnil))
        exact ⟨⟨L ++ [(k, m, s)], by rw [List.length_append]; have := HLN.out; show L.length + 1 ≤ n1; omega, by rw [List.length_append]; show Value.int .i64 ((L.length : Int) + 1) = .int .i64 ((L.length + 1 : Nat) : Int); rfl, (fun x hx => (List.mem_append.1 hx).elim (HSZ.out x) (fun h1 => by rw [List.mem_singleton.1 h1]; exact HGD.out)), I4.out⟩, by have := HLN.out; simp [RowKit.intOf]; omega⟩
      case true =>
        go_wp2_with fail
        refine (l1Once_anyB p a n c 3 (by omega) (by omega) wr IR.out.cur).mono ?_
        rintro e w2 ⟨⟨b, rfl⟩, hC1, hO1⟩
        have I2 : Hid (RowIn w g q p a n c base [.slice (some ⟨p1, o1, none⟩) n1 c1, .slice a2 n2 c2, .slice a3 n3 c3] D T u5 L w2) := IR.out.grown (far_only hO1) hC1
        clear hC1 hO1 c0 e1 e2
        obtain ⟨c0, e1, e2⟩ := CEL.out _ _ _ I2.out
        cases b
        case false =>
          go_wp2_with (first
            | (go_at_call 80
               refine (l17DrawOf_any p a n c kd w2 I2.out.cur).mono ?_
               rintro e w3 ⟨k, m, s, rfl, ⟨hgd, -⟩, hC3, hO3⟩
               have HGD : Hid (s.size ≤ 40) := by show _ ≤ _; unfold VaGood at hgd; omega
               have I3 : Hid (RowIn w g q p a n c base [.slice (some ⟨p1, o1, none⟩) n1 c1, .slice a2 n2 c2, .slice a3 n3 c3] D T u5 L w3) := I2.out.grown hO3 hC3
               clear hgd hC3 hO3 c0 e1 e2)
            | (at_builtin
               refine list_appV _ rfl _ _ rfl g u5 L rfl (I3.out.row.alloc _) ⟨w3.heap.size, 0, none⟩ 1 1 [(k, m, s)] rfl rfl (vnews _ _ rfl (k, m, s)) (by have := HLN.out; omega) (by have := I3.out.sz; simp; omega) ?_
               intro v4 w4 hown hbel hnil
               have hb4 : Below g w3 w4 := hbel w3 g (Nat.le_refl _) ((Below.refl g w3).alloc I3.out.sz _)
               have I4 : Hid (RowIn w g q p a n c base [.slice (some ⟨p1, o1, none⟩) n1 c1, .slice a2 n2 c2, .slice a3 n3 c3] D T v4 (L ++ [(k, m, s)]) w4) := I3.out.more hb4 hown
               clear hown hbel hb4 hnil))
          exact ⟨⟨L ++ [(k, m, s)], by rw [List.length_append]; have := HLN.out; show L.length + 1 ≤ n1; omega, by rw [List.length_append]; show Value.int .i64 ((L.length : Int) + 1) = .int .i64 ((L.length + 1 : Nat) : Int); rfl, (fun x hx => (List.mem_append.1 hx).elim (HSZ.out x) (fun h1 => by rw [List.mem_singleton.1 h1]; exact HGD.out)), I4.out⟩, by have := HLN.out; simp [RowKit.intOf]; omega⟩
        case true =>
          go_wp2_with
            (at_builtin
             refine list_appV _ rfl _ _ rfl g u5 L rfl (I2.out.row.alloc _) ⟨w2.heap.size, 0, none⟩ 1 1 [((0 : Int), (0 : Int), (⟨#[]⟩ : ByteArray))] rfl rfl (vnews _ _ rfl ((0 : Int), (0 : Int), (⟨#[]⟩ : ByteArray))) (by have := HLN.out; omega) (by have := I2.out.sz; simp; omega) ?_
             intro v4 w4 hown hbel hnil
             have hb4 : Below g w2 w4 := hbel w2 g (Nat.le_refl _) ((Below.refl g w2).alloc I2.out.sz _)
             have I4 : Hid (RowIn w g q p a n c base [.slice (some ⟨p1, o1, none⟩) n1 c1, .slice a2 n2 c2, .slice a3 n3 c3] D T v4 (L ++ [((0 : Int), (0 : Int), (⟨#[]⟩ : ByteArray))]) w4) := I2.out.more hb4 hown
             clear hown hbel hb4 hnil)
          exact ⟨⟨L ++ [((0 : Int), (0 : Int), (⟨#[]⟩ : ByteArray))], by rw [List.length_append]; have := HLN.out; show L.length + 1 ≤ n1; omega, by rw [List.length_append]; show Value.int .i64 ((L.length : Int) + 1) = .int .i64 ((L.length + 1 : Nat) : Int); rfl, (fun x hx => (List.mem_append.1 hx).elim (HSZ.out x) (fun h1 => by rw [List.mem_singleton.1 h1]; exact by decide)), I4.out⟩, by have := HLN.out; simp [RowKit.intOf]; omega⟩
    · obtain rfl : L.length = n1 := by omega
      have hHCL := HCL.out
      go_wp2
      go_ret
      have h1 := IR.out.hg
      exact ⟨_, L, rfl, own_weaken IR.out.row (by omega), ⟨by omega, HSZ.out⟩, IR.out.cur, IR.out.far⟩
end
section
open Go.ChangeShapes Go.WideShapes Go.ChangeAt Go.RowKit
theorem vaC_set {L : List Va3} {j : Nat} {x : Va3} (hj : j < L.length) : (((vaC L).set (j * 3) (.int .i64 x.1)).set (j * 3 + 1) (.int .i64 x.2.1)).set (j * 3 + 2) (.string x.2.2) = vaC (L.set j x) := by
  have e : L = L.take j ++ L[j] :: L.drop (j + 1) := by rw [← List.drop_eq_getElem_cons hj, List.take_append_drop]
  have h1 : vaC L = vaC (L.take j) ++ .int .i64 L[j].1 :: .int .i64 L[j].2.1 :: .string L[j].2.2 :: vaC (L.drop (j + 1)) := by
    have h2 := congrArg vaC e
    rw [vaC_append, vaC] at h2
    exact h2
  rw [h1, set_three _ _ _ _ _ _ _ _ _ (by rw [vaC_length, List.length_take]; omega), List.set_eq_take_append_cons_drop, if_pos hj, vaC_append, vaC]
theorem bytes_now {w w' : World} {a : Option Addr} {n : Nat} (h : BytesAt w w.heap.size a n) (hb : Below w.heap.size w w') : BytesAt w' w'.heap.size a n :=
  (h.keep fun k hk => hb.block k hk).mono hb.size
end
end Go.Proofs.Ytmgofehafjogfaa
