/- The drawing of values, walked. -/
import Derived.Test.YtmgofehafjogfaaDrawF
import Derived.Test.YtmgofehafjogfaaPick
import Derived.Test.YtmgofehafjogfaaVal17
import Derived.Deep.RegionHeld3
import Derived.Deep.Cut
namespace Go.Proofs.Ytmgofehafjogfaa
open Go.ChangeShapes Go.WideShapes Go.ChangeAt Go.RowKit

theorem intsL_at (w : World) (xs : List Int) (g : Nat) (hg : w.heap.size = g) {cs : Array Value} {T : TypeId} (hc : cs = (xs.map I).toArray) : ∀ i, i < xs.length → (w.alloc (.cells cs T)).cell? ⟨g, i, none⟩ = some (.int .i64 (xs.getD i 0)) := by
  intro i hi
  subst hg hc
  simp [World.cell?_alloc_at, List.getD, hi]
theorem textsL_at (w : World) (xs : List (List UInt8)) (g : Nat) (hg : w.heap.size = g) {cs : Array Value} {T : TypeId} (hc : cs = (xs.map S).toArray) : ∀ i, i < xs.length → (w.alloc (.cells cs T)).cell? ⟨g, i, none⟩ = some (S (xs.getD i [])) := by
  intro i hi
  subst hg hc
  simp [World.cell?_alloc_at, List.getD, hi]
theorem pickV : ∀ x : Nat, x < 8 → -1000000000000 ≤ ([0, 1, -1, 7, 255, 256, -1000000000000, 1000000000000] : List Int).getD x 0 ∧ ([0, 1, -1, 7, 255, 256, -1000000000000, 1000000000000] : List Int).getD x 0 ≤ 1000000000000 := by decide
theorem pickT : ∀ x : Nat, x < 9 → (⟨(([[], [97], [97, 98], [97, 0], [97, 0, 98], [0], [1], [255], [98]] : List (List UInt8)).getD x []).toArray⟩ : ByteArray).size ≤ 20 := by decide
set_option maxHeartbeats 4000000 in
set_option maxRecDepth 100000 in
theorem l17DrawOf_any (p : Nat) (a : Option Addr) (n c : Nat) (kind : Int) (w : World) (hC : Cur 102 w p a n c) :
    Calls Try.prog 80 #[.pointer (some ⟨p, 0, none⟩), .int .i64 kind] w fun e w' => ∃ (k m : Int) (s : ByteArray), e = .returned (VaV k m s) ∧ (VaGood k m s ∧ k = (if kind = 1 ∨ kind = 2 ∨ kind = 3 then kind else 0)) ∧ Cur 102 w' p a n c ∧ w.grownBy w' (some p) := by
  have hpw := hC.lt
  have hpn : ¬ w.heap.size = p := by omega
  obtain ⟨W, hW⟩ : ∃ W, w.alloc (.cells #[.int .i64 0, .int .i64 0, .string ⟨#[]⟩] 43) = W := ⟨_, rfl⟩
  have HW : Hid (w.alloc (.cells #[.int .i64 0, .int .i64 0, .string ⟨#[]⟩] 43) = W) := hW
  have HC : Hid (Cur 102 W p a n c) := by rw [← hW]; exact cur_alloc hC _
  have R0 : Hid (Box W w.heap.size #[.int .i64 0, .int .i64 0, .string ⟨#[]⟩] 43) := by rw [← hW]; exact box_of w _ _
  have F0 : Hid (w.grownBy W (some p)) := by rw [← hW]; exact World.grownBy_alloc _ _ _
  have HSW : Hid (W.heap.size = w.heap.size + 1) := by show _ = _; rw [← hW]; simp
  clear hW hC
  rcases (show kind = 1 ∨ kind = 2 ∨ kind = 3 ∨ (¬ kind = 1 ∧ ¬ kind = 2 ∧ ¬ kind = 3) by omega) with rfl | rfl | rfl | ⟨h1, h2, h3⟩
  · go_enter Try.func80, Try.ntmps80
    go_upto_region 1 with (fail)
    rw [HW.out]
    go_upto_region 3 with (fail)
    go_wp2_with
      (refine (l1Below_any p a n c 2 (by omega) (by omega) W HC.out).mono ?_
       rintro e w1 ⟨x, hx, rfl, hC1, hO1⟩
       have HX : Hid (x < 2) := by show x < 2; omega
       have HC1 : Hid (Cur 102 w1 p a n c) := hC1
       have R1 : Hid (Box w1 w.heap.size #[.int .i64 0, .int .i64 0, .string ⟨#[]⟩] 43) := R0.out.only hO1 hpn
       have F1 : Hid (w.grownBy w1 (some p)) := F0.out.trans (far_only hO1)
       clear hC1 hO1 hx
       obtain ⟨c0, c1, c2⟩ := R1.out.triV
       have f0 := R1.out.frozen 0
       have f1 := R1.out.frozen 1
       have f2 := R1.out.frozen 2)
    have E := ((R1.out.put 0 (.int .i64 1)).put 1 (.int .i64 (x : Int))).put 2 (.string ⟨#[]⟩)
    have q0 := E.cell 0
    have q1 := E.cell 1
    have q2 := E.cell 2
    (try simp only [Exit.inBlock, Exit.then])
    refine bodyPost_ret (by simp [results, Try.results80, go_sem, q0, q1, q2]; try rfl) rfl ?_
    exact ⟨1, (x : Int), ⟨#[]⟩, rfl, ⟨.inr (.inl ⟨rfl, ⟨by omega, by have := HX.out; omega⟩, rfl⟩), rfl⟩, cur_set (cur_set (cur_set HC1.out (show p < w.heap.size from hpw) _) (show p < w.heap.size from hpw) _) (show p < w.heap.size from hpw) _, far_set (far_set (far_set F1.out (Nat.le_refl _) _) (Nat.le_refl _) _) (Nat.le_refl _) _⟩
  · go_enter Try.func80, Try.ntmps80
    go_upto_region 1 with (fail)
    rw [HW.out]
    go_upto_region 5 with (fail)
    go_wp2_with
      (refine (l1PickInt_any p a n c W.heap.size 8 8 [0, 1, -1, 7, 255, 256, -1000000000000, 1000000000000] (by omega) (by omega) _ (cur_alloc HC.out _) (by have := HSW.out; omega) (by intro i hi; exact intsL_at W [0, 1, -1, 7, 255, 256, -1000000000000, 1000000000000] _ rfl rfl i hi)).mono ?_
       rintro e w1 ⟨x, hx, rfl, hC1, hO1⟩
       obtain ⟨m, hm⟩ : ∃ m, ([0, 1, -1, 7, 255, 256, -1000000000000, 1000000000000] : List Int).getD x 0 = m := ⟨_, rfl⟩
       rw [hm]
       have HX : Hid (-1000000000000 ≤ m ∧ m ≤ 1000000000000) := by rw [← hm]; exact pickV x hx
       have HC1 : Hid (Cur 102 w1 p a n c) := hC1
       have R1 : Hid (Box w1 w.heap.size #[.int .i64 0, .int .i64 0, .string ⟨#[]⟩] 43) := (R0.out.alloc _).only hO1 hpn
       have F1 : Hid (w.grownBy w1 (some p)) := (far_alloc F0.out _).trans (far_only hO1)
       clear hC1 hO1 hx hm
       obtain ⟨c0, c1, c2⟩ := R1.out.triV
       have f0 := R1.out.frozen 0
       have f1 := R1.out.frozen 1
       have f2 := R1.out.frozen 2)
    have E := ((R1.out.put 0 (.int .i64 2)).put 1 (.int .i64 m)).put 2 (.string ⟨#[]⟩)
    have q0 := E.cell 0
    have q1 := E.cell 1
    have q2 := E.cell 2
    (try simp only [Exit.inBlock, Exit.then])
    refine bodyPost_ret (by simp [results, Try.results80, go_sem, q0, q1, q2]; try rfl) rfl ?_
    exact ⟨2, m, ⟨#[]⟩, rfl, ⟨.inr (.inr (.inl ⟨rfl, HX.out, rfl⟩)), rfl⟩, cur_set (cur_set (cur_set HC1.out (show p < w.heap.size from hpw) _) (show p < w.heap.size from hpw) _) (show p < w.heap.size from hpw) _, far_set (far_set (far_set F1.out (Nat.le_refl _) _) (Nat.le_refl _) _) (Nat.le_refl _) _⟩
  · go_enter Try.func80, Try.ntmps80
    go_upto_region 1 with (fail)
    rw [HW.out]
    go_upto_region 7 with (fail)
    go_wp2_with
      (refine (l1Pick_any p a n c W.heap.size 9 9 [[], [97], [97, 98], [97, 0], [97, 0, 98], [0], [1], [255], [98]] (by omega) (by omega) _ (cur_alloc HC.out _) (by have := HSW.out; omega) (by intro i hi; exact textsL_at W [[], [97], [97, 98], [97, 0], [97, 0, 98], [0], [1], [255], [98]] _ rfl rfl i hi)).mono ?_
       rintro e w1 ⟨x, hx, rfl, hC1, hO1⟩
       obtain ⟨s, hm⟩ : ∃ s : ByteArray, S (([[], [97], [97, 98], [97, 0], [97, 0, 98], [0], [1], [255], [98]] : List (List UInt8)).getD x []) = .string s := ⟨_, rfl⟩
       rw [hm]
       have HX : Hid (s.size ≤ 20) := by rw [← Value.string.inj hm]; exact pickT x hx
       have HC1 : Hid (Cur 102 w1 p a n c) := hC1
       have R1 : Hid (Box w1 w.heap.size #[.int .i64 0, .int .i64 0, .string ⟨#[]⟩] 43) := (R0.out.alloc _).only hO1 hpn
       have F1 : Hid (w.grownBy w1 (some p)) := (far_alloc F0.out _).trans (far_only hO1)
       clear hC1 hO1 hx hm
       obtain ⟨c0, c1, c2⟩ := R1.out.triV
       have f0 := R1.out.frozen 0
       have f1 := R1.out.frozen 1
       have f2 := R1.out.frozen 2)
    have E := ((R1.out.put 0 (.int .i64 3)).put 1 (.int .i64 0)).put 2 (.string s)
    have q0 := E.cell 0
    have q1 := E.cell 1
    have q2 := E.cell 2
    (try simp only [Exit.inBlock, Exit.then])
    refine bodyPost_ret (by simp [results, Try.results80, go_sem, q0, q1, q2]; try rfl) rfl ?_
    exact ⟨3, 0, s, rfl, ⟨.inr (.inr (.inr ⟨rfl, rfl, HX.out⟩)), rfl⟩, cur_set (cur_set (cur_set HC1.out (show p < w.heap.size from hpw) _) (show p < w.heap.size from hpw) _) (show p < w.heap.size from hpw) _, far_set (far_set (far_set F1.out (Nat.le_refl _) _) (Nat.le_refl _) _) (Nat.le_refl _) _⟩
  · go_enter Try.func80, Try.ntmps80
    go_upto_region 1 with (fail)
    rw [HW.out]
    obtain ⟨c0, c1, c2⟩ := R0.out.triV
    have f0 := R0.out.frozen 0
    have f1 := R0.out.frozen 1
    have f2 := R0.out.frozen 2
    go_wp2
    have E := ((R0.out.put 0 (.int .i64 0)).put 1 (.int .i64 0)).put 2 (.string ⟨#[]⟩)
    have q0 := E.cell 0
    have q1 := E.cell 1
    have q2 := E.cell 2
    (try simp only [Exit.inBlock, Exit.then])
    refine bodyPost_ret (by simp [results, Try.results80, go_sem, q0, q1, q2]; try rfl) rfl ?_
    exact ⟨0, 0, ⟨#[]⟩, rfl, ⟨.inl ⟨rfl, rfl, rfl⟩, (by first | rfl | exact (if_neg (by omega)).symm)⟩, cur_set (cur_set (cur_set HC.out (show p < w.heap.size from hpw) _) (show p < w.heap.size from hpw) _) (show p < w.heap.size from hpw) _, far_set (far_set (far_set F0.out (Nat.le_refl _) _) (Nat.le_refl _) _) (Nat.le_refl _) _⟩
set_option maxHeartbeats 4000000 in
set_option maxRecDepth 100000 in
theorem l17DrawRight_any (p : Nat) (a : Option Addr) (n c : Nat) (w : World) (hC : Cur 102 w p a n c) :
    Calls Try.prog 82 #[.pointer (some ⟨p, 0, none⟩)] w fun e w' => ∃ (k m : Int) (s : ByteArray), e = .returned (VaV k m s) ∧ (VaGood k m s) ∧ Cur 102 w' p a n c ∧ w.grownBy w' (some p) := by
  have hpw := hC.lt
  have hpn : ¬ w.heap.size = p := by omega
  obtain ⟨W, hW⟩ : ∃ W, w.alloc (.cells #[.int .i64 0, .int .i64 0, .string ⟨#[]⟩] 43) = W := ⟨_, rfl⟩
  have HW : Hid (w.alloc (.cells #[.int .i64 0, .int .i64 0, .string ⟨#[]⟩] 43) = W) := hW
  have HC : Hid (Cur 102 W p a n c) := by rw [← hW]; exact cur_alloc hC _
  have R0 : Hid (Box W w.heap.size #[.int .i64 0, .int .i64 0, .string ⟨#[]⟩] 43) := by rw [← hW]; exact box_of w _ _
  have F0 : Hid (w.grownBy W (some p)) := by rw [← hW]; exact World.grownBy_alloc _ _ _
  have HSW : Hid (W.heap.size = w.heap.size + 1) := by show _ = _; rw [← hW]; simp
  clear hW hC
  go_enter Try.func82, Try.ntmps82
  go_upto_region 1 with (fail)
  rw [HW.out]
  go_wp2_with fail
  refine (l1Below_any p a n c 4 (by omega) (by omega) W HC.out).mono ?_
  rintro e w1 ⟨x, hx, rfl, hC1, hO1⟩
  have HC1 : Hid (Cur 102 w1 p a n c) := hC1
  have R1 : Hid (Box w1 w.heap.size #[.int .i64 0, .int .i64 0, .string ⟨#[]⟩] 43) := R0.out.only hO1 hpn
  have F1 : Hid (w.grownBy w1 (some p)) := F0.out.trans (far_only hO1)
  clear hC1 hO1 hx
  go_wp2_with fail
  refine (l17DrawOf_any p a n c (x : Int) w1 HC1.out).mono ?_
  rintro e w2 ⟨k, m, s, rfl, ⟨hg, -⟩, hC2, hO2⟩
  have HGD : Hid (VaGood k m s) := hg
  have HC2 : Hid (Cur 102 w2 p a n c) := hC2
  have R2 : Hid (Box w2 w.heap.size #[.int .i64 0, .int .i64 0, .string ⟨#[]⟩] 43) := R1.out.farG hO2 hpn
  have F2 : Hid (w.grownBy w2 (some p)) := F1.out.trans hO2
  clear hg hC2 hO2
  obtain ⟨c0, c1, c2⟩ := R2.out.triV
  have f0 := R2.out.frozen 0
  have f1 := R2.out.frozen 1
  have f2 := R2.out.frozen 2
  go_wp2
  have E := ((R2.out.put 0 (.int .i64 k)).put 1 (.int .i64 m)).put 2 (.string s)
  have q0 := E.cell 0
  have q1 := E.cell 1
  have q2 := E.cell 2
  (try simp only [Exit.inBlock, Exit.then])
  refine bodyPost_ret (by simp [results, Try.results82, go_sem, q0, q1, q2]; try rfl) rfl ?_
  exact ⟨k, m, s, rfl, HGD.out, cur_set (cur_set (cur_set HC2.out (show p < w.heap.size from hpw) _) (show p < w.heap.size from hpw) _) (show p < w.heap.size from hpw) _, far_set (far_set (far_set F2.out (Nat.le_refl _) _) (Nat.le_refl _) _) (Nat.le_refl _) _⟩
end Go.Proofs.Ytmgofehafjogfaa
