/- Texts joined: ImplVr, ImplVu, ImplRt. -/
import Derived.Test.YtgibeakclknhnaaDoorTU10
import Derived.Test.YtgibeakclknhnaaDoorTU02
set_option maxHeartbeats 4000000
set_option maxRecDepth 100000
namespace Go.Proofs.YtgibeakclknhnaaDoor
section
open Go.ChangeShapes Go.WideShapes Go.ChangeAt Go.RowKit
theorem Box.grown {w w' : World} {b R : Nat} {cs : Array Value} {T : TypeId} (h : Box w b cs T) (hg : w.grownBy w' (some R)) (hne : b ≠ R) : Box w' b cs T := (hg.block b h.lt (fun e => hne (by cases e; rfl))).trans h
theorem below_put3 (B : Nat) (a : World) (x y z : Value) : Below B a (((a.setCell ⟨B, 0, none⟩ x).setCell ⟨B, 1, none⟩ y).setCell ⟨B, 2, none⟩ z) := (((Below.refl B a).setCell (Nat.le_refl _) _).setCell (Nat.le_refl _) _).setCell (Nat.le_refl _) _
def ValSays (w : World) (R : Nat) (a : Option Addr) (n c : Nat) (l : List UInt8) (j : Nat) (e : Ending) (w' : World) : Prop :=
  ((∃ (x : Va3) (k : Nat), e = .returned (.tuple #[VaV x.1 x.2.1 x.2.2, .nilIface]) ∧ VaIs l j x k ∧ RdAt w' R a n c l k) ∨ (∃ (p : Int) (k : Nat), e = .returned (.tuple #[VaV 0 0 ⟨#[]⟩, ErrV p]) ∧ VaNo l j ∧ RdAt w' R a n c l k)) ∧ w.grownBy w' (some R)
theorem value_null (w : World) (R : Nat) (a : Option Addr) (n c : Nat) (l : List UInt8) (j : Nat) (h : RdAt w R a n c l j) (hR : R < w.heap.size) (hx : l[j]? = some 1) :
    Calls Tryd.prog 41 #[.pointer (some ⟨R, 0, none⟩)] w fun e w' => ValSays w R a n c l j e w' := by
  obtain ⟨B, hB⟩ : ∃ B, w.heap.size = B := ⟨_, rfl⟩
  have HBQ : Hid (w.heap.size = B) := hB
  obtain ⟨W, hW⟩ : ∃ W, w.alloc (.cells #[.int .i64 0, .int .i64 0, .string ⟨#[]⟩] 37) = W := ⟨_, rfl⟩
  have HW : Hid (w.alloc (.cells #[.int .i64 0, .int .i64 0, .string ⟨#[]⟩] 37) = W) := hW
  have H0 : Hid (RdAt W R a n c l j) := by rw [← hW]; exact h.below ((Below.refl _ w).alloc (Nat.le_refl _) _)
  have HG0 : Hid (w.grownBy W (some R)) := by rw [← hW]; exact World.grownBy_alloc w _ _
  have RB0 : Hid (Box W B #[.int .i64 0, .int .i64 0, .string ⟨#[]⟩] 37) := by rw [← hW, ← hB]; exact box_of w _ _
  have HLT : Hid (∀ ad, a = some ad → 0 < n → ad.block < B) := by have := h.bys.lt; rw [hB] at this; exact this
  have HR : Hid (R < B) := by rw [← hB]; exact hR
  have HN : Hid (n ≤ 2097152 ∧ l.length = n) := ⟨h.bys.2.1, h.bys.1⟩
  have HX : Hid (l[j]? = some 1) := hx
  have HJN : Hid (j < n) := by have := one_len hx; show j < n; rw [← h.bys.1]; exact this
  have HV1 : Hid (numV ((l.drop j).take 1) = 1) := by
    show _ = _
    rw [dropB hx, List.take_succ_cons, List.take_zero, numV_one]
    rfl
  obtain ⟨c0, c1, _, _⟩ := H0.out.box.two
  clear hW hB h hR hx
  go_enter Tryd.func41, Tryd.ntmps41
  go_upto_region 1 with (fail)
  rw [HW.out]
  (try rw [HBQ.out])
  go_wp2_with fail
  refine (number_ok W R a n c l j H0.out 1 (by have := HJN.out; omega) (by decide) (by decide)).mono ?_
  rintro e w1 ⟨rfl, h1, h2⟩
  rw [HV1.out]
  have HRD1 : Hid (RdAt w1 R a n c l (j + 1)) := h1
  have HG1 : Hid (w.grownBy w1 (some R)) := HG0.out.trans h2
  have RB1 : Hid (Box w1 B #[.int .i64 0, .int .i64 0, .string ⟨#[]⟩] 37) := RB0.out.grown h2 (by have := HR.out; omega)
  clear h1 h2 c0 c1
  obtain ⟨g, hg⟩ : ∃ g, w1.heap.size = g := ⟨_, rfl⟩
  have HGQ : Hid (w1.heap.size = g) := hg
  have HBG : Hid (B < g) := by rw [← hg]; exact RB1.out.lt
  obtain ⟨W2, hW2⟩ : ∃ W2, w1.alloc (.cells #[.int .i64 0, .int .i64 0, .string ⟨#[]⟩] 37) = W2 := ⟨_, rfl⟩
  have HW2 : Hid (w1.alloc (.cells #[.int .i64 0, .int .i64 0, .string ⟨#[]⟩] 37) = W2) := hW2
  have hb2 : Below w.heap.size w1 W2 := by rw [← hW2]; exact (Below.refl _ w1).alloc (by rw [HBQ.out, hg]; exact Nat.le_of_lt HBG.out) _
  have X2 : Hid (Box W2 g #[.int .i64 0, .int .i64 0, .string ⟨#[]⟩] 37) := by rw [← hW2, ← hg]; exact box_of w1 _ _
  have RB2 : Hid (Box W2 B #[.int .i64 0, .int .i64 0, .string ⟨#[]⟩] 37) := by rw [← hW2]; exact RB1.out.alloc _
  have HG2 : Hid (w.grownBy W2 (some R)) := far_since HG1.out hb2
  have HRD2 : Hid (RdAt W2 R a n c l (j + 1)) := HRD1.out.since (by rw [← HBQ.out]; exact hb2) HR.out HLT.out
  clear hW2 hb2 hg
  go_upto_region 4 with (fail)
  rw [HW2.out, HGQ.out]
  obtain ⟨c0, c1, c2⟩ := X2.out.triV
  have HXB : True := trivial
  have XB2 : Hid (Box W2 g #[.int .i64 0, .int .i64 0, .string ⟨#[]⟩] 37) := X2.out
  clear HXB c0 c1 c2
  have HVG : Hid (decide (VaGood 0 0 ⟨#[]⟩) = true) := decide_eq_true (.inl ⟨rfl, rfl, rfl⟩)
  obtain ⟨c0, c1, c2⟩ := XB2.out.triV
  go_wp2_with fail
  refine (implValueOk_any 0 0 ⟨#[]⟩ _).mono ?_
  rintro e w3 ⟨rfl, hb⟩
  rw [HVG.out]
  have HRD3 : Hid (RdAt w3 R a n c l _) := HRD2.out.below hb
  have HG3 : Hid (w.grownBy w3 (some R)) := far_below_of HG2.out hb
  have RB3 : Hid (Box w3 B #[.int .i64 0, .int .i64 0, .string ⟨#[]⟩] 37) := RB2.out.below hb RB2.out.lt
  have XB3 : Hid (Box w3 g #[.int .i64 0, .int .i64 0, .string ⟨#[]⟩] 37) := XB2.out.below hb XB2.out.lt
  clear hb c0 c1 c2
  obtain ⟨c0, c1, c2⟩ := XB3.out.triV
  obtain ⟨r0, r1, r2⟩ := RB3.out.triV
  have z0 := RB3.out.frozen 0
  have z1 := RB3.out.frozen 1
  have z2 := RB3.out.frozen 2
  go_wp2
  have E := ((RB3.out.put 0 (.int .i64 0)).put 1 (.int .i64 0)).put 2 (.string ⟨#[]⟩)
  have q0 := E.cell 0
  have q1 := E.cell 1
  have q2 := E.cell 2
  refine bodyPost_ret (by simp [results, Tryd.results41, go_sem, q0, q1, q2]; try rfl) rfl ?_
  exact ⟨.inl ⟨(0, 0, ⟨#[]⟩), _, rfl, va_null HX.out, HRD3.out.since (below_put3 _ _ _ _ _) HR.out HLT.out⟩, far_since HG3.out (by rw [HBQ.out]; exact below_put3 _ _ _ _ _)⟩
theorem value_flag0 (w : World) (R : Nat) (a : Option Addr) (n c : Nat) (l : List UInt8) (j : Nat) (h : RdAt w R a n c l j) (hR : R < w.heap.size) (hs : ¬ j + 1 < n) (hx : l[j]? = some 2) :
    Calls Tryd.prog 41 #[.pointer (some ⟨R, 0, none⟩)] w fun e w' => ValSays w R a n c l j e w' := by
  have HS : Hid (¬ j + 1 < n) := hs
  clear hs
  obtain ⟨B, hB⟩ : ∃ B, w.heap.size = B := ⟨_, rfl⟩
  have HBQ : Hid (w.heap.size = B) := hB
  obtain ⟨W, hW⟩ : ∃ W, w.alloc (.cells #[.int .i64 0, .int .i64 0, .string ⟨#[]⟩] 37) = W := ⟨_, rfl⟩
  have HW : Hid (w.alloc (.cells #[.int .i64 0, .int .i64 0, .string ⟨#[]⟩] 37) = W) := hW
  have H0 : Hid (RdAt W R a n c l j) := by rw [← hW]; exact h.below ((Below.refl _ w).alloc (Nat.le_refl _) _)
  have HG0 : Hid (w.grownBy W (some R)) := by rw [← hW]; exact World.grownBy_alloc w _ _
  have RB0 : Hid (Box W B #[.int .i64 0, .int .i64 0, .string ⟨#[]⟩] 37) := by rw [← hW, ← hB]; exact box_of w _ _
  have HLT : Hid (∀ ad, a = some ad → 0 < n → ad.block < B) := by have := h.bys.lt; rw [hB] at this; exact this
  have HR : Hid (R < B) := by rw [← hB]; exact hR
  have HN : Hid (n ≤ 2097152 ∧ l.length = n) := ⟨h.bys.2.1, h.bys.1⟩
  have HX : Hid (l[j]? = some 2) := hx
  have HJN : Hid (j < n) := by have := one_len hx; show j < n; rw [← h.bys.1]; exact this
  have HV1 : Hid (numV ((l.drop j).take 1) = 2) := by
    show _ = _
    rw [dropB hx, List.take_succ_cons, List.take_zero, numV_one]
    rfl
  obtain ⟨c0, c1, _, _⟩ := H0.out.box.two
  clear hW hB h hR hx
  go_enter Tryd.func41, Tryd.ntmps41
  go_upto_region 1 with (fail)
  rw [HW.out]
  (try rw [HBQ.out])
  go_wp2_with fail
  refine (number_ok W R a n c l j H0.out 1 (by have := HJN.out; omega) (by decide) (by decide)).mono ?_
  rintro e w1 ⟨rfl, h1, h2⟩
  rw [HV1.out]
  have HRD1 : Hid (RdAt w1 R a n c l (j + 1)) := h1
  have HG1 : Hid (w.grownBy w1 (some R)) := HG0.out.trans h2
  have RB1 : Hid (Box w1 B #[.int .i64 0, .int .i64 0, .string ⟨#[]⟩] 37) := RB0.out.grown h2 (by have := HR.out; omega)
  clear h1 h2 c0 c1
  obtain ⟨g, hg⟩ : ∃ g, w1.heap.size = g := ⟨_, rfl⟩
  have HGQ : Hid (w1.heap.size = g) := hg
  have HBG : Hid (B < g) := by rw [← hg]; exact RB1.out.lt
  obtain ⟨W2, hW2⟩ : ∃ W2, w1.alloc (.cells #[.int .i64 1, .int .i64 0, .string ⟨#[]⟩] 37) = W2 := ⟨_, rfl⟩
  have HW2 : Hid (w1.alloc (.cells #[.int .i64 1, .int .i64 0, .string ⟨#[]⟩] 37) = W2) := hW2
  have hb2 : Below w.heap.size w1 W2 := by rw [← hW2]; exact (Below.refl _ w1).alloc (by rw [HBQ.out, hg]; exact Nat.le_of_lt HBG.out) _
  have X2 : Hid (Box W2 g #[.int .i64 1, .int .i64 0, .string ⟨#[]⟩] 37) := by rw [← hW2, ← hg]; exact box_of w1 _ _
  have RB2 : Hid (Box W2 B #[.int .i64 0, .int .i64 0, .string ⟨#[]⟩] 37) := by rw [← hW2]; exact RB1.out.alloc _
  have HG2 : Hid (w.grownBy W2 (some R)) := far_since HG1.out hb2
  have HRD2 : Hid (RdAt W2 R a n c l (j + 1)) := HRD1.out.since (by rw [← HBQ.out]; exact hb2) HR.out HLT.out
  clear hW2 hb2 hg
  go_upto_region 4 with (fail)
  rw [HW2.out, HGQ.out]
  obtain ⟨c0, c1, c2⟩ := X2.out.triV
  have HXB : True := trivial
  have XB2 : Hid (Box W2 g #[.int .i64 1, .int .i64 0, .string ⟨#[]⟩] 37) := X2.out
  clear HXB c0 c1 c2
  have HNO : Hid (VaNo l j) := no_flag HX.out (by have := HS.out; have := HN.out.2; omega)
  obtain ⟨c0, c1, c2⟩ := XB2.out.triV
  go_wp2_with fail
  refine (number_short W2 R a n c l (j + 1) HRD2.out 1 (by have := HS.out; omega)).mono ?_
  rintro e w3 ⟨rfl, h1, h2⟩
  have XB3 : Hid (Box w3 g _ 37) := XB2.out.grown h2 (by have := HR.out; have := HBG.out; omega)
  have RB3 : Hid (Box w3 B #[.int .i64 0, .int .i64 0, .string ⟨#[]⟩] 37) := RB2.out.grown h2 (by have := HR.out; omega)
  have HG3 : Hid (w.grownBy w3 (some R)) := HG2.out.trans h2
  have HRD3 : Hid (RdAt w3 R a n c l _) := h1
  clear h1 h2 c0 c1 c2
  obtain ⟨W4, hW⟩ : ∃ W4, w3.setCell ⟨g, 1, none⟩ (.int .i64 0) = W4 := ⟨_, rfl⟩
  have HW4 : Hid (w3.setCell ⟨g, 1, none⟩ (.int .i64 0) = W4) := hW
  have hb : Below B w3 W4 := by rw [← hW]; exact (Below.refl B _).setCell (Nat.le_of_lt HBG.out) _
  have XB4 : Hid (Box W4 g #[.int .i64 1, .int .i64 0, .string ⟨#[]⟩] 37) := by rw [← hW]; exact XB3.out.put 1 (.int .i64 0)
  have RB4 : Hid (Box W4 B #[.int .i64 0, .int .i64 0, .string ⟨#[]⟩] 37) := by rw [← hW]; exact RB3.out.set (Nat.ne_of_lt HBG.out) _
  have HG4 : Hid (w.grownBy W4 (some R)) := far_since HG3.out (by rw [HBQ.out]; exact hb)
  have HRD4 : Hid (RdAt W4 R a n c l _) := HRD3.out.since hb HR.out HLT.out
  obtain ⟨c0, c1, c2⟩ := XB3.out.triV
  have f1 := XB3.out.frozen 1
  clear hW hb
  go_upto_region 12 with (fail)
  rw [HW4.out]
  clear c0 c1 c2 f1
  obtain ⟨r0, r1, r2⟩ := RB4.out.triV
  have z0 := RB4.out.frozen 0
  have z1 := RB4.out.frozen 1
  have z2 := RB4.out.frozen 2
  go_wp2
  have E := ((RB4.out.put 0 (.int .i64 0)).put 1 (.int .i64 0)).put 2 (.string ⟨#[]⟩)
  have q0 := E.cell 0
  have q1 := E.cell 1
  have q2 := E.cell 2
  refine bodyPost_ret (by simp [results, Tryd.results41, go_sem, q0, q1, q2]; try rfl) rfl ?_
  exact ⟨.inr ⟨_, _, rfl, HNO.out, HRD4.out.since (below_put3 _ _ _ _ _) HR.out HLT.out⟩, far_since HG4.out (by rw [HBQ.out]; exact below_put3 _ _ _ _ _)⟩
theorem value_flag (w : World) (R : Nat) (a : Option Addr) (n c : Nat) (l : List UInt8) (j : Nat) (h : RdAt w R a n c l j) (hR : R < w.heap.size) (y : UInt8) (hy : l[j + 1]? = some y) (hx : l[j]? = some 2) :
    Calls Tryd.prog 41 #[.pointer (some ⟨R, 0, none⟩)] w fun e w' => ValSays w R a n c l j e w' := by
  have HY : Hid (l[j + 1]? = some y) := hy
  clear hy
  obtain ⟨B, hB⟩ : ∃ B, w.heap.size = B := ⟨_, rfl⟩
  have HBQ : Hid (w.heap.size = B) := hB
  obtain ⟨W, hW⟩ : ∃ W, w.alloc (.cells #[.int .i64 0, .int .i64 0, .string ⟨#[]⟩] 37) = W := ⟨_, rfl⟩
  have HW : Hid (w.alloc (.cells #[.int .i64 0, .int .i64 0, .string ⟨#[]⟩] 37) = W) := hW
  have H0 : Hid (RdAt W R a n c l j) := by rw [← hW]; exact h.below ((Below.refl _ w).alloc (Nat.le_refl _) _)
  have HG0 : Hid (w.grownBy W (some R)) := by rw [← hW]; exact World.grownBy_alloc w _ _
  have RB0 : Hid (Box W B #[.int .i64 0, .int .i64 0, .string ⟨#[]⟩] 37) := by rw [← hW, ← hB]; exact box_of w _ _
  have HLT : Hid (∀ ad, a = some ad → 0 < n → ad.block < B) := by have := h.bys.lt; rw [hB] at this; exact this
  have HR : Hid (R < B) := by rw [← hB]; exact hR
  have HN : Hid (n ≤ 2097152 ∧ l.length = n) := ⟨h.bys.2.1, h.bys.1⟩
  have HX : Hid (l[j]? = some 2) := hx
  have HJN : Hid (j < n) := by have := one_len hx; show j < n; rw [← h.bys.1]; exact this
  have HV1 : Hid (numV ((l.drop j).take 1) = 2) := by
    show _ = _
    rw [dropB hx, List.take_succ_cons, List.take_zero, numV_one]
    rfl
  obtain ⟨c0, c1, _, _⟩ := H0.out.box.two
  clear hW hB h hR hx
  go_enter Tryd.func41, Tryd.ntmps41
  go_upto_region 1 with (fail)
  rw [HW.out]
  (try rw [HBQ.out])
  go_wp2_with fail
  refine (number_ok W R a n c l j H0.out 1 (by have := HJN.out; omega) (by decide) (by decide)).mono ?_
  rintro e w1 ⟨rfl, h1, h2⟩
  rw [HV1.out]
  have HRD1 : Hid (RdAt w1 R a n c l (j + 1)) := h1
  have HG1 : Hid (w.grownBy w1 (some R)) := HG0.out.trans h2
  have RB1 : Hid (Box w1 B #[.int .i64 0, .int .i64 0, .string ⟨#[]⟩] 37) := RB0.out.grown h2 (by have := HR.out; omega)
  clear h1 h2 c0 c1
  obtain ⟨g, hg⟩ : ∃ g, w1.heap.size = g := ⟨_, rfl⟩
  have HGQ : Hid (w1.heap.size = g) := hg
  have HBG : Hid (B < g) := by rw [← hg]; exact RB1.out.lt
  obtain ⟨W2, hW2⟩ : ∃ W2, w1.alloc (.cells #[.int .i64 1, .int .i64 0, .string ⟨#[]⟩] 37) = W2 := ⟨_, rfl⟩
  have HW2 : Hid (w1.alloc (.cells #[.int .i64 1, .int .i64 0, .string ⟨#[]⟩] 37) = W2) := hW2
  have hb2 : Below w.heap.size w1 W2 := by rw [← hW2]; exact (Below.refl _ w1).alloc (by rw [HBQ.out, hg]; exact Nat.le_of_lt HBG.out) _
  have X2 : Hid (Box W2 g #[.int .i64 1, .int .i64 0, .string ⟨#[]⟩] 37) := by rw [← hW2, ← hg]; exact box_of w1 _ _
  have RB2 : Hid (Box W2 B #[.int .i64 0, .int .i64 0, .string ⟨#[]⟩] 37) := by rw [← hW2]; exact RB1.out.alloc _
  have HG2 : Hid (w.grownBy W2 (some R)) := far_since HG1.out hb2
  have HRD2 : Hid (RdAt W2 R a n c l (j + 1)) := HRD1.out.since (by rw [← HBQ.out]; exact hb2) HR.out HLT.out
  clear hW2 hb2 hg
  go_upto_region 4 with (fail)
  rw [HW2.out, HGQ.out]
  obtain ⟨c0, c1, c2⟩ := X2.out.triV
  have HXB : True := trivial
  have XB2 : Hid (Box W2 g #[.int .i64 1, .int .i64 0, .string ⟨#[]⟩] 37) := X2.out
  clear HXB c0 c1 c2
  have HV2 : Hid (numV ((l.drop (j + 1)).take 1) = (y.toNat : Int)) := by
    show _ = _
    rw [dropB HY.out, List.take_succ_cons, List.take_zero]
    exact numV_one y
  obtain ⟨c0, c1, c2⟩ := XB2.out.triV
  go_wp2_with fail
  refine (number_ok W2 R a n c l (j + 1) HRD2.out 1 (by have := one_len HY.out; have := HN.out.2; omega) (by decide) (by decide)).mono ?_
  rintro e w3 ⟨rfl, h1, h2⟩
  rw [HV2.out]
  have XB3 : Hid (Box w3 g _ 37) := XB2.out.grown h2 (by have := HR.out; have := HBG.out; omega)
  have RB3 : Hid (Box w3 B #[.int .i64 0, .int .i64 0, .string ⟨#[]⟩] 37) := RB2.out.grown h2 (by have := HR.out; omega)
  have HG3 : Hid (w.grownBy w3 (some R)) := HG2.out.trans h2
  have HRD3 : Hid (RdAt w3 R a n c l _) := h1
  clear h1 h2 c0 c1 c2
  obtain ⟨W4, hW⟩ : ∃ W4, w3.setCell ⟨g, 1, none⟩ (.int .i64 (y.toNat : Int)) = W4 := ⟨_, rfl⟩
  have HW4 : Hid (w3.setCell ⟨g, 1, none⟩ (.int .i64 (y.toNat : Int)) = W4) := hW
  have hb : Below B w3 W4 := by rw [← hW]; exact (Below.refl B _).setCell (Nat.le_of_lt HBG.out) _
  have XB4 : Hid (Box W4 g #[.int .i64 1, .int .i64 (y.toNat : Int), .string ⟨#[]⟩] 37) := by rw [← hW]; exact XB3.out.put 1 (.int .i64 (y.toNat : Int))
  have RB4 : Hid (Box W4 B #[.int .i64 0, .int .i64 0, .string ⟨#[]⟩] 37) := by rw [← hW]; exact RB3.out.set (Nat.ne_of_lt HBG.out) _
  have HG4 : Hid (w.grownBy W4 (some R)) := far_since HG3.out (by rw [HBQ.out]; exact hb)
  have HRD4 : Hid (RdAt W4 R a n c l _) := HRD3.out.since hb HR.out HLT.out
  obtain ⟨c0, c1, c2⟩ := XB3.out.triV
  have f1 := XB3.out.frozen 1
  clear hW hb
  go_upto_region 12 with (fail)
  rw [HW4.out]
  clear c0 c1 c2 f1
  by_cases hg : VaGood 1 (y.toNat : Int) ⟨#[]⟩
  · have HGD : Hid (VaGood 1 (y.toNat : Int) ⟨#[]⟩) := hg
    have HVG : Hid (decide (VaGood 1 (y.toNat : Int) ⟨#[]⟩) = true) := decide_eq_true hg
    clear hg
    obtain ⟨c0, c1, c2⟩ := XB4.out.triV
    go_wp2_with fail
    refine (implValueOk_any 1 (y.toNat : Int) ⟨#[]⟩ _).mono ?_
    rintro e w9 ⟨rfl, hb⟩
    rw [HVG.out]
    have HRD9 : Hid (RdAt w9 R a n c l _) := HRD4.out.below hb
    have HG9 : Hid (w.grownBy w9 (some R)) := far_below_of HG4.out hb
    have RB9 : Hid (Box w9 B #[.int .i64 0, .int .i64 0, .string ⟨#[]⟩] 37) := RB4.out.below hb RB4.out.lt
    have XB9 : Hid (Box w9 g #[.int .i64 1, .int .i64 (y.toNat : Int), .string ⟨#[]⟩] 37) := XB4.out.below hb XB4.out.lt
    clear hb c0 c1 c2
    obtain ⟨c0, c1, c2⟩ := XB9.out.triV
    obtain ⟨r0, r1, r2⟩ := RB9.out.triV
    have z0 := RB9.out.frozen 0
    have z1 := RB9.out.frozen 1
    have z2 := RB9.out.frozen 2
    go_wp2
    have E := ((RB9.out.put 0 (.int .i64 1)).put 1 (.int .i64 (y.toNat : Int))).put 2 (.string ⟨#[]⟩)
    have q0 := E.cell 0
    have q1 := E.cell 1
    have q2 := E.cell 2
    refine bodyPost_ret (by simp [results, Tryd.results41, go_sem, q0, q1, q2]; try rfl) rfl ?_
    exact ⟨.inl ⟨(1, (y.toNat : Int), ⟨#[]⟩), _, rfl, va_flag HX.out HY.out HGD.out, HRD9.out.since (below_put3 _ _ _ _ _) HR.out HLT.out⟩, far_since HG9.out (by rw [HBQ.out]; exact below_put3 _ _ _ _ _)⟩
  · have HGD : Hid (¬ VaGood 1 (y.toNat : Int) ⟨#[]⟩) := hg
    have HVG : Hid (decide (VaGood 1 (y.toNat : Int) ⟨#[]⟩) = false) := decide_eq_false hg
    clear hg
    obtain ⟨c0, c1, c2⟩ := XB4.out.triV
    go_wp2_with fail
    refine (implValueOk_any 1 (y.toNat : Int) ⟨#[]⟩ _).mono ?_
    rintro e w9 ⟨rfl, hb⟩
    rw [HVG.out]
    have HRD9 : Hid (RdAt w9 R a n c l _) := HRD4.out.below hb
    have HG9 : Hid (w.grownBy w9 (some R)) := far_below_of HG4.out hb
    have RB9 : Hid (Box w9 B #[.int .i64 0, .int .i64 0, .string ⟨#[]⟩] 37) := RB4.out.below hb RB4.out.lt
    have XB9 : Hid (Box w9 g #[.int .i64 1, .int .i64 (y.toNat : Int), .string ⟨#[]⟩] 37) := XB4.out.below hb XB4.out.lt
    clear hb c0 c1 c2
    obtain ⟨r0, r1, r2⟩ := RB9.out.triV
    have z0 := RB9.out.frozen 0
    have z1 := RB9.out.frozen 1
    have z2 := RB9.out.frozen 2
    go_wp2
    have E := ((RB9.out.put 0 (.int .i64 0)).put 1 (.int .i64 0)).put 2 (.string ⟨#[]⟩)
    have q0 := E.cell 0
    have q1 := E.cell 1
    have q2 := E.cell 2
    refine bodyPost_ret (by simp [results, Tryd.results41, go_sem, q0, q1, q2]; try rfl) rfl ?_
    exact ⟨.inr ⟨_, _, rfl, VaNo.of (rd_flag HX.out HY.out) HGD.out, HRD9.out.since (below_put3 _ _ _ _ _) HR.out HLT.out⟩, far_since HG9.out (by rw [HBQ.out]; exact below_put3 _ _ _ _ _)⟩
theorem value_int0 (w : World) (R : Nat) (a : Option Addr) (n c : Nat) (l : List UInt8) (j : Nat) (h : RdAt w R a n c l j) (hR : R < w.heap.size) (hs : l.length < j + 9) (hx : l[j]? = some 3) :
    Calls Tryd.prog 41 #[.pointer (some ⟨R, 0, none⟩)] w fun e w' => ValSays w R a n c l j e w' := by
  have HS : Hid (l.length < j + 9) := hs
  clear hs
  obtain ⟨B, hB⟩ : ∃ B, w.heap.size = B := ⟨_, rfl⟩
  have HBQ : Hid (w.heap.size = B) := hB
  obtain ⟨W, hW⟩ : ∃ W, w.alloc (.cells #[.int .i64 0, .int .i64 0, .string ⟨#[]⟩] 37) = W := ⟨_, rfl⟩
  have HW : Hid (w.alloc (.cells #[.int .i64 0, .int .i64 0, .string ⟨#[]⟩] 37) = W) := hW
  have H0 : Hid (RdAt W R a n c l j) := by rw [← hW]; exact h.below ((Below.refl _ w).alloc (Nat.le_refl _) _)
  have HG0 : Hid (w.grownBy W (some R)) := by rw [← hW]; exact World.grownBy_alloc w _ _
  have RB0 : Hid (Box W B #[.int .i64 0, .int .i64 0, .string ⟨#[]⟩] 37) := by rw [← hW, ← hB]; exact box_of w _ _
  have HLT : Hid (∀ ad, a = some ad → 0 < n → ad.block < B) := by have := h.bys.lt; rw [hB] at this; exact this
  have HR : Hid (R < B) := by rw [← hB]; exact hR
  have HN : Hid (n ≤ 2097152 ∧ l.length = n) := ⟨h.bys.2.1, h.bys.1⟩
  have HX : Hid (l[j]? = some 3) := hx
  have HJN : Hid (j < n) := by have := one_len hx; show j < n; rw [← h.bys.1]; exact this
  have HV1 : Hid (numV ((l.drop j).take 1) = 3) := by
    show _ = _
    rw [dropB hx, List.take_succ_cons, List.take_zero, numV_one]
    rfl
  obtain ⟨c0, c1, _, _⟩ := H0.out.box.two
  clear hW hB h hR hx
  go_enter Tryd.func41, Tryd.ntmps41
  go_upto_region 1 with (fail)
  rw [HW.out]
  (try rw [HBQ.out])
  go_wp2_with fail
  refine (number_ok W R a n c l j H0.out 1 (by have := HJN.out; omega) (by decide) (by decide)).mono ?_
  rintro e w1 ⟨rfl, h1, h2⟩
  rw [HV1.out]
  have HRD1 : Hid (RdAt w1 R a n c l (j + 1)) := h1
  have HG1 : Hid (w.grownBy w1 (some R)) := HG0.out.trans h2
  have RB1 : Hid (Box w1 B #[.int .i64 0, .int .i64 0, .string ⟨#[]⟩] 37) := RB0.out.grown h2 (by have := HR.out; omega)
  clear h1 h2 c0 c1
  obtain ⟨g, hg⟩ : ∃ g, w1.heap.size = g := ⟨_, rfl⟩
  have HGQ : Hid (w1.heap.size = g) := hg
  have HBG : Hid (B < g) := by rw [← hg]; exact RB1.out.lt
  obtain ⟨W2, hW2⟩ : ∃ W2, w1.alloc (.cells #[.int .i64 2, .int .i64 0, .string ⟨#[]⟩] 37) = W2 := ⟨_, rfl⟩
  have HW2 : Hid (w1.alloc (.cells #[.int .i64 2, .int .i64 0, .string ⟨#[]⟩] 37) = W2) := hW2
  have hb2 : Below w.heap.size w1 W2 := by rw [← hW2]; exact (Below.refl _ w1).alloc (by rw [HBQ.out, hg]; exact Nat.le_of_lt HBG.out) _
  have X2 : Hid (Box W2 g #[.int .i64 2, .int .i64 0, .string ⟨#[]⟩] 37) := by rw [← hW2, ← hg]; exact box_of w1 _ _
  have RB2 : Hid (Box W2 B #[.int .i64 0, .int .i64 0, .string ⟨#[]⟩] 37) := by rw [← hW2]; exact RB1.out.alloc _
  have HG2 : Hid (w.grownBy W2 (some R)) := far_since HG1.out hb2
  have HRD2 : Hid (RdAt W2 R a n c l (j + 1)) := HRD1.out.since (by rw [← HBQ.out]; exact hb2) HR.out HLT.out
  clear hW2 hb2 hg
  go_upto_region 4 with (fail)
  rw [HW2.out, HGQ.out]
  obtain ⟨c0, c1, c2⟩ := X2.out.triV
  have HXB : True := trivial
  have XB2 : Hid (Box W2 g #[.int .i64 2, .int .i64 0, .string ⟨#[]⟩] 37) := X2.out
  clear HXB c0 c1 c2
  have HNO : Hid (VaNo l j) := no_int HX.out HS.out
  obtain ⟨c0, c1, c2⟩ := XB2.out.triV
  go_wp2_with fail
  refine (number_short W2 R a n c l (j + 1) HRD2.out 8 (by have := HS.out; have := HN.out.2; omega)).mono ?_
  rintro e w3 ⟨rfl, h1, h2⟩
  have XB3 : Hid (Box w3 g _ 37) := XB2.out.grown h2 (by have := HR.out; have := HBG.out; omega)
  have RB3 : Hid (Box w3 B #[.int .i64 0, .int .i64 0, .string ⟨#[]⟩] 37) := RB2.out.grown h2 (by have := HR.out; omega)
  have HG3 : Hid (w.grownBy w3 (some R)) := HG2.out.trans h2
  have HRD3 : Hid (RdAt w3 R a n c l _) := h1
  clear h1 h2 c0 c1 c2
  obtain ⟨W4, hW⟩ : ∃ W4, (w3.setCell ⟨g, 1, none⟩ (.int .i64 0)).setCell ⟨g, 1, none⟩ (.int .i64 (-4611686018427387904)) = W4 := ⟨_, rfl⟩
  have HW4 : Hid ((w3.setCell ⟨g, 1, none⟩ (.int .i64 0)).setCell ⟨g, 1, none⟩ (.int .i64 (-4611686018427387904)) = W4) := hW
  have hb : Below B w3 W4 := by rw [← hW]; exact ((Below.refl B _).setCell (Nat.le_of_lt HBG.out) _).setCell (Nat.le_of_lt HBG.out) _
  have XB4 : Hid (Box W4 g #[.int .i64 2, .int .i64 (-4611686018427387904), .string ⟨#[]⟩] 37) := by rw [← hW]; exact (XB3.out.put 1 (.int .i64 0)).put 1 (.int .i64 (-4611686018427387904))
  have RB4 : Hid (Box W4 B #[.int .i64 0, .int .i64 0, .string ⟨#[]⟩] 37) := by rw [← hW]; exact (RB3.out.set (Nat.ne_of_lt HBG.out) _).set (Nat.ne_of_lt HBG.out) _
  have HG4 : Hid (w.grownBy W4 (some R)) := far_since HG3.out (by rw [HBQ.out]; exact hb)
  have HRD4 : Hid (RdAt W4 R a n c l _) := HRD3.out.since hb HR.out HLT.out
  obtain ⟨c0, c1, c2⟩ := XB3.out.triV
  have f1 := XB3.out.frozen 1
  clear hW hb
  go_upto_region 12 with (fail)
  rw [HW4.out]
  clear c0 c1 c2 f1
  obtain ⟨r0, r1, r2⟩ := RB4.out.triV
  have z0 := RB4.out.frozen 0
  have z1 := RB4.out.frozen 1
  have z2 := RB4.out.frozen 2
  go_wp2
  have E := ((RB4.out.put 0 (.int .i64 0)).put 1 (.int .i64 0)).put 2 (.string ⟨#[]⟩)
  have q0 := E.cell 0
  have q1 := E.cell 1
  have q2 := E.cell 2
  refine bodyPost_ret (by simp [results, Tryd.results41, go_sem, q0, q1, q2]; try rfl) rfl ?_
  exact ⟨.inr ⟨_, _, rfl, HNO.out, HRD4.out.since (below_put3 _ _ _ _ _) HR.out HLT.out⟩, far_since HG4.out (by rw [HBQ.out]; exact below_put3 _ _ _ _ _)⟩
theorem value_int (w : World) (R : Nat) (a : Option Addr) (n c : Nat) (l : List UInt8) (j : Nat) (h : RdAt w R a n c l j) (hR : R < w.heap.size) (hs : j + 9 ≤ l.length) (hx : l[j]? = some 3) :
    Calls Tryd.prog 41 #[.pointer (some ⟨R, 0, none⟩)] w fun e w' => ValSays w R a n c l j e w' := by
  have HS : Hid (j + 9 ≤ l.length) := hs
  clear hs
  obtain ⟨B, hB⟩ : ∃ B, w.heap.size = B := ⟨_, rfl⟩
  have HBQ : Hid (w.heap.size = B) := hB
  obtain ⟨W, hW⟩ : ∃ W, w.alloc (.cells #[.int .i64 0, .int .i64 0, .string ⟨#[]⟩] 37) = W := ⟨_, rfl⟩
  have HW : Hid (w.alloc (.cells #[.int .i64 0, .int .i64 0, .string ⟨#[]⟩] 37) = W) := hW
  have H0 : Hid (RdAt W R a n c l j) := by rw [← hW]; exact h.below ((Below.refl _ w).alloc (Nat.le_refl _) _)
  have HG0 : Hid (w.grownBy W (some R)) := by rw [← hW]; exact World.grownBy_alloc w _ _
  have RB0 : Hid (Box W B #[.int .i64 0, .int .i64 0, .string ⟨#[]⟩] 37) := by rw [← hW, ← hB]; exact box_of w _ _
  have HLT : Hid (∀ ad, a = some ad → 0 < n → ad.block < B) := by have := h.bys.lt; rw [hB] at this; exact this
  have HR : Hid (R < B) := by rw [← hB]; exact hR
  have HN : Hid (n ≤ 2097152 ∧ l.length = n) := ⟨h.bys.2.1, h.bys.1⟩
  have HX : Hid (l[j]? = some 3) := hx
  have HJN : Hid (j < n) := by have := one_len hx; show j < n; rw [← h.bys.1]; exact this
  have HV1 : Hid (numV ((l.drop j).take 1) = 3) := by
    show _ = _
    rw [dropB hx, List.take_succ_cons, List.take_zero, numV_one]
    rfl
  obtain ⟨c0, c1, _, _⟩ := H0.out.box.two
  clear hW hB h hR hx
  go_enter Tryd.func41, Tryd.ntmps41
  go_upto_region 1 with (fail)
  rw [HW.out]
  (try rw [HBQ.out])
  go_wp2_with fail
  refine (number_ok W R a n c l j H0.out 1 (by have := HJN.out; omega) (by decide) (by decide)).mono ?_
  rintro e w1 ⟨rfl, h1, h2⟩
  rw [HV1.out]
  have HRD1 : Hid (RdAt w1 R a n c l (j + 1)) := h1
  have HG1 : Hid (w.grownBy w1 (some R)) := HG0.out.trans h2
  have RB1 : Hid (Box w1 B #[.int .i64 0, .int .i64 0, .string ⟨#[]⟩] 37) := RB0.out.grown h2 (by have := HR.out; omega)
  clear h1 h2 c0 c1
  obtain ⟨g, hg⟩ : ∃ g, w1.heap.size = g := ⟨_, rfl⟩
  have HGQ : Hid (w1.heap.size = g) := hg
  have HBG : Hid (B < g) := by rw [← hg]; exact RB1.out.lt
  obtain ⟨W2, hW2⟩ : ∃ W2, w1.alloc (.cells #[.int .i64 2, .int .i64 0, .string ⟨#[]⟩] 37) = W2 := ⟨_, rfl⟩
  have HW2 : Hid (w1.alloc (.cells #[.int .i64 2, .int .i64 0, .string ⟨#[]⟩] 37) = W2) := hW2
  have hb2 : Below w.heap.size w1 W2 := by rw [← hW2]; exact (Below.refl _ w1).alloc (by rw [HBQ.out, hg]; exact Nat.le_of_lt HBG.out) _
  have X2 : Hid (Box W2 g #[.int .i64 2, .int .i64 0, .string ⟨#[]⟩] 37) := by rw [← hW2, ← hg]; exact box_of w1 _ _
  have RB2 : Hid (Box W2 B #[.int .i64 0, .int .i64 0, .string ⟨#[]⟩] 37) := by rw [← hW2]; exact RB1.out.alloc _
  have HG2 : Hid (w.grownBy W2 (some R)) := far_since HG1.out hb2
  have HRD2 : Hid (RdAt W2 R a n c l (j + 1)) := HRD1.out.since (by rw [← HBQ.out]; exact hb2) HR.out HLT.out
  clear hW2 hb2 hg
  go_upto_region 4 with (fail)
  rw [HW2.out, HGQ.out]
  obtain ⟨c0, c1, c2⟩ := X2.out.triV
  have HXB : True := trivial
  have XB2 : Hid (Box W2 g #[.int .i64 2, .int .i64 0, .string ⟨#[]⟩] 37) := X2.out
  clear HXB c0 c1 c2
  obtain ⟨N, hN⟩ : ∃ N, numV ((l.drop (j + 1)).take 8) = N := ⟨_, rfl⟩
  have HNQ : Hid (numV ((l.drop (j + 1)).take 8) = N) := hN
  clear hN
  obtain ⟨c0, c1, c2⟩ := XB2.out.triV
  go_wp2_with fail
  refine (number_ok W2 R a n c l (j + 1) HRD2.out 8 (by have := HS.out; have := HN.out.2; omega) (by decide) (by decide)).mono ?_
  rintro e w3 ⟨rfl, h1, h2⟩
  rw [HNQ.out]
  have XB3 : Hid (Box w3 g _ 37) := XB2.out.grown h2 (by have := HR.out; have := HBG.out; omega)
  have RB3 : Hid (Box w3 B #[.int .i64 0, .int .i64 0, .string ⟨#[]⟩] 37) := RB2.out.grown h2 (by have := HR.out; omega)
  have HG3 : Hid (w.grownBy w3 (some R)) := HG2.out.trans h2
  have HRD3 : Hid (RdAt w3 R a n c l _) := h1
  clear h1 h2 c0 c1 c2
  obtain ⟨W4, hW⟩ : ∃ W4, (w3.setCell ⟨g, 1, none⟩ (.int .i64 N)).setCell ⟨g, 1, none⟩ (.int .i64 (wrap64 (N - 4611686018427387904))) = W4 := ⟨_, rfl⟩
  have HW4 : Hid ((w3.setCell ⟨g, 1, none⟩ (.int .i64 N)).setCell ⟨g, 1, none⟩ (.int .i64 (wrap64 (N - 4611686018427387904))) = W4) := hW
  have hb : Below B w3 W4 := by rw [← hW]; exact ((Below.refl B _).setCell (Nat.le_of_lt HBG.out) _).setCell (Nat.le_of_lt HBG.out) _
  have XB4 : Hid (Box W4 g #[.int .i64 2, .int .i64 (wrap64 (N - 4611686018427387904)), .string ⟨#[]⟩] 37) := by rw [← hW]; exact (XB3.out.put 1 (.int .i64 N)).put 1 (.int .i64 (wrap64 (N - 4611686018427387904)))
  have RB4 : Hid (Box W4 B #[.int .i64 0, .int .i64 0, .string ⟨#[]⟩] 37) := by rw [← hW]; exact (RB3.out.set (Nat.ne_of_lt HBG.out) _).set (Nat.ne_of_lt HBG.out) _
  have HG4 : Hid (w.grownBy W4 (some R)) := far_since HG3.out (by rw [HBQ.out]; exact hb)
  have HRD4 : Hid (RdAt W4 R a n c l _) := HRD3.out.since hb HR.out HLT.out
  obtain ⟨c0, c1, c2⟩ := XB3.out.triV
  have f1 := XB3.out.frozen 1
  clear hW hb
  go_upto_region 12 with (fail)
  rw [HW4.out]
  clear c0 c1 c2 f1
  by_cases hg : VaGood 2 (wrap64 (N - 4611686018427387904)) ⟨#[]⟩
  · have HGD : Hid (VaGood 2 (wrap64 (N - 4611686018427387904)) ⟨#[]⟩) := hg
    have HVG : Hid (decide (VaGood 2 (wrap64 (N - 4611686018427387904)) ⟨#[]⟩) = true) := decide_eq_true hg
    clear hg
    obtain ⟨c0, c1, c2⟩ := XB4.out.triV
    go_wp2_with fail
    refine (implValueOk_any 2 (wrap64 (N - 4611686018427387904)) ⟨#[]⟩ _).mono ?_
    rintro e w9 ⟨rfl, hb⟩
    rw [HVG.out]
    have HRD9 : Hid (RdAt w9 R a n c l _) := HRD4.out.below hb
    have HG9 : Hid (w.grownBy w9 (some R)) := far_below_of HG4.out hb
    have RB9 : Hid (Box w9 B #[.int .i64 0, .int .i64 0, .string ⟨#[]⟩] 37) := RB4.out.below hb RB4.out.lt
    have XB9 : Hid (Box w9 g #[.int .i64 2, .int .i64 (wrap64 (N - 4611686018427387904)), .string ⟨#[]⟩] 37) := XB4.out.below hb XB4.out.lt
    clear hb c0 c1 c2
    obtain ⟨c0, c1, c2⟩ := XB9.out.triV
    obtain ⟨r0, r1, r2⟩ := RB9.out.triV
    have z0 := RB9.out.frozen 0
    have z1 := RB9.out.frozen 1
    have z2 := RB9.out.frozen 2
    go_wp2
    have E := ((RB9.out.put 0 (.int .i64 2)).put 1 (.int .i64 (wrap64 (N - 4611686018427387904)))).put 2 (.string ⟨#[]⟩)
    have q0 := E.cell 0
    have q1 := E.cell 1
    have q2 := E.cell 2
    refine bodyPost_ret (by simp [results, Tryd.results41, go_sem, q0, q1, q2]; try rfl) rfl ?_
    exact ⟨.inl ⟨(2, (wrap64 (N - 4611686018427387904)), ⟨#[]⟩), _, rfl, by have h := HGD.out; rw [← HNQ.out] at h ⊢; exact va_int HX.out HS.out h, HRD9.out.since (below_put3 _ _ _ _ _) HR.out HLT.out⟩, far_since HG9.out (by rw [HBQ.out]; exact below_put3 _ _ _ _ _)⟩
  · have HGD : Hid (¬ VaGood 2 (wrap64 (N - 4611686018427387904)) ⟨#[]⟩) := hg
    have HVG : Hid (decide (VaGood 2 (wrap64 (N - 4611686018427387904)) ⟨#[]⟩) = false) := decide_eq_false hg
    clear hg
    obtain ⟨c0, c1, c2⟩ := XB4.out.triV
    go_wp2_with fail
    refine (implValueOk_any 2 (wrap64 (N - 4611686018427387904)) ⟨#[]⟩ _).mono ?_
    rintro e w9 ⟨rfl, hb⟩
    rw [HVG.out]
    have HRD9 : Hid (RdAt w9 R a n c l _) := HRD4.out.below hb
    have HG9 : Hid (w.grownBy w9 (some R)) := far_below_of HG4.out hb
    have RB9 : Hid (Box w9 B #[.int .i64 0, .int .i64 0, .string ⟨#[]⟩] 37) := RB4.out.below hb RB4.out.lt
    have XB9 : Hid (Box w9 g #[.int .i64 2, .int .i64 (wrap64 (N - 4611686018427387904)), .string ⟨#[]⟩] 37) := XB4.out.below hb XB4.out.lt
    clear hb c0 c1 c2
    obtain ⟨r0, r1, r2⟩ := RB9.out.triV
    have z0 := RB9.out.frozen 0
    have z1 := RB9.out.frozen 1
    have z2 := RB9.out.frozen 2
    go_wp2
    have E := ((RB9.out.put 0 (.int .i64 0)).put 1 (.int .i64 0)).put 2 (.string ⟨#[]⟩)
    have q0 := E.cell 0
    have q1 := E.cell 1
    have q2 := E.cell 2
    refine bodyPost_ret (by simp [results, Tryd.results41, go_sem, q0, q1, q2]; try rfl) rfl ?_
    exact ⟨.inr ⟨_, _, rfl, by have h := HGD.out; rw [← HNQ.out] at h; exact VaNo.of (rd_int8 HX.out) h, HRD9.out.since (below_put3 _ _ _ _ _) HR.out HLT.out⟩, far_since HG9.out (by rw [HBQ.out]; exact below_put3 _ _ _ _ _)⟩
theorem value_text (w : World) (R : Nat) (a : Option Addr) (n c : Nat) (l : List UInt8) (j : Nat) (h : RdAt w R a n c l j) (hR : R < w.heap.size) (hx : l[j]? = some 4) :
    Calls Tryd.prog 41 #[.pointer (some ⟨R, 0, none⟩)] w fun e w' => ValSays w R a n c l j e w' := by
  obtain ⟨B, hB⟩ : ∃ B, w.heap.size = B := ⟨_, rfl⟩
  have HBQ : Hid (w.heap.size = B) := hB
  obtain ⟨W, hW⟩ : ∃ W, w.alloc (.cells #[.int .i64 0, .int .i64 0, .string ⟨#[]⟩] 37) = W := ⟨_, rfl⟩
  have HW : Hid (w.alloc (.cells #[.int .i64 0, .int .i64 0, .string ⟨#[]⟩] 37) = W) := hW
  have H0 : Hid (RdAt W R a n c l j) := by rw [← hW]; exact h.below ((Below.refl _ w).alloc (Nat.le_refl _) _)
  have HG0 : Hid (w.grownBy W (some R)) := by rw [← hW]; exact World.grownBy_alloc w _ _
  have RB0 : Hid (Box W B #[.int .i64 0, .int .i64 0, .string ⟨#[]⟩] 37) := by rw [← hW, ← hB]; exact box_of w _ _
  have HLT : Hid (∀ ad, a = some ad → 0 < n → ad.block < B) := by have := h.bys.lt; rw [hB] at this; exact this
  have HR : Hid (R < B) := by rw [← hB]; exact hR
  have HN : Hid (n ≤ 2097152 ∧ l.length = n) := ⟨h.bys.2.1, h.bys.1⟩
  have HX : Hid (l[j]? = some 4) := hx
  have HJN : Hid (j < n) := by have := one_len hx; show j < n; rw [← h.bys.1]; exact this
  have HV1 : Hid (numV ((l.drop j).take 1) = 4) := by
    show _ = _
    rw [dropB hx, List.take_succ_cons, List.take_zero, numV_one]
    rfl
  obtain ⟨c0, c1, _, _⟩ := H0.out.box.two
  clear hW hB h hR hx
  go_enter Tryd.func41, Tryd.ntmps41
  go_upto_region 1 with (fail)
  rw [HW.out]
  (try rw [HBQ.out])
  go_wp2_with fail
  refine (number_ok W R a n c l j H0.out 1 (by have := HJN.out; omega) (by decide) (by decide)).mono ?_
  rintro e w1 ⟨rfl, h1, h2⟩
  rw [HV1.out]
  have HRD1 : Hid (RdAt w1 R a n c l (j + 1)) := h1
  have HG1 : Hid (w.grownBy w1 (some R)) := HG0.out.trans h2
  have RB1 : Hid (Box w1 B #[.int .i64 0, .int .i64 0, .string ⟨#[]⟩] 37) := RB0.out.grown h2 (by have := HR.out; omega)
  clear h1 h2 c0 c1
  obtain ⟨g, hg⟩ : ∃ g, w1.heap.size = g := ⟨_, rfl⟩
  have HGQ : Hid (w1.heap.size = g) := hg
  have HBG : Hid (B < g) := by rw [← hg]; exact RB1.out.lt
  obtain ⟨W2, hW2⟩ : ∃ W2, w1.alloc (.cells #[.int .i64 3, .int .i64 0, .string ⟨#[]⟩] 37) = W2 := ⟨_, rfl⟩
  have HW2 : Hid (w1.alloc (.cells #[.int .i64 3, .int .i64 0, .string ⟨#[]⟩] 37) = W2) := hW2
  have hb2 : Below w.heap.size w1 W2 := by rw [← hW2]; exact (Below.refl _ w1).alloc (by rw [HBQ.out, hg]; exact Nat.le_of_lt HBG.out) _
  have X2 : Hid (Box W2 g #[.int .i64 3, .int .i64 0, .string ⟨#[]⟩] 37) := by rw [← hW2, ← hg]; exact box_of w1 _ _
  have RB2 : Hid (Box W2 B #[.int .i64 0, .int .i64 0, .string ⟨#[]⟩] 37) := by rw [← hW2]; exact RB1.out.alloc _
  have HG2 : Hid (w.grownBy W2 (some R)) := far_since HG1.out hb2
  have HRD2 : Hid (RdAt W2 R a n c l (j + 1)) := HRD1.out.since (by rw [← HBQ.out]; exact hb2) HR.out HLT.out
  clear hW2 hb2 hg
  go_upto_region 4 with (fail)
  rw [HW2.out, HGQ.out]
  obtain ⟨c0, c1, c2⟩ := X2.out.triV
  have HXB : True := trivial
  have XB2 : Hid (Box W2 g #[.int .i64 3, .int .i64 0, .string ⟨#[]⟩] 37) := X2.out
  clear HXB c0 c1 c2
  obtain ⟨c0, c1, c2⟩ := XB2.out.triV
  go_wp2_with fail
  refine (text_any W2 R a n c l (j + 1) HRD2.out HRD2.out.box.lt).mono ?_
  rintro e w3 ⟨⟨s, k, rfl, he, hk, h1⟩ | ⟨q, k, rfl, hno, h1⟩, h2⟩
  · have HT : Hid (l.drop (j + 1) = (escB s.data.toList ++ [0, 1]) ++ l.drop k) := he
    have HK : Hid (j + 1 < k) := hk
    have HKL : Hid (k ≤ l.length) := by have := h1.le; have := HN.out.2; show k ≤ _; omega
    clear he hk
    have XB3 : Hid (Box w3 g _ 37) := XB2.out.grown h2 (by have := HR.out; have := HBG.out; omega)
    have RB3 : Hid (Box w3 B #[.int .i64 0, .int .i64 0, .string ⟨#[]⟩] 37) := RB2.out.grown h2 (by have := HR.out; omega)
    have HG3 : Hid (w.grownBy w3 (some R)) := HG2.out.trans h2
    have HRD3 : Hid (RdAt w3 R a n c l _) := h1
    clear h1 h2 c0 c1 c2
    obtain ⟨W4, hW⟩ : ∃ W4, w3.setCell ⟨g, 2, none⟩ (.string s) = W4 := ⟨_, rfl⟩
    have HW4 : Hid (w3.setCell ⟨g, 2, none⟩ (.string s) = W4) := hW
    have hb : Below B w3 W4 := by rw [← hW]; exact (Below.refl B _).setCell (Nat.le_of_lt HBG.out) _
    have XB4 : Hid (Box W4 g #[.int .i64 3, .int .i64 0, .string s] 37) := by rw [← hW]; exact XB3.out.put 2 (.string s)
    have RB4 : Hid (Box W4 B #[.int .i64 0, .int .i64 0, .string ⟨#[]⟩] 37) := by rw [← hW]; exact RB3.out.set (Nat.ne_of_lt HBG.out) _
    have HG4 : Hid (w.grownBy W4 (some R)) := far_since HG3.out (by rw [HBQ.out]; exact hb)
    have HRD4 : Hid (RdAt W4 R a n c l _) := HRD3.out.since hb HR.out HLT.out
    obtain ⟨c0, c1, c2⟩ := XB3.out.triV
    have f2 := XB3.out.frozen 2
    clear hW hb
    go_upto_region 12 with (fail)
    rw [HW4.out]
    clear c0 c1 c2 f2
    by_cases hg : VaGood 3 0 s
    · have HGD : Hid (VaGood 3 0 s) := hg
      have HVG : Hid (decide (VaGood 3 0 s) = true) := decide_eq_true hg
      clear hg
      obtain ⟨c0, c1, c2⟩ := XB4.out.triV
      go_wp2_with fail
      refine (implValueOk_any 3 0 s _).mono ?_
      rintro e w9 ⟨rfl, hb⟩
      rw [HVG.out]
      have HRD9 : Hid (RdAt w9 R a n c l _) := HRD4.out.below hb
      have HG9 : Hid (w.grownBy w9 (some R)) := far_below_of HG4.out hb
      have RB9 : Hid (Box w9 B #[.int .i64 0, .int .i64 0, .string ⟨#[]⟩] 37) := RB4.out.below hb RB4.out.lt
      have XB9 : Hid (Box w9 g #[.int .i64 3, .int .i64 0, .string s] 37) := XB4.out.below hb XB4.out.lt
      clear hb c0 c1 c2
      obtain ⟨c0, c1, c2⟩ := XB9.out.triV
      obtain ⟨r0, r1, r2⟩ := RB9.out.triV
      have z0 := RB9.out.frozen 0
      have z1 := RB9.out.frozen 1
      have z2 := RB9.out.frozen 2
      go_wp2
      have E := ((RB9.out.put 0 (.int .i64 3)).put 1 (.int .i64 0)).put 2 (.string s)
      have q0 := E.cell 0
      have q1 := E.cell 1
      have q2 := E.cell 2
      refine bodyPost_ret (by simp [results, Tryd.results41, go_sem, q0, q1, q2]; try rfl) rfl ?_
      exact ⟨.inl ⟨(3, 0, s), _, rfl, (va_text HX.out HT.out HK.out HKL.out).2 HGD.out, HRD9.out.since (below_put3 _ _ _ _ _) HR.out HLT.out⟩, far_since HG9.out (by rw [HBQ.out]; exact below_put3 _ _ _ _ _)⟩
    · have HGD : Hid (¬ VaGood 3 0 s) := hg
      have HVG : Hid (decide (VaGood 3 0 s) = false) := decide_eq_false hg
      clear hg
      obtain ⟨c0, c1, c2⟩ := XB4.out.triV
      go_wp2_with fail
      refine (implValueOk_any 3 0 s _).mono ?_
      rintro e w9 ⟨rfl, hb⟩
      rw [HVG.out]
      have HRD9 : Hid (RdAt w9 R a n c l _) := HRD4.out.below hb
      have HG9 : Hid (w.grownBy w9 (some R)) := far_below_of HG4.out hb
      have RB9 : Hid (Box w9 B #[.int .i64 0, .int .i64 0, .string ⟨#[]⟩] 37) := RB4.out.below hb RB4.out.lt
      have XB9 : Hid (Box w9 g #[.int .i64 3, .int .i64 0, .string s] 37) := XB4.out.below hb XB4.out.lt
      clear hb c0 c1 c2
      obtain ⟨r0, r1, r2⟩ := RB9.out.triV
      have z0 := RB9.out.frozen 0
      have z1 := RB9.out.frozen 1
      have z2 := RB9.out.frozen 2
      go_wp2
      have E := ((RB9.out.put 0 (.int .i64 0)).put 1 (.int .i64 0)).put 2 (.string ⟨#[]⟩)
      have q0 := E.cell 0
      have q1 := E.cell 1
      have q2 := E.cell 2
      refine bodyPost_ret (by simp [results, Tryd.results41, go_sem, q0, q1, q2]; try rfl) rfl ?_
      exact ⟨.inr ⟨_, _, rfl, VaNo.of (va_text HX.out HT.out HK.out HKL.out).1 HGD.out, HRD9.out.since (below_put3 _ _ _ _ _) HR.out HLT.out⟩, far_since HG9.out (by rw [HBQ.out]; exact below_put3 _ _ _ _ _)⟩
  · have HNO : Hid (VaNo l j) := no_text HX.out hno
    clear hno
    have XB3 : Hid (Box w3 g _ 37) := XB2.out.grown h2 (by have := HR.out; have := HBG.out; omega)
    have RB3 : Hid (Box w3 B #[.int .i64 0, .int .i64 0, .string ⟨#[]⟩] 37) := RB2.out.grown h2 (by have := HR.out; omega)
    have HG3 : Hid (w.grownBy w3 (some R)) := HG2.out.trans h2
    have HRD3 : Hid (RdAt w3 R a n c l _) := h1
    clear h1 h2 c0 c1 c2
    obtain ⟨W4, hW⟩ : ∃ W4, w3.setCell ⟨g, 2, none⟩ (.string ⟨#[]⟩) = W4 := ⟨_, rfl⟩
    have HW4 : Hid (w3.setCell ⟨g, 2, none⟩ (.string ⟨#[]⟩) = W4) := hW
    have hb : Below B w3 W4 := by rw [← hW]; exact (Below.refl B _).setCell (Nat.le_of_lt HBG.out) _
    have XB4 : Hid (Box W4 g #[.int .i64 3, .int .i64 0, .string ⟨#[]⟩] 37) := by rw [← hW]; exact XB3.out.put 2 (.string ⟨#[]⟩)
    have RB4 : Hid (Box W4 B #[.int .i64 0, .int .i64 0, .string ⟨#[]⟩] 37) := by rw [← hW]; exact RB3.out.set (Nat.ne_of_lt HBG.out) _
    have HG4 : Hid (w.grownBy W4 (some R)) := far_since HG3.out (by rw [HBQ.out]; exact hb)
    have HRD4 : Hid (RdAt W4 R a n c l _) := HRD3.out.since hb HR.out HLT.out
    obtain ⟨c0, c1, c2⟩ := XB3.out.triV
    have f2 := XB3.out.frozen 2
    clear hW hb
    go_upto_region 12 with (fail)
    rw [HW4.out]
    clear c0 c1 c2 f2
    obtain ⟨r0, r1, r2⟩ := RB4.out.triV
    have z0 := RB4.out.frozen 0
    have z1 := RB4.out.frozen 1
    have z2 := RB4.out.frozen 2
    go_wp2
    have E := ((RB4.out.put 0 (.int .i64 0)).put 1 (.int .i64 0)).put 2 (.string ⟨#[]⟩)
    have q0 := E.cell 0
    have q1 := E.cell 1
    have q2 := E.cell 2
    refine bodyPost_ret (by simp [results, Tryd.results41, go_sem, q0, q1, q2]; try rfl) rfl ?_
    exact ⟨.inr ⟨_, _, rfl, HNO.out, HRD4.out.since (below_put3 _ _ _ _ _) HR.out HLT.out⟩, far_since HG4.out (by rw [HBQ.out]; exact below_put3 _ _ _ _ _)⟩
theorem value_none (w : World) (R : Nat) (a : Option Addr) (n c : Nat) (l : List UInt8) (j : Nat) (h : RdAt w R a n c l j) (hR : R < w.heap.size) (y : UInt8) (m : Nat) (hm : y.toNat = m) (hc : ¬ (1 ≤ m ∧ m ≤ 4)) (hx : l[j]? = some y) :
    Calls Tryd.prog 41 #[.pointer (some ⟨R, 0, none⟩)] w fun e w' => ValSays w R a n c l j e w' := by
  have HM : Hid (y.toNat = m) := hm
  have HC : Hid (¬ (1 ≤ m ∧ m ≤ 4)) := hc
  have hm256 : m < 256 := by rw [← hm]; exact y.toNat_lt
  have hk1 : (((m : Int) - 1) == 1) = false := by rw [beq_eq_false_iff_ne]; omega
  have hk2 : (((m : Int) - 1) == 2) = false := by rw [beq_eq_false_iff_ne]; omega
  have hk3 : (((m : Int) - 1) == 3) = false := by rw [beq_eq_false_iff_ne]; omega
  have hm0 : (0 : Int) ≤ (m : Int) := by omega
  have hm1 : (m : Int) < 256 := by omega
  clear hc
  obtain ⟨B, hB⟩ : ∃ B, w.heap.size = B := ⟨_, rfl⟩
  have HBQ : Hid (w.heap.size = B) := hB
  obtain ⟨W, hW⟩ : ∃ W, w.alloc (.cells #[.int .i64 0, .int .i64 0, .string ⟨#[]⟩] 37) = W := ⟨_, rfl⟩
  have HW : Hid (w.alloc (.cells #[.int .i64 0, .int .i64 0, .string ⟨#[]⟩] 37) = W) := hW
  have H0 : Hid (RdAt W R a n c l j) := by rw [← hW]; exact h.below ((Below.refl _ w).alloc (Nat.le_refl _) _)
  have HG0 : Hid (w.grownBy W (some R)) := by rw [← hW]; exact World.grownBy_alloc w _ _
  have RB0 : Hid (Box W B #[.int .i64 0, .int .i64 0, .string ⟨#[]⟩] 37) := by rw [← hW, ← hB]; exact box_of w _ _
  have HLT : Hid (∀ ad, a = some ad → 0 < n → ad.block < B) := by have := h.bys.lt; rw [hB] at this; exact this
  have HR : Hid (R < B) := by rw [← hB]; exact hR
  have HN : Hid (n ≤ 2097152 ∧ l.length = n) := ⟨h.bys.2.1, h.bys.1⟩
  have HX : Hid (l[j]? = some y) := hx
  have HJN : Hid (j < n) := by have := one_len hx; show j < n; rw [← h.bys.1]; exact this
  have HV1 : Hid (numV ((l.drop j).take 1) = (m : Int)) := by
    show _ = _
    rw [dropB hx, List.take_succ_cons, List.take_zero, numV_one]
    rw [hm]
  obtain ⟨c0, c1, _, _⟩ := H0.out.box.two
  clear hW hB h hR hx
  go_enter Tryd.func41, Tryd.ntmps41
  go_upto_region 1 with (fail)
  rw [HW.out]
  (try rw [HBQ.out])
  go_wp2_with fail
  refine (number_ok W R a n c l j H0.out 1 (by have := HJN.out; omega) (by decide) (by decide)).mono ?_
  rintro e w1 ⟨rfl, h1, h2⟩
  rw [HV1.out]
  have HRD1 : Hid (RdAt w1 R a n c l (j + 1)) := h1
  have HG1 : Hid (w.grownBy w1 (some R)) := HG0.out.trans h2
  have RB1 : Hid (Box w1 B #[.int .i64 0, .int .i64 0, .string ⟨#[]⟩] 37) := RB0.out.grown h2 (by have := HR.out; omega)
  clear h1 h2 c0 c1
  obtain ⟨g, hg⟩ : ∃ g, w1.heap.size = g := ⟨_, rfl⟩
  have HGQ : Hid (w1.heap.size = g) := hg
  have HBG : Hid (B < g) := by rw [← hg]; exact RB1.out.lt
  obtain ⟨W2, hW2⟩ : ∃ W2, w1.alloc (.cells #[.int .i64 ((m : Int) - 1), .int .i64 0, .string ⟨#[]⟩] 37) = W2 := ⟨_, rfl⟩
  have HW2 : Hid (w1.alloc (.cells #[.int .i64 ((m : Int) - 1), .int .i64 0, .string ⟨#[]⟩] 37) = W2) := hW2
  have hb2 : Below w.heap.size w1 W2 := by rw [← hW2]; exact (Below.refl _ w1).alloc (by rw [HBQ.out, hg]; exact Nat.le_of_lt HBG.out) _
  have X2 : Hid (Box W2 g #[.int .i64 ((m : Int) - 1), .int .i64 0, .string ⟨#[]⟩] 37) := by rw [← hW2, ← hg]; exact box_of w1 _ _
  have RB2 : Hid (Box W2 B #[.int .i64 0, .int .i64 0, .string ⟨#[]⟩] 37) := by rw [← hW2]; exact RB1.out.alloc _
  have HG2 : Hid (w.grownBy W2 (some R)) := far_since HG1.out hb2
  have HRD2 : Hid (RdAt W2 R a n c l (j + 1)) := HRD1.out.since (by rw [← HBQ.out]; exact hb2) HR.out HLT.out
  clear hW2 hb2 hg
  go_upto_region 4 with (fail)
  rw [HW2.out, HGQ.out]
  obtain ⟨c0, c1, c2⟩ := X2.out.triV
  have HXB : True := trivial
  have XB2 : Hid (Box W2 g #[.int .i64 ((m : Int) - 1), .int .i64 0, .string ⟨#[]⟩] 37) := X2.out
  clear HXB c0 c1 c2
  have HNO : Hid (VaNo l j) := no_none HX.out (by rw [HM.out]; exact HC.out)
  have HVG : Hid (decide (VaGood ((m : Int) - 1) 0 ⟨#[]⟩) = false) := decide_eq_false (by have := HC.out; unfold VaGood; omega)
  obtain ⟨c0, c1, c2⟩ := XB2.out.triV
  go_wp2_with fail
  refine (implValueOk_any ((m : Int) - 1) 0 ⟨#[]⟩ _).mono ?_
  rintro e w3 ⟨rfl, hb⟩
  rw [HVG.out]
  have HRD3 : Hid (RdAt w3 R a n c l _) := HRD2.out.below hb
  have HG3 : Hid (w.grownBy w3 (some R)) := far_below_of HG2.out hb
  have RB3 : Hid (Box w3 B #[.int .i64 0, .int .i64 0, .string ⟨#[]⟩] 37) := RB2.out.below hb RB2.out.lt
  have XB3 : Hid (Box w3 g #[.int .i64 ((m : Int) - 1), .int .i64 0, .string ⟨#[]⟩] 37) := XB2.out.below hb XB2.out.lt
  clear hb c0 c1 c2
  obtain ⟨r0, r1, r2⟩ := RB3.out.triV
  have z0 := RB3.out.frozen 0
  have z1 := RB3.out.frozen 1
  have z2 := RB3.out.frozen 2
  go_wp2
  have E := ((RB3.out.put 0 (.int .i64 0)).put 1 (.int .i64 0)).put 2 (.string ⟨#[]⟩)
  have q0 := E.cell 0
  have q1 := E.cell 1
  have q2 := E.cell 2
  refine bodyPost_ret (by simp [results, Tryd.results41, go_sem, q0, q1, q2]; try rfl) rfl ?_
  exact ⟨.inr ⟨_, _, rfl, HNO.out, HRD3.out.since (below_put3 _ _ _ _ _) HR.out HLT.out⟩, far_since HG3.out (by rw [HBQ.out]; exact below_put3 _ _ _ _ _)⟩
theorem value_any (w : World) (R : Nat) (a : Option Addr) (n c : Nat) (l : List UInt8) (j : Nat) (h : RdAt w R a n c l j) (hR : R < w.heap.size) (hj : j < n) :
    Calls Tryd.prog 41 #[.pointer (some ⟨R, 0, none⟩)] w fun e w' => ValSays w R a n c l j e w' := by
  have hl := h.bys.1
  obtain ⟨x, hx⟩ := h.byte hj
  by_cases h1 : x = 1
  · subst h1; exact value_null w R a n c l j h hR hx
  by_cases h2 : x = 2
  · subst h2
    by_cases hs : j + 1 < n
    · obtain ⟨y, hy⟩ : ∃ y, l[j + 1]? = some y := ⟨_, List.getElem?_eq_getElem (show j + 1 < l.length by omega)⟩
      exact value_flag w R a n c l j h hR y hy hx
    · exact value_flag0 w R a n c l j h hR hs hx
  by_cases h3 : x = 3
  · subst h3
    by_cases hs : j + 9 ≤ l.length
    · exact value_int w R a n c l j h hR hs hx
    · exact value_int0 w R a n c l j h hR (by omega) hx
  by_cases h4 : x = 4
  · subst h4; exact value_text w R a n c l j h hR hx
  · refine value_none w R a n c l j h hR x x.toNat rfl ?_ hx
    rintro ⟨g1, g2⟩
    have h5 : x.toNat = 1 ∨ x.toNat = 2 ∨ x.toNat = 3 ∨ x.toNat = 4 := by omega
    rcases h5 with e | e | e | e
    · exact h1 (UInt8.toNat_inj.1 e)
    · exact h2 (UInt8.toNat_inj.1 e)
    · exact h3 (UInt8.toNat_inj.1 e)
    · exact h4 (UInt8.toNat_inj.1 e)
def RtSays (w : World) (l : List UInt8) (e : Ending) (w' : World) : Prop :=
  ((∃ (v : Value) (L : List Va3), e = .returned (.tuple #[v, .nilIface]) ∧ VOwn w' w.heap.size v L ∧ TupIs l L) ∨ (∃ p : Int, e = .returned (.tuple #[.slice none 0 0, ErrV p]) ∧ ∀ M, ¬ TupIs l M)) ∧ Below w.heap.size w w'
theorem readTuple_any (a : Option Addr) (n c : Nat) (l : List UInt8) (w : World) (h : BysAt w a n l) (hc : n ≤ c) :
    Calls Tryd.prog 24 #[.slice a n c] w fun e w' => RtSays w l e w' := by
  obtain ⟨R, hR⟩ : ∃ R, w.heap.size = R := ⟨_, rfl⟩
  have HRQ : Hid (w.heap.size = R) := hR
  obtain ⟨W, hW⟩ : ∃ W, w.alloc (.cells #[.slice a n c, .int .i64 0] 66) = W := ⟨_, rfl⟩
  have HW : Hid (w.alloc (.cells #[.slice a n c, .int .i64 0] 66) = W) := hW
  have HLT : Hid (∀ ad, a = some ad → 0 < n → ad.block < R + 1) := fun ad e h0 => by have := h.lt ad e h0; rw [hR] at this; omega
  by_cases hn0 : n = 0
  · have HT : Hid (TupIs l []) := by
      have h1 : l = [] := List.length_eq_zero_iff.1 (by have := h.1; omega)
      rw [h1]
      exact ⟨⟨fun _ h => (by cases h), Nat.zero_le _⟩, rfl⟩
    have XB : Hid (Box W R #[.slice a n c, .int .i64 0] 66) := by rw [← hW, ← hR]; exact box_of w _ _
    have HB : Hid (Below w.heap.size w W) := by rw [← hW]; exact (Below.refl _ w).alloc (Nat.le_refl _) _
    subst hn0
    clear h hW hR hc HLT
    go_enter Tryd.func24, Tryd.ntmps24
    go_upto_region 2 with (fail)
    rw [HW.out]
    (try rw [HRQ.out])
    obtain ⟨c0, c1, _, _⟩ := XB.out.two
    go_wp2
    go_loopw [5] (fun v wr => v = .slice none 0 0 ∧ wr = W) (fun _ _ => 0)
    case atStart => exact ⟨rfl, rfl⟩
    case round =>
      obtain ⟨rfl, rfl⟩ := hrel
      go_wp2
      go_ret2
      exact ⟨.inl ⟨_, [], rfl, ⟨rfl, .inl ⟨rfl, rfl⟩⟩, HT.out⟩, HB.out⟩
  have HR0 : Hid (RdAt W R a n c l 0) := by
    refine ⟨by rw [← hW, ← hR]; exact box_of w _ _, by rw [← hW]; exact h.below ((Below.refl _ w).alloc (Nat.le_refl _) _) (Nat.le_refl _), fun ad e => ?_, Nat.zero_le _, hc⟩
    have := h.lt ad e (by omega)
    omega
  have HB0 : Hid (Below R w W) := by rw [← hW]; exact (Below.refl _ w).alloc (Nat.le_of_eq hR.symm) _
  have HS0 : Hid (R + 1 ≤ W.heap.size) := by rw [← hW, World.size_alloc, hR]; exact Nat.le_refl _
  have HN : Hid (n ≤ 2097152 ∧ l.length = n) := ⟨h.2.1, h.1⟩
  clear h hW hR hc hn0
  go_enter Tryd.func24, Tryd.ntmps24
  go_upto_region 2 with (fail)
  rw [HW.out]
  (try rw [HRQ.out])
  go_upto_region 3 with (fail)
  go_loopw [5] (fun v wr => ∃ (L : List Va3) (j : Nat), RdAt wr R a n c l j ∧ TupTo l L j ∧ VOwn wr (R + 1) v L ∧ Below R w wr ∧ R + 1 ≤ wr.heap.size) (fun _ wr => n - posOf wr R)
  case atStart => exact ⟨[], 0, HR0.out, TupTo.start l, ⟨rfl, .inl ⟨rfl, rfl⟩⟩, HB0.out, HS0.out⟩
  case round =>
    obtain ⟨L, j, hrd, htt, ho, hb, hs⟩ := hrel
    have HRD : Hid (RdAt wr R a n c l j) := hrd
    have HTT : Hid (TupTo l L j) := htt
    have HB : Hid (Below R w wr) := hb
    have HSZ : Hid (R + 1 ≤ wr.heap.size) := hs
    have HPOS : Hid (posOf wr R = j) := hrd.pos
    have hL4 := htt.len
    have hjn := hrd.le
    obtain ⟨va, vc, rfl, hvc, hvas⟩ := own_vas ho (by omega)
    have HO : Hid (VOwn wr (R + 1) (.slice va L.length vc) L) := ho
    obtain ⟨c0, c1, _, _⟩ := HRD.out.box.two
    clear hrd htt ho hb hs hvas
    by_cases hlt : j < n
    · have hk1 : (j : Int) < (n : Int) := by omega
      by_cases h4 : L.length = 4
      · have HNO : Hid (∀ M, ¬ TupIs l M) := HTT.out.many (by have := HN.out.2; omega) h4
        have hb4 : ((L.length : Int) == 4) = true := by rw [h4]; rfl
        clear h4
        go_upto_region 5 with (fail)
        go_region_held3 (fun w' => w'.cell? ⟨R, 0, none⟩ = some (.slice a n c) ∧ w'.cell? ⟨R, 1, none⟩ = some (.int .i64 (j : Int)))
          (first | (with_reducible exact ⟨c0, c1⟩) | go_keep)
          (fail)
        go_wp2
        go_ret2
        exact ⟨.inr ⟨_, rfl, HNO.out⟩, by rw [HRQ.out]; exact HB.out.drew⟩
      · have hb4 : ((L.length : Int) == 4) = false := by rw [beq_eq_false_iff_ne]; omega
        have HL4 : Hid (¬ L.length = 4) := h4
        clear h4
        go_wp2_with fail
        refine (value_any wr R a n c l j HRD.out (by have := HSZ.out; omega) hlt).mono ?_
        rintro e w1 ⟨⟨⟨xk, xn, xs⟩, k, rfl, hva, h1⟩ | ⟨p, k, rfl, hno, h1⟩, h2⟩
        · have HVA : Hid (VaIs l j (xk, xn, xs) k) := hva
          have HB1 : Hid (Below R w w1) := HB.out.grown h2 (by have := HSZ.out; omega) (fun q e => by cases e; exact Nat.le_refl _)
          have HO1 : Hid (VOwn w1 (R + 1) (.slice va L.length vc) L) := HO.out.kept h2 (.inr (fun e => by have := own_block HO.out R e; omega))
          have HSZ1 : Hid (R + 1 ≤ w1.heap.size) := Nat.le_trans HSZ.out h2.size
          have HTN : Hid (TupTo l (L ++ [(xk, xn, xs)]) k) := HTT.out.next (by have := HN.out.2; omega) HL4.out hva
          have HKJ : Hid (j < k) := hva.2.1.1
          obtain ⟨W2, hW2⟩ : ∃ W2, w1.alloc (.cells #[.int .i64 xk, .int .i64 xn, .string xs] 37) = W2 := ⟨_, rfl⟩
          have HW2 : Hid (w1.alloc (.cells #[.int .i64 xk, .int .i64 xn, .string xs] 37) = W2) := hW2
          have X2 : Hid (Box W2 w1.heap.size #[.int .i64 xk, .int .i64 xn, .string xs] 37) := by rw [← hW2]; exact box_of _ _ _
          have HRD2 : Hid (RdAt W2 R a n c l k) := by rw [← hW2]; exact h1.below ((Below.refl _ w1).alloc (Nat.le_refl _) _)
          have HB2 : Hid (Below R w W2) := by rw [← hW2]; exact HB1.out.alloc (by have := HSZ1.out; omega) _
          have HO2 : Hid (VOwn W2 (R + 1) (.slice va L.length vc) L) := by rw [← hW2]; exact HO1.out.alloc _
          have HSZ2 : Hid (R + 1 ≤ W2.heap.size) := by rw [← hW2]; exact Nat.le_trans HSZ1.out (by simp)
          clear hva h1 h2 hW2 c0 c1
          go_upto_region 7 with (fail)
          rw [HW2.out]
          obtain ⟨c0, c1, c2⟩ := X2.out.triV
          go_wp2_with
            (at_builtin
             refine list_appV _ rfl _ _ rfl (R + 1) (.slice va L.length vc) L rfl (HO2.out.alloc _) ⟨W2.heap.size, 0, none⟩ 1 1 [(xk, xn, xs)] rfl rfl (vnews _ _ rfl (xk, xn, xs)) (by omega) (by have := HSZ2.out; simp; omega) ?_
             intro v' w' hown hbel _
             have HO3 : Hid (VOwn w' (R + 1) v' (L ++ [(xk, xn, xs)])) := hown
             have hal : Below (R + 1) W2 w' := hbel W2 (R + 1) (Nat.le_refl _) ((Below.refl _ W2).alloc HSZ2.out _)
             have HB3 : Hid (Below R w w') := HB2.out.trans (hal.mono (Nat.le_succ R))
             have HRD3 : Hid (RdAt w' R a n c l k) := HRD2.out.since hal (Nat.lt_succ_self R) HLT.out
             have HSZ3 : Hid (R + 1 ≤ w'.heap.size) := Nat.le_trans HSZ2.out hal.size
             clear hown hbel hal)
          go_roundw
          case rel => exact ⟨L ++ [(xk, xn, xs)], k, HRD3.out, HTN.out, HO3.out, HB3.out, HSZ3.out⟩
          case measure => rw [HPOS.out, HRD3.out.pos]; have := HKJ.out; omega
        · have HNO : Hid (∀ M, ¬ TupIs l M) := HTT.out.no (by have := HN.out.2; omega) hno
          have HB1 : Hid (Below R w w1) := HB.out.grown h2 (by have := HSZ.out; omega) (fun q e => by cases e; exact Nat.le_refl _)
          have HSZ1 : Hid (R ≤ w1.heap.size) := by have := HSZ.out; have := h2.size; show R ≤ _; omega
          clear hno h1 h2 c0 c1
          go_wp2
          go_ret2
          exact ⟨.inr ⟨_, rfl, HNO.out⟩, by rw [HRQ.out]; exact HB1.out.alloc HSZ1.out _⟩
    · have hk1 : ¬ (j : Int) < (n : Int) := by omega
      have HT : Hid (TupIs l L) := HTT.out.done (by have := HN.out.2; omega)
      go_wp2
      go_ret2
      exact ⟨.inl ⟨_, L, rfl, by rw [HRQ.out]; exact own_weaken HO.out (Nat.le_succ R), HT.out⟩, by rw [HRQ.out]; exact HB.out⟩
end
end Go.Proofs.YtgibeakclknhnaaDoor
