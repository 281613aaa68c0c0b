/- Texts joined: Sp18d, RegTail, TupA. -/
import Derived.Test.YtgibeakclknhnaaDoorTU05
import Derived.Deep.RegionHeld3
import Derived.Deep.Cut
import Derived.Test.YtgibeakclknhnaaDoorTU02
set_option maxHeartbeats 4000000
set_option maxRecDepth 100000
namespace Go.Proofs.YtgibeakclknhnaaDoor
section
open Go.ChangeShapes Go.WideShapes Go.ChangeAt Go.RowKit
open Go.Lib (byteCells byteCells_length byteCells_append)

theorem below_ret {B r : Nat} {a w : World} (h : Below B a w) (hr : B ≤ r) (x y z : Value) : Below B a (((w.setCell ⟨r, 0, none⟩ x).setCell ⟨r, 1, none⟩ y).setCell ⟨r, 2, none⟩ z) :=
  ((h.setCell hr _).setCell hr _).setCell hr _
def RdAns (l : List UInt8) (i : Nat) (e : Ending) : Prop := ∃ (x : Va3) (next : Nat), e = .returned (.tuple #[VaV x.1 x.2.1 x.2.2, .int .i64 (next : Int)]) ∧ RdSays l i x next ∧ next ≤ l.length + 9
theorem l18R_null (b o n c i : Nat) (l : List UInt8) (w : World) (h : BysAt w (some ⟨b, o, none⟩) n l) (hx : l[i]? = some 1) :
    Calls Tryd.prog 26 #[.slice (some ⟨b, o, none⟩) n c, .int .i64 (i : Int)] w fun e w' => RdAns l i e ∧ Below w.heap.size w w' := by
  have hl := h.1
  have hn := h.2.1
  have hin : i < n := by rw [← hl]; exact (List.getElem?_eq_some_iff.1 hx).1
  have hi0 : (0 : Int) ≤ (i : Int) := by omega
  have hi1 : (i : Int) < (n : Int) := by omega
  have hi2 : (i : Int) ≤ 2097152 := by omega
  obtain ⟨W, hW⟩ : ∃ W, w.alloc (.cells #[.int .i64 0, .int .i64 0, .string ⟨#[]⟩] 37) = W := ⟨_, rfl⟩
  have HW : Hid (w.alloc (.cells #[.int .i64 0, .int .i64 0, .string ⟨#[]⟩] 37) = W) := hW
  have HB0 : Hid (Below w.heap.size w W) := by rw [← hW]; exact (Below.refl _ w).alloc (Nat.le_refl _) _
  have R0 : Hid (Box W w.heap.size #[.int .i64 0, .int .i64 0, .string ⟨#[]⟩] 37) := by rw [← hW]; exact box_of w _ _
  have HL0 : Hid (BysAt W (some ⟨b, o, none⟩) n l) := h.below HB0.out (Nat.le_refl _)
  obtain ⟨g, hg⟩ : ∃ g, W.heap.size = g := ⟨_, rfl⟩
  have HG : Hid (W.heap.size = g) := hg
  have HGW : Hid (w.heap.size < g) := by rw [← hg]; exact R0.out.lt
  obtain ⟨W2, hW2⟩ : ∃ W2, W.alloc (.cells #[.int .i64 0, .int .i64 0, .string ⟨#[]⟩] 37) = W2 := ⟨_, rfl⟩
  have HW2 : Hid (W.alloc (.cells #[.int .i64 0, .int .i64 0, .string ⟨#[]⟩] 37) = W2) := hW2
  have hb2 : Below W.heap.size W W2 := by rw [← hW2]; exact (Below.refl _ _).alloc (Nat.le_refl _) _
  have X2 : Hid (Box W2 g #[.int .i64 0, .int .i64 0, .string ⟨#[]⟩] 37) := by rw [← hW2, ← hg]; exact box_of W _ _
  have R2 : Hid (Box W2 w.heap.size #[.int .i64 0, .int .i64 0, .string ⟨#[]⟩] 37) := R0.out.below hb2 R0.out.lt
  have HL2 : Hid (BysAt W2 (some ⟨b, o, none⟩) n l) := HL0.out.below hb2 (Nat.le_refl _)
  have HB2 : Hid (Below w.heap.size w W2) := HB0.out.trans (hb2.mono HB0.out.size)
  obtain ⟨_, _, h0 | ⟨b', o', he, g1⟩⟩ := HL0.out
  · omega
  cases he
  have e0 : W.cell? ⟨b, o + i, none⟩ = some (.int .u8 1) := g1 i _ hx
  have HXX : Hid (l[i]? = _) := hx
  clear hW hg hW2 hb2 h g1 hx
  go_enter Tryd.func26, Tryd.ntmps26
  go_upto_region 1 with (fail)
  rw [HW.out]
  go_upto_region 2 with (fail)
  rw [HW2.out, HG.out]
  clear e0
  obtain ⟨c0, c1, c2⟩ := X2.out.triV
  have f0 := X2.out.frozen 0
  have f1 := X2.out.frozen 1
  have f2 := X2.out.frozen 2
  obtain ⟨r0, r1, r2⟩ := R2.out.triV
  have z0 := R2.out.frozen 0
  have z1 := R2.out.frozen 1
  have z2 := R2.out.frozen 2
  have hne : ¬ g = w.heap.size := by have := HGW.out; omega
  have hne' : ¬ w.heap.size = g := fun e => hne e.symm
  go_wp2
  have E := ((R2.out.put 0 (.int .i64 0)).put 1 (.int .i64 0)).put 2 (.string ⟨#[]⟩)
  have q0 := E.cell 0
  have q1 := E.cell 1
  have q2 := E.cell 2
  refine bodyPost_ret (by simp [results, Tryd.results26, go_sem, q0, q1, q2]; try rfl) rfl ?_
  refine ⟨⟨(0, 0, ⟨#[]⟩), i + 1, ?_, rd_null HXX.out, by omega⟩, below_ret HB2.out (Nat.le_refl _) _ _ _⟩
  first | rfl | simp
theorem l18R_flag0 (b o n c i : Nat) (l : List UInt8) (w : World) (h : BysAt w (some ⟨b, o, none⟩) n l) (hx : l[i]? = some 2) (hs : ¬ i + 1 < l.length) :
    Calls Tryd.prog 26 #[.slice (some ⟨b, o, none⟩) n c, .int .i64 (i : Int)] w fun e w' => RdAns l i e ∧ Below w.heap.size w w' := by
  have hl := h.1
  have hn := h.2.1
  have hin : i < n := by rw [← hl]; exact (List.getElem?_eq_some_iff.1 hx).1
  have hi0 : (0 : Int) ≤ (i : Int) := by omega
  have hi1 : (i : Int) < (n : Int) := by omega
  have hi2 : (i : Int) ≤ 2097152 := by omega
  obtain ⟨W, hW⟩ : ∃ W, w.alloc (.cells #[.int .i64 0, .int .i64 0, .string ⟨#[]⟩] 37) = W := ⟨_, rfl⟩
  have HW : Hid (w.alloc (.cells #[.int .i64 0, .int .i64 0, .string ⟨#[]⟩] 37) = W) := hW
  have HB0 : Hid (Below w.heap.size w W) := by rw [← hW]; exact (Below.refl _ w).alloc (Nat.le_refl _) _
  have R0 : Hid (Box W w.heap.size #[.int .i64 0, .int .i64 0, .string ⟨#[]⟩] 37) := by rw [← hW]; exact box_of w _ _
  have HL0 : Hid (BysAt W (some ⟨b, o, none⟩) n l) := h.below HB0.out (Nat.le_refl _)
  obtain ⟨g, hg⟩ : ∃ g, W.heap.size = g := ⟨_, rfl⟩
  have HG : Hid (W.heap.size = g) := hg
  have HGW : Hid (w.heap.size < g) := by rw [← hg]; exact R0.out.lt
  obtain ⟨W2, hW2⟩ : ∃ W2, W.alloc (.cells #[.int .i64 1, .int .i64 0, .string ⟨#[]⟩] 37) = W2 := ⟨_, rfl⟩
  have HW2 : Hid (W.alloc (.cells #[.int .i64 1, .int .i64 0, .string ⟨#[]⟩] 37) = W2) := hW2
  have hb2 : Below W.heap.size W W2 := by rw [← hW2]; exact (Below.refl _ _).alloc (Nat.le_refl _) _
  have X2 : Hid (Box W2 g #[.int .i64 1, .int .i64 0, .string ⟨#[]⟩] 37) := by rw [← hW2, ← hg]; exact box_of W _ _
  have R2 : Hid (Box W2 w.heap.size #[.int .i64 0, .int .i64 0, .string ⟨#[]⟩] 37) := R0.out.below hb2 R0.out.lt
  have HL2 : Hid (BysAt W2 (some ⟨b, o, none⟩) n l) := HL0.out.below hb2 (Nat.le_refl _)
  have HB2 : Hid (Below w.heap.size w W2) := HB0.out.trans (hb2.mono HB0.out.size)
  obtain ⟨_, _, h0 | ⟨b', o', he, g1⟩⟩ := HL0.out
  · omega
  cases he
  have e0 : W.cell? ⟨b, o + i, none⟩ = some (.int .u8 2) := g1 i _ hx
  have HXX : Hid (l[i]? = _) := hx
  clear hW hg hW2 hb2 h g1 hx
  go_enter Tryd.func26, Tryd.ntmps26
  go_upto_region 1 with (fail)
  rw [HW.out]
  go_upto_region 2 with (fail)
  rw [HW2.out, HG.out]
  clear e0
  obtain ⟨c0, c1, c2⟩ := X2.out.triV
  have f0 := X2.out.frozen 0
  have f1 := X2.out.frozen 1
  have f2 := X2.out.frozen 2
  obtain ⟨r0, r1, r2⟩ := R2.out.triV
  have z0 := R2.out.frozen 0
  have z1 := R2.out.frozen 1
  have z2 := R2.out.frozen 2
  have hne : ¬ g = w.heap.size := by have := HGW.out; omega
  have hne' : ¬ w.heap.size = g := fun e => hne e.symm
  have hs1 : ¬ ((i : Int) + 1 < (n : Int)) := by omega
  go_wp2
  have E := ((R2.out.put 0 (.int .i64 1)).put 1 (.int .i64 0)).put 2 (.string ⟨#[]⟩)
  have q0 := E.cell 0
  have q1 := E.cell 1
  have q2 := E.cell 2
  refine bodyPost_ret (by simp [results, Tryd.results26, go_sem, q0, q1, q2]; try rfl) rfl ?_
  refine ⟨⟨(1, 0, ⟨#[]⟩), i + 2, ?_, rd_flag0 HXX.out hs 0, by omega⟩, below_ret HB2.out (Nat.le_refl _) _ _ _⟩
  first | rfl | simp
theorem l18R_flag (b o n c i : Nat) (l : List UInt8) (w : World) (h : BysAt w (some ⟨b, o, none⟩) n l) (hx : l[i]? = some 2) (hs : i + 1 < l.length) :
    Calls Tryd.prog 26 #[.slice (some ⟨b, o, none⟩) n c, .int .i64 (i : Int)] w fun e w' => RdAns l i e ∧ Below w.heap.size w w' := by
  have hl := h.1
  have hn := h.2.1
  have hin : i < n := by rw [← hl]; exact (List.getElem?_eq_some_iff.1 hx).1
  have hi0 : (0 : Int) ≤ (i : Int) := by omega
  have hi1 : (i : Int) < (n : Int) := by omega
  have hi2 : (i : Int) ≤ 2097152 := by omega
  obtain ⟨W, hW⟩ : ∃ W, w.alloc (.cells #[.int .i64 0, .int .i64 0, .string ⟨#[]⟩] 37) = W := ⟨_, rfl⟩
  have HW : Hid (w.alloc (.cells #[.int .i64 0, .int .i64 0, .string ⟨#[]⟩] 37) = W) := hW
  have HB0 : Hid (Below w.heap.size w W) := by rw [← hW]; exact (Below.refl _ w).alloc (Nat.le_refl _) _
  have R0 : Hid (Box W w.heap.size #[.int .i64 0, .int .i64 0, .string ⟨#[]⟩] 37) := by rw [← hW]; exact box_of w _ _
  have HL0 : Hid (BysAt W (some ⟨b, o, none⟩) n l) := h.below HB0.out (Nat.le_refl _)
  obtain ⟨g, hg⟩ : ∃ g, W.heap.size = g := ⟨_, rfl⟩
  have HG : Hid (W.heap.size = g) := hg
  have HGW : Hid (w.heap.size < g) := by rw [← hg]; exact R0.out.lt
  obtain ⟨W2, hW2⟩ : ∃ W2, W.alloc (.cells #[.int .i64 1, .int .i64 0, .string ⟨#[]⟩] 37) = W2 := ⟨_, rfl⟩
  have HW2 : Hid (W.alloc (.cells #[.int .i64 1, .int .i64 0, .string ⟨#[]⟩] 37) = W2) := hW2
  have hb2 : Below W.heap.size W W2 := by rw [← hW2]; exact (Below.refl _ _).alloc (Nat.le_refl _) _
  have X2 : Hid (Box W2 g #[.int .i64 1, .int .i64 0, .string ⟨#[]⟩] 37) := by rw [← hW2, ← hg]; exact box_of W _ _
  have R2 : Hid (Box W2 w.heap.size #[.int .i64 0, .int .i64 0, .string ⟨#[]⟩] 37) := R0.out.below hb2 R0.out.lt
  have HL2 : Hid (BysAt W2 (some ⟨b, o, none⟩) n l) := HL0.out.below hb2 (Nat.le_refl _)
  have HB2 : Hid (Below w.heap.size w W2) := HB0.out.trans (hb2.mono HB0.out.size)
  obtain ⟨_, _, h0 | ⟨b', o', he, g1⟩⟩ := HL0.out
  · omega
  cases he
  have e0 : W.cell? ⟨b, o + i, none⟩ = some (.int .u8 2) := g1 i _ hx
  have HXX : Hid (l[i]? = _) := hx
  clear hW hg hW2 hb2 h g1 hx
  go_enter Tryd.func26, Tryd.ntmps26
  go_upto_region 1 with (fail)
  rw [HW.out]
  go_upto_region 2 with (fail)
  rw [HW2.out, HG.out]
  clear e0
  obtain ⟨c0, c1, c2⟩ := X2.out.triV
  have f0 := X2.out.frozen 0
  have f1 := X2.out.frozen 1
  have f2 := X2.out.frozen 2
  obtain ⟨r0, r1, r2⟩ := R2.out.triV
  have z0 := R2.out.frozen 0
  have z1 := R2.out.frozen 1
  have z2 := R2.out.frozen 2
  have hne : ¬ g = w.heap.size := by have := HGW.out; omega
  have hne' : ¬ w.heap.size = g := fun e => hne e.symm
  have hs1 : (i : Int) + 1 < (n : Int) := by omega
  obtain ⟨y, hy⟩ : ∃ y, l[i + 1]? = some y := ⟨_, List.getElem?_eq_getElem (by omega)⟩
  obtain ⟨_, _, h0 | ⟨b', o', he, g2⟩⟩ := HL2.out
  · omega
  cases he
  have e1 := g2 (i + 1) y hy
  have HY : Hid (l[i + 1]? = some y) := hy
  obtain ⟨m, hm⟩ : ∃ m, y.toNat = m := ⟨_, rfl⟩
  have HM : Hid (y.toNat = m) := hm
  have hm1 : (m : Int) < 256 := by have := y.toNat_lt; omega
  have hm0 : (0 : Int) ≤ (m : Int) := by omega
  rw [hm] at e1
  clear g2 hy hm
  go_wp2
  have E := (((R2.out.set (q := ⟨g, 1, none⟩) hne' (.int .i64 (m : Int))).put 0 (.int .i64 1)).put 1 (.int .i64 (m : Int))).put 2 (.string ⟨#[]⟩)
  have q0 := E.cell 0
  have q1 := E.cell 1
  have q2 := E.cell 2
  refine bodyPost_ret (by simp [results, Tryd.results26, go_sem, q0, q1, q2]; try rfl) rfl ?_
  refine ⟨⟨(1, (m : Int), ⟨#[]⟩), i + 2, ?_, HM.out ▸ rd_flag HXX.out HY.out, by omega⟩, below_ret (HB2.out.setCell (Nat.le_of_lt HGW.out) _) (Nat.le_refl _) _ _ _⟩
  first | rfl | simp
theorem l18R_text (b o n c i : Nat) (l : List UInt8) (w : World) (h : BysAt w (some ⟨b, o, none⟩) n l) (hx : l[i]? = some 4) :
    Calls Tryd.prog 26 #[.slice (some ⟨b, o, none⟩) n c, .int .i64 (i : Int)] w fun e w' => RdAns l i e ∧ Below w.heap.size w w' := by
  have hl := h.1
  have hn := h.2.1
  have hin : i < n := by rw [← hl]; exact (List.getElem?_eq_some_iff.1 hx).1
  have hi0 : (0 : Int) ≤ (i : Int) := by omega
  have hi1 : (i : Int) < (n : Int) := by omega
  have hi2 : (i : Int) ≤ 2097152 := by omega
  obtain ⟨W, hW⟩ : ∃ W, w.alloc (.cells #[.int .i64 0, .int .i64 0, .string ⟨#[]⟩] 37) = W := ⟨_, rfl⟩
  have HW : Hid (w.alloc (.cells #[.int .i64 0, .int .i64 0, .string ⟨#[]⟩] 37) = W) := hW
  have HB0 : Hid (Below w.heap.size w W) := by rw [← hW]; exact (Below.refl _ w).alloc (Nat.le_refl _) _
  have R0 : Hid (Box W w.heap.size #[.int .i64 0, .int .i64 0, .string ⟨#[]⟩] 37) := by rw [← hW]; exact box_of w _ _
  have HL0 : Hid (BysAt W (some ⟨b, o, none⟩) n l) := h.below HB0.out (Nat.le_refl _)
  obtain ⟨g, hg⟩ : ∃ g, W.heap.size = g := ⟨_, rfl⟩
  have HG : Hid (W.heap.size = g) := hg
  have HGW : Hid (w.heap.size < g) := by rw [← hg]; exact R0.out.lt
  obtain ⟨W2, hW2⟩ : ∃ W2, W.alloc (.cells #[.int .i64 3, .int .i64 0, .string ⟨#[]⟩] 37) = W2 := ⟨_, rfl⟩
  have HW2 : Hid (W.alloc (.cells #[.int .i64 3, .int .i64 0, .string ⟨#[]⟩] 37) = W2) := hW2
  have hb2 : Below W.heap.size W W2 := by rw [← hW2]; exact (Below.refl _ _).alloc (Nat.le_refl _) _
  have X2 : Hid (Box W2 g #[.int .i64 3, .int .i64 0, .string ⟨#[]⟩] 37) := by rw [← hW2, ← hg]; exact box_of W _ _
  have R2 : Hid (Box W2 w.heap.size #[.int .i64 0, .int .i64 0, .string ⟨#[]⟩] 37) := R0.out.below hb2 R0.out.lt
  have HL2 : Hid (BysAt W2 (some ⟨b, o, none⟩) n l) := HL0.out.below hb2 (Nat.le_refl _)
  have HB2 : Hid (Below w.heap.size w W2) := HB0.out.trans (hb2.mono HB0.out.size)
  obtain ⟨_, _, h0 | ⟨b', o', he, g1⟩⟩ := HL0.out
  · omega
  cases he
  have e0 : W.cell? ⟨b, o + i, none⟩ = some (.int .u8 4) := g1 i _ hx
  have HXX : Hid (l[i]? = _) := hx
  clear hW hg hW2 hb2 h g1 hx
  go_enter Tryd.func26, Tryd.ntmps26
  go_upto_region 1 with (fail)
  rw [HW.out]
  go_upto_region 2 with (fail)
  rw [HW2.out, HG.out]
  clear e0
  obtain ⟨c0, c1, c2⟩ := X2.out.triV
  have f0 := X2.out.frozen 0
  have f1 := X2.out.frozen 1
  have f2 := X2.out.frozen 2
  obtain ⟨r0, r1, r2⟩ := R2.out.triV
  have z0 := R2.out.frozen 0
  have z1 := R2.out.frozen 1
  have z2 := R2.out.frozen 2
  have hne : ¬ g = w.heap.size := by have := HGW.out; omega
  have hne' : ¬ w.heap.size = g := fun e => hne e.symm
  have HTX := l18Text_any (some ⟨b, o, none⟩) n c (i + 1) l W2 HL2.out (by omega)
  rw [show ((i + 1 : Nat) : Int) = (i : Int) + 1 by omega] at HTX
  have HTX2 : Hid _ := HTX
  clear HTX
  go_wp2_with
    (go_at_call 46
     refine Calls.mono HTX2.out ?_
     rintro e w3 ⟨⟨t, nx, rfl, ht1, ht2, ht3, ht4⟩, hb3⟩
     have X3 : Hid (Box w3 g #[.int .i64 3, .int .i64 0, .string ⟨#[]⟩] 37) := X2.out.below hb3 X2.out.lt
     have R3 : Hid (Box w3 w.heap.size #[.int .i64 0, .int .i64 0, .string ⟨#[]⟩] 37) := R2.out.below hb3 R2.out.lt
     have HB3 : Hid (Below w.heap.size w w3) := HB2.out.trans (hb3.mono HB2.out.size)
     have HT : Hid (∀ t' r, rdT (l.drop (i + 1)) = some (t', r) → t.data.toList = t' ∧ nx + r.length = l.length) := ht4
     clear hb3 ht4 c0 c1 c2 r0 r1 r2 f0 f1 f2 z0 z1 z2
     obtain ⟨c0, c1, c2⟩ := X3.out.triV
     have f0 := X3.out.frozen 0
     have f1 := X3.out.frozen 1
     have f2 := X3.out.frozen 2
     obtain ⟨r0, r1, r2⟩ := R3.out.triV
     have z0 := R3.out.frozen 0
     have z1 := R3.out.frozen 1
     have z2 := R3.out.frozen 2)
  have E := (((R3.out.set (q := ⟨g, 2, none⟩) hne' (.string t)).put 0 (.int .i64 3)).put 1 (.int .i64 0)).put 2 (.string t)
  have q0 := E.cell 0
  have q1 := E.cell 1
  have q2 := E.cell 2
  refine bodyPost_ret (by simp [results, Tryd.results26, go_sem, q0, q1, q2]; try rfl) rfl ?_
  refine ⟨⟨(3, 0, t), nx, ?_, rd_text HXX.out ht1 HT.out, by omega⟩, below_ret (HB3.out.setCell (Nat.le_of_lt HGW.out) _) (Nat.le_refl _) _ _ _⟩
  first | rfl | simp
theorem l18R_none (b o n c i : Nat) (l : List UInt8) (w : World) (h : BysAt w (some ⟨b, o, none⟩) n l) (y : UInt8) (m : Nat) (hm : y.toNat = m) (hx : l[i]? = some y) (hc : ¬ (1 ≤ m ∧ m ≤ 4)) :
    Calls Tryd.prog 26 #[.slice (some ⟨b, o, none⟩) n c, .int .i64 (i : Int)] w fun e w' => RdAns l i e ∧ Below w.heap.size w w' := by
  have hl := h.1
  have hn := h.2.1
  have hin : i < n := by rw [← hl]; exact (List.getElem?_eq_some_iff.1 hx).1
  have hi0 : (0 : Int) ≤ (i : Int) := by omega
  have hi1 : (i : Int) < (n : Int) := by omega
  have hi2 : (i : Int) ≤ 2097152 := by omega
  obtain ⟨W, hW⟩ : ∃ W, w.alloc (.cells #[.int .i64 0, .int .i64 0, .string ⟨#[]⟩] 37) = W := ⟨_, rfl⟩
  have HW : Hid (w.alloc (.cells #[.int .i64 0, .int .i64 0, .string ⟨#[]⟩] 37) = W) := hW
  have HB0 : Hid (Below w.heap.size w W) := by rw [← hW]; exact (Below.refl _ w).alloc (Nat.le_refl _) _
  have R0 : Hid (Box W w.heap.size #[.int .i64 0, .int .i64 0, .string ⟨#[]⟩] 37) := by rw [← hW]; exact box_of w _ _
  have HL0 : Hid (BysAt W (some ⟨b, o, none⟩) n l) := h.below HB0.out (Nat.le_refl _)
  obtain ⟨g, hg⟩ : ∃ g, W.heap.size = g := ⟨_, rfl⟩
  have HG : Hid (W.heap.size = g) := hg
  have HGW : Hid (w.heap.size < g) := by rw [← hg]; exact R0.out.lt
  obtain ⟨W2, hW2⟩ : ∃ W2, W.alloc (.cells #[.int .i64 ((m : Int) - 1), .int .i64 0, .string ⟨#[]⟩] 37) = W2 := ⟨_, rfl⟩
  have HW2 : Hid (W.alloc (.cells #[.int .i64 ((m : Int) - 1), .int .i64 0, .string ⟨#[]⟩] 37) = W2) := hW2
  have hb2 : Below W.heap.size W W2 := by rw [← hW2]; exact (Below.refl _ _).alloc (Nat.le_refl _) _
  have X2 : Hid (Box W2 g #[.int .i64 ((m : Int) - 1), .int .i64 0, .string ⟨#[]⟩] 37) := by rw [← hW2, ← hg]; exact box_of W _ _
  have R2 : Hid (Box W2 w.heap.size #[.int .i64 0, .int .i64 0, .string ⟨#[]⟩] 37) := R0.out.below hb2 R0.out.lt
  have HL2 : Hid (BysAt W2 (some ⟨b, o, none⟩) n l) := HL0.out.below hb2 (Nat.le_refl _)
  have HB2 : Hid (Below w.heap.size w W2) := HB0.out.trans (hb2.mono HB0.out.size)
  obtain ⟨_, _, h0 | ⟨b', o', he, g1⟩⟩ := HL0.out
  · omega
  cases he
  have e0 : W.cell? ⟨b, o + i, none⟩ = some (.int .u8 (m : Int)) := by rw [← hm]; exact g1 i _ hx
  have hm1 : (m : Int) < 256 := by have := y.toNat_lt; omega
  have hm0 : (0 : Int) ≤ (m : Int) := by omega
  have hk0 : ((m : Int) - 1 == 0) = false := by rw [beq_eq_false_iff_ne]; omega
  have hk1 : ((m : Int) - 1 == 1) = false := by rw [beq_eq_false_iff_ne]; omega
  have hk2 : ((m : Int) - 1 == 2) = false := by rw [beq_eq_false_iff_ne]; omega
  have hk3 : ((m : Int) - 1 == 3) = false := by rw [beq_eq_false_iff_ne]; omega
  have HC : Hid (¬ (1 ≤ y.toNat ∧ y.toNat ≤ 4)) := by rw [hm]; exact hc
  have HXX : Hid (l[i]? = _) := hx
  clear hW hg hW2 hb2 h g1 hx
  go_enter Tryd.func26, Tryd.ntmps26
  go_upto_region 1 with (fail)
  rw [HW.out]
  go_upto_region 2 with (fail)
  rw [HW2.out, HG.out]
  clear e0
  obtain ⟨c0, c1, c2⟩ := X2.out.triV
  have f0 := X2.out.frozen 0
  have f1 := X2.out.frozen 1
  have f2 := X2.out.frozen 2
  obtain ⟨r0, r1, r2⟩ := R2.out.triV
  have z0 := R2.out.frozen 0
  have z1 := R2.out.frozen 1
  have z2 := R2.out.frozen 2
  have hne : ¬ g = w.heap.size := by have := HGW.out; omega
  have hne' : ¬ w.heap.size = g := fun e => hne e.symm
  clear hc hm
  have hn1 : (n : Int) ≤ 2097152 := by omega
  go_wp2
  have E := ((R2.out.put 0 (.int .i64 ((m : Int) - 1))).put 1 (.int .i64 0)).put 2 (.string ⟨#[]⟩)
  have q0 := E.cell 0
  have q1 := E.cell 1
  have q2 := E.cell 2
  refine bodyPost_ret (by simp [results, Tryd.results26, go_sem, q0, q1, q2]; try rfl) rfl ?_
  refine ⟨⟨(((m : Int) - 1), 0, ⟨#[]⟩), n + 1, ?_, rd_none _ HXX.out HC.out (by omega), by omega⟩, below_ret HB2.out (Nat.le_refl _) _ _ _⟩
  first | rfl | simp
theorem l18R_int (b o n c i : Nat) (l : List UInt8) (w : World) (h : BysAt w (some ⟨b, o, none⟩) n l) (hx : l[i]? = some 3) :
    Calls Tryd.prog 26 #[.slice (some ⟨b, o, none⟩) n c, .int .i64 (i : Int)] w fun e w' => RdAns l i e ∧ Below w.heap.size w w' := by
  have hl := h.1
  have hn := h.2.1
  have hin : i < n := by rw [← hl]; exact (List.getElem?_eq_some_iff.1 hx).1
  have hi0 : (0 : Int) ≤ (i : Int) := by omega
  have hi1 : (i : Int) < (n : Int) := by omega
  have hi2 : (i : Int) ≤ 2097152 := by omega
  obtain ⟨W, hW⟩ : ∃ W, w.alloc (.cells #[.int .i64 0, .int .i64 0, .string ⟨#[]⟩] 37) = W := ⟨_, rfl⟩
  have HW : Hid (w.alloc (.cells #[.int .i64 0, .int .i64 0, .string ⟨#[]⟩] 37) = W) := hW
  have HB0 : Hid (Below w.heap.size w W) := by rw [← hW]; exact (Below.refl _ w).alloc (Nat.le_refl _) _
  have R0 : Hid (Box W w.heap.size #[.int .i64 0, .int .i64 0, .string ⟨#[]⟩] 37) := by rw [← hW]; exact box_of w _ _
  have HL0 : Hid (BysAt W (some ⟨b, o, none⟩) n l) := h.below HB0.out (Nat.le_refl _)
  obtain ⟨g, hg⟩ : ∃ g, W.heap.size = g := ⟨_, rfl⟩
  have HG : Hid (W.heap.size = g) := hg
  have HGW : Hid (w.heap.size < g) := by rw [← hg]; exact R0.out.lt
  obtain ⟨W2, hW2⟩ : ∃ W2, W.alloc (.cells #[.int .i64 2, .int .i64 0, .string ⟨#[]⟩] 37) = W2 := ⟨_, rfl⟩
  have HW2 : Hid (W.alloc (.cells #[.int .i64 2, .int .i64 0, .string ⟨#[]⟩] 37) = W2) := hW2
  have hb2 : Below W.heap.size W W2 := by rw [← hW2]; exact (Below.refl _ _).alloc (Nat.le_refl _) _
  have X2 : Hid (Box W2 g #[.int .i64 2, .int .i64 0, .string ⟨#[]⟩] 37) := by rw [← hW2, ← hg]; exact box_of W _ _
  have R2 : Hid (Box W2 w.heap.size #[.int .i64 0, .int .i64 0, .string ⟨#[]⟩] 37) := R0.out.below hb2 R0.out.lt
  have HL2 : Hid (BysAt W2 (some ⟨b, o, none⟩) n l) := HL0.out.below hb2 (Nat.le_refl _)
  have HB2 : Hid (Below w.heap.size w W2) := HB0.out.trans (hb2.mono HB0.out.size)
  obtain ⟨_, _, h0 | ⟨b', o', he, g1⟩⟩ := HL0.out
  · omega
  cases he
  have e0 : W.cell? ⟨b, o + i, none⟩ = some (.int .u8 3) := g1 i _ hx
  have HXX : Hid (l[i]? = _) := hx
  clear hW hg hW2 hb2 h g1 hx
  go_enter Tryd.func26, Tryd.ntmps26
  go_upto_region 1 with (fail)
  rw [HW.out]
  go_upto_region 2 with (fail)
  rw [HW2.out, HG.out]
  clear e0
  obtain ⟨c0, c1, c2⟩ := X2.out.triV
  have f0 := X2.out.frozen 0
  have f1 := X2.out.frozen 1
  have f2 := X2.out.frozen 2
  obtain ⟨r0, r1, r2⟩ := R2.out.triV
  have z0 := R2.out.frozen 0
  have z1 := R2.out.frozen 1
  have z2 := R2.out.frozen 2
  have hne : ¬ g = w.heap.size := by have := HGW.out; omega
  have hne' : ¬ w.heap.size = g := fun e => hne e.symm
  clear c0 c1 c2 r0 r1 r2 f0 f1 f2 z0 z1 z2
  obtain ⟨c0, c1, c2⟩ := X2.out.triV
  go_upto_region 11 with (fail)
  go_loopw [7] (fun v wr => ∃ (j : Nat) (N : Int), j ≤ 8 ∧ i + 1 + j ≤ n ∧ v = .int .i64 ((i + 1 + j : Nat) : Int) ∧ RdN l i j N ∧ Box wr g #[.int .i64 2, .int .i64 N, .string ⟨#[]⟩] 37 ∧ Box wr w.heap.size #[.int .i64 0, .int .i64 0, .string ⟨#[]⟩] 37 ∧ BysAt wr (some ⟨b, o, none⟩) n l ∧ Below w.heap.size w wr) (fun v _ => n - (RowKit.intOf v).toNat)
  case atStart => exact ⟨0, 0, Nat.zero_le _, by omega, by go_num, RdN.start l i, X2.out, R2.out, HL2.out, HB2.out⟩
  case round =>
    obtain ⟨j, N, hj, hjn, rfl, hr, hx, hrb, hly, hb⟩ := hrel
    have HR : Hid (RdN l i j N) := hr
    have XR : Hid (Box wr g #[.int .i64 2, .int .i64 N, .string ⟨#[]⟩] 37) := hx
    have RR : Hid (Box wr w.heap.size #[.int .i64 0, .int .i64 0, .string ⟨#[]⟩] 37) := hrb
    have HLR : Hid (BysAt wr (some ⟨b, o, none⟩) n l) := hly
    have HBW : Hid (Below w.heap.size w wr) := hb
    clear hr hx hrb hly hb c0 c1 c2
    obtain ⟨q, hq⟩ : ∃ q : Nat, i + 1 + j = q := ⟨_, rfl⟩
    have HQ : Hid (i + 1 + j = q) := hq
    rw [HQ.out]
    have hq0 : (0 : Int) ≤ (q : Int) := by omega
    have hq2 : (q : Int) ≤ 2097152 := by omega
    by_cases hlt : j < 8 ∧ q < n
    · obtain ⟨h8, hqn⟩ := hlt
      have hq3 : (q : Int) < (n : Int) := by omega
      have hq4 : (q : Int) < (i : Int) + 9 := by omega
      obtain ⟨_, _, h0 | ⟨b', o', he, g2⟩⟩ := HLR.out
      · omega
      cases he
      obtain ⟨y, hy⟩ : ∃ y, l[q]? = some y := ⟨_, List.getElem?_eq_getElem (by omega)⟩
      have e1 := g2 q y hy
      have HN : Hid (RdN l i (j + 1) (bits .or .i64 (wrap64 (N * 256)) (y.toNat : Int))) := HR.out.next h8 (by rw [HQ.out]; exact hy)
      obtain ⟨m, hm⟩ : ∃ m, y.toNat = m := ⟨_, rfl⟩
      have hm1 : (m : Int) < 256 := by have := y.toNat_lt; omega
      have hm0 : (0 : Int) ≤ (m : Int) := by omega
      rw [hm] at e1 HN
      have hbo : ¬ b = g := fun e => by
        subst e
        have h1 := XR.out.cell (o + q)
        rw [e1] at h1
        match o + q, h1 with
        | 0, h1 => simp at h1
        | 1, h1 => simp at h1
        | 2, h1 => simp at h1
        | k + 3, h1 => simp at h1
      have K0 : Hid (wr.drew.cell? ⟨b, o + q, none⟩ = some (.int .u8 (m : Int))) := e1
      clear g2 hy hm e1
      obtain ⟨c0, c1, c2⟩ := XR.out.triV
      have f0 := XR.out.frozen 0
      have f1 := XR.out.frozen 1
      have f2 := XR.out.frozen 2
      go_upto_region 13 with (fail)
      refine wp_region_held_drew (S := fun w' => w'.cell? ⟨b, o + q, none⟩ = some (.int .u8 (m : Int))) (by kernel_rfl) (by exact K0.out) (fun hHeld => ?_)
      refine wpAnyH_take (i := 0) (oi := _) (v := .pointer (some ⟨g, 1, none⟩)) (by rw [List.getElem?_toArray]; exact rfl) (by kernel_rfl) (by kernel_rfl) (by kernel_rfl) (by intro _ _ _ h; exact h) (Or.inl ⟨by kernel_rfl, ?_⟩) hHeld ?_
      · intro w hSw; go_simp
      simp only [Act.put, List.setIfInBounds_toArray, List.set_cons_zero, List.set_cons_succ]
      refine wpAnyH_take (i := 3) (oi := _) (v := .slice (some ⟨b, o, none⟩) n c) (by rw [List.getElem?_toArray]; exact rfl) (by kernel_rfl) (by kernel_rfl) (by kernel_rfl) (by intro _ _ _ h; exact h) (Or.inl ⟨by kernel_rfl, ?_⟩) hHeld ?_
      · intro w hSw; go_simp
      simp only [Act.put, List.setIfInBounds_toArray, List.set_cons_zero, List.set_cons_succ]
      refine wpAnyH_take (i := 4) (oi := _) (v := .int .i64 (q : Int)) (by rw [List.getElem?_toArray]; exact rfl) (by kernel_rfl) (by kernel_rfl) (by kernel_rfl) (by intro _ _ _ h; exact h) (Or.inl ⟨by kernel_rfl, ?_⟩) hHeld ?_
      · intro w hSw; go_simp
      simp only [Act.put, List.setIfInBounds_toArray, List.set_cons_zero, List.set_cons_succ]
      refine wpAnyH_take (i := 5) (oi := _) (v := .pointer (some ⟨b, o + q, none⟩)) (by rw [List.getElem?_toArray]; exact rfl) (by kernel_rfl) (by kernel_rfl) (by kernel_rfl) (by intro _ _ _ h; exact h) (Or.inl ⟨by kernel_rfl, ?_⟩) hHeld ?_
      · intro w hSw; go_simp
      simp only [Act.put, List.setIfInBounds_toArray, List.set_cons_zero, List.set_cons_succ]
      refine wpAnyH_take (i := 6) (oi := _) (v := .int .u8 (m : Int)) (by rw [List.getElem?_toArray]; exact rfl) (by kernel_rfl) (by kernel_rfl) (by kernel_rfl) (by intro _ _ _ h; exact h) (Or.inl ⟨by kernel_rfl, ?_⟩) hHeld ?_
      · intro w hSw; go_simp
      simp only [Act.put, List.setIfInBounds_toArray, List.set_cons_zero, List.set_cons_succ]
      refine wpAnyH_take (i := 7) (oi := _) (v := .int .i64 (m : Int)) (by rw [List.getElem?_toArray]; exact rfl) (by kernel_rfl) (by kernel_rfl) (by kernel_rfl) (by intro _ _ _ h; exact h) (Or.inl ⟨by kernel_rfl, ?_⟩) hHeld ?_
      · intro w hSw; go_simp; rw [IntKind.wrap_i64]; omega
      simp only [Act.put, List.setIfInBounds_toArray, List.set_cons_zero, List.set_cons_succ]
      refine wpAnyH_ready (rs := [1]) (by kernel_rfl) (by simp) ?_
      refine AllReadyH.cons (o := _) (by rw [List.getElem?_toArray]; exact rfl) (fun K hK => ?_) AllReadyH.nil
      rw [if_pos (by kernel_rfl)]
      go_simp
      refine hK.out _ _ ?_ (fun hHeld => ?_)
      · exact K0.out
      clear hK K
      (try simp only [Act.put, List.setIfInBounds_toArray, List.set_cons_zero, List.set_cons_succ])
      refine wpAnyH_take (i := 2) (oi := _) (v := .int .i64 (wrap64 (N * 256))) (by rw [List.getElem?_toArray]; exact rfl) (by kernel_rfl) (by kernel_rfl) (by kernel_rfl) (by intro _ _ _ h; exact h) (Or.inl ⟨by kernel_rfl, ?_⟩) hHeld ?_
      · intro w hSw; go_simp; simp only [IntKind.wrap_i64, wrap64]
      simp only [Act.put, List.setIfInBounds_toArray, List.set_cons_zero, List.set_cons_succ]
      refine wpAnyH_take (i := 8) (oi := _) (v := .int .i64 (bits .or .i64 (wrap64 (N * 256)) (m : Int))) (by rw [List.getElem?_toArray]; exact rfl) (by kernel_rfl) (by kernel_rfl) (by kernel_rfl) (by intro _ _ _ h; exact h) (Or.inl ⟨by kernel_rfl, ?_⟩) hHeld ?_
      · intro w hSw; go_simp
      simp only [Act.put, List.setIfInBounds_toArray, List.set_cons_zero, List.set_cons_succ]
      refine wpAnyH_take (i := 9) (oi := _) (v := .pointer (some ⟨g, 1, none⟩)) (by rw [List.getElem?_toArray]; exact rfl) (by kernel_rfl) (by kernel_rfl) (by kernel_rfl) (by intro _ _ _ h; exact h) (Or.inl ⟨by kernel_rfl, ?_⟩) hHeld ?_
      · intro w hSw; go_simp
      simp only [Act.put, List.setIfInBounds_toArray, List.set_cons_zero, List.set_cons_succ]
      refine wpAnyH_ready (rs := [10]) (by kernel_rfl) (by simp) ?_
      refine AllReadyH.cons (o := _) (by rw [List.getElem?_toArray]; exact rfl) (fun K hK => ?_) AllReadyH.nil
      rw [if_pos (by kernel_rfl)]
      go_simp
      refine hK.out _ _ ?_ (fun hHeld => ?_)
      · exact (World.cell?_of_block (w := wr.drew) (Below.heap_setCell _ _ _ _ hbo)).trans K0.out
      clear hK K
      (try simp only [Act.put, List.setIfInBounds_toArray, List.set_cons_zero, List.set_cons_succ])
      refine wpAnyH_done (by kernel_rfl) ?_ _
      have XN : Hid (Box (wr.drew.setCell ⟨g, 1, none⟩ (.int .i64 (bits .or .i64 (wrap64 (N * 256)) (m : Int)))) g #[.int .i64 2, .int .i64 (bits .or .i64 (wrap64 (N * 256)) (m : Int)), .string ⟨#[]⟩] 37) := XR.out.drew.put 1 _
      have RN : Hid (Box (wr.drew.setCell ⟨g, 1, none⟩ (.int .i64 (bits .or .i64 (wrap64 (N * 256)) (m : Int)))) w.heap.size #[.int .i64 0, .int .i64 0, .string ⟨#[]⟩] 37) := RR.out.drew.set (q := ⟨g, 1, none⟩) hne' _
      have BN : Hid (Below w.heap.size w (wr.drew.setCell ⟨g, 1, none⟩ (.int .i64 (bits .or .i64 (wrap64 (N * 256)) (m : Int))))) := HBW.out.drew.setCell (Nat.le_of_lt HGW.out) _
      have LN : Hid (BysAt (wr.drew.setCell ⟨g, 1, none⟩ (.int .i64 (bits .or .i64 (wrap64 (N * 256)) (m : Int)))) (some ⟨b, o, none⟩) n l) := HLR.out.set (by exact hbo) _
      clear c0 c1 c2 f0 f1 f2
      go_wp2
      refine ⟨⟨j + 1, _, by omega, by omega, ?_, HN.out, XN.out, RN.out, LN.out, BN.out⟩, ?_⟩
      · have := HQ.out
        simp only [Value.int.injEq, true_and]
        omega
      · simp [RowKit.intOf]; omega
    · have HS : Hid (RdSays l i (2, wrap64 (N - 4611686018427387904), ⟨#[]⟩) (i + 9)) := by
        by_cases h8 : j = 8
        · subst h8
          exact HR.out.done HXX.out
        · exact RdN.short _ HXX.out (by omega)
      have hmin : (q : Int) < (i : Int) + 9 ∧ ¬ ((q : Int) < (n : Int)) ∨ ¬ ((q : Int) < (i : Int) + 9) := by omega
      obtain ⟨c0, c1, c2⟩ := XR.out.triV
      have f0 := XR.out.frozen 0
      have f1 := XR.out.frozen 1
      have f2 := XR.out.frozen 2
      obtain ⟨r0, r1, r2⟩ := RR.out.triV
      have z0 := RR.out.frozen 0
      have z1 := RR.out.frozen 1
      have z2 := RR.out.frozen 2
      have hni : (n : Int) ≤ 2097152 := by omega
      rcases hmin with ⟨hm1, hm2⟩ | hm1
      all_goals
        go_wp2
        have E := (((RR.out.set (q := ⟨g, 1, none⟩) hne' (.int .i64 (wrap64 (N - 4611686018427387904)))).put 0 (.int .i64 2)).put 1 (.int .i64 (wrap64 (N - 4611686018427387904)))).put 2 (.string ⟨#[]⟩)
        have q0 := E.cell 0
        have q1 := E.cell 1
        have q2 := E.cell 2
        refine bodyPost_ret (by simp [results, Tryd.results26, go_sem, q0, q1, q2]; try rfl) rfl ?_
        refine ⟨⟨(2, (wrap64 (N - 4611686018427387904)), ⟨#[]⟩), i + 9, ?_, HS.out, by omega⟩, below_ret (HBW.out.setCell (Nat.le_of_lt HGW.out) _) (Nat.le_refl _) _ _ _⟩
        first | rfl | simp

theorem l18Read_any (a : Option Addr) (n c i : Nat) (l : List UInt8) (w : World) (h : BysAt w a n l) (hi : i < n) :
    Calls Tryd.prog 26 #[.slice a n c, .int .i64 (i : Int)] w fun e w' => RdAns l i e ∧ Below w.heap.size w w' := by
  obtain ⟨h1, h2, h0 | ⟨b, o, rfl, g1⟩⟩ := h
  · omega
  have hL : BysAt w (some ⟨b, o, none⟩) n l := ⟨h1, h2, .inr ⟨b, o, rfl, g1⟩⟩
  obtain ⟨x, hx⟩ : ∃ x, l[i]? = some x := ⟨_, List.getElem?_eq_getElem (by omega)⟩
  have key : ∀ k : UInt8, x.toNat = k.toNat → l[i]? = some k := fun k hk => by rw [hx, UInt8.toNat_inj.1 hk]
  rcases (show x.toNat = 1 ∨ x.toNat = 2 ∨ x.toNat = 3 ∨ x.toNat = 4 ∨ ¬ (1 ≤ x.toNat ∧ x.toNat ≤ 4) by omega) with h | h | h | h | h
  · exact l18R_null b o n c i l w hL (key 1 h)
  · by_cases hs : i + 1 < l.length
    · exact l18R_flag b o n c i l w hL (key 2 h) hs
    · exact l18R_flag0 b o n c i l w hL (key 2 h) hs
  · exact l18R_int b o n c i l w hL (key 3 h)
  · exact l18R_text b o n c i l w hL (key 4 h)
  · exact l18R_none b o n c i l w hL x x.toNat rfl hx h
end
def pureVal (a : Act) : Op → Option Value
  | .move x => some (a.eval x)
  | .assign x => some (a.eval x)
  | .pick c x y => match a.eval c with
    | .bool true => some (a.eval x)
    | .bool false => some (a.eval y)
    | _ => none
  | _ => none
def tailVal (ops : Array Oper) (a : Act) (o : Oper) : Option Value := if Region.wanted o (yielded ops a.tmps) = true then pureVal a o.op else some undef
def tailA (ops : Array Oper) : List Nat → Act → Act
  | [], a => a
  | i :: U, a => match ops[i]? with
    | some o => match tailVal ops a o with
      | some v => tailA ops U (a.put o.dst v)
      | none => a
    | none => a
def tailL : List Nat → Array Bool → Array Bool
  | [], L => L
  | i :: U, L => tailL U (L.setIfInBounds i true)
def tailB (md : Region.Mode) (ops : Array Oper) : List Nat → Array Bool → Act → Bool
  | [], _, _ => true
  | i :: U, L, a => match ops[i]? with
    | some o => match tailVal ops a o with
      | some v => Region.free md ops L i && (Region.ready md ops L).contains i && tailB md ops U (L.setIfInBounds i true) (a.put o.dst v)
      | none => false
    | none => false
section
open Go.ChangeShapes Go.WideShapes Go.ChangeAt Go.RowKit Go.Joins
open Go.Lib (byteCells byteCells_length byteCells_append)

noncomputable def okT (b : List UInt8) : Bool := @decide (∃ L, TupIs b L) (Classical.propDecidable _)
noncomputable def lstT (b : List UInt8) : List Va3 := @dite _ (∃ L, TupIs b L) (Classical.propDecidable _) (fun h => Classical.choose h) (fun _ => [])
theorem lstT_is {b : List UInt8} {L : List Va3} (h : TupIs b L) : okT b = true ∧ lstT b = L := by
  have he : ∃ L, TupIs b L := ⟨L, h⟩
  refine ⟨@decide_eq_true _ (Classical.propDecidable _) he, ?_⟩
  unfold lstT
  rw [dif_pos he]
  exact (Classical.choose_spec he).one h
theorem lstT_no {b : List UInt8} (h : ∀ M, ¬ TupIs b M) : okT b = false ∧ lstT b = [] := by
  have he : ¬ ∃ L, TupIs b L := fun ⟨L, hL⟩ => h L hL
  refine ⟨@decide_eq_false _ (Classical.propDecidable _) he, ?_⟩
  unfold lstT
  rw [dif_neg he]
theorem lstT_le (b : List UInt8) : (lstT b).length ≤ 4 := by
  unfold lstT
  split
  · rename_i h
    exact (Classical.choose_spec h).1.2
  · decide
def TupAns (b : List UInt8) (w : World) (e : Ending) (w' : World) : Prop := ∃ v ok L, e = .returned (.tuple #[v, .bool ok]) ∧ VOwn w' w.heap.size v L ∧ ((ok = true ∧ TupIs b L) ∨ (ok = false ∧ L = [] ∧ ∀ M, ¬ TupIs b M))
theorem TupAns.one {b : List UInt8} {w w' : World} {e : Ending} (h : TupAns b w e w') : ∃ v, e = .returned (.tuple #[v, .bool (okT b)]) ∧ VOwn w' w.heap.size v (lstT b) := by
  obtain ⟨v, ok, L, rfl, ho, ⟨rfl, hL⟩ | ⟨rfl, rfl, hn⟩⟩ := h
  · obtain ⟨h1, h2⟩ := lstT_is hL
    rw [h1, h2]
    exact ⟨v, rfl, ho⟩
  · obtain ⟨h1, h2⟩ := lstT_no hn
    rw [h1, h2]
    exact ⟨v, rfl, ho⟩
end
end Go.Proofs.YtgibeakclknhnaaDoor
