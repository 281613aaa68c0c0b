/- Texts joined: Sp18d, Sp18v, InB. -/
import Derived.Test.YtgibeakclknhnabDoorTO03
import Derived.Deep.RegionHeld3
import Derived.Deep.Cut
import Derived.Test.YtgibeakclknhnabDoorTO02
import Derived.Test.YtgibeakclknhnabDoorRows
import Derived.WalkKit
import Derived.ProofKit
set_option maxHeartbeats 4000000
set_option maxRecDepth 100000
namespace Go.Proofs.YtgibeakclknhnabDoor
section
open Go.ChangeShapes Go.WideShapes Go.ChangeAt Go.RowKit
open Go.Lib (byteCells byteCells_length byteCells_append)

theorem below_ret {B r : Nat} {a w : World} (h : Below B a w) (hr : B ≤ r) (x y z : Value) : Below B a (((w.setCell ⟨r, 0, none⟩ x).setCell ⟨r, 1, none⟩ y).setCell ⟨r, 2, none⟩ z) :=
  ((h.setCell hr _).setCell hr _).setCell hr _
def RdAns (l : List UInt8) (i : Nat) (e : Ending) : Prop := ∃ (x : Va3) (next : Nat), e = .returned (.tuple #[VaV x.1 x.2.1 x.2.2, .int .i64 (next : Int)]) ∧ RdSays l i x next ∧ next ≤ l.length + 9
theorem l18R_null (b o n c i : Nat) (l : List UInt8) (w : World) (h : BysAt w (some ⟨b, o, none⟩) n l) (hx : l[i]? = some 1) :
    Calls Tryd.prog 17 #[.slice (some ⟨b, o, none⟩) n c, .int .i64 (i : Int)] w fun e w' => RdAns l i e ∧ Below w.heap.size w w' := by
  have hl := h.1
  have hn := h.2.1
  have hin : i < n := by rw [← hl]; exact (List.getElem?_eq_some_iff.1 hx).1
  have hi0 : (0 : Int) ≤ (i : Int) := by omega
  have hi1 : (i : Int) < (n : Int) := by omega
  have hi2 : (i : Int) ≤ 2097152 := by omega
  obtain ⟨W, hW⟩ : ∃ W, w.alloc (.cells #[.int .i64 0, .int .i64 0, .string ⟨#[]⟩] 38) = W := ⟨_, rfl⟩
  have HW : Hid (w.alloc (.cells #[.int .i64 0, .int .i64 0, .string ⟨#[]⟩] 38) = W) := hW
  have HB0 : Hid (Below w.heap.size w W) := by rw [← hW]; exact (Below.refl _ w).alloc (Nat.le_refl _) _
  have R0 : Hid (Box W w.heap.size #[.int .i64 0, .int .i64 0, .string ⟨#[]⟩] 38) := by rw [← hW]; exact box_of w _ _
  have HL0 : Hid (BysAt W (some ⟨b, o, none⟩) n l) := h.below HB0.out (Nat.le_refl _)
  obtain ⟨g, hg⟩ : ∃ g, W.heap.size = g := ⟨_, rfl⟩
  have HG : Hid (W.heap.size = g) := hg
  have HGW : Hid (w.heap.size < g) := by rw [← hg]; exact R0.out.lt
  obtain ⟨W2, hW2⟩ : ∃ W2, W.alloc (.cells #[.int .i64 0, .int .i64 0, .string ⟨#[]⟩] 38) = W2 := ⟨_, rfl⟩
  have HW2 : Hid (W.alloc (.cells #[.int .i64 0, .int .i64 0, .string ⟨#[]⟩] 38) = W2) := hW2
  have hb2 : Below W.heap.size W W2 := by rw [← hW2]; exact (Below.refl _ _).alloc (Nat.le_refl _) _
  have X2 : Hid (Box W2 g #[.int .i64 0, .int .i64 0, .string ⟨#[]⟩] 38) := by rw [← hW2, ← hg]; exact box_of W _ _
  have R2 : Hid (Box W2 w.heap.size #[.int .i64 0, .int .i64 0, .string ⟨#[]⟩] 38) := R0.out.below hb2 R0.out.lt
  have HL2 : Hid (BysAt W2 (some ⟨b, o, none⟩) n l) := HL0.out.below hb2 (Nat.le_refl _)
  have HB2 : Hid (Below w.heap.size w W2) := HB0.out.trans (hb2.mono HB0.out.size)
  obtain ⟨_, _, h0 | ⟨b', o', he, g1⟩⟩ := HL0.out
  · omega
  cases he
  have e0 : W.cell? ⟨b, o + i, none⟩ = some (.int .u8 1) := g1 i _ hx
  have HXX : Hid (l[i]? = _) := hx
  clear hW hg hW2 hb2 h g1 hx
  go_enter Tryd.func17, Tryd.ntmps17
  go_upto_region 1 with (fail)
  rw [HW.out]
  go_upto_region 2 with (fail)
  rw [HW2.out, HG.out]
  clear e0
  obtain ⟨c0, c1, c2⟩ := X2.out.triV
  have f0 := X2.out.frozen 0
  have f1 := X2.out.frozen 1
  have f2 := X2.out.frozen 2
  obtain ⟨r0, r1, r2⟩ := R2.out.triV
  have z0 := R2.out.frozen 0
  have z1 := R2.out.frozen 1
  have z2 := R2.out.frozen 2
  have hne : ¬ g = w.heap.size := by have := HGW.out; omega
  have hne' : ¬ w.heap.size = g := fun e => hne e.symm
  go_wp2
  have E := ((R2.out.put 0 (.int .i64 0)).put 1 (.int .i64 0)).put 2 (.string ⟨#[]⟩)
  have q0 := E.cell 0
  have q1 := E.cell 1
  have q2 := E.cell 2
  refine bodyPost_ret (by simp [results, Tryd.results17, go_sem, q0, q1, q2]; try rfl) rfl ?_
  refine ⟨⟨(0, 0, ⟨#[]⟩), i + 1, ?_, rd_null HXX.out, by omega⟩, below_ret HB2.out (Nat.le_refl _) _ _ _⟩
  first | rfl | simp
theorem l18R_flag0 (b o n c i : Nat) (l : List UInt8) (w : World) (h : BysAt w (some ⟨b, o, none⟩) n l) (hx : l[i]? = some 2) (hs : ¬ i + 1 < l.length) :
    Calls Tryd.prog 17 #[.slice (some ⟨b, o, none⟩) n c, .int .i64 (i : Int)] w fun e w' => RdAns l i e ∧ Below w.heap.size w w' := by
  have hl := h.1
  have hn := h.2.1
  have hin : i < n := by rw [← hl]; exact (List.getElem?_eq_some_iff.1 hx).1
  have hi0 : (0 : Int) ≤ (i : Int) := by omega
  have hi1 : (i : Int) < (n : Int) := by omega
  have hi2 : (i : Int) ≤ 2097152 := by omega
  obtain ⟨W, hW⟩ : ∃ W, w.alloc (.cells #[.int .i64 0, .int .i64 0, .string ⟨#[]⟩] 38) = W := ⟨_, rfl⟩
  have HW : Hid (w.alloc (.cells #[.int .i64 0, .int .i64 0, .string ⟨#[]⟩] 38) = W) := hW
  have HB0 : Hid (Below w.heap.size w W) := by rw [← hW]; exact (Below.refl _ w).alloc (Nat.le_refl _) _
  have R0 : Hid (Box W w.heap.size #[.int .i64 0, .int .i64 0, .string ⟨#[]⟩] 38) := by rw [← hW]; exact box_of w _ _
  have HL0 : Hid (BysAt W (some ⟨b, o, none⟩) n l) := h.below HB0.out (Nat.le_refl _)
  obtain ⟨g, hg⟩ : ∃ g, W.heap.size = g := ⟨_, rfl⟩
  have HG : Hid (W.heap.size = g) := hg
  have HGW : Hid (w.heap.size < g) := by rw [← hg]; exact R0.out.lt
  obtain ⟨W2, hW2⟩ : ∃ W2, W.alloc (.cells #[.int .i64 1, .int .i64 0, .string ⟨#[]⟩] 38) = W2 := ⟨_, rfl⟩
  have HW2 : Hid (W.alloc (.cells #[.int .i64 1, .int .i64 0, .string ⟨#[]⟩] 38) = W2) := hW2
  have hb2 : Below W.heap.size W W2 := by rw [← hW2]; exact (Below.refl _ _).alloc (Nat.le_refl _) _
  have X2 : Hid (Box W2 g #[.int .i64 1, .int .i64 0, .string ⟨#[]⟩] 38) := by rw [← hW2, ← hg]; exact box_of W _ _
  have R2 : Hid (Box W2 w.heap.size #[.int .i64 0, .int .i64 0, .string ⟨#[]⟩] 38) := R0.out.below hb2 R0.out.lt
  have HL2 : Hid (BysAt W2 (some ⟨b, o, none⟩) n l) := HL0.out.below hb2 (Nat.le_refl _)
  have HB2 : Hid (Below w.heap.size w W2) := HB0.out.trans (hb2.mono HB0.out.size)
  obtain ⟨_, _, h0 | ⟨b', o', he, g1⟩⟩ := HL0.out
  · omega
  cases he
  have e0 : W.cell? ⟨b, o + i, none⟩ = some (.int .u8 2) := g1 i _ hx
  have HXX : Hid (l[i]? = _) := hx
  clear hW hg hW2 hb2 h g1 hx
  go_enter Tryd.func17, Tryd.ntmps17
  go_upto_region 1 with (fail)
  rw [HW.out]
  go_upto_region 2 with (fail)
  rw [HW2.out, HG.out]
  clear e0
  obtain ⟨c0, c1, c2⟩ := X2.out.triV
  have f0 := X2.out.frozen 0
  have f1 := X2.out.frozen 1
  have f2 := X2.out.frozen 2
  obtain ⟨r0, r1, r2⟩ := R2.out.triV
  have z0 := R2.out.frozen 0
  have z1 := R2.out.frozen 1
  have z2 := R2.out.frozen 2
  have hne : ¬ g = w.heap.size := by have := HGW.out; omega
  have hne' : ¬ w.heap.size = g := fun e => hne e.symm
  have hs1 : ¬ ((i : Int) + 1 < (n : Int)) := by omega
  go_wp2
  have E := ((R2.out.put 0 (.int .i64 1)).put 1 (.int .i64 0)).put 2 (.string ⟨#[]⟩)
  have q0 := E.cell 0
  have q1 := E.cell 1
  have q2 := E.cell 2
  refine bodyPost_ret (by simp [results, Tryd.results17, go_sem, q0, q1, q2]; try rfl) rfl ?_
  refine ⟨⟨(1, 0, ⟨#[]⟩), i + 2, ?_, rd_flag0 HXX.out hs 0, by omega⟩, below_ret HB2.out (Nat.le_refl _) _ _ _⟩
  first | rfl | simp
theorem l18R_flag (b o n c i : Nat) (l : List UInt8) (w : World) (h : BysAt w (some ⟨b, o, none⟩) n l) (hx : l[i]? = some 2) (hs : i + 1 < l.length) :
    Calls Tryd.prog 17 #[.slice (some ⟨b, o, none⟩) n c, .int .i64 (i : Int)] w fun e w' => RdAns l i e ∧ Below w.heap.size w w' := by
  have hl := h.1
  have hn := h.2.1
  have hin : i < n := by rw [← hl]; exact (List.getElem?_eq_some_iff.1 hx).1
  have hi0 : (0 : Int) ≤ (i : Int) := by omega
  have hi1 : (i : Int) < (n : Int) := by omega
  have hi2 : (i : Int) ≤ 2097152 := by omega
  obtain ⟨W, hW⟩ : ∃ W, w.alloc (.cells #[.int .i64 0, .int .i64 0, .string ⟨#[]⟩] 38) = W := ⟨_, rfl⟩
  have HW : Hid (w.alloc (.cells #[.int .i64 0, .int .i64 0, .string ⟨#[]⟩] 38) = W) := hW
  have HB0 : Hid (Below w.heap.size w W) := by rw [← hW]; exact (Below.refl _ w).alloc (Nat.le_refl _) _
  have R0 : Hid (Box W w.heap.size #[.int .i64 0, .int .i64 0, .string ⟨#[]⟩] 38) := by rw [← hW]; exact box_of w _ _
  have HL0 : Hid (BysAt W (some ⟨b, o, none⟩) n l) := h.below HB0.out (Nat.le_refl _)
  obtain ⟨g, hg⟩ : ∃ g, W.heap.size = g := ⟨_, rfl⟩
  have HG : Hid (W.heap.size = g) := hg
  have HGW : Hid (w.heap.size < g) := by rw [← hg]; exact R0.out.lt
  obtain ⟨W2, hW2⟩ : ∃ W2, W.alloc (.cells #[.int .i64 1, .int .i64 0, .string ⟨#[]⟩] 38) = W2 := ⟨_, rfl⟩
  have HW2 : Hid (W.alloc (.cells #[.int .i64 1, .int .i64 0, .string ⟨#[]⟩] 38) = W2) := hW2
  have hb2 : Below W.heap.size W W2 := by rw [← hW2]; exact (Below.refl _ _).alloc (Nat.le_refl _) _
  have X2 : Hid (Box W2 g #[.int .i64 1, .int .i64 0, .string ⟨#[]⟩] 38) := by rw [← hW2, ← hg]; exact box_of W _ _
  have R2 : Hid (Box W2 w.heap.size #[.int .i64 0, .int .i64 0, .string ⟨#[]⟩] 38) := R0.out.below hb2 R0.out.lt
  have HL2 : Hid (BysAt W2 (some ⟨b, o, none⟩) n l) := HL0.out.below hb2 (Nat.le_refl _)
  have HB2 : Hid (Below w.heap.size w W2) := HB0.out.trans (hb2.mono HB0.out.size)
  obtain ⟨_, _, h0 | ⟨b', o', he, g1⟩⟩ := HL0.out
  · omega
  cases he
  have e0 : W.cell? ⟨b, o + i, none⟩ = some (.int .u8 2) := g1 i _ hx
  have HXX : Hid (l[i]? = _) := hx
  clear hW hg hW2 hb2 h g1 hx
  go_enter Tryd.func17, Tryd.ntmps17
  go_upto_region 1 with (fail)
  rw [HW.out]
  go_upto_region 2 with (fail)
  rw [HW2.out, HG.out]
  clear e0
  obtain ⟨c0, c1, c2⟩ := X2.out.triV
  have f0 := X2.out.frozen 0
  have f1 := X2.out.frozen 1
  have f2 := X2.out.frozen 2
  obtain ⟨r0, r1, r2⟩ := R2.out.triV
  have z0 := R2.out.frozen 0
  have z1 := R2.out.frozen 1
  have z2 := R2.out.frozen 2
  have hne : ¬ g = w.heap.size := by have := HGW.out; omega
  have hne' : ¬ w.heap.size = g := fun e => hne e.symm
  have hs1 : (i : Int) + 1 < (n : Int) := by omega
  obtain ⟨y, hy⟩ : ∃ y, l[i + 1]? = some y := ⟨_, List.getElem?_eq_getElem (by omega)⟩
  obtain ⟨_, _, h0 | ⟨b', o', he, g2⟩⟩ := HL2.out
  · omega
  cases he
  have e1 := g2 (i + 1) y hy
  have HY : Hid (l[i + 1]? = some y) := hy
  obtain ⟨m, hm⟩ : ∃ m, y.toNat = m := ⟨_, rfl⟩
  have HM : Hid (y.toNat = m) := hm
  have hm1 : (m : Int) < 256 := by have := y.toNat_lt; omega
  have hm0 : (0 : Int) ≤ (m : Int) := by omega
  rw [hm] at e1
  clear g2 hy hm
  go_wp2
  have E := (((R2.out.set (q := ⟨g, 1, none⟩) hne' (.int .i64 (m : Int))).put 0 (.int .i64 1)).put 1 (.int .i64 (m : Int))).put 2 (.string ⟨#[]⟩)
  have q0 := E.cell 0
  have q1 := E.cell 1
  have q2 := E.cell 2
  refine bodyPost_ret (by simp [results, Tryd.results17, go_sem, q0, q1, q2]; try rfl) rfl ?_
  refine ⟨⟨(1, (m : Int), ⟨#[]⟩), i + 2, ?_, HM.out ▸ rd_flag HXX.out HY.out, by omega⟩, below_ret (HB2.out.setCell (Nat.le_of_lt HGW.out) _) (Nat.le_refl _) _ _ _⟩
  first | rfl | simp
theorem l18R_text (b o n c i : Nat) (l : List UInt8) (w : World) (h : BysAt w (some ⟨b, o, none⟩) n l) (hx : l[i]? = some 4) :
    Calls Tryd.prog 17 #[.slice (some ⟨b, o, none⟩) n c, .int .i64 (i : Int)] w fun e w' => RdAns l i e ∧ Below w.heap.size w w' := by
  have hl := h.1
  have hn := h.2.1
  have hin : i < n := by rw [← hl]; exact (List.getElem?_eq_some_iff.1 hx).1
  have hi0 : (0 : Int) ≤ (i : Int) := by omega
  have hi1 : (i : Int) < (n : Int) := by omega
  have hi2 : (i : Int) ≤ 2097152 := by omega
  obtain ⟨W, hW⟩ : ∃ W, w.alloc (.cells #[.int .i64 0, .int .i64 0, .string ⟨#[]⟩] 38) = W := ⟨_, rfl⟩
  have HW : Hid (w.alloc (.cells #[.int .i64 0, .int .i64 0, .string ⟨#[]⟩] 38) = W) := hW
  have HB0 : Hid (Below w.heap.size w W) := by rw [← hW]; exact (Below.refl _ w).alloc (Nat.le_refl _) _
  have R0 : Hid (Box W w.heap.size #[.int .i64 0, .int .i64 0, .string ⟨#[]⟩] 38) := by rw [← hW]; exact box_of w _ _
  have HL0 : Hid (BysAt W (some ⟨b, o, none⟩) n l) := h.below HB0.out (Nat.le_refl _)
  obtain ⟨g, hg⟩ : ∃ g, W.heap.size = g := ⟨_, rfl⟩
  have HG : Hid (W.heap.size = g) := hg
  have HGW : Hid (w.heap.size < g) := by rw [← hg]; exact R0.out.lt
  obtain ⟨W2, hW2⟩ : ∃ W2, W.alloc (.cells #[.int .i64 3, .int .i64 0, .string ⟨#[]⟩] 38) = W2 := ⟨_, rfl⟩
  have HW2 : Hid (W.alloc (.cells #[.int .i64 3, .int .i64 0, .string ⟨#[]⟩] 38) = W2) := hW2
  have hb2 : Below W.heap.size W W2 := by rw [← hW2]; exact (Below.refl _ _).alloc (Nat.le_refl _) _
  have X2 : Hid (Box W2 g #[.int .i64 3, .int .i64 0, .string ⟨#[]⟩] 38) := by rw [← hW2, ← hg]; exact box_of W _ _
  have R2 : Hid (Box W2 w.heap.size #[.int .i64 0, .int .i64 0, .string ⟨#[]⟩] 38) := R0.out.below hb2 R0.out.lt
  have HL2 : Hid (BysAt W2 (some ⟨b, o, none⟩) n l) := HL0.out.below hb2 (Nat.le_refl _)
  have HB2 : Hid (Below w.heap.size w W2) := HB0.out.trans (hb2.mono HB0.out.size)
  obtain ⟨_, _, h0 | ⟨b', o', he, g1⟩⟩ := HL0.out
  · omega
  cases he
  have e0 : W.cell? ⟨b, o + i, none⟩ = some (.int .u8 4) := g1 i _ hx
  have HXX : Hid (l[i]? = _) := hx
  clear hW hg hW2 hb2 h g1 hx
  go_enter Tryd.func17, Tryd.ntmps17
  go_upto_region 1 with (fail)
  rw [HW.out]
  go_upto_region 2 with (fail)
  rw [HW2.out, HG.out]
  clear e0
  obtain ⟨c0, c1, c2⟩ := X2.out.triV
  have f0 := X2.out.frozen 0
  have f1 := X2.out.frozen 1
  have f2 := X2.out.frozen 2
  obtain ⟨r0, r1, r2⟩ := R2.out.triV
  have z0 := R2.out.frozen 0
  have z1 := R2.out.frozen 1
  have z2 := R2.out.frozen 2
  have hne : ¬ g = w.heap.size := by have := HGW.out; omega
  have hne' : ¬ w.heap.size = g := fun e => hne e.symm
  have HTX := l18Text_any (some ⟨b, o, none⟩) n c (i + 1) l W2 HL2.out (by omega)
  rw [show ((i + 1 : Nat) : Int) = (i : Int) + 1 by omega] at HTX
  have HTX2 : Hid _ := HTX
  clear HTX
  go_wp2_with
    (go_at_call 29
     refine Calls.mono HTX2.out ?_
     rintro e w3 ⟨⟨t, nx, rfl, ht1, ht2, ht3, ht4⟩, hb3⟩
     have X3 : Hid (Box w3 g #[.int .i64 3, .int .i64 0, .string ⟨#[]⟩] 38) := X2.out.below hb3 X2.out.lt
     have R3 : Hid (Box w3 w.heap.size #[.int .i64 0, .int .i64 0, .string ⟨#[]⟩] 38) := R2.out.below hb3 R2.out.lt
     have HB3 : Hid (Below w.heap.size w w3) := HB2.out.trans (hb3.mono HB2.out.size)
     have HT : Hid (∀ t' r, rdT (l.drop (i + 1)) = some (t', r) → t.data.toList = t' ∧ nx + r.length = l.length) := ht4
     clear hb3 ht4 c0 c1 c2 r0 r1 r2 f0 f1 f2 z0 z1 z2
     obtain ⟨c0, c1, c2⟩ := X3.out.triV
     have f0 := X3.out.frozen 0
     have f1 := X3.out.frozen 1
     have f2 := X3.out.frozen 2
     obtain ⟨r0, r1, r2⟩ := R3.out.triV
     have z0 := R3.out.frozen 0
     have z1 := R3.out.frozen 1
     have z2 := R3.out.frozen 2)
  have E := (((R3.out.set (q := ⟨g, 2, none⟩) hne' (.string t)).put 0 (.int .i64 3)).put 1 (.int .i64 0)).put 2 (.string t)
  have q0 := E.cell 0
  have q1 := E.cell 1
  have q2 := E.cell 2
  refine bodyPost_ret (by simp [results, Tryd.results17, go_sem, q0, q1, q2]; try rfl) rfl ?_
  refine ⟨⟨(3, 0, t), nx, ?_, rd_text HXX.out ht1 HT.out, by omega⟩, below_ret (HB3.out.setCell (Nat.le_of_lt HGW.out) _) (Nat.le_refl _) _ _ _⟩
  first | rfl | simp
theorem l18R_none (b o n c i : Nat) (l : List UInt8) (w : World) (h : BysAt w (some ⟨b, o, none⟩) n l) (y : UInt8) (m : Nat) (hm : y.toNat = m) (hx : l[i]? = some y) (hc : ¬ (1 ≤ m ∧ m ≤ 4)) :
    Calls Tryd.prog 17 #[.slice (some ⟨b, o, none⟩) n c, .int .i64 (i : Int)] w fun e w' => RdAns l i e ∧ Below w.heap.size w w' := by
  have hl := h.1
  have hn := h.2.1
  have hin : i < n := by rw [← hl]; exact (List.getElem?_eq_some_iff.1 hx).1
  have hi0 : (0 : Int) ≤ (i : Int) := by omega
  have hi1 : (i : Int) < (n : Int) := by omega
  have hi2 : (i : Int) ≤ 2097152 := by omega
  obtain ⟨W, hW⟩ : ∃ W, w.alloc (.cells #[.int .i64 0, .int .i64 0, .string ⟨#[]⟩] 38) = W := ⟨_, rfl⟩
  have HW : Hid (w.alloc (.cells #[.int .i64 0, .int .i64 0, .string ⟨#[]⟩] 38) = W) := hW
  have HB0 : Hid (Below w.heap.size w W) := by rw [← hW]; exact (Below.refl _ w).alloc (Nat.le_refl _) _
  have R0 : Hid (Box W w.heap.size #[.int .i64 0, .int .i64 0, .string ⟨#[]⟩] 38) := by rw [← hW]; exact box_of w _ _
  have HL0 : Hid (BysAt W (some ⟨b, o, none⟩) n l) := h.below HB0.out (Nat.le_refl _)
  obtain ⟨g, hg⟩ : ∃ g, W.heap.size = g := ⟨_, rfl⟩
  have HG : Hid (W.heap.size = g) := hg
  have HGW : Hid (w.heap.size < g) := by rw [← hg]; exact R0.out.lt
  obtain ⟨W2, hW2⟩ : ∃ W2, W.alloc (.cells #[.int .i64 ((m : Int) - 1), .int .i64 0, .string ⟨#[]⟩] 38) = W2 := ⟨_, rfl⟩
  have HW2 : Hid (W.alloc (.cells #[.int .i64 ((m : Int) - 1), .int .i64 0, .string ⟨#[]⟩] 38) = W2) := hW2
  have hb2 : Below W.heap.size W W2 := by rw [← hW2]; exact (Below.refl _ _).alloc (Nat.le_refl _) _
  have X2 : Hid (Box W2 g #[.int .i64 ((m : Int) - 1), .int .i64 0, .string ⟨#[]⟩] 38) := by rw [← hW2, ← hg]; exact box_of W _ _
  have R2 : Hid (Box W2 w.heap.size #[.int .i64 0, .int .i64 0, .string ⟨#[]⟩] 38) := R0.out.below hb2 R0.out.lt
  have HL2 : Hid (BysAt W2 (some ⟨b, o, none⟩) n l) := HL0.out.below hb2 (Nat.le_refl _)
  have HB2 : Hid (Below w.heap.size w W2) := HB0.out.trans (hb2.mono HB0.out.size)
  obtain ⟨_, _, h0 | ⟨b', o', he, g1⟩⟩ := HL0.out
  · omega
  cases he
  have e0 : W.cell? ⟨b, o + i, none⟩ = some (.int .u8 (m : Int)) := by rw [← hm]; exact g1 i _ hx
  have hm1 : (m : Int) < 256 := by have := y.toNat_lt; omega
  have hm0 : (0 : Int) ≤ (m : Int) := by omega
  have hk0 : ((m : Int) - 1 == 0) = false := by rw [beq_eq_false_iff_ne]; omega
  have hk1 : ((m : Int) - 1 == 1) = false := by rw [beq_eq_false_iff_ne]; omega
  have hk2 : ((m : Int) - 1 == 2) = false := by rw [beq_eq_false_iff_ne]; omega
  have hk3 : ((m : Int) - 1 == 3) = false := by rw [beq_eq_false_iff_ne]; omega
  have HC : Hid (¬ (1 ≤ y.toNat ∧ y.toNat ≤ 4)) := by rw [hm]; exact hc
  have HXX : Hid (l[i]? = _) := hx
  clear hW hg hW2 hb2 h g1 hx
  go_enter Tryd.func17, Tryd.ntmps17
  go_upto_region 1 with (fail)
  rw [HW.out]
  go_upto_region 2 with (fail)
  rw [HW2.out, HG.out]
  clear e0
  obtain ⟨c0, c1, c2⟩ := X2.out.triV
  have f0 := X2.out.frozen 0
  have f1 := X2.out.frozen 1
  have f2 := X2.out.frozen 2
  obtain ⟨r0, r1, r2⟩ := R2.out.triV
  have z0 := R2.out.frozen 0
  have z1 := R2.out.frozen 1
  have z2 := R2.out.frozen 2
  have hne : ¬ g = w.heap.size := by have := HGW.out; omega
  have hne' : ¬ w.heap.size = g := fun e => hne e.symm
  clear hc hm
  have hn1 : (n : Int) ≤ 2097152 := by omega
  go_wp2
  have E := ((R2.out.put 0 (.int .i64 ((m : Int) - 1))).put 1 (.int .i64 0)).put 2 (.string ⟨#[]⟩)
  have q0 := E.cell 0
  have q1 := E.cell 1
  have q2 := E.cell 2
  refine bodyPost_ret (by simp [results, Tryd.results17, go_sem, q0, q1, q2]; try rfl) rfl ?_
  refine ⟨⟨(((m : Int) - 1), 0, ⟨#[]⟩), n + 1, ?_, rd_none _ HXX.out HC.out (by omega), by omega⟩, below_ret HB2.out (Nat.le_refl _) _ _ _⟩
  first | rfl | simp
theorem l18R_int (b o n c i : Nat) (l : List UInt8) (w : World) (h : BysAt w (some ⟨b, o, none⟩) n l) (hx : l[i]? = some 3) :
    Calls Tryd.prog 17 #[.slice (some ⟨b, o, none⟩) n c, .int .i64 (i : Int)] w fun e w' => RdAns l i e ∧ Below w.heap.size w w' := by
  have hl := h.1
  have hn := h.2.1
  have hin : i < n := by rw [← hl]; exact (List.getElem?_eq_some_iff.1 hx).1
  have hi0 : (0 : Int) ≤ (i : Int) := by omega
  have hi1 : (i : Int) < (n : Int) := by omega
  have hi2 : (i : Int) ≤ 2097152 := by omega
  obtain ⟨W, hW⟩ : ∃ W, w.alloc (.cells #[.int .i64 0, .int .i64 0, .string ⟨#[]⟩] 38) = W := ⟨_, rfl⟩
  have HW : Hid (w.alloc (.cells #[.int .i64 0, .int .i64 0, .string ⟨#[]⟩] 38) = W) := hW
  have HB0 : Hid (Below w.heap.size w W) := by rw [← hW]; exact (Below.refl _ w).alloc (Nat.le_refl _) _
  have R0 : Hid (Box W w.heap.size #[.int .i64 0, .int .i64 0, .string ⟨#[]⟩] 38) := by rw [← hW]; exact box_of w _ _
  have HL0 : Hid (BysAt W (some ⟨b, o, none⟩) n l) := h.below HB0.out (Nat.le_refl _)
  obtain ⟨g, hg⟩ : ∃ g, W.heap.size = g := ⟨_, rfl⟩
  have HG : Hid (W.heap.size = g) := hg
  have HGW : Hid (w.heap.size < g) := by rw [← hg]; exact R0.out.lt
  obtain ⟨W2, hW2⟩ : ∃ W2, W.alloc (.cells #[.int .i64 2, .int .i64 0, .string ⟨#[]⟩] 38) = W2 := ⟨_, rfl⟩
  have HW2 : Hid (W.alloc (.cells #[.int .i64 2, .int .i64 0, .string ⟨#[]⟩] 38) = W2) := hW2
  have hb2 : Below W.heap.size W W2 := by rw [← hW2]; exact (Below.refl _ _).alloc (Nat.le_refl _) _
  have X2 : Hid (Box W2 g #[.int .i64 2, .int .i64 0, .string ⟨#[]⟩] 38) := by rw [← hW2, ← hg]; exact box_of W _ _
  have R2 : Hid (Box W2 w.heap.size #[.int .i64 0, .int .i64 0, .string ⟨#[]⟩] 38) := R0.out.below hb2 R0.out.lt
  have HL2 : Hid (BysAt W2 (some ⟨b, o, none⟩) n l) := HL0.out.below hb2 (Nat.le_refl _)
  have HB2 : Hid (Below w.heap.size w W2) := HB0.out.trans (hb2.mono HB0.out.size)
  obtain ⟨_, _, h0 | ⟨b', o', he, g1⟩⟩ := HL0.out
  · omega
  cases he
  have e0 : W.cell? ⟨b, o + i, none⟩ = some (.int .u8 3) := g1 i _ hx
  have HXX : Hid (l[i]? = _) := hx
  clear hW hg hW2 hb2 h g1 hx
  go_enter Tryd.func17, Tryd.ntmps17
  go_upto_region 1 with (fail)
  rw [HW.out]
  go_upto_region 2 with (fail)
  rw [HW2.out, HG.out]
  clear e0
  obtain ⟨c0, c1, c2⟩ := X2.out.triV
  have f0 := X2.out.frozen 0
  have f1 := X2.out.frozen 1
  have f2 := X2.out.frozen 2
  obtain ⟨r0, r1, r2⟩ := R2.out.triV
  have z0 := R2.out.frozen 0
  have z1 := R2.out.frozen 1
  have z2 := R2.out.frozen 2
  have hne : ¬ g = w.heap.size := by have := HGW.out; omega
  have hne' : ¬ w.heap.size = g := fun e => hne e.symm
  clear c0 c1 c2 r0 r1 r2 f0 f1 f2 z0 z1 z2
  obtain ⟨c0, c1, c2⟩ := X2.out.triV
  go_upto_region 11 with (fail)
  go_loopw [7] (fun v wr => ∃ (j : Nat) (N : Int), j ≤ 8 ∧ i + 1 + j ≤ n ∧ v = .int .i64 ((i + 1 + j : Nat) : Int) ∧ RdN l i j N ∧ Box wr g #[.int .i64 2, .int .i64 N, .string ⟨#[]⟩] 38 ∧ Box wr w.heap.size #[.int .i64 0, .int .i64 0, .string ⟨#[]⟩] 38 ∧ BysAt wr (some ⟨b, o, none⟩) n l ∧ Below w.heap.size w wr) (fun v _ => n - (RowKit.intOf v).toNat)
  case atStart => exact ⟨0, 0, Nat.zero_le _, by omega, by go_num, RdN.start l i, X2.out, R2.out, HL2.out, HB2.out⟩
  case round =>
    obtain ⟨j, N, hj, hjn, rfl, hr, hx, hrb, hly, hb⟩ := hrel
    have HR : Hid (RdN l i j N) := hr
    have XR : Hid (Box wr g #[.int .i64 2, .int .i64 N, .string ⟨#[]⟩] 38) := hx
    have RR : Hid (Box wr w.heap.size #[.int .i64 0, .int .i64 0, .string ⟨#[]⟩] 38) := hrb
    have HLR : Hid (BysAt wr (some ⟨b, o, none⟩) n l) := hly
    have HBW : Hid (Below w.heap.size w wr) := hb
    clear hr hx hrb hly hb c0 c1 c2
    obtain ⟨q, hq⟩ : ∃ q : Nat, i + 1 + j = q := ⟨_, rfl⟩
    have HQ : Hid (i + 1 + j = q) := hq
    rw [HQ.out]
    have hq0 : (0 : Int) ≤ (q : Int) := by omega
    have hq2 : (q : Int) ≤ 2097152 := by omega
    by_cases hlt : j < 8 ∧ q < n
    · obtain ⟨h8, hqn⟩ := hlt
      have hq3 : (q : Int) < (n : Int) := by omega
      have hq4 : (q : Int) < (i : Int) + 9 := by omega
      obtain ⟨_, _, h0 | ⟨b', o', he, g2⟩⟩ := HLR.out
      · omega
      cases he
      obtain ⟨y, hy⟩ : ∃ y, l[q]? = some y := ⟨_, List.getElem?_eq_getElem (by omega)⟩
      have e1 := g2 q y hy
      have HN : Hid (RdN l i (j + 1) (bits .or .i64 (wrap64 (N * 256)) (y.toNat : Int))) := HR.out.next h8 (by rw [HQ.out]; exact hy)
      obtain ⟨m, hm⟩ : ∃ m, y.toNat = m := ⟨_, rfl⟩
      have hm1 : (m : Int) < 256 := by have := y.toNat_lt; omega
      have hm0 : (0 : Int) ≤ (m : Int) := by omega
      rw [hm] at e1 HN
      have hbo : ¬ b = g := fun e => by
        subst e
        have h1 := XR.out.cell (o + q)
        rw [e1] at h1
        match o + q, h1 with
        | 0, h1 => simp at h1
        | 1, h1 => simp at h1
        | 2, h1 => simp at h1
        | k + 3, h1 => simp at h1
      have K0 : Hid (wr.drew.cell? ⟨b, o + q, none⟩ = some (.int .u8 (m : Int))) := e1
      clear g2 hy hm e1
      obtain ⟨c0, c1, c2⟩ := XR.out.triV
      have f0 := XR.out.frozen 0
      have f1 := XR.out.frozen 1
      have f2 := XR.out.frozen 2
      go_upto_region 13 with (fail)
      refine wp_region_held_drew (S := fun w' => w'.cell? ⟨b, o + q, none⟩ = some (.int .u8 (m : Int))) (by kernel_rfl) (by exact K0.out) (fun hHeld => ?_)
      refine wpAnyH_take (i := 0) (oi := _) (v := .pointer (some ⟨g, 1, none⟩)) (by rw [List.getElem?_toArray]; exact rfl) (by kernel_rfl) (by kernel_rfl) (by kernel_rfl) (by intro _ _ _ h; exact h) (Or.inl ⟨by kernel_rfl, ?_⟩) hHeld ?_
      · intro w hSw; go_simp
      simp only [Act.put, List.setIfInBounds_toArray, List.set_cons_zero, List.set_cons_succ]
      refine wpAnyH_take (i := 3) (oi := _) (v := .slice (some ⟨b, o, none⟩) n c) (by rw [List.getElem?_toArray]; exact rfl) (by kernel_rfl) (by kernel_rfl) (by kernel_rfl) (by intro _ _ _ h; exact h) (Or.inl ⟨by kernel_rfl, ?_⟩) hHeld ?_
      · intro w hSw; go_simp
      simp only [Act.put, List.setIfInBounds_toArray, List.set_cons_zero, List.set_cons_succ]
      refine wpAnyH_take (i := 4) (oi := _) (v := .int .i64 (q : Int)) (by rw [List.getElem?_toArray]; exact rfl) (by kernel_rfl) (by kernel_rfl) (by kernel_rfl) (by intro _ _ _ h; exact h) (Or.inl ⟨by kernel_rfl, ?_⟩) hHeld ?_
      · intro w hSw; go_simp
      simp only [Act.put, List.setIfInBounds_toArray, List.set_cons_zero, List.set_cons_succ]
      refine wpAnyH_take (i := 5) (oi := _) (v := .pointer (some ⟨b, o + q, none⟩)) (by rw [List.getElem?_toArray]; exact rfl) (by kernel_rfl) (by kernel_rfl) (by kernel_rfl) (by intro _ _ _ h; exact h) (Or.inl ⟨by kernel_rfl, ?_⟩) hHeld ?_
      · intro w hSw; go_simp
      simp only [Act.put, List.setIfInBounds_toArray, List.set_cons_zero, List.set_cons_succ]
      refine wpAnyH_take (i := 6) (oi := _) (v := .int .u8 (m : Int)) (by rw [List.getElem?_toArray]; exact rfl) (by kernel_rfl) (by kernel_rfl) (by kernel_rfl) (by intro _ _ _ h; exact h) (Or.inl ⟨by kernel_rfl, ?_⟩) hHeld ?_
      · intro w hSw; go_simp
      simp only [Act.put, List.setIfInBounds_toArray, List.set_cons_zero, List.set_cons_succ]
      refine wpAnyH_take (i := 7) (oi := _) (v := .int .i64 (m : Int)) (by rw [List.getElem?_toArray]; exact rfl) (by kernel_rfl) (by kernel_rfl) (by kernel_rfl) (by intro _ _ _ h; exact h) (Or.inl ⟨by kernel_rfl, ?_⟩) hHeld ?_
      · intro w hSw; go_simp; rw [IntKind.wrap_i64]; omega
      simp only [Act.put, List.setIfInBounds_toArray, List.set_cons_zero, List.set_cons_succ]
      refine wpAnyH_ready (rs := [1]) (by kernel_rfl) (by simp) ?_
      refine AllReadyH.cons (o := _) (by rw [List.getElem?_toArray]; exact rfl) (fun K hK => ?_) AllReadyH.nil
      rw [if_pos (by kernel_rfl)]
      go_simp
      refine hK.out _ _ ?_ (fun hHeld => ?_)
      · exact K0.out
      clear hK K
      (try simp only [Act.put, List.setIfInBounds_toArray, List.set_cons_zero, List.set_cons_succ])
      refine wpAnyH_take (i := 2) (oi := _) (v := .int .i64 (wrap64 (N * 256))) (by rw [List.getElem?_toArray]; exact rfl) (by kernel_rfl) (by kernel_rfl) (by kernel_rfl) (by intro _ _ _ h; exact h) (Or.inl ⟨by kernel_rfl, ?_⟩) hHeld ?_
      · intro w hSw; go_simp; simp only [IntKind.wrap_i64, wrap64]
      simp only [Act.put, List.setIfInBounds_toArray, List.set_cons_zero, List.set_cons_succ]
      refine wpAnyH_take (i := 8) (oi := _) (v := .int .i64 (bits .or .i64 (wrap64 (N * 256)) (m : Int))) (by rw [List.getElem?_toArray]; exact rfl) (by kernel_rfl) (by kernel_rfl) (by kernel_rfl) (by intro _ _ _ h; exact h) (Or.inl ⟨by kernel_rfl, ?_⟩) hHeld ?_
      · intro w hSw; go_simp
      simp only [Act.put, List.setIfInBounds_toArray, List.set_cons_zero, List.set_cons_succ]
      refine wpAnyH_take (i := 9) (oi := _) (v := .pointer (some ⟨g, 1, none⟩)) (by rw [List.getElem?_toArray]; exact rfl) (by kernel_rfl) (by kernel_rfl) (by kernel_rfl) (by intro _ _ _ h; exact h) (Or.inl ⟨by kernel_rfl, ?_⟩) hHeld ?_
      · intro w hSw; go_simp
      simp only [Act.put, List.setIfInBounds_toArray, List.set_cons_zero, List.set_cons_succ]
      refine wpAnyH_ready (rs := [10]) (by kernel_rfl) (by simp) ?_
      refine AllReadyH.cons (o := _) (by rw [List.getElem?_toArray]; exact rfl) (fun K hK => ?_) AllReadyH.nil
      rw [if_pos (by kernel_rfl)]
      go_simp
      refine hK.out _ _ ?_ (fun hHeld => ?_)
      · exact (World.cell?_of_block (w := wr.drew) (Below.heap_setCell _ _ _ _ hbo)).trans K0.out
      clear hK K
      (try simp only [Act.put, List.setIfInBounds_toArray, List.set_cons_zero, List.set_cons_succ])
      refine wpAnyH_done (by kernel_rfl) ?_ _
      have XN : Hid (Box (wr.drew.setCell ⟨g, 1, none⟩ (.int .i64 (bits .or .i64 (wrap64 (N * 256)) (m : Int)))) g #[.int .i64 2, .int .i64 (bits .or .i64 (wrap64 (N * 256)) (m : Int)), .string ⟨#[]⟩] 38) := XR.out.drew.put 1 _
      have RN : Hid (Box (wr.drew.setCell ⟨g, 1, none⟩ (.int .i64 (bits .or .i64 (wrap64 (N * 256)) (m : Int)))) w.heap.size #[.int .i64 0, .int .i64 0, .string ⟨#[]⟩] 38) := RR.out.drew.set (q := ⟨g, 1, none⟩) hne' _
      have BN : Hid (Below w.heap.size w (wr.drew.setCell ⟨g, 1, none⟩ (.int .i64 (bits .or .i64 (wrap64 (N * 256)) (m : Int))))) := HBW.out.drew.setCell (Nat.le_of_lt HGW.out) _
      have LN : Hid (BysAt (wr.drew.setCell ⟨g, 1, none⟩ (.int .i64 (bits .or .i64 (wrap64 (N * 256)) (m : Int)))) (some ⟨b, o, none⟩) n l) := HLR.out.set (by exact hbo) _
      clear c0 c1 c2 f0 f1 f2
      go_wp2
      refine ⟨⟨j + 1, _, by omega, by omega, ?_, HN.out, XN.out, RN.out, LN.out, BN.out⟩, ?_⟩
      · have := HQ.out
        simp only [Value.int.injEq, true_and]
        omega
      · simp [RowKit.intOf]; omega
    · have HS : Hid (RdSays l i (2, wrap64 (N - 4611686018427387904), ⟨#[]⟩) (i + 9)) := by
        by_cases h8 : j = 8
        · subst h8
          exact HR.out.done HXX.out
        · exact RdN.short _ HXX.out (by omega)
      have hmin : (q : Int) < (i : Int) + 9 ∧ ¬ ((q : Int) < (n : Int)) ∨ ¬ ((q : Int) < (i : Int) + 9) := by omega
      obtain ⟨c0, c1, c2⟩ := XR.out.triV
      have f0 := XR.out.frozen 0
      have f1 := XR.out.frozen 1
      have f2 := XR.out.frozen 2
      obtain ⟨r0, r1, r2⟩ := RR.out.triV
      have z0 := RR.out.frozen 0
      have z1 := RR.out.frozen 1
      have z2 := RR.out.frozen 2
      have hni : (n : Int) ≤ 2097152 := by omega
      rcases hmin with ⟨hm1, hm2⟩ | hm1
      all_goals
        go_wp2
        have E := (((RR.out.set (q := ⟨g, 1, none⟩) hne' (.int .i64 (wrap64 (N - 4611686018427387904)))).put 0 (.int .i64 2)).put 1 (.int .i64 (wrap64 (N - 4611686018427387904)))).put 2 (.string ⟨#[]⟩)
        have q0 := E.cell 0
        have q1 := E.cell 1
        have q2 := E.cell 2
        refine bodyPost_ret (by simp [results, Tryd.results17, go_sem, q0, q1, q2]; try rfl) rfl ?_
        refine ⟨⟨(2, (wrap64 (N - 4611686018427387904)), ⟨#[]⟩), i + 9, ?_, HS.out, by omega⟩, below_ret (HBW.out.setCell (Nat.le_of_lt HGW.out) _) (Nat.le_refl _) _ _ _⟩
        first | rfl | simp

theorem l18Read_any (a : Option Addr) (n c i : Nat) (l : List UInt8) (w : World) (h : BysAt w a n l) (hi : i < n) :
    Calls Tryd.prog 17 #[.slice a n c, .int .i64 (i : Int)] w fun e w' => RdAns l i e ∧ Below w.heap.size w w' := by
  obtain ⟨h1, h2, h0 | ⟨b, o, rfl, g1⟩⟩ := h
  · omega
  have hL : BysAt w (some ⟨b, o, none⟩) n l := ⟨h1, h2, .inr ⟨b, o, rfl, g1⟩⟩
  obtain ⟨x, hx⟩ : ∃ x, l[i]? = some x := ⟨_, List.getElem?_eq_getElem (by omega)⟩
  have key : ∀ k : UInt8, x.toNat = k.toNat → l[i]? = some k := fun k hk => by rw [hx, UInt8.toNat_inj.1 hk]
  rcases (show x.toNat = 1 ∨ x.toNat = 2 ∨ x.toNat = 3 ∨ x.toNat = 4 ∨ ¬ (1 ≤ x.toNat ∧ x.toNat ≤ 4) by omega) with h | h | h | h | h
  · exact l18R_null b o n c i l w hL (key 1 h)
  · by_cases hs : i + 1 < l.length
    · exact l18R_flag b o n c i l w hL (key 2 h) hs
    · exact l18R_flag0 b o n c i l w hL (key 2 h) hs
  · exact l18R_int b o n c i l w hL (key 3 h)
  · exact l18R_text b o n c i l w hL (key 4 h)
  · exact l18R_none b o n c i l w hL x x.toNat rfl hx h
open Go.Lib (byteCells byteCells_length byteCells_append)

def VbSays (w : World) (l : List UInt8) (e : Ending) (w' : World) : Prop := ∃ v, e = .returned v ∧ BOwn w' w.heap.size v l ∧ Below w.heap.size w w'
theorem l18V_null  (w : World) :
    Calls Tryd.prog 31 #[VaV 0 0 ⟨#[]⟩] w fun e w' => VbSays w [1] e w' := by
  obtain ⟨W, hW⟩ : ∃ W, w.alloc (.cells #[.int .i64 0, .int .i64 0, .string ⟨#[]⟩] 38) = W := ⟨_, rfl⟩
  have HB0 : Hid (Below w.heap.size w W) := by rw [← hW]; exact (Below.refl _ w).alloc (Nat.le_refl _) _
  have X0 : Hid (Box W w.heap.size #[.int .i64 0, .int .i64 0, .string ⟨#[]⟩] 38) := by rw [← hW]; exact box_of w _ _
  have HW : Hid (w.alloc (.cells #[.int .i64 0, .int .i64 0, .string ⟨#[]⟩] 38) = W) := hW
  obtain ⟨g, hg⟩ : ∃ g, W.heap.size = g := ⟨_, rfl⟩
  have HG : Hid (W.heap.size = g) := hg
  have HGW : Hid (w.heap.size < g) := by rw [← hg]; exact X0.out.lt
  obtain ⟨W2, hW2⟩ : ∃ W2, W.alloc (.cells #[.int .u8 1] 5) = W2 := ⟨_, rfl⟩
  have HO0 : Hid (BOwn W2 g (.slice (some ⟨g, 0, none⟩) 1 1) [1]) := by rw [← hW2]; exact bown_new W (l := [1]) hg rfl (Nat.le_refl _) (by decide)
  have hb2 : Below W.heap.size W W2 := by rw [← hW2]; exact (Below.refl _ _).alloc (Nat.le_refl _) _
  have X2 : Hid (Box W2 w.heap.size #[.int .i64 0, .int .i64 0, .string ⟨#[]⟩] 38) := X0.out.below hb2 X0.out.lt
  have HB2 : Hid (Below w.heap.size w W2) := HB0.out.trans (hb2.mono HB0.out.size)
  have HW2 : Hid (W.alloc (.cells #[.int .u8 1] 5) = W2) := hW2
  have HS2 : Hid (g < W2.heap.size) := by show g < W2.heap.size; rw [← hW2, World.size_alloc, hg]; exact Nat.lt_succ_self _
  obtain ⟨c0, c1, c2⟩ := X0.out.triV
  clear hW hg hW2 hb2
  go_enter Tryd.func31, Tryd.ntmps31
  go_upto_region 1 with (fail)
  rw [HW.out]
  go_upto_region 2 with (fail)
  rw [HW2.out, HG.out]
  clear c0 c1 c2
  obtain ⟨c0, c1, c2⟩ := X2.out.triV
  go_wp2
  go_ret
  exact ⟨_, rfl, own_weaken HO0.out (Nat.le_of_lt HGW.out), HB2.out⟩
theorem l18V_no  (w : World) :
    Calls Tryd.prog 31 #[VaV 1 0 ⟨#[]⟩] w fun e w' => VbSays w [2, 0] e w' := by
  obtain ⟨W, hW⟩ : ∃ W, w.alloc (.cells #[.int .i64 1, .int .i64 0, .string ⟨#[]⟩] 38) = W := ⟨_, rfl⟩
  have HB0 : Hid (Below w.heap.size w W) := by rw [← hW]; exact (Below.refl _ w).alloc (Nat.le_refl _) _
  have X0 : Hid (Box W w.heap.size #[.int .i64 1, .int .i64 0, .string ⟨#[]⟩] 38) := by rw [← hW]; exact box_of w _ _
  have HW : Hid (w.alloc (.cells #[.int .i64 1, .int .i64 0, .string ⟨#[]⟩] 38) = W) := hW
  obtain ⟨g, hg⟩ : ∃ g, W.heap.size = g := ⟨_, rfl⟩
  have HG : Hid (W.heap.size = g) := hg
  have HGW : Hid (w.heap.size < g) := by rw [← hg]; exact X0.out.lt
  obtain ⟨W2, hW2⟩ : ∃ W2, W.alloc (.cells #[.int .u8 2] 5) = W2 := ⟨_, rfl⟩
  have HO0 : Hid (BOwn W2 g (.slice (some ⟨g, 0, none⟩) 1 1) [2]) := by rw [← hW2]; exact bown_new W (l := [2]) hg rfl (Nat.le_refl _) (by decide)
  have hb2 : Below W.heap.size W W2 := by rw [← hW2]; exact (Below.refl _ _).alloc (Nat.le_refl _) _
  have X2 : Hid (Box W2 w.heap.size #[.int .i64 1, .int .i64 0, .string ⟨#[]⟩] 38) := X0.out.below hb2 X0.out.lt
  have HB2 : Hid (Below w.heap.size w W2) := HB0.out.trans (hb2.mono HB0.out.size)
  have HW2 : Hid (W.alloc (.cells #[.int .u8 2] 5) = W2) := hW2
  have HS2 : Hid (g < W2.heap.size) := by show g < W2.heap.size; rw [← hW2, World.size_alloc, hg]; exact Nat.lt_succ_self _
  obtain ⟨c0, c1, c2⟩ := X0.out.triV
  clear hW hg hW2 hb2
  go_enter Tryd.func31, Tryd.ntmps31
  go_upto_region 1 with (fail)
  rw [HW.out]
  go_upto_region 2 with (fail)
  rw [HW2.out, HG.out]
  clear c0 c1 c2
  obtain ⟨c0, c1, c2⟩ := X2.out.triV
  go_wp2_with
    (at_builtin
     refine list_appB _ rfl _ _ rfl g (.slice (some ⟨g, 0, none⟩) 1 1) [2] rfl (HO0.out.alloc _) ⟨W2.heap.size, 0, none⟩ 1 [0] rfl (bnews _ _ rfl _ rfl) (by decide) (by have := HS2.out; simp; omega) ?_
     intro v' w' hown hbel _
     have HO : Hid (BOwn w' g v' [2, 0]) := hown
     have HBX : Hid (Below w.heap.size w w') := hbel w w.heap.size (Nat.le_of_lt HGW.out) (HB2.out.alloc HB2.out.size _)
     clear hown hbel)
  go_ret
  exact ⟨_, rfl, own_weaken HO.out (Nat.le_of_lt HGW.out), HBX.out⟩
theorem l18V_yes  (w : World) :
    Calls Tryd.prog 31 #[VaV 1 1 ⟨#[]⟩] w fun e w' => VbSays w [2, 1] e w' := by
  obtain ⟨W, hW⟩ : ∃ W, w.alloc (.cells #[.int .i64 1, .int .i64 1, .string ⟨#[]⟩] 38) = W := ⟨_, rfl⟩
  have HB0 : Hid (Below w.heap.size w W) := by rw [← hW]; exact (Below.refl _ w).alloc (Nat.le_refl _) _
  have X0 : Hid (Box W w.heap.size #[.int .i64 1, .int .i64 1, .string ⟨#[]⟩] 38) := by rw [← hW]; exact box_of w _ _
  have HW : Hid (w.alloc (.cells #[.int .i64 1, .int .i64 1, .string ⟨#[]⟩] 38) = W) := hW
  obtain ⟨g, hg⟩ : ∃ g, W.heap.size = g := ⟨_, rfl⟩
  have HG : Hid (W.heap.size = g) := hg
  have HGW : Hid (w.heap.size < g) := by rw [← hg]; exact X0.out.lt
  obtain ⟨W2, hW2⟩ : ∃ W2, W.alloc (.cells #[.int .u8 2] 5) = W2 := ⟨_, rfl⟩
  have HO0 : Hid (BOwn W2 g (.slice (some ⟨g, 0, none⟩) 1 1) [2]) := by rw [← hW2]; exact bown_new W (l := [2]) hg rfl (Nat.le_refl _) (by decide)
  have hb2 : Below W.heap.size W W2 := by rw [← hW2]; exact (Below.refl _ _).alloc (Nat.le_refl _) _
  have X2 : Hid (Box W2 w.heap.size #[.int .i64 1, .int .i64 1, .string ⟨#[]⟩] 38) := X0.out.below hb2 X0.out.lt
  have HB2 : Hid (Below w.heap.size w W2) := HB0.out.trans (hb2.mono HB0.out.size)
  have HW2 : Hid (W.alloc (.cells #[.int .u8 2] 5) = W2) := hW2
  have HS2 : Hid (g < W2.heap.size) := by show g < W2.heap.size; rw [← hW2, World.size_alloc, hg]; exact Nat.lt_succ_self _
  obtain ⟨c0, c1, c2⟩ := X0.out.triV
  clear hW hg hW2 hb2
  go_enter Tryd.func31, Tryd.ntmps31
  go_upto_region 1 with (fail)
  rw [HW.out]
  go_upto_region 2 with (fail)
  rw [HW2.out, HG.out]
  clear c0 c1 c2
  obtain ⟨c0, c1, c2⟩ := X2.out.triV
  go_wp2_with
    (at_builtin
     refine list_appB _ rfl _ _ rfl g (.slice (some ⟨g, 0, none⟩) 1 1) [2] rfl (HO0.out.alloc _) ⟨W2.heap.size, 0, none⟩ 1 [1] rfl (bnews _ _ rfl _ rfl) (by decide) (by have := HS2.out; simp; omega) ?_
     intro v' w' hown hbel _
     have HO : Hid (BOwn w' g v' [2, 1]) := hown
     have HBX : Hid (Below w.heap.size w w') := hbel w w.heap.size (Nat.le_of_lt HGW.out) (HB2.out.alloc HB2.out.size _)
     clear hown hbel)
  go_ret
  exact ⟨_, rfl, own_weaken HO.out (Nat.le_of_lt HGW.out), HBX.out⟩
theorem l18V_int (n : Int) (hn : -1000000000000 ≤ n ∧ n ≤ 1000000000000) (m : Nat) (hm : n + 4611686018427387904 = (m : Int)) (w : World) :
    Calls Tryd.prog 31 #[VaV 2 n ⟨#[]⟩] w fun e w' => VbSays w (3 :: beN 8 m) e w' := by
  obtain ⟨W, hW⟩ : ∃ W, w.alloc (.cells #[.int .i64 2, .int .i64 n, .string ⟨#[]⟩] 38) = W := ⟨_, rfl⟩
  have HB0 : Hid (Below w.heap.size w W) := by rw [← hW]; exact (Below.refl _ w).alloc (Nat.le_refl _) _
  have X0 : Hid (Box W w.heap.size #[.int .i64 2, .int .i64 n, .string ⟨#[]⟩] 38) := by rw [← hW]; exact box_of w _ _
  have HW : Hid (w.alloc (.cells #[.int .i64 2, .int .i64 n, .string ⟨#[]⟩] 38) = W) := hW
  obtain ⟨g, hg⟩ : ∃ g, W.heap.size = g := ⟨_, rfl⟩
  have HG : Hid (W.heap.size = g) := hg
  have HGW : Hid (w.heap.size < g) := by rw [← hg]; exact X0.out.lt
  obtain ⟨W2, hW2⟩ : ∃ W2, W.alloc (.cells #[.int .u8 3] 5) = W2 := ⟨_, rfl⟩
  have HO0 : Hid (BOwn W2 g (.slice (some ⟨g, 0, none⟩) 1 1) [3]) := by rw [← hW2]; exact bown_new W (l := [3]) hg rfl (Nat.le_refl _) (by decide)
  have hb2 : Below W.heap.size W W2 := by rw [← hW2]; exact (Below.refl _ _).alloc (Nat.le_refl _) _
  have X2 : Hid (Box W2 w.heap.size #[.int .i64 2, .int .i64 n, .string ⟨#[]⟩] 38) := X0.out.below hb2 X0.out.lt
  have HB2 : Hid (Below w.heap.size w W2) := HB0.out.trans (hb2.mono HB0.out.size)
  have HW2 : Hid (W.alloc (.cells #[.int .u8 3] 5) = W2) := hW2
  have HS2 : Hid (g < W2.heap.size) := by show g < W2.heap.size; rw [← hW2, World.size_alloc, hg]; exact Nat.lt_succ_self _
  obtain ⟨c0, c1, c2⟩ := X0.out.triV
  clear hW hg hW2 hb2
  go_enter Tryd.func31, Tryd.ntmps31
  go_upto_region 1 with (fail)
  rw [HW.out]
  go_upto_region 2 with (fail)
  rw [HW2.out, HG.out]
  clear c0 c1 c2
  obtain ⟨c0, c1, c2⟩ := X2.out.triV
  have hm0 : (0 : Int) ≤ (m : Int) := by omega
  have hm1 : (m : Int) ≤ 9223372036854775807 := by omega
  have hadd : wrap64 (n + 4611686018427387904) = (m : Int) := by rw [hm]; unfold wrap64; omega
  clear hm hn
  go_upto_region 7 with (fail)
  rw [hadd]
  clear hadd
  go_wp2
  go_loopw [3, 5] (fun v i wr => ∃ j : Nat, j ≤ 8 ∧ i = .int .i64 (56 - 8 * (j : Int)) ∧ BOwn wr g v (3 :: (beN 8 m).take j) ∧ Below w.heap.size w wr ∧ g ≤ wr.heap.size) (fun _ i _ => (RowKit.intOf i + 8).toNat)
  case atStart => exact ⟨0, Nat.zero_le _, rfl, HO0.out, HB2.out, Nat.le_of_lt HS2.out⟩
  case round =>
    obtain ⟨j, hj, rfl, ho, hb, hs⟩ := hrel
    have HO : Hid (BOwn wr g u3 (3 :: (beN 8 m).take j)) := ho
    have HBW : Hid (Below w.heap.size w wr) := hb
    have HSZ : Hid (g ≤ wr.heap.size) := hs
    obtain ⟨iv, hiv⟩ : ∃ iv : Int, 56 - 8 * (j : Int) = iv := ⟨_, rfl⟩
    have HIV : Hid (56 - 8 * (j : Int) = iv) := hiv
    clear ho hb hs c0 c1 c2
    by_cases hlt : j < 8
    · have hi0 : 0 ≤ iv := by omega
      have hi1 : iv ≤ 56 := by omega
      have HSH := shift_byte (m := m) hlt
      obtain ⟨q, hq⟩ : ∃ q : Nat, m / 256 ^ (8 - 1 - j) % 256 = q := ⟨_, rfl⟩
      have hq256 : q < 256 := by omega
      have HNEW : Hid ((3 :: (beN 8 m).take j) ++ [UInt8.ofNat q] = 3 :: (beN 8 m).take (j + 1)) := by show _ = _; rw [beN_succ hlt, hq]; rfl
      rw [hq, hiv] at HSH
      have hand : bits BinOp.and IntKind.i64 ((m : Int) / 2 ^ iv.toNat) 255 = (q : Int) := by rw [and255]; exact HSH
      have hq0 : (0 : Int) ≤ (q : Int) := by omega
      have hq1 : (q : Int) < 256 := by omega
      have hqm : (q : Int) % 256 = q := by omega
      have HQ : Hid (.int .u8 (q : Int) = (Value.int .u8 ((UInt8.ofNat q).toNat : Int))) := by show _ = _; rw [u8_nat hq256]
      have hlen : (3 :: (beN 8 m).take j).length ≤ 9 := by rw [List.length_cons, List.length_take]; omega
      have HLEN : Hid ((3 :: (beN 8 m).take j).length ≤ 9) := hlen
      clear HSH hq hlen hq256
      rw [HIV.out]
      go_wp2_with
        (at_builtin
         refine list_appB _ rfl _ _ rfl g u3 _ rfl (HO.out.alloc _) ⟨wr.heap.size, 0, none⟩ 1 [UInt8.ofNat q] rfl (bnews _ _ rfl _ (by rw [HQ.out]; rfl)) (by have := HLEN.out; simp only [List.length_singleton]; omega) (by have := HSZ.out; simp; omega) ?_
         intro v' w' hown hbel _
         rw [HNEW.out] at hown
         have HO' : Hid (BOwn w' g v' (3 :: (beN 8 m).take (j + 1))) := hown
         have HBX : Hid (Below w.heap.size w w') := hbel w w.heap.size (Nat.le_of_lt HGW.out) (HBW.out.alloc HBW.out.size _)
         have HSX : Hid (g ≤ w'.heap.size) := Nat.le_trans HSZ.out (hbel wr 0 (Nat.zero_le _) ((Below.refl 0 wr).alloc (Nat.zero_le _) _)).size
         clear hown hbel)
      go_roundw
      case rel => exact ⟨j + 1, by omega, by have := HIV.out; simp only [Value.int.injEq, true_and]; push_cast; omega, HO'.out, HBX.out, HSX.out⟩
      case measure => simp [RowKit.intOf]; omega
    · obtain rfl : 8 = j := by omega
      obtain rfl : -8 = iv := by omega
      have HT : Hid (BOwn wr g u3 (3 :: beN 8 m)) := by
        have h1 := HO.out
        rw [List.take_of_length_le (by rw [beN_length]; exact Nat.le_refl _)] at h1
        exact h1
      go_wp2
      go_ret
      exact ⟨_, rfl, own_weaken HT.out (Nat.le_of_lt HGW.out), HBW.out⟩
theorem l18V_text (s : ByteArray) (hs : s.size ≤ 20) (w : World) :
    Calls Tryd.prog 31 #[VaV 3 0 s] w fun e w' => VbSays w (4 :: (escB s.data.toList ++ [0, 1])) e w' := by
  obtain ⟨W, hW⟩ : ∃ W, w.alloc (.cells #[.int .i64 3, .int .i64 0, .string s] 38) = W := ⟨_, rfl⟩
  have HB0 : Hid (Below w.heap.size w W) := by rw [← hW]; exact (Below.refl _ w).alloc (Nat.le_refl _) _
  have X0 : Hid (Box W w.heap.size #[.int .i64 3, .int .i64 0, .string s] 38) := by rw [← hW]; exact box_of w _ _
  have HW : Hid (w.alloc (.cells #[.int .i64 3, .int .i64 0, .string s] 38) = W) := hW
  obtain ⟨g, hg⟩ : ∃ g, W.heap.size = g := ⟨_, rfl⟩
  have HG : Hid (W.heap.size = g) := hg
  have HGW : Hid (w.heap.size < g) := by rw [← hg]; exact X0.out.lt
  obtain ⟨W2, hW2⟩ : ∃ W2, W.alloc (.cells #[.int .u8 4] 5) = W2 := ⟨_, rfl⟩
  have HO0 : Hid (BOwn W2 g (.slice (some ⟨g, 0, none⟩) 1 1) [4]) := by rw [← hW2]; exact bown_new W (l := [4]) hg rfl (Nat.le_refl _) (by decide)
  have hb2 : Below W.heap.size W W2 := by rw [← hW2]; exact (Below.refl _ _).alloc (Nat.le_refl _) _
  have X2 : Hid (Box W2 w.heap.size #[.int .i64 3, .int .i64 0, .string s] 38) := X0.out.below hb2 X0.out.lt
  have HB2 : Hid (Below w.heap.size w W2) := HB0.out.trans (hb2.mono HB0.out.size)
  have HW2 : Hid (W.alloc (.cells #[.int .u8 4] 5) = W2) := hW2
  have HS2 : Hid (g < W2.heap.size) := by show g < W2.heap.size; rw [← hW2, World.size_alloc, hg]; exact Nat.lt_succ_self _
  obtain ⟨c0, c1, c2⟩ := X0.out.triV
  clear hW hg hW2 hb2
  go_enter Tryd.func31, Tryd.ntmps31
  go_upto_region 1 with (fail)
  rw [HW.out]
  go_upto_region 2 with (fail)
  rw [HW2.out, HG.out]
  clear c0 c1 c2
  obtain ⟨c0, c1, c2⟩ := X2.out.triV
  go_upto_region 13 with (fail)
  go_loopw [3, 6] (fun v i wr => ∃ j : Nat, j ≤ s.size ∧ i = .int .i64 (j : Int) ∧ BOwn wr g v (4 :: escB (s.data.toList.take j)) ∧ Box wr w.heap.size #[.int .i64 3, .int .i64 0, .string s] 38 ∧ Below w.heap.size w wr ∧ g ≤ wr.heap.size) (fun _ i _ => s.size - (RowKit.intOf i).toNat)
  case atStart => exact ⟨0, Nat.zero_le _, rfl, HO0.out, X2.out, HB2.out, Nat.le_of_lt HS2.out⟩
  case round =>
    obtain ⟨j, hj, rfl, ho, hx, hb, hz⟩ := hrel
    have HO : Hid (BOwn wr g u3 (4 :: escB (s.data.toList.take j))) := ho
    have XR : Hid (Box wr w.heap.size #[.int .i64 3, .int .i64 0, .string s] 38) := hx
    have HBW : Hid (Below w.heap.size w wr) := hb
    have HSZ : Hid (g ≤ wr.heap.size) := hz
    have HLEN : Hid ((4 :: escB (s.data.toList.take j)).length ≤ 41) := by
      show (4 :: escB (s.data.toList.take j)).length ≤ 41
      have h1 := escB_le (s.data.toList.take j)
      rw [List.length_take] at h1
      rw [List.length_cons]
      omega
    clear ho hx hb hz c0 c1 c2
    obtain ⟨c0, c1, c2⟩ := XR.out.triV
    by_cases hlt : j < s.size
    · have hk0 : (0 : Int) ≤ (j : Int) := by omega
      have hk1 : (j : Int) < (s.size : Int) := by omega
      have hbd : j < s.data.size := hlt
      have hb? : s.data.toList[j]? = some (s[j]'hlt) := by
        rw [Array.getElem?_toList]
        exact Array.getElem?_eq_getElem hlt
      obtain ⟨b, hbq⟩ : ∃ b, s[j]'hlt = b := ⟨_, rfl⟩
      have HX := escB_succ hb?
      rw [hbq] at HX
      go_upto_region 16 with
        (at_builtin
         refine list_appB _ rfl _ _ rfl g u3 _ rfl (HO.out.alloc _) ⟨wr.heap.size, 0, none⟩ 1 [b] rfl (bnews _ _ rfl _ rfl) (by have := HLEN.out; simp only [List.length_singleton]; omega) (by have := HSZ.out; simp; omega) ?_
         intro v1 w1 hown hbel _
         have HO1 : Hid (BOwn w1 g v1 ((4 :: escB (s.data.toList.take j)) ++ [b])) := hown
         have HB1 : Hid (Below w.heap.size w w1) := hbel w w.heap.size (Nat.le_of_lt HGW.out) (HBW.out.alloc HBW.out.size _)
         have X1 : Hid (Box w1 w.heap.size #[.int .i64 3, .int .i64 0, .string s] 38) := XR.out.below (hbel wr g (Nat.le_refl _) ((Below.refl g wr).alloc HSZ.out _)) HGW.out
         have HZ1 : Hid (g ≤ w1.heap.size) := Nat.le_trans HSZ.out (hbel wr 0 (Nat.zero_le _) ((Below.refl 0 wr).alloc (Nat.zero_le _) _)).size
         clear hown hbel)
      clear c0 c1 c2
      obtain ⟨c0, c1, c2⟩ := X1.out.triV
      by_cases hb0 : b = 0
      · have hbe : ((b.toNat : Int) == 0) = true := by rw [hb0]; rfl
        rw [if_pos hb0] at HX
        have HNEW : Hid (((4 :: escB (s.data.toList.take j)) ++ [b]) ++ [255] = 4 :: escB (s.data.toList.take (j + 1))) := by show _ = _; rw [HX, hb0]; simp
        have HLE1 : Hid (((4 :: escB (s.data.toList.take j)) ++ [b]).length ≤ 42) := by show _ ≤ _; rw [List.length_append]; exact Nat.add_le_add_right HLEN.out 1
        clear HX hb0
        go_wp2_with
          (at_builtin
           refine list_appB _ rfl _ _ rfl g v1 _ rfl (HO1.out.alloc _) ⟨w1.heap.size, 0, none⟩ 1 [255] rfl (bnews _ _ rfl _ rfl) (by have := HLE1.out; simp only [List.length_singleton]; omega) (by have := HZ1.out; simp; omega) ?_
           intro v2 w2 hown hbel _
           rw [HNEW.out] at hown
           have HO2 : Hid (BOwn w2 g v2 (4 :: escB (s.data.toList.take (j + 1)))) := hown
           have HB2' : Hid (Below w.heap.size w w2) := hbel w w.heap.size (Nat.le_of_lt HGW.out) (HB1.out.alloc HB1.out.size _)
           have X2' : Hid (Box w2 w.heap.size #[.int .i64 3, .int .i64 0, .string s] 38) := X1.out.below (hbel w1 g (Nat.le_refl _) ((Below.refl g w1).alloc HZ1.out _)) HGW.out
           have HZ2 : Hid (g ≤ w2.heap.size) := Nat.le_trans HZ1.out (hbel w1 0 (Nat.zero_le _) ((Below.refl 0 w1).alloc (Nat.zero_le _) _)).size
           clear hown hbel)
        go_roundw
        case rel => exact ⟨j + 1, by omega, by go_num, HO2.out, X2'.out, HB2'.out, HZ2.out⟩
        case measure => simp [RowKit.intOf]; omega
      · have hbe : ((b.toNat : Int) == 0) = false := by
          rw [beq_eq_false_iff_ne]
          have := u8_pos hb0
          omega
        rw [if_neg hb0] at HX
        have HNEW : Hid ((4 :: escB (s.data.toList.take j)) ++ [b] = 4 :: escB (s.data.toList.take (j + 1))) := by show _ = _; rw [HX]; rfl
        rw [HNEW.out] at HO1
        clear HX hb0
        go_wp2
        go_roundw
        case rel => exact ⟨j + 1, by omega, by go_num, HO1.out, X1.out, HB1.out, HZ1.out⟩
        case measure => simp [RowKit.intOf]; omega
    · obtain rfl : s.size = j := by omega
      have HT : Hid (BOwn wr g u3 (4 :: escB s.data.toList)) := by
        have h1 := HO.out
        rw [List.take_of_length_le (by simp)] at h1
        exact h1
      have HLT := HLEN
      rw [List.take_of_length_le (by simp)] at HLT
      go_wp2_with
        (at_builtin
         refine list_appB _ rfl _ _ rfl g u3 _ rfl (HT.out.alloc _) ⟨wr.heap.size, 0, none⟩ 2 [0, 1] rfl (bnews _ _ rfl _ rfl) (by have := HLT.out; show _ + 2 ≤ _; omega) (by have := HSZ.out; simp; omega) ?_
         intro v' w' hown hbel _
         have HO' : Hid (BOwn w' g v' (4 :: (escB s.data.toList ++ [0, 1]))) := hown
         have HBX : Hid (Below w.heap.size w w') := hbel w w.heap.size (Nat.le_of_lt HGW.out) (HBW.out.alloc HBW.out.size _)
         clear hown hbel)
      go_ret
      exact ⟨_, rfl, own_weaken HO'.out (Nat.le_of_lt HGW.out), HBX.out⟩
theorem l18Value_any (x : Va3) (hg : VaGood x.1 x.2.1 x.2.2) (w : World) :
    Calls Tryd.prog 31 #[VaV x.1 x.2.1 x.2.2] w fun e w' => VbSays w (vaB x) e w' := by
  obtain ⟨k, n, s⟩ := x
  dsimp only at hg ⊢
  rcases hg with ⟨rfl, rfl, h2⟩ | ⟨rfl, h1, h2⟩ | ⟨rfl, h1, h2⟩ | ⟨rfl, rfl, h2⟩
  · rw [str_nil h2]
    exact l18V_null w
  · rw [str_nil h2]
    rcases (show n = 0 ∨ n = 1 by omega) with rfl | rfl
    · exact l18V_no w
    · exact l18V_yes w
  · rw [str_nil h2]
    exact l18V_int n h1 (n + 4611686018427387904).toNat (by omega) w
  · exact l18V_text s h2 w
def inB (x lo hi : Int) : Bool := decide (lo ≤ x ∧ x ≤ hi)
theorem inB_yes {x lo hi : Int} (h : lo ≤ x ∧ x ≤ hi) : inB x lo hi = true := decide_eq_true h
theorem inB_no {x lo hi : Int} (h : ¬ (lo ≤ x ∧ x ≤ hi)) : inB x lo hi = false := decide_eq_false h
theorem l1In_g (x lo hi : Int) (w : World) : Calls Tryd.prog 45 #[.int .i64 x, .int .i64 lo, .int .i64 hi] w fun e w' => e = .returned (.bool (inB x lo hi)) ∧ w' = w := by
  by_cases h0 : lo ≤ x
  · by_cases h1 : x ≤ hi
    · rw [inB_yes ⟨h0, h1⟩]
      go_enter Tryd.func45, Tryd.ntmps45
      go_wp2
      go_ret
      exact ⟨rfl, rfl⟩
    · rw [inB_no (fun h => h1 h.2)]
      go_enter Tryd.func45, Tryd.ntmps45
      go_wp2
      go_ret
      exact ⟨rfl, rfl⟩
  · rw [inB_no (fun h => h0 h.1)]
    go_enter Tryd.func45, Tryd.ntmps45
    go_wp2
    go_ret
    exact ⟨rfl, rfl⟩
end
end Go.Proofs.YtgibeakclknhnabDoor
