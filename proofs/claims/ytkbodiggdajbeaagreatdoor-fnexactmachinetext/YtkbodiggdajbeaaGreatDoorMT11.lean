/- Texts joined: DatG, DatS. -/
import Derived.Test.YtkbodiggdajbeaaGreatDoorMT10
import Derived.Deep.RegionHeld3
import Derived.Deep.Cut
import Derived.Handy
import Derived.Test.YtkbodiggdajbeaaGreatDoorMT05
/- The laws' own functions on data. -/
namespace Go.Proofs.YtkbodiggdajbeaaGreatDoor
open Go.ChangeShapes Go.WideShapes Go.ChangeAt Go.RowKit Go.Joins

set_option maxHeartbeats 2000000 in
theorem dEqMem (vs us : List Value) (cs : List Cel) (w : World) (h : AtL false w vs cs) (h' : AtL false w us cs) (hs : HasL cs tyMem) : Calls Tryz.prog 28 #[.agg vs.toArray, .agg us.toArray] w (Yes w) := by
  obtain ⟨c0, r0, rfl, T0, hH0⟩ := hs.cons
  obtain ⟨c1, r1, rfl, T1, hH1⟩ := hH0.cons
  obtain rfl := hH1.nil
  obtain ⟨v0, vr0, rfl, A0, hA0⟩ := h.consE
  obtain ⟨v1, vr1, rfl, A1, hA1⟩ := hA0.consE
  obtain rfl := hA1.nilE
  obtain ⟨u0, ur0, rfl, B0, hB0⟩ := h'.consE
  obtain ⟨u1, ur1, rfl, B1, hB1⟩ := hB0.consE
  obtain rfl := hB1.nilE
  obtain ⟨n0, cs0, rfl, -⟩ := T0.list
  have HT0 : Hid (Has (.l 134 3 n0 cs0) (.l 134 3 tyWord)) := T0
  obtain ⟨p0, d0, rfl⟩ := A0.slice
  obtain ⟨q0, e0, rfl⟩ := B0.slice
  have hA0' : Hid (At false w (.slice p0 n0 d0) (.l 134 3 n0 cs0)) := A0
  have hB0' : Hid (At false w (.slice q0 n0 e0) (.l 134 3 n0 cs0)) := B0
  obtain ⟨n1, cs1, rfl, -⟩ := T1.list
  have HT1 : Hid (Has (.l 137 5 n1 cs1) (.l 137 5 tyDesc)) := T1
  obtain ⟨p1, d1, rfl⟩ := A1.slice
  obtain ⟨q1, e1, rfl⟩ := B1.slice
  have hA1' : Hid (At false w (.slice p1 n1 d1) (.l 137 5 n1 cs1)) := A1
  have hB1' : Hid (At false w (.slice q1 n1 e1) (.l 137 5 n1 cs1)) := B1
  clear hs h h' hA0 hB0 hH0 T0 A0 B0 hA1 hB1 hH1 T1 A1 B1
  obtain ⟨W, hW⟩ : ∃ W, (w.alloc (.cells #[.slice p0 n0 d0, .slice p1 n1 d1] 38)).alloc (.cells #[.slice q0 n0 e0, .slice q1 n1 e1] 38) = W := ⟨_, rfl⟩
  have t0 : Hid (Two w W #[.slice p0 n0 d0, .slice p1 n1 d1] #[.slice q0 n0 e0, .slice q1 n1 e1] 38) := by rw [← hW]; exact two_new w _ _ _
  have HW : Hid _ := hW
  clear hW
  go_enter Tryz.func28, Tryz.ntmps28
  go_upto_region 1 with (fail)
  rw [HW.out]
  have ax0 : W.cell? ⟨w.heap.size, 0, none⟩ = some (.slice p0 n0 d0) := t0.out.a.cell 0
  have bx0 : W.cell? ⟨w.heap.size + 1, 0, none⟩ = some (.slice q0 n0 e0) := t0.out.b.cell 0
  have ax1 : W.cell? ⟨w.heap.size, 1, none⟩ = some (.slice p1 n1 d1) := t0.out.a.cell 1
  have bx1 : W.cell? ⟨w.heap.size + 1, 1, none⟩ = some (.slice q1 n1 e1) := t0.out.b.cell 1
  go_wp2_with fail
  refine (dEqWordS _ _ n0 cs0 _ (hA0'.out.on t0.out.on (Nat.le_refl _)) (hB0'.out.on t0.out.on (Nat.le_refl _)) HT0.out).mono ?_
  rintro e w1 ⟨rfl, hb⟩
  have t1 : Hid (Two w w1 #[.slice p0 n0 d0, .slice p1 n1 d1] #[.slice q0 n0 e0, .slice q1 n1 e1] 38) := t0.out.call hb
  clear hb ax0 bx0 ax1 bx1
  have ax0 : w1.cell? ⟨w.heap.size, 0, none⟩ = some (.slice p0 n0 d0) := t1.out.a.cell 0
  have bx0 : w1.cell? ⟨w.heap.size + 1, 0, none⟩ = some (.slice q0 n0 e0) := t1.out.b.cell 0
  have ax1 : w1.cell? ⟨w.heap.size, 1, none⟩ = some (.slice p1 n1 d1) := t1.out.a.cell 1
  have bx1 : w1.cell? ⟨w.heap.size + 1, 1, none⟩ = some (.slice q1 n1 e1) := t1.out.b.cell 1
  go_wp2_with fail
  refine (dEqDescS _ _ n1 cs1 _ (hA1'.out.on t1.out.on (Nat.le_refl _)) (hB1'.out.on t1.out.on (Nat.le_refl _)) HT1.out).mono ?_
  rintro e w2 ⟨rfl, hb⟩
  have t2 : Hid (Two w w2 #[.slice p0 n0 d0, .slice p1 n1 d1] #[.slice q0 n0 e0, .slice q1 n1 e1] 38) := t1.out.call hb
  clear hb ax0 bx0 ax1 bx1
  have ax0 : w2.cell? ⟨w.heap.size, 0, none⟩ = some (.slice p0 n0 d0) := t2.out.a.cell 0
  have bx0 : w2.cell? ⟨w.heap.size + 1, 0, none⟩ = some (.slice q0 n0 e0) := t2.out.b.cell 0
  have ax1 : w2.cell? ⟨w.heap.size, 1, none⟩ = some (.slice p1 n1 d1) := t2.out.a.cell 1
  have bx1 : w2.cell? ⟨w.heap.size + 1, 1, none⟩ = some (.slice q1 n1 e1) := t2.out.b.cell 1
  go_wp2
  go_ret
  exact ⟨rfl, t2.out.on⟩
set_option maxHeartbeats 2000000 in
theorem dEqCall (vs us : List Value) (cs : List Cel) (w : World) (h : AtL false w vs cs) (h' : AtL false w us cs) (hs : HasL cs tyCall) : Calls Tryz.prog 59 #[.agg vs.toArray, .agg us.toArray] w (Yes w) := by
  obtain ⟨c0, r0, rfl, T0, hH0⟩ := hs.cons
  obtain ⟨c1, r1, rfl, T1, hH1⟩ := hH0.cons
  obtain ⟨c2, r2, rfl, T2, hH2⟩ := hH1.cons
  obtain ⟨c3, r3, rfl, T3, hH3⟩ := hH2.cons
  obtain ⟨c4, r4, rfl, T4, hH4⟩ := hH3.cons
  obtain ⟨c5, r5, rfl, T5, hH5⟩ := hH4.cons
  obtain ⟨c6, r6, rfl, T6, hH6⟩ := hH5.cons
  obtain ⟨c7, r7, rfl, T7, hH7⟩ := hH6.cons
  obtain ⟨c8, r8, rfl, T8, hH8⟩ := hH7.cons
  obtain rfl := hH8.nil
  obtain ⟨v0, vr0, rfl, A0, hA0⟩ := h.consE
  obtain ⟨v1, vr1, rfl, A1, hA1⟩ := hA0.consE
  obtain ⟨v2, vr2, rfl, A2, hA2⟩ := hA1.consE
  obtain ⟨v3, vr3, rfl, A3, hA3⟩ := hA2.consE
  obtain ⟨v4, vr4, rfl, A4, hA4⟩ := hA3.consE
  obtain ⟨v5, vr5, rfl, A5, hA5⟩ := hA4.consE
  obtain ⟨v6, vr6, rfl, A6, hA6⟩ := hA5.consE
  obtain ⟨v7, vr7, rfl, A7, hA7⟩ := hA6.consE
  obtain ⟨v8, vr8, rfl, A8, hA8⟩ := hA7.consE
  obtain rfl := hA8.nilE
  obtain ⟨u0, ur0, rfl, B0, hB0⟩ := h'.consE
  obtain ⟨u1, ur1, rfl, B1, hB1⟩ := hB0.consE
  obtain ⟨u2, ur2, rfl, B2, hB2⟩ := hB1.consE
  obtain ⟨u3, ur3, rfl, B3, hB3⟩ := hB2.consE
  obtain ⟨u4, ur4, rfl, B4, hB4⟩ := hB3.consE
  obtain ⟨u5, ur5, rfl, B5, hB5⟩ := hB4.consE
  obtain ⟨u6, ur6, rfl, B6, hB6⟩ := hB5.consE
  obtain ⟨u7, ur7, rfl, B7, hB7⟩ := hB6.consE
  obtain ⟨u8, ur8, rfl, B8, hB8⟩ := hB7.consE
  obtain rfl := hB8.nilE
  obtain ⟨x0, rfl⟩ := T0.int
  obtain rfl := A0.int
  obtain rfl := B0.int
  have ne0 : (x0 != x0) = false := by simp
  obtain ⟨x1, rfl⟩ := T1.int
  obtain rfl := A1.int
  obtain rfl := B1.int
  have ne1 : (x1 != x1) = false := by simp
  obtain ⟨x2, rfl⟩ := T2.int
  obtain rfl := A2.int
  obtain rfl := B2.int
  have ne2 : (x2 != x2) = false := by simp
  obtain ⟨x3, rfl⟩ := T3.int
  obtain rfl := A3.int
  obtain rfl := B3.int
  have ne3 : (x3 != x3) = false := by simp
  obtain ⟨x4, rfl⟩ := T4.int
  obtain rfl := A4.int
  obtain rfl := B4.int
  have ne4 : (x4 != x4) = false := by simp
  obtain ⟨x5, rfl⟩ := T5.int
  obtain rfl := A5.int
  obtain rfl := B5.int
  have ne5 : (x5 != x5) = false := by simp
  obtain ⟨x6, rfl⟩ := T6.int
  obtain rfl := A6.int
  obtain rfl := B6.int
  have ne6 : (x6 != x6) = false := by simp
  obtain ⟨x7, rfl⟩ := T7.int
  obtain rfl := A7.int
  obtain rfl := B7.int
  have ne7 : (x7 != x7) = false := by simp
  obtain ⟨n8, cs8, rfl, -⟩ := T8.list
  have HT8 : Hid (Has (.l 3 1 n8 cs8) (.l 3 1 [.i])) := T8
  obtain ⟨p8, d8, rfl⟩ := A8.slice
  obtain ⟨q8, e8, rfl⟩ := B8.slice
  have hA8' : Hid (At false w (.slice p8 n8 d8) (.l 3 1 n8 cs8)) := A8
  have hB8' : Hid (At false w (.slice q8 n8 e8) (.l 3 1 n8 cs8)) := B8
  have HN1 : Hid (AtL false w [.int .i64 x1, .int .i64 x2, .int .i64 x3] [.i x1, .i x2, .i x3]) := AtL.cons (.i x1) (AtL.cons (.i x2) (AtL.cons (.i x3) (AtL.nil)))
  have HH1 : Hid (HasL [.i x1, .i x2, .i x3] tyOp) := ⟨rfl, fun j c t hc ht => by
    have hj : j < 3 := by have := (List.getElem?_eq_some_iff.1 hc).1; simpa using this
    rcases (show j = 0 ∨ j = 1 ∨ j = 2 by omega) with rfl | rfl | rfl <;> (simp [tyOp] at hc ht; subst hc ht)
    · exact .i x1
    · exact .i x2
    · exact .i x3⟩
  have HN7 : Hid (AtL false w [.int .i64 x7, .slice p8 n8 d8] [.i x7, .l 3 1 n8 cs8]) := AtL.cons (.i x7) (AtL.cons (hA8'.out) (AtL.nil))
  have HH7 : Hid (HasL [.i x7, .l 3 1 n8 cs8] tyRes) := ⟨rfl, fun j c t hc ht => by
    have hj : j < 2 := by have := (List.getElem?_eq_some_iff.1 hc).1; simpa using this
    rcases (show j = 0 ∨ j = 1 by omega) with rfl | rfl <;> (simp [tyRes] at hc ht; subst hc ht)
    · exact .i x7
    · exact HT8.out⟩
  have HM1 : Hid (AtL false w [.int .i64 x1, .int .i64 x2, .int .i64 x3] [.i x1, .i x2, .i x3]) := AtL.cons (.i x1) (AtL.cons (.i x2) (AtL.cons (.i x3) (AtL.nil)))
  have HM7 : Hid (AtL false w [.int .i64 x7, .slice q8 n8 e8] [.i x7, .l 3 1 n8 cs8]) := AtL.cons (.i x7) (AtL.cons (hB8'.out) (AtL.nil))
  clear hs h h' hA0 hB0 hH0 T0 A0 B0 hA1 hB1 hH1 T1 A1 B1 hA2 hB2 hH2 T2 A2 B2 hA3 hB3 hH3 T3 A3 B3 hA4 hB4 hH4 T4 A4 B4 hA5 hB5 hH5 T5 A5 B5 hA6 hB6 hH6 T6 A6 B6 hA7 hB7 hH7 T7 A7 B7 hA8 hB8 hH8 T8 A8 B8
  obtain ⟨W, hW⟩ : ∃ W, (w.alloc (.cells #[.int .i64 x0, .int .i64 x1, .int .i64 x2, .int .i64 x3, .int .i64 x4, .int .i64 x5, .int .i64 x6, .int .i64 x7, .slice p8 n8 d8] 61)).alloc (.cells #[.int .i64 x0, .int .i64 x1, .int .i64 x2, .int .i64 x3, .int .i64 x4, .int .i64 x5, .int .i64 x6, .int .i64 x7, .slice q8 n8 e8] 61) = W := ⟨_, rfl⟩
  have t0 : Hid (Two w W #[.int .i64 x0, .int .i64 x1, .int .i64 x2, .int .i64 x3, .int .i64 x4, .int .i64 x5, .int .i64 x6, .int .i64 x7, .slice p8 n8 d8] #[.int .i64 x0, .int .i64 x1, .int .i64 x2, .int .i64 x3, .int .i64 x4, .int .i64 x5, .int .i64 x6, .int .i64 x7, .slice q8 n8 e8] 61) := by rw [← hW]; exact two_new w _ _ _
  have HW : Hid _ := hW
  clear hW
  go_enter Tryz.func59, Tryz.ntmps59
  go_upto_region 1 with (fail)
  rw [HW.out]
  have ax0 : W.cell? ⟨w.heap.size, 0, none⟩ = some (.int .i64 x0) := t0.out.a.cell 0
  have bx0 : W.cell? ⟨w.heap.size + 1, 0, none⟩ = some (.int .i64 x0) := t0.out.b.cell 0
  have ax1 : W.cell? ⟨w.heap.size, 1, none⟩ = some (.int .i64 x1) := t0.out.a.cell 1
  have bx1 : W.cell? ⟨w.heap.size + 1, 1, none⟩ = some (.int .i64 x1) := t0.out.b.cell 1
  have ax2 : W.cell? ⟨w.heap.size, 2, none⟩ = some (.int .i64 x2) := t0.out.a.cell 2
  have bx2 : W.cell? ⟨w.heap.size + 1, 2, none⟩ = some (.int .i64 x2) := t0.out.b.cell 2
  have ax3 : W.cell? ⟨w.heap.size, 3, none⟩ = some (.int .i64 x3) := t0.out.a.cell 3
  have bx3 : W.cell? ⟨w.heap.size + 1, 3, none⟩ = some (.int .i64 x3) := t0.out.b.cell 3
  have ax4 : W.cell? ⟨w.heap.size, 4, none⟩ = some (.int .i64 x4) := t0.out.a.cell 4
  have bx4 : W.cell? ⟨w.heap.size + 1, 4, none⟩ = some (.int .i64 x4) := t0.out.b.cell 4
  have ax5 : W.cell? ⟨w.heap.size, 5, none⟩ = some (.int .i64 x5) := t0.out.a.cell 5
  have bx5 : W.cell? ⟨w.heap.size + 1, 5, none⟩ = some (.int .i64 x5) := t0.out.b.cell 5
  have ax6 : W.cell? ⟨w.heap.size, 6, none⟩ = some (.int .i64 x6) := t0.out.a.cell 6
  have bx6 : W.cell? ⟨w.heap.size + 1, 6, none⟩ = some (.int .i64 x6) := t0.out.b.cell 6
  have ax7 : W.cell? ⟨w.heap.size, 7, none⟩ = some (.int .i64 x7) := t0.out.a.cell 7
  have bx7 : W.cell? ⟨w.heap.size + 1, 7, none⟩ = some (.int .i64 x7) := t0.out.b.cell 7
  have ax8 : W.cell? ⟨w.heap.size, 8, none⟩ = some (.slice p8 n8 d8) := t0.out.a.cell 8
  have bx8 : W.cell? ⟨w.heap.size + 1, 8, none⟩ = some (.slice q8 n8 e8) := t0.out.b.cell 8
  go_wp2_with fail
  refine (dEqOp [.int .i64 x1, .int .i64 x2, .int .i64 x3] [.int .i64 x1, .int .i64 x2, .int .i64 x3] [.i x1, .i x2, .i x3] _ (HN1.out.on t0.out.on (Nat.le_refl _)) (HM1.out.on t0.out.on (Nat.le_refl _)) HH1.out).mono ?_
  rintro e w1 ⟨rfl, hb⟩
  have t1 : Hid (Two w w1 #[.int .i64 x0, .int .i64 x1, .int .i64 x2, .int .i64 x3, .int .i64 x4, .int .i64 x5, .int .i64 x6, .int .i64 x7, .slice p8 n8 d8] #[.int .i64 x0, .int .i64 x1, .int .i64 x2, .int .i64 x3, .int .i64 x4, .int .i64 x5, .int .i64 x6, .int .i64 x7, .slice q8 n8 e8] 61) := t0.out.call hb
  clear hb ax0 bx0 ax1 bx1 ax2 bx2 ax3 bx3 ax4 bx4 ax5 bx5 ax6 bx6 ax7 bx7 ax8 bx8
  have ax0 : w1.cell? ⟨w.heap.size, 0, none⟩ = some (.int .i64 x0) := t1.out.a.cell 0
  have bx0 : w1.cell? ⟨w.heap.size + 1, 0, none⟩ = some (.int .i64 x0) := t1.out.b.cell 0
  have ax1 : w1.cell? ⟨w.heap.size, 1, none⟩ = some (.int .i64 x1) := t1.out.a.cell 1
  have bx1 : w1.cell? ⟨w.heap.size + 1, 1, none⟩ = some (.int .i64 x1) := t1.out.b.cell 1
  have ax2 : w1.cell? ⟨w.heap.size, 2, none⟩ = some (.int .i64 x2) := t1.out.a.cell 2
  have bx2 : w1.cell? ⟨w.heap.size + 1, 2, none⟩ = some (.int .i64 x2) := t1.out.b.cell 2
  have ax3 : w1.cell? ⟨w.heap.size, 3, none⟩ = some (.int .i64 x3) := t1.out.a.cell 3
  have bx3 : w1.cell? ⟨w.heap.size + 1, 3, none⟩ = some (.int .i64 x3) := t1.out.b.cell 3
  have ax4 : w1.cell? ⟨w.heap.size, 4, none⟩ = some (.int .i64 x4) := t1.out.a.cell 4
  have bx4 : w1.cell? ⟨w.heap.size + 1, 4, none⟩ = some (.int .i64 x4) := t1.out.b.cell 4
  have ax5 : w1.cell? ⟨w.heap.size, 5, none⟩ = some (.int .i64 x5) := t1.out.a.cell 5
  have bx5 : w1.cell? ⟨w.heap.size + 1, 5, none⟩ = some (.int .i64 x5) := t1.out.b.cell 5
  have ax6 : w1.cell? ⟨w.heap.size, 6, none⟩ = some (.int .i64 x6) := t1.out.a.cell 6
  have bx6 : w1.cell? ⟨w.heap.size + 1, 6, none⟩ = some (.int .i64 x6) := t1.out.b.cell 6
  have ax7 : w1.cell? ⟨w.heap.size, 7, none⟩ = some (.int .i64 x7) := t1.out.a.cell 7
  have bx7 : w1.cell? ⟨w.heap.size + 1, 7, none⟩ = some (.int .i64 x7) := t1.out.b.cell 7
  have ax8 : w1.cell? ⟨w.heap.size, 8, none⟩ = some (.slice p8 n8 d8) := t1.out.a.cell 8
  have bx8 : w1.cell? ⟨w.heap.size + 1, 8, none⟩ = some (.slice q8 n8 e8) := t1.out.b.cell 8
  go_wp2_with fail
  refine (dEqRes [.int .i64 x7, .slice p8 n8 d8] [.int .i64 x7, .slice q8 n8 e8] [.i x7, .l 3 1 n8 cs8] _ (HN7.out.on t1.out.on (Nat.le_refl _)) (HM7.out.on t1.out.on (Nat.le_refl _)) HH7.out).mono ?_
  rintro e w2 ⟨rfl, hb⟩
  have t2 : Hid (Two w w2 #[.int .i64 x0, .int .i64 x1, .int .i64 x2, .int .i64 x3, .int .i64 x4, .int .i64 x5, .int .i64 x6, .int .i64 x7, .slice p8 n8 d8] #[.int .i64 x0, .int .i64 x1, .int .i64 x2, .int .i64 x3, .int .i64 x4, .int .i64 x5, .int .i64 x6, .int .i64 x7, .slice q8 n8 e8] 61) := t1.out.call hb
  clear hb ax0 bx0 ax1 bx1 ax2 bx2 ax3 bx3 ax4 bx4 ax5 bx5 ax6 bx6 ax7 bx7 ax8 bx8
  have ax0 : w2.cell? ⟨w.heap.size, 0, none⟩ = some (.int .i64 x0) := t2.out.a.cell 0
  have bx0 : w2.cell? ⟨w.heap.size + 1, 0, none⟩ = some (.int .i64 x0) := t2.out.b.cell 0
  have ax1 : w2.cell? ⟨w.heap.size, 1, none⟩ = some (.int .i64 x1) := t2.out.a.cell 1
  have bx1 : w2.cell? ⟨w.heap.size + 1, 1, none⟩ = some (.int .i64 x1) := t2.out.b.cell 1
  have ax2 : w2.cell? ⟨w.heap.size, 2, none⟩ = some (.int .i64 x2) := t2.out.a.cell 2
  have bx2 : w2.cell? ⟨w.heap.size + 1, 2, none⟩ = some (.int .i64 x2) := t2.out.b.cell 2
  have ax3 : w2.cell? ⟨w.heap.size, 3, none⟩ = some (.int .i64 x3) := t2.out.a.cell 3
  have bx3 : w2.cell? ⟨w.heap.size + 1, 3, none⟩ = some (.int .i64 x3) := t2.out.b.cell 3
  have ax4 : w2.cell? ⟨w.heap.size, 4, none⟩ = some (.int .i64 x4) := t2.out.a.cell 4
  have bx4 : w2.cell? ⟨w.heap.size + 1, 4, none⟩ = some (.int .i64 x4) := t2.out.b.cell 4
  have ax5 : w2.cell? ⟨w.heap.size, 5, none⟩ = some (.int .i64 x5) := t2.out.a.cell 5
  have bx5 : w2.cell? ⟨w.heap.size + 1, 5, none⟩ = some (.int .i64 x5) := t2.out.b.cell 5
  have ax6 : w2.cell? ⟨w.heap.size, 6, none⟩ = some (.int .i64 x6) := t2.out.a.cell 6
  have bx6 : w2.cell? ⟨w.heap.size + 1, 6, none⟩ = some (.int .i64 x6) := t2.out.b.cell 6
  have ax7 : w2.cell? ⟨w.heap.size, 7, none⟩ = some (.int .i64 x7) := t2.out.a.cell 7
  have bx7 : w2.cell? ⟨w.heap.size + 1, 7, none⟩ = some (.int .i64 x7) := t2.out.b.cell 7
  have ax8 : w2.cell? ⟨w.heap.size, 8, none⟩ = some (.slice p8 n8 d8) := t2.out.a.cell 8
  have bx8 : w2.cell? ⟨w.heap.size + 1, 8, none⟩ = some (.slice q8 n8 e8) := t2.out.b.cell 8
  go_wp2
  go_ret
  exact ⟨rfl, t2.out.on⟩
set_option maxHeartbeats 2000000 in
theorem dEqCallS (v u : Value) (n : Nat) (cs : List Cel) (w : World) (h : At false w v (.l 61 9 n cs)) (h' : At false w u (.l 61 9 n cs)) (hs : Has (.l 61 9 n cs) (.l 61 9 tyCall)) :
    Calls Tryz.prog 30 #[v, u] w (Yes w) := by
  obtain ⟨a, c, vs, rfl, h1, h2, hn, -, h3, h4⟩ := h.openL
  have SRC : Hid (n = 0 ∨ ∃ b o, a = some ⟨b, o, none⟩ ∧ ∀ j, j < n * 9 → w.cell? ⟨b, o + j, none⟩ = vs[j]?) := h3
  have HV : Hid (∀ j, j < n → AtL false w ((vs.drop (j * 9)).take 9) (row cs 9 j)) := fun j hj => rowVals h1 h2 h4 hj
  have Lvs : Hid (vs.length = n * 9) := h1
  clear h1 h2 h3 h4 hn
  obtain ⟨a', c', us, rfl, h1, h2, hn, -, h3, h4⟩ := h'.openL
  have SRD : Hid (n = 0 ∨ ∃ b o, a' = some ⟨b, o, none⟩ ∧ ∀ j, j < n * 9 → w.cell? ⟨b, o + j, none⟩ = us[j]?) := h3
  have HU : Hid (∀ j, j < n → AtL false w ((us.drop (j * 9)).take 9) (row cs 9 j)) := fun j hj => rowVals h1 h2 h4 hj
  have Lus : Hid (us.length = n * 9) := h1
  clear h1 h2 h3 h4 
  have HR : Hid (∀ j, j < n → HasL (row cs 9 j) tyCall) := fun j hj => hs.rowL hj
  clear h h' hs
  go_enter Tryz.func30, Tryz.ntmps30
  go_wp2
  go_loopw [5] (fun i wr => ∃ j : Nat, j ≤ n ∧ i = .int .i64 j ∧ Below w.heap.size w wr) (fun i _ => n - (intOf i).toNat)
  case atStart => exact ⟨0, Nat.zero_le _, rfl, Below.refl _ _⟩
  case round =>
    obtain ⟨j, hj, rfl, hb⟩ := hrel
    by_cases hlt : j < n
    · have hk0 : (0 : Int) ≤ (j : Int) := by omega
      have hk1 : (j : Int) < (n : Int) := by omega
      have hle : j * 9 + 9 ≤ n * 9 := by omega
      have hH := HR.out j hlt
      obtain ⟨rs, hrs⟩ : ∃ rs, row cs 9 j = rs := ⟨_, rfl⟩
      rw [hrs] at hH
      rcases SRC.out with h0 | ⟨p1, o1, rfl, g1⟩
      · omega
      have hA := HV.out j hlt
      have ce : ∀ i, i < 9 → wr.cell? ⟨p1, o1 + (j * 9 + i), none⟩ = ((vs.drop (j * 9)).take 9)[i]? := fun i hi => by
        have h5 := g1 (j * 9 + i) (by omega)
        rw [List.getElem?_take_of_lt hi, List.getElem?_drop, ← h5]
        have h6 : w.cell? ⟨p1, o1 + (j * 9 + i), none⟩ = some (vs[j * 9 + i]'(by have := Lvs.out; omega)) := by rw [h5, List.getElem?_eq_getElem (by have := Lvs.out; omega)]
        exact hb.cell (show p1 < w.heap.size from World.block_lt_of_cell? w _ h6)
      obtain ⟨ws, hws⟩ : ∃ ws, (vs.drop (j * 9)).take 9 = ws := ⟨_, rfl⟩
      rw [hrs] at hA
      rw [hws] at hA ce
      clear g1 hws
      rcases SRD.out with h0 | ⟨p2, o2, rfl, g2⟩
      · omega
      have hB := HU.out j hlt
      have cf : ∀ i, i < 9 → wr.cell? ⟨p2, o2 + (j * 9 + i), none⟩ = ((us.drop (j * 9)).take 9)[i]? := fun i hi => by
        have h5 := g2 (j * 9 + i) (by omega)
        rw [List.getElem?_take_of_lt hi, List.getElem?_drop, ← h5]
        have h6 : w.cell? ⟨p2, o2 + (j * 9 + i), none⟩ = some (us[j * 9 + i]'(by have := Lus.out; omega)) := by rw [h5, List.getElem?_eq_getElem (by have := Lus.out; omega)]
        exact hb.cell (show p2 < w.heap.size from World.block_lt_of_cell? w _ h6)
      obtain ⟨ws', hws⟩ : ∃ ws, (us.drop (j * 9)).take 9 = ws := ⟨_, rfl⟩
      rw [hrs] at hB
      rw [hws] at hB cf
      clear g2 hws
      obtain ⟨c0, r0, rfl, T0, hH0⟩ := hH.cons
      obtain ⟨c1, r1, rfl, T1, hH1⟩ := hH0.cons
      obtain ⟨c2, r2, rfl, T2, hH2⟩ := hH1.cons
      obtain ⟨c3, r3, rfl, T3, hH3⟩ := hH2.cons
      obtain ⟨c4, r4, rfl, T4, hH4⟩ := hH3.cons
      obtain ⟨c5, r5, rfl, T5, hH5⟩ := hH4.cons
      obtain ⟨c6, r6, rfl, T6, hH6⟩ := hH5.cons
      obtain ⟨c7, r7, rfl, T7, hH7⟩ := hH6.cons
      obtain ⟨c8, r8, rfl, T8, hH8⟩ := hH7.cons
      obtain rfl := hH8.nil
      have HL0 : Hid (HasL [c0, c1, c2, c3, c4, c5, c6, c7, c8] tyCall) := hH
      obtain ⟨v0, vr0, rfl, A0, hA0⟩ := hA.consE
      obtain ⟨v1, vr1, rfl, A1, hA1⟩ := hA0.consE
      obtain ⟨v2, vr2, rfl, A2, hA2⟩ := hA1.consE
      obtain ⟨v3, vr3, rfl, A3, hA3⟩ := hA2.consE
      obtain ⟨v4, vr4, rfl, A4, hA4⟩ := hA3.consE
      obtain ⟨v5, vr5, rfl, A5, hA5⟩ := hA4.consE
      obtain ⟨v6, vr6, rfl, A6, hA6⟩ := hA5.consE
      obtain ⟨v7, vr7, rfl, A7, hA7⟩ := hA6.consE
      obtain ⟨v8, vr8, rfl, A8, hA8⟩ := hA7.consE
      obtain rfl := hA8.nilE
      obtain ⟨u0, ur0, rfl, B0, hB0⟩ := hB.consE
      obtain ⟨u1, ur1, rfl, B1, hB1⟩ := hB0.consE
      obtain ⟨u2, ur2, rfl, B2, hB2⟩ := hB1.consE
      obtain ⟨u3, ur3, rfl, B3, hB3⟩ := hB2.consE
      obtain ⟨u4, ur4, rfl, B4, hB4⟩ := hB3.consE
      obtain ⟨u5, ur5, rfl, B5, hB5⟩ := hB4.consE
      obtain ⟨u6, ur6, rfl, B6, hB6⟩ := hB5.consE
      obtain ⟨u7, ur7, rfl, B7, hB7⟩ := hB6.consE
      obtain ⟨u8, ur8, rfl, B8, hB8⟩ := hB7.consE
      obtain rfl := hB8.nilE
      have HA0 : Hid (AtL false w [v0, v1, v2, v3, v4, v5, v6, v7, v8] [c0, c1, c2, c3, c4, c5, c6, c7, c8]) := hA
      have HB0 : Hid (AtL false w [u0, u1, u2, u3, u4, u5, u6, u7, u8] [c0, c1, c2, c3, c4, c5, c6, c7, c8]) := hB
      have e0 : wr.cell? ⟨p1, o1 + j * 9, none⟩ = some v0 := ce 0 (by omega)
      have f0 : wr.cell? ⟨p2, o2 + j * 9, none⟩ = some u0 := cf 0 (by omega)
      have e1 : wr.cell? ⟨p1, o1 + j * 9 + 1, none⟩ = some v1 := ce 1 (by omega)
      have f1 : wr.cell? ⟨p2, o2 + j * 9 + 1, none⟩ = some u1 := cf 1 (by omega)
      have e2 : wr.cell? ⟨p1, o1 + j * 9 + 2, none⟩ = some v2 := ce 2 (by omega)
      have f2 : wr.cell? ⟨p2, o2 + j * 9 + 2, none⟩ = some u2 := cf 2 (by omega)
      have e3 : wr.cell? ⟨p1, o1 + j * 9 + 3, none⟩ = some v3 := ce 3 (by omega)
      have f3 : wr.cell? ⟨p2, o2 + j * 9 + 3, none⟩ = some u3 := cf 3 (by omega)
      have e4 : wr.cell? ⟨p1, o1 + j * 9 + 4, none⟩ = some v4 := ce 4 (by omega)
      have f4 : wr.cell? ⟨p2, o2 + j * 9 + 4, none⟩ = some u4 := cf 4 (by omega)
      have e5 : wr.cell? ⟨p1, o1 + j * 9 + 5, none⟩ = some v5 := ce 5 (by omega)
      have f5 : wr.cell? ⟨p2, o2 + j * 9 + 5, none⟩ = some u5 := cf 5 (by omega)
      have e6 : wr.cell? ⟨p1, o1 + j * 9 + 6, none⟩ = some v6 := ce 6 (by omega)
      have f6 : wr.cell? ⟨p2, o2 + j * 9 + 6, none⟩ = some u6 := cf 6 (by omega)
      have e7 : wr.cell? ⟨p1, o1 + j * 9 + 7, none⟩ = some v7 := ce 7 (by omega)
      have f7 : wr.cell? ⟨p2, o2 + j * 9 + 7, none⟩ = some u7 := cf 7 (by omega)
      have e8 : wr.cell? ⟨p1, o1 + j * 9 + 8, none⟩ = some v8 := ce 8 (by omega)
      have f8 : wr.cell? ⟨p2, o2 + j * 9 + 8, none⟩ = some u8 := cf 8 (by omega)
      clear ce cf hrs hA0 hB0 hH0 hA1 hB1 hH1 hA2 hB2 hH2 hA3 hB3 hH3 hA4 hB4 hH4 hA5 hB5 hH5 hA6 hB6 hH6 hA7 hB7 hH7 hA8 hB8 hH8 T0 A0 B0 T1 A1 B1 T2 A2 B2 T3 A3 B3 T4 A4 B4 T5 A5 B5 T6 A6 B6 T7 A7 B7 T8 A8 B8 hA hB hH
      have q1 : p1 < wr.heap.size := World.block_lt_of_cell? wr _ e0
      have q2 : p2 < wr.heap.size := World.block_lt_of_cell? wr _ f0
      go_wp2_with fail
      go_region_held3 (fun w' => w'.cell? ⟨p1, o1 + j * 9, none⟩ = some v0 ∧ w'.cell? ⟨p1, o1 + j * 9 + 1, none⟩ = some v1 ∧ w'.cell? ⟨p1, o1 + j * 9 + 2, none⟩ = some v2 ∧ w'.cell? ⟨p1, o1 + j * 9 + 3, none⟩ = some v3 ∧ w'.cell? ⟨p1, o1 + j * 9 + 4, none⟩ = some v4 ∧ w'.cell? ⟨p1, o1 + j * 9 + 5, none⟩ = some v5 ∧ w'.cell? ⟨p1, o1 + j * 9 + 6, none⟩ = some v6 ∧ w'.cell? ⟨p1, o1 + j * 9 + 7, none⟩ = some v7 ∧ w'.cell? ⟨p1, o1 + j * 9 + 8, none⟩ = some v8 ∧ w'.cell? ⟨p2, o2 + j * 9, none⟩ = some u0 ∧ w'.cell? ⟨p2, o2 + j * 9 + 1, none⟩ = some u1 ∧ w'.cell? ⟨p2, o2 + j * 9 + 2, none⟩ = some u2 ∧ w'.cell? ⟨p2, o2 + j * 9 + 3, none⟩ = some u3 ∧ w'.cell? ⟨p2, o2 + j * 9 + 4, none⟩ = some u4 ∧ w'.cell? ⟨p2, o2 + j * 9 + 5, none⟩ = some u5 ∧ w'.cell? ⟨p2, o2 + j * 9 + 6, none⟩ = some u6 ∧ w'.cell? ⟨p2, o2 + j * 9 + 7, none⟩ = some u7 ∧ w'.cell? ⟨p2, o2 + j * 9 + 8, none⟩ = some u8)
        (first | (with_reducible exact K2.out) | go_keep)
        (first
        | (go_at_call 59
           refine (dEqCall [v0, v1, v2, v3, v4, v5, v6, v7, v8] [u0, u1, u2, u3, u4, u5, u6, u7, u8] [c0, c1, c2, c3, c4, c5, c6, c7, c8] _ (HA0.out.on (hb.drew) (Nat.le_refl _)) (HB0.out.on (hb.drew) (Nat.le_refl _)) HL0.out).mono ?_
           rintro e w2 ⟨rfl, hb2⟩
           have hb2' : Below wr.heap.size wr w2 := (Below.refl _ wr).drew.trans hb2
           have K2 : Hid (w2.cell? ⟨p1, o1 + j * 9, none⟩ = some v0 ∧ w2.cell? ⟨p1, o1 + j * 9 + 1, none⟩ = some v1 ∧ w2.cell? ⟨p1, o1 + j * 9 + 2, none⟩ = some v2 ∧ w2.cell? ⟨p1, o1 + j * 9 + 3, none⟩ = some v3 ∧ w2.cell? ⟨p1, o1 + j * 9 + 4, none⟩ = some v4 ∧ w2.cell? ⟨p1, o1 + j * 9 + 5, none⟩ = some v5 ∧ w2.cell? ⟨p1, o1 + j * 9 + 6, none⟩ = some v6 ∧ w2.cell? ⟨p1, o1 + j * 9 + 7, none⟩ = some v7 ∧ w2.cell? ⟨p1, o1 + j * 9 + 8, none⟩ = some v8 ∧ w2.cell? ⟨p2, o2 + j * 9, none⟩ = some u0 ∧ w2.cell? ⟨p2, o2 + j * 9 + 1, none⟩ = some u1 ∧ w2.cell? ⟨p2, o2 + j * 9 + 2, none⟩ = some u2 ∧ w2.cell? ⟨p2, o2 + j * 9 + 3, none⟩ = some u3 ∧ w2.cell? ⟨p2, o2 + j * 9 + 4, none⟩ = some u4 ∧ w2.cell? ⟨p2, o2 + j * 9 + 5, none⟩ = some u5 ∧ w2.cell? ⟨p2, o2 + j * 9 + 6, none⟩ = some u6 ∧ w2.cell? ⟨p2, o2 + j * 9 + 7, none⟩ = some u7 ∧ w2.cell? ⟨p2, o2 + j * 9 + 8, none⟩ = some u8) := ⟨(hb2'.cell (show p1 < _ from q1)).trans e0, (hb2'.cell (show p1 < _ from q1)).trans e1, (hb2'.cell (show p1 < _ from q1)).trans e2, (hb2'.cell (show p1 < _ from q1)).trans e3, (hb2'.cell (show p1 < _ from q1)).trans e4, (hb2'.cell (show p1 < _ from q1)).trans e5, (hb2'.cell (show p1 < _ from q1)).trans e6, (hb2'.cell (show p1 < _ from q1)).trans e7, (hb2'.cell (show p1 < _ from q1)).trans e8, (hb2'.cell (show p2 < _ from q2)).trans f0, (hb2'.cell (show p2 < _ from q2)).trans f1, (hb2'.cell (show p2 < _ from q2)).trans f2, (hb2'.cell (show p2 < _ from q2)).trans f3, (hb2'.cell (show p2 < _ from q2)).trans f4, (hb2'.cell (show p2 < _ from q2)).trans f5, (hb2'.cell (show p2 < _ from q2)).trans f6, (hb2'.cell (show p2 < _ from q2)).trans f7, (hb2'.cell (show p2 < _ from q2)).trans f8⟩
           have hb02 : Below w.heap.size w w2 := hb.trans (hb2'.mono hb.size)
           clear hb2 hb2'))
      clear e0 f0 e1 f1 e2 f2 e3 f3 e4 f4 e5 f5 e6 f6 e7 f7 e8 f8 K2
      go_wp2
      exact ⟨⟨j + 1, by omega, by go_num, hb02⟩, by simp [intOf]; omega⟩
    · obtain rfl : j = n := by omega
      go_wp2
      go_ret
      exact ⟨rfl, hb⟩
set_option maxHeartbeats 2000000 in
theorem dEqMachine (vs us : List Value) (cs : List Cel) (w : World) (h : AtL false w vs cs) (h' : AtL false w us cs) (hs : HasL cs tyMachine) : Calls Tryz.prog 8 #[.agg vs.toArray, .agg us.toArray] w (Yes w) := by
  obtain ⟨c0, r0, rfl, T0, hH0⟩ := hs.cons
  obtain ⟨c1, r1, rfl, T1, hH1⟩ := hH0.cons
  obtain ⟨c2, r2, rfl, T2, hH2⟩ := hH1.cons
  obtain ⟨c3, r3, rfl, T3, hH3⟩ := hH2.cons
  obtain ⟨c4, r4, rfl, T4, hH4⟩ := hH3.cons
  obtain ⟨c5, r5, rfl, T5, hH5⟩ := hH4.cons
  obtain ⟨c6, r6, rfl, T6, hH6⟩ := hH5.cons
  obtain ⟨c7, r7, rfl, T7, hH7⟩ := hH6.cons
  obtain rfl := hH7.nil
  obtain ⟨v0, vr0, rfl, A0, hA0⟩ := h.consE
  obtain ⟨v1, vr1, rfl, A1, hA1⟩ := hA0.consE
  obtain ⟨v2, vr2, rfl, A2, hA2⟩ := hA1.consE
  obtain ⟨v3, vr3, rfl, A3, hA3⟩ := hA2.consE
  obtain ⟨v4, vr4, rfl, A4, hA4⟩ := hA3.consE
  obtain ⟨v5, vr5, rfl, A5, hA5⟩ := hA4.consE
  obtain ⟨v6, vr6, rfl, A6, hA6⟩ := hA5.consE
  obtain ⟨v7, vr7, rfl, A7, hA7⟩ := hA6.consE
  obtain rfl := hA7.nilE
  obtain ⟨u0, ur0, rfl, B0, hB0⟩ := h'.consE
  obtain ⟨u1, ur1, rfl, B1, hB1⟩ := hB0.consE
  obtain ⟨u2, ur2, rfl, B2, hB2⟩ := hB1.consE
  obtain ⟨u3, ur3, rfl, B3, hB3⟩ := hB2.consE
  obtain ⟨u4, ur4, rfl, B4, hB4⟩ := hB3.consE
  obtain ⟨u5, ur5, rfl, B5, hB5⟩ := hB4.consE
  obtain ⟨u6, ur6, rfl, B6, hB6⟩ := hB5.consE
  obtain ⟨u7, ur7, rfl, B7, hB7⟩ := hB6.consE
  obtain rfl := hB7.nilE
  obtain ⟨n0, cs0, rfl, -⟩ := T0.list
  have HT0 : Hid (Has (.l 134 3 n0 cs0) (.l 134 3 tyWord)) := T0
  obtain ⟨p0, d0, rfl⟩ := A0.slice
  obtain ⟨q0, e0, rfl⟩ := B0.slice
  have hA0' : Hid (At false w (.slice p0 n0 d0) (.l 134 3 n0 cs0)) := A0
  have hB0' : Hid (At false w (.slice q0 n0 e0) (.l 134 3 n0 cs0)) := B0
  obtain ⟨n1, cs1, rfl, -⟩ := T1.list
  have HT1 : Hid (Has (.l 137 5 n1 cs1) (.l 137 5 tyDesc)) := T1
  obtain ⟨p1, d1, rfl⟩ := A1.slice
  obtain ⟨q1, e1, rfl⟩ := B1.slice
  have hA1' : Hid (At false w (.slice p1 n1 d1) (.l 137 5 n1 cs1)) := A1
  have hB1' : Hid (At false w (.slice q1 n1 e1) (.l 137 5 n1 cs1)) := B1
  obtain ⟨n2, cs2, rfl, -⟩ := T2.list
  have HT2 : Hid (Has (.l 100 5 n2 cs2) (.l 100 5 tyThread)) := T2
  obtain ⟨p2, d2, rfl⟩ := A2.slice
  obtain ⟨q2, e2, rfl⟩ := B2.slice
  have hA2' : Hid (At false w (.slice p2 n2 d2) (.l 100 5 n2 cs2)) := A2
  have hB2' : Hid (At false w (.slice q2 n2 e2) (.l 100 5 n2 cs2)) := B2
  obtain ⟨x3, rfl⟩ := T3.int
  obtain rfl := A3.int
  obtain rfl := B3.int
  have ne3 : (x3 != x3) = false := by simp
  obtain ⟨n4, cs4, rfl, -⟩ := T4.list
  have HT4 : Hid (Has (.l 61 9 n4 cs4) (.l 61 9 tyCall)) := T4
  obtain ⟨p4, d4, rfl⟩ := A4.slice
  obtain ⟨q4, e4, rfl⟩ := B4.slice
  have hA4' : Hid (At false w (.slice p4 n4 d4) (.l 61 9 n4 cs4)) := A4
  have hB4' : Hid (At false w (.slice q4 n4 e4) (.l 61 9 n4 cs4)) := B4
  obtain ⟨n5, cs5, rfl, -⟩ := T5.list
  have HT5 : Hid (Has (.l 3 1 n5 cs5) (.l 3 1 [.i])) := T5
  obtain ⟨p5, d5, rfl⟩ := A5.slice
  obtain ⟨q5, e5, rfl⟩ := B5.slice
  have hA5' : Hid (At false w (.slice p5 n5 d5) (.l 3 1 n5 cs5)) := A5
  have hB5' : Hid (At false w (.slice q5 n5 e5) (.l 3 1 n5 cs5)) := B5
  obtain ⟨n6, cs6, rfl, -⟩ := T6.list
  have HT6 : Hid (Has (.l 3 1 n6 cs6) (.l 3 1 [.i])) := T6
  obtain ⟨p6, d6, rfl⟩ := A6.slice
  obtain ⟨q6, e6, rfl⟩ := B6.slice
  have hA6' : Hid (At false w (.slice p6 n6 d6) (.l 3 1 n6 cs6)) := A6
  have hB6' : Hid (At false w (.slice q6 n6 e6) (.l 3 1 n6 cs6)) := B6
  obtain ⟨x7, rfl⟩ := T7.int
  obtain rfl := A7.int
  obtain rfl := B7.int
  have ne7 : (x7 != x7) = false := by simp
  have HN0 : Hid (AtL false w [.slice p0 n0 d0, .slice p1 n1 d1] [.l 134 3 n0 cs0, .l 137 5 n1 cs1]) := AtL.cons (hA0'.out) (AtL.cons (hA1'.out) (AtL.nil))
  have HH0 : Hid (HasL [.l 134 3 n0 cs0, .l 137 5 n1 cs1] tyMem) := ⟨rfl, fun j c t hc ht => by
    have hj : j < 2 := by have := (List.getElem?_eq_some_iff.1 hc).1; simpa using this
    rcases (show j = 0 ∨ j = 1 by omega) with rfl | rfl <;> (simp [tyMem] at hc ht; subst hc ht)
    · exact HT0.out
    · exact HT1.out⟩
  have HN6 : Hid (AtL false w [.slice p6 n6 d6, .int .i64 x7] [.l 3 1 n6 cs6, .i x7]) := AtL.cons (hA6'.out) (AtL.cons (.i x7) (AtL.nil))
  have HH6 : Hid (HasL [.l 3 1 n6 cs6, .i x7] tyRows) := ⟨rfl, fun j c t hc ht => by
    have hj : j < 2 := by have := (List.getElem?_eq_some_iff.1 hc).1; simpa using this
    rcases (show j = 0 ∨ j = 1 by omega) with rfl | rfl <;> (simp [tyRows] at hc ht; subst hc ht)
    · exact HT6.out
    · exact .i x7⟩
  have HM0 : Hid (AtL false w [.slice q0 n0 e0, .slice q1 n1 e1] [.l 134 3 n0 cs0, .l 137 5 n1 cs1]) := AtL.cons (hB0'.out) (AtL.cons (hB1'.out) (AtL.nil))
  have HM6 : Hid (AtL false w [.slice q6 n6 e6, .int .i64 x7] [.l 3 1 n6 cs6, .i x7]) := AtL.cons (hB6'.out) (AtL.cons (.i x7) (AtL.nil))
  clear hs h h' hA0 hB0 hH0 T0 A0 B0 hA1 hB1 hH1 T1 A1 B1 hA2 hB2 hH2 T2 A2 B2 hA3 hB3 hH3 T3 A3 B3 hA4 hB4 hH4 T4 A4 B4 hA5 hB5 hH5 T5 A5 B5 hA6 hB6 hH6 T6 A6 B6 hA7 hB7 hH7 T7 A7 B7
  obtain ⟨W, hW⟩ : ∃ W, (w.alloc (.cells #[.slice p0 n0 d0, .slice p1 n1 d1, .slice p2 n2 d2, .int .i64 x3, .slice p4 n4 d4, .slice p5 n5 d5, .slice p6 n6 d6, .int .i64 x7] 43)).alloc (.cells #[.slice q0 n0 e0, .slice q1 n1 e1, .slice q2 n2 e2, .int .i64 x3, .slice q4 n4 e4, .slice q5 n5 e5, .slice q6 n6 e6, .int .i64 x7] 43) = W := ⟨_, rfl⟩
  have t0 : Hid (Two w W #[.slice p0 n0 d0, .slice p1 n1 d1, .slice p2 n2 d2, .int .i64 x3, .slice p4 n4 d4, .slice p5 n5 d5, .slice p6 n6 d6, .int .i64 x7] #[.slice q0 n0 e0, .slice q1 n1 e1, .slice q2 n2 e2, .int .i64 x3, .slice q4 n4 e4, .slice q5 n5 e5, .slice q6 n6 e6, .int .i64 x7] 43) := by rw [← hW]; exact two_new w _ _ _
  have HW : Hid _ := hW
  clear hW
  go_enter Tryz.func8, Tryz.ntmps8
  go_upto_region 1 with (fail)
  rw [HW.out]
  have ax0 : W.cell? ⟨w.heap.size, 0, none⟩ = some (.slice p0 n0 d0) := t0.out.a.cell 0
  have bx0 : W.cell? ⟨w.heap.size + 1, 0, none⟩ = some (.slice q0 n0 e0) := t0.out.b.cell 0
  have ax1 : W.cell? ⟨w.heap.size, 1, none⟩ = some (.slice p1 n1 d1) := t0.out.a.cell 1
  have bx1 : W.cell? ⟨w.heap.size + 1, 1, none⟩ = some (.slice q1 n1 e1) := t0.out.b.cell 1
  have ax2 : W.cell? ⟨w.heap.size, 2, none⟩ = some (.slice p2 n2 d2) := t0.out.a.cell 2
  have bx2 : W.cell? ⟨w.heap.size + 1, 2, none⟩ = some (.slice q2 n2 e2) := t0.out.b.cell 2
  have ax3 : W.cell? ⟨w.heap.size, 3, none⟩ = some (.int .i64 x3) := t0.out.a.cell 3
  have bx3 : W.cell? ⟨w.heap.size + 1, 3, none⟩ = some (.int .i64 x3) := t0.out.b.cell 3
  have ax4 : W.cell? ⟨w.heap.size, 4, none⟩ = some (.slice p4 n4 d4) := t0.out.a.cell 4
  have bx4 : W.cell? ⟨w.heap.size + 1, 4, none⟩ = some (.slice q4 n4 e4) := t0.out.b.cell 4
  have ax5 : W.cell? ⟨w.heap.size, 5, none⟩ = some (.slice p5 n5 d5) := t0.out.a.cell 5
  have bx5 : W.cell? ⟨w.heap.size + 1, 5, none⟩ = some (.slice q5 n5 e5) := t0.out.b.cell 5
  have ax6 : W.cell? ⟨w.heap.size, 6, none⟩ = some (.slice p6 n6 d6) := t0.out.a.cell 6
  have bx6 : W.cell? ⟨w.heap.size + 1, 6, none⟩ = some (.slice q6 n6 e6) := t0.out.b.cell 6
  have ax7 : W.cell? ⟨w.heap.size, 7, none⟩ = some (.int .i64 x7) := t0.out.a.cell 7
  have bx7 : W.cell? ⟨w.heap.size + 1, 7, none⟩ = some (.int .i64 x7) := t0.out.b.cell 7
  go_wp2_with fail
  refine (dEqMem [.slice p0 n0 d0, .slice p1 n1 d1] [.slice q0 n0 e0, .slice q1 n1 e1] [.l 134 3 n0 cs0, .l 137 5 n1 cs1] _ (HN0.out.on t0.out.on (Nat.le_refl _)) (HM0.out.on t0.out.on (Nat.le_refl _)) HH0.out).mono ?_
  rintro e w1 ⟨rfl, hb⟩
  have t1 : Hid (Two w w1 #[.slice p0 n0 d0, .slice p1 n1 d1, .slice p2 n2 d2, .int .i64 x3, .slice p4 n4 d4, .slice p5 n5 d5, .slice p6 n6 d6, .int .i64 x7] #[.slice q0 n0 e0, .slice q1 n1 e1, .slice q2 n2 e2, .int .i64 x3, .slice q4 n4 e4, .slice q5 n5 e5, .slice q6 n6 e6, .int .i64 x7] 43) := t0.out.call hb
  clear hb ax0 bx0 ax1 bx1 ax2 bx2 ax3 bx3 ax4 bx4 ax5 bx5 ax6 bx6 ax7 bx7
  have ax0 : w1.cell? ⟨w.heap.size, 0, none⟩ = some (.slice p0 n0 d0) := t1.out.a.cell 0
  have bx0 : w1.cell? ⟨w.heap.size + 1, 0, none⟩ = some (.slice q0 n0 e0) := t1.out.b.cell 0
  have ax1 : w1.cell? ⟨w.heap.size, 1, none⟩ = some (.slice p1 n1 d1) := t1.out.a.cell 1
  have bx1 : w1.cell? ⟨w.heap.size + 1, 1, none⟩ = some (.slice q1 n1 e1) := t1.out.b.cell 1
  have ax2 : w1.cell? ⟨w.heap.size, 2, none⟩ = some (.slice p2 n2 d2) := t1.out.a.cell 2
  have bx2 : w1.cell? ⟨w.heap.size + 1, 2, none⟩ = some (.slice q2 n2 e2) := t1.out.b.cell 2
  have ax3 : w1.cell? ⟨w.heap.size, 3, none⟩ = some (.int .i64 x3) := t1.out.a.cell 3
  have bx3 : w1.cell? ⟨w.heap.size + 1, 3, none⟩ = some (.int .i64 x3) := t1.out.b.cell 3
  have ax4 : w1.cell? ⟨w.heap.size, 4, none⟩ = some (.slice p4 n4 d4) := t1.out.a.cell 4
  have bx4 : w1.cell? ⟨w.heap.size + 1, 4, none⟩ = some (.slice q4 n4 e4) := t1.out.b.cell 4
  have ax5 : w1.cell? ⟨w.heap.size, 5, none⟩ = some (.slice p5 n5 d5) := t1.out.a.cell 5
  have bx5 : w1.cell? ⟨w.heap.size + 1, 5, none⟩ = some (.slice q5 n5 e5) := t1.out.b.cell 5
  have ax6 : w1.cell? ⟨w.heap.size, 6, none⟩ = some (.slice p6 n6 d6) := t1.out.a.cell 6
  have bx6 : w1.cell? ⟨w.heap.size + 1, 6, none⟩ = some (.slice q6 n6 e6) := t1.out.b.cell 6
  have ax7 : w1.cell? ⟨w.heap.size, 7, none⟩ = some (.int .i64 x7) := t1.out.a.cell 7
  have bx7 : w1.cell? ⟨w.heap.size + 1, 7, none⟩ = some (.int .i64 x7) := t1.out.b.cell 7
  go_wp2_with fail
  refine (dEqThreadS _ _ n2 cs2 _ (hA2'.out.on t1.out.on (Nat.le_refl _)) (hB2'.out.on t1.out.on (Nat.le_refl _)) HT2.out).mono ?_
  rintro e w2 ⟨rfl, hb⟩
  have t2 : Hid (Two w w2 #[.slice p0 n0 d0, .slice p1 n1 d1, .slice p2 n2 d2, .int .i64 x3, .slice p4 n4 d4, .slice p5 n5 d5, .slice p6 n6 d6, .int .i64 x7] #[.slice q0 n0 e0, .slice q1 n1 e1, .slice q2 n2 e2, .int .i64 x3, .slice q4 n4 e4, .slice q5 n5 e5, .slice q6 n6 e6, .int .i64 x7] 43) := t1.out.call hb
  clear hb ax0 bx0 ax1 bx1 ax2 bx2 ax3 bx3 ax4 bx4 ax5 bx5 ax6 bx6 ax7 bx7
  have ax0 : w2.cell? ⟨w.heap.size, 0, none⟩ = some (.slice p0 n0 d0) := t2.out.a.cell 0
  have bx0 : w2.cell? ⟨w.heap.size + 1, 0, none⟩ = some (.slice q0 n0 e0) := t2.out.b.cell 0
  have ax1 : w2.cell? ⟨w.heap.size, 1, none⟩ = some (.slice p1 n1 d1) := t2.out.a.cell 1
  have bx1 : w2.cell? ⟨w.heap.size + 1, 1, none⟩ = some (.slice q1 n1 e1) := t2.out.b.cell 1
  have ax2 : w2.cell? ⟨w.heap.size, 2, none⟩ = some (.slice p2 n2 d2) := t2.out.a.cell 2
  have bx2 : w2.cell? ⟨w.heap.size + 1, 2, none⟩ = some (.slice q2 n2 e2) := t2.out.b.cell 2
  have ax3 : w2.cell? ⟨w.heap.size, 3, none⟩ = some (.int .i64 x3) := t2.out.a.cell 3
  have bx3 : w2.cell? ⟨w.heap.size + 1, 3, none⟩ = some (.int .i64 x3) := t2.out.b.cell 3
  have ax4 : w2.cell? ⟨w.heap.size, 4, none⟩ = some (.slice p4 n4 d4) := t2.out.a.cell 4
  have bx4 : w2.cell? ⟨w.heap.size + 1, 4, none⟩ = some (.slice q4 n4 e4) := t2.out.b.cell 4
  have ax5 : w2.cell? ⟨w.heap.size, 5, none⟩ = some (.slice p5 n5 d5) := t2.out.a.cell 5
  have bx5 : w2.cell? ⟨w.heap.size + 1, 5, none⟩ = some (.slice q5 n5 e5) := t2.out.b.cell 5
  have ax6 : w2.cell? ⟨w.heap.size, 6, none⟩ = some (.slice p6 n6 d6) := t2.out.a.cell 6
  have bx6 : w2.cell? ⟨w.heap.size + 1, 6, none⟩ = some (.slice q6 n6 e6) := t2.out.b.cell 6
  have ax7 : w2.cell? ⟨w.heap.size, 7, none⟩ = some (.int .i64 x7) := t2.out.a.cell 7
  have bx7 : w2.cell? ⟨w.heap.size + 1, 7, none⟩ = some (.int .i64 x7) := t2.out.b.cell 7
  go_wp2_with fail
  refine (dEqCallS _ _ n4 cs4 _ (hA4'.out.on t2.out.on (Nat.le_refl _)) (hB4'.out.on t2.out.on (Nat.le_refl _)) HT4.out).mono ?_
  rintro e w3 ⟨rfl, hb⟩
  have t3 : Hid (Two w w3 #[.slice p0 n0 d0, .slice p1 n1 d1, .slice p2 n2 d2, .int .i64 x3, .slice p4 n4 d4, .slice p5 n5 d5, .slice p6 n6 d6, .int .i64 x7] #[.slice q0 n0 e0, .slice q1 n1 e1, .slice q2 n2 e2, .int .i64 x3, .slice q4 n4 e4, .slice q5 n5 e5, .slice q6 n6 e6, .int .i64 x7] 43) := t2.out.call hb
  clear hb ax0 bx0 ax1 bx1 ax2 bx2 ax3 bx3 ax4 bx4 ax5 bx5 ax6 bx6 ax7 bx7
  have ax0 : w3.cell? ⟨w.heap.size, 0, none⟩ = some (.slice p0 n0 d0) := t3.out.a.cell 0
  have bx0 : w3.cell? ⟨w.heap.size + 1, 0, none⟩ = some (.slice q0 n0 e0) := t3.out.b.cell 0
  have ax1 : w3.cell? ⟨w.heap.size, 1, none⟩ = some (.slice p1 n1 d1) := t3.out.a.cell 1
  have bx1 : w3.cell? ⟨w.heap.size + 1, 1, none⟩ = some (.slice q1 n1 e1) := t3.out.b.cell 1
  have ax2 : w3.cell? ⟨w.heap.size, 2, none⟩ = some (.slice p2 n2 d2) := t3.out.a.cell 2
  have bx2 : w3.cell? ⟨w.heap.size + 1, 2, none⟩ = some (.slice q2 n2 e2) := t3.out.b.cell 2
  have ax3 : w3.cell? ⟨w.heap.size, 3, none⟩ = some (.int .i64 x3) := t3.out.a.cell 3
  have bx3 : w3.cell? ⟨w.heap.size + 1, 3, none⟩ = some (.int .i64 x3) := t3.out.b.cell 3
  have ax4 : w3.cell? ⟨w.heap.size, 4, none⟩ = some (.slice p4 n4 d4) := t3.out.a.cell 4
  have bx4 : w3.cell? ⟨w.heap.size + 1, 4, none⟩ = some (.slice q4 n4 e4) := t3.out.b.cell 4
  have ax5 : w3.cell? ⟨w.heap.size, 5, none⟩ = some (.slice p5 n5 d5) := t3.out.a.cell 5
  have bx5 : w3.cell? ⟨w.heap.size + 1, 5, none⟩ = some (.slice q5 n5 e5) := t3.out.b.cell 5
  have ax6 : w3.cell? ⟨w.heap.size, 6, none⟩ = some (.slice p6 n6 d6) := t3.out.a.cell 6
  have bx6 : w3.cell? ⟨w.heap.size + 1, 6, none⟩ = some (.slice q6 n6 e6) := t3.out.b.cell 6
  have ax7 : w3.cell? ⟨w.heap.size, 7, none⟩ = some (.int .i64 x7) := t3.out.a.cell 7
  have bx7 : w3.cell? ⟨w.heap.size + 1, 7, none⟩ = some (.int .i64 x7) := t3.out.b.cell 7
  go_wp2_with fail
  refine (dEqIntS _ _ n5 cs5 _ (hA5'.out.on t3.out.on (Nat.le_refl _)) (hB5'.out.on t3.out.on (Nat.le_refl _)) HT5.out).mono ?_
  rintro e w4 ⟨rfl, hb⟩
  have t4 : Hid (Two w w4 #[.slice p0 n0 d0, .slice p1 n1 d1, .slice p2 n2 d2, .int .i64 x3, .slice p4 n4 d4, .slice p5 n5 d5, .slice p6 n6 d6, .int .i64 x7] #[.slice q0 n0 e0, .slice q1 n1 e1, .slice q2 n2 e2, .int .i64 x3, .slice q4 n4 e4, .slice q5 n5 e5, .slice q6 n6 e6, .int .i64 x7] 43) := t3.out.call hb
  clear hb ax0 bx0 ax1 bx1 ax2 bx2 ax3 bx3 ax4 bx4 ax5 bx5 ax6 bx6 ax7 bx7
  have ax0 : w4.cell? ⟨w.heap.size, 0, none⟩ = some (.slice p0 n0 d0) := t4.out.a.cell 0
  have bx0 : w4.cell? ⟨w.heap.size + 1, 0, none⟩ = some (.slice q0 n0 e0) := t4.out.b.cell 0
  have ax1 : w4.cell? ⟨w.heap.size, 1, none⟩ = some (.slice p1 n1 d1) := t4.out.a.cell 1
  have bx1 : w4.cell? ⟨w.heap.size + 1, 1, none⟩ = some (.slice q1 n1 e1) := t4.out.b.cell 1
  have ax2 : w4.cell? ⟨w.heap.size, 2, none⟩ = some (.slice p2 n2 d2) := t4.out.a.cell 2
  have bx2 : w4.cell? ⟨w.heap.size + 1, 2, none⟩ = some (.slice q2 n2 e2) := t4.out.b.cell 2
  have ax3 : w4.cell? ⟨w.heap.size, 3, none⟩ = some (.int .i64 x3) := t4.out.a.cell 3
  have bx3 : w4.cell? ⟨w.heap.size + 1, 3, none⟩ = some (.int .i64 x3) := t4.out.b.cell 3
  have ax4 : w4.cell? ⟨w.heap.size, 4, none⟩ = some (.slice p4 n4 d4) := t4.out.a.cell 4
  have bx4 : w4.cell? ⟨w.heap.size + 1, 4, none⟩ = some (.slice q4 n4 e4) := t4.out.b.cell 4
  have ax5 : w4.cell? ⟨w.heap.size, 5, none⟩ = some (.slice p5 n5 d5) := t4.out.a.cell 5
  have bx5 : w4.cell? ⟨w.heap.size + 1, 5, none⟩ = some (.slice q5 n5 e5) := t4.out.b.cell 5
  have ax6 : w4.cell? ⟨w.heap.size, 6, none⟩ = some (.slice p6 n6 d6) := t4.out.a.cell 6
  have bx6 : w4.cell? ⟨w.heap.size + 1, 6, none⟩ = some (.slice q6 n6 e6) := t4.out.b.cell 6
  have ax7 : w4.cell? ⟨w.heap.size, 7, none⟩ = some (.int .i64 x7) := t4.out.a.cell 7
  have bx7 : w4.cell? ⟨w.heap.size + 1, 7, none⟩ = some (.int .i64 x7) := t4.out.b.cell 7
  go_wp2_with fail
  refine (dEqRows [.slice p6 n6 d6, .int .i64 x7] [.slice q6 n6 e6, .int .i64 x7] [.l 3 1 n6 cs6, .i x7] _ (HN6.out.on t4.out.on (Nat.le_refl _)) (HM6.out.on t4.out.on (Nat.le_refl _)) HH6.out).mono ?_
  rintro e w5 ⟨rfl, hb⟩
  have t5 : Hid (Two w w5 #[.slice p0 n0 d0, .slice p1 n1 d1, .slice p2 n2 d2, .int .i64 x3, .slice p4 n4 d4, .slice p5 n5 d5, .slice p6 n6 d6, .int .i64 x7] #[.slice q0 n0 e0, .slice q1 n1 e1, .slice q2 n2 e2, .int .i64 x3, .slice q4 n4 e4, .slice q5 n5 e5, .slice q6 n6 e6, .int .i64 x7] 43) := t4.out.call hb
  clear hb ax0 bx0 ax1 bx1 ax2 bx2 ax3 bx3 ax4 bx4 ax5 bx5 ax6 bx6 ax7 bx7
  have ax0 : w5.cell? ⟨w.heap.size, 0, none⟩ = some (.slice p0 n0 d0) := t5.out.a.cell 0
  have bx0 : w5.cell? ⟨w.heap.size + 1, 0, none⟩ = some (.slice q0 n0 e0) := t5.out.b.cell 0
  have ax1 : w5.cell? ⟨w.heap.size, 1, none⟩ = some (.slice p1 n1 d1) := t5.out.a.cell 1
  have bx1 : w5.cell? ⟨w.heap.size + 1, 1, none⟩ = some (.slice q1 n1 e1) := t5.out.b.cell 1
  have ax2 : w5.cell? ⟨w.heap.size, 2, none⟩ = some (.slice p2 n2 d2) := t5.out.a.cell 2
  have bx2 : w5.cell? ⟨w.heap.size + 1, 2, none⟩ = some (.slice q2 n2 e2) := t5.out.b.cell 2
  have ax3 : w5.cell? ⟨w.heap.size, 3, none⟩ = some (.int .i64 x3) := t5.out.a.cell 3
  have bx3 : w5.cell? ⟨w.heap.size + 1, 3, none⟩ = some (.int .i64 x3) := t5.out.b.cell 3
  have ax4 : w5.cell? ⟨w.heap.size, 4, none⟩ = some (.slice p4 n4 d4) := t5.out.a.cell 4
  have bx4 : w5.cell? ⟨w.heap.size + 1, 4, none⟩ = some (.slice q4 n4 e4) := t5.out.b.cell 4
  have ax5 : w5.cell? ⟨w.heap.size, 5, none⟩ = some (.slice p5 n5 d5) := t5.out.a.cell 5
  have bx5 : w5.cell? ⟨w.heap.size + 1, 5, none⟩ = some (.slice q5 n5 e5) := t5.out.b.cell 5
  have ax6 : w5.cell? ⟨w.heap.size, 6, none⟩ = some (.slice p6 n6 d6) := t5.out.a.cell 6
  have bx6 : w5.cell? ⟨w.heap.size + 1, 6, none⟩ = some (.slice q6 n6 e6) := t5.out.b.cell 6
  have ax7 : w5.cell? ⟨w.heap.size, 7, none⟩ = some (.int .i64 x7) := t5.out.a.cell 7
  have bx7 : w5.cell? ⟨w.heap.size + 1, 7, none⟩ = some (.int .i64 x7) := t5.out.b.cell 7
  go_wp2
  go_ret
  exact ⟨rfl, t5.out.on⟩
end Go.Proofs.YtkbodiggdajbeaaGreatDoor

/- The laws' own functions on data. -/
namespace Go.Proofs.YtkbodiggdajbeaaGreatDoor
open Go.ChangeShapes Go.WideShapes Go.ChangeAt Go.RowKit Go.Joins

set_option maxHeartbeats 2000000 in
theorem dSzIntS (v : Value) (n : Nat) (cs : List Cel) (left : Int) (w : World) (h : In w v (.l 3 1 n cs)) (hs : Has (.l 3 1 n cs) (.l 3 1 [.i])) (h0 : 0 ≤ left) (h1 : left ≤ 2097152) :
    Calls Tryz.prog 12 #[v, .int .i64 left] w (Left w (n + bigL cs) left) := by
  have hz := big_flat hs (by decide)
  obtain ⟨a, c, vs, rfl, -, -, hn, -, -⟩ := h.openL
  have HZ : Hid (n + bigL cs = n) := by show _ = _; omega
  clear hs hz
  by_cases hl : (n : Int) ≤ left
  · have h2 : ¬ (left - (n : Int) < 0) := by omega
    go_enter Tryz.func12, Tryz.ntmps12
    go_wp2
    go_ret
    refine ⟨Below.refl _ _, .inl ⟨_, rfl, ?_⟩⟩
    rw [HZ.out]
    exact ⟨hl, rfl⟩
  · have h2 : left - (n : Int) < 0 := by omega
    go_enter Tryz.func12, Tryz.ntmps12
    go_wp2
    go_ret
    refine ⟨Below.refl _ _, .inr ⟨rfl, ?_⟩⟩
    rw [HZ.out]
    omega
set_option maxHeartbeats 2000000 in
theorem dSzOpS (v : Value) (n : Nat) (cs : List Cel) (left : Int) (w : World) (h : In w v (.l 57 3 n cs)) (hs : Has (.l 57 3 n cs) (.l 57 3 tyOp)) (h0 : 0 ≤ left) (h1 : left ≤ 2097152) :
    Calls Tryz.prog 61 #[v, .int .i64 left] w (Left w (n + bigL cs) left) := by
  have hz := big_flat hs (by decide)
  obtain ⟨a, c, vs, rfl, -, -, hn, -, -⟩ := h.openL
  have HZ : Hid (n + bigL cs = n) := by show _ = _; omega
  clear hs hz
  by_cases hl : (n : Int) ≤ left
  · have h2 : ¬ (left - (n : Int) < 0) := by omega
    go_enter Tryz.func61, Tryz.ntmps61
    go_wp2
    go_ret
    refine ⟨Below.refl _ _, .inl ⟨_, rfl, ?_⟩⟩
    rw [HZ.out]
    exact ⟨hl, rfl⟩
  · have h2 : left - (n : Int) < 0 := by omega
    go_enter Tryz.func61, Tryz.ntmps61
    go_wp2
    go_ret
    refine ⟨Below.refl _ _, .inr ⟨rfl, ?_⟩⟩
    rw [HZ.out]
    omega
set_option maxHeartbeats 2000000 in
theorem dSzPairS (v : Value) (n : Nat) (cs : List Cel) (left : Int) (w : World) (h : In w v (.l 176 2 n cs)) (hs : Has (.l 176 2 n cs) (.l 176 2 tyPair)) (h0 : 0 ≤ left) (h1 : left ≤ 2097152) :
    Calls Tryz.prog 62 #[v, .int .i64 left] w (Left w (n + bigL cs) left) := by
  have hz := big_flat hs (by decide)
  obtain ⟨a, c, vs, rfl, -, -, hn, -, -⟩ := h.openL
  have HZ : Hid (n + bigL cs = n) := by show _ = _; omega
  clear hs hz
  by_cases hl : (n : Int) ≤ left
  · have h2 : ¬ (left - (n : Int) < 0) := by omega
    go_enter Tryz.func62, Tryz.ntmps62
    go_wp2
    go_ret
    refine ⟨Below.refl _ _, .inl ⟨_, rfl, ?_⟩⟩
    rw [HZ.out]
    exact ⟨hl, rfl⟩
  · have h2 : left - (n : Int) < 0 := by omega
    go_enter Tryz.func62, Tryz.ntmps62
    go_wp2
    go_ret
    refine ⟨Below.refl _ _, .inr ⟨rfl, ?_⟩⟩
    rw [HZ.out]
    omega
set_option maxHeartbeats 2000000 in
theorem dSzHelpS (v : Value) (n : Nat) (cs : List Cel) (left : Int) (w : World) (h : In w v (.l 180 4 n cs)) (hs : Has (.l 180 4 n cs) (.l 180 4 tyHelp)) (h0 : 0 ≤ left) (h1 : left ≤ 2097152) :
    Calls Tryz.prog 63 #[v, .int .i64 left] w (Left w (n + bigL cs) left) := by
  have hz := big_flat hs (by decide)
  obtain ⟨a, c, vs, rfl, -, -, hn, -, -⟩ := h.openL
  have HZ : Hid (n + bigL cs = n) := by show _ = _; omega
  clear hs hz
  by_cases hl : (n : Int) ≤ left
  · have h2 : ¬ (left - (n : Int) < 0) := by omega
    go_enter Tryz.func63, Tryz.ntmps63
    go_wp2
    go_ret
    refine ⟨Below.refl _ _, .inl ⟨_, rfl, ?_⟩⟩
    rw [HZ.out]
    exact ⟨hl, rfl⟩
  · have h2 : left - (n : Int) < 0 := by omega
    go_enter Tryz.func63, Tryz.ntmps63
    go_wp2
    go_ret
    refine ⟨Below.refl _ _, .inr ⟨rfl, ?_⟩⟩
    rw [HZ.out]
    omega
set_option maxHeartbeats 2000000 in
theorem dSzEntryS (v : Value) (n : Nat) (cs : List Cel) (left : Int) (w : World) (h : In w v (.l 139 3 n cs)) (hs : Has (.l 139 3 n cs) (.l 139 3 tyEntry)) (h0 : 0 ≤ left) (h1 : left ≤ 2097152) :
    Calls Tryz.prog 97 #[v, .int .i64 left] w (Left w (n + bigL cs) left) := by
  have hz := big_flat hs (by decide)
  obtain ⟨a, c, vs, rfl, -, -, hn, -, -⟩ := h.openL
  have HZ : Hid (n + bigL cs = n) := by show _ = _; omega
  clear hs hz
  by_cases hl : (n : Int) ≤ left
  · have h2 : ¬ (left - (n : Int) < 0) := by omega
    go_enter Tryz.func97, Tryz.ntmps97
    go_wp2
    go_ret
    refine ⟨Below.refl _ _, .inl ⟨_, rfl, ?_⟩⟩
    rw [HZ.out]
    exact ⟨hl, rfl⟩
  · have h2 : left - (n : Int) < 0 := by omega
    go_enter Tryz.func97, Tryz.ntmps97
    go_wp2
    go_ret
    refine ⟨Below.refl _ _, .inr ⟨rfl, ?_⟩⟩
    rw [HZ.out]
    omega
set_option maxHeartbeats 2000000 in
theorem dSzWordS (v : Value) (n : Nat) (cs : List Cel) (left : Int) (w : World) (h : In w v (.l 134 3 n cs)) (hs : Has (.l 134 3 n cs) (.l 134 3 tyWord)) (h0 : 0 ≤ left) (h1 : left ≤ 2097152) :
    Calls Tryz.prog 33 #[v, .int .i64 left] w (Left w (n + bigL cs) left) := by
  have hz := big_flat hs (by decide)
  obtain ⟨a, c, vs, rfl, -, -, hn, -, -⟩ := h.openL
  have HZ : Hid (n + bigL cs = n) := by show _ = _; omega
  clear hs hz
  by_cases hl : (n : Int) ≤ left
  · have h2 : ¬ (left - (n : Int) < 0) := by omega
    go_enter Tryz.func33, Tryz.ntmps33
    go_wp2
    go_ret
    refine ⟨Below.refl _ _, .inl ⟨_, rfl, ?_⟩⟩
    rw [HZ.out]
    exact ⟨hl, rfl⟩
  · have h2 : left - (n : Int) < 0 := by omega
    go_enter Tryz.func33, Tryz.ntmps33
    go_wp2
    go_ret
    refine ⟨Below.refl _ _, .inr ⟨rfl, ?_⟩⟩
    rw [HZ.out]
    omega
set_option maxHeartbeats 2000000 in
theorem dSzThread (vs : List Value) (cs : List Cel) (left : Int) (w : World) (h : InL w vs cs) (hs : HasL cs tyThread) (h0 : 0 ≤ left) (h1 : left ≤ 2097152) : Calls Tryz.prog 35 #[.agg vs.toArray, .int .i64 left] w (Left w (bigL cs) left) := by
  obtain ⟨c0, r0, rfl, T0, hH0⟩ := hs.cons
  obtain ⟨c1, r1, rfl, T1, hH1⟩ := hH0.cons
  obtain ⟨c2, r2, rfl, T2, hH2⟩ := hH1.cons
  obtain ⟨c3, r3, rfl, T3, hH3⟩ := hH2.cons
  obtain ⟨c4, r4, rfl, T4, hH4⟩ := hH3.cons
  obtain rfl := hH4.nil
  obtain ⟨v0, vr0, rfl, A0, hA0⟩ := h.consE
  obtain ⟨v1, vr1, rfl, A1, hA1⟩ := hA0.consE
  obtain ⟨v2, vr2, rfl, A2, hA2⟩ := hA1.consE
  obtain ⟨v3, vr3, rfl, A3, hA3⟩ := hA2.consE
  obtain ⟨v4, vr4, rfl, A4, hA4⟩ := hA3.consE
  obtain rfl := hA4.nilE
  obtain ⟨n0, cs0, rfl, -⟩ := T0.list
  have HT0 : Hid (Has (.l 57 3 n0 cs0) (.l 57 3 tyOp)) := T0
  have hA0' : Hid (In w v0 (.l 57 3 n0 cs0)) := A0
  obtain ⟨x1, rfl⟩ := T1.int
  obtain rfl := A1.int
  obtain ⟨x2, rfl⟩ := T2.bool
  obtain rfl := A2.bool
  obtain ⟨n3, cs3, rfl, -⟩ := T3.list
  have HT3 : Hid (Has (.l 176 2 n3 cs3) (.l 176 2 tyPair)) := T3
  have hA3' : Hid (In w v3 (.l 176 2 n3 cs3)) := A3
  obtain ⟨n4, cs4, rfl, -⟩ := T4.list
  have HT4 : Hid (Has (.l 180 4 n4 cs4) (.l 180 4 tyHelp)) := T4
  have hA4' : Hid (In w v4 (.l 180 4 n4 cs4)) := A4
  clear hs h hA0 hH0 T0 A0 hA1 hH1 T1 A1 hA2 hH2 T2 A2 hA3 hH3 T3 A3 hA4 hH4 T4 A4
  obtain ⟨W, hW⟩ : ∃ W, w.alloc (.cells #[v0, .int .i64 x1, .bool x2, v3, v4] 82) = W := ⟨_, rfl⟩
  have t0 : Hid (One w W #[v0, .int .i64 x1, .bool x2, v3, v4] 82) := by rw [← hW]; exact one_new w _ _
  have HW : Hid _ := hW
  clear hW
  go_enter Tryz.func35, Tryz.ntmps35
  go_upto_region 1 with (fail)
  rw [HW.out]
  have ax0 : W.cell? ⟨w.heap.size, 0, none⟩ = some (v0) := t0.out.a.cell 0
  have ax1 : W.cell? ⟨w.heap.size, 1, none⟩ = some (.int .i64 x1) := t0.out.a.cell 1
  have ax2 : W.cell? ⟨w.heap.size, 2, none⟩ = some (.bool x2) := t0.out.a.cell 2
  have ax3 : W.cell? ⟨w.heap.size, 3, none⟩ = some (v3) := t0.out.a.cell 3
  have ax4 : W.cell? ⟨w.heap.size, 4, none⟩ = some (v4) := t0.out.a.cell 4
  go_wp2_with fail
  refine (dSzOpS v0 n0 cs0 _ _ (hA0'.out.on t0.out.on (Nat.le_refl _)) HT0.out (by omega) (by omega)).mono ?_
  rintro e w1 ⟨hb, hc⟩
  obtain ⟨m1, hm1⟩ : ∃ m, n0 + bigL cs0 = m := ⟨_, rfl⟩
  rw [hm1] at hc
  have HM1 : Hid (n0 + bigL cs0 = m1) := hm1
  clear hm1
  have t1 : Hid (One w w1 #[v0, .int .i64 x1, .bool x2, v3, v4] 82) := t0.out.call hb
  clear hb ax0 ax1 ax2 ax3 ax4
  have ax0 : w1.cell? ⟨w.heap.size, 0, none⟩ = some (v0) := t1.out.a.cell 0
  have ax1 : w1.cell? ⟨w.heap.size, 1, none⟩ = some (.int .i64 x1) := t1.out.a.cell 1
  have ax2 : w1.cell? ⟨w.heap.size, 2, none⟩ = some (.bool x2) := t1.out.a.cell 2
  have ax3 : w1.cell? ⟨w.heap.size, 3, none⟩ = some (v3) := t1.out.a.cell 3
  have ax4 : w1.cell? ⟨w.heap.size, 4, none⟩ = some (v4) := t1.out.a.cell 4
  rcases hc with ⟨r1, rfl, hr1, hq1⟩ | ⟨rfl, hr1⟩
  rotate_left
  · go_wp2
    go_ret
    refine ⟨t1.out.on, .inr ⟨rfl, ?_⟩⟩
    have e : bigL [.l 57 3 n0 cs0, .i x1, .b x2, .l 176 2 n3 cs3, .l 180 4 n4 cs4] = ((n0 + bigL cs0) + (n3 + bigL cs3) + (n4 + bigL cs4)) := by simp [bigL, Cel.big]; try omega
    rw [e]
    have e1 := HM1.out
    (try simp only [bigL, Cel.big] at *)
    omega
  have g1 : ¬ r1 < 0 := by omega
  go_wp2_with fail
  refine (dSzPairS v3 n3 cs3 _ _ (hA3'.out.on t1.out.on (Nat.le_refl _)) HT3.out (by omega) (by omega)).mono ?_
  rintro e w2 ⟨hb, hc⟩
  obtain ⟨m2, hm2⟩ : ∃ m, n3 + bigL cs3 = m := ⟨_, rfl⟩
  rw [hm2] at hc
  have HM2 : Hid (n3 + bigL cs3 = m2) := hm2
  clear hm2
  have t2 : Hid (One w w2 #[v0, .int .i64 x1, .bool x2, v3, v4] 82) := t1.out.call hb
  clear hb ax0 ax1 ax2 ax3 ax4
  have ax0 : w2.cell? ⟨w.heap.size, 0, none⟩ = some (v0) := t2.out.a.cell 0
  have ax1 : w2.cell? ⟨w.heap.size, 1, none⟩ = some (.int .i64 x1) := t2.out.a.cell 1
  have ax2 : w2.cell? ⟨w.heap.size, 2, none⟩ = some (.bool x2) := t2.out.a.cell 2
  have ax3 : w2.cell? ⟨w.heap.size, 3, none⟩ = some (v3) := t2.out.a.cell 3
  have ax4 : w2.cell? ⟨w.heap.size, 4, none⟩ = some (v4) := t2.out.a.cell 4
  rcases hc with ⟨r2, rfl, hr2, hq2⟩ | ⟨rfl, hr2⟩
  rotate_left
  · go_wp2
    go_ret
    refine ⟨t2.out.on, .inr ⟨rfl, ?_⟩⟩
    have e : bigL [.l 57 3 n0 cs0, .i x1, .b x2, .l 176 2 n3 cs3, .l 180 4 n4 cs4] = ((n0 + bigL cs0) + (n3 + bigL cs3) + (n4 + bigL cs4)) := by simp [bigL, Cel.big]; try omega
    rw [e]
    have e1 := HM1.out
    have e2 := HM2.out
    (try simp only [bigL, Cel.big] at *)
    omega
  have g2 : ¬ r2 < 0 := by omega
  go_wp2_with fail
  refine (dSzHelpS v4 n4 cs4 _ _ (hA4'.out.on t2.out.on (Nat.le_refl _)) HT4.out (by omega) (by omega)).mono ?_
  rintro e w3 ⟨hb, hc⟩
  obtain ⟨m3, hm3⟩ : ∃ m, n4 + bigL cs4 = m := ⟨_, rfl⟩
  rw [hm3] at hc
  have HM3 : Hid (n4 + bigL cs4 = m3) := hm3
  clear hm3
  have t3 : Hid (One w w3 #[v0, .int .i64 x1, .bool x2, v3, v4] 82) := t2.out.call hb
  clear hb ax0 ax1 ax2 ax3 ax4
  have ax0 : w3.cell? ⟨w.heap.size, 0, none⟩ = some (v0) := t3.out.a.cell 0
  have ax1 : w3.cell? ⟨w.heap.size, 1, none⟩ = some (.int .i64 x1) := t3.out.a.cell 1
  have ax2 : w3.cell? ⟨w.heap.size, 2, none⟩ = some (.bool x2) := t3.out.a.cell 2
  have ax3 : w3.cell? ⟨w.heap.size, 3, none⟩ = some (v3) := t3.out.a.cell 3
  have ax4 : w3.cell? ⟨w.heap.size, 4, none⟩ = some (v4) := t3.out.a.cell 4
  rcases hc with ⟨r3, rfl, hr3, hq3⟩ | ⟨rfl, hr3⟩
  rotate_left
  · go_wp2
    go_ret
    refine ⟨t3.out.on, .inr ⟨rfl, ?_⟩⟩
    have e : bigL [.l 57 3 n0 cs0, .i x1, .b x2, .l 176 2 n3 cs3, .l 180 4 n4 cs4] = ((n0 + bigL cs0) + (n3 + bigL cs3) + (n4 + bigL cs4)) := by simp [bigL, Cel.big]; try omega
    rw [e]
    have e1 := HM1.out
    have e2 := HM2.out
    have e3 := HM3.out
    (try simp only [bigL, Cel.big] at *)
    omega
  have g3 : ¬ r3 < 0 := by omega
  go_wp2
  go_ret
  refine ⟨t3.out.on, .inl ⟨_, rfl, ?_⟩⟩
  have e : bigL [.l 57 3 n0 cs0, .i x1, .b x2, .l 176 2 n3 cs3, .l 180 4 n4 cs4] = (n0 + bigL cs0) + (n3 + bigL cs3) + (n4 + bigL cs4) := by simp [bigL, Cel.big]; try omega
  rw [e]
  have e1 := HM1.out
  have e2 := HM2.out
  have e3 := HM3.out
  (try simp only [bigL, Cel.big] at *)
  omega
set_option maxHeartbeats 2000000 in
theorem dSzThreadS (v : Value) (n : Nat) (cs : List Cel) (left : Int) (w : World) (h : In w v (.l 100 5 n cs)) (hs : Has (.l 100 5 n cs) (.l 100 5 tyThread)) (h0 : 0 ≤ left) (h1 : left ≤ 2097152) :
    Calls Tryz.prog 10 #[v, .int .i64 left] w (Left w (n + bigL cs) left) := by
  obtain ⟨a, c, vs, rfl, h2, h3, hn, h4, h5⟩ := h.openL
  have SRC : Hid (n = 0 ∨ ∃ b o, a = some ⟨b, o, none⟩ ∧ ∀ j, j < n * 5 → w.cell? ⟨b, o + j, none⟩ = vs[j]?) := h4
  have HV : Hid (∀ j, j < n → InL w ((vs.drop (j * 5)).take 5) (row cs 5 j)) := fun j hj => rowIn h2 h3 h5 hj
  have HR : Hid (∀ j, j < n → HasL (row cs 5 j) tyThread) := fun j hj => hs.rowL hj
  have L1 : Hid (vs.length = n * 5) := h2
  have L2 : Hid (cs.length = n * 5) := h3
  clear h h2 h3 h4 h5 hs
  by_cases hl : (n : Int) ≤ left
  rotate_left
  · have h2 : left - (n : Int) < 0 := by omega
    go_enter Tryz.func10, Tryz.ntmps10
    go_wp2
    go_ret
    exact ⟨Below.refl _ _, .inr ⟨rfl, by omega⟩⟩
  have h2 : ¬ (left - (n : Int) < 0) := by omega
  go_enter Tryz.func10, Tryz.ntmps10
  go_wp2
  go_loopw [1, 5] (fun l i wr => ∃ (j : Nat) (r : Int), j ≤ n ∧ l = .int .i64 r ∧ i = .int .i64 (j : Int) ∧ 0 ≤ r ∧ r = left - (n : Int) - (bigL (cs.take (j * 5)) : Int) ∧ Below w.heap.size w wr) (fun _ i _ => n - (intOf i).toNat)
  case atStart => exact ⟨0, left - n, Nat.zero_le _, rfl, rfl, by omega, by simp [bigL], Below.refl _ _⟩
  case round =>
    obtain ⟨j, r, hj, rfl, rfl, hr0, hr1, hb⟩ := hrel
    have HQ : Hid (r = left - (n : Int) - (bigL (cs.take (j * 5)) : Int)) := hr1
    have hr2 : r ≤ 2097152 := by omega
    clear hr1
    by_cases hlt : j < n
    · rcases SRC.out with h0' | ⟨p1, o1, rfl, g1⟩
      · omega
      have hk0 : (0 : Int) ≤ (j : Int) := by omega
      have hk1 : (j : Int) < (n : Int) := by omega
      have hle : j * 5 + 5 ≤ n * 5 := by omega
      have hA := HV.out j hlt
      have hH := HR.out j hlt
      have ce : ∀ i, i < 5 → wr.cell? ⟨p1, o1 + (j * 5 + i), none⟩ = ((vs.drop (j * 5)).take 5)[i]? := fun i hi => by
        have h5 := g1 (j * 5 + i) (by omega)
        rw [List.getElem?_take_of_lt hi, List.getElem?_drop, ← h5]
        have h6 : w.cell? ⟨p1, o1 + (j * 5 + i), none⟩ = some (vs[j * 5 + i]'(by have := L1.out; omega)) := by rw [h5, List.getElem?_eq_getElem (by have := L1.out; omega)]
        exact hb.cell (show p1 < w.heap.size from World.block_lt_of_cell? w _ h6)
      obtain ⟨rs, hrs⟩ : ∃ rs, row cs 5 j = rs := ⟨_, rfl⟩
      obtain ⟨ws, hws⟩ : ∃ ws, (vs.drop (j * 5)).take 5 = ws := ⟨_, rfl⟩
      have HRS : Hid (row cs 5 j = rs) := hrs
      rw [hrs] at hA hH
      rw [hws] at hA ce
      clear g1 hrs hws
      obtain ⟨c0, r0, rfl, T0, hH0⟩ := hH.cons
      obtain ⟨c1, r1, rfl, T1, hH1⟩ := hH0.cons
      obtain ⟨c2, r2, rfl, T2, hH2⟩ := hH1.cons
      obtain ⟨c3, r3, rfl, T3, hH3⟩ := hH2.cons
      obtain ⟨c4, r4, rfl, T4, hH4⟩ := hH3.cons
      obtain rfl := hH4.nil
      have HL0 : Hid (HasL [c0, c1, c2, c3, c4] tyThread) := hH
      obtain ⟨v0, vr0, rfl, A0, hA0⟩ := hA.consE
      obtain ⟨v1, vr1, rfl, A1, hA1⟩ := hA0.consE
      obtain ⟨v2, vr2, rfl, A2, hA2⟩ := hA1.consE
      obtain ⟨v3, vr3, rfl, A3, hA3⟩ := hA2.consE
      obtain ⟨v4, vr4, rfl, A4, hA4⟩ := hA3.consE
      obtain rfl := hA4.nilE
      have HA0 : Hid (InL w [v0, v1, v2, v3, v4] [c0, c1, c2, c3, c4]) := hA
      have e0 : wr.cell? ⟨p1, o1 + j * 5, none⟩ = some v0 := ce 0 (by omega)
      have e1 : wr.cell? ⟨p1, o1 + j * 5 + 1, none⟩ = some v1 := ce 1 (by omega)
      have e2 : wr.cell? ⟨p1, o1 + j * 5 + 2, none⟩ = some v2 := ce 2 (by omega)
      have e3 : wr.cell? ⟨p1, o1 + j * 5 + 3, none⟩ = some v3 := ce 3 (by omega)
      have e4 : wr.cell? ⟨p1, o1 + j * 5 + 4, none⟩ = some v4 := ce 4 (by omega)
      clear ce hA hH hA0 hH0 T0 A0 hA1 hH1 T1 A1 hA2 hH2 T2 A2 hA3 hH3 T3 A3 hA4 hH4 T4 A4
      obtain ⟨m, hm⟩ : ∃ m, bigL [c0, c1, c2, c3, c4] = m := ⟨_, rfl⟩
      have HM : Hid (bigL (cs.take ((j + 1) * 5)) = bigL (cs.take (j * 5)) + m) := by show _ = _; rw [row_split, bigL_append, HRS.out, hm]
      have MON : Hid (bigL (cs.take ((j + 1) * 5)) ≤ bigL cs) := by
        show _ ≤ _
        have := bigL_append (cs.take ((j + 1) * 5)) (cs.drop ((j + 1) * 5))
        rw [List.take_append_drop] at this
        omega
      go_wp2_with fail
      refine (dSzThread [v0, v1, v2, v3, v4] [c0, c1, c2, c3, c4] _ _ (HA0.out.on hb (Nat.le_refl _)) HL0.out hr0 hr2).mono ?_
      rintro e w2 ⟨hb2, hc⟩
      rw [hm] at hc
      have hb02 : Below w.heap.size w w2 := hb.trans (hb2.mono hb.size)
      clear hb2 hm e0 e1 e2 e3 e4
      rcases hc with ⟨r2, rfl, hq1, rfl⟩ | ⟨rfl, hq⟩
      · have g : ¬ r - (m : Int) < 0 := by omega
        go_wp2
        exact ⟨⟨j + 1, r - (m : Int), by omega, rfl, by go_num, by omega, by have h5 := HM.out; have h6 := HQ.out; omega, hb02⟩, by simp [intOf]; omega⟩
      · go_wp2
        go_ret
        exact ⟨hb02, .inr ⟨rfl, by have h5 := HM.out; have h6 := HQ.out; have h7 := MON.out; omega⟩⟩
    · obtain rfl : j = n := by omega
      have HE : Hid (cs.take (j * 5) = cs) := List.take_of_length_le (by have := L2.out; omega)
      go_wp2
      go_ret
      refine ⟨hb, .inl ⟨_, rfl, ?_⟩⟩
      have h6 := HQ.out
      rw [HE.out] at h6
      omega
set_option maxHeartbeats 2000000 in
theorem dSzRes (vs : List Value) (cs : List Cel) (left : Int) (w : World) (h : InL w vs cs) (hs : HasL cs tyRes) (h0 : 0 ≤ left) (h1 : left ≤ 2097152) : Calls Tryz.prog 64 #[.agg vs.toArray, .int .i64 left] w (Left w (bigL cs) left) := by
  obtain ⟨c0, r0, rfl, T0, hH0⟩ := hs.cons
  obtain ⟨c1, r1, rfl, T1, hH1⟩ := hH0.cons
  obtain rfl := hH1.nil
  obtain ⟨v0, vr0, rfl, A0, hA0⟩ := h.consE
  obtain ⟨v1, vr1, rfl, A1, hA1⟩ := hA0.consE
  obtain rfl := hA1.nilE
  obtain ⟨x0, rfl⟩ := T0.int
  obtain rfl := A0.int
  obtain ⟨n1, cs1, rfl, -⟩ := T1.list
  have HT1 : Hid (Has (.l 3 1 n1 cs1) (.l 3 1 [.i])) := T1
  have hA1' : Hid (In w v1 (.l 3 1 n1 cs1)) := A1
  clear hs h hA0 hH0 T0 A0 hA1 hH1 T1 A1
  obtain ⟨W, hW⟩ : ∃ W, w.alloc (.cells #[.int .i64 x0, v1] 85) = W := ⟨_, rfl⟩
  have t0 : Hid (One w W #[.int .i64 x0, v1] 85) := by rw [← hW]; exact one_new w _ _
  have HW : Hid _ := hW
  clear hW
  go_enter Tryz.func64, Tryz.ntmps64
  go_upto_region 1 with (fail)
  rw [HW.out]
  have ax0 : W.cell? ⟨w.heap.size, 0, none⟩ = some (.int .i64 x0) := t0.out.a.cell 0
  have ax1 : W.cell? ⟨w.heap.size, 1, none⟩ = some (v1) := t0.out.a.cell 1
  go_wp2_with fail
  refine (dSzIntS v1 n1 cs1 _ _ (hA1'.out.on t0.out.on (Nat.le_refl _)) HT1.out (by omega) (by omega)).mono ?_
  rintro e w1 ⟨hb, hc⟩
  obtain ⟨m1, hm1⟩ : ∃ m, n1 + bigL cs1 = m := ⟨_, rfl⟩
  rw [hm1] at hc
  have HM1 : Hid (n1 + bigL cs1 = m1) := hm1
  clear hm1
  have t1 : Hid (One w w1 #[.int .i64 x0, v1] 85) := t0.out.call hb
  clear hb ax0 ax1
  have ax0 : w1.cell? ⟨w.heap.size, 0, none⟩ = some (.int .i64 x0) := t1.out.a.cell 0
  have ax1 : w1.cell? ⟨w.heap.size, 1, none⟩ = some (v1) := t1.out.a.cell 1
  rcases hc with ⟨r1, rfl, hr1, hq1⟩ | ⟨rfl, hr1⟩
  rotate_left
  · go_wp2
    go_ret
    refine ⟨t1.out.on, .inr ⟨rfl, ?_⟩⟩
    have e : bigL [.i x0, .l 3 1 n1 cs1] = ((n1 + bigL cs1)) := by simp [bigL, Cel.big]; try omega
    rw [e]
    have e1 := HM1.out
    (try simp only [bigL, Cel.big] at *)
    omega
  have g1 : ¬ r1 < 0 := by omega
  go_wp2
  go_ret
  refine ⟨t1.out.on, .inl ⟨_, rfl, ?_⟩⟩
  have e : bigL [.i x0, .l 3 1 n1 cs1] = (n1 + bigL cs1) := by simp [bigL, Cel.big]; try omega
  rw [e]
  have e1 := HM1.out
  (try simp only [bigL, Cel.big] at *)
  omega
set_option maxHeartbeats 2000000 in
theorem dSzRows (vs : List Value) (cs : List Cel) (left : Int) (w : World) (h : InL w vs cs) (hs : HasL cs tyRows) (h0 : 0 ≤ left) (h1 : left ≤ 2097152) : Calls Tryz.prog 13 #[.agg vs.toArray, .int .i64 left] w (Left w (bigL cs) left) := by
  obtain ⟨c0, r0, rfl, T0, hH0⟩ := hs.cons
  obtain ⟨c1, r1, rfl, T1, hH1⟩ := hH0.cons
  obtain rfl := hH1.nil
  obtain ⟨v0, vr0, rfl, A0, hA0⟩ := h.consE
  obtain ⟨v1, vr1, rfl, A1, hA1⟩ := hA0.consE
  obtain rfl := hA1.nilE
  obtain ⟨n0, cs0, rfl, -⟩ := T0.list
  have HT0 : Hid (Has (.l 3 1 n0 cs0) (.l 3 1 [.i])) := T0
  have hA0' : Hid (In w v0 (.l 3 1 n0 cs0)) := A0
  obtain ⟨x1, rfl⟩ := T1.int
  obtain rfl := A1.int
  clear hs h hA0 hH0 T0 A0 hA1 hH1 T1 A1
  obtain ⟨W, hW⟩ : ∃ W, w.alloc (.cells #[v0, .int .i64 x1] 30) = W := ⟨_, rfl⟩
  have t0 : Hid (One w W #[v0, .int .i64 x1] 30) := by rw [← hW]; exact one_new w _ _
  have HW : Hid _ := hW
  clear hW
  go_enter Tryz.func13, Tryz.ntmps13
  go_upto_region 1 with (fail)
  rw [HW.out]
  have ax0 : W.cell? ⟨w.heap.size, 0, none⟩ = some (v0) := t0.out.a.cell 0
  have ax1 : W.cell? ⟨w.heap.size, 1, none⟩ = some (.int .i64 x1) := t0.out.a.cell 1
  go_wp2_with fail
  refine (dSzIntS v0 n0 cs0 _ _ (hA0'.out.on t0.out.on (Nat.le_refl _)) HT0.out (by omega) (by omega)).mono ?_
  rintro e w1 ⟨hb, hc⟩
  obtain ⟨m1, hm1⟩ : ∃ m, n0 + bigL cs0 = m := ⟨_, rfl⟩
  rw [hm1] at hc
  have HM1 : Hid (n0 + bigL cs0 = m1) := hm1
  clear hm1
  have t1 : Hid (One w w1 #[v0, .int .i64 x1] 30) := t0.out.call hb
  clear hb ax0 ax1
  have ax0 : w1.cell? ⟨w.heap.size, 0, none⟩ = some (v0) := t1.out.a.cell 0
  have ax1 : w1.cell? ⟨w.heap.size, 1, none⟩ = some (.int .i64 x1) := t1.out.a.cell 1
  rcases hc with ⟨r1, rfl, hr1, hq1⟩ | ⟨rfl, hr1⟩
  rotate_left
  · go_wp2
    go_ret
    refine ⟨t1.out.on, .inr ⟨rfl, ?_⟩⟩
    have e : bigL [.l 3 1 n0 cs0, .i x1] = ((n0 + bigL cs0)) := by simp [bigL, Cel.big]; try omega
    rw [e]
    have e1 := HM1.out
    (try simp only [bigL, Cel.big] at *)
    omega
  have g1 : ¬ r1 < 0 := by omega
  go_wp2
  go_ret
  refine ⟨t1.out.on, .inl ⟨_, rfl, ?_⟩⟩
  have e : bigL [.l 3 1 n0 cs0, .i x1] = (n0 + bigL cs0) := by simp [bigL, Cel.big]; try omega
  rw [e]
  have e1 := HM1.out
  (try simp only [bigL, Cel.big] at *)
  omega
set_option maxHeartbeats 2000000 in
theorem dSzDesc (vs : List Value) (cs : List Cel) (left : Int) (w : World) (h : InL w vs cs) (hs : HasL cs tyDesc) (h0 : 0 ≤ left) (h1 : left ≤ 2097152) : Calls Tryz.prog 60 #[.agg vs.toArray, .int .i64 left] w (Left w (bigL cs) left) := by
  obtain ⟨c0, r0, rfl, T0, hH0⟩ := hs.cons
  obtain ⟨c1, r1, rfl, T1, hH1⟩ := hH0.cons
  obtain ⟨c2, r2, rfl, T2, hH2⟩ := hH1.cons
  obtain ⟨c3, r3, rfl, T3, hH3⟩ := hH2.cons
  obtain ⟨c4, r4, rfl, T4, hH4⟩ := hH3.cons
  obtain rfl := hH4.nil
  obtain ⟨v0, vr0, rfl, A0, hA0⟩ := h.consE
  obtain ⟨v1, vr1, rfl, A1, hA1⟩ := hA0.consE
  obtain ⟨v2, vr2, rfl, A2, hA2⟩ := hA1.consE
  obtain ⟨v3, vr3, rfl, A3, hA3⟩ := hA2.consE
  obtain ⟨v4, vr4, rfl, A4, hA4⟩ := hA3.consE
  obtain rfl := hA4.nilE
  obtain ⟨x0, rfl⟩ := T0.int
  obtain rfl := A0.int
  obtain ⟨x1, rfl⟩ := T1.int
  obtain rfl := A1.int
  obtain ⟨n2, cs2, rfl, -⟩ := T2.list
  have HT2 : Hid (Has (.l 139 3 n2 cs2) (.l 139 3 tyEntry)) := T2
  have hA2' : Hid (In w v2 (.l 139 3 n2 cs2)) := A2
  obtain ⟨x3, rfl⟩ := T3.int
  obtain rfl := A3.int
  obtain ⟨n4, cs4, rfl, -⟩ := T4.list
  have HT4 : Hid (Has (.l 3 1 n4 cs4) (.l 3 1 [.i])) := T4
  have hA4' : Hid (In w v4 (.l 3 1 n4 cs4)) := A4
  have HN3 : Hid (InL w [.int .i64 x3, v4] [.i x3, .l 3 1 n4 cs4]) := InL.cons (.i x3) (InL.cons (hA4'.out) (InL.nil))
  have HH3 : Hid (HasL [.i x3, .l 3 1 n4 cs4] tyRes) := ⟨rfl, fun j c t hc ht => by
    have hj : j < 2 := by have := (List.getElem?_eq_some_iff.1 hc).1; simpa using this
    rcases (show j = 0 ∨ j = 1 by omega) with rfl | rfl <;> (simp [tyRes] at hc ht; subst hc ht)
    · exact .i x3
    · exact HT4.out⟩
  clear hs h hA0 hH0 T0 A0 hA1 hH1 T1 A1 hA2 hH2 T2 A2 hA3 hH3 T3 A3 hA4 hH4 T4 A4
  obtain ⟨W, hW⟩ : ∃ W, w.alloc (.cells #[.int .i64 x0, .int .i64 x1, v2, .int .i64 x3, v4] 127) = W := ⟨_, rfl⟩
  have t0 : Hid (One w W #[.int .i64 x0, .int .i64 x1, v2, .int .i64 x3, v4] 127) := by rw [← hW]; exact one_new w _ _
  have HW : Hid _ := hW
  clear hW
  go_enter Tryz.func60, Tryz.ntmps60
  go_upto_region 1 with (fail)
  rw [HW.out]
  have ax0 : W.cell? ⟨w.heap.size, 0, none⟩ = some (.int .i64 x0) := t0.out.a.cell 0
  have ax1 : W.cell? ⟨w.heap.size, 1, none⟩ = some (.int .i64 x1) := t0.out.a.cell 1
  have ax2 : W.cell? ⟨w.heap.size, 2, none⟩ = some (v2) := t0.out.a.cell 2
  have ax3 : W.cell? ⟨w.heap.size, 3, none⟩ = some (.int .i64 x3) := t0.out.a.cell 3
  have ax4 : W.cell? ⟨w.heap.size, 4, none⟩ = some (v4) := t0.out.a.cell 4
  go_wp2_with fail
  refine (dSzEntryS v2 n2 cs2 _ _ (hA2'.out.on t0.out.on (Nat.le_refl _)) HT2.out (by omega) (by omega)).mono ?_
  rintro e w1 ⟨hb, hc⟩
  obtain ⟨m1, hm1⟩ : ∃ m, n2 + bigL cs2 = m := ⟨_, rfl⟩
  rw [hm1] at hc
  have HM1 : Hid (n2 + bigL cs2 = m1) := hm1
  clear hm1
  have t1 : Hid (One w w1 #[.int .i64 x0, .int .i64 x1, v2, .int .i64 x3, v4] 127) := t0.out.call hb
  clear hb ax0 ax1 ax2 ax3 ax4
  have ax0 : w1.cell? ⟨w.heap.size, 0, none⟩ = some (.int .i64 x0) := t1.out.a.cell 0
  have ax1 : w1.cell? ⟨w.heap.size, 1, none⟩ = some (.int .i64 x1) := t1.out.a.cell 1
  have ax2 : w1.cell? ⟨w.heap.size, 2, none⟩ = some (v2) := t1.out.a.cell 2
  have ax3 : w1.cell? ⟨w.heap.size, 3, none⟩ = some (.int .i64 x3) := t1.out.a.cell 3
  have ax4 : w1.cell? ⟨w.heap.size, 4, none⟩ = some (v4) := t1.out.a.cell 4
  rcases hc with ⟨r1, rfl, hr1, hq1⟩ | ⟨rfl, hr1⟩
  rotate_left
  · go_wp2
    go_ret
    refine ⟨t1.out.on, .inr ⟨rfl, ?_⟩⟩
    have e : bigL [.i x0, .i x1, .l 139 3 n2 cs2, .i x3, .l 3 1 n4 cs4] = ((n2 + bigL cs2) + (n4 + bigL cs4)) := by simp [bigL, Cel.big]; try omega
    rw [e]
    have e1 := HM1.out
    (try simp only [bigL, Cel.big] at *)
    omega
  have g1 : ¬ r1 < 0 := by omega
  go_wp2_with fail
  refine (dSzRes [.int .i64 x3, v4] [.i x3, .l 3 1 n4 cs4] _ _ (HN3.out.on t1.out.on (Nat.le_refl _)) HH3.out (by omega) (by omega)).mono ?_
  rintro e w2 ⟨hb, hc⟩
  obtain ⟨m2, hm2⟩ : ∃ m, bigL [.i x3, .l 3 1 n4 cs4] = m := ⟨_, rfl⟩
  rw [hm2] at hc
  have HM2 : Hid (bigL [.i x3, .l 3 1 n4 cs4] = m2) := hm2
  clear hm2
  have t2 : Hid (One w w2 #[.int .i64 x0, .int .i64 x1, v2, .int .i64 x3, v4] 127) := t1.out.call hb
  clear hb ax0 ax1 ax2 ax3 ax4
  have ax0 : w2.cell? ⟨w.heap.size, 0, none⟩ = some (.int .i64 x0) := t2.out.a.cell 0
  have ax1 : w2.cell? ⟨w.heap.size, 1, none⟩ = some (.int .i64 x1) := t2.out.a.cell 1
  have ax2 : w2.cell? ⟨w.heap.size, 2, none⟩ = some (v2) := t2.out.a.cell 2
  have ax3 : w2.cell? ⟨w.heap.size, 3, none⟩ = some (.int .i64 x3) := t2.out.a.cell 3
  have ax4 : w2.cell? ⟨w.heap.size, 4, none⟩ = some (v4) := t2.out.a.cell 4
  rcases hc with ⟨r2, rfl, hr2, hq2⟩ | ⟨rfl, hr2⟩
  rotate_left
  · go_wp2
    go_ret
    refine ⟨t2.out.on, .inr ⟨rfl, ?_⟩⟩
    have e : bigL [.i x0, .i x1, .l 139 3 n2 cs2, .i x3, .l 3 1 n4 cs4] = ((n2 + bigL cs2) + (n4 + bigL cs4)) := by simp [bigL, Cel.big]; try omega
    rw [e]
    have e1 := HM1.out
    have e2 := HM2.out
    (try simp only [bigL, Cel.big] at *)
    omega
  have g2 : ¬ r2 < 0 := by omega
  go_wp2
  go_ret
  refine ⟨t2.out.on, .inl ⟨_, rfl, ?_⟩⟩
  have e : bigL [.i x0, .i x1, .l 139 3 n2 cs2, .i x3, .l 3 1 n4 cs4] = (n2 + bigL cs2) + (n4 + bigL cs4) := by simp [bigL, Cel.big]; try omega
  rw [e]
  have e1 := HM1.out
  have e2 := HM2.out
  (try simp only [bigL, Cel.big] at *)
  omega
set_option maxHeartbeats 2000000 in
theorem dSzDescS (v : Value) (n : Nat) (cs : List Cel) (left : Int) (w : World) (h : In w v (.l 137 5 n cs)) (hs : Has (.l 137 5 n cs) (.l 137 5 tyDesc)) (h0 : 0 ≤ left) (h1 : left ≤ 2097152) :
    Calls Tryz.prog 34 #[v, .int .i64 left] w (Left w (n + bigL cs) left) := by
  obtain ⟨a, c, vs, rfl, h2, h3, hn, h4, h5⟩ := h.openL
  have SRC : Hid (n = 0 ∨ ∃ b o, a = some ⟨b, o, none⟩ ∧ ∀ j, j < n * 5 → w.cell? ⟨b, o + j, none⟩ = vs[j]?) := h4
  have HV : Hid (∀ j, j < n → InL w ((vs.drop (j * 5)).take 5) (row cs 5 j)) := fun j hj => rowIn h2 h3 h5 hj
  have HR : Hid (∀ j, j < n → HasL (row cs 5 j) tyDesc) := fun j hj => hs.rowL hj
  have L1 : Hid (vs.length = n * 5) := h2
  have L2 : Hid (cs.length = n * 5) := h3
  clear h h2 h3 h4 h5 hs
  by_cases hl : (n : Int) ≤ left
  rotate_left
  · have h2 : left - (n : Int) < 0 := by omega
    go_enter Tryz.func34, Tryz.ntmps34
    go_wp2
    go_ret
    exact ⟨Below.refl _ _, .inr ⟨rfl, by omega⟩⟩
  have h2 : ¬ (left - (n : Int) < 0) := by omega
  go_enter Tryz.func34, Tryz.ntmps34
  go_wp2
  go_loopw [1, 5] (fun l i wr => ∃ (j : Nat) (r : Int), j ≤ n ∧ l = .int .i64 r ∧ i = .int .i64 (j : Int) ∧ 0 ≤ r ∧ r = left - (n : Int) - (bigL (cs.take (j * 5)) : Int) ∧ Below w.heap.size w wr) (fun _ i _ => n - (intOf i).toNat)
  case atStart => exact ⟨0, left - n, Nat.zero_le _, rfl, rfl, by omega, by simp [bigL], Below.refl _ _⟩
  case round =>
    obtain ⟨j, r, hj, rfl, rfl, hr0, hr1, hb⟩ := hrel
    have HQ : Hid (r = left - (n : Int) - (bigL (cs.take (j * 5)) : Int)) := hr1
    have hr2 : r ≤ 2097152 := by omega
    clear hr1
    by_cases hlt : j < n
    · rcases SRC.out with h0' | ⟨p1, o1, rfl, g1⟩
      · omega
      have hk0 : (0 : Int) ≤ (j : Int) := by omega
      have hk1 : (j : Int) < (n : Int) := by omega
      have hle : j * 5 + 5 ≤ n * 5 := by omega
      have hA := HV.out j hlt
      have hH := HR.out j hlt
      have ce : ∀ i, i < 5 → wr.cell? ⟨p1, o1 + (j * 5 + i), none⟩ = ((vs.drop (j * 5)).take 5)[i]? := fun i hi => by
        have h5 := g1 (j * 5 + i) (by omega)
        rw [List.getElem?_take_of_lt hi, List.getElem?_drop, ← h5]
        have h6 : w.cell? ⟨p1, o1 + (j * 5 + i), none⟩ = some (vs[j * 5 + i]'(by have := L1.out; omega)) := by rw [h5, List.getElem?_eq_getElem (by have := L1.out; omega)]
        exact hb.cell (show p1 < w.heap.size from World.block_lt_of_cell? w _ h6)
      obtain ⟨rs, hrs⟩ : ∃ rs, row cs 5 j = rs := ⟨_, rfl⟩
      obtain ⟨ws, hws⟩ : ∃ ws, (vs.drop (j * 5)).take 5 = ws := ⟨_, rfl⟩
      have HRS : Hid (row cs 5 j = rs) := hrs
      rw [hrs] at hA hH
      rw [hws] at hA ce
      clear g1 hrs hws
      obtain ⟨c0, r0, rfl, T0, hH0⟩ := hH.cons
      obtain ⟨c1, r1, rfl, T1, hH1⟩ := hH0.cons
      obtain ⟨c2, r2, rfl, T2, hH2⟩ := hH1.cons
      obtain ⟨c3, r3, rfl, T3, hH3⟩ := hH2.cons
      obtain ⟨c4, r4, rfl, T4, hH4⟩ := hH3.cons
      obtain rfl := hH4.nil
      have HL0 : Hid (HasL [c0, c1, c2, c3, c4] tyDesc) := hH
      obtain ⟨v0, vr0, rfl, A0, hA0⟩ := hA.consE
      obtain ⟨v1, vr1, rfl, A1, hA1⟩ := hA0.consE
      obtain ⟨v2, vr2, rfl, A2, hA2⟩ := hA1.consE
      obtain ⟨v3, vr3, rfl, A3, hA3⟩ := hA2.consE
      obtain ⟨v4, vr4, rfl, A4, hA4⟩ := hA3.consE
      obtain rfl := hA4.nilE
      have HA0 : Hid (InL w [v0, v1, v2, v3, v4] [c0, c1, c2, c3, c4]) := hA
      have e0 : wr.cell? ⟨p1, o1 + j * 5, none⟩ = some v0 := ce 0 (by omega)
      have e1 : wr.cell? ⟨p1, o1 + j * 5 + 1, none⟩ = some v1 := ce 1 (by omega)
      have e2 : wr.cell? ⟨p1, o1 + j * 5 + 2, none⟩ = some v2 := ce 2 (by omega)
      have e3 : wr.cell? ⟨p1, o1 + j * 5 + 3, none⟩ = some v3 := ce 3 (by omega)
      have e4 : wr.cell? ⟨p1, o1 + j * 5 + 4, none⟩ = some v4 := ce 4 (by omega)
      clear ce hA hH hA0 hH0 T0 A0 hA1 hH1 T1 A1 hA2 hH2 T2 A2 hA3 hH3 T3 A3 hA4 hH4 T4 A4
      obtain ⟨m, hm⟩ : ∃ m, bigL [c0, c1, c2, c3, c4] = m := ⟨_, rfl⟩
      have HM : Hid (bigL (cs.take ((j + 1) * 5)) = bigL (cs.take (j * 5)) + m) := by show _ = _; rw [row_split, bigL_append, HRS.out, hm]
      have MON : Hid (bigL (cs.take ((j + 1) * 5)) ≤ bigL cs) := by
        show _ ≤ _
        have := bigL_append (cs.take ((j + 1) * 5)) (cs.drop ((j + 1) * 5))
        rw [List.take_append_drop] at this
        omega
      go_wp2_with fail
      refine (dSzDesc [v0, v1, v2, v3, v4] [c0, c1, c2, c3, c4] _ _ (HA0.out.on hb (Nat.le_refl _)) HL0.out hr0 hr2).mono ?_
      rintro e w2 ⟨hb2, hc⟩
      rw [hm] at hc
      have hb02 : Below w.heap.size w w2 := hb.trans (hb2.mono hb.size)
      clear hb2 hm e0 e1 e2 e3 e4
      rcases hc with ⟨r2, rfl, hq1, rfl⟩ | ⟨rfl, hq⟩
      · have g : ¬ r - (m : Int) < 0 := by omega
        go_wp2
        exact ⟨⟨j + 1, r - (m : Int), by omega, rfl, by go_num, by omega, by have h5 := HM.out; have h6 := HQ.out; omega, hb02⟩, by simp [intOf]; omega⟩
      · go_wp2
        go_ret
        exact ⟨hb02, .inr ⟨rfl, by have h5 := HM.out; have h6 := HQ.out; have h7 := MON.out; omega⟩⟩
    · obtain rfl : j = n := by omega
      have HE : Hid (cs.take (j * 5) = cs) := List.take_of_length_le (by have := L2.out; omega)
      go_wp2
      go_ret
      refine ⟨hb, .inl ⟨_, rfl, ?_⟩⟩
      have h6 := HQ.out
      rw [HE.out] at h6
      omega
set_option maxHeartbeats 2000000 in
theorem dSzMem (vs : List Value) (cs : List Cel) (left : Int) (w : World) (h : InL w vs cs) (hs : HasL cs tyMem) (h0 : 0 ≤ left) (h1 : left ≤ 2097152) : Calls Tryz.prog 9 #[.agg vs.toArray, .int .i64 left] w (Left w (bigL cs) left) := by
  obtain ⟨c0, r0, rfl, T0, hH0⟩ := hs.cons
  obtain ⟨c1, r1, rfl, T1, hH1⟩ := hH0.cons
  obtain rfl := hH1.nil
  obtain ⟨v0, vr0, rfl, A0, hA0⟩ := h.consE
  obtain ⟨v1, vr1, rfl, A1, hA1⟩ := hA0.consE
  obtain rfl := hA1.nilE
  obtain ⟨n0, cs0, rfl, -⟩ := T0.list
  have HT0 : Hid (Has (.l 134 3 n0 cs0) (.l 134 3 tyWord)) := T0
  have hA0' : Hid (In w v0 (.l 134 3 n0 cs0)) := A0
  obtain ⟨n1, cs1, rfl, -⟩ := T1.list
  have HT1 : Hid (Has (.l 137 5 n1 cs1) (.l 137 5 tyDesc)) := T1
  have hA1' : Hid (In w v1 (.l 137 5 n1 cs1)) := A1
  clear hs h hA0 hH0 T0 A0 hA1 hH1 T1 A1
  obtain ⟨W, hW⟩ : ∃ W, w.alloc (.cells #[v0, v1] 25) = W := ⟨_, rfl⟩
  have t0 : Hid (One w W #[v0, v1] 25) := by rw [← hW]; exact one_new w _ _
  have HW : Hid _ := hW
  clear hW
  go_enter Tryz.func9, Tryz.ntmps9
  go_upto_region 1 with (fail)
  rw [HW.out]
  have ax0 : W.cell? ⟨w.heap.size, 0, none⟩ = some (v0) := t0.out.a.cell 0
  have ax1 : W.cell? ⟨w.heap.size, 1, none⟩ = some (v1) := t0.out.a.cell 1
  go_wp2_with fail
  refine (dSzWordS v0 n0 cs0 _ _ (hA0'.out.on t0.out.on (Nat.le_refl _)) HT0.out (by omega) (by omega)).mono ?_
  rintro e w1 ⟨hb, hc⟩
  obtain ⟨m1, hm1⟩ : ∃ m, n0 + bigL cs0 = m := ⟨_, rfl⟩
  rw [hm1] at hc
  have HM1 : Hid (n0 + bigL cs0 = m1) := hm1
  clear hm1
  have t1 : Hid (One w w1 #[v0, v1] 25) := t0.out.call hb
  clear hb ax0 ax1
  have ax0 : w1.cell? ⟨w.heap.size, 0, none⟩ = some (v0) := t1.out.a.cell 0
  have ax1 : w1.cell? ⟨w.heap.size, 1, none⟩ = some (v1) := t1.out.a.cell 1
  rcases hc with ⟨r1, rfl, hr1, hq1⟩ | ⟨rfl, hr1⟩
  rotate_left
  · go_wp2
    go_ret
    refine ⟨t1.out.on, .inr ⟨rfl, ?_⟩⟩
    have e : bigL [.l 134 3 n0 cs0, .l 137 5 n1 cs1] = ((n0 + bigL cs0) + (n1 + bigL cs1)) := by simp [bigL, Cel.big]; try omega
    rw [e]
    have e1 := HM1.out
    (try simp only [bigL, Cel.big] at *)
    omega
  have g1 : ¬ r1 < 0 := by omega
  go_wp2_with fail
  refine (dSzDescS v1 n1 cs1 _ _ (hA1'.out.on t1.out.on (Nat.le_refl _)) HT1.out (by omega) (by omega)).mono ?_
  rintro e w2 ⟨hb, hc⟩
  obtain ⟨m2, hm2⟩ : ∃ m, n1 + bigL cs1 = m := ⟨_, rfl⟩
  rw [hm2] at hc
  have HM2 : Hid (n1 + bigL cs1 = m2) := hm2
  clear hm2
  have t2 : Hid (One w w2 #[v0, v1] 25) := t1.out.call hb
  clear hb ax0 ax1
  have ax0 : w2.cell? ⟨w.heap.size, 0, none⟩ = some (v0) := t2.out.a.cell 0
  have ax1 : w2.cell? ⟨w.heap.size, 1, none⟩ = some (v1) := t2.out.a.cell 1
  rcases hc with ⟨r2, rfl, hr2, hq2⟩ | ⟨rfl, hr2⟩
  rotate_left
  · go_wp2
    go_ret
    refine ⟨t2.out.on, .inr ⟨rfl, ?_⟩⟩
    have e : bigL [.l 134 3 n0 cs0, .l 137 5 n1 cs1] = ((n0 + bigL cs0) + (n1 + bigL cs1)) := by simp [bigL, Cel.big]; try omega
    rw [e]
    have e1 := HM1.out
    have e2 := HM2.out
    (try simp only [bigL, Cel.big] at *)
    omega
  have g2 : ¬ r2 < 0 := by omega
  go_wp2
  go_ret
  refine ⟨t2.out.on, .inl ⟨_, rfl, ?_⟩⟩
  have e : bigL [.l 134 3 n0 cs0, .l 137 5 n1 cs1] = (n0 + bigL cs0) + (n1 + bigL cs1) := by simp [bigL, Cel.big]; try omega
  rw [e]
  have e1 := HM1.out
  have e2 := HM2.out
  (try simp only [bigL, Cel.big] at *)
  omega
set_option maxHeartbeats 2000000 in
theorem dSzCall (vs : List Value) (cs : List Cel) (left : Int) (w : World) (h : InL w vs cs) (hs : HasL cs tyCall) (h0 : 0 ≤ left) (h1 : left ≤ 2097152) : Calls Tryz.prog 36 #[.agg vs.toArray, .int .i64 left] w (Left w (bigL cs) left) := by
  obtain ⟨c0, r0, rfl, T0, hH0⟩ := hs.cons
  obtain ⟨c1, r1, rfl, T1, hH1⟩ := hH0.cons
  obtain ⟨c2, r2, rfl, T2, hH2⟩ := hH1.cons
  obtain ⟨c3, r3, rfl, T3, hH3⟩ := hH2.cons
  obtain ⟨c4, r4, rfl, T4, hH4⟩ := hH3.cons
  obtain ⟨c5, r5, rfl, T5, hH5⟩ := hH4.cons
  obtain ⟨c6, r6, rfl, T6, hH6⟩ := hH5.cons
  obtain ⟨c7, r7, rfl, T7, hH7⟩ := hH6.cons
  obtain ⟨c8, r8, rfl, T8, hH8⟩ := hH7.cons
  obtain rfl := hH8.nil
  obtain ⟨v0, vr0, rfl, A0, hA0⟩ := h.consE
  obtain ⟨v1, vr1, rfl, A1, hA1⟩ := hA0.consE
  obtain ⟨v2, vr2, rfl, A2, hA2⟩ := hA1.consE
  obtain ⟨v3, vr3, rfl, A3, hA3⟩ := hA2.consE
  obtain ⟨v4, vr4, rfl, A4, hA4⟩ := hA3.consE
  obtain ⟨v5, vr5, rfl, A5, hA5⟩ := hA4.consE
  obtain ⟨v6, vr6, rfl, A6, hA6⟩ := hA5.consE
  obtain ⟨v7, vr7, rfl, A7, hA7⟩ := hA6.consE
  obtain ⟨v8, vr8, rfl, A8, hA8⟩ := hA7.consE
  obtain rfl := hA8.nilE
  obtain ⟨x0, rfl⟩ := T0.int
  obtain rfl := A0.int
  obtain ⟨x1, rfl⟩ := T1.int
  obtain rfl := A1.int
  obtain ⟨x2, rfl⟩ := T2.int
  obtain rfl := A2.int
  obtain ⟨x3, rfl⟩ := T3.int
  obtain rfl := A3.int
  obtain ⟨x4, rfl⟩ := T4.int
  obtain rfl := A4.int
  obtain ⟨x5, rfl⟩ := T5.int
  obtain rfl := A5.int
  obtain ⟨x6, rfl⟩ := T6.int
  obtain rfl := A6.int
  obtain ⟨x7, rfl⟩ := T7.int
  obtain rfl := A7.int
  obtain ⟨n8, cs8, rfl, -⟩ := T8.list
  have HT8 : Hid (Has (.l 3 1 n8 cs8) (.l 3 1 [.i])) := T8
  have hA8' : Hid (In w v8 (.l 3 1 n8 cs8)) := A8
  have HN1 : Hid (InL w [.int .i64 x1, .int .i64 x2, .int .i64 x3] [.i x1, .i x2, .i x3]) := InL.cons (.i x1) (InL.cons (.i x2) (InL.cons (.i x3) (InL.nil)))
  have HH1 : Hid (HasL [.i x1, .i x2, .i x3] tyOp) := ⟨rfl, fun j c t hc ht => by
    have hj : j < 3 := by have := (List.getElem?_eq_some_iff.1 hc).1; simpa using this
    rcases (show j = 0 ∨ j = 1 ∨ j = 2 by omega) with rfl | rfl | rfl <;> (simp [tyOp] at hc ht; subst hc ht)
    · exact .i x1
    · exact .i x2
    · exact .i x3⟩
  have HN7 : Hid (InL w [.int .i64 x7, v8] [.i x7, .l 3 1 n8 cs8]) := InL.cons (.i x7) (InL.cons (hA8'.out) (InL.nil))
  have HH7 : Hid (HasL [.i x7, .l 3 1 n8 cs8] tyRes) := ⟨rfl, fun j c t hc ht => by
    have hj : j < 2 := by have := (List.getElem?_eq_some_iff.1 hc).1; simpa using this
    rcases (show j = 0 ∨ j = 1 by omega) with rfl | rfl <;> (simp [tyRes] at hc ht; subst hc ht)
    · exact .i x7
    · exact HT8.out⟩
  clear hs h hA0 hH0 T0 A0 hA1 hH1 T1 A1 hA2 hH2 T2 A2 hA3 hH3 T3 A3 hA4 hH4 T4 A4 hA5 hH5 T5 A5 hA6 hH6 T6 A6 hA7 hH7 T7 A7 hA8 hH8 T8 A8
  obtain ⟨W, hW⟩ : ∃ W, w.alloc (.cells #[.int .i64 x0, .int .i64 x1, .int .i64 x2, .int .i64 x3, .int .i64 x4, .int .i64 x5, .int .i64 x6, .int .i64 x7, v8] 87) = W := ⟨_, rfl⟩
  have t0 : Hid (One w W #[.int .i64 x0, .int .i64 x1, .int .i64 x2, .int .i64 x3, .int .i64 x4, .int .i64 x5, .int .i64 x6, .int .i64 x7, v8] 87) := by rw [← hW]; exact one_new w _ _
  have HW : Hid _ := hW
  clear hW
  go_enter Tryz.func36, Tryz.ntmps36
  go_upto_region 1 with (fail)
  rw [HW.out]
  have ax0 : W.cell? ⟨w.heap.size, 0, none⟩ = some (.int .i64 x0) := t0.out.a.cell 0
  have ax1 : W.cell? ⟨w.heap.size, 1, none⟩ = some (.int .i64 x1) := t0.out.a.cell 1
  have ax2 : W.cell? ⟨w.heap.size, 2, none⟩ = some (.int .i64 x2) := t0.out.a.cell 2
  have ax3 : W.cell? ⟨w.heap.size, 3, none⟩ = some (.int .i64 x3) := t0.out.a.cell 3
  have ax4 : W.cell? ⟨w.heap.size, 4, none⟩ = some (.int .i64 x4) := t0.out.a.cell 4
  have ax5 : W.cell? ⟨w.heap.size, 5, none⟩ = some (.int .i64 x5) := t0.out.a.cell 5
  have ax6 : W.cell? ⟨w.heap.size, 6, none⟩ = some (.int .i64 x6) := t0.out.a.cell 6
  have ax7 : W.cell? ⟨w.heap.size, 7, none⟩ = some (.int .i64 x7) := t0.out.a.cell 7
  have ax8 : W.cell? ⟨w.heap.size, 8, none⟩ = some (v8) := t0.out.a.cell 8
  go_wp2_with fail
  refine (dSzRes [.int .i64 x7, v8] [.i x7, .l 3 1 n8 cs8] _ _ (HN7.out.on t0.out.on (Nat.le_refl _)) HH7.out (by omega) (by omega)).mono ?_
  rintro e w1 ⟨hb, hc⟩
  obtain ⟨m1, hm1⟩ : ∃ m, bigL [.i x7, .l 3 1 n8 cs8] = m := ⟨_, rfl⟩
  rw [hm1] at hc
  have HM1 : Hid (bigL [.i x7, .l 3 1 n8 cs8] = m1) := hm1
  clear hm1
  have t1 : Hid (One w w1 #[.int .i64 x0, .int .i64 x1, .int .i64 x2, .int .i64 x3, .int .i64 x4, .int .i64 x5, .int .i64 x6, .int .i64 x7, v8] 87) := t0.out.call hb
  clear hb ax0 ax1 ax2 ax3 ax4 ax5 ax6 ax7 ax8
  have ax0 : w1.cell? ⟨w.heap.size, 0, none⟩ = some (.int .i64 x0) := t1.out.a.cell 0
  have ax1 : w1.cell? ⟨w.heap.size, 1, none⟩ = some (.int .i64 x1) := t1.out.a.cell 1
  have ax2 : w1.cell? ⟨w.heap.size, 2, none⟩ = some (.int .i64 x2) := t1.out.a.cell 2
  have ax3 : w1.cell? ⟨w.heap.size, 3, none⟩ = some (.int .i64 x3) := t1.out.a.cell 3
  have ax4 : w1.cell? ⟨w.heap.size, 4, none⟩ = some (.int .i64 x4) := t1.out.a.cell 4
  have ax5 : w1.cell? ⟨w.heap.size, 5, none⟩ = some (.int .i64 x5) := t1.out.a.cell 5
  have ax6 : w1.cell? ⟨w.heap.size, 6, none⟩ = some (.int .i64 x6) := t1.out.a.cell 6
  have ax7 : w1.cell? ⟨w.heap.size, 7, none⟩ = some (.int .i64 x7) := t1.out.a.cell 7
  have ax8 : w1.cell? ⟨w.heap.size, 8, none⟩ = some (v8) := t1.out.a.cell 8
  rcases hc with ⟨r1, rfl, hr1, hq1⟩ | ⟨rfl, hr1⟩
  rotate_left
  · go_wp2
    go_ret
    refine ⟨t1.out.on, .inr ⟨rfl, ?_⟩⟩
    have e : bigL [.i x0, .i x1, .i x2, .i x3, .i x4, .i x5, .i x6, .i x7, .l 3 1 n8 cs8] = ((n8 + bigL cs8)) := by simp [bigL, Cel.big]; try omega
    rw [e]
    have e1 := HM1.out
    (try simp only [bigL, Cel.big] at *)
    omega
  have g1 : ¬ r1 < 0 := by omega
  go_wp2
  go_ret
  refine ⟨t1.out.on, .inl ⟨_, rfl, ?_⟩⟩
  have e : bigL [.i x0, .i x1, .i x2, .i x3, .i x4, .i x5, .i x6, .i x7, .l 3 1 n8 cs8] = (n8 + bigL cs8) := by simp [bigL, Cel.big]; try omega
  rw [e]
  have e1 := HM1.out
  (try simp only [bigL, Cel.big] at *)
  omega
set_option maxHeartbeats 2000000 in
theorem dSzCallS (v : Value) (n : Nat) (cs : List Cel) (left : Int) (w : World) (h : In w v (.l 61 9 n cs)) (hs : Has (.l 61 9 n cs) (.l 61 9 tyCall)) (h0 : 0 ≤ left) (h1 : left ≤ 2097152) :
    Calls Tryz.prog 11 #[v, .int .i64 left] w (Left w (n + bigL cs) left) := by
  obtain ⟨a, c, vs, rfl, h2, h3, hn, h4, h5⟩ := h.openL
  have SRC : Hid (n = 0 ∨ ∃ b o, a = some ⟨b, o, none⟩ ∧ ∀ j, j < n * 9 → w.cell? ⟨b, o + j, none⟩ = vs[j]?) := h4
  have HV : Hid (∀ j, j < n → InL w ((vs.drop (j * 9)).take 9) (row cs 9 j)) := fun j hj => rowIn h2 h3 h5 hj
  have HR : Hid (∀ j, j < n → HasL (row cs 9 j) tyCall) := fun j hj => hs.rowL hj
  have L1 : Hid (vs.length = n * 9) := h2
  have L2 : Hid (cs.length = n * 9) := h3
  clear h h2 h3 h4 h5 hs
  by_cases hl : (n : Int) ≤ left
  rotate_left
  · have h2 : left - (n : Int) < 0 := by omega
    go_enter Tryz.func11, Tryz.ntmps11
    go_wp2
    go_ret
    exact ⟨Below.refl _ _, .inr ⟨rfl, by omega⟩⟩
  have h2 : ¬ (left - (n : Int) < 0) := by omega
  go_enter Tryz.func11, Tryz.ntmps11
  go_wp2
  go_loopw [1, 5] (fun l i wr => ∃ (j : Nat) (r : Int), j ≤ n ∧ l = .int .i64 r ∧ i = .int .i64 (j : Int) ∧ 0 ≤ r ∧ r = left - (n : Int) - (bigL (cs.take (j * 9)) : Int) ∧ Below w.heap.size w wr) (fun _ i _ => n - (intOf i).toNat)
  case atStart => exact ⟨0, left - n, Nat.zero_le _, rfl, rfl, by omega, by simp [bigL], Below.refl _ _⟩
  case round =>
    obtain ⟨j, r, hj, rfl, rfl, hr0, hr1, hb⟩ := hrel
    have HQ : Hid (r = left - (n : Int) - (bigL (cs.take (j * 9)) : Int)) := hr1
    have hr2 : r ≤ 2097152 := by omega
    clear hr1
    by_cases hlt : j < n
    · rcases SRC.out with h0' | ⟨p1, o1, rfl, g1⟩
      · omega
      have hk0 : (0 : Int) ≤ (j : Int) := by omega
      have hk1 : (j : Int) < (n : Int) := by omega
      have hle : j * 9 + 9 ≤ n * 9 := by omega
      have hA := HV.out j hlt
      have hH := HR.out j hlt
      have ce : ∀ i, i < 9 → wr.cell? ⟨p1, o1 + (j * 9 + i), none⟩ = ((vs.drop (j * 9)).take 9)[i]? := fun i hi => by
        have h5 := g1 (j * 9 + i) (by omega)
        rw [List.getElem?_take_of_lt hi, List.getElem?_drop, ← h5]
        have h6 : w.cell? ⟨p1, o1 + (j * 9 + i), none⟩ = some (vs[j * 9 + i]'(by have := L1.out; omega)) := by rw [h5, List.getElem?_eq_getElem (by have := L1.out; omega)]
        exact hb.cell (show p1 < w.heap.size from World.block_lt_of_cell? w _ h6)
      obtain ⟨rs, hrs⟩ : ∃ rs, row cs 9 j = rs := ⟨_, rfl⟩
      obtain ⟨ws, hws⟩ : ∃ ws, (vs.drop (j * 9)).take 9 = ws := ⟨_, rfl⟩
      have HRS : Hid (row cs 9 j = rs) := hrs
      rw [hrs] at hA hH
      rw [hws] at hA ce
      clear g1 hrs hws
      obtain ⟨c0, r0, rfl, T0, hH0⟩ := hH.cons
      obtain ⟨c1, r1, rfl, T1, hH1⟩ := hH0.cons
      obtain ⟨c2, r2, rfl, T2, hH2⟩ := hH1.cons
      obtain ⟨c3, r3, rfl, T3, hH3⟩ := hH2.cons
      obtain ⟨c4, r4, rfl, T4, hH4⟩ := hH3.cons
      obtain ⟨c5, r5, rfl, T5, hH5⟩ := hH4.cons
      obtain ⟨c6, r6, rfl, T6, hH6⟩ := hH5.cons
      obtain ⟨c7, r7, rfl, T7, hH7⟩ := hH6.cons
      obtain ⟨c8, r8, rfl, T8, hH8⟩ := hH7.cons
      obtain rfl := hH8.nil
      have HL0 : Hid (HasL [c0, c1, c2, c3, c4, c5, c6, c7, c8] tyCall) := hH
      obtain ⟨v0, vr0, rfl, A0, hA0⟩ := hA.consE
      obtain ⟨v1, vr1, rfl, A1, hA1⟩ := hA0.consE
      obtain ⟨v2, vr2, rfl, A2, hA2⟩ := hA1.consE
      obtain ⟨v3, vr3, rfl, A3, hA3⟩ := hA2.consE
      obtain ⟨v4, vr4, rfl, A4, hA4⟩ := hA3.consE
      obtain ⟨v5, vr5, rfl, A5, hA5⟩ := hA4.consE
      obtain ⟨v6, vr6, rfl, A6, hA6⟩ := hA5.consE
      obtain ⟨v7, vr7, rfl, A7, hA7⟩ := hA6.consE
      obtain ⟨v8, vr8, rfl, A8, hA8⟩ := hA7.consE
      obtain rfl := hA8.nilE
      have HA0 : Hid (InL w [v0, v1, v2, v3, v4, v5, v6, v7, v8] [c0, c1, c2, c3, c4, c5, c6, c7, c8]) := hA
      have e0 : wr.cell? ⟨p1, o1 + j * 9, none⟩ = some v0 := ce 0 (by omega)
      have e1 : wr.cell? ⟨p1, o1 + j * 9 + 1, none⟩ = some v1 := ce 1 (by omega)
      have e2 : wr.cell? ⟨p1, o1 + j * 9 + 2, none⟩ = some v2 := ce 2 (by omega)
      have e3 : wr.cell? ⟨p1, o1 + j * 9 + 3, none⟩ = some v3 := ce 3 (by omega)
      have e4 : wr.cell? ⟨p1, o1 + j * 9 + 4, none⟩ = some v4 := ce 4 (by omega)
      have e5 : wr.cell? ⟨p1, o1 + j * 9 + 5, none⟩ = some v5 := ce 5 (by omega)
      have e6 : wr.cell? ⟨p1, o1 + j * 9 + 6, none⟩ = some v6 := ce 6 (by omega)
      have e7 : wr.cell? ⟨p1, o1 + j * 9 + 7, none⟩ = some v7 := ce 7 (by omega)
      have e8 : wr.cell? ⟨p1, o1 + j * 9 + 8, none⟩ = some v8 := ce 8 (by omega)
      clear ce hA hH hA0 hH0 T0 A0 hA1 hH1 T1 A1 hA2 hH2 T2 A2 hA3 hH3 T3 A3 hA4 hH4 T4 A4 hA5 hH5 T5 A5 hA6 hH6 T6 A6 hA7 hH7 T7 A7 hA8 hH8 T8 A8
      obtain ⟨m, hm⟩ : ∃ m, bigL [c0, c1, c2, c3, c4, c5, c6, c7, c8] = m := ⟨_, rfl⟩
      have HM : Hid (bigL (cs.take ((j + 1) * 9)) = bigL (cs.take (j * 9)) + m) := by show _ = _; rw [row_split, bigL_append, HRS.out, hm]
      have MON : Hid (bigL (cs.take ((j + 1) * 9)) ≤ bigL cs) := by
        show _ ≤ _
        have := bigL_append (cs.take ((j + 1) * 9)) (cs.drop ((j + 1) * 9))
        rw [List.take_append_drop] at this
        omega
      go_wp2_with fail
      refine (dSzCall [v0, v1, v2, v3, v4, v5, v6, v7, v8] [c0, c1, c2, c3, c4, c5, c6, c7, c8] _ _ (HA0.out.on hb (Nat.le_refl _)) HL0.out hr0 hr2).mono ?_
      rintro e w2 ⟨hb2, hc⟩
      rw [hm] at hc
      have hb02 : Below w.heap.size w w2 := hb.trans (hb2.mono hb.size)
      clear hb2 hm e0 e1 e2 e3 e4 e5 e6 e7 e8
      rcases hc with ⟨r2, rfl, hq1, rfl⟩ | ⟨rfl, hq⟩
      · have g : ¬ r - (m : Int) < 0 := by omega
        go_wp2
        exact ⟨⟨j + 1, r - (m : Int), by omega, rfl, by go_num, by omega, by have h5 := HM.out; have h6 := HQ.out; omega, hb02⟩, by simp [intOf]; omega⟩
      · go_wp2
        go_ret
        exact ⟨hb02, .inr ⟨rfl, by have h5 := HM.out; have h6 := HQ.out; have h7 := MON.out; omega⟩⟩
    · obtain rfl : j = n := by omega
      have HE : Hid (cs.take (j * 9) = cs) := List.take_of_length_le (by have := L2.out; omega)
      go_wp2
      go_ret
      refine ⟨hb, .inl ⟨_, rfl, ?_⟩⟩
      have h6 := HQ.out
      rw [HE.out] at h6
      omega
set_option maxHeartbeats 2000000 in
theorem dSzMachine (vs : List Value) (cs : List Cel) (left : Int) (w : World) (h : InL w vs cs) (hs : HasL cs tyMachine) (h0 : 0 ≤ left) (h1 : left ≤ 2097152) : Calls Tryz.prog 4 #[.agg vs.toArray, .int .i64 left] w (Left w (bigL cs) left) := by
  obtain ⟨c0, r0, rfl, T0, hH0⟩ := hs.cons
  obtain ⟨c1, r1, rfl, T1, hH1⟩ := hH0.cons
  obtain ⟨c2, r2, rfl, T2, hH2⟩ := hH1.cons
  obtain ⟨c3, r3, rfl, T3, hH3⟩ := hH2.cons
  obtain ⟨c4, r4, rfl, T4, hH4⟩ := hH3.cons
  obtain ⟨c5, r5, rfl, T5, hH5⟩ := hH4.cons
  obtain ⟨c6, r6, rfl, T6, hH6⟩ := hH5.cons
  obtain ⟨c7, r7, rfl, T7, hH7⟩ := hH6.cons
  obtain rfl := hH7.nil
  obtain ⟨v0, vr0, rfl, A0, hA0⟩ := h.consE
  obtain ⟨v1, vr1, rfl, A1, hA1⟩ := hA0.consE
  obtain ⟨v2, vr2, rfl, A2, hA2⟩ := hA1.consE
  obtain ⟨v3, vr3, rfl, A3, hA3⟩ := hA2.consE
  obtain ⟨v4, vr4, rfl, A4, hA4⟩ := hA3.consE
  obtain ⟨v5, vr5, rfl, A5, hA5⟩ := hA4.consE
  obtain ⟨v6, vr6, rfl, A6, hA6⟩ := hA5.consE
  obtain ⟨v7, vr7, rfl, A7, hA7⟩ := hA6.consE
  obtain rfl := hA7.nilE
  obtain ⟨n0, cs0, rfl, -⟩ := T0.list
  have HT0 : Hid (Has (.l 134 3 n0 cs0) (.l 134 3 tyWord)) := T0
  have hA0' : Hid (In w v0 (.l 134 3 n0 cs0)) := A0
  obtain ⟨n1, cs1, rfl, -⟩ := T1.list
  have HT1 : Hid (Has (.l 137 5 n1 cs1) (.l 137 5 tyDesc)) := T1
  have hA1' : Hid (In w v1 (.l 137 5 n1 cs1)) := A1
  obtain ⟨n2, cs2, rfl, -⟩ := T2.list
  have HT2 : Hid (Has (.l 100 5 n2 cs2) (.l 100 5 tyThread)) := T2
  have hA2' : Hid (In w v2 (.l 100 5 n2 cs2)) := A2
  obtain ⟨x3, rfl⟩ := T3.int
  obtain rfl := A3.int
  obtain ⟨n4, cs4, rfl, -⟩ := T4.list
  have HT4 : Hid (Has (.l 61 9 n4 cs4) (.l 61 9 tyCall)) := T4
  have hA4' : Hid (In w v4 (.l 61 9 n4 cs4)) := A4
  obtain ⟨n5, cs5, rfl, -⟩ := T5.list
  have HT5 : Hid (Has (.l 3 1 n5 cs5) (.l 3 1 [.i])) := T5
  have hA5' : Hid (In w v5 (.l 3 1 n5 cs5)) := A5
  obtain ⟨n6, cs6, rfl, -⟩ := T6.list
  have HT6 : Hid (Has (.l 3 1 n6 cs6) (.l 3 1 [.i])) := T6
  have hA6' : Hid (In w v6 (.l 3 1 n6 cs6)) := A6
  obtain ⟨x7, rfl⟩ := T7.int
  obtain rfl := A7.int
  have HN0 : Hid (InL w [v0, v1] [.l 134 3 n0 cs0, .l 137 5 n1 cs1]) := InL.cons (hA0'.out) (InL.cons (hA1'.out) (InL.nil))
  have HH0 : Hid (HasL [.l 134 3 n0 cs0, .l 137 5 n1 cs1] tyMem) := ⟨rfl, fun j c t hc ht => by
    have hj : j < 2 := by have := (List.getElem?_eq_some_iff.1 hc).1; simpa using this
    rcases (show j = 0 ∨ j = 1 by omega) with rfl | rfl <;> (simp [tyMem] at hc ht; subst hc ht)
    · exact HT0.out
    · exact HT1.out⟩
  have HN6 : Hid (InL w [v6, .int .i64 x7] [.l 3 1 n6 cs6, .i x7]) := InL.cons (hA6'.out) (InL.cons (.i x7) (InL.nil))
  have HH6 : Hid (HasL [.l 3 1 n6 cs6, .i x7] tyRows) := ⟨rfl, fun j c t hc ht => by
    have hj : j < 2 := by have := (List.getElem?_eq_some_iff.1 hc).1; simpa using this
    rcases (show j = 0 ∨ j = 1 by omega) with rfl | rfl <;> (simp [tyRows] at hc ht; subst hc ht)
    · exact HT6.out
    · exact .i x7⟩
  clear hs h hA0 hH0 T0 A0 hA1 hH1 T1 A1 hA2 hH2 T2 A2 hA3 hH3 T3 A3 hA4 hH4 T4 A4 hA5 hH5 T5 A5 hA6 hH6 T6 A6 hA7 hH7 T7 A7
  obtain ⟨W, hW⟩ : ∃ W, w.alloc (.cells #[v0, v1, v2, .int .i64 x3, v4, v5, v6, .int .i64 x7] 32) = W := ⟨_, rfl⟩
  have t0 : Hid (One w W #[v0, v1, v2, .int .i64 x3, v4, v5, v6, .int .i64 x7] 32) := by rw [← hW]; exact one_new w _ _
  have HW : Hid _ := hW
  clear hW
  go_enter Tryz.func4, Tryz.ntmps4
  go_upto_region 1 with (fail)
  rw [HW.out]
  have ax0 : W.cell? ⟨w.heap.size, 0, none⟩ = some (v0) := t0.out.a.cell 0
  have ax1 : W.cell? ⟨w.heap.size, 1, none⟩ = some (v1) := t0.out.a.cell 1
  have ax2 : W.cell? ⟨w.heap.size, 2, none⟩ = some (v2) := t0.out.a.cell 2
  have ax3 : W.cell? ⟨w.heap.size, 3, none⟩ = some (.int .i64 x3) := t0.out.a.cell 3
  have ax4 : W.cell? ⟨w.heap.size, 4, none⟩ = some (v4) := t0.out.a.cell 4
  have ax5 : W.cell? ⟨w.heap.size, 5, none⟩ = some (v5) := t0.out.a.cell 5
  have ax6 : W.cell? ⟨w.heap.size, 6, none⟩ = some (v6) := t0.out.a.cell 6
  have ax7 : W.cell? ⟨w.heap.size, 7, none⟩ = some (.int .i64 x7) := t0.out.a.cell 7
  go_wp2_with fail
  refine (dSzMem [v0, v1] [.l 134 3 n0 cs0, .l 137 5 n1 cs1] _ _ (HN0.out.on t0.out.on (Nat.le_refl _)) HH0.out (by omega) (by omega)).mono ?_
  rintro e w1 ⟨hb, hc⟩
  obtain ⟨m1, hm1⟩ : ∃ m, bigL [.l 134 3 n0 cs0, .l 137 5 n1 cs1] = m := ⟨_, rfl⟩
  rw [hm1] at hc
  have HM1 : Hid (bigL [.l 134 3 n0 cs0, .l 137 5 n1 cs1] = m1) := hm1
  clear hm1
  have t1 : Hid (One w w1 #[v0, v1, v2, .int .i64 x3, v4, v5, v6, .int .i64 x7] 32) := t0.out.call hb
  clear hb ax0 ax1 ax2 ax3 ax4 ax5 ax6 ax7
  have ax0 : w1.cell? ⟨w.heap.size, 0, none⟩ = some (v0) := t1.out.a.cell 0
  have ax1 : w1.cell? ⟨w.heap.size, 1, none⟩ = some (v1) := t1.out.a.cell 1
  have ax2 : w1.cell? ⟨w.heap.size, 2, none⟩ = some (v2) := t1.out.a.cell 2
  have ax3 : w1.cell? ⟨w.heap.size, 3, none⟩ = some (.int .i64 x3) := t1.out.a.cell 3
  have ax4 : w1.cell? ⟨w.heap.size, 4, none⟩ = some (v4) := t1.out.a.cell 4
  have ax5 : w1.cell? ⟨w.heap.size, 5, none⟩ = some (v5) := t1.out.a.cell 5
  have ax6 : w1.cell? ⟨w.heap.size, 6, none⟩ = some (v6) := t1.out.a.cell 6
  have ax7 : w1.cell? ⟨w.heap.size, 7, none⟩ = some (.int .i64 x7) := t1.out.a.cell 7
  rcases hc with ⟨r1, rfl, hr1, hq1⟩ | ⟨rfl, hr1⟩
  rotate_left
  · go_wp2
    go_ret
    refine ⟨t1.out.on, .inr ⟨rfl, ?_⟩⟩
    have e : bigL [.l 134 3 n0 cs0, .l 137 5 n1 cs1, .l 100 5 n2 cs2, .i x3, .l 61 9 n4 cs4, .l 3 1 n5 cs5, .l 3 1 n6 cs6, .i x7] = ((n0 + bigL cs0) + (n1 + bigL cs1) + (n2 + bigL cs2) + (n4 + bigL cs4) + (n5 + bigL cs5) + (n6 + bigL cs6)) := by simp [bigL, Cel.big]; try omega
    rw [e]
    have e1 := HM1.out
    (try simp only [bigL, Cel.big] at *)
    omega
  have g1 : ¬ r1 < 0 := by omega
  go_wp2_with fail
  refine (dSzThreadS v2 n2 cs2 _ _ (hA2'.out.on t1.out.on (Nat.le_refl _)) HT2.out (by omega) (by omega)).mono ?_
  rintro e w2 ⟨hb, hc⟩
  obtain ⟨m2, hm2⟩ : ∃ m, n2 + bigL cs2 = m := ⟨_, rfl⟩
  rw [hm2] at hc
  have HM2 : Hid (n2 + bigL cs2 = m2) := hm2
  clear hm2
  have t2 : Hid (One w w2 #[v0, v1, v2, .int .i64 x3, v4, v5, v6, .int .i64 x7] 32) := t1.out.call hb
  clear hb ax0 ax1 ax2 ax3 ax4 ax5 ax6 ax7
  have ax0 : w2.cell? ⟨w.heap.size, 0, none⟩ = some (v0) := t2.out.a.cell 0
  have ax1 : w2.cell? ⟨w.heap.size, 1, none⟩ = some (v1) := t2.out.a.cell 1
  have ax2 : w2.cell? ⟨w.heap.size, 2, none⟩ = some (v2) := t2.out.a.cell 2
  have ax3 : w2.cell? ⟨w.heap.size, 3, none⟩ = some (.int .i64 x3) := t2.out.a.cell 3
  have ax4 : w2.cell? ⟨w.heap.size, 4, none⟩ = some (v4) := t2.out.a.cell 4
  have ax5 : w2.cell? ⟨w.heap.size, 5, none⟩ = some (v5) := t2.out.a.cell 5
  have ax6 : w2.cell? ⟨w.heap.size, 6, none⟩ = some (v6) := t2.out.a.cell 6
  have ax7 : w2.cell? ⟨w.heap.size, 7, none⟩ = some (.int .i64 x7) := t2.out.a.cell 7
  rcases hc with ⟨r2, rfl, hr2, hq2⟩ | ⟨rfl, hr2⟩
  rotate_left
  · go_wp2
    go_ret
    refine ⟨t2.out.on, .inr ⟨rfl, ?_⟩⟩
    have e : bigL [.l 134 3 n0 cs0, .l 137 5 n1 cs1, .l 100 5 n2 cs2, .i x3, .l 61 9 n4 cs4, .l 3 1 n5 cs5, .l 3 1 n6 cs6, .i x7] = ((n0 + bigL cs0) + (n1 + bigL cs1) + (n2 + bigL cs2) + (n4 + bigL cs4) + (n5 + bigL cs5) + (n6 + bigL cs6)) := by simp [bigL, Cel.big]; try omega
    rw [e]
    have e1 := HM1.out
    have e2 := HM2.out
    (try simp only [bigL, Cel.big] at *)
    omega
  have g2 : ¬ r2 < 0 := by omega
  go_wp2_with fail
  refine (dSzCallS v4 n4 cs4 _ _ (hA4'.out.on t2.out.on (Nat.le_refl _)) HT4.out (by omega) (by omega)).mono ?_
  rintro e w3 ⟨hb, hc⟩
  obtain ⟨m3, hm3⟩ : ∃ m, n4 + bigL cs4 = m := ⟨_, rfl⟩
  rw [hm3] at hc
  have HM3 : Hid (n4 + bigL cs4 = m3) := hm3
  clear hm3
  have t3 : Hid (One w w3 #[v0, v1, v2, .int .i64 x3, v4, v5, v6, .int .i64 x7] 32) := t2.out.call hb
  clear hb ax0 ax1 ax2 ax3 ax4 ax5 ax6 ax7
  have ax0 : w3.cell? ⟨w.heap.size, 0, none⟩ = some (v0) := t3.out.a.cell 0
  have ax1 : w3.cell? ⟨w.heap.size, 1, none⟩ = some (v1) := t3.out.a.cell 1
  have ax2 : w3.cell? ⟨w.heap.size, 2, none⟩ = some (v2) := t3.out.a.cell 2
  have ax3 : w3.cell? ⟨w.heap.size, 3, none⟩ = some (.int .i64 x3) := t3.out.a.cell 3
  have ax4 : w3.cell? ⟨w.heap.size, 4, none⟩ = some (v4) := t3.out.a.cell 4
  have ax5 : w3.cell? ⟨w.heap.size, 5, none⟩ = some (v5) := t3.out.a.cell 5
  have ax6 : w3.cell? ⟨w.heap.size, 6, none⟩ = some (v6) := t3.out.a.cell 6
  have ax7 : w3.cell? ⟨w.heap.size, 7, none⟩ = some (.int .i64 x7) := t3.out.a.cell 7
  rcases hc with ⟨r3, rfl, hr3, hq3⟩ | ⟨rfl, hr3⟩
  rotate_left
  · go_wp2
    go_ret
    refine ⟨t3.out.on, .inr ⟨rfl, ?_⟩⟩
    have e : bigL [.l 134 3 n0 cs0, .l 137 5 n1 cs1, .l 100 5 n2 cs2, .i x3, .l 61 9 n4 cs4, .l 3 1 n5 cs5, .l 3 1 n6 cs6, .i x7] = ((n0 + bigL cs0) + (n1 + bigL cs1) + (n2 + bigL cs2) + (n4 + bigL cs4) + (n5 + bigL cs5) + (n6 + bigL cs6)) := by simp [bigL, Cel.big]; try omega
    rw [e]
    have e1 := HM1.out
    have e2 := HM2.out
    have e3 := HM3.out
    (try simp only [bigL, Cel.big] at *)
    omega
  have g3 : ¬ r3 < 0 := by omega
  go_wp2_with fail
  refine (dSzIntS v5 n5 cs5 _ _ (hA5'.out.on t3.out.on (Nat.le_refl _)) HT5.out (by omega) (by omega)).mono ?_
  rintro e w4 ⟨hb, hc⟩
  obtain ⟨m4, hm4⟩ : ∃ m, n5 + bigL cs5 = m := ⟨_, rfl⟩
  rw [hm4] at hc
  have HM4 : Hid (n5 + bigL cs5 = m4) := hm4
  clear hm4
  have t4 : Hid (One w w4 #[v0, v1, v2, .int .i64 x3, v4, v5, v6, .int .i64 x7] 32) := t3.out.call hb
  clear hb ax0 ax1 ax2 ax3 ax4 ax5 ax6 ax7
  have ax0 : w4.cell? ⟨w.heap.size, 0, none⟩ = some (v0) := t4.out.a.cell 0
  have ax1 : w4.cell? ⟨w.heap.size, 1, none⟩ = some (v1) := t4.out.a.cell 1
  have ax2 : w4.cell? ⟨w.heap.size, 2, none⟩ = some (v2) := t4.out.a.cell 2
  have ax3 : w4.cell? ⟨w.heap.size, 3, none⟩ = some (.int .i64 x3) := t4.out.a.cell 3
  have ax4 : w4.cell? ⟨w.heap.size, 4, none⟩ = some (v4) := t4.out.a.cell 4
  have ax5 : w4.cell? ⟨w.heap.size, 5, none⟩ = some (v5) := t4.out.a.cell 5
  have ax6 : w4.cell? ⟨w.heap.size, 6, none⟩ = some (v6) := t4.out.a.cell 6
  have ax7 : w4.cell? ⟨w.heap.size, 7, none⟩ = some (.int .i64 x7) := t4.out.a.cell 7
  rcases hc with ⟨r4, rfl, hr4, hq4⟩ | ⟨rfl, hr4⟩
  rotate_left
  · go_wp2
    go_ret
    refine ⟨t4.out.on, .inr ⟨rfl, ?_⟩⟩
    have e : bigL [.l 134 3 n0 cs0, .l 137 5 n1 cs1, .l 100 5 n2 cs2, .i x3, .l 61 9 n4 cs4, .l 3 1 n5 cs5, .l 3 1 n6 cs6, .i x7] = ((n0 + bigL cs0) + (n1 + bigL cs1) + (n2 + bigL cs2) + (n4 + bigL cs4) + (n5 + bigL cs5) + (n6 + bigL cs6)) := by simp [bigL, Cel.big]; try omega
    rw [e]
    have e1 := HM1.out
    have e2 := HM2.out
    have e3 := HM3.out
    have e4 := HM4.out
    (try simp only [bigL, Cel.big] at *)
    omega
  have g4 : ¬ r4 < 0 := by omega
  go_wp2_with fail
  refine (dSzRows [v6, .int .i64 x7] [.l 3 1 n6 cs6, .i x7] _ _ (HN6.out.on t4.out.on (Nat.le_refl _)) HH6.out (by omega) (by omega)).mono ?_
  rintro e w5 ⟨hb, hc⟩
  obtain ⟨m5, hm5⟩ : ∃ m, bigL [.l 3 1 n6 cs6, .i x7] = m := ⟨_, rfl⟩
  rw [hm5] at hc
  have HM5 : Hid (bigL [.l 3 1 n6 cs6, .i x7] = m5) := hm5
  clear hm5
  have t5 : Hid (One w w5 #[v0, v1, v2, .int .i64 x3, v4, v5, v6, .int .i64 x7] 32) := t4.out.call hb
  clear hb ax0 ax1 ax2 ax3 ax4 ax5 ax6 ax7
  have ax0 : w5.cell? ⟨w.heap.size, 0, none⟩ = some (v0) := t5.out.a.cell 0
  have ax1 : w5.cell? ⟨w.heap.size, 1, none⟩ = some (v1) := t5.out.a.cell 1
  have ax2 : w5.cell? ⟨w.heap.size, 2, none⟩ = some (v2) := t5.out.a.cell 2
  have ax3 : w5.cell? ⟨w.heap.size, 3, none⟩ = some (.int .i64 x3) := t5.out.a.cell 3
  have ax4 : w5.cell? ⟨w.heap.size, 4, none⟩ = some (v4) := t5.out.a.cell 4
  have ax5 : w5.cell? ⟨w.heap.size, 5, none⟩ = some (v5) := t5.out.a.cell 5
  have ax6 : w5.cell? ⟨w.heap.size, 6, none⟩ = some (v6) := t5.out.a.cell 6
  have ax7 : w5.cell? ⟨w.heap.size, 7, none⟩ = some (.int .i64 x7) := t5.out.a.cell 7
  rcases hc with ⟨r5, rfl, hr5, hq5⟩ | ⟨rfl, hr5⟩
  rotate_left
  · go_wp2
    go_ret
    refine ⟨t5.out.on, .inr ⟨rfl, ?_⟩⟩
    have e : bigL [.l 134 3 n0 cs0, .l 137 5 n1 cs1, .l 100 5 n2 cs2, .i x3, .l 61 9 n4 cs4, .l 3 1 n5 cs5, .l 3 1 n6 cs6, .i x7] = ((n0 + bigL cs0) + (n1 + bigL cs1) + (n2 + bigL cs2) + (n4 + bigL cs4) + (n5 + bigL cs5) + (n6 + bigL cs6)) := by simp [bigL, Cel.big]; try omega
    rw [e]
    have e1 := HM1.out
    have e2 := HM2.out
    have e3 := HM3.out
    have e4 := HM4.out
    have e5 := HM5.out
    (try simp only [bigL, Cel.big] at *)
    omega
  have g5 : ¬ r5 < 0 := by omega
  go_wp2
  go_ret
  refine ⟨t5.out.on, .inl ⟨_, rfl, ?_⟩⟩
  have e : bigL [.l 134 3 n0 cs0, .l 137 5 n1 cs1, .l 100 5 n2 cs2, .i x3, .l 61 9 n4 cs4, .l 3 1 n5 cs5, .l 3 1 n6 cs6, .i x7] = (n0 + bigL cs0) + (n1 + bigL cs1) + (n2 + bigL cs2) + (n4 + bigL cs4) + (n5 + bigL cs5) + (n6 + bigL cs6) := by simp [bigL, Cel.big]; try omega
  rw [e]
  have e1 := HM1.out
  have e2 := HM2.out
  have e3 := HM3.out
  have e4 := HM4.out
  have e5 := HM5.out
  (try simp only [bigL, Cel.big] at *)
  omega
end Go.Proofs.YtkbodiggdajbeaaGreatDoor
