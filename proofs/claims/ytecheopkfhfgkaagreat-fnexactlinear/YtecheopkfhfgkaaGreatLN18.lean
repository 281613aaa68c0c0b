/- Texts joined: DatG, LawLiW, DatP. -/
import Derived.Test.YtecheopkfhfgkaaGreatLN17
import Derived.Deep.RegionHeld3
import Derived.Deep.Cut
import Derived.Handy
import Derived.Test.YtecheopkfhfgkaaGreatLN05
import Derived.Test.YtecheopkfhfgkaaGreatLN08
import Derived.Test.YtecheopkfhfgkaaGreatLN16
import Derived.Below
import Derived.Lib.SmallJoins
import Derived.Test.YtecheopkfhfgkaaGreatLN02
set_option maxHeartbeats 16000000
set_option maxRecDepth 100000
namespace Go.Proofs.YtecheopkfhfgkaaGreat
section
open Go.ChangeShapes Go.WideShapes Go.ChangeAt Go.RowKit Go.Joins
theorem dEqCall (vs us : List Value) (cs : List Cel) (w : World) (h : AtL false w vs cs) (h' : AtL false w us cs) (hs : HasL cs tyCall) : Calls Tryz.prog 29 #[.agg vs.toArray, .agg us.toArray] w (Yes w) := by
  obtain ⟨c0, r0, rfl, T0, hH0⟩ := hs.cons
  obtain ⟨c1, r1, rfl, T1, hH1⟩ := hH0.cons
  obtain ⟨c2, r2, rfl, T2, hH2⟩ := hH1.cons
  obtain ⟨c3, r3, rfl, T3, hH3⟩ := hH2.cons
  obtain ⟨c4, r4, rfl, T4, hH4⟩ := hH3.cons
  obtain ⟨c5, r5, rfl, T5, hH5⟩ := hH4.cons
  obtain ⟨c6, r6, rfl, T6, hH6⟩ := hH5.cons
  obtain ⟨c7, r7, rfl, T7, hH7⟩ := hH6.cons
  obtain ⟨c8, r8, rfl, T8, hH8⟩ := hH7.cons
  obtain rfl := hH8.nil
  obtain ⟨v0, vr0, rfl, A0, hA0⟩ := h.consE
  obtain ⟨v1, vr1, rfl, A1, hA1⟩ := hA0.consE
  obtain ⟨v2, vr2, rfl, A2, hA2⟩ := hA1.consE
  obtain ⟨v3, vr3, rfl, A3, hA3⟩ := hA2.consE
  obtain ⟨v4, vr4, rfl, A4, hA4⟩ := hA3.consE
  obtain ⟨v5, vr5, rfl, A5, hA5⟩ := hA4.consE
  obtain ⟨v6, vr6, rfl, A6, hA6⟩ := hA5.consE
  obtain ⟨v7, vr7, rfl, A7, hA7⟩ := hA6.consE
  obtain ⟨v8, vr8, rfl, A8, hA8⟩ := hA7.consE
  obtain rfl := hA8.nilE
  obtain ⟨u0, ur0, rfl, B0, hB0⟩ := h'.consE
  obtain ⟨u1, ur1, rfl, B1, hB1⟩ := hB0.consE
  obtain ⟨u2, ur2, rfl, B2, hB2⟩ := hB1.consE
  obtain ⟨u3, ur3, rfl, B3, hB3⟩ := hB2.consE
  obtain ⟨u4, ur4, rfl, B4, hB4⟩ := hB3.consE
  obtain ⟨u5, ur5, rfl, B5, hB5⟩ := hB4.consE
  obtain ⟨u6, ur6, rfl, B6, hB6⟩ := hB5.consE
  obtain ⟨u7, ur7, rfl, B7, hB7⟩ := hB6.consE
  obtain ⟨u8, ur8, rfl, B8, hB8⟩ := hB7.consE
  obtain rfl := hB8.nilE
  obtain ⟨x0, rfl⟩ := T0.int
  obtain rfl := A0.int
  obtain rfl := B0.int
  have ne0 : (x0 != x0) = false := by simp
  obtain ⟨x1, rfl⟩ := T1.int
  obtain rfl := A1.int
  obtain rfl := B1.int
  have ne1 : (x1 != x1) = false := by simp
  obtain ⟨x2, rfl⟩ := T2.int
  obtain rfl := A2.int
  obtain rfl := B2.int
  have ne2 : (x2 != x2) = false := by simp
  obtain ⟨x3, rfl⟩ := T3.int
  obtain rfl := A3.int
  obtain rfl := B3.int
  have ne3 : (x3 != x3) = false := by simp
  obtain ⟨x4, rfl⟩ := T4.int
  obtain rfl := A4.int
  obtain rfl := B4.int
  have ne4 : (x4 != x4) = false := by simp
  obtain ⟨x5, rfl⟩ := T5.int
  obtain rfl := A5.int
  obtain rfl := B5.int
  have ne5 : (x5 != x5) = false := by simp
  obtain ⟨x6, rfl⟩ := T6.int
  obtain rfl := A6.int
  obtain rfl := B6.int
  have ne6 : (x6 != x6) = false := by simp
  obtain ⟨x7, rfl⟩ := T7.int
  obtain rfl := A7.int
  obtain rfl := B7.int
  have ne7 : (x7 != x7) = false := by simp
  obtain ⟨n8, cs8, rfl, -⟩ := T8.list
  have HT8 : Hid (Has (.l 3 1 n8 cs8) (.l 3 1 [.i])) := T8
  obtain ⟨p8, d8, rfl⟩ := A8.slice
  obtain ⟨q8, e8, rfl⟩ := B8.slice
  have hA8' : Hid (At false w (.slice p8 n8 d8) (.l 3 1 n8 cs8)) := A8
  have hB8' : Hid (At false w (.slice q8 n8 e8) (.l 3 1 n8 cs8)) := B8
  have HN1 : Hid (AtL false w [.int .i64 x1, .int .i64 x2, .int .i64 x3] [.i x1, .i x2, .i x3]) := AtL.cons (.i x1) (AtL.cons (.i x2) (AtL.cons (.i x3) (AtL.nil)))
  have HH1 : Hid (HasL [.i x1, .i x2, .i x3] tyOp) := ⟨rfl, fun j c t hc ht => by
    have hj : j < 3 := by have := (List.getElem?_eq_some_iff.1 hc).1; simpa using this
    rcases (show j = 0 ∨ j = 1 ∨ j = 2 by omega) with rfl | rfl | rfl <;> (simp [tyOp] at hc ht; subst hc ht)
    · exact .i x1
    · exact .i x2
    · exact .i x3⟩
  have HN7 : Hid (AtL false w [.int .i64 x7, .slice p8 n8 d8] [.i x7, .l 3 1 n8 cs8]) := AtL.cons (.i x7) (AtL.cons (hA8'.out) (AtL.nil))
  have HH7 : Hid (HasL [.i x7, .l 3 1 n8 cs8] tyRes) := ⟨rfl, fun j c t hc ht => by
    have hj : j < 2 := by have := (List.getElem?_eq_some_iff.1 hc).1; simpa using this
    rcases (show j = 0 ∨ j = 1 by omega) with rfl | rfl <;> (simp [tyRes] at hc ht; subst hc ht)
    · exact .i x7
    · exact HT8.out⟩
  have HM1 : Hid (AtL false w [.int .i64 x1, .int .i64 x2, .int .i64 x3] [.i x1, .i x2, .i x3]) := AtL.cons (.i x1) (AtL.cons (.i x2) (AtL.cons (.i x3) (AtL.nil)))
  have HM7 : Hid (AtL false w [.int .i64 x7, .slice q8 n8 e8] [.i x7, .l 3 1 n8 cs8]) := AtL.cons (.i x7) (AtL.cons (hB8'.out) (AtL.nil))
  clear hs h h' hA0 hB0 hH0 T0 A0 B0 hA1 hB1 hH1 T1 A1 B1 hA2 hB2 hH2 T2 A2 B2 hA3 hB3 hH3 T3 A3 B3 hA4 hB4 hH4 T4 A4 B4 hA5 hB5 hH5 T5 A5 B5 hA6 hB6 hH6 T6 A6 B6 hA7 hB7 hH7 T7 A7 B7 hA8 hB8 hH8 T8 A8 B8
  obtain ⟨W, hW⟩ : ∃ W, (w.alloc (.cells #[.int .i64 x0, .int .i64 x1, .int .i64 x2, .int .i64 x3, .int .i64 x4, .int .i64 x5, .int .i64 x6, .int .i64 x7, .slice p8 n8 d8] 52)).alloc (.cells #[.int .i64 x0, .int .i64 x1, .int .i64 x2, .int .i64 x3, .int .i64 x4, .int .i64 x5, .int .i64 x6, .int .i64 x7, .slice q8 n8 e8] 52) = W := ⟨_, rfl⟩
  have t0 : Hid (Two w W #[.int .i64 x0, .int .i64 x1, .int .i64 x2, .int .i64 x3, .int .i64 x4, .int .i64 x5, .int .i64 x6, .int .i64 x7, .slice p8 n8 d8] #[.int .i64 x0, .int .i64 x1, .int .i64 x2, .int .i64 x3, .int .i64 x4, .int .i64 x5, .int .i64 x6, .int .i64 x7, .slice q8 n8 e8] 52) := by rw [← hW]; exact two_new w _ _ _
  have HW : Hid _ := hW
  clear hW
  go_enter Tryz.func29, Tryz.ntmps29
  go_upto_region 1 with (fail)
  rw [HW.out]
  have ax0 : W.cell? ⟨w.heap.size, 0, none⟩ = some (.int .i64 x0) := t0.out.a.cell 0
  have bx0 : W.cell? ⟨w.heap.size + 1, 0, none⟩ = some (.int .i64 x0) := t0.out.b.cell 0
  have ax1 : W.cell? ⟨w.heap.size, 1, none⟩ = some (.int .i64 x1) := t0.out.a.cell 1
  have bx1 : W.cell? ⟨w.heap.size + 1, 1, none⟩ = some (.int .i64 x1) := t0.out.b.cell 1
  have ax2 : W.cell? ⟨w.heap.size, 2, none⟩ = some (.int .i64 x2) := t0.out.a.cell 2
  have bx2 : W.cell? ⟨w.heap.size + 1, 2, none⟩ = some (.int .i64 x2) := t0.out.b.cell 2
  have ax3 : W.cell? ⟨w.heap.size, 3, none⟩ = some (.int .i64 x3) := t0.out.a.cell 3
  have bx3 : W.cell? ⟨w.heap.size + 1, 3, none⟩ = some (.int .i64 x3) := t0.out.b.cell 3
  have ax4 : W.cell? ⟨w.heap.size, 4, none⟩ = some (.int .i64 x4) := t0.out.a.cell 4
  have bx4 : W.cell? ⟨w.heap.size + 1, 4, none⟩ = some (.int .i64 x4) := t0.out.b.cell 4
  have ax5 : W.cell? ⟨w.heap.size, 5, none⟩ = some (.int .i64 x5) := t0.out.a.cell 5
  have bx5 : W.cell? ⟨w.heap.size + 1, 5, none⟩ = some (.int .i64 x5) := t0.out.b.cell 5
  have ax6 : W.cell? ⟨w.heap.size, 6, none⟩ = some (.int .i64 x6) := t0.out.a.cell 6
  have bx6 : W.cell? ⟨w.heap.size + 1, 6, none⟩ = some (.int .i64 x6) := t0.out.b.cell 6
  have ax7 : W.cell? ⟨w.heap.size, 7, none⟩ = some (.int .i64 x7) := t0.out.a.cell 7
  have bx7 : W.cell? ⟨w.heap.size + 1, 7, none⟩ = some (.int .i64 x7) := t0.out.b.cell 7
  have ax8 : W.cell? ⟨w.heap.size, 8, none⟩ = some (.slice p8 n8 d8) := t0.out.a.cell 8
  have bx8 : W.cell? ⟨w.heap.size + 1, 8, none⟩ = some (.slice q8 n8 e8) := t0.out.b.cell 8
  go_wp2_with fail
  refine (dEqOp [.int .i64 x1, .int .i64 x2, .int .i64 x3] [.int .i64 x1, .int .i64 x2, .int .i64 x3] [.i x1, .i x2, .i x3] _ (HN1.out.on t0.out.on (Nat.le_refl _)) (HM1.out.on t0.out.on (Nat.le_refl _)) HH1.out).mono ?_
  rintro e w1 ⟨rfl, hb⟩
  have t1 : Hid (Two w w1 #[.int .i64 x0, .int .i64 x1, .int .i64 x2, .int .i64 x3, .int .i64 x4, .int .i64 x5, .int .i64 x6, .int .i64 x7, .slice p8 n8 d8] #[.int .i64 x0, .int .i64 x1, .int .i64 x2, .int .i64 x3, .int .i64 x4, .int .i64 x5, .int .i64 x6, .int .i64 x7, .slice q8 n8 e8] 52) := t0.out.call hb
  clear hb ax0 bx0 ax1 bx1 ax2 bx2 ax3 bx3 ax4 bx4 ax5 bx5 ax6 bx6 ax7 bx7 ax8 bx8
  have ax0 : w1.cell? ⟨w.heap.size, 0, none⟩ = some (.int .i64 x0) := t1.out.a.cell 0
  have bx0 : w1.cell? ⟨w.heap.size + 1, 0, none⟩ = some (.int .i64 x0) := t1.out.b.cell 0
  have ax1 : w1.cell? ⟨w.heap.size, 1, none⟩ = some (.int .i64 x1) := t1.out.a.cell 1
  have bx1 : w1.cell? ⟨w.heap.size + 1, 1, none⟩ = some (.int .i64 x1) := t1.out.b.cell 1
  have ax2 : w1.cell? ⟨w.heap.size, 2, none⟩ = some (.int .i64 x2) := t1.out.a.cell 2
  have bx2 : w1.cell? ⟨w.heap.size + 1, 2, none⟩ = some (.int .i64 x2) := t1.out.b.cell 2
  have ax3 : w1.cell? ⟨w.heap.size, 3, none⟩ = some (.int .i64 x3) := t1.out.a.cell 3
  have bx3 : w1.cell? ⟨w.heap.size + 1, 3, none⟩ = some (.int .i64 x3) := t1.out.b.cell 3
  have ax4 : w1.cell? ⟨w.heap.size, 4, none⟩ = some (.int .i64 x4) := t1.out.a.cell 4
  have bx4 : w1.cell? ⟨w.heap.size + 1, 4, none⟩ = some (.int .i64 x4) := t1.out.b.cell 4
  have ax5 : w1.cell? ⟨w.heap.size, 5, none⟩ = some (.int .i64 x5) := t1.out.a.cell 5
  have bx5 : w1.cell? ⟨w.heap.size + 1, 5, none⟩ = some (.int .i64 x5) := t1.out.b.cell 5
  have ax6 : w1.cell? ⟨w.heap.size, 6, none⟩ = some (.int .i64 x6) := t1.out.a.cell 6
  have bx6 : w1.cell? ⟨w.heap.size + 1, 6, none⟩ = some (.int .i64 x6) := t1.out.b.cell 6
  have ax7 : w1.cell? ⟨w.heap.size, 7, none⟩ = some (.int .i64 x7) := t1.out.a.cell 7
  have bx7 : w1.cell? ⟨w.heap.size + 1, 7, none⟩ = some (.int .i64 x7) := t1.out.b.cell 7
  have ax8 : w1.cell? ⟨w.heap.size, 8, none⟩ = some (.slice p8 n8 d8) := t1.out.a.cell 8
  have bx8 : w1.cell? ⟨w.heap.size + 1, 8, none⟩ = some (.slice q8 n8 e8) := t1.out.b.cell 8
  go_wp2_with fail
  refine (dEqRes [.int .i64 x7, .slice p8 n8 d8] [.int .i64 x7, .slice q8 n8 e8] [.i x7, .l 3 1 n8 cs8] _ (HN7.out.on t1.out.on (Nat.le_refl _)) (HM7.out.on t1.out.on (Nat.le_refl _)) HH7.out).mono ?_
  rintro e w2 ⟨rfl, hb⟩
  have t2 : Hid (Two w w2 #[.int .i64 x0, .int .i64 x1, .int .i64 x2, .int .i64 x3, .int .i64 x4, .int .i64 x5, .int .i64 x6, .int .i64 x7, .slice p8 n8 d8] #[.int .i64 x0, .int .i64 x1, .int .i64 x2, .int .i64 x3, .int .i64 x4, .int .i64 x5, .int .i64 x6, .int .i64 x7, .slice q8 n8 e8] 52) := t1.out.call hb
  clear hb ax0 bx0 ax1 bx1 ax2 bx2 ax3 bx3 ax4 bx4 ax5 bx5 ax6 bx6 ax7 bx7 ax8 bx8
  have ax0 : w2.cell? ⟨w.heap.size, 0, none⟩ = some (.int .i64 x0) := t2.out.a.cell 0
  have bx0 : w2.cell? ⟨w.heap.size + 1, 0, none⟩ = some (.int .i64 x0) := t2.out.b.cell 0
  have ax1 : w2.cell? ⟨w.heap.size, 1, none⟩ = some (.int .i64 x1) := t2.out.a.cell 1
  have bx1 : w2.cell? ⟨w.heap.size + 1, 1, none⟩ = some (.int .i64 x1) := t2.out.b.cell 1
  have ax2 : w2.cell? ⟨w.heap.size, 2, none⟩ = some (.int .i64 x2) := t2.out.a.cell 2
  have bx2 : w2.cell? ⟨w.heap.size + 1, 2, none⟩ = some (.int .i64 x2) := t2.out.b.cell 2
  have ax3 : w2.cell? ⟨w.heap.size, 3, none⟩ = some (.int .i64 x3) := t2.out.a.cell 3
  have bx3 : w2.cell? ⟨w.heap.size + 1, 3, none⟩ = some (.int .i64 x3) := t2.out.b.cell 3
  have ax4 : w2.cell? ⟨w.heap.size, 4, none⟩ = some (.int .i64 x4) := t2.out.a.cell 4
  have bx4 : w2.cell? ⟨w.heap.size + 1, 4, none⟩ = some (.int .i64 x4) := t2.out.b.cell 4
  have ax5 : w2.cell? ⟨w.heap.size, 5, none⟩ = some (.int .i64 x5) := t2.out.a.cell 5
  have bx5 : w2.cell? ⟨w.heap.size + 1, 5, none⟩ = some (.int .i64 x5) := t2.out.b.cell 5
  have ax6 : w2.cell? ⟨w.heap.size, 6, none⟩ = some (.int .i64 x6) := t2.out.a.cell 6
  have bx6 : w2.cell? ⟨w.heap.size + 1, 6, none⟩ = some (.int .i64 x6) := t2.out.b.cell 6
  have ax7 : w2.cell? ⟨w.heap.size, 7, none⟩ = some (.int .i64 x7) := t2.out.a.cell 7
  have bx7 : w2.cell? ⟨w.heap.size + 1, 7, none⟩ = some (.int .i64 x7) := t2.out.b.cell 7
  have ax8 : w2.cell? ⟨w.heap.size, 8, none⟩ = some (.slice p8 n8 d8) := t2.out.a.cell 8
  have bx8 : w2.cell? ⟨w.heap.size + 1, 8, none⟩ = some (.slice q8 n8 e8) := t2.out.b.cell 8
  go_wp2
  go_ret
  exact ⟨rfl, t2.out.on⟩
theorem dEqCallS (v u : Value) (n : Nat) (cs : List Cel) (w : World) (h : At false w v (.l 52 9 n cs)) (h' : At false w u (.l 52 9 n cs)) (hs : Has (.l 52 9 n cs) (.l 52 9 tyCall)) :
    Calls Tryz.prog 11 #[v, u] w (Yes w) := by
  obtain ⟨a, c, vs, rfl, h1, h2, hn, -, h3, h4⟩ := h.openL
  have SRC : Hid (n = 0 ∨ ∃ b o, a = some ⟨b, o, none⟩ ∧ ∀ j, j < n * 9 → w.cell? ⟨b, o + j, none⟩ = vs[j]?) := h3
  have HV : Hid (∀ j, j < n → AtL false w ((vs.drop (j * 9)).take 9) (row cs 9 j)) := fun j hj => rowVals h1 h2 h4 hj
  have Lvs : Hid (vs.length = n * 9) := h1
  clear h1 h2 h3 h4 hn
  obtain ⟨a', c', us, rfl, h1, h2, hn, -, h3, h4⟩ := h'.openL
  have SRD : Hid (n = 0 ∨ ∃ b o, a' = some ⟨b, o, none⟩ ∧ ∀ j, j < n * 9 → w.cell? ⟨b, o + j, none⟩ = us[j]?) := h3
  have HU : Hid (∀ j, j < n → AtL false w ((us.drop (j * 9)).take 9) (row cs 9 j)) := fun j hj => rowVals h1 h2 h4 hj
  have Lus : Hid (us.length = n * 9) := h1
  clear h1 h2 h3 h4 
  have HR : Hid (∀ j, j < n → HasL (row cs 9 j) tyCall) := fun j hj => hs.rowL hj
  clear h h' hs
  go_enter Tryz.func11, Tryz.ntmps11
  go_wp2
  go_loopw [5] (fun i wr => ∃ j : Nat, j ≤ n ∧ i = .int .i64 j ∧ Below w.heap.size w wr) (fun i _ => n - (intOf i).toNat)
  case atStart => exact ⟨0, Nat.zero_le _, rfl, Below.refl _ _⟩
  case round =>
    obtain ⟨j, hj, rfl, hb⟩ := hrel
    by_cases hlt : j < n
    · have hk0 : (0 : Int) ≤ (j : Int) := by omega
      have hk1 : (j : Int) < (n : Int) := by omega
      have hle : j * 9 + 9 ≤ n * 9 := by omega
      have hH := HR.out j hlt
      obtain ⟨rs, hrs⟩ : ∃ rs, row cs 9 j = rs := ⟨_, rfl⟩
      rw [hrs] at hH
      rcases SRC.out with h0 | ⟨p1, o1, rfl, g1⟩
      · omega
      have hA := HV.out j hlt
      have ce : ∀ i, i < 9 → wr.cell? ⟨p1, o1 + (j * 9 + i), none⟩ = ((vs.drop (j * 9)).take 9)[i]? := fun i hi => by
        have h5 := g1 (j * 9 + i) (by omega)
        rw [List.getElem?_take_of_lt hi, List.getElem?_drop, ← h5]
        have h6 : w.cell? ⟨p1, o1 + (j * 9 + i), none⟩ = some (vs[j * 9 + i]'(by have := Lvs.out; omega)) := by rw [h5, List.getElem?_eq_getElem (by have := Lvs.out; omega)]
        exact hb.cell (show p1 < w.heap.size from World.block_lt_of_cell? w _ h6)
      obtain ⟨ws, hws⟩ : ∃ ws, (vs.drop (j * 9)).take 9 = ws := ⟨_, rfl⟩
      rw [hrs] at hA
      rw [hws] at hA ce
      clear g1 hws
      rcases SRD.out with h0 | ⟨p2, o2, rfl, g2⟩
      · omega
      have hB := HU.out j hlt
      have cf : ∀ i, i < 9 → wr.cell? ⟨p2, o2 + (j * 9 + i), none⟩ = ((us.drop (j * 9)).take 9)[i]? := fun i hi => by
        have h5 := g2 (j * 9 + i) (by omega)
        rw [List.getElem?_take_of_lt hi, List.getElem?_drop, ← h5]
        have h6 : w.cell? ⟨p2, o2 + (j * 9 + i), none⟩ = some (us[j * 9 + i]'(by have := Lus.out; omega)) := by rw [h5, List.getElem?_eq_getElem (by have := Lus.out; omega)]
        exact hb.cell (show p2 < w.heap.size from World.block_lt_of_cell? w _ h6)
      obtain ⟨ws', hws⟩ : ∃ ws, (us.drop (j * 9)).take 9 = ws := ⟨_, rfl⟩
      rw [hrs] at hB
      rw [hws] at hB cf
      clear g2 hws
      obtain ⟨c0, r0, rfl, T0, hH0⟩ := hH.cons
      obtain ⟨c1, r1, rfl, T1, hH1⟩ := hH0.cons
      obtain ⟨c2, r2, rfl, T2, hH2⟩ := hH1.cons
      obtain ⟨c3, r3, rfl, T3, hH3⟩ := hH2.cons
      obtain ⟨c4, r4, rfl, T4, hH4⟩ := hH3.cons
      obtain ⟨c5, r5, rfl, T5, hH5⟩ := hH4.cons
      obtain ⟨c6, r6, rfl, T6, hH6⟩ := hH5.cons
      obtain ⟨c7, r7, rfl, T7, hH7⟩ := hH6.cons
      obtain ⟨c8, r8, rfl, T8, hH8⟩ := hH7.cons
      obtain rfl := hH8.nil
      have HL0 : Hid (HasL [c0, c1, c2, c3, c4, c5, c6, c7, c8] tyCall) := hH
      obtain ⟨v0, vr0, rfl, A0, hA0⟩ := hA.consE
      obtain ⟨v1, vr1, rfl, A1, hA1⟩ := hA0.consE
      obtain ⟨v2, vr2, rfl, A2, hA2⟩ := hA1.consE
      obtain ⟨v3, vr3, rfl, A3, hA3⟩ := hA2.consE
      obtain ⟨v4, vr4, rfl, A4, hA4⟩ := hA3.consE
      obtain ⟨v5, vr5, rfl, A5, hA5⟩ := hA4.consE
      obtain ⟨v6, vr6, rfl, A6, hA6⟩ := hA5.consE
      obtain ⟨v7, vr7, rfl, A7, hA7⟩ := hA6.consE
      obtain ⟨v8, vr8, rfl, A8, hA8⟩ := hA7.consE
      obtain rfl := hA8.nilE
      obtain ⟨u0, ur0, rfl, B0, hB0⟩ := hB.consE
      obtain ⟨u1, ur1, rfl, B1, hB1⟩ := hB0.consE
      obtain ⟨u2, ur2, rfl, B2, hB2⟩ := hB1.consE
      obtain ⟨u3, ur3, rfl, B3, hB3⟩ := hB2.consE
      obtain ⟨u4, ur4, rfl, B4, hB4⟩ := hB3.consE
      obtain ⟨u5, ur5, rfl, B5, hB5⟩ := hB4.consE
      obtain ⟨u6, ur6, rfl, B6, hB6⟩ := hB5.consE
      obtain ⟨u7, ur7, rfl, B7, hB7⟩ := hB6.consE
      obtain ⟨u8, ur8, rfl, B8, hB8⟩ := hB7.consE
      obtain rfl := hB8.nilE
      have HA0 : Hid (AtL false w [v0, v1, v2, v3, v4, v5, v6, v7, v8] [c0, c1, c2, c3, c4, c5, c6, c7, c8]) := hA
      have HB0 : Hid (AtL false w [u0, u1, u2, u3, u4, u5, u6, u7, u8] [c0, c1, c2, c3, c4, c5, c6, c7, c8]) := hB
      have e0 : wr.cell? ⟨p1, o1 + j * 9, none⟩ = some v0 := ce 0 (by omega)
      have f0 : wr.cell? ⟨p2, o2 + j * 9, none⟩ = some u0 := cf 0 (by omega)
      have e1 : wr.cell? ⟨p1, o1 + j * 9 + 1, none⟩ = some v1 := ce 1 (by omega)
      have f1 : wr.cell? ⟨p2, o2 + j * 9 + 1, none⟩ = some u1 := cf 1 (by omega)
      have e2 : wr.cell? ⟨p1, o1 + j * 9 + 2, none⟩ = some v2 := ce 2 (by omega)
      have f2 : wr.cell? ⟨p2, o2 + j * 9 + 2, none⟩ = some u2 := cf 2 (by omega)
      have e3 : wr.cell? ⟨p1, o1 + j * 9 + 3, none⟩ = some v3 := ce 3 (by omega)
      have f3 : wr.cell? ⟨p2, o2 + j * 9 + 3, none⟩ = some u3 := cf 3 (by omega)
      have e4 : wr.cell? ⟨p1, o1 + j * 9 + 4, none⟩ = some v4 := ce 4 (by omega)
      have f4 : wr.cell? ⟨p2, o2 + j * 9 + 4, none⟩ = some u4 := cf 4 (by omega)
      have e5 : wr.cell? ⟨p1, o1 + j * 9 + 5, none⟩ = some v5 := ce 5 (by omega)
      have f5 : wr.cell? ⟨p2, o2 + j * 9 + 5, none⟩ = some u5 := cf 5 (by omega)
      have e6 : wr.cell? ⟨p1, o1 + j * 9 + 6, none⟩ = some v6 := ce 6 (by omega)
      have f6 : wr.cell? ⟨p2, o2 + j * 9 + 6, none⟩ = some u6 := cf 6 (by omega)
      have e7 : wr.cell? ⟨p1, o1 + j * 9 + 7, none⟩ = some v7 := ce 7 (by omega)
      have f7 : wr.cell? ⟨p2, o2 + j * 9 + 7, none⟩ = some u7 := cf 7 (by omega)
      have e8 : wr.cell? ⟨p1, o1 + j * 9 + 8, none⟩ = some v8 := ce 8 (by omega)
      have f8 : wr.cell? ⟨p2, o2 + j * 9 + 8, none⟩ = some u8 := cf 8 (by omega)
      clear ce cf hrs hA0 hB0 hH0 hA1 hB1 hH1 hA2 hB2 hH2 hA3 hB3 hH3 hA4 hB4 hH4 hA5 hB5 hH5 hA6 hB6 hH6 hA7 hB7 hH7 hA8 hB8 hH8 T0 A0 B0 T1 A1 B1 T2 A2 B2 T3 A3 B3 T4 A4 B4 T5 A5 B5 T6 A6 B6 T7 A7 B7 T8 A8 B8 hA hB hH
      have q1 : p1 < wr.heap.size := World.block_lt_of_cell? wr _ e0
      have q2 : p2 < wr.heap.size := World.block_lt_of_cell? wr _ f0
      go_wp2_with fail
      go_region_held3 (fun w' => w'.cell? ⟨p1, o1 + j * 9, none⟩ = some v0 ∧ w'.cell? ⟨p1, o1 + j * 9 + 1, none⟩ = some v1 ∧ w'.cell? ⟨p1, o1 + j * 9 + 2, none⟩ = some v2 ∧ w'.cell? ⟨p1, o1 + j * 9 + 3, none⟩ = some v3 ∧ w'.cell? ⟨p1, o1 + j * 9 + 4, none⟩ = some v4 ∧ w'.cell? ⟨p1, o1 + j * 9 + 5, none⟩ = some v5 ∧ w'.cell? ⟨p1, o1 + j * 9 + 6, none⟩ = some v6 ∧ w'.cell? ⟨p1, o1 + j * 9 + 7, none⟩ = some v7 ∧ w'.cell? ⟨p1, o1 + j * 9 + 8, none⟩ = some v8 ∧ w'.cell? ⟨p2, o2 + j * 9, none⟩ = some u0 ∧ w'.cell? ⟨p2, o2 + j * 9 + 1, none⟩ = some u1 ∧ w'.cell? ⟨p2, o2 + j * 9 + 2, none⟩ = some u2 ∧ w'.cell? ⟨p2, o2 + j * 9 + 3, none⟩ = some u3 ∧ w'.cell? ⟨p2, o2 + j * 9 + 4, none⟩ = some u4 ∧ w'.cell? ⟨p2, o2 + j * 9 + 5, none⟩ = some u5 ∧ w'.cell? ⟨p2, o2 + j * 9 + 6, none⟩ = some u6 ∧ w'.cell? ⟨p2, o2 + j * 9 + 7, none⟩ = some u7 ∧ w'.cell? ⟨p2, o2 + j * 9 + 8, none⟩ = some u8)
        (first | (with_reducible exact K2.out) | go_keep)
        (first
        | (go_at_call 29
           refine (dEqCall [v0, v1, v2, v3, v4, v5, v6, v7, v8] [u0, u1, u2, u3, u4, u5, u6, u7, u8] [c0, c1, c2, c3, c4, c5, c6, c7, c8] _ (HA0.out.on (hb.drew) (Nat.le_refl _)) (HB0.out.on (hb.drew) (Nat.le_refl _)) HL0.out).mono ?_
           rintro e w2 ⟨rfl, hb2⟩
           have hb2' : Below wr.heap.size wr w2 := (Below.refl _ wr).drew.trans hb2
           have K2 : Hid (w2.cell? ⟨p1, o1 + j * 9, none⟩ = some v0 ∧ w2.cell? ⟨p1, o1 + j * 9 + 1, none⟩ = some v1 ∧ w2.cell? ⟨p1, o1 + j * 9 + 2, none⟩ = some v2 ∧ w2.cell? ⟨p1, o1 + j * 9 + 3, none⟩ = some v3 ∧ w2.cell? ⟨p1, o1 + j * 9 + 4, none⟩ = some v4 ∧ w2.cell? ⟨p1, o1 + j * 9 + 5, none⟩ = some v5 ∧ w2.cell? ⟨p1, o1 + j * 9 + 6, none⟩ = some v6 ∧ w2.cell? ⟨p1, o1 + j * 9 + 7, none⟩ = some v7 ∧ w2.cell? ⟨p1, o1 + j * 9 + 8, none⟩ = some v8 ∧ w2.cell? ⟨p2, o2 + j * 9, none⟩ = some u0 ∧ w2.cell? ⟨p2, o2 + j * 9 + 1, none⟩ = some u1 ∧ w2.cell? ⟨p2, o2 + j * 9 + 2, none⟩ = some u2 ∧ w2.cell? ⟨p2, o2 + j * 9 + 3, none⟩ = some u3 ∧ w2.cell? ⟨p2, o2 + j * 9 + 4, none⟩ = some u4 ∧ w2.cell? ⟨p2, o2 + j * 9 + 5, none⟩ = some u5 ∧ w2.cell? ⟨p2, o2 + j * 9 + 6, none⟩ = some u6 ∧ w2.cell? ⟨p2, o2 + j * 9 + 7, none⟩ = some u7 ∧ w2.cell? ⟨p2, o2 + j * 9 + 8, none⟩ = some u8) := ⟨(hb2'.cell (show p1 < _ from q1)).trans e0, (hb2'.cell (show p1 < _ from q1)).trans e1, (hb2'.cell (show p1 < _ from q1)).trans e2, (hb2'.cell (show p1 < _ from q1)).trans e3, (hb2'.cell (show p1 < _ from q1)).trans e4, (hb2'.cell (show p1 < _ from q1)).trans e5, (hb2'.cell (show p1 < _ from q1)).trans e6, (hb2'.cell (show p1 < _ from q1)).trans e7, (hb2'.cell (show p1 < _ from q1)).trans e8, (hb2'.cell (show p2 < _ from q2)).trans f0, (hb2'.cell (show p2 < _ from q2)).trans f1, (hb2'.cell (show p2 < _ from q2)).trans f2, (hb2'.cell (show p2 < _ from q2)).trans f3, (hb2'.cell (show p2 < _ from q2)).trans f4, (hb2'.cell (show p2 < _ from q2)).trans f5, (hb2'.cell (show p2 < _ from q2)).trans f6, (hb2'.cell (show p2 < _ from q2)).trans f7, (hb2'.cell (show p2 < _ from q2)).trans f8⟩
           have hb02 : Below w.heap.size w w2 := hb.trans (hb2'.mono hb.size)
           clear hb2 hb2'))
      clear e0 f0 e1 f1 e2 f2 e3 f3 e4 f4 e5 f5 e6 f6 e7 f7 e8 f8 K2
      go_wp2
      exact ⟨⟨j + 1, by omega, by go_num, hb02⟩, by simp [intOf]; omega⟩
    · obtain rfl : j = n := by omega
      go_wp2
      go_ret
      exact ⟨rfl, hb⟩
end
end Go.Proofs.YtecheopkfhfgkaaGreat
namespace Go.Proofs.YtecheopkfhfgkaaGreat
open Go.ChangeShapes Go.WideShapes Go.ChangeAt Go.RowKit Go.Joins

namespace fnExactLinear
theorem atLoose {w : World} {us : List Value} {cs : List Cel} (h : AtL true w us cs) : AtL false w us cs := ⟨h.1, fun j v c hv hc => (h.2 j v c hv hc).loose⟩
theorem two_box {w : World} {b : Nat} {x0 x1 : Value} {T : TypeId} (h : Box w b #[x0, x1] T) : w.cell? ⟨b, 0, none⟩ = some x0 ∧ w.cell? ⟨b, 1, none⟩ = some x1 := ⟨h.cell 0, h.cell 1⟩
def LinD (cs cl : List Cel) (n : Nat) : Prop := LinM (fD cl) (rD cl) n (nums (listC (nthC cs 0))) (numC (nthC cs 1))
theorem rows_of {w : World} {us : List Value} {cs : List Cel} (h : AtL true w us cs) (hs : HasL cs tyRows) : ∃ ra rn rc st, us = [.slice ra rn rc, .int .i64 st] ∧ (rn ≤ rc ∧ (ra = none → rc = 0)) ∧ numC (nthC cs 1) = st ∧ lenC (nthC cs 0) = rn ∧ IntAt w ra rn (nums (listC (nthC cs 0))) := by
  obtain ⟨x0, r0, rfl, T0, hH0⟩ := hs.cons
  obtain ⟨x1, r1, rfl, T1, hH1⟩ := hH0.cons
  obtain rfl := hH1.nil
  obtain ⟨v0, vr0, rfl, A0, hA0⟩ := h.consE
  obtain ⟨v1, vr1, rfl, A1, hA1⟩ := hA0.consE
  obtain rfl := hA1.nilE
  obtain ⟨n0, l0, rfl, _⟩ := T0.list
  obtain ⟨y1, rfl⟩ := T1.int
  obtain rfl := A1.int
  obtain ⟨a0, c0, rfl⟩ := A0.slice
  have hk := (at_kAt A0 T0 i1).ints
  obtain ⟨_, _, _, e0, _, _, _, hq0, _, _⟩ := A0.openL
  cases e0
  exact ⟨a0, n0, c0, y1, rfl, ⟨(hq0 rfl).2, (hq0 rfl).1⟩, rfl, rfl, hk⟩
theorem specC (us : List Value) (cs : List Cel) (v : Value) (n : Nat) (cl : List Cel) (w : World) (h : AtL true w us cs) (hs : HasL cs tyRows) (h' : At true w v (.l 52 9 n cl)) (hs' : Has (.l 52 9 n cl) (.l 52 9 tyCall)) (hb : n + bigL cl ≤ 1048576) :
    Calls Tryz.prog 6 #[.agg us.toArray, v] w fun e w' => Says e (LinD cs cl n) ∧ Below w.heap.size w w' := by
  obtain ⟨ra, rn, rc, st, rfl, hcap, hst, hrn, hI⟩ := rows_of h hs
  obtain ⟨ca, cc, rfl, hC⟩ := at_calls_n h' hs' (by omega)
  unfold LinD
  rw [hst]
  exact spec_Linear ra rn rc st _ ca n cc _ _ w hI (by omega) hC
theorem implC (us : List Value) (cs : List Cel) (v : Value) (n : Nat) (cl : List Cel) (w : World) (h : AtL true w us cs) (hs : HasL cs tyRows) (h' : At true w v (.l 52 9 n cl)) (hs' : Has (.l 52 9 n cl) (.l 52 9 tyCall)) (hb : n + bigL cl ≤ 1048576) (hw : WfL cs) (hw' : WfL cl) :
    Calls Tryz.prog 9 #[.agg us.toArray, v] w fun e w' => Says e (LinD cs cl n) ∧ Below w.heap.size w w' := by
  exact implLinear_law us cs v n cl w h hs h' hs' hb hw hw'
theorem walk (vs : List Value) (cs : List Cel) (vC : Value) (n : Nat) (cl : List Cel) (w : World) (h : InL w vs cs) (hs : HasL cs tyRows) (hw : WfL cs) (h' : In w vC (.l 52 9 n cl)) (hs' : Has (.l 52 9 n cl) (.l 52 9 tyCall)) (hw' : WfL cl) :
    Calls Tryz.prog 3 #[.agg vs.toArray, vC] w fun e w' => e = .returned (.bool true) ∧ Below w.heap.size w w' := by
  have hl2 : vs.length = 2 := by rw [h.1, hs.1]; rfl
  obtain ⟨v0, v1, rfl⟩ : ∃ v0 v1, vs = [v0, v1] := by
    match vs, hl2 with
    | [a0, a1], _ => exact ⟨_, _, rfl⟩
  have HIN : Hid (InL w [v0, v1] cs) := h
  have HIC : Hid (In w vC (.l 52 9 n cl)) := h'
  have HS : Hid (HasL cs tyRows) := hs
  have HS' : Hid (Has (.l 52 9 n cl) (.l 52 9 tyCall)) := hs'
  have HWF : Hid (WfL cs ∧ WfL cl) := ⟨hw, hw'⟩
  obtain ⟨sz, hsz⟩ : ∃ sz, w.heap.size = sz := ⟨_, rfl⟩
  obtain ⟨W, hW⟩ : ∃ W, w.alloc (.cells #[v0, v1] 24) = W := ⟨_, rfl⟩
  have hb0 : Below sz w W := by rw [← hW, ← hsz]; exact (Below.refl _ w).alloc (Nat.le_refl _) _
  have hWs : W.heap.size = sz + 1 := by rw [← hW, ← hsz]; simp
  have XA : Hid (Box W sz #[v0, v1] 24) := by rw [← hW, ← hsz]; exact (box_of w _ _)
  have HW : Hid (w.alloc (.cells #[v0, v1] 24) = W) := hW
  have HSZ : Hid (w.heap.size = sz) := hsz
  have HB0 : Hid (Below sz w W) := hb0
  have HWS : Hid (W.heap.size = sz + 1) := hWs
  have hsw : Hid (w.heap.size ≤ sz) := by rw [hsz]; exact Nat.le_refl _
  have CA : Hid (∀ y, Below W.heap.size W y → y.cell? ⟨sz, 0, none⟩ = some v0 ∧ y.cell? ⟨sz, 1, none⟩ = some v1) := fun y hb => two_box (XA.out.below hb XA.out.lt)
  have UP : Hid (∀ y, Below W.heap.size W y → Below sz w y) := fun y hb => HB0.out.trans (hb.mono (by have := HWS.out; omega))
  clear hW hb0 hWs hsz h hs hw h' hs' hw' hl2
  show Calls Tryz.prog 3 #[.agg #[v0, v1], vC] w fun e w' => e = .returned (.bool true) ∧ Below w.heap.size w w'
  go_enter Tryz.func3, Tryz.ntmps3
  go_wp2_with fail
  rw [HW.out]
  (try rw [HSZ.out])
  refine (dSzRows [v0, v1] cs 1048576 W (HIN.out.on HB0.out hsw.out) HS.out (by omega) (by omega)).mono ?_
  rintro e w0 ⟨hb1, ⟨r, rfl, hr0, hr1⟩ | ⟨rfl, hbig⟩⟩
  case inr =>
    have hall : Below sz w w0 := UP.out _ hb1
    clear hb1 hbig
    go_wp2
    go_ret
    exact ⟨rfl, by rw [HSZ.out]; exact hall⟩
  have hr2 : ¬ r < 0 := by omega
  have hr3 : decide (r < 0) = false := decide_eq_false hr2
  have HBa : Hid (Below W.heap.size W w0) := hb1
  have hr4 : r ≤ 1048576 := by omega
  have BIG : Hid (bigL cs ≤ 1048576) := by show _ ≤ _; omega
  clear hb1 hr0 hr1
  go_wp2_with fail
  refine (dSzCallS vC n cl r w0 (HIC.out.on (UP.out _ HBa.out) hsw.out) HS'.out (by omega) (by omega)).mono ?_
  rintro e w1 ⟨hb1, ⟨r', rfl, hr0, hr1⟩ | ⟨rfl, hbig⟩⟩
  case inr =>
    have hall : Below sz w w1 := UP.out _ (HBa.out.trans (hb1.mono HBa.out.size))
    clear hb1 hbig
    go_wp2
    go_ret
    exact ⟨rfl, by rw [HSZ.out]; exact hall⟩
  have BIG' : Hid (n + bigL cl ≤ 1048576) := by show _ ≤ _; omega
  have hr2' : ¬ r' < 0 := by omega
  have hr3' : decide (r' < 0) = false := decide_eq_false hr2'
  have HB1 : Hid (Below W.heap.size W w1) := HBa.out.trans (hb1.mono HBa.out.size)
  have INS : Hid (∀ y, Below sz w y → AtL false y [v0, v1] cs) := fun y hb => (HIN.out.on hb hsw.out).at (by have := BIG.out; omega)
  have INC : Hid (∀ y, Below sz w y → At false y vC (.l 52 9 n cl)) := fun y hb => (HIC.out.on hb hsw.out).at (by have := BIG'.out; simp only [Cel.big]; omega)
  clear hb1 hr0 hr1 HBa hr2 hr3 hr4
  obtain ⟨y0, y1⟩ := CA.out _ HB1.out
  go_wp2_with fail
  refine (dToRows [v0, v1] cs _ (INS.out _ (UP.out _ HB1.out)) HS.out).mono ?_
  rintro e w2 ⟨hb2, ss, S2, rfl, hO2⟩
  have HB2 : Hid (Below W.heap.size W w2) := HB1.out.trans (hb2.mono HB1.out.size)
  have SA : Hid (∀ y, Below w2.heap.size w2 y → AtL true y ss cs) := fun y hb => hO2.at.on hb (Nat.le_refl _)
  clear y0 y1 hO2 hb2
  go_wp2_with fail
  refine (dToCallS vC n cl _ (INC.out _ (UP.out _ HB2.out)) HS'.out).mono ?_
  rintro e w3 ⟨hb3, sc, S3, rfl, hO3⟩
  have HB3 : Hid (Below W.heap.size W w3) := HB2.out.trans (hb3.mono HB2.out.size)
  have SA3 : Hid (AtL true w3 ss cs ∧ At true w3 sc (.l 52 9 n cl)) := ⟨SA.out _ hb3, hO3.at⟩
  clear hO3 hb3 SA
  go_wp2_with fail
  refine (specC ss cs sc n cl _ SA3.out.1 HS.out SA3.out.2 HS'.out BIG'.out).mono ?_
  rintro e W4 ⟨⟨B, rfl, hB⟩, hb4⟩
  have HBB : Hid (B = true ↔ LinD cs cl n) := hB
  have nb : (B != B) = false := by simp
  have HA4 : Hid (Below W.heap.size W W4) := HB3.out.trans (hb4.mono HB3.out.size)
  clear hb4 SA3 hB
  obtain ⟨y0, y1⟩ := CA.out _ HA4.out
  go_wp2_with fail
  refine (dToRows [v0, v1] cs _ (INS.out _ (UP.out _ HA4.out)) HS.out).mono ?_
  rintro e w5 ⟨hb5, us, S5, rfl, hO5⟩
  obtain ⟨b0, m0, k0, j1, rfl, _⟩ := rows_of hO5.at HS.out
  obtain ⟨q5, hq5⟩ : ∃ q5, w5.heap.size = q5 := ⟨_, rfl⟩
  obtain ⟨W5, hW5⟩ : ∃ W5, w5.alloc (.cells #[(.slice b0 m0 k0), (.int .i64 j1)] 29) = W5 := ⟨_, rfl⟩
  have hxW5 : Below w5.heap.size w5 W5 := by rw [← hW5]; exact (Below.refl _ _).alloc (Nat.le_refl _) _
  have X5 : Hid (Box W5 q5 #[(.slice b0 m0 k0), (.int .i64 j1)] 29) := by rw [← hW5, ← hq5]; exact box_of w5 _ _
  have UA : Hid (∀ y, Below W5.heap.size W5 y → AtL true y [(.slice b0 m0 k0), (.int .i64 j1)] cs) := fun y hb => (hO5.at.on hxW5 (Nat.le_refl _)).on hb (Nat.le_refl _)
  have HB45 : Hid (Below W4.heap.size W4 W5) := hb5.trans (hxW5.mono hb5.size)
  have HA5 : Hid (Below W.heap.size W W5) := HA4.out.trans (HB45.out.mono HA4.out.size)
  have HW5 : Hid (w5.alloc (.cells #[(.slice b0 m0 k0), (.int .i64 j1)] 29) = W5) := hW5
  have E5 : Hid (w5.heap.size = q5) := hq5
  clear hO5 hb5 hW5 hq5 hxW5 y0 y1
  go_upto_region 10 with (fail)
  rw [HW5.out]
  (try rw [E5.out])
  clear HW5 E5
  go_wp2_with fail
  refine (dToCallS vC n cl _ (INC.out _ (UP.out _ HA5.out)) HS'.out).mono ?_
  rintro e w6 ⟨hb6, uc, S6, rfl, hO6⟩
  have HB56 : Hid (Below W5.heap.size W5 w6) := hb6
  have UC : Hid (∀ y, Below w6.heap.size w6 y → At true y uc (.l 52 9 n cl)) := fun y hb => hO6.at.on hb (Nat.le_refl _)
  clear hO6 hb6
  obtain ⟨y0, y1⟩ := two_box (X5.out.below HB56.out X5.out.lt)
  go_wp2_with fail
  refine (implC [(.slice b0 m0 k0), (.int .i64 j1)] cs uc n cl _ (UA.out _ HB56.out) HS.out (UC.out _ (Below.refl _ _)) HS'.out BIG'.out HWF.out.1 HWF.out.2).mono ?_
  rintro e w7 ⟨⟨B', rfl, hB'⟩, hb7⟩
  obtain rfl : B = B' := by
    have h1 := HBB.out
    rw [← hB'] at h1
    cases B <;> cases B' <;> simp at h1 ⊢
  have HB67 : Hid (Below w6.heap.size w6 w7) := hb7
  have HB57 : Hid (Below W5.heap.size W5 w7) := HB56.out.trans (hb7.mono HB56.out.size)
  clear hb7 hB' y0 y1
  have KS : Hid (∀ y, Below w7.heap.size w7 y → (y.cell? ⟨q5, 0, none⟩ = some (.slice b0 m0 k0) ∧ y.cell? ⟨q5, 1, none⟩ = some (.int .i64 j1)) ∧ y.cell? ⟨sz, 0, none⟩ = some v0 ∧ y.cell? ⟨sz, 1, none⟩ = some v1) := fun y hb => by
    have hb' : Below W5.heap.size W5 y := HB57.out.trans (hb.mono HB57.out.size)
    exact ⟨two_box (X5.out.below hb' X5.out.lt), CA.out y (HA5.out.trans (hb'.mono HA5.out.size))⟩
  have K0 : Hid ((w7.drew.cell? ⟨q5, 0, none⟩ = some (.slice b0 m0 k0) ∧ w7.drew.cell? ⟨q5, 1, none⟩ = some (.int .i64 j1)) ∧ w7.drew.cell? ⟨sz, 0, none⟩ = some v0 ∧ w7.drew.cell? ⟨sz, 1, none⟩ = some v1) := KS.out _ (Below.refl _ _).drew
  have HA7 : Hid (Below W.heap.size W w7) := HA5.out.trans (HB57.out.mono HA5.out.size)
  have INS7 : Hid (AtL false w7.drew [v0, v1] cs) := INS.out _ (UP.out _ HA7.out).drew
  have UA7 : Hid (AtL false w7 [(.slice b0 m0 k0), (.int .i64 j1)] cs) := atLoose (UA.out _ HB57.out)
  go_upto_region 14 with (fail)
  go_region_held3 (fun w' => (w'.cell? ⟨q5, 0, none⟩ = some (.slice b0 m0 k0) ∧ w'.cell? ⟨q5, 1, none⟩ = some (.int .i64 j1)) ∧ w'.cell? ⟨sz, 0, none⟩ = some v0 ∧ w'.cell? ⟨sz, 1, none⟩ = some v1)
    (first | (with_reducible exact K2.out) | (with_reducible exact K1.out) | (with_reducible exact K0.out) | go_keep)
    (first
    | (go_at_call 7
       refine (dToRows [v0, v1] cs _ INS7.out HS.out).mono ?_
       rintro e w8 ⟨hb8, ts, S8, rfl, hO8⟩
       have hb8' : Below w7.heap.size w7 w8 := (Below.refl w7.heap.size w7).drew.trans hb8
       have HB8 : Hid (Below w7.heap.size w7 w8) := hb8'
       have SA8 : Hid (AtL false w8 ts cs) := ⟨hO8.1, fun j v c hv hc => (hO8.at.2 j v c hv hc).loose⟩
       have K1 : Hid ((w8.cell? ⟨q5, 0, none⟩ = some (.slice b0 m0 k0) ∧ w8.cell? ⟨q5, 1, none⟩ = some (.int .i64 j1)) ∧ w8.cell? ⟨sz, 0, none⟩ = some v0 ∧ w8.cell? ⟨sz, 1, none⟩ = some v1) := KS.out _ hb8'
       clear hb8 hb8' hO8)
    | (go_at_call 10
       refine (dEqRows [(.slice b0 m0 k0), (.int .i64 j1)] ts cs _ (UA7.out.on HB8.out (Nat.le_refl _)) SA8.out HS.out).mono ?_
       rintro e w9 ⟨rfl, hb9⟩
       have hb9' : Below w7.heap.size w7 w9 := HB8.out.trans (hb9.mono HB8.out.size)
       have HB9 : Hid (Below w7.heap.size w7 w9) := hb9'
       have K2 : Hid ((w9.cell? ⟨q5, 0, none⟩ = some (.slice b0 m0 k0) ∧ w9.cell? ⟨q5, 1, none⟩ = some (.int .i64 j1)) ∧ w9.cell? ⟨sz, 0, none⟩ = some v0 ∧ w9.cell? ⟨sz, 1, none⟩ = some v1) := KS.out _ hb9'
       clear hb9 hb9'))
  have HA9 : Hid (Below W.heap.size W w9) := HA7.out.trans (HB9.out.mono HA7.out.size)
  have UC9 : Hid (Below w6.heap.size w6 w9) := HB67.out.trans (HB9.out.mono HB67.out.size)
  clear K0 K1 K2 KS SA8 HB8 HB9
  go_wp2_with fail
  refine (dToCallS vC n cl _ (INC.out _ (UP.out _ HA9.out)) HS'.out).mono ?_
  rintro e w10 ⟨hb10, tc, S10, rfl, hO10⟩
  have HB10 : Hid (Below w9.heap.size w9 w10) := hb10
  have TC : Hid (At false w10 tc (.l 52 9 n cl)) := hO10.at.loose
  have UC10 : Hid (At false w10 uc (.l 52 9 n cl)) := (UC.out _ (UC9.out.trans (hb10.mono UC9.out.size))).loose
  clear hb10 hO10
  go_wp2_with fail
  refine (dEqCallS uc tc n cl _ UC10.out TC.out HS'.out).mono ?_
  rintro e w11 ⟨rfl, hb11⟩
  have hall : Below sz w w11 := UP.out _ (HA9.out.trans ((HB10.out.trans (hb11.mono HB10.out.size)).mono HA9.out.size))
  clear hb11
  go_wp2
  go_ret
  exact ⟨rfl, by rw [HSZ.out]; exact hall⟩
end fnExactLinear
end Go.Proofs.YtecheopkfhfgkaaGreat
namespace Go.Proofs.YtecheopkfhfgkaaGreat
section
open Go.ChangeShapes Go.WideShapes Go.ChangeAt Go.RowKit Go.Joins
set_option linter.unusedSimpArgs false

theorem flatOp : Flat Tryz.prog 39 tyOp := by
  refine Flat.st 39 _ [[.i], [.i], [.i]] Tryz.underlying39 rfl (by kernel_rfl) ?_ ?_
  · intro i f g hf hg
    have hi : i < 3 := by have := (List.getElem?_eq_some_iff.1 hg).1; simpa using this
    rcases (show i = 0 ∨ i = 1 ∨ i = 2 by omega) with rfl | rfl | rfl <;> (simp at hf hg; subst hf hg)
    · exact ⟨rfl, by kernel_rfl⟩
    · exact ⟨rfl, by kernel_rfl⟩
    · exact ⟨rfl, by kernel_rfl⟩
  · intro i f g hf hg
    have hi : i < 3 := by have := (List.getElem?_eq_some_iff.1 hg).1; simpa using this
    rcases (show i = 0 ∨ i = 1 ∨ i = 2 by omega) with rfl | rfl | rfl <;> (simp at hf hg; subst hf hg)
    · exact Flat.i _ Tryz.underlying3
    · exact Flat.i _ Tryz.underlying3
    · exact Flat.i _ Tryz.underlying3
theorem flatRes : Flat Tryz.prog 41 tyRes := by
  refine Flat.st 41 _ [[.i], [.l 3 1 [.i]]] Tryz.underlying41 rfl (by kernel_rfl) ?_ ?_
  · intro i f g hf hg
    have hi : i < 2 := by have := (List.getElem?_eq_some_iff.1 hg).1; simpa using this
    rcases (show i = 0 ∨ i = 1 by omega) with rfl | rfl <;> (simp at hf hg; subst hf hg)
    · exact ⟨rfl, by kernel_rfl⟩
    · exact ⟨rfl, by kernel_rfl⟩
  · intro i f g hf hg
    have hi : i < 2 := by have := (List.getElem?_eq_some_iff.1 hg).1; simpa using this
    rcases (show i = 0 ∨ i = 1 by omega) with rfl | rfl <;> (simp at hf hg; subst hf hg)
    · exact Flat.i _ Tryz.underlying3
    · exact Flat.l _ _ 3 1 _ Tryz.underlying22 rfl (by decide) (by kernel_rfl) (Flat.i _ Tryz.underlying3)
theorem flatRows : Flat Tryz.prog 24 tyRows := by
  refine Flat.st 24 _ [[.l 3 1 [.i]], [.i]] Tryz.underlying24 rfl (by kernel_rfl) ?_ ?_
  · intro i f g hf hg
    have hi : i < 2 := by have := (List.getElem?_eq_some_iff.1 hg).1; simpa using this
    rcases (show i = 0 ∨ i = 1 by omega) with rfl | rfl <;> (simp at hf hg; subst hf hg)
    · exact ⟨rfl, by kernel_rfl⟩
    · exact ⟨rfl, by kernel_rfl⟩
  · intro i f g hf hg
    have hi : i < 2 := by have := (List.getElem?_eq_some_iff.1 hg).1; simpa using this
    rcases (show i = 0 ∨ i = 1 by omega) with rfl | rfl <;> (simp at hf hg; subst hf hg)
    · exact Flat.l _ _ 3 1 _ Tryz.underlying22 rfl (by decide) (by kernel_rfl) (Flat.i _ Tryz.underlying3)
    · exact Flat.i _ Tryz.underlying3
theorem flatCall : Flat Tryz.prog 43 tyCall := by
  refine Flat.st 43 _ [[.i], tyOp, [.i], [.i], [.i], tyRes] Tryz.underlying43 rfl (by kernel_rfl) ?_ ?_
  · intro i f g hf hg
    have hi : i < 6 := by have := (List.getElem?_eq_some_iff.1 hg).1; simpa using this
    rcases (show i = 0 ∨ i = 1 ∨ i = 2 ∨ i = 3 ∨ i = 4 ∨ i = 5 by omega) with rfl | rfl | rfl | rfl | rfl | rfl <;> (simp at hf hg; subst hf hg)
    · exact ⟨rfl, by kernel_rfl⟩
    · exact ⟨rfl, by kernel_rfl⟩
    · exact ⟨rfl, by kernel_rfl⟩
    · exact ⟨rfl, by kernel_rfl⟩
    · exact ⟨rfl, by kernel_rfl⟩
    · exact ⟨rfl, by kernel_rfl⟩
  · intro i f g hf hg
    have hi : i < 6 := by have := (List.getElem?_eq_some_iff.1 hg).1; simpa using this
    rcases (show i = 0 ∨ i = 1 ∨ i = 2 ∨ i = 3 ∨ i = 4 ∨ i = 5 by omega) with rfl | rfl | rfl | rfl | rfl | rfl <;> (simp at hf hg; subst hf hg)
    · exact Flat.i _ Tryz.underlying3
    · exact flatOp
    · exact Flat.i _ Tryz.underlying3
    · exact Flat.i _ Tryz.underlying3
    · exact Flat.i _ Tryz.underlying3
    · exact flatRes
end
end Go.Proofs.YtecheopkfhfgkaaGreat
