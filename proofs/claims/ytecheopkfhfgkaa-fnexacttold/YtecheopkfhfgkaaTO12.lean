/- Texts joined: DatG. -/
import Derived.Test.YtecheopkfhfgkaaTO11
import Derived.Deep.RegionHeld3
import Derived.Deep.Cut
import Derived.Handy
set_option maxHeartbeats 2000000
set_option maxRecDepth 100000
namespace Go.Proofs.Ytecheopkfhfgkaa
section
open Go.ChangeShapes Go.WideShapes Go.ChangeAt Go.RowKit Go.Joins
theorem dEqMem (vs us : List Value) (cs : List Cel) (w : World) (h : AtL false w vs cs) (h' : AtL false w us cs) (hs : HasL cs tyMem) : Calls Try.prog 37 #[.agg vs.toArray, .agg us.toArray] w (Yes w) := by
 obtain ⟨c0, c1, rfl, T0, T1⟩ := hs.c2
 obtain ⟨v0, v1, rfl, A0, A1⟩ := h.c2
 obtain ⟨u0, u1, rfl, B0, B1⟩ := h'.c2
 obtain ⟨n0, cs0, rfl, -⟩ := T0.list
 have HT0 : Hid (Has (.l 121 3 n0 cs0) (.l 121 3 tyWord)) := T0
 obtain ⟨p0, d0, rfl⟩ := A0.slice
 obtain ⟨q0, e0, rfl⟩ := B0.slice
 have hA0' : Hid (At false w (.slice p0 n0 d0) (.l 121 3 n0 cs0)) := A0
 have hB0' : Hid (At false w (.slice q0 n0 e0) (.l 121 3 n0 cs0)) := B0
 obtain ⟨n1, cs1, rfl, -⟩ := T1.list
 have HT1 : Hid (Has (.l 126 5 n1 cs1) (.l 126 5 tyDesc)) := T1
 obtain ⟨p1, d1, rfl⟩ := A1.slice
 obtain ⟨q1, e1, rfl⟩ := B1.slice
 have hA1' : Hid (At false w (.slice p1 n1 d1) (.l 126 5 n1 cs1)) := A1
 have hB1' : Hid (At false w (.slice q1 n1 e1) (.l 126 5 n1 cs1)) := B1
 clear hs h h' T0 A0 B0 T1 A1 B1
 obtain ⟨W, hW⟩ : ∃ W, (w.alloc (.cells #[.slice p0 n0 d0, .slice p1 n1 d1] 53)).alloc (.cells #[.slice q0 n0 e0, .slice q1 n1 e1] 53) = W := ⟨_, rfl⟩
 have t0 : Hid (Two w W #[.slice p0 n0 d0, .slice p1 n1 d1] #[.slice q0 n0 e0, .slice q1 n1 e1] 53) := by rw [← hW]; exact two_new w _ _ _
 have HW : Hid _ := hW
 clear hW
 go_enter Try.func37, Try.ntmps37
 go_upto_region 1 with (fail)
 rw [HW.out]
 have ax0 := t0.out.a.at 0 (.slice p0 n0 d0) rfl
 have bx0 := t0.out.b.at 0 (.slice q0 n0 e0) rfl
 have ax1 := t0.out.a.at 1 (.slice p1 n1 d1) rfl
 have bx1 := t0.out.b.at 1 (.slice q1 n1 e1) rfl
 go_wp2_with fail
 refine (dEqWordS _ _ n0 cs0 _ (hA0'.out.on t0.out.on (Nat.le_refl _)) (hB0'.out.on t0.out.on (Nat.le_refl _)) HT0.out).mono ?_
 rintro e w1 ⟨rfl, hb⟩
 have t1 : Hid (Two w w1 #[.slice p0 n0 d0, .slice p1 n1 d1] #[.slice q0 n0 e0, .slice q1 n1 e1] 53) := t0.out.call hb
 clear hb ax0 bx0 ax1 bx1
 have ax0 := t1.out.a.at 0 (.slice p0 n0 d0) rfl
 have bx0 := t1.out.b.at 0 (.slice q0 n0 e0) rfl
 have ax1 := t1.out.a.at 1 (.slice p1 n1 d1) rfl
 have bx1 := t1.out.b.at 1 (.slice q1 n1 e1) rfl
 go_wp2_with fail
 refine (dEqDescS _ _ n1 cs1 _ (hA1'.out.on t1.out.on (Nat.le_refl _)) (hB1'.out.on t1.out.on (Nat.le_refl _)) HT1.out).mono ?_
 rintro e w2 ⟨rfl, hb⟩
 have t2 : Hid (Two w w2 #[.slice p0 n0 d0, .slice p1 n1 d1] #[.slice q0 n0 e0, .slice q1 n1 e1] 53) := t1.out.call hb
 clear hb ax0 bx0 ax1 bx1
 have ax0 := t2.out.a.at 0 (.slice p0 n0 d0) rfl
 have bx0 := t2.out.b.at 0 (.slice q0 n0 e0) rfl
 have ax1 := t2.out.a.at 1 (.slice p1 n1 d1) rfl
 have bx1 := t2.out.b.at 1 (.slice q1 n1 e1) rfl
 go_wp2
 go_ret
 exact ⟨rfl, t2.out.on⟩
theorem dEqCall (vs us : List Value) (cs : List Cel) (w : World) (h : AtL false w vs cs) (h' : AtL false w us cs) (hs : HasL cs tyCall) : Calls Try.prog 9 #[.agg vs.toArray, .agg us.toArray] w (Yes w) := by
 obtain ⟨c0, c1, c2, c3, c4, c5, c6, c7, c8, rfl, T0, T1, T2, T3, T4, T5, T6, T7, T8⟩ := hs.c9
 obtain ⟨v0, v1, v2, v3, v4, v5, v6, v7, v8, rfl, A0, A1, A2, A3, A4, A5, A6, A7, A8⟩ := h.c9
 obtain ⟨u0, u1, u2, u3, u4, u5, u6, u7, u8, rfl, B0, B1, B2, B3, B4, B5, B6, B7, B8⟩ := h'.c9
 obtain ⟨x0, rfl⟩ := T0.int
 obtain rfl := A0.int
 obtain rfl := B0.int
 have ne0 : (x0 != x0) = false := by simp
 obtain ⟨x1, rfl⟩ := T1.int
 obtain rfl := A1.int
 obtain rfl := B1.int
 have ne1 : (x1 != x1) = false := by simp
 obtain ⟨x2, rfl⟩ := T2.int
 obtain rfl := A2.int
 obtain rfl := B2.int
 have ne2 : (x2 != x2) = false := by simp
 obtain ⟨x3, rfl⟩ := T3.int
 obtain rfl := A3.int
 obtain rfl := B3.int
 have ne3 : (x3 != x3) = false := by simp
 obtain ⟨x4, rfl⟩ := T4.int
 obtain rfl := A4.int
 obtain rfl := B4.int
 have ne4 : (x4 != x4) = false := by simp
 obtain ⟨x5, rfl⟩ := T5.int
 obtain rfl := A5.int
 obtain rfl := B5.int
 have ne5 : (x5 != x5) = false := by simp
 obtain ⟨x6, rfl⟩ := T6.int
 obtain rfl := A6.int
 obtain rfl := B6.int
 have ne6 : (x6 != x6) = false := by simp
 obtain ⟨x7, rfl⟩ := T7.int
 obtain rfl := A7.int
 obtain rfl := B7.int
 have ne7 : (x7 != x7) = false := by simp
 obtain ⟨n8, cs8, rfl, -⟩ := T8.list
 have HT8 : Hid (Has (.l 3 1 n8 cs8) (.l 3 1 [.i])) := T8
 obtain ⟨p8, d8, rfl⟩ := A8.slice
 obtain ⟨q8, e8, rfl⟩ := B8.slice
 have hA8' : Hid (At false w (.slice p8 n8 d8) (.l 3 1 n8 cs8)) := A8
 have hB8' : Hid (At false w (.slice q8 n8 e8) (.l 3 1 n8 cs8)) := B8
 have HN1 : Hid (AtL false w [.int .i64 x1, .int .i64 x2, .int .i64 x3] [.i x1, .i x2, .i x3]) := AtL.cons (.i x1) (AtL.cons (.i x2) (AtL.cons (.i x3) (AtL.nil)))
 have HH1 : Hid (HasL [.i x1, .i x2, .i x3] tyOp) := ⟨rfl, fun j c t hc ht => by
   have hj : j < 3 := by have := (List.getElem?_eq_some_iff.1 hc).1; simpa using this
   rcases (show j = 0 ∨ j = 1 ∨ j = 2 by omega) with rfl | rfl | rfl <;> (simp [tyOp] at hc ht; subst hc ht)
   · exact .i x1
   · exact .i x2
   · exact .i x3⟩
 have HN7 : Hid (AtL false w [.int .i64 x7, .slice p8 n8 d8] [.i x7, .l 3 1 n8 cs8]) := AtL.cons (.i x7) (AtL.cons (hA8'.out) (AtL.nil))
 have HH7 : Hid (HasL [.i x7, .l 3 1 n8 cs8] tyRes) := ⟨rfl, fun j c t hc ht => by
   have hj : j < 2 := by have := (List.getElem?_eq_some_iff.1 hc).1; simpa using this
   rcases (show j = 0 ∨ j = 1 by omega) with rfl | rfl <;> (simp [tyRes] at hc ht; subst hc ht)
   · exact .i x7
   · exact HT8.out⟩
 have HM1 : Hid (AtL false w [.int .i64 x1, .int .i64 x2, .int .i64 x3] [.i x1, .i x2, .i x3]) := AtL.cons (.i x1) (AtL.cons (.i x2) (AtL.cons (.i x3) (AtL.nil)))
 have HM7 : Hid (AtL false w [.int .i64 x7, .slice q8 n8 e8] [.i x7, .l 3 1 n8 cs8]) := AtL.cons (.i x7) (AtL.cons (hB8'.out) (AtL.nil))
 clear hs h h' T0 A0 B0 T1 A1 B1 T2 A2 B2 T3 A3 B3 T4 A4 B4 T5 A5 B5 T6 A6 B6 T7 A7 B7 T8 A8 B8
 obtain ⟨W, hW⟩ : ∃ W, (w.alloc (.cells #[.int .i64 x0, .int .i64 x1, .int .i64 x2, .int .i64 x3, .int .i64 x4, .int .i64 x5, .int .i64 x6, .int .i64 x7, .slice p8 n8 d8] 34)).alloc (.cells #[.int .i64 x0, .int .i64 x1, .int .i64 x2, .int .i64 x3, .int .i64 x4, .int .i64 x5, .int .i64 x6, .int .i64 x7, .slice q8 n8 e8] 34) = W := ⟨_, rfl⟩
 have t0 : Hid (Two w W #[.int .i64 x0, .int .i64 x1, .int .i64 x2, .int .i64 x3, .int .i64 x4, .int .i64 x5, .int .i64 x6, .int .i64 x7, .slice p8 n8 d8] #[.int .i64 x0, .int .i64 x1, .int .i64 x2, .int .i64 x3, .int .i64 x4, .int .i64 x5, .int .i64 x6, .int .i64 x7, .slice q8 n8 e8] 34) := by rw [← hW]; exact two_new w _ _ _
 have HW : Hid _ := hW
 clear hW
 go_enter Try.func9, Try.ntmps9
 go_upto_region 1 with (fail)
 rw [HW.out]
 have ax0 := t0.out.a.at 0 (.int .i64 x0) rfl
 have bx0 := t0.out.b.at 0 (.int .i64 x0) rfl
 have ax1 := t0.out.a.at 1 (.int .i64 x1) rfl
 have bx1 := t0.out.b.at 1 (.int .i64 x1) rfl
 have ax2 := t0.out.a.at 2 (.int .i64 x2) rfl
 have bx2 := t0.out.b.at 2 (.int .i64 x2) rfl
 have ax3 := t0.out.a.at 3 (.int .i64 x3) rfl
 have bx3 := t0.out.b.at 3 (.int .i64 x3) rfl
 have ax4 := t0.out.a.at 4 (.int .i64 x4) rfl
 have bx4 := t0.out.b.at 4 (.int .i64 x4) rfl
 have ax5 := t0.out.a.at 5 (.int .i64 x5) rfl
 have bx5 := t0.out.b.at 5 (.int .i64 x5) rfl
 have ax6 := t0.out.a.at 6 (.int .i64 x6) rfl
 have bx6 := t0.out.b.at 6 (.int .i64 x6) rfl
 have ax7 := t0.out.a.at 7 (.int .i64 x7) rfl
 have bx7 := t0.out.b.at 7 (.int .i64 x7) rfl
 have ax8 := t0.out.a.at 8 (.slice p8 n8 d8) rfl
 have bx8 := t0.out.b.at 8 (.slice q8 n8 e8) rfl
 go_wp2_with fail
 refine (dEqOp [.int .i64 x1, .int .i64 x2, .int .i64 x3] [.int .i64 x1, .int .i64 x2, .int .i64 x3] [.i x1, .i x2, .i x3] _ (HN1.out.on t0.out.on (Nat.le_refl _)) (HM1.out.on t0.out.on (Nat.le_refl _)) HH1.out).mono ?_
 rintro e w1 ⟨rfl, hb⟩
 have t1 : Hid (Two w w1 #[.int .i64 x0, .int .i64 x1, .int .i64 x2, .int .i64 x3, .int .i64 x4, .int .i64 x5, .int .i64 x6, .int .i64 x7, .slice p8 n8 d8] #[.int .i64 x0, .int .i64 x1, .int .i64 x2, .int .i64 x3, .int .i64 x4, .int .i64 x5, .int .i64 x6, .int .i64 x7, .slice q8 n8 e8] 34) := t0.out.call hb
 clear hb ax0 bx0 ax1 bx1 ax2 bx2 ax3 bx3 ax4 bx4 ax5 bx5 ax6 bx6 ax7 bx7 ax8 bx8
 have ax0 := t1.out.a.at 0 (.int .i64 x0) rfl
 have bx0 := t1.out.b.at 0 (.int .i64 x0) rfl
 have ax1 := t1.out.a.at 1 (.int .i64 x1) rfl
 have bx1 := t1.out.b.at 1 (.int .i64 x1) rfl
 have ax2 := t1.out.a.at 2 (.int .i64 x2) rfl
 have bx2 := t1.out.b.at 2 (.int .i64 x2) rfl
 have ax3 := t1.out.a.at 3 (.int .i64 x3) rfl
 have bx3 := t1.out.b.at 3 (.int .i64 x3) rfl
 have ax4 := t1.out.a.at 4 (.int .i64 x4) rfl
 have bx4 := t1.out.b.at 4 (.int .i64 x4) rfl
 have ax5 := t1.out.a.at 5 (.int .i64 x5) rfl
 have bx5 := t1.out.b.at 5 (.int .i64 x5) rfl
 have ax6 := t1.out.a.at 6 (.int .i64 x6) rfl
 have bx6 := t1.out.b.at 6 (.int .i64 x6) rfl
 have ax7 := t1.out.a.at 7 (.int .i64 x7) rfl
 have bx7 := t1.out.b.at 7 (.int .i64 x7) rfl
 have ax8 := t1.out.a.at 8 (.slice p8 n8 d8) rfl
 have bx8 := t1.out.b.at 8 (.slice q8 n8 e8) rfl
 go_wp2_with fail
 refine (dEqRes [.int .i64 x7, .slice p8 n8 d8] [.int .i64 x7, .slice q8 n8 e8] [.i x7, .l 3 1 n8 cs8] _ (HN7.out.on t1.out.on (Nat.le_refl _)) (HM7.out.on t1.out.on (Nat.le_refl _)) HH7.out).mono ?_
 rintro e w2 ⟨rfl, hb⟩
 have t2 : Hid (Two w w2 #[.int .i64 x0, .int .i64 x1, .int .i64 x2, .int .i64 x3, .int .i64 x4, .int .i64 x5, .int .i64 x6, .int .i64 x7, .slice p8 n8 d8] #[.int .i64 x0, .int .i64 x1, .int .i64 x2, .int .i64 x3, .int .i64 x4, .int .i64 x5, .int .i64 x6, .int .i64 x7, .slice q8 n8 e8] 34) := t1.out.call hb
 clear hb ax0 bx0 ax1 bx1 ax2 bx2 ax3 bx3 ax4 bx4 ax5 bx5 ax6 bx6 ax7 bx7 ax8 bx8
 have ax0 := t2.out.a.at 0 (.int .i64 x0) rfl
 have bx0 := t2.out.b.at 0 (.int .i64 x0) rfl
 have ax1 := t2.out.a.at 1 (.int .i64 x1) rfl
 have bx1 := t2.out.b.at 1 (.int .i64 x1) rfl
 have ax2 := t2.out.a.at 2 (.int .i64 x2) rfl
 have bx2 := t2.out.b.at 2 (.int .i64 x2) rfl
 have ax3 := t2.out.a.at 3 (.int .i64 x3) rfl
 have bx3 := t2.out.b.at 3 (.int .i64 x3) rfl
 have ax4 := t2.out.a.at 4 (.int .i64 x4) rfl
 have bx4 := t2.out.b.at 4 (.int .i64 x4) rfl
 have ax5 := t2.out.a.at 5 (.int .i64 x5) rfl
 have bx5 := t2.out.b.at 5 (.int .i64 x5) rfl
 have ax6 := t2.out.a.at 6 (.int .i64 x6) rfl
 have bx6 := t2.out.b.at 6 (.int .i64 x6) rfl
 have ax7 := t2.out.a.at 7 (.int .i64 x7) rfl
 have bx7 := t2.out.b.at 7 (.int .i64 x7) rfl
 have ax8 := t2.out.a.at 8 (.slice p8 n8 d8) rfl
 have bx8 := t2.out.b.at 8 (.slice q8 n8 e8) rfl
 go_wp2
 go_ret
 exact ⟨rfl, t2.out.on⟩
theorem dEqCallS (v u : Value) (n : Nat) (cs : List Cel) (w : World) (h : At false w v (.l 34 9 n cs)) (h' : At false w u (.l 34 9 n cs)) (hs : Has (.l 34 9 n cs) (.l 34 9 tyCall)) :
   Calls Try.prog 14 #[v, u] w (Yes w) := by
 obtain ⟨a, c, vs, rfl, h1, h2, hn, -, h3, h4⟩ := h.openL
 have SRC : Hid (n = 0 ∨ ∃ b o, a = some ⟨b, o, none⟩ ∧ ∀ j, j < n * 9 → w.cell? ⟨b, o + j, none⟩ = vs[j]?) := h3
 have HV : Hid (∀ j, j < n → AtL false w ((vs.drop (j * 9)).take 9) (row cs 9 j)) := fun j hj => rowVals h1 h2 h4 hj
 have Lvs : Hid (vs.length = n * 9) := h1
 clear h1 h2 h3 h4 hn
 obtain ⟨a', c', us, rfl, h1, h2, hn, -, h3, h4⟩ := h'.openL
 have SRD : Hid (n = 0 ∨ ∃ b o, a' = some ⟨b, o, none⟩ ∧ ∀ j, j < n * 9 → w.cell? ⟨b, o + j, none⟩ = us[j]?) := h3
 have HU : Hid (∀ j, j < n → AtL false w ((us.drop (j * 9)).take 9) (row cs 9 j)) := fun j hj => rowVals h1 h2 h4 hj
 have Lus : Hid (us.length = n * 9) := h1
 clear h1 h2 h3 h4
 have HR : Hid (∀ j, j < n → HasL (row cs 9 j) tyCall) := fun j hj => hs.rowL hj
 clear h h' hs
 go_enter Try.func14, Try.ntmps14
 go_wp2
 go_loopw [5] (fun i wr => ∃ j : Nat, j ≤ n ∧ i = .int .i64 j ∧ Below w.heap.size w wr) (fun i _ => n - (intOf i).toNat)
 case atStart => exact ⟨0, Nat.zero_le _, rfl, Below.refl _ _⟩
 case round =>
   obtain ⟨j, hj, rfl, hb⟩ := hrel
   by_cases hlt : j < n
   · have hk0 : (0 : Int) ≤ (j : Int) := by omega
     have hk1 : (j : Int) < (n : Int) := by omega
     have hle : j * 9 + 9 ≤ n * 9 := by omega
     have hH := HR.out j hlt
     obtain ⟨rs, hrs⟩ : ∃ rs, row cs 9 j = rs := ⟨_, rfl⟩
     rw [hrs] at hH
     rcases SRC.out with h0 | ⟨p1, o1, rfl, g1⟩
     · omega
     have hA := HV.out j hlt
     have ce := rowAt hb hlt g1 Lvs.out
     obtain ⟨ws, hws⟩ : ∃ ws, (vs.drop (j * 9)).take 9 = ws := ⟨_, rfl⟩
     rw [hrs] at hA
     rw [hws] at hA ce
     clear g1 hws
     rcases SRD.out with h0 | ⟨p2, o2, rfl, g2⟩
     · omega
     have hB := HU.out j hlt
     have cf := rowAt hb hlt g2 Lus.out
     obtain ⟨ws', hws⟩ : ∃ ws, (us.drop (j * 9)).take 9 = ws := ⟨_, rfl⟩
     rw [hrs] at hB
     rw [hws] at hB cf
     clear g2 hws
     obtain ⟨c0, c1, c2, c3, c4, c5, c6, c7, c8, rfl, T0, T1, T2, T3, T4, T5, T6, T7, T8⟩ := hH.c9
     have HL0 : Hid (HasL [c0, c1, c2, c3, c4, c5, c6, c7, c8] tyCall) := hH
     obtain ⟨v0, v1, v2, v3, v4, v5, v6, v7, v8, rfl, A0, A1, A2, A3, A4, A5, A6, A7, A8⟩ := hA.c9
     obtain ⟨u0, u1, u2, u3, u4, u5, u6, u7, u8, rfl, B0, B1, B2, B3, B4, B5, B6, B7, B8⟩ := hB.c9
     have HA0 : Hid (AtL false w [v0, v1, v2, v3, v4, v5, v6, v7, v8] [c0, c1, c2, c3, c4, c5, c6, c7, c8]) := hA
     have HB0 : Hid (AtL false w [u0, u1, u2, u3, u4, u5, u6, u7, u8] [c0, c1, c2, c3, c4, c5, c6, c7, c8]) := hB
     have e0 : wr.cell? ⟨p1, o1 + j * 9, none⟩ = some v0 := ce 0 (by omega)
     have f0 : wr.cell? ⟨p2, o2 + j * 9, none⟩ = some u0 := cf 0 (by omega)
     have e1 : wr.cell? ⟨p1, o1 + j * 9 + 1, none⟩ = some v1 := ce 1 (by omega)
     have f1 : wr.cell? ⟨p2, o2 + j * 9 + 1, none⟩ = some u1 := cf 1 (by omega)
     have e2 : wr.cell? ⟨p1, o1 + j * 9 + 2, none⟩ = some v2 := ce 2 (by omega)
     have f2 : wr.cell? ⟨p2, o2 + j * 9 + 2, none⟩ = some u2 := cf 2 (by omega)
     have e3 : wr.cell? ⟨p1, o1 + j * 9 + 3, none⟩ = some v3 := ce 3 (by omega)
     have f3 : wr.cell? ⟨p2, o2 + j * 9 + 3, none⟩ = some u3 := cf 3 (by omega)
     have e4 : wr.cell? ⟨p1, o1 + j * 9 + 4, none⟩ = some v4 := ce 4 (by omega)
     have f4 : wr.cell? ⟨p2, o2 + j * 9 + 4, none⟩ = some u4 := cf 4 (by omega)
     have e5 : wr.cell? ⟨p1, o1 + j * 9 + 5, none⟩ = some v5 := ce 5 (by omega)
     have f5 : wr.cell? ⟨p2, o2 + j * 9 + 5, none⟩ = some u5 := cf 5 (by omega)
     have e6 : wr.cell? ⟨p1, o1 + j * 9 + 6, none⟩ = some v6 := ce 6 (by omega)
     have f6 : wr.cell? ⟨p2, o2 + j * 9 + 6, none⟩ = some u6 := cf 6 (by omega)
     have e7 : wr.cell? ⟨p1, o1 + j * 9 + 7, none⟩ = some v7 := ce 7 (by omega)
     have f7 : wr.cell? ⟨p2, o2 + j * 9 + 7, none⟩ = some u7 := cf 7 (by omega)
     have e8 : wr.cell? ⟨p1, o1 + j * 9 + 8, none⟩ = some v8 := ce 8 (by omega)
     have f8 : wr.cell? ⟨p2, o2 + j * 9 + 8, none⟩ = some u8 := cf 8 (by omega)
     clear ce cf hrs T0 A0 B0 T1 A1 B1 T2 A2 B2 T3 A3 B3 T4 A4 B4 T5 A5 B5 T6 A6 B6 T7 A7 B7 T8 A8 B8 hA hB hH
     have q1 : p1 < wr.heap.size := World.block_lt_of_cell? wr _ e0
     have q2 : p2 < wr.heap.size := World.block_lt_of_cell? wr _ f0
     go_wp2_with fail
     go_region_held3 (fun w' => w'.cell? ⟨p1, o1 + j * 9, none⟩ = some v0 ∧ w'.cell? ⟨p1, o1 + j * 9 + 1, none⟩ = some v1 ∧ w'.cell? ⟨p1, o1 + j * 9 + 2, none⟩ = some v2 ∧ w'.cell? ⟨p1, o1 + j * 9 + 3, none⟩ = some v3 ∧ w'.cell? ⟨p1, o1 + j * 9 + 4, none⟩ = some v4 ∧ w'.cell? ⟨p1, o1 + j * 9 + 5, none⟩ = some v5 ∧ w'.cell? ⟨p1, o1 + j * 9 + 6, none⟩ = some v6 ∧ w'.cell? ⟨p1, o1 + j * 9 + 7, none⟩ = some v7 ∧ w'.cell? ⟨p1, o1 + j * 9 + 8, none⟩ = some v8 ∧ w'.cell? ⟨p2, o2 + j * 9, none⟩ = some u0 ∧ w'.cell? ⟨p2, o2 + j * 9 + 1, none⟩ = some u1 ∧ w'.cell? ⟨p2, o2 + j * 9 + 2, none⟩ = some u2 ∧ w'.cell? ⟨p2, o2 + j * 9 + 3, none⟩ = some u3 ∧ w'.cell? ⟨p2, o2 + j * 9 + 4, none⟩ = some u4 ∧ w'.cell? ⟨p2, o2 + j * 9 + 5, none⟩ = some u5 ∧ w'.cell? ⟨p2, o2 + j * 9 + 6, none⟩ = some u6 ∧ w'.cell? ⟨p2, o2 + j * 9 + 7, none⟩ = some u7 ∧ w'.cell? ⟨p2, o2 + j * 9 + 8, none⟩ = some u8)
       (first | (with_reducible exact K2.out) | go_keep)
       (first
       | (go_at_call 9
          refine (dEqCall [v0, v1, v2, v3, v4, v5, v6, v7, v8] [u0, u1, u2, u3, u4, u5, u6, u7, u8] [c0, c1, c2, c3, c4, c5, c6, c7, c8] _ (HA0.out.on (hb.drew) (Nat.le_refl _)) (HB0.out.on (hb.drew) (Nat.le_refl _)) HL0.out).mono ?_
          rintro e w2 ⟨rfl, hb2⟩
          have hb2' : Below wr.heap.size wr w2 := (Below.refl _ wr).drew.trans hb2
          have K2 : Hid (w2.cell? ⟨p1, o1 + j * 9, none⟩ = some v0 ∧ w2.cell? ⟨p1, o1 + j * 9 + 1, none⟩ = some v1 ∧ w2.cell? ⟨p1, o1 + j * 9 + 2, none⟩ = some v2 ∧ w2.cell? ⟨p1, o1 + j * 9 + 3, none⟩ = some v3 ∧ w2.cell? ⟨p1, o1 + j * 9 + 4, none⟩ = some v4 ∧ w2.cell? ⟨p1, o1 + j * 9 + 5, none⟩ = some v5 ∧ w2.cell? ⟨p1, o1 + j * 9 + 6, none⟩ = some v6 ∧ w2.cell? ⟨p1, o1 + j * 9 + 7, none⟩ = some v7 ∧ w2.cell? ⟨p1, o1 + j * 9 + 8, none⟩ = some v8 ∧ w2.cell? ⟨p2, o2 + j * 9, none⟩ = some u0 ∧ w2.cell? ⟨p2, o2 + j * 9 + 1, none⟩ = some u1 ∧ w2.cell? ⟨p2, o2 + j * 9 + 2, none⟩ = some u2 ∧ w2.cell? ⟨p2, o2 + j * 9 + 3, none⟩ = some u3 ∧ w2.cell? ⟨p2, o2 + j * 9 + 4, none⟩ = some u4 ∧ w2.cell? ⟨p2, o2 + j * 9 + 5, none⟩ = some u5 ∧ w2.cell? ⟨p2, o2 + j * 9 + 6, none⟩ = some u6 ∧ w2.cell? ⟨p2, o2 + j * 9 + 7, none⟩ = some u7 ∧ w2.cell? ⟨p2, o2 + j * 9 + 8, none⟩ = some u8) := ⟨(hb2'.cell (show p1 < _ from q1)).trans e0, (hb2'.cell (show p1 < _ from q1)).trans e1, (hb2'.cell (show p1 < _ from q1)).trans e2, (hb2'.cell (show p1 < _ from q1)).trans e3, (hb2'.cell (show p1 < _ from q1)).trans e4, (hb2'.cell (show p1 < _ from q1)).trans e5, (hb2'.cell (show p1 < _ from q1)).trans e6, (hb2'.cell (show p1 < _ from q1)).trans e7, (hb2'.cell (show p1 < _ from q1)).trans e8, (hb2'.cell (show p2 < _ from q2)).trans f0, (hb2'.cell (show p2 < _ from q2)).trans f1, (hb2'.cell (show p2 < _ from q2)).trans f2, (hb2'.cell (show p2 < _ from q2)).trans f3, (hb2'.cell (show p2 < _ from q2)).trans f4, (hb2'.cell (show p2 < _ from q2)).trans f5, (hb2'.cell (show p2 < _ from q2)).trans f6, (hb2'.cell (show p2 < _ from q2)).trans f7, (hb2'.cell (show p2 < _ from q2)).trans f8⟩
          have hb02 : Below w.heap.size w w2 := hb.trans (hb2'.mono hb.size)
          clear hb2 hb2'))
     clear e0 f0 e1 f1 e2 f2 e3 f3 e4 f4 e5 f5 e6 f6 e7 f7 e8 f8 K2
     go_wp2
     exact ⟨⟨j + 1, by omega, by go_num, hb02⟩, by simp [intOf]; omega⟩
   · obtain rfl : j = n := by omega
     go_wp2
     go_ret
     exact ⟨rfl, hb⟩
theorem dEqMachine (vs us : List Value) (cs : List Cel) (w : World) (h : AtL false w vs cs) (h' : AtL false w us cs) (hs : HasL cs tyMachine) : Calls Try.prog 15 #[.agg vs.toArray, .agg us.toArray] w (Yes w) := by
 obtain ⟨c0, c1, c2, c3, c4, c5, c6, c7, rfl, T0, T1, T2, T3, T4, T5, T6, T7⟩ := hs.c8
 obtain ⟨v0, v1, v2, v3, v4, v5, v6, v7, rfl, A0, A1, A2, A3, A4, A5, A6, A7⟩ := h.c8
 obtain ⟨u0, u1, u2, u3, u4, u5, u6, u7, rfl, B0, B1, B2, B3, B4, B5, B6, B7⟩ := h'.c8
 obtain ⟨n0, cs0, rfl, -⟩ := T0.list
 have HT0 : Hid (Has (.l 121 3 n0 cs0) (.l 121 3 tyWord)) := T0
 obtain ⟨p0, d0, rfl⟩ := A0.slice
 obtain ⟨q0, e0, rfl⟩ := B0.slice
 have hA0' : Hid (At false w (.slice p0 n0 d0) (.l 121 3 n0 cs0)) := A0
 have hB0' : Hid (At false w (.slice q0 n0 e0) (.l 121 3 n0 cs0)) := B0
 obtain ⟨n1, cs1, rfl, -⟩ := T1.list
 have HT1 : Hid (Has (.l 126 5 n1 cs1) (.l 126 5 tyDesc)) := T1
 obtain ⟨p1, d1, rfl⟩ := A1.slice
 obtain ⟨q1, e1, rfl⟩ := B1.slice
 have hA1' : Hid (At false w (.slice p1 n1 d1) (.l 126 5 n1 cs1)) := A1
 have hB1' : Hid (At false w (.slice q1 n1 e1) (.l 126 5 n1 cs1)) := B1
 obtain ⟨n2, cs2, rfl, -⟩ := T2.list
 have HT2 : Hid (Has (.l 103 5 n2 cs2) (.l 103 5 tyThread)) := T2
 obtain ⟨p2, d2, rfl⟩ := A2.slice
 obtain ⟨q2, e2, rfl⟩ := B2.slice
 have hA2' : Hid (At false w (.slice p2 n2 d2) (.l 103 5 n2 cs2)) := A2
 have hB2' : Hid (At false w (.slice q2 n2 e2) (.l 103 5 n2 cs2)) := B2
 obtain ⟨x3, rfl⟩ := T3.int
 obtain rfl := A3.int
 obtain rfl := B3.int
 have ne3 : (x3 != x3) = false := by simp
 obtain ⟨n4, cs4, rfl, -⟩ := T4.list
 have HT4 : Hid (Has (.l 34 9 n4 cs4) (.l 34 9 tyCall)) := T4
 obtain ⟨p4, d4, rfl⟩ := A4.slice
 obtain ⟨q4, e4, rfl⟩ := B4.slice
 have hA4' : Hid (At false w (.slice p4 n4 d4) (.l 34 9 n4 cs4)) := A4
 have hB4' : Hid (At false w (.slice q4 n4 e4) (.l 34 9 n4 cs4)) := B4
 obtain ⟨n5, cs5, rfl, -⟩ := T5.list
 have HT5 : Hid (Has (.l 3 1 n5 cs5) (.l 3 1 [.i])) := T5
 obtain ⟨p5, d5, rfl⟩ := A5.slice
 obtain ⟨q5, e5, rfl⟩ := B5.slice
 have hA5' : Hid (At false w (.slice p5 n5 d5) (.l 3 1 n5 cs5)) := A5
 have hB5' : Hid (At false w (.slice q5 n5 e5) (.l 3 1 n5 cs5)) := B5
 obtain ⟨n6, cs6, rfl, -⟩ := T6.list
 have HT6 : Hid (Has (.l 3 1 n6 cs6) (.l 3 1 [.i])) := T6
 obtain ⟨p6, d6, rfl⟩ := A6.slice
 obtain ⟨q6, e6, rfl⟩ := B6.slice
 have hA6' : Hid (At false w (.slice p6 n6 d6) (.l 3 1 n6 cs6)) := A6
 have hB6' : Hid (At false w (.slice q6 n6 e6) (.l 3 1 n6 cs6)) := B6
 obtain ⟨x7, rfl⟩ := T7.int
 obtain rfl := A7.int
 obtain rfl := B7.int
 have ne7 : (x7 != x7) = false := by simp
 have HN0 : Hid (AtL false w [.slice p0 n0 d0, .slice p1 n1 d1] [.l 121 3 n0 cs0, .l 126 5 n1 cs1]) := AtL.cons (hA0'.out) (AtL.cons (hA1'.out) (AtL.nil))
 have HH0 : Hid (HasL [.l 121 3 n0 cs0, .l 126 5 n1 cs1] tyMem) := ⟨rfl, fun j c t hc ht => by
   have hj : j < 2 := by have := (List.getElem?_eq_some_iff.1 hc).1; simpa using this
   rcases (show j = 0 ∨ j = 1 by omega) with rfl | rfl <;> (simp [tyMem] at hc ht; subst hc ht)
   · exact HT0.out
   · exact HT1.out⟩
 have HN6 : Hid (AtL false w [.slice p6 n6 d6, .int .i64 x7] [.l 3 1 n6 cs6, .i x7]) := AtL.cons (hA6'.out) (AtL.cons (.i x7) (AtL.nil))
 have HH6 : Hid (HasL [.l 3 1 n6 cs6, .i x7] tyRows) := ⟨rfl, fun j c t hc ht => by
   have hj : j < 2 := by have := (List.getElem?_eq_some_iff.1 hc).1; simpa using this
   rcases (show j = 0 ∨ j = 1 by omega) with rfl | rfl <;> (simp [tyRows] at hc ht; subst hc ht)
   · exact HT6.out
   · exact .i x7⟩
 have HM0 : Hid (AtL false w [.slice q0 n0 e0, .slice q1 n1 e1] [.l 121 3 n0 cs0, .l 126 5 n1 cs1]) := AtL.cons (hB0'.out) (AtL.cons (hB1'.out) (AtL.nil))
 have HM6 : Hid (AtL false w [.slice q6 n6 e6, .int .i64 x7] [.l 3 1 n6 cs6, .i x7]) := AtL.cons (hB6'.out) (AtL.cons (.i x7) (AtL.nil))
 clear hs h h' T0 A0 B0 T1 A1 B1 T2 A2 B2 T3 A3 B3 T4 A4 B4 T5 A5 B5 T6 A6 B6 T7 A7 B7
 obtain ⟨W, hW⟩ : ∃ W, (w.alloc (.cells #[.slice p0 n0 d0, .slice p1 n1 d1, .slice p2 n2 d2, .int .i64 x3, .slice p4 n4 d4, .slice p5 n5 d5, .slice p6 n6 d6, .int .i64 x7] 57)).alloc (.cells #[.slice q0 n0 e0, .slice q1 n1 e1, .slice q2 n2 e2, .int .i64 x3, .slice q4 n4 e4, .slice q5 n5 e5, .slice q6 n6 e6, .int .i64 x7] 57) = W := ⟨_, rfl⟩
 have t0 : Hid (Two w W #[.slice p0 n0 d0, .slice p1 n1 d1, .slice p2 n2 d2, .int .i64 x3, .slice p4 n4 d4, .slice p5 n5 d5, .slice p6 n6 d6, .int .i64 x7] #[.slice q0 n0 e0, .slice q1 n1 e1, .slice q2 n2 e2, .int .i64 x3, .slice q4 n4 e4, .slice q5 n5 e5, .slice q6 n6 e6, .int .i64 x7] 57) := by rw [← hW]; exact two_new w _ _ _
 have HW : Hid _ := hW
 clear hW
 go_enter Try.func15, Try.ntmps15
 go_upto_region 1 with (fail)
 rw [HW.out]
 have ax0 := t0.out.a.at 0 (.slice p0 n0 d0) rfl
 have bx0 := t0.out.b.at 0 (.slice q0 n0 e0) rfl
 have ax1 := t0.out.a.at 1 (.slice p1 n1 d1) rfl
 have bx1 := t0.out.b.at 1 (.slice q1 n1 e1) rfl
 have ax2 := t0.out.a.at 2 (.slice p2 n2 d2) rfl
 have bx2 := t0.out.b.at 2 (.slice q2 n2 e2) rfl
 have ax3 := t0.out.a.at 3 (.int .i64 x3) rfl
 have bx3 := t0.out.b.at 3 (.int .i64 x3) rfl
 have ax4 := t0.out.a.at 4 (.slice p4 n4 d4) rfl
 have bx4 := t0.out.b.at 4 (.slice q4 n4 e4) rfl
 have ax5 := t0.out.a.at 5 (.slice p5 n5 d5) rfl
 have bx5 := t0.out.b.at 5 (.slice q5 n5 e5) rfl
 have ax6 := t0.out.a.at 6 (.slice p6 n6 d6) rfl
 have bx6 := t0.out.b.at 6 (.slice q6 n6 e6) rfl
 have ax7 := t0.out.a.at 7 (.int .i64 x7) rfl
 have bx7 := t0.out.b.at 7 (.int .i64 x7) rfl
 go_wp2_with fail
 refine (dEqMem [.slice p0 n0 d0, .slice p1 n1 d1] [.slice q0 n0 e0, .slice q1 n1 e1] [.l 121 3 n0 cs0, .l 126 5 n1 cs1] _ (HN0.out.on t0.out.on (Nat.le_refl _)) (HM0.out.on t0.out.on (Nat.le_refl _)) HH0.out).mono ?_
 rintro e w1 ⟨rfl, hb⟩
 have t1 : Hid (Two w w1 #[.slice p0 n0 d0, .slice p1 n1 d1, .slice p2 n2 d2, .int .i64 x3, .slice p4 n4 d4, .slice p5 n5 d5, .slice p6 n6 d6, .int .i64 x7] #[.slice q0 n0 e0, .slice q1 n1 e1, .slice q2 n2 e2, .int .i64 x3, .slice q4 n4 e4, .slice q5 n5 e5, .slice q6 n6 e6, .int .i64 x7] 57) := t0.out.call hb
 clear hb ax0 bx0 ax1 bx1 ax2 bx2 ax3 bx3 ax4 bx4 ax5 bx5 ax6 bx6 ax7 bx7
 have ax0 := t1.out.a.at 0 (.slice p0 n0 d0) rfl
 have bx0 := t1.out.b.at 0 (.slice q0 n0 e0) rfl
 have ax1 := t1.out.a.at 1 (.slice p1 n1 d1) rfl
 have bx1 := t1.out.b.at 1 (.slice q1 n1 e1) rfl
 have ax2 := t1.out.a.at 2 (.slice p2 n2 d2) rfl
 have bx2 := t1.out.b.at 2 (.slice q2 n2 e2) rfl
 have ax3 := t1.out.a.at 3 (.int .i64 x3) rfl
 have bx3 := t1.out.b.at 3 (.int .i64 x3) rfl
 have ax4 := t1.out.a.at 4 (.slice p4 n4 d4) rfl
 have bx4 := t1.out.b.at 4 (.slice q4 n4 e4) rfl
 have ax5 := t1.out.a.at 5 (.slice p5 n5 d5) rfl
 have bx5 := t1.out.b.at 5 (.slice q5 n5 e5) rfl
 have ax6 := t1.out.a.at 6 (.slice p6 n6 d6) rfl
 have bx6 := t1.out.b.at 6 (.slice q6 n6 e6) rfl
 have ax7 := t1.out.a.at 7 (.int .i64 x7) rfl
 have bx7 := t1.out.b.at 7 (.int .i64 x7) rfl
 go_wp2_with fail
 refine (dEqThreadS _ _ n2 cs2 _ (hA2'.out.on t1.out.on (Nat.le_refl _)) (hB2'.out.on t1.out.on (Nat.le_refl _)) HT2.out).mono ?_
 rintro e w2 ⟨rfl, hb⟩
 have t2 : Hid (Two w w2 #[.slice p0 n0 d0, .slice p1 n1 d1, .slice p2 n2 d2, .int .i64 x3, .slice p4 n4 d4, .slice p5 n5 d5, .slice p6 n6 d6, .int .i64 x7] #[.slice q0 n0 e0, .slice q1 n1 e1, .slice q2 n2 e2, .int .i64 x3, .slice q4 n4 e4, .slice q5 n5 e5, .slice q6 n6 e6, .int .i64 x7] 57) := t1.out.call hb
 clear hb ax0 bx0 ax1 bx1 ax2 bx2 ax3 bx3 ax4 bx4 ax5 bx5 ax6 bx6 ax7 bx7
 have ax0 := t2.out.a.at 0 (.slice p0 n0 d0) rfl
 have bx0 := t2.out.b.at 0 (.slice q0 n0 e0) rfl
 have ax1 := t2.out.a.at 1 (.slice p1 n1 d1) rfl
 have bx1 := t2.out.b.at 1 (.slice q1 n1 e1) rfl
 have ax2 := t2.out.a.at 2 (.slice p2 n2 d2) rfl
 have bx2 := t2.out.b.at 2 (.slice q2 n2 e2) rfl
 have ax3 := t2.out.a.at 3 (.int .i64 x3) rfl
 have bx3 := t2.out.b.at 3 (.int .i64 x3) rfl
 have ax4 := t2.out.a.at 4 (.slice p4 n4 d4) rfl
 have bx4 := t2.out.b.at 4 (.slice q4 n4 e4) rfl
 have ax5 := t2.out.a.at 5 (.slice p5 n5 d5) rfl
 have bx5 := t2.out.b.at 5 (.slice q5 n5 e5) rfl
 have ax6 := t2.out.a.at 6 (.slice p6 n6 d6) rfl
 have bx6 := t2.out.b.at 6 (.slice q6 n6 e6) rfl
 have ax7 := t2.out.a.at 7 (.int .i64 x7) rfl
 have bx7 := t2.out.b.at 7 (.int .i64 x7) rfl
 go_wp2_with fail
 refine (dEqCallS _ _ n4 cs4 _ (hA4'.out.on t2.out.on (Nat.le_refl _)) (hB4'.out.on t2.out.on (Nat.le_refl _)) HT4.out).mono ?_
 rintro e w3 ⟨rfl, hb⟩
 have t3 : Hid (Two w w3 #[.slice p0 n0 d0, .slice p1 n1 d1, .slice p2 n2 d2, .int .i64 x3, .slice p4 n4 d4, .slice p5 n5 d5, .slice p6 n6 d6, .int .i64 x7] #[.slice q0 n0 e0, .slice q1 n1 e1, .slice q2 n2 e2, .int .i64 x3, .slice q4 n4 e4, .slice q5 n5 e5, .slice q6 n6 e6, .int .i64 x7] 57) := t2.out.call hb
 clear hb ax0 bx0 ax1 bx1 ax2 bx2 ax3 bx3 ax4 bx4 ax5 bx5 ax6 bx6 ax7 bx7
 have ax0 := t3.out.a.at 0 (.slice p0 n0 d0) rfl
 have bx0 := t3.out.b.at 0 (.slice q0 n0 e0) rfl
 have ax1 := t3.out.a.at 1 (.slice p1 n1 d1) rfl
 have bx1 := t3.out.b.at 1 (.slice q1 n1 e1) rfl
 have ax2 := t3.out.a.at 2 (.slice p2 n2 d2) rfl
 have bx2 := t3.out.b.at 2 (.slice q2 n2 e2) rfl
 have ax3 := t3.out.a.at 3 (.int .i64 x3) rfl
 have bx3 := t3.out.b.at 3 (.int .i64 x3) rfl
 have ax4 := t3.out.a.at 4 (.slice p4 n4 d4) rfl
 have bx4 := t3.out.b.at 4 (.slice q4 n4 e4) rfl
 have ax5 := t3.out.a.at 5 (.slice p5 n5 d5) rfl
 have bx5 := t3.out.b.at 5 (.slice q5 n5 e5) rfl
 have ax6 := t3.out.a.at 6 (.slice p6 n6 d6) rfl
 have bx6 := t3.out.b.at 6 (.slice q6 n6 e6) rfl
 have ax7 := t3.out.a.at 7 (.int .i64 x7) rfl
 have bx7 := t3.out.b.at 7 (.int .i64 x7) rfl
 go_wp2_with fail
 refine (dEqIntS _ _ n5 cs5 _ (hA5'.out.on t3.out.on (Nat.le_refl _)) (hB5'.out.on t3.out.on (Nat.le_refl _)) HT5.out).mono ?_
 rintro e w4 ⟨rfl, hb⟩
 have t4 : Hid (Two w w4 #[.slice p0 n0 d0, .slice p1 n1 d1, .slice p2 n2 d2, .int .i64 x3, .slice p4 n4 d4, .slice p5 n5 d5, .slice p6 n6 d6, .int .i64 x7] #[.slice q0 n0 e0, .slice q1 n1 e1, .slice q2 n2 e2, .int .i64 x3, .slice q4 n4 e4, .slice q5 n5 e5, .slice q6 n6 e6, .int .i64 x7] 57) := t3.out.call hb
 clear hb ax0 bx0 ax1 bx1 ax2 bx2 ax3 bx3 ax4 bx4 ax5 bx5 ax6 bx6 ax7 bx7
 have ax0 := t4.out.a.at 0 (.slice p0 n0 d0) rfl
 have bx0 := t4.out.b.at 0 (.slice q0 n0 e0) rfl
 have ax1 := t4.out.a.at 1 (.slice p1 n1 d1) rfl
 have bx1 := t4.out.b.at 1 (.slice q1 n1 e1) rfl
 have ax2 := t4.out.a.at 2 (.slice p2 n2 d2) rfl
 have bx2 := t4.out.b.at 2 (.slice q2 n2 e2) rfl
 have ax3 := t4.out.a.at 3 (.int .i64 x3) rfl
 have bx3 := t4.out.b.at 3 (.int .i64 x3) rfl
 have ax4 := t4.out.a.at 4 (.slice p4 n4 d4) rfl
 have bx4 := t4.out.b.at 4 (.slice q4 n4 e4) rfl
 have ax5 := t4.out.a.at 5 (.slice p5 n5 d5) rfl
 have bx5 := t4.out.b.at 5 (.slice q5 n5 e5) rfl
 have ax6 := t4.out.a.at 6 (.slice p6 n6 d6) rfl
 have bx6 := t4.out.b.at 6 (.slice q6 n6 e6) rfl
 have ax7 := t4.out.a.at 7 (.int .i64 x7) rfl
 have bx7 := t4.out.b.at 7 (.int .i64 x7) rfl
 go_wp2_with fail
 refine (dEqRows [.slice p6 n6 d6, .int .i64 x7] [.slice q6 n6 e6, .int .i64 x7] [.l 3 1 n6 cs6, .i x7] _ (HN6.out.on t4.out.on (Nat.le_refl _)) (HM6.out.on t4.out.on (Nat.le_refl _)) HH6.out).mono ?_
 rintro e w5 ⟨rfl, hb⟩
 have t5 : Hid (Two w w5 #[.slice p0 n0 d0, .slice p1 n1 d1, .slice p2 n2 d2, .int .i64 x3, .slice p4 n4 d4, .slice p5 n5 d5, .slice p6 n6 d6, .int .i64 x7] #[.slice q0 n0 e0, .slice q1 n1 e1, .slice q2 n2 e2, .int .i64 x3, .slice q4 n4 e4, .slice q5 n5 e5, .slice q6 n6 e6, .int .i64 x7] 57) := t4.out.call hb
 clear hb ax0 bx0 ax1 bx1 ax2 bx2 ax3 bx3 ax4 bx4 ax5 bx5 ax6 bx6 ax7 bx7
 have ax0 := t5.out.a.at 0 (.slice p0 n0 d0) rfl
 have bx0 := t5.out.b.at 0 (.slice q0 n0 e0) rfl
 have ax1 := t5.out.a.at 1 (.slice p1 n1 d1) rfl
 have bx1 := t5.out.b.at 1 (.slice q1 n1 e1) rfl
 have ax2 := t5.out.a.at 2 (.slice p2 n2 d2) rfl
 have bx2 := t5.out.b.at 2 (.slice q2 n2 e2) rfl
 have ax3 := t5.out.a.at 3 (.int .i64 x3) rfl
 have bx3 := t5.out.b.at 3 (.int .i64 x3) rfl
 have ax4 := t5.out.a.at 4 (.slice p4 n4 d4) rfl
 have bx4 := t5.out.b.at 4 (.slice q4 n4 e4) rfl
 have ax5 := t5.out.a.at 5 (.slice p5 n5 d5) rfl
 have bx5 := t5.out.b.at 5 (.slice q5 n5 e5) rfl
 have ax6 := t5.out.a.at 6 (.slice p6 n6 d6) rfl
 have bx6 := t5.out.b.at 6 (.slice q6 n6 e6) rfl
 have ax7 := t5.out.a.at 7 (.int .i64 x7) rfl
 have bx7 := t5.out.b.at 7 (.int .i64 x7) rfl
 go_wp2
 go_ret
 exact ⟨rfl, t5.out.on⟩
end
end Go.Proofs.Ytecheopkfhfgkaa
