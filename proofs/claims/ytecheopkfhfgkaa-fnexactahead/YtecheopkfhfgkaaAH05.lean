/- Texts joined: DatE, DatG, LawAhW, DatP. -/
import Derived.Test.YtecheopkfhfgkaaAH02
import Derived.Deep.RegionHeld3
import Derived.Deep.Cut
import Derived.Handy
import Derived.Test.YtecheopkfhfgkaaAH04
import Derived.Below
import Derived.Lib.SmallJoins
set_option maxHeartbeats 16000000
set_option maxRecDepth 100000
namespace Go.Proofs.Ytecheopkfhfgkaa
section
open Go.ChangeShapes Go.WideShapes Go.ChangeAt Go.RowKit Go.Joins
theorem dEqIntS (v u : Value) (n : Nat) (cs : List Cel) (w : World) (h : At false w v (.l 3 1 n cs)) (h' : At false w u (.l 3 1 n cs)) (hs : Has (.l 3 1 n cs) (.l 3 1 [.i])) :
   Calls Try.prog 39 #[v, u] w (Yes w) := by
 obtain ⟨a, c, vs, rfl, h1, h2, hn, -, h3, h4⟩ := h.openL
 have SRC : Hid (n = 0 ∨ ∃ b o, a = some ⟨b, o, none⟩ ∧ ∀ j, j < n * 1 → w.cell? ⟨b, o + j, none⟩ = vs[j]?) := h3
 have HV : Hid (∀ j, j < n → AtL false w ((vs.drop (j * 1)).take 1) (row cs 1 j)) := fun j hj => rowVals h1 h2 h4 hj
 have Lvs : Hid (vs.length = n * 1) := h1
 clear h1 h2 h3 h4 hn
 obtain ⟨a', c', us, rfl, h1, h2, hn, -, h3, h4⟩ := h'.openL
 have SRD : Hid (n = 0 ∨ ∃ b o, a' = some ⟨b, o, none⟩ ∧ ∀ j, j < n * 1 → w.cell? ⟨b, o + j, none⟩ = us[j]?) := h3
 have HU : Hid (∀ j, j < n → AtL false w ((us.drop (j * 1)).take 1) (row cs 1 j)) := fun j hj => rowVals h1 h2 h4 hj
 have Lus : Hid (us.length = n * 1) := h1
 clear h1 h2 h3 h4
 have HR : Hid (∀ j, j < n → HasL (row cs 1 j) [.i]) := fun j hj => hs.rowL hj
 clear h h' hs
 go_enter Try.func39, Try.ntmps39
 go_wp2
 go_loopw [5] (fun i wr => ∃ j : Nat, j ≤ n ∧ i = .int .i64 j ∧ Below w.heap.size w wr) (fun i _ => n - (intOf i).toNat)
 case atStart => exact ⟨0, Nat.zero_le _, rfl, Below.refl _ _⟩
 case round =>
   obtain ⟨j, hj, rfl, hb⟩ := hrel
   by_cases hlt : j < n
   · have hk0 : (0 : Int) ≤ (j : Int) := by omega
     have hk1 : (j : Int) < (n : Int) := by omega
     have hle : j * 1 + 1 ≤ n * 1 := by omega
     have hH := HR.out j hlt
     obtain ⟨rs, hrs⟩ : ∃ rs, row cs 1 j = rs := ⟨_, rfl⟩
     rw [hrs] at hH
     rcases SRC.out with h0 | ⟨p1, o1, rfl, g1⟩
     · omega
     have hA := HV.out j hlt
     have ce := rowAt hb hlt g1 Lvs.out
     obtain ⟨ws, hws⟩ : ∃ ws, (vs.drop (j * 1)).take 1 = ws := ⟨_, rfl⟩
     rw [hrs] at hA
     rw [hws] at hA ce
     clear g1 hws
     rcases SRD.out with h0 | ⟨p2, o2, rfl, g2⟩
     · omega
     have hB := HU.out j hlt
     have cf := rowAt hb hlt g2 Lus.out
     obtain ⟨ws', hws⟩ : ∃ ws, (us.drop (j * 1)).take 1 = ws := ⟨_, rfl⟩
     rw [hrs] at hB
     rw [hws] at hB cf
     clear g2 hws
     obtain ⟨c0, rfl, T0⟩ := hH.c1
     have HL0 : Hid (HasL [c0] [.i]) := hH
     obtain ⟨v0, rfl, A0⟩ := hA.c1
     obtain ⟨u0, rfl, B0⟩ := hB.c1
     have HA0 : Hid (AtL false w [v0] [c0]) := hA
     have HB0 : Hid (AtL false w [u0] [c0]) := hB
     have e0 : wr.cell? ⟨p1, o1 + j * 1, none⟩ = some v0 := ce 0 (by omega)
     have f0 : wr.cell? ⟨p2, o2 + j * 1, none⟩ = some u0 := cf 0 (by omega)
     obtain ⟨x0, rfl⟩ := T0.int
     obtain rfl := A0.int
     obtain rfl := B0.int
     simp only [Nat.mul_one] at e0 f0
     have ne0 : (x0 != x0) = false := by simp
     clear ce cf hrs hA hB hH T0 A0 B0
     go_wp2
     go_region
     go_wp2
     exact ⟨⟨j + 1, by omega, by go_num, hb.drew⟩, by simp [intOf]; omega⟩
   · obtain rfl : j = n := by omega
     go_wp2
     go_ret
     exact ⟨rfl, hb⟩
theorem dEqOp (vs us : List Value) (cs : List Cel) (w : World) (h : AtL false w vs cs) (h' : AtL false w us cs) (hs : HasL cs tyOp) : Calls Try.prog 23 #[.agg vs.toArray, .agg us.toArray] w (Yes w) := by
 obtain ⟨c0, c1, c2, rfl, T0, T1, T2⟩ := hs.c3
 obtain ⟨v0, v1, v2, rfl, A0, A1, A2⟩ := h.c3
 obtain ⟨u0, u1, u2, rfl, B0, B1, B2⟩ := h'.c3
 obtain ⟨x0, rfl⟩ := T0.int
 obtain rfl := A0.int
 obtain rfl := B0.int
 have ne0 : (x0 != x0) = false := by simp
 obtain ⟨x1, rfl⟩ := T1.int
 obtain rfl := A1.int
 obtain rfl := B1.int
 have ne1 : (x1 != x1) = false := by simp
 obtain ⟨x2, rfl⟩ := T2.int
 obtain rfl := A2.int
 obtain rfl := B2.int
 have ne2 : (x2 != x2) = false := by simp
 clear hs h h' T0 A0 B0 T1 A1 B1 T2 A2 B2
 obtain ⟨W, hW⟩ : ∃ W, (w.alloc (.cells #[.int .i64 x0, .int .i64 x1, .int .i64 x2] 31)).alloc (.cells #[.int .i64 x0, .int .i64 x1, .int .i64 x2] 31) = W := ⟨_, rfl⟩
 have t0 : Hid (Two w W #[.int .i64 x0, .int .i64 x1, .int .i64 x2] #[.int .i64 x0, .int .i64 x1, .int .i64 x2] 31) := by rw [← hW]; exact two_new w _ _ _
 have HW : Hid _ := hW
 clear hW
 go_enter Try.func23, Try.ntmps23
 go_upto_region 1 with (fail)
 rw [HW.out]
 have ax0 := t0.out.a.at 0 (.int .i64 x0) rfl
 have bx0 := t0.out.b.at 0 (.int .i64 x0) rfl
 have ax1 := t0.out.a.at 1 (.int .i64 x1) rfl
 have bx1 := t0.out.b.at 1 (.int .i64 x1) rfl
 have ax2 := t0.out.a.at 2 (.int .i64 x2) rfl
 have bx2 := t0.out.b.at 2 (.int .i64 x2) rfl
 go_wp2
 go_ret
 exact ⟨rfl, t0.out.on⟩
theorem dEqRes (vs us : List Value) (cs : List Cel) (w : World) (h : AtL false w vs cs) (h' : AtL false w us cs) (hs : HasL cs tyRes) : Calls Try.prog 24 #[.agg vs.toArray, .agg us.toArray] w (Yes w) := by
 obtain ⟨c0, c1, rfl, T0, T1⟩ := hs.c2
 obtain ⟨v0, v1, rfl, A0, A1⟩ := h.c2
 obtain ⟨u0, u1, rfl, B0, B1⟩ := h'.c2
 obtain ⟨x0, rfl⟩ := T0.int
 obtain rfl := A0.int
 obtain rfl := B0.int
 have ne0 : (x0 != x0) = false := by simp
 obtain ⟨n1, cs1, rfl, -⟩ := T1.list
 have HT1 : Hid (Has (.l 3 1 n1 cs1) (.l 3 1 [.i])) := T1
 obtain ⟨p1, d1, rfl⟩ := A1.slice
 obtain ⟨q1, e1, rfl⟩ := B1.slice
 have hA1' : Hid (At false w (.slice p1 n1 d1) (.l 3 1 n1 cs1)) := A1
 have hB1' : Hid (At false w (.slice q1 n1 e1) (.l 3 1 n1 cs1)) := B1
 clear hs h h' T0 A0 B0 T1 A1 B1
 obtain ⟨W, hW⟩ : ∃ W, (w.alloc (.cells #[.int .i64 x0, .slice p1 n1 d1] 32)).alloc (.cells #[.int .i64 x0, .slice q1 n1 e1] 32) = W := ⟨_, rfl⟩
 have t0 : Hid (Two w W #[.int .i64 x0, .slice p1 n1 d1] #[.int .i64 x0, .slice q1 n1 e1] 32) := by rw [← hW]; exact two_new w _ _ _
 have HW : Hid _ := hW
 clear hW
 go_enter Try.func24, Try.ntmps24
 go_upto_region 1 with (fail)
 rw [HW.out]
 have ax0 := t0.out.a.at 0 (.int .i64 x0) rfl
 have bx0 := t0.out.b.at 0 (.int .i64 x0) rfl
 have ax1 := t0.out.a.at 1 (.slice p1 n1 d1) rfl
 have bx1 := t0.out.b.at 1 (.slice q1 n1 e1) rfl
 go_wp2_with fail
 refine (dEqIntS _ _ n1 cs1 _ (hA1'.out.on t0.out.on (Nat.le_refl _)) (hB1'.out.on t0.out.on (Nat.le_refl _)) HT1.out).mono ?_
 rintro e w1 ⟨rfl, hb⟩
 have t1 : Hid (Two w w1 #[.int .i64 x0, .slice p1 n1 d1] #[.int .i64 x0, .slice q1 n1 e1] 32) := t0.out.call hb
 clear hb ax0 bx0 ax1 bx1
 have ax0 := t1.out.a.at 0 (.int .i64 x0) rfl
 have bx0 := t1.out.b.at 0 (.int .i64 x0) rfl
 have ax1 := t1.out.a.at 1 (.slice p1 n1 d1) rfl
 have bx1 := t1.out.b.at 1 (.slice q1 n1 e1) rfl
 go_wp2
 go_ret
 exact ⟨rfl, t1.out.on⟩
theorem dEqCall (vs us : List Value) (cs : List Cel) (w : World) (h : AtL false w vs cs) (h' : AtL false w us cs) (hs : HasL cs tyCall) : Calls Try.prog 9 #[.agg vs.toArray, .agg us.toArray] w (Yes w) := by
 obtain ⟨c0, c1, c2, c3, c4, c5, c6, c7, c8, rfl, T0, T1, T2, T3, T4, T5, T6, T7, T8⟩ := hs.c9
 obtain ⟨v0, v1, v2, v3, v4, v5, v6, v7, v8, rfl, A0, A1, A2, A3, A4, A5, A6, A7, A8⟩ := h.c9
 obtain ⟨u0, u1, u2, u3, u4, u5, u6, u7, u8, rfl, B0, B1, B2, B3, B4, B5, B6, B7, B8⟩ := h'.c9
 obtain ⟨x0, rfl⟩ := T0.int
 obtain rfl := A0.int
 obtain rfl := B0.int
 have ne0 : (x0 != x0) = false := by simp
 obtain ⟨x1, rfl⟩ := T1.int
 obtain rfl := A1.int
 obtain rfl := B1.int
 have ne1 : (x1 != x1) = false := by simp
 obtain ⟨x2, rfl⟩ := T2.int
 obtain rfl := A2.int
 obtain rfl := B2.int
 have ne2 : (x2 != x2) = false := by simp
 obtain ⟨x3, rfl⟩ := T3.int
 obtain rfl := A3.int
 obtain rfl := B3.int
 have ne3 : (x3 != x3) = false := by simp
 obtain ⟨x4, rfl⟩ := T4.int
 obtain rfl := A4.int
 obtain rfl := B4.int
 have ne4 : (x4 != x4) = false := by simp
 obtain ⟨x5, rfl⟩ := T5.int
 obtain rfl := A5.int
 obtain rfl := B5.int
 have ne5 : (x5 != x5) = false := by simp
 obtain ⟨x6, rfl⟩ := T6.int
 obtain rfl := A6.int
 obtain rfl := B6.int
 have ne6 : (x6 != x6) = false := by simp
 obtain ⟨x7, rfl⟩ := T7.int
 obtain rfl := A7.int
 obtain rfl := B7.int
 have ne7 : (x7 != x7) = false := by simp
 obtain ⟨n8, cs8, rfl, -⟩ := T8.list
 have HT8 : Hid (Has (.l 3 1 n8 cs8) (.l 3 1 [.i])) := T8
 obtain ⟨p8, d8, rfl⟩ := A8.slice
 obtain ⟨q8, e8, rfl⟩ := B8.slice
 have hA8' : Hid (At false w (.slice p8 n8 d8) (.l 3 1 n8 cs8)) := A8
 have hB8' : Hid (At false w (.slice q8 n8 e8) (.l 3 1 n8 cs8)) := B8
 have HN1 : Hid (AtL false w [.int .i64 x1, .int .i64 x2, .int .i64 x3] [.i x1, .i x2, .i x3]) := AtL.cons (.i x1) (AtL.cons (.i x2) (AtL.cons (.i x3) (AtL.nil)))
 have HH1 : Hid (HasL [.i x1, .i x2, .i x3] tyOp) := ⟨rfl, fun j c t hc ht => by
   have hj : j < 3 := by have := (List.getElem?_eq_some_iff.1 hc).1; simpa using this
   rcases (show j = 0 ∨ j = 1 ∨ j = 2 by omega) with rfl | rfl | rfl <;> (simp [tyOp] at hc ht; subst hc ht)
   · exact .i x1
   · exact .i x2
   · exact .i x3⟩
 have HN7 : Hid (AtL false w [.int .i64 x7, .slice p8 n8 d8] [.i x7, .l 3 1 n8 cs8]) := AtL.cons (.i x7) (AtL.cons (hA8'.out) (AtL.nil))
 have HH7 : Hid (HasL [.i x7, .l 3 1 n8 cs8] tyRes) := ⟨rfl, fun j c t hc ht => by
   have hj : j < 2 := by have := (List.getElem?_eq_some_iff.1 hc).1; simpa using this
   rcases (show j = 0 ∨ j = 1 by omega) with rfl | rfl <;> (simp [tyRes] at hc ht; subst hc ht)
   · exact .i x7
   · exact HT8.out⟩
 have HM1 : Hid (AtL false w [.int .i64 x1, .int .i64 x2, .int .i64 x3] [.i x1, .i x2, .i x3]) := AtL.cons (.i x1) (AtL.cons (.i x2) (AtL.cons (.i x3) (AtL.nil)))
 have HM7 : Hid (AtL false w [.int .i64 x7, .slice q8 n8 e8] [.i x7, .l 3 1 n8 cs8]) := AtL.cons (.i x7) (AtL.cons (hB8'.out) (AtL.nil))
 clear hs h h' T0 A0 B0 T1 A1 B1 T2 A2 B2 T3 A3 B3 T4 A4 B4 T5 A5 B5 T6 A6 B6 T7 A7 B7 T8 A8 B8
 obtain ⟨W, hW⟩ : ∃ W, (w.alloc (.cells #[.int .i64 x0, .int .i64 x1, .int .i64 x2, .int .i64 x3, .int .i64 x4, .int .i64 x5, .int .i64 x6, .int .i64 x7, .slice p8 n8 d8] 34)).alloc (.cells #[.int .i64 x0, .int .i64 x1, .int .i64 x2, .int .i64 x3, .int .i64 x4, .int .i64 x5, .int .i64 x6, .int .i64 x7, .slice q8 n8 e8] 34) = W := ⟨_, rfl⟩
 have t0 : Hid (Two w W #[.int .i64 x0, .int .i64 x1, .int .i64 x2, .int .i64 x3, .int .i64 x4, .int .i64 x5, .int .i64 x6, .int .i64 x7, .slice p8 n8 d8] #[.int .i64 x0, .int .i64 x1, .int .i64 x2, .int .i64 x3, .int .i64 x4, .int .i64 x5, .int .i64 x6, .int .i64 x7, .slice q8 n8 e8] 34) := by rw [← hW]; exact two_new w _ _ _
 have HW : Hid _ := hW
 clear hW
 go_enter Try.func9, Try.ntmps9
 go_upto_region 1 with (fail)
 rw [HW.out]
 have ax0 := t0.out.a.at 0 (.int .i64 x0) rfl
 have bx0 := t0.out.b.at 0 (.int .i64 x0) rfl
 have ax1 := t0.out.a.at 1 (.int .i64 x1) rfl
 have bx1 := t0.out.b.at 1 (.int .i64 x1) rfl
 have ax2 := t0.out.a.at 2 (.int .i64 x2) rfl
 have bx2 := t0.out.b.at 2 (.int .i64 x2) rfl
 have ax3 := t0.out.a.at 3 (.int .i64 x3) rfl
 have bx3 := t0.out.b.at 3 (.int .i64 x3) rfl
 have ax4 := t0.out.a.at 4 (.int .i64 x4) rfl
 have bx4 := t0.out.b.at 4 (.int .i64 x4) rfl
 have ax5 := t0.out.a.at 5 (.int .i64 x5) rfl
 have bx5 := t0.out.b.at 5 (.int .i64 x5) rfl
 have ax6 := t0.out.a.at 6 (.int .i64 x6) rfl
 have bx6 := t0.out.b.at 6 (.int .i64 x6) rfl
 have ax7 := t0.out.a.at 7 (.int .i64 x7) rfl
 have bx7 := t0.out.b.at 7 (.int .i64 x7) rfl
 have ax8 := t0.out.a.at 8 (.slice p8 n8 d8) rfl
 have bx8 := t0.out.b.at 8 (.slice q8 n8 e8) rfl
 go_wp2_with fail
 refine (dEqOp [.int .i64 x1, .int .i64 x2, .int .i64 x3] [.int .i64 x1, .int .i64 x2, .int .i64 x3] [.i x1, .i x2, .i x3] _ (HN1.out.on t0.out.on (Nat.le_refl _)) (HM1.out.on t0.out.on (Nat.le_refl _)) HH1.out).mono ?_
 rintro e w1 ⟨rfl, hb⟩
 have t1 : Hid (Two w w1 #[.int .i64 x0, .int .i64 x1, .int .i64 x2, .int .i64 x3, .int .i64 x4, .int .i64 x5, .int .i64 x6, .int .i64 x7, .slice p8 n8 d8] #[.int .i64 x0, .int .i64 x1, .int .i64 x2, .int .i64 x3, .int .i64 x4, .int .i64 x5, .int .i64 x6, .int .i64 x7, .slice q8 n8 e8] 34) := t0.out.call hb
 clear hb ax0 bx0 ax1 bx1 ax2 bx2 ax3 bx3 ax4 bx4 ax5 bx5 ax6 bx6 ax7 bx7 ax8 bx8
 have ax0 := t1.out.a.at 0 (.int .i64 x0) rfl
 have bx0 := t1.out.b.at 0 (.int .i64 x0) rfl
 have ax1 := t1.out.a.at 1 (.int .i64 x1) rfl
 have bx1 := t1.out.b.at 1 (.int .i64 x1) rfl
 have ax2 := t1.out.a.at 2 (.int .i64 x2) rfl
 have bx2 := t1.out.b.at 2 (.int .i64 x2) rfl
 have ax3 := t1.out.a.at 3 (.int .i64 x3) rfl
 have bx3 := t1.out.b.at 3 (.int .i64 x3) rfl
 have ax4 := t1.out.a.at 4 (.int .i64 x4) rfl
 have bx4 := t1.out.b.at 4 (.int .i64 x4) rfl
 have ax5 := t1.out.a.at 5 (.int .i64 x5) rfl
 have bx5 := t1.out.b.at 5 (.int .i64 x5) rfl
 have ax6 := t1.out.a.at 6 (.int .i64 x6) rfl
 have bx6 := t1.out.b.at 6 (.int .i64 x6) rfl
 have ax7 := t1.out.a.at 7 (.int .i64 x7) rfl
 have bx7 := t1.out.b.at 7 (.int .i64 x7) rfl
 have ax8 := t1.out.a.at 8 (.slice p8 n8 d8) rfl
 have bx8 := t1.out.b.at 8 (.slice q8 n8 e8) rfl
 go_wp2_with fail
 refine (dEqRes [.int .i64 x7, .slice p8 n8 d8] [.int .i64 x7, .slice q8 n8 e8] [.i x7, .l 3 1 n8 cs8] _ (HN7.out.on t1.out.on (Nat.le_refl _)) (HM7.out.on t1.out.on (Nat.le_refl _)) HH7.out).mono ?_
 rintro e w2 ⟨rfl, hb⟩
 have t2 : Hid (Two w w2 #[.int .i64 x0, .int .i64 x1, .int .i64 x2, .int .i64 x3, .int .i64 x4, .int .i64 x5, .int .i64 x6, .int .i64 x7, .slice p8 n8 d8] #[.int .i64 x0, .int .i64 x1, .int .i64 x2, .int .i64 x3, .int .i64 x4, .int .i64 x5, .int .i64 x6, .int .i64 x7, .slice q8 n8 e8] 34) := t1.out.call hb
 clear hb ax0 bx0 ax1 bx1 ax2 bx2 ax3 bx3 ax4 bx4 ax5 bx5 ax6 bx6 ax7 bx7 ax8 bx8
 have ax0 := t2.out.a.at 0 (.int .i64 x0) rfl
 have bx0 := t2.out.b.at 0 (.int .i64 x0) rfl
 have ax1 := t2.out.a.at 1 (.int .i64 x1) rfl
 have bx1 := t2.out.b.at 1 (.int .i64 x1) rfl
 have ax2 := t2.out.a.at 2 (.int .i64 x2) rfl
 have bx2 := t2.out.b.at 2 (.int .i64 x2) rfl
 have ax3 := t2.out.a.at 3 (.int .i64 x3) rfl
 have bx3 := t2.out.b.at 3 (.int .i64 x3) rfl
 have ax4 := t2.out.a.at 4 (.int .i64 x4) rfl
 have bx4 := t2.out.b.at 4 (.int .i64 x4) rfl
 have ax5 := t2.out.a.at 5 (.int .i64 x5) rfl
 have bx5 := t2.out.b.at 5 (.int .i64 x5) rfl
 have ax6 := t2.out.a.at 6 (.int .i64 x6) rfl
 have bx6 := t2.out.b.at 6 (.int .i64 x6) rfl
 have ax7 := t2.out.a.at 7 (.int .i64 x7) rfl
 have bx7 := t2.out.b.at 7 (.int .i64 x7) rfl
 have ax8 := t2.out.a.at 8 (.slice p8 n8 d8) rfl
 have bx8 := t2.out.b.at 8 (.slice q8 n8 e8) rfl
 go_wp2
 go_ret
 exact ⟨rfl, t2.out.on⟩
end
end Go.Proofs.Ytecheopkfhfgkaa
namespace Go.Proofs.Ytecheopkfhfgkaa
open Go.ChangeShapes Go.WideShapes Go.ChangeAt Go.RowKit Go.Joins
namespace fnExactAhead
theorem atLoose {w : World} {us : List Value} {cs : List Cel} (h : AtL true w us cs) : AtL false w us cs := ⟨h.1, fun j v c hv hc => (h.2 j v c hv hc).loose⟩
theorem nine_box {w : World} {b : Nat} {x0 x1 x2 x3 x4 x5 x6 x7 x8 : Value} {T : TypeId} (h : Box w b #[x0, x1, x2, x3, x4, x5, x6, x7, x8] T) : w.cell? ⟨b, 0, none⟩ = some x0 ∧ w.cell? ⟨b, 1, none⟩ = some x1 ∧ w.cell? ⟨b, 2, none⟩ = some x2 ∧ w.cell? ⟨b, 3, none⟩ = some x3 ∧ w.cell? ⟨b, 4, none⟩ = some x4 ∧ w.cell? ⟨b, 5, none⟩ = some x5 ∧ w.cell? ⟨b, 6, none⟩ = some x6 ∧ w.cell? ⟨b, 7, none⟩ = some x7 ∧ w.cell? ⟨b, 8, none⟩ = some x8 := ⟨h.cell 0, h.cell 1, h.cell 2, h.cell 3, h.cell 4, h.cell 5, h.cell 6, h.cell 7, h.cell 8⟩
theorem call_of {w : World} {us : List Value} {cs : List Cel} (h : AtL true w us cs) (hs : HasL cs tyCall) : ∃ j0 j1 j2 j3 j4 j5 j6 j7 b8 m8 k8, us = [(.int .i64 j0), (.int .i64 j1), (.int .i64 j2), (.int .i64 j3), (.int .i64 j4), (.int .i64 j5), (.int .i64 j6), (.int .i64 j7), (.slice b8 m8 k8)] ∧ caD cs = ⟨j0, j1, j2, j3, j4, j5, j6, j7⟩ := by
 obtain ⟨y0, y1, y2, y3, y4, y5, y6, y7, y8, rfl, T0, T1, T2, T3, T4, T5, T6, T7, T8⟩ := hs.c9
 obtain ⟨v0, v1, v2, v3, v4, v5, v6, v7, v8, rfl, A0, A1, A2, A3, A4, A5, A6, A7, A8⟩ := h.c9
 obtain ⟨z0, rfl⟩ := T0.int
 obtain rfl := A0.int
 obtain ⟨z1, rfl⟩ := T1.int
 obtain rfl := A1.int
 obtain ⟨z2, rfl⟩ := T2.int
 obtain rfl := A2.int
 obtain ⟨z3, rfl⟩ := T3.int
 obtain rfl := A3.int
 obtain ⟨z4, rfl⟩ := T4.int
 obtain rfl := A4.int
 obtain ⟨z5, rfl⟩ := T5.int
 obtain rfl := A5.int
 obtain ⟨z6, rfl⟩ := T6.int
 obtain rfl := A6.int
 obtain ⟨z7, rfl⟩ := T7.int
 obtain rfl := A7.int
 obtain ⟨n8, l8, rfl, _⟩ := T8.list
 obtain ⟨a8, c8, rfl⟩ := A8.slice
 exact ⟨z0, z1, z2, z3, z4, z5, z6, z7, a8, n8, c8, rfl, rfl⟩
noncomputable def aheadL : List Oper := match Try.f3.body with
 | some (.seq _ (.seq _ (.seq _ (.seq _ (.seq _ (.seq _ (.seq (.region _ ops _) _))))))) => ops.toList
 | _ => []
theorem specC (us xs : List Value) (cs ds : List Cel) (w : World) (h : AtL true w us cs) (hs : HasL cs tyCall) (h' : AtL true w xs ds) (hs' : HasL ds tyCall) :
   Calls Try.prog 6 #[.agg us.toArray, .agg xs.toArray] w fun e w' => e = .returned (.bool (AheadM (caD cs) (caD ds))) ∧ Below w.heap.size w w' := by
 obtain ⟨j0, j1, j2, j3, j4, j5, j6, j7, b8, m8, k8, rfl, e⟩ := call_of h hs
 obtain ⟨i0, i1, i2, i3, i4, i5, i6, i7, e8, p8, h8, rfl, e'⟩ := call_of h' hs'
 rw [e, e']
 exact spec_ahead ⟨j0, j1, j2, j3, j4, j5, j6, j7⟩ ⟨i0, i1, i2, i3, i4, i5, i6, i7⟩ (.slice b8 m8 k8) (.slice e8 p8 h8) w
theorem implC (us xs : List Value) (cs ds : List Cel) (w : World) (h : AtL true w us cs) (hs : HasL cs tyCall) (h' : AtL true w xs ds) (hs' : HasL ds tyCall) :
   Calls Try.prog 8 #[.agg us.toArray, .agg xs.toArray] w fun e w' => e = .returned (.bool (AheadM (caD cs) (caD ds))) ∧ Below w.heap.size w w' := by
 obtain ⟨j0, j1, j2, j3, j4, j5, j6, j7, b8, m8, k8, rfl, e⟩ := call_of h hs
 obtain ⟨i0, i1, i2, i3, i4, i5, i6, i7, e8, p8, h8, rfl, e'⟩ := call_of h' hs'
 rw [e, e']
 exact impl_ahead ⟨j0, j1, j2, j3, j4, j5, j6, j7⟩ ⟨i0, i1, i2, i3, i4, i5, i6, i7⟩ (.slice b8 m8 k8) (.slice e8 p8 h8) w
theorem walk (vs xs : List Value) (cs ds : List Cel) (w : World) (h : InL w vs cs) (hs : HasL cs tyCall) (h' : InL w xs ds) (hs' : HasL ds tyCall) :
   Calls Try.prog 3 #[.agg vs.toArray, .agg xs.toArray] w fun e w' => e = .returned (.bool true) ∧ Below w.heap.size w w' := by
 have hl9 : vs.length = 9 := by rw [h.1, hs.1]; rfl
 have hl9' : xs.length = 9 := by rw [h'.1, hs'.1]; rfl
 obtain ⟨v0, v1, v2, v3, v4, v5, v6, v7, v8, rfl⟩ : ∃ v0 v1 v2 v3 v4 v5 v6 v7 v8, vs = [v0, v1, v2, v3, v4, v5, v6, v7, v8] := by
   match vs, hl9 with
   | [a0, a1, a2, a3, a4, a5, a6, a7, a8], _ => exact ⟨_, _, _, _, _, _, _, _, _, rfl⟩
 obtain ⟨x0, x1, x2, x3, x4, x5, x6, x7, x8, rfl⟩ : ∃ x0 x1 x2 x3 x4 x5 x6 x7 x8, xs = [x0, x1, x2, x3, x4, x5, x6, x7, x8] := by
   match xs, hl9' with
   | [a0, a1, a2, a3, a4, a5, a6, a7, a8], _ => exact ⟨_, _, _, _, _, _, _, _, _, rfl⟩
 have HIN : Hid (InL w [v0, v1, v2, v3, v4, v5, v6, v7, v8] cs) := h
 have HIX : Hid (InL w [x0, x1, x2, x3, x4, x5, x6, x7, x8] ds) := h'
 have HSa : Hid (HasL cs tyCall) := hs
 have HSb : Hid (HasL ds tyCall) := hs'
 obtain ⟨sz, hsz⟩ : ∃ sz, w.heap.size = sz := ⟨_, rfl⟩
 obtain ⟨sy, hsy⟩ : ∃ sy, sz + 1 = sy := ⟨_, rfl⟩
 obtain ⟨W, hW⟩ : ∃ W, (w.alloc (.cells #[v0, v1, v2, v3, v4, v5, v6, v7, v8] 28)).alloc (.cells #[x0, x1, x2, x3, x4, x5, x6, x7, x8] 28) = W := ⟨_, rfl⟩
 have hb0 : Below sz w W := by rw [← hW, ← hsz]; exact ((Below.refl _ w).alloc (Nat.le_refl _) _).alloc (by simp) _
 have hWs : W.heap.size = sz + 2 := by rw [← hW, ← hsz]; simp
 have XA : Hid (Box W sz #[v0, v1, v2, v3, v4, v5, v6, v7, v8] 28) := by rw [← hW, ← hsz]; exact (box_of w _ _).alloc _
 have XB : Hid (Box W sy #[x0, x1, x2, x3, x4, x5, x6, x7, x8] 28) := by
   have := box_of (w.alloc (.cells #[v0, v1, v2, v3, v4, v5, v6, v7, v8] 28)) #[x0, x1, x2, x3, x4, x5, x6, x7, x8] 28
   rw [hW] at this
   show Box _ _ _ _
   rw [← hsy, ← hsz]
   simpa using this
 have HW : Hid ((w.alloc (.cells #[v0, v1, v2, v3, v4, v5, v6, v7, v8] 28)).alloc (.cells #[x0, x1, x2, x3, x4, x5, x6, x7, x8] 28) = W) := hW
 have HSZ : Hid (w.heap.size = sz) := hsz
 have HSY : Hid (sz + 1 = sy) := hsy
 have HB0 : Hid (Below sz w W) := hb0
 have HWS : Hid (W.heap.size = sz + 2) := hWs
 have hsw : Hid (w.heap.size ≤ sz) := by rw [hsz]; exact Nat.le_refl _
 have Ca : Hid (∀ y, Below W.heap.size W y → y.cell? ⟨sz, 0, none⟩ = some v0 ∧ y.cell? ⟨sz, 1, none⟩ = some v1 ∧ y.cell? ⟨sz, 2, none⟩ = some v2 ∧ y.cell? ⟨sz, 3, none⟩ = some v3 ∧ y.cell? ⟨sz, 4, none⟩ = some v4 ∧ y.cell? ⟨sz, 5, none⟩ = some v5 ∧ y.cell? ⟨sz, 6, none⟩ = some v6 ∧ y.cell? ⟨sz, 7, none⟩ = some v7 ∧ y.cell? ⟨sz, 8, none⟩ = some v8) := fun y hb => nine_box (XA.out.below hb XA.out.lt)
 have Cb : Hid (∀ y, Below W.heap.size W y → y.cell? ⟨sy, 0, none⟩ = some x0 ∧ y.cell? ⟨sy, 1, none⟩ = some x1 ∧ y.cell? ⟨sy, 2, none⟩ = some x2 ∧ y.cell? ⟨sy, 3, none⟩ = some x3 ∧ y.cell? ⟨sy, 4, none⟩ = some x4 ∧ y.cell? ⟨sy, 5, none⟩ = some x5 ∧ y.cell? ⟨sy, 6, none⟩ = some x6 ∧ y.cell? ⟨sy, 7, none⟩ = some x7 ∧ y.cell? ⟨sy, 8, none⟩ = some x8) := fun y hb => nine_box (XB.out.below hb XB.out.lt)
 have UP : Hid (∀ y, Below W.heap.size W y → Below sz w y) := fun y hb => HB0.out.trans (hb.mono (by have := HWS.out; omega))
 clear hW hb0 hWs hsz hsy h hs h' hs' hl9 hl9'
 show Calls Try.prog 3 #[.agg #[v0, v1, v2, v3, v4, v5, v6, v7, v8], .agg #[x0, x1, x2, x3, x4, x5, x6, x7, x8]] w fun e w' => e = .returned (.bool true) ∧ Below w.heap.size w w'
 go_enter Try.func3, Try.ntmps3
 go_wp2_with fail
 rw [HW.out]
 (try rw [HSZ.out])
 (try rw [HSY.out])
 refine (dSzCall [v0, v1, v2, v3, v4, v5, v6, v7, v8] cs 1048576 W (HIN.out.on HB0.out hsw.out) HSa.out (by omega) (by omega)).mono ?_
 rintro e w0 ⟨hb1, ⟨r, rfl, hr0, hr1⟩ | ⟨rfl, hbig⟩⟩
 case inr =>
   have hall : Below sz w w0 := UP.out _ hb1
   clear hb1 hbig
   go_wp2
   go_ret
   exact ⟨rfl, by rw [HSZ.out]; exact hall⟩
 have hr2 : ¬ r < 0 := by omega
 have hr3 : decide (r < 0) = false := decide_eq_false hr2
 have HBa : Hid (Below W.heap.size W w0) := hb1
 have hr4 : r ≤ 1048576 := by omega
 have BIG : Hid (bigL cs ≤ 1048576) := by show _ ≤ _; omega
 clear hb1 hr0 hr1
 obtain ⟨y0, y1, y2, y3, y4, y5, y6, y7, y8⟩ := Cb.out _ HBa.out
 go_wp2_with fail
 refine (dSzCall [x0, x1, x2, x3, x4, x5, x6, x7, x8] ds r w0 (HIX.out.on (UP.out _ HBa.out) hsw.out) HSb.out (by omega) (by omega)).mono ?_
 rintro e w1 ⟨hb1, ⟨r', rfl, hr0, hr1⟩ | ⟨rfl, hbig⟩⟩
 case inr =>
   have hall : Below sz w w1 := UP.out _ (HBa.out.trans (hb1.mono HBa.out.size))
   clear hb1 hbig
   go_wp2
   go_ret
   exact ⟨rfl, by rw [HSZ.out]; exact hall⟩
 have BIG' : Hid (bigL ds ≤ 1048576) := by show _ ≤ _; omega
 have hr2' : ¬ r' < 0 := by omega
 have hr3' : decide (r' < 0) = false := decide_eq_false hr2'
 have HB1 : Hid (Below W.heap.size W w1) := HBa.out.trans (hb1.mono HBa.out.size)
 have INa : Hid (∀ y, Below sz w y → AtL false y [v0, v1, v2, v3, v4, v5, v6, v7, v8] cs) := fun y hb => (HIN.out.on hb hsw.out).at (by have := BIG.out; omega)
 have INb : Hid (∀ y, Below sz w y → AtL false y [x0, x1, x2, x3, x4, x5, x6, x7, x8] ds) := fun y hb => (HIX.out.on hb hsw.out).at (by have := BIG'.out; omega)
 clear hb1 hr0 hr1 HBa hr2 hr3 hr4 y0 y1 y2 y3 y4 y5 y6 y7 y8
 have KS : Hid (∀ y, Below w1.heap.size w1 y → (y.cell? ⟨sz, 0, none⟩ = some v0 ∧ y.cell? ⟨sz, 1, none⟩ = some v1 ∧ y.cell? ⟨sz, 2, none⟩ = some v2 ∧ y.cell? ⟨sz, 3, none⟩ = some v3 ∧ y.cell? ⟨sz, 4, none⟩ = some v4 ∧ y.cell? ⟨sz, 5, none⟩ = some v5 ∧ y.cell? ⟨sz, 6, none⟩ = some v6 ∧ y.cell? ⟨sz, 7, none⟩ = some v7 ∧ y.cell? ⟨sz, 8, none⟩ = some v8) ∧ y.cell? ⟨sy, 0, none⟩ = some x0 ∧ y.cell? ⟨sy, 1, none⟩ = some x1 ∧ y.cell? ⟨sy, 2, none⟩ = some x2 ∧ y.cell? ⟨sy, 3, none⟩ = some x3 ∧ y.cell? ⟨sy, 4, none⟩ = some x4 ∧ y.cell? ⟨sy, 5, none⟩ = some x5 ∧ y.cell? ⟨sy, 6, none⟩ = some x6 ∧ y.cell? ⟨sy, 7, none⟩ = some x7 ∧ y.cell? ⟨sy, 8, none⟩ = some x8) := fun y hb => by
   have hb' : Below W.heap.size W y := HB1.out.trans (hb.mono HB1.out.size)
   exact ⟨Ca.out y hb', Cb.out y hb'⟩
 have K0 : Hid ((w1.drew.cell? ⟨sz, 0, none⟩ = some v0 ∧ w1.drew.cell? ⟨sz, 1, none⟩ = some v1 ∧ w1.drew.cell? ⟨sz, 2, none⟩ = some v2 ∧ w1.drew.cell? ⟨sz, 3, none⟩ = some v3 ∧ w1.drew.cell? ⟨sz, 4, none⟩ = some v4 ∧ w1.drew.cell? ⟨sz, 5, none⟩ = some v5 ∧ w1.drew.cell? ⟨sz, 6, none⟩ = some v6 ∧ w1.drew.cell? ⟨sz, 7, none⟩ = some v7 ∧ w1.drew.cell? ⟨sz, 8, none⟩ = some v8) ∧ w1.drew.cell? ⟨sy, 0, none⟩ = some x0 ∧ w1.drew.cell? ⟨sy, 1, none⟩ = some x1 ∧ w1.drew.cell? ⟨sy, 2, none⟩ = some x2 ∧ w1.drew.cell? ⟨sy, 3, none⟩ = some x3 ∧ w1.drew.cell? ⟨sy, 4, none⟩ = some x4 ∧ w1.drew.cell? ⟨sy, 5, none⟩ = some x5 ∧ w1.drew.cell? ⟨sy, 6, none⟩ = some x6 ∧ w1.drew.cell? ⟨sy, 7, none⟩ = some x7 ∧ w1.drew.cell? ⟨sy, 8, none⟩ = some x8) := KS.out _ (Below.refl _ _).drew
 have IN1 : Hid (∀ y, Below w1.heap.size w1 y → AtL false y [v0, v1, v2, v3, v4, v5, v6, v7, v8] cs ∧ AtL false y [x0, x1, x2, x3, x4, x5, x6, x7, x8] ds) := fun y hb => by
   have hb' : Below W.heap.size W y := HB1.out.trans (hb.mono HB1.out.size)
   exact ⟨INa.out y (UP.out _ hb'), INb.out y (UP.out _ hb')⟩
 have IN1d : Hid (AtL false w1.drew [v0, v1, v2, v3, v4, v5, v6, v7, v8] cs) := (IN1.out _ (Below.refl _ _).drew).1
 obtain ⟨B, hB⟩ : ∃ B, AheadM (caD cs) (caD ds) = B := ⟨_, rfl⟩
 have HBB : Hid (AheadM (caD cs) (caD ds) = B) := hB
 have nb : (B != B) = false := by simp
 clear hB
 go_upto_region 8 with (fail)
 change (Code.region _ (List.toArray aheadL) true).wp _ _ _ _
 refine wp_region_held_drew (S := fun w' => (w'.cell? ⟨sz, 0, none⟩ = some v0 ∧ w'.cell? ⟨sz, 1, none⟩ = some v1 ∧ w'.cell? ⟨sz, 2, none⟩ = some v2 ∧ w'.cell? ⟨sz, 3, none⟩ = some v3 ∧ w'.cell? ⟨sz, 4, none⟩ = some v4 ∧ w'.cell? ⟨sz, 5, none⟩ = some v5 ∧ w'.cell? ⟨sz, 6, none⟩ = some v6 ∧ w'.cell? ⟨sz, 7, none⟩ = some v7 ∧ w'.cell? ⟨sz, 8, none⟩ = some v8) ∧ w'.cell? ⟨sy, 0, none⟩ = some x0 ∧ w'.cell? ⟨sy, 1, none⟩ = some x1 ∧ w'.cell? ⟨sy, 2, none⟩ = some x2 ∧ w'.cell? ⟨sy, 3, none⟩ = some x3 ∧ w'.cell? ⟨sy, 4, none⟩ = some x4 ∧ w'.cell? ⟨sy, 5, none⟩ = some x5 ∧ w'.cell? ⟨sy, 6, none⟩ = some x6 ∧ w'.cell? ⟨sy, 7, none⟩ = some x7 ∧ w'.cell? ⟨sy, 8, none⟩ = some x8) (by kernel_rfl) ?_ (fun hHeld => ?_)
 · exact K0.out
 refine wpAnyH_take (i := 0) (oi := _) (v := .agg #[v0, v1, v2, v3, v4, v5, v6, v7, v8]) (by rw [List.getElem?_toArray]; exact rfl) (by kernel_rfl) (by kernel_rfl) (by kernel_rfl) (by intro _ _ _ h; exact h) (Or.inl ⟨by kernel_rfl, ?_⟩) hHeld ?_
 · intro w hSw; obtain ⟨⟨s0, s1, s2, s3, s4, s5, s6, s7, s8⟩, r0, r1, r2, r3, r4, r5, r6, r7, r8⟩ := hSw; go_simp
 (try simp only [Act.put, List.setIfInBounds_toArray, List.set_cons_zero, List.set_cons_succ])
 refine wpAnyH_take (i := 2) (oi := _) (v := .agg #[x0, x1, x2, x3, x4, x5, x6, x7, x8]) (by rw [List.getElem?_toArray]; exact rfl) (by kernel_rfl) (by kernel_rfl) (by kernel_rfl) (by intro _ _ _ h; exact h) (Or.inl ⟨by kernel_rfl, ?_⟩) hHeld ?_
 · intro w hSw; obtain ⟨⟨s0, s1, s2, s3, s4, s5, s6, s7, s8⟩, r0, r1, r2, r3, r4, r5, r6, r7, r8⟩ := hSw; go_simp
 (try simp only [Act.put, List.setIfInBounds_toArray, List.set_cons_zero, List.set_cons_succ])
 refine wpAnyH_ready (rs := [1]) (by kernel_rfl) (by simp) ?_
 refine AllReadyH.cons (o := _) (by rw [List.getElem?_toArray]; exact rfl) (fun K hK => ?_) AllReadyH.nil
 rw [if_pos (by kernel_rfl)]
 go_simp
 refine (dToCall [v0, v1, v2, v3, v4, v5, v6, v7, v8] cs _ IN1d.out HSa.out).mono ?_
 rintro e w2 ⟨hb2, ss, S2, rfl, hO2⟩
 have hb2' : Below w1.heap.size w1 w2 := (Below.refl w1.heap.size w1).drew.trans hb2
 have HB2 : Hid (Below w1.heap.size w1 w2) := hb2'
 have SA2 : Hid (AtL true w2 ss cs) := hO2.at
 refine hK.out _ _ (KS.out _ hb2') (fun hHeld => ?_)
 clear hb2 hb2' hO2
 clear hK K
 (try simp only [Act.put, List.setIfInBounds_toArray, List.set_cons_zero, List.set_cons_succ])
 refine wpAnyH_ready (rs := [3]) (by kernel_rfl) (by simp) ?_
 refine AllReadyH.cons (o := _) (by rw [List.getElem?_toArray]; exact rfl) (fun K hK => ?_) AllReadyH.nil
 rw [if_pos (by kernel_rfl)]
 go_simp
 refine (dToCall [x0, x1, x2, x3, x4, x5, x6, x7, x8] ds _ (IN1.out _ HB2.out).2 HSb.out).mono ?_
 rintro e w3 ⟨hb3, rr, S3, rfl, hO3⟩
 have hb3' : Below w1.heap.size w1 w3 := HB2.out.trans (hb3.mono HB2.out.size)
 have HB3 : Hid (Below w1.heap.size w1 w3) := hb3'
 have SA3 : Hid (AtL true w3 ss cs ∧ AtL true w3 rr ds) := ⟨SA2.out.on hb3 (Nat.le_refl _), hO3.at⟩
 refine hK.out _ _ (KS.out _ hb3') (fun hHeld => ?_)
 clear hb3 hb3' hO3
 clear hK K
 (try simp only [Act.put, List.setIfInBounds_toArray, List.set_cons_zero, List.set_cons_succ])
 refine wpAnyH_ready (rs := [4]) (by kernel_rfl) (by simp) ?_
 refine AllReadyH.cons (o := _) (by rw [List.getElem?_toArray]; exact rfl) (fun K hK => ?_) AllReadyH.nil
 rw [if_pos (by kernel_rfl)]
 go_simp
 refine (specC ss rr cs ds _ SA3.out.1 HSa.out SA3.out.2 HSb.out).mono ?_
 rintro e W4 ⟨rfl, hb4⟩
 rw [HBB.out]
 have hb4' : Below w1.heap.size w1 W4 := HB3.out.trans (hb4.mono HB3.out.size)
 have HB4 : Hid (Below w1.heap.size w1 W4) := hb4'
 refine hK.out _ _ (KS.out _ hb4') (fun hHeld => ?_)
 clear hb4
 clear hK K
 (try simp only [Act.put, List.setIfInBounds_toArray, List.set_cons_zero, List.set_cons_succ])
 refine wpAnyH_ready (rs := [5]) (by kernel_rfl) (by simp) ?_
 refine AllReadyH.cons (o := _) (by rw [List.getElem?_toArray]; exact rfl) (fun K hK => ?_) AllReadyH.nil
 rw [if_pos (by kernel_rfl)]
 go_simp
 refine hK.out _ _ (KS.out _ hb4') (fun hHeld => ?_)
 clear hb4'
 clear hK K
 (try simp only [Act.put, List.setIfInBounds_toArray, List.set_cons_zero, List.set_cons_succ])
 refine wpAnyH_done (by kernel_rfl) ?_ _
 have HA4 : Hid (Below W.heap.size W W4) := HB1.out.trans (HB4.out.mono HB1.out.size)
 clear K0 KS SA2 SA3 HB2 HB3 HB4 IN1 IN1d
 obtain ⟨y0, y1, y2, y3, y4, y5, y6, y7, y8⟩ := Ca.out _ HA4.out
 go_wp2_with fail
 refine (dToCall [v0, v1, v2, v3, v4, v5, v6, v7, v8] cs _ (INa.out _ (UP.out _ HA4.out)) HSa.out).mono ?_
 rintro e w5 ⟨hb5, uu, S5, rfl, hO5⟩
 obtain ⟨j0, j1, j2, j3, j4, j5, j6, j7, b8, m8, k8, rfl, _⟩ := call_of hO5.at HSa.out
 obtain ⟨q5, hq5⟩ : ∃ q5, w5.heap.size = q5 := ⟨_, rfl⟩
 obtain ⟨W5, hW5⟩ : ∃ W5, w5.alloc (.cells #[(.int .i64 j0), (.int .i64 j1), (.int .i64 j2), (.int .i64 j3), (.int .i64 j4), (.int .i64 j5), (.int .i64 j6), (.int .i64 j7), (.slice b8 m8 k8)] 34) = W5 := ⟨_, rfl⟩
 have hx5 : Below w5.heap.size w5 W5 := by rw [← hW5]; exact (Below.refl _ _).alloc (Nat.le_refl _) _
 have X5 : Hid (Box W5 q5 #[(.int .i64 j0), (.int .i64 j1), (.int .i64 j2), (.int .i64 j3), (.int .i64 j4), (.int .i64 j5), (.int .i64 j6), (.int .i64 j7), (.slice b8 m8 k8)] 34) := by rw [← hW5, ← hq5]; exact box_of w5 _ _
 have UA5 : Hid (AtL true W5 [(.int .i64 j0), (.int .i64 j1), (.int .i64 j2), (.int .i64 j3), (.int .i64 j4), (.int .i64 j5), (.int .i64 j6), (.int .i64 j7), (.slice b8 m8 k8)] cs) := hO5.at.on hx5 (Nat.le_refl _)
 have HB45 : Hid (Below W4.heap.size W4 W5) := hb5.trans (hx5.mono hb5.size)
 have HA5 : Hid (Below W.heap.size W W5) := HA4.out.trans (HB45.out.mono HA4.out.size)
 have HW5 : Hid (w5.alloc (.cells #[(.int .i64 j0), (.int .i64 j1), (.int .i64 j2), (.int .i64 j3), (.int .i64 j4), (.int .i64 j5), (.int .i64 j6), (.int .i64 j7), (.slice b8 m8 k8)] 34) = W5) := hW5
 have E5 : Hid (w5.heap.size = q5) := hq5
 clear hO5 hb5 hW5 hq5 hx5 y0 y1 y2 y3 y4 y5 y6 y7 y8
 go_upto_region 10 with (fail)
 rw [HW5.out]
 (try rw [E5.out])
 clear HW5 E5
 obtain ⟨y0, y1, y2, y3, y4, y5, y6, y7, y8⟩ := Cb.out _ HA5.out
 go_wp2_with fail
 refine (dToCall [x0, x1, x2, x3, x4, x5, x6, x7, x8] ds _ (INb.out _ (UP.out _ HA5.out)) HSb.out).mono ?_
 rintro e w6 ⟨hb6, zz, S6, rfl, hO6⟩
 obtain ⟨i0, i1, i2, i3, i4, i5, i6, i7, e8, p8, h8, rfl, _⟩ := call_of hO6.at HSb.out
 obtain ⟨q6, hq6⟩ : ∃ q6, w6.heap.size = q6 := ⟨_, rfl⟩
 obtain ⟨W6, hW6⟩ : ∃ W6, w6.alloc (.cells #[(.int .i64 i0), (.int .i64 i1), (.int .i64 i2), (.int .i64 i3), (.int .i64 i4), (.int .i64 i5), (.int .i64 i6), (.int .i64 i7), (.slice e8 p8 h8)] 34) = W6 := ⟨_, rfl⟩
 have hx6 : Below w6.heap.size w6 W6 := by rw [← hW6]; exact (Below.refl _ _).alloc (Nat.le_refl _) _
 have X6 : Hid (Box W6 q6 #[(.int .i64 i0), (.int .i64 i1), (.int .i64 i2), (.int .i64 i3), (.int .i64 i4), (.int .i64 i5), (.int .i64 i6), (.int .i64 i7), (.slice e8 p8 h8)] 34) := by rw [← hW6, ← hq6]; exact box_of w6 _ _
 have HB56 : Hid (Below W5.heap.size W5 W6) := hb6.trans (hx6.mono hb6.size)
 have HA6 : Hid (Below W.heap.size W W6) := HA5.out.trans (HB56.out.mono HA5.out.size)
 have UUa : Hid (∀ y, Below W6.heap.size W6 y → AtL true y [(.int .i64 j0), (.int .i64 j1), (.int .i64 j2), (.int .i64 j3), (.int .i64 j4), (.int .i64 j5), (.int .i64 j6), (.int .i64 j7), (.slice b8 m8 k8)] cs) := fun y hb => (UA5.out.on HB56.out (Nat.le_refl _)).on hb (Nat.le_refl _)
 have UUb : Hid (∀ y, Below W6.heap.size W6 y → AtL true y [(.int .i64 i0), (.int .i64 i1), (.int .i64 i2), (.int .i64 i3), (.int .i64 i4), (.int .i64 i5), (.int .i64 i6), (.int .i64 i7), (.slice e8 p8 h8)] ds) := fun y hb => (hO6.at.on hx6 (Nat.le_refl _)).on hb (Nat.le_refl _)
 have BXa : Hid (∀ y, Below W6.heap.size W6 y → Box y q5 #[(.int .i64 j0), (.int .i64 j1), (.int .i64 j2), (.int .i64 j3), (.int .i64 j4), (.int .i64 j5), (.int .i64 j6), (.int .i64 j7), (.slice b8 m8 k8)] 34) := fun y hb => (X5.out.below HB56.out X5.out.lt).below hb (X5.out.below HB56.out X5.out.lt).lt
 have BXb : Hid (∀ y, Below W6.heap.size W6 y → Box y q6 #[(.int .i64 i0), (.int .i64 i1), (.int .i64 i2), (.int .i64 i3), (.int .i64 i4), (.int .i64 i5), (.int .i64 i6), (.int .i64 i7), (.slice e8 p8 h8)] 34) := fun y hb => X6.out.below hb X6.out.lt
 have HW6 : Hid (w6.alloc (.cells #[(.int .i64 i0), (.int .i64 i1), (.int .i64 i2), (.int .i64 i3), (.int .i64 i4), (.int .i64 i5), (.int .i64 i6), (.int .i64 i7), (.slice e8 p8 h8)] 34) = W6) := hW6
 have E6 : Hid (w6.heap.size = q6) := hq6
 clear hO6 hb6 hW6 hq6 hx6 y0 y1 y2 y3 y4 y5 y6 y7 y8
 go_upto_region 11 with (fail)
 rw [HW6.out]
 (try rw [E6.out])
 clear HW6 E6
 obtain ⟨y0, y1, y2, y3, y4, y5, y6, y7, y8⟩ := nine_box (BXa.out _ (Below.refl _ _))
 obtain ⟨t0, t1, t2, t3, t4, t5, t6, t7, t8⟩ := nine_box (BXb.out _ (Below.refl _ _))
 go_wp2_with fail
 refine (implC [(.int .i64 j0), (.int .i64 j1), (.int .i64 j2), (.int .i64 j3), (.int .i64 j4), (.int .i64 j5), (.int .i64 j6), (.int .i64 j7), (.slice b8 m8 k8)] [(.int .i64 i0), (.int .i64 i1), (.int .i64 i2), (.int .i64 i3), (.int .i64 i4), (.int .i64 i5), (.int .i64 i6), (.int .i64 i7), (.slice e8 p8 h8)] cs ds _ (UUa.out _ (Below.refl _ _)) HSa.out (UUb.out _ (Below.refl _ _)) HSb.out).mono ?_
 rintro e w7 ⟨rfl, hb7⟩
 rw [HBB.out]
 have HB6a : Hid (Below W6.heap.size W6 w7) := hb7
 clear hb7 y0 y1 y2 y3 y4 y5 y6 y7 y8 t0 t1 t2 t3 t4 t5 t6 t7 t8
 have KSa : Hid (∀ y, Below w7.heap.size w7 y → (y.cell? ⟨q5, 0, none⟩ = some (.int .i64 j0) ∧ y.cell? ⟨q5, 1, none⟩ = some (.int .i64 j1) ∧ y.cell? ⟨q5, 2, none⟩ = some (.int .i64 j2) ∧ y.cell? ⟨q5, 3, none⟩ = some (.int .i64 j3) ∧ y.cell? ⟨q5, 4, none⟩ = some (.int .i64 j4) ∧ y.cell? ⟨q5, 5, none⟩ = some (.int .i64 j5) ∧ y.cell? ⟨q5, 6, none⟩ = some (.int .i64 j6) ∧ y.cell? ⟨q5, 7, none⟩ = some (.int .i64 j7) ∧ y.cell? ⟨q5, 8, none⟩ = some (.slice b8 m8 k8)) ∧ y.cell? ⟨sz, 0, none⟩ = some v0 ∧ y.cell? ⟨sz, 1, none⟩ = some v1 ∧ y.cell? ⟨sz, 2, none⟩ = some v2 ∧ y.cell? ⟨sz, 3, none⟩ = some v3 ∧ y.cell? ⟨sz, 4, none⟩ = some v4 ∧ y.cell? ⟨sz, 5, none⟩ = some v5 ∧ y.cell? ⟨sz, 6, none⟩ = some v6 ∧ y.cell? ⟨sz, 7, none⟩ = some v7 ∧ y.cell? ⟨sz, 8, none⟩ = some v8) := fun y hb => by
   have hb' : Below W6.heap.size W6 y := HB6a.out.trans (hb.mono HB6a.out.size)
   exact ⟨nine_box (BXa.out _ hb'), Ca.out y (HA6.out.trans (hb'.mono HA6.out.size))⟩
 have K0 : Hid ((w7.drew.cell? ⟨q5, 0, none⟩ = some (.int .i64 j0) ∧ w7.drew.cell? ⟨q5, 1, none⟩ = some (.int .i64 j1) ∧ w7.drew.cell? ⟨q5, 2, none⟩ = some (.int .i64 j2) ∧ w7.drew.cell? ⟨q5, 3, none⟩ = some (.int .i64 j3) ∧ w7.drew.cell? ⟨q5, 4, none⟩ = some (.int .i64 j4) ∧ w7.drew.cell? ⟨q5, 5, none⟩ = some (.int .i64 j5) ∧ w7.drew.cell? ⟨q5, 6, none⟩ = some (.int .i64 j6) ∧ w7.drew.cell? ⟨q5, 7, none⟩ = some (.int .i64 j7) ∧ w7.drew.cell? ⟨q5, 8, none⟩ = some (.slice b8 m8 k8)) ∧ w7.drew.cell? ⟨sz, 0, none⟩ = some v0 ∧ w7.drew.cell? ⟨sz, 1, none⟩ = some v1 ∧ w7.drew.cell? ⟨sz, 2, none⟩ = some v2 ∧ w7.drew.cell? ⟨sz, 3, none⟩ = some v3 ∧ w7.drew.cell? ⟨sz, 4, none⟩ = some v4 ∧ w7.drew.cell? ⟨sz, 5, none⟩ = some v5 ∧ w7.drew.cell? ⟨sz, 6, none⟩ = some v6 ∧ w7.drew.cell? ⟨sz, 7, none⟩ = some v7 ∧ w7.drew.cell? ⟨sz, 8, none⟩ = some v8) := KSa.out _ (Below.refl _ _).drew
 have INSa : Hid (AtL false w7.drew [v0, v1, v2, v3, v4, v5, v6, v7, v8] cs) := INa.out _ (UP.out _ (HA6.out.trans (HB6a.out.mono HA6.out.size))).drew
 have UAa : Hid (AtL false w7 [(.int .i64 j0), (.int .i64 j1), (.int .i64 j2), (.int .i64 j3), (.int .i64 j4), (.int .i64 j5), (.int .i64 j6), (.int .i64 j7), (.slice b8 m8 k8)] cs) := atLoose (UUa.out _ HB6a.out)
 go_upto_region 14 with (fail)
 go_region_held3 (fun w' => (w'.cell? ⟨q5, 0, none⟩ = some (.int .i64 j0) ∧ w'.cell? ⟨q5, 1, none⟩ = some (.int .i64 j1) ∧ w'.cell? ⟨q5, 2, none⟩ = some (.int .i64 j2) ∧ w'.cell? ⟨q5, 3, none⟩ = some (.int .i64 j3) ∧ w'.cell? ⟨q5, 4, none⟩ = some (.int .i64 j4) ∧ w'.cell? ⟨q5, 5, none⟩ = some (.int .i64 j5) ∧ w'.cell? ⟨q5, 6, none⟩ = some (.int .i64 j6) ∧ w'.cell? ⟨q5, 7, none⟩ = some (.int .i64 j7) ∧ w'.cell? ⟨q5, 8, none⟩ = some (.slice b8 m8 k8)) ∧ w'.cell? ⟨sz, 0, none⟩ = some v0 ∧ w'.cell? ⟨sz, 1, none⟩ = some v1 ∧ w'.cell? ⟨sz, 2, none⟩ = some v2 ∧ w'.cell? ⟨sz, 3, none⟩ = some v3 ∧ w'.cell? ⟨sz, 4, none⟩ = some v4 ∧ w'.cell? ⟨sz, 5, none⟩ = some v5 ∧ w'.cell? ⟨sz, 6, none⟩ = some v6 ∧ w'.cell? ⟨sz, 7, none⟩ = some v7 ∧ w'.cell? ⟨sz, 8, none⟩ = some v8)
   (first | (with_reducible exact K2.out) | (with_reducible exact K1.out) | (with_reducible exact K0.out) | go_keep)
   (first
   | (go_at_call 7
      refine (dToCall [v0, v1, v2, v3, v4, v5, v6, v7, v8] cs _ INSa.out HSa.out).mono ?_
      rintro e waa ⟨hb8, ts, S8, rfl, hO8⟩
      have hb8' : Below w7.heap.size w7 waa := (Below.refl w7.heap.size w7).drew.trans hb8
      have HB8 : Hid (Below w7.heap.size w7 waa) := hb8'
      have SA8 : Hid (AtL false waa ts cs) := ⟨hO8.1, fun j v c hv hc => (hO8.at.2 j v c hv hc).loose⟩
      have K1 : Hid ((waa.cell? ⟨q5, 0, none⟩ = some (.int .i64 j0) ∧ waa.cell? ⟨q5, 1, none⟩ = some (.int .i64 j1) ∧ waa.cell? ⟨q5, 2, none⟩ = some (.int .i64 j2) ∧ waa.cell? ⟨q5, 3, none⟩ = some (.int .i64 j3) ∧ waa.cell? ⟨q5, 4, none⟩ = some (.int .i64 j4) ∧ waa.cell? ⟨q5, 5, none⟩ = some (.int .i64 j5) ∧ waa.cell? ⟨q5, 6, none⟩ = some (.int .i64 j6) ∧ waa.cell? ⟨q5, 7, none⟩ = some (.int .i64 j7) ∧ waa.cell? ⟨q5, 8, none⟩ = some (.slice b8 m8 k8)) ∧ waa.cell? ⟨sz, 0, none⟩ = some v0 ∧ waa.cell? ⟨sz, 1, none⟩ = some v1 ∧ waa.cell? ⟨sz, 2, none⟩ = some v2 ∧ waa.cell? ⟨sz, 3, none⟩ = some v3 ∧ waa.cell? ⟨sz, 4, none⟩ = some v4 ∧ waa.cell? ⟨sz, 5, none⟩ = some v5 ∧ waa.cell? ⟨sz, 6, none⟩ = some v6 ∧ waa.cell? ⟨sz, 7, none⟩ = some v7 ∧ waa.cell? ⟨sz, 8, none⟩ = some v8) := KSa.out _ hb8'
      clear hb8 hb8' hO8)
   | (go_at_call 9
      refine (dEqCall [(.int .i64 j0), (.int .i64 j1), (.int .i64 j2), (.int .i64 j3), (.int .i64 j4), (.int .i64 j5), (.int .i64 j6), (.int .i64 j7), (.slice b8 m8 k8)] ts cs _ (UAa.out.on HB8.out (Nat.le_refl _)) SA8.out HSa.out).mono ?_
      rintro e wba ⟨rfl, hb9⟩
      have hb9' : Below w7.heap.size w7 wba := HB8.out.trans (hb9.mono HB8.out.size)
      have HB9a : Hid (Below w7.heap.size w7 wba) := hb9'
      have K2 : Hid ((wba.cell? ⟨q5, 0, none⟩ = some (.int .i64 j0) ∧ wba.cell? ⟨q5, 1, none⟩ = some (.int .i64 j1) ∧ wba.cell? ⟨q5, 2, none⟩ = some (.int .i64 j2) ∧ wba.cell? ⟨q5, 3, none⟩ = some (.int .i64 j3) ∧ wba.cell? ⟨q5, 4, none⟩ = some (.int .i64 j4) ∧ wba.cell? ⟨q5, 5, none⟩ = some (.int .i64 j5) ∧ wba.cell? ⟨q5, 6, none⟩ = some (.int .i64 j6) ∧ wba.cell? ⟨q5, 7, none⟩ = some (.int .i64 j7) ∧ wba.cell? ⟨q5, 8, none⟩ = some (.slice b8 m8 k8)) ∧ wba.cell? ⟨sz, 0, none⟩ = some v0 ∧ wba.cell? ⟨sz, 1, none⟩ = some v1 ∧ wba.cell? ⟨sz, 2, none⟩ = some v2 ∧ wba.cell? ⟨sz, 3, none⟩ = some v3 ∧ wba.cell? ⟨sz, 4, none⟩ = some v4 ∧ wba.cell? ⟨sz, 5, none⟩ = some v5 ∧ wba.cell? ⟨sz, 6, none⟩ = some v6 ∧ wba.cell? ⟨sz, 7, none⟩ = some v7 ∧ wba.cell? ⟨sz, 8, none⟩ = some v8) := KSa.out _ hb9'
      clear hb9 hb9'))
 clear K0 K1 K2 KSa SA8 HB8
 have HB6b : Hid (Below W6.heap.size W6 wba) := HB6a.out.trans (HB9a.out.mono HB6a.out.size)
 clear HB9a
 have KSb : Hid (∀ y, Below wba.heap.size wba y → (y.cell? ⟨q6, 0, none⟩ = some (.int .i64 i0) ∧ y.cell? ⟨q6, 1, none⟩ = some (.int .i64 i1) ∧ y.cell? ⟨q6, 2, none⟩ = some (.int .i64 i2) ∧ y.cell? ⟨q6, 3, none⟩ = some (.int .i64 i3) ∧ y.cell? ⟨q6, 4, none⟩ = some (.int .i64 i4) ∧ y.cell? ⟨q6, 5, none⟩ = some (.int .i64 i5) ∧ y.cell? ⟨q6, 6, none⟩ = some (.int .i64 i6) ∧ y.cell? ⟨q6, 7, none⟩ = some (.int .i64 i7) ∧ y.cell? ⟨q6, 8, none⟩ = some (.slice e8 p8 h8)) ∧ y.cell? ⟨sy, 0, none⟩ = some x0 ∧ y.cell? ⟨sy, 1, none⟩ = some x1 ∧ y.cell? ⟨sy, 2, none⟩ = some x2 ∧ y.cell? ⟨sy, 3, none⟩ = some x3 ∧ y.cell? ⟨sy, 4, none⟩ = some x4 ∧ y.cell? ⟨sy, 5, none⟩ = some x5 ∧ y.cell? ⟨sy, 6, none⟩ = some x6 ∧ y.cell? ⟨sy, 7, none⟩ = some x7 ∧ y.cell? ⟨sy, 8, none⟩ = some x8) := fun y hb => by
   have hb' : Below W6.heap.size W6 y := HB6b.out.trans (hb.mono HB6b.out.size)
   exact ⟨nine_box (BXb.out _ hb'), Cb.out y (HA6.out.trans (hb'.mono HA6.out.size))⟩
 have K0 : Hid ((wba.drew.cell? ⟨q6, 0, none⟩ = some (.int .i64 i0) ∧ wba.drew.cell? ⟨q6, 1, none⟩ = some (.int .i64 i1) ∧ wba.drew.cell? ⟨q6, 2, none⟩ = some (.int .i64 i2) ∧ wba.drew.cell? ⟨q6, 3, none⟩ = some (.int .i64 i3) ∧ wba.drew.cell? ⟨q6, 4, none⟩ = some (.int .i64 i4) ∧ wba.drew.cell? ⟨q6, 5, none⟩ = some (.int .i64 i5) ∧ wba.drew.cell? ⟨q6, 6, none⟩ = some (.int .i64 i6) ∧ wba.drew.cell? ⟨q6, 7, none⟩ = some (.int .i64 i7) ∧ wba.drew.cell? ⟨q6, 8, none⟩ = some (.slice e8 p8 h8)) ∧ wba.drew.cell? ⟨sy, 0, none⟩ = some x0 ∧ wba.drew.cell? ⟨sy, 1, none⟩ = some x1 ∧ wba.drew.cell? ⟨sy, 2, none⟩ = some x2 ∧ wba.drew.cell? ⟨sy, 3, none⟩ = some x3 ∧ wba.drew.cell? ⟨sy, 4, none⟩ = some x4 ∧ wba.drew.cell? ⟨sy, 5, none⟩ = some x5 ∧ wba.drew.cell? ⟨sy, 6, none⟩ = some x6 ∧ wba.drew.cell? ⟨sy, 7, none⟩ = some x7 ∧ wba.drew.cell? ⟨sy, 8, none⟩ = some x8) := KSb.out _ (Below.refl _ _).drew
 have INSb : Hid (AtL false wba.drew [x0, x1, x2, x3, x4, x5, x6, x7, x8] ds) := INb.out _ (UP.out _ (HA6.out.trans (HB6b.out.mono HA6.out.size))).drew
 have UAb : Hid (AtL false wba [(.int .i64 i0), (.int .i64 i1), (.int .i64 i2), (.int .i64 i3), (.int .i64 i4), (.int .i64 i5), (.int .i64 i6), (.int .i64 i7), (.slice e8 p8 h8)] ds) := atLoose (UUb.out _ HB6b.out)
 go_upto_region 16 with (fail)
 go_region_held3 (fun w' => (w'.cell? ⟨q6, 0, none⟩ = some (.int .i64 i0) ∧ w'.cell? ⟨q6, 1, none⟩ = some (.int .i64 i1) ∧ w'.cell? ⟨q6, 2, none⟩ = some (.int .i64 i2) ∧ w'.cell? ⟨q6, 3, none⟩ = some (.int .i64 i3) ∧ w'.cell? ⟨q6, 4, none⟩ = some (.int .i64 i4) ∧ w'.cell? ⟨q6, 5, none⟩ = some (.int .i64 i5) ∧ w'.cell? ⟨q6, 6, none⟩ = some (.int .i64 i6) ∧ w'.cell? ⟨q6, 7, none⟩ = some (.int .i64 i7) ∧ w'.cell? ⟨q6, 8, none⟩ = some (.slice e8 p8 h8)) ∧ w'.cell? ⟨sy, 0, none⟩ = some x0 ∧ w'.cell? ⟨sy, 1, none⟩ = some x1 ∧ w'.cell? ⟨sy, 2, none⟩ = some x2 ∧ w'.cell? ⟨sy, 3, none⟩ = some x3 ∧ w'.cell? ⟨sy, 4, none⟩ = some x4 ∧ w'.cell? ⟨sy, 5, none⟩ = some x5 ∧ w'.cell? ⟨sy, 6, none⟩ = some x6 ∧ w'.cell? ⟨sy, 7, none⟩ = some x7 ∧ w'.cell? ⟨sy, 8, none⟩ = some x8)
   (first | (with_reducible exact K2.out) | (with_reducible exact K1.out) | (with_reducible exact K0.out) | go_keep)
   (first
   | (go_at_call 7
      refine (dToCall [x0, x1, x2, x3, x4, x5, x6, x7, x8] ds _ INSb.out HSb.out).mono ?_
      rintro e wab ⟨hb8, ts, S8, rfl, hO8⟩
      have hb8' : Below wba.heap.size wba wab := (Below.refl wba.heap.size wba).drew.trans hb8
      have HB8 : Hid (Below wba.heap.size wba wab) := hb8'
      have SA8 : Hid (AtL false wab ts ds) := ⟨hO8.1, fun j v c hv hc => (hO8.at.2 j v c hv hc).loose⟩
      have K1 : Hid ((wab.cell? ⟨q6, 0, none⟩ = some (.int .i64 i0) ∧ wab.cell? ⟨q6, 1, none⟩ = some (.int .i64 i1) ∧ wab.cell? ⟨q6, 2, none⟩ = some (.int .i64 i2) ∧ wab.cell? ⟨q6, 3, none⟩ = some (.int .i64 i3) ∧ wab.cell? ⟨q6, 4, none⟩ = some (.int .i64 i4) ∧ wab.cell? ⟨q6, 5, none⟩ = some (.int .i64 i5) ∧ wab.cell? ⟨q6, 6, none⟩ = some (.int .i64 i6) ∧ wab.cell? ⟨q6, 7, none⟩ = some (.int .i64 i7) ∧ wab.cell? ⟨q6, 8, none⟩ = some (.slice e8 p8 h8)) ∧ wab.cell? ⟨sy, 0, none⟩ = some x0 ∧ wab.cell? ⟨sy, 1, none⟩ = some x1 ∧ wab.cell? ⟨sy, 2, none⟩ = some x2 ∧ wab.cell? ⟨sy, 3, none⟩ = some x3 ∧ wab.cell? ⟨sy, 4, none⟩ = some x4 ∧ wab.cell? ⟨sy, 5, none⟩ = some x5 ∧ wab.cell? ⟨sy, 6, none⟩ = some x6 ∧ wab.cell? ⟨sy, 7, none⟩ = some x7 ∧ wab.cell? ⟨sy, 8, none⟩ = some x8) := KSb.out _ hb8'
      clear hb8 hb8' hO8)
   | (go_at_call 9
      refine (dEqCall [(.int .i64 i0), (.int .i64 i1), (.int .i64 i2), (.int .i64 i3), (.int .i64 i4), (.int .i64 i5), (.int .i64 i6), (.int .i64 i7), (.slice e8 p8 h8)] ts ds _ (UAb.out.on HB8.out (Nat.le_refl _)) SA8.out HSb.out).mono ?_
      rintro e wbb ⟨rfl, hb9⟩
      have hb9' : Below wba.heap.size wba wbb := HB8.out.trans (hb9.mono HB8.out.size)
      have HB9b : Hid (Below wba.heap.size wba wbb) := hb9'
      have K2 : Hid ((wbb.cell? ⟨q6, 0, none⟩ = some (.int .i64 i0) ∧ wbb.cell? ⟨q6, 1, none⟩ = some (.int .i64 i1) ∧ wbb.cell? ⟨q6, 2, none⟩ = some (.int .i64 i2) ∧ wbb.cell? ⟨q6, 3, none⟩ = some (.int .i64 i3) ∧ wbb.cell? ⟨q6, 4, none⟩ = some (.int .i64 i4) ∧ wbb.cell? ⟨q6, 5, none⟩ = some (.int .i64 i5) ∧ wbb.cell? ⟨q6, 6, none⟩ = some (.int .i64 i6) ∧ wbb.cell? ⟨q6, 7, none⟩ = some (.int .i64 i7) ∧ wbb.cell? ⟨q6, 8, none⟩ = some (.slice e8 p8 h8)) ∧ wbb.cell? ⟨sy, 0, none⟩ = some x0 ∧ wbb.cell? ⟨sy, 1, none⟩ = some x1 ∧ wbb.cell? ⟨sy, 2, none⟩ = some x2 ∧ wbb.cell? ⟨sy, 3, none⟩ = some x3 ∧ wbb.cell? ⟨sy, 4, none⟩ = some x4 ∧ wbb.cell? ⟨sy, 5, none⟩ = some x5 ∧ wbb.cell? ⟨sy, 6, none⟩ = some x6 ∧ wbb.cell? ⟨sy, 7, none⟩ = some x7 ∧ wbb.cell? ⟨sy, 8, none⟩ = some x8) := KSb.out _ hb9'
      clear hb9 hb9'))
 clear K0 K1 K2 KSb SA8 HB8
 have hall : Below sz w wbb := UP.out _ (HA6.out.trans ((HB6b.out.trans (HB9b.out.mono HB6b.out.size)).mono HA6.out.size))
 go_wp2
 go_ret
 exact ⟨rfl, by rw [HSZ.out]; exact hall⟩
end fnExactAhead
end Go.Proofs.Ytecheopkfhfgkaa
namespace Go.Proofs.Ytecheopkfhfgkaa
section
open Go.ChangeShapes Go.WideShapes Go.ChangeAt Go.RowKit Go.Joins
set_option linter.unusedSimpArgs false
theorem flatOp : Flat Try.prog 23 tyOp := by
 refine Flat.st 23 _ [[.i], [.i], [.i]] Try.underlying23 rfl (by kernel_rfl) ?_ ?_
 · intro i f g hf hg
   have hi : i < 3 := by have := (List.getElem?_eq_some_iff.1 hg).1; simpa using this
   rcases (show i = 0 ∨ i = 1 ∨ i = 2 by omega) with rfl | rfl | rfl <;> (simp at hf hg; subst hf hg)
   · exact ⟨rfl, by kernel_rfl⟩
   · exact ⟨rfl, by kernel_rfl⟩
   · exact ⟨rfl, by kernel_rfl⟩
 · intro i f g hf hg
   have hi : i < 3 := by have := (List.getElem?_eq_some_iff.1 hg).1; simpa using this
   rcases (show i = 0 ∨ i = 1 ∨ i = 2 by omega) with rfl | rfl | rfl <;> (simp at hf hg; subst hf hg)
   · exact Flat.i _ Try.underlying3
   · exact Flat.i _ Try.underlying3
   · exact Flat.i _ Try.underlying3
theorem flatRes : Flat Try.prog 26 tyRes := by
 refine Flat.st 26 _ [[.i], [.l 3 1 [.i]]] Try.underlying26 rfl (by kernel_rfl) ?_ ?_
 · intro i f g hf hg
   have hi : i < 2 := by have := (List.getElem?_eq_some_iff.1 hg).1; simpa using this
   rcases (show i = 0 ∨ i = 1 by omega) with rfl | rfl <;> (simp at hf hg; subst hf hg)
   · exact ⟨rfl, by kernel_rfl⟩
   · exact ⟨rfl, by kernel_rfl⟩
 · intro i f g hf hg
   have hi : i < 2 := by have := (List.getElem?_eq_some_iff.1 hg).1; simpa using this
   rcases (show i = 0 ∨ i = 1 by omega) with rfl | rfl <;> (simp at hf hg; subst hf hg)
   · exact Flat.i _ Try.underlying3
   · exact Flat.l _ _ 3 1 _ Try.underlying24 rfl (by decide) (by kernel_rfl) (Flat.i _ Try.underlying3)
theorem flatCall : Flat Try.prog 28 tyCall := by
 refine Flat.st 28 _ [[.i], tyOp, [.i], [.i], [.i], tyRes] Try.underlying28 rfl (by kernel_rfl) ?_ ?_
 · intro i f g hf hg
   have hi : i < 6 := by have := (List.getElem?_eq_some_iff.1 hg).1; simpa using this
   rcases (show i = 0 ∨ i = 1 ∨ i = 2 ∨ i = 3 ∨ i = 4 ∨ i = 5 by omega) with rfl | rfl | rfl | rfl | rfl | rfl <;> (simp at hf hg; subst hf hg)
   · exact ⟨rfl, by kernel_rfl⟩
   · exact ⟨rfl, by kernel_rfl⟩
   · exact ⟨rfl, by kernel_rfl⟩
   · exact ⟨rfl, by kernel_rfl⟩
   · exact ⟨rfl, by kernel_rfl⟩
   · exact ⟨rfl, by kernel_rfl⟩
 · intro i f g hf hg
   have hi : i < 6 := by have := (List.getElem?_eq_some_iff.1 hg).1; simpa using this
   rcases (show i = 0 ∨ i = 1 ∨ i = 2 ∨ i = 3 ∨ i = 4 ∨ i = 5 by omega) with rfl | rfl | rfl | rfl | rfl | rfl <;> (simp at hf hg; subst hf hg)
   · exact Flat.i _ Try.underlying3
   · exact flatOp
   · exact Flat.i _ Try.underlying3
   · exact Flat.i _ Try.underlying3
   · exact Flat.i _ Try.underlying3
   · exact flatRes
end
end Go.Proofs.Ytecheopkfhfgkaa
