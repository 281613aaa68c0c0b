/- Texts joined: DatU. -/
import Derived.Test.YtecheopkfhfgkaaTO08
import Derived.Deep.RegionHeld3
import Derived.Deep.Cut
import Derived.Handy
set_option maxHeartbeats 2000000
set_option maxRecDepth 100000
namespace Go.Proofs.Ytecheopkfhfgkaa
section
open Go.ChangeShapes Go.WideShapes Go.ChangeAt Go.RowKit Go.Joins
theorem dInfoThread : (Try.prog.info? 103).map (fun i => (i.zero, i.size)) = some (some (.agg #[.slice none 0 0, .int .i64 0, .bool false, .slice none 0 0, .slice none 0 0]), 5) := by kernel_rfl
theorem dBytesThread : (Try.prog.info? 103).map (fun i => decide (i.bytes ≤ 1024)) = some true := by kernel_rfl
theorem dToThread (vs : List Value) (cs : List Cel) (w : World) (h : AtL false w vs cs) (hs : HasL cs tyThread) : Calls Try.prog 52 #[.agg vs.toArray] w (RetL w cs) := by
 obtain ⟨c0, c1, c2, c3, c4, rfl, T0, T1, T2, T3, T4⟩ := hs.c5
 obtain ⟨v0, v1, v2, v3, v4, rfl, A0, A1, A2, A3, A4⟩ := h.c5
 have hA0' : Hid (At false w v0 c0) := A0
 obtain ⟨x1, rfl⟩ := T1.int
 obtain rfl := A1.int
 obtain ⟨x2, rfl⟩ := T2.bool
 obtain rfl := A2.bool
 have hA3' : Hid (At false w v3 c3) := A3
 have hA4' : Hid (At false w v4 c4) := A4
 obtain ⟨n0, cs0, rfl, -⟩ := T0.list
 have HT0 : Hid (Has (.l 31 3 n0 cs0) (.l 31 3 tyOp)) := T0
 obtain ⟨n3, cs3, rfl, -⟩ := T3.list
 have HT3 : Hid (Has (.l 138 2 n3 cs3) (.l 138 2 tyPair)) := T3
 obtain ⟨n4, cs4, rfl, -⟩ := T4.list
 have HT4 : Hid (Has (.l 140 4 n4 cs4) (.l 140 4 tyHelp)) := T4
 clear hs h T0 A0 T3 A3 T4 A4
 go_enter Try.func52, Try.ntmps52
 go_wp2_with fail
 have t0 := mk_new w #[v0, .int .i64 x1, .bool x2, v3, v4] #[.slice none 0 0, .int .i64 0, .bool false, .slice none 0 0, .slice none 0 0] #[.slice none 0 0, .int .i64 0, .bool false, .slice none 0 0, .slice none 0 0] 95 103
 have m1 := t0
 refine (dToOpS v0 n0 cs0 _ (hA0'.out.on m1.b (Nat.le_refl _)) HT0.out).mono ?_
 rintro e w1 ⟨hb, u0, S0, rfl, ho⟩
 obtain ⟨q0, d0, rfl, -⟩ := ho.slice
 have m1' := m1.call1 hb ho
 have t1 : Hid (Mk w w1 #[v0, .int .i64 x1, .bool x2, v3, v4] #[.slice none 0 0, .int .i64 0, .bool false, .slice none 0 0, .slice none 0 0] #[.slice none 0 0, .int .i64 0, .bool false, .slice none 0 0, .slice none 0 0] 95 103 _) := m1'
 have ax1_0 := t1.out.a.at 0 (v0) rfl
 have cx1_0 := t1.out.c.at 0 (.slice none 0 0) rfl
 have fx1_0 := t1.out.c.frozen 0
 have ax1_1 := t1.out.a.at 1 (.int .i64 x1) rfl
 have cx1_1 := t1.out.c.at 1 (.int .i64 0) rfl
 have fx1_1 := t1.out.c.frozen 1
 have ax1_2 := t1.out.a.at 2 (.bool x2) rfl
 have cx1_2 := t1.out.c.at 2 (.bool false) rfl
 have fx1_2 := t1.out.c.frozen 2
 have ax1_3 := t1.out.a.at 3 (v3) rfl
 have cx1_3 := t1.out.c.at 3 (.slice none 0 0) rfl
 have fx1_3 := t1.out.c.frozen 3
 have ax1_4 := t1.out.a.at 4 (v4) rfl
 have cx1_4 := t1.out.c.at 4 (.slice none 0 0) rfl
 have fx1_4 := t1.out.c.frozen 4
 have zx1_0 := t1.out.z.at 0 (.slice none 0 0) rfl
 have gx1_0 := t1.out.z.frozen 0
 have zx1_1 := t1.out.z.at 1 (.int .i64 0) rfl
 have gx1_1 := t1.out.z.frozen 1
 have zx1_2 := t1.out.z.at 2 (.bool false) rfl
 have gx1_2 := t1.out.z.frozen 2
 have zx1_3 := t1.out.z.at 3 (.slice none 0 0) rfl
 have gx1_3 := t1.out.z.frozen 3
 have zx1_4 := t1.out.z.at 4 (.slice none 0 0) rfl
 have gx1_4 := t1.out.z.frozen 4
 clear m1 m1' hb ho t0
 go_wp2_with fail
 have t1' := (t1.out.store 0 (.slice q0 n0 d0))
 have t1 : Hid (Mk w _ _ _ _ 95 103 _) := t1'
 clear t1'
 have m2 := ((((t1.out.store 1 (.int .i64 x1)).store 2 (.bool x2)).num (v := .int .i64 x1) (c := .i x1) (fun _ => .i x1 _ (fun _ h => h))).num (v := .bool x2) (c := .b x2) (fun _ => .b x2 _ (fun _ h => h)))
 refine (dToPairS v3 n3 cs3 _ (hA3'.out.on m2.b (Nat.le_refl _)) HT3.out).mono ?_
 rintro e w2 ⟨hb, u3, S3, rfl, ho⟩
 obtain ⟨q3, d3, rfl, -⟩ := ho.slice
 have m2' := m2.call1 hb ho
 have t2 : Hid (Mk w w2 #[v0, .int .i64 x1, .bool x2, v3, v4] #[.slice none 0 0, .int .i64 0, .bool false, .slice none 0 0, .slice none 0 0] #[(.slice q0 n0 d0), .int .i64 x1, .bool x2, .slice none 0 0, .slice none 0 0] 95 103 _) := m2'
 have ax2_0 := t2.out.a.at 0 (v0) rfl
 have cx2_0 := t2.out.c.at 0 ((.slice q0 n0 d0)) rfl
 have fx2_0 := t2.out.c.frozen 0
 have ax2_1 := t2.out.a.at 1 (.int .i64 x1) rfl
 have cx2_1 := t2.out.c.at 1 (.int .i64 x1) rfl
 have fx2_1 := t2.out.c.frozen 1
 have ax2_2 := t2.out.a.at 2 (.bool x2) rfl
 have cx2_2 := t2.out.c.at 2 (.bool x2) rfl
 have fx2_2 := t2.out.c.frozen 2
 have ax2_3 := t2.out.a.at 3 (v3) rfl
 have cx2_3 := t2.out.c.at 3 (.slice none 0 0) rfl
 have fx2_3 := t2.out.c.frozen 3
 have ax2_4 := t2.out.a.at 4 (v4) rfl
 have cx2_4 := t2.out.c.at 4 (.slice none 0 0) rfl
 have fx2_4 := t2.out.c.frozen 4
 have zx2_0 := t2.out.z.at 0 (.slice none 0 0) rfl
 have gx2_0 := t2.out.z.frozen 0
 have zx2_1 := t2.out.z.at 1 (.int .i64 0) rfl
 have gx2_1 := t2.out.z.frozen 1
 have zx2_2 := t2.out.z.at 2 (.bool false) rfl
 have gx2_2 := t2.out.z.frozen 2
 have zx2_3 := t2.out.z.at 3 (.slice none 0 0) rfl
 have gx2_3 := t2.out.z.frozen 3
 have zx2_4 := t2.out.z.at 4 (.slice none 0 0) rfl
 have gx2_4 := t2.out.z.frozen 4
 clear m2 m2' hb ho ax1_0 cx1_0 fx1_0 zx1_0 gx1_0 ax1_1 cx1_1 fx1_1 zx1_1 gx1_1 ax1_2 cx1_2 fx1_2 zx1_2 gx1_2 ax1_3 cx1_3 fx1_3 zx1_3 gx1_3 ax1_4 cx1_4 fx1_4 zx1_4 gx1_4
 go_wp2_with fail
 have t2' := (t2.out.store 3 (.slice q3 n3 d3))
 have t2 : Hid (Mk w _ _ _ _ 95 103 _) := t2'
 clear t2'
 have m3 := t2.out
 refine (dToHelpS v4 n4 cs4 _ (hA4'.out.on m3.b (Nat.le_refl _)) HT4.out).mono ?_
 rintro e w3 ⟨hb, u4, S4, rfl, ho⟩
 obtain ⟨q4, d4, rfl, -⟩ := ho.slice
 have m3' := m3.call1 hb ho
 have t3 : Hid (Mk w w3 #[v0, .int .i64 x1, .bool x2, v3, v4] #[.slice none 0 0, .int .i64 0, .bool false, .slice none 0 0, .slice none 0 0] #[(.slice q0 n0 d0), .int .i64 x1, .bool x2, (.slice q3 n3 d3), .slice none 0 0] 95 103 _) := m3'
 have ax3_0 := t3.out.a.at 0 (v0) rfl
 have cx3_0 := t3.out.c.at 0 ((.slice q0 n0 d0)) rfl
 have fx3_0 := t3.out.c.frozen 0
 have ax3_1 := t3.out.a.at 1 (.int .i64 x1) rfl
 have cx3_1 := t3.out.c.at 1 (.int .i64 x1) rfl
 have fx3_1 := t3.out.c.frozen 1
 have ax3_2 := t3.out.a.at 2 (.bool x2) rfl
 have cx3_2 := t3.out.c.at 2 (.bool x2) rfl
 have fx3_2 := t3.out.c.frozen 2
 have ax3_3 := t3.out.a.at 3 (v3) rfl
 have cx3_3 := t3.out.c.at 3 ((.slice q3 n3 d3)) rfl
 have fx3_3 := t3.out.c.frozen 3
 have ax3_4 := t3.out.a.at 4 (v4) rfl
 have cx3_4 := t3.out.c.at 4 (.slice none 0 0) rfl
 have fx3_4 := t3.out.c.frozen 4
 have zx3_0 := t3.out.z.at 0 (.slice none 0 0) rfl
 have gx3_0 := t3.out.z.frozen 0
 have zx3_1 := t3.out.z.at 1 (.int .i64 0) rfl
 have gx3_1 := t3.out.z.frozen 1
 have zx3_2 := t3.out.z.at 2 (.bool false) rfl
 have gx3_2 := t3.out.z.frozen 2
 have zx3_3 := t3.out.z.at 3 (.slice none 0 0) rfl
 have gx3_3 := t3.out.z.frozen 3
 have zx3_4 := t3.out.z.at 4 (.slice none 0 0) rfl
 have gx3_4 := t3.out.z.frozen 4
 clear m3 m3' hb ho ax2_0 cx2_0 fx2_0 zx2_0 gx2_0 ax2_1 cx2_1 fx2_1 zx2_1 gx2_1 ax2_2 cx2_2 fx2_2 zx2_2 gx2_2 ax2_3 cx2_3 fx2_3 zx2_3 gx2_3 ax2_4 cx2_4 fx2_4 zx2_4 gx2_4
 go_wp2
 (try simp only [Exit.inBlock, Exit.then])
 refine bodyPost_ret (by simp [results, Try.results52, go_sem, zx3_0, zx3_1, zx3_2, zx3_3, zx3_4]; try rfl) rfl ?_
 have m := ((((((t3.out.store 4 ((.slice q4 n4 d4))).storeZ 0 ((.slice q0 n0 d0))).storeZ 1 (.int .i64 x1)).storeZ 2 (.bool x2)).storeZ 3 ((.slice q3 n3 d3))).storeZ 4 ((.slice q4 n4 d4)))
 exact ⟨m.b, [(.slice q0 n0 d0), .int .i64 x1, .bool x2, (.slice q3 n3 d3), (.slice q4 n4 d4)], _, rfl, m.all⟩
theorem dToThreadS (v : Value) (n : Nat) (cs : List Cel) (w : World) (h : At false w v (.l 103 5 n cs)) (hs : Has (.l 103 5 n cs) (.l 103 5 tyThread)) :
   Calls Try.prog 32 #[v] w (Ret w (.l 103 5 n cs)) := by
 obtain ⟨a, c, vs, rfl, h1, h2, hn, -, h3, h4⟩ := h.openL
 have SRC : Hid (n = 0 ∨ ∃ b o, a = some ⟨b, o, none⟩ ∧ ∀ j, j < n * 5 → w.cell? ⟨b, o + j, none⟩ = vs[j]?) := h3
 have HV : Hid (∀ j, j < n → AtL false w ((vs.drop (j * 5)).take 5) (row cs 5 j)) := fun j hj => rowVals h1 h2 h4 hj
 have HR : Hid (∀ j, j < n → HasL (row cs 5 j) tyThread) := fun j hj => hs.rowL hj
 have L2 : Hid (cs.length = n * 5) := h2
 have L1 : Hid (vs.length = n * 5) := h1
 obtain ⟨i0, hi, hz⟩ := Option.map_eq_some_iff.1 dInfoThread
 obtain ⟨i1, hi', hb1⟩ := Option.map_eq_some_iff.1 dBytesThread
 obtain rfl : i0 = i1 := Option.some.inj (hi.symm.trans hi')
 have hz0 : i0.zero = some (.agg #[.slice none 0 0, .int .i64 0, .bool false, .slice none 0 0, .slice none 0 0]) := congrArg Prod.fst hz
 have hz1 : i0.size = 5 := congrArg Prod.snd hz
 have hz2 : i0.bytes ≤ 1024 := of_decide_eq_true hb1
 have hby : i0.bytes * n ≤ 1024 * 2097152 := Nat.mul_le_mul hz2 hn
 clear h h1 h2 h3 h4 hs hz hb1 hi'
 go_enter Try.func32, Try.ntmps32
 go_wp2_with (at_make; refine wpList_make_full _ rfl _ _ 54 rfl w.heap.size 103 i0 (.agg #[.slice none 0 0, .int .i64 0, .bool false, .slice none 0 0, .slice none 0 0]) 5 Try.underlying54 hi hz0 hz1 .i64 .i64 _ _ n rfl rfl rfl rfl (by first | omega | (rw [Nat.mul_comm]; omega)) (by unfold maxLen; omega) (Nat.le_refl _) ?_; intro w1 own1 grow1)
 obtain ⟨ps0, lp0, O0⟩ := own_made (zv := [.slice none 0 0, .int .i64 0, .bool false, .slice none 0 0, .slice none 0 0]) (zc := [.l 31 3 0 [], .i 0, .b false, .l 138 2 0 [], .l 140 4 0 []]) own1 hn rfl (fun j v hv => made_at hv (by decide)) (by
   intro i v c hv hc w'
   have hi : i < 5 := by have := (List.getElem?_eq_some_iff.1 hv).1; simpa using this
   rcases (show i = 0 ∨ i = 1 ∨ i = 2 ∨ i = 3 ∨ i = 4 by omega) with rfl | rfl | rfl | rfl | rfl <;> (simp at hv hc; subst hv hc)
   · exact .nil _ _ _ (fun _ h => h)
   · exact .i _ _ (fun _ h => h)
   · exact .b _ _ (fun _ h => h)
   · exact .nil _ _ _ (fun _ h => h)
   · exact .nil _ _ _ (fun _ h => h))
 have hb1 : Below w.heap.size w w1 := (Below.refl _ _).grown grow1 (Nat.le_refl _) (fun k e => by cases e)
 clear own1 grow1
 go_loopw [4] (fun i wr => ∃ j : Nat, j ≤ n ∧ i = .int .i64 (j : Int) ∧ (∃ ps S, ps.length = n * 5 ∧ ps.take (j * 5) = cs.take (j * 5) ∧ Own wr w.heap.size (.slice (some ⟨w.heap.size, 0, none⟩) n n) (.l 103 5 n ps) S) ∧ Below w.heap.size w wr) (fun i _ => n - (intOf i).toNat)
 case atStart => exact ⟨0, Nat.zero_le _, by simp, ⟨ps0, _, lp0, by simp, O0⟩, hb1⟩
 case round =>
   obtain ⟨j, hj, rfl, ⟨ps, S, lp, tp, ho⟩, hb⟩ := hrel
   clear O0 hb1 lp0
   by_cases hlt : j < n
   · rcases SRC.out with h0 | ⟨p1, o1, rfl, g1⟩
     · omega
     have hk0 : (0 : Int) ≤ (j : Int) := by omega
     have hk1 : (j : Int) < (n : Int) := by omega
     have hA := HV.out j hlt
     have hH := HR.out j hlt
     have hcv := rowAt hb hlt g1 L1.out
     obtain ⟨rs, hrs⟩ : ∃ rs, row cs 5 j = rs := ⟨_, rfl⟩
     obtain ⟨ws, hws⟩ : ∃ ws, (vs.drop (j * 5)).take 5 = ws := ⟨_, rfl⟩
     have HRS : Hid (row cs 5 j = rs) := hrs
     rw [hrs] at hA hH
     rw [hws] at hA hcv
     clear g1 hrs hws
     obtain ⟨c0, c1, c2, c3, c4, rfl, T0, T1, T2, T3, T4⟩ := hH.c5
     have HL0 : Hid (HasL [c0, c1, c2, c3, c4] tyThread) := hH
     obtain ⟨v0, vr0, rfl, A0, hA0⟩ := hA.consE
     obtain ⟨v1, vr1, rfl, A1, hA1⟩ := hA0.consE
     obtain ⟨v2, vr2, rfl, A2, hA2⟩ := hA1.consE
     obtain ⟨v3, vr3, rfl, A3, hA3⟩ := hA2.consE
     obtain ⟨v4, vr4, rfl, A4, hA4⟩ := hA3.consE
     obtain rfl := hA4.nilE
     have HA0 : Hid (AtL false w [v0, v1, v2, v3, v4] [c0, c1, c2, c3, c4]) := hA
     have e0 : wr.cell? ⟨p1, o1 + j * 5, none⟩ = some v0 := hcv 0 (by omega)
     have e1 : wr.cell? ⟨p1, o1 + j * 5 + 1, none⟩ = some v1 := hcv 1 (by omega)
     have e2 : wr.cell? ⟨p1, o1 + j * 5 + 2, none⟩ = some v2 := hcv 2 (by omega)
     have e3 : wr.cell? ⟨p1, o1 + j * 5 + 3, none⟩ = some v3 := hcv 3 (by omega)
     have e4 : wr.cell? ⟨p1, o1 + j * 5 + 4, none⟩ = some v4 := hcv 4 (by omega)
     clear hcv hA hH hA0 hA1 hA2 hA3 hA4
     have HO : Hid (Own wr w.heap.size (.slice (some ⟨w.heap.size, 0, none⟩) n n) (.l 103 5 n ps) S) := ho
     clear ho
     go_wp2_with fail
     refine (dToThread [v0, v1, v2, v3, v4] [c0, c1, c2, c3, c4] _ (HA0.out.on hb (Nat.le_refl _)) HL0.out).mono ?_
     rintro e w2 ⟨hb2, us, S', rfl, oL⟩
     have hU := oL.at
     obtain ⟨u0, u1, u2, u3, u4, rfl, U0, U1, U2, U3, U4⟩ := hU.c5
     have T0' := T0
     obtain ⟨n0, cs0, rfl, -⟩ := T0.list
     obtain ⟨x1, rfl⟩ := T1.int
     obtain ⟨x2, rfl⟩ := T2.bool
     have T3' := T3
     obtain ⟨n3, cs3, rfl, -⟩ := T3.list
     have T4' := T4
     obtain ⟨n4, cs4, rfl, -⟩ := T4.list
     obtain ⟨q0, m0, rfl⟩ := U0.slice
     obtain rfl := U1.int
     obtain rfl := U2.bool
     obtain ⟨q3, m3, rfl⟩ := U3.slice
     obtain ⟨q4, m4, rfl⟩ := U4.slice
     have O2 := HO.out.on hb2 (Nat.le_refl _)
     have hb02 : Below w.heap.size w w2 := hb.trans (hb2.mono hb.size)
     obtain ⟨pv0, -, hc0, hf0, -⟩ := O2.cell (j := j * 5) (List.getElem?_eq_getElem (by omega))
     obtain ⟨pv1, -, hc1, hf1, -⟩ := O2.cell (j := j * 5 + 1) (List.getElem?_eq_getElem (by omega))
     obtain ⟨pv2, -, hc2, hf2, -⟩ := O2.cell (j := j * 5 + 2) (List.getElem?_eq_getElem (by omega))
     obtain ⟨pv3, -, hc3, hf3, -⟩ := O2.cell (j := j * 5 + 3) (List.getElem?_eq_getElem (by omega))
     obtain ⟨pv4, -, hc4, hf4, -⟩ := O2.cell (j := j * 5 + 4) (List.getElem?_eq_getElem (by omega))
     have OL : Hid (OwnL w2 wr.heap.size [.slice q0 n0 m0, .int .i64 x1, .bool x2, .slice q3 n3 m3, .slice q4 n4 m4] [.l 31 3 n0 cs0, .i x1, .b x2, .l 138 2 n3 cs3, .l 140 4 n4 cs4] S') := oL
     have HO2 : Hid (Own w2 w.heap.size (.slice (some ⟨w.heap.size, 0, none⟩) n n) (.l 103 5 n ps) S) := O2
     have HRS' : Hid (row cs 5 j = [.l 31 3 n0 cs0, .i x1, .b x2, .l 138 2 n3 cs3, .l 140 4 n4 cs4]) := HRS.out
     clear oL O2 hb2 hU e0 e1 e2 e3 e4
     go_wp2
     go_roundw
     case rel =>
       have slt : ∀ x, S x → x < wr.heap.size := fun x hx => (HO.out.lt x hx).2
       obtain ⟨S'', o'', -⟩ := Own.storeL (p := j * 5) HO2.out (OL.out.weaken hb.size) (fun x hx hx' => by have h1 := (OL.out.lt x hx).1; have h2 := slt x hx'; omega) (by simp; omega)
       have hle : j * 5 + 5 ≤ n * 5 := by omega
       refine ⟨j + 1, by omega, by go_num, ⟨_, S'', ?_, ?_, o''⟩, stores_below (Nat.le_refl _) [.slice q0 n0 m0, .int .i64 x1, .bool x2, .slice q3 n3 m3, .slice q4 n4 m4] w2 (j * 5) hb02⟩
       · rw [over_len]; exact lp
       · have h3 := over_take [.l 31 3 n0 cs0, .i x1, .b x2, .l 138 2 n3 cs3, .l 140 4 n4 cs4] ps (j * 5) (by simp; omega)
         rw [row_split (cs := cs), HRS'.out, ← tp, show (j + 1) * 5 = j * 5 + ([.l 31 3 n0 cs0, .i x1, .b x2, .l 138 2 n3 cs3, .l 140 4 n4 cs4] : List Cel).length by simp; omega]
         exact h3
     case measure => simp [intOf]; omega
   · obtain rfl : j = n := by omega
     have e : ps = cs := by rwa [List.take_of_length_le (by omega), List.take_of_length_le (by have := L2.out; omega)] at tp
     subst e
     go_wp2
     go_ret
     exact ⟨hb, _, S, rfl, ho⟩
theorem dToRes (vs : List Value) (cs : List Cel) (w : World) (h : AtL false w vs cs) (hs : HasL cs tyRes) : Calls Try.prog 21 #[.agg vs.toArray] w (RetL w cs) := by
 obtain ⟨c0, c1, rfl, T0, T1⟩ := hs.c2
 obtain ⟨v0, v1, rfl, A0, A1⟩ := h.c2
 obtain ⟨x0, rfl⟩ := T0.int
 obtain rfl := A0.int
 have hA1' : Hid (At false w v1 c1) := A1
 obtain ⟨n1, cs1, rfl, -⟩ := T1.list
 have HT1 : Hid (Has (.l 3 1 n1 cs1) (.l 3 1 [.i])) := T1
 clear hs h T1 A1
 go_enter Try.func21, Try.ntmps21
 go_wp2_with fail
 have t0 := mk_new w #[.int .i64 x0, v1] #[.int .i64 0, .slice none 0 0] #[.int .i64 x0, .slice none 0 0] 26 32
 have m1 := (t0.num (v := .int .i64 x0) (c := .i x0) (fun _ => .i x0 _ (fun _ h => h)))
 refine (dToIntS v1 n1 cs1 _ (hA1'.out.on m1.b (Nat.le_refl _)) HT1.out).mono ?_
 rintro e w1 ⟨hb, u1, S1, rfl, ho⟩
 obtain ⟨q1, d1, rfl, -⟩ := ho.slice
 have m1' := m1.call1 hb ho
 have t1 : Hid (Mk w w1 #[.int .i64 x0, v1] #[.int .i64 0, .slice none 0 0] #[.int .i64 x0, .slice none 0 0] 26 32 _) := m1'
 have ax1_0 := t1.out.a.at 0 (.int .i64 x0) rfl
 have cx1_0 := t1.out.c.at 0 (.int .i64 x0) rfl
 have fx1_0 := t1.out.c.frozen 0
 have ax1_1 := t1.out.a.at 1 (v1) rfl
 have cx1_1 := t1.out.c.at 1 (.slice none 0 0) rfl
 have fx1_1 := t1.out.c.frozen 1
 have zx1_0 := t1.out.z.at 0 (.int .i64 0) rfl
 have gx1_0 := t1.out.z.frozen 0
 have zx1_1 := t1.out.z.at 1 (.slice none 0 0) rfl
 have gx1_1 := t1.out.z.frozen 1
 clear m1 m1' hb ho t0
 go_wp2
 (try simp only [Exit.inBlock, Exit.then])
 refine bodyPost_ret (by simp [results, Try.results21, go_sem, zx1_0, zx1_1]; try rfl) rfl ?_
 have m := (((t1.out.store 1 ((.slice q1 n1 d1))).storeZ 0 (.int .i64 x0)).storeZ 1 ((.slice q1 n1 d1)))
 exact ⟨m.b, [.int .i64 x0, (.slice q1 n1 d1)], _, rfl, m.all⟩
theorem dToRows (vs : List Value) (cs : List Cel) (w : World) (h : AtL false w vs cs) (hs : HasL cs tyRows) : Calls Try.prog 35 #[.agg vs.toArray] w (RetL w cs) := by
 obtain ⟨c0, c1, rfl, T0, T1⟩ := hs.c2
 obtain ⟨v0, v1, rfl, A0, A1⟩ := h.c2
 have hA0' : Hid (At false w v0 c0) := A0
 obtain ⟨x1, rfl⟩ := T1.int
 obtain rfl := A1.int
 obtain ⟨n0, cs0, rfl, -⟩ := T0.list
 have HT0 : Hid (Has (.l 3 1 n0 cs0) (.l 3 1 [.i])) := T0
 clear hs h T0 A0
 go_enter Try.func35, Try.ntmps35
 go_wp2_with fail
 have t0 := mk_new w #[v0, .int .i64 x1] #[.slice none 0 0, .int .i64 0] #[.slice none 0 0, .int .i64 0] 44 55
 have m1 := t0
 refine (dToIntS v0 n0 cs0 _ (hA0'.out.on m1.b (Nat.le_refl _)) HT0.out).mono ?_
 rintro e w1 ⟨hb, u0, S0, rfl, ho⟩
 obtain ⟨q0, d0, rfl, -⟩ := ho.slice
 have m1' := m1.call1 hb ho
 have t1 : Hid (Mk w w1 #[v0, .int .i64 x1] #[.slice none 0 0, .int .i64 0] #[.slice none 0 0, .int .i64 0] 44 55 _) := m1'
 have ax1_0 := t1.out.a.at 0 (v0) rfl
 have cx1_0 := t1.out.c.at 0 (.slice none 0 0) rfl
 have fx1_0 := t1.out.c.frozen 0
 have ax1_1 := t1.out.a.at 1 (.int .i64 x1) rfl
 have cx1_1 := t1.out.c.at 1 (.int .i64 0) rfl
 have fx1_1 := t1.out.c.frozen 1
 have zx1_0 := t1.out.z.at 0 (.slice none 0 0) rfl
 have gx1_0 := t1.out.z.frozen 0
 have zx1_1 := t1.out.z.at 1 (.int .i64 0) rfl
 have gx1_1 := t1.out.z.frozen 1
 clear m1 m1' hb ho t0
 go_wp2
 (try simp only [Exit.inBlock, Exit.then])
 refine bodyPost_ret (by simp [results, Try.results35, go_sem, zx1_0, zx1_1]; try rfl) rfl ?_
 have m := (((((t1.out.store 0 ((.slice q0 n0 d0))).store 1 (.int .i64 x1)).num (v := .int .i64 x1) (c := .i x1) (fun _ => .i x1 _ (fun _ h => h))).storeZ 0 ((.slice q0 n0 d0))).storeZ 1 (.int .i64 x1))
 exact ⟨m.b, [(.slice q0 n0 d0), .int .i64 x1], _, rfl, m.all⟩
theorem dInfoDesc : (Try.prog.info? 126).map (fun i => (i.zero, i.size)) = some (some (.agg #[.int .i64 0, .int .i64 0, .slice none 0 0, .int .i64 0, .slice none 0 0]), 5) := by kernel_rfl
theorem dBytesDesc : (Try.prog.info? 126).map (fun i => decide (i.bytes ≤ 1024)) = some true := by kernel_rfl
theorem dToDesc (vs : List Value) (cs : List Cel) (w : World) (h : AtL false w vs cs) (hs : HasL cs tyDesc) : Calls Try.prog 68 #[.agg vs.toArray] w (RetL w cs) := by
 obtain ⟨c0, c1, c2, c3, c4, rfl, T0, T1, T2, T3, T4⟩ := hs.c5
 obtain ⟨v0, v1, v2, v3, v4, rfl, A0, A1, A2, A3, A4⟩ := h.c5
 obtain ⟨x0, rfl⟩ := T0.int
 obtain rfl := A0.int
 obtain ⟨x1, rfl⟩ := T1.int
 obtain rfl := A1.int
 have hA2' : Hid (At false w v2 c2) := A2
 obtain ⟨x3, rfl⟩ := T3.int
 obtain rfl := A3.int
 have hA4' : Hid (At false w v4 c4) := A4
 obtain ⟨n2, cs2, rfl, -⟩ := T2.list
 have HT2 : Hid (Has (.l 151 3 n2 cs2) (.l 151 3 tyEntry)) := T2
 obtain ⟨n4, cs4, rfl, -⟩ := T4.list
 have HT4 : Hid (Has (.l 3 1 n4 cs4) (.l 3 1 [.i])) := T4
 have HN3 : Hid (AtL false w [.int .i64 x3, v4] [.i x3, .l 3 1 n4 cs4]) := AtL.cons (.i x3) (AtL.cons (hA4'.out) (AtL.nil))
 have HH3 : Hid (HasL [.i x3, .l 3 1 n4 cs4] tyRes) := ⟨rfl, fun j c t hc ht => by
   have hj : j < 2 := by have := (List.getElem?_eq_some_iff.1 hc).1; simpa using this
   rcases (show j = 0 ∨ j = 1 by omega) with rfl | rfl <;> (simp [tyRes] at hc ht; subst hc ht)
   · exact .i x3
   · exact HT4.out⟩
 clear hs h T2 A2 T4 A4
 go_enter Try.func68, Try.ntmps68
 go_wp2_with fail
 have t0 := mk_new w #[.int .i64 x0, .int .i64 x1, v2, .int .i64 x3, v4] #[.int .i64 0, .int .i64 0, .slice none 0 0, .int .i64 0, .slice none 0 0] #[.int .i64 x0, .int .i64 x1, .slice none 0 0, .int .i64 0, .slice none 0 0] 116 126
 have m1 := ((t0.num (v := .int .i64 x0) (c := .i x0) (fun _ => .i x0 _ (fun _ h => h))).num (v := .int .i64 x1) (c := .i x1) (fun _ => .i x1 _ (fun _ h => h)))
 refine (dToEntryS v2 n2 cs2 _ (hA2'.out.on m1.b (Nat.le_refl _)) HT2.out).mono ?_
 rintro e w1 ⟨hb, u2, S2, rfl, ho⟩
 obtain ⟨q2, d2, rfl, -⟩ := ho.slice
 have m1' := m1.call1 hb ho
 have t1 : Hid (Mk w w1 #[.int .i64 x0, .int .i64 x1, v2, .int .i64 x3, v4] #[.int .i64 0, .int .i64 0, .slice none 0 0, .int .i64 0, .slice none 0 0] #[.int .i64 x0, .int .i64 x1, .slice none 0 0, .int .i64 0, .slice none 0 0] 116 126 _) := m1'
 have ax1_0 := t1.out.a.at 0 (.int .i64 x0) rfl
 have cx1_0 := t1.out.c.at 0 (.int .i64 x0) rfl
 have fx1_0 := t1.out.c.frozen 0
 have ax1_1 := t1.out.a.at 1 (.int .i64 x1) rfl
 have cx1_1 := t1.out.c.at 1 (.int .i64 x1) rfl
 have fx1_1 := t1.out.c.frozen 1
 have ax1_2 := t1.out.a.at 2 (v2) rfl
 have cx1_2 := t1.out.c.at 2 (.slice none 0 0) rfl
 have fx1_2 := t1.out.c.frozen 2
 have ax1_3 := t1.out.a.at 3 (.int .i64 x3) rfl
 have cx1_3 := t1.out.c.at 3 (.int .i64 0) rfl
 have fx1_3 := t1.out.c.frozen 3
 have ax1_4 := t1.out.a.at 4 (v4) rfl
 have cx1_4 := t1.out.c.at 4 (.slice none 0 0) rfl
 have fx1_4 := t1.out.c.frozen 4
 have zx1_0 := t1.out.z.at 0 (.int .i64 0) rfl
 have gx1_0 := t1.out.z.frozen 0
 have zx1_1 := t1.out.z.at 1 (.int .i64 0) rfl
 have gx1_1 := t1.out.z.frozen 1
 have zx1_2 := t1.out.z.at 2 (.slice none 0 0) rfl
 have gx1_2 := t1.out.z.frozen 2
 have zx1_3 := t1.out.z.at 3 (.int .i64 0) rfl
 have gx1_3 := t1.out.z.frozen 3
 have zx1_4 := t1.out.z.at 4 (.slice none 0 0) rfl
 have gx1_4 := t1.out.z.frozen 4
 clear m1 m1' hb ho t0
 go_wp2_with fail
 have t1' := (t1.out.store 2 (.slice q2 n2 d2))
 have t1 : Hid (Mk w _ _ _ _ 116 126 _) := t1'
 clear t1'
 have m2 := t1.out
 refine (dToRes [.int .i64 x3, v4] [.i x3, .l 3 1 n4 cs4] _ (HN3.out.on m2.b (Nat.le_refl _)) HH3.out).mono ?_
 rintro e w2 ⟨hb, us, S3, rfl, ho⟩
 have hU := ho.at
 obtain ⟨u3, u4, rfl, U3, U4⟩ := hU.c2
 obtain rfl := U3.int
 obtain ⟨q4, d4, rfl⟩ := U4.slice
 have m2' := m2.call hb ho
 clear hU U3 U4
 have t2 : Hid (Mk w w2 #[.int .i64 x0, .int .i64 x1, v2, .int .i64 x3, v4] #[.int .i64 0, .int .i64 0, .slice none 0 0, .int .i64 0, .slice none 0 0] #[.int .i64 x0, .int .i64 x1, (.slice q2 n2 d2), .int .i64 0, .slice none 0 0] 116 126 _) := m2'
 have ax2_0 := t2.out.a.at 0 (.int .i64 x0) rfl
 have cx2_0 := t2.out.c.at 0 (.int .i64 x0) rfl
 have fx2_0 := t2.out.c.frozen 0
 have ax2_1 := t2.out.a.at 1 (.int .i64 x1) rfl
 have cx2_1 := t2.out.c.at 1 (.int .i64 x1) rfl
 have fx2_1 := t2.out.c.frozen 1
 have ax2_2 := t2.out.a.at 2 (v2) rfl
 have cx2_2 := t2.out.c.at 2 ((.slice q2 n2 d2)) rfl
 have fx2_2 := t2.out.c.frozen 2
 have ax2_3 := t2.out.a.at 3 (.int .i64 x3) rfl
 have cx2_3 := t2.out.c.at 3 (.int .i64 0) rfl
 have fx2_3 := t2.out.c.frozen 3
 have ax2_4 := t2.out.a.at 4 (v4) rfl
 have cx2_4 := t2.out.c.at 4 (.slice none 0 0) rfl
 have fx2_4 := t2.out.c.frozen 4
 have zx2_0 := t2.out.z.at 0 (.int .i64 0) rfl
 have gx2_0 := t2.out.z.frozen 0
 have zx2_1 := t2.out.z.at 1 (.int .i64 0) rfl
 have gx2_1 := t2.out.z.frozen 1
 have zx2_2 := t2.out.z.at 2 (.slice none 0 0) rfl
 have gx2_2 := t2.out.z.frozen 2
 have zx2_3 := t2.out.z.at 3 (.int .i64 0) rfl
 have gx2_3 := t2.out.z.frozen 3
 have zx2_4 := t2.out.z.at 4 (.slice none 0 0) rfl
 have gx2_4 := t2.out.z.frozen 4
 clear m2 m2' hb ho ax1_0 cx1_0 fx1_0 zx1_0 gx1_0 ax1_1 cx1_1 fx1_1 zx1_1 gx1_1 ax1_2 cx1_2 fx1_2 zx1_2 gx1_2 ax1_3 cx1_3 fx1_3 zx1_3 gx1_3 ax1_4 cx1_4 fx1_4 zx1_4 gx1_4
 go_wp2
 (try simp only [Exit.inBlock, Exit.then])
 refine bodyPost_ret (by simp [results, Try.results68, go_sem, zx2_0, zx2_1, zx2_2, zx2_3, zx2_4]; try rfl) rfl ?_
 have m := (((((((t2.out.store 3 ((.int .i64 x3))).store 4 ((.slice q4 n4 d4))).storeZ 0 (.int .i64 x0)).storeZ 1 (.int .i64 x1)).storeZ 2 ((.slice q2 n2 d2))).storeZ 3 ((.int .i64 x3))).storeZ 4 ((.slice q4 n4 d4)))
 exact ⟨m.b, [.int .i64 x0, .int .i64 x1, (.slice q2 n2 d2), (.int .i64 x3), (.slice q4 n4 d4)], _, rfl, m.all⟩
theorem dToDescS (v : Value) (n : Nat) (cs : List Cel) (w : World) (h : At false w v (.l 126 5 n cs)) (hs : Has (.l 126 5 n cs) (.l 126 5 tyDesc)) :
   Calls Try.prog 51 #[v] w (Ret w (.l 126 5 n cs)) := by
 obtain ⟨a, c, vs, rfl, h1, h2, hn, -, h3, h4⟩ := h.openL
 have SRC : Hid (n = 0 ∨ ∃ b o, a = some ⟨b, o, none⟩ ∧ ∀ j, j < n * 5 → w.cell? ⟨b, o + j, none⟩ = vs[j]?) := h3
 have HV : Hid (∀ j, j < n → AtL false w ((vs.drop (j * 5)).take 5) (row cs 5 j)) := fun j hj => rowVals h1 h2 h4 hj
 have HR : Hid (∀ j, j < n → HasL (row cs 5 j) tyDesc) := fun j hj => hs.rowL hj
 have L2 : Hid (cs.length = n * 5) := h2
 have L1 : Hid (vs.length = n * 5) := h1
 obtain ⟨i0, hi, hz⟩ := Option.map_eq_some_iff.1 dInfoDesc
 obtain ⟨i1, hi', hb1⟩ := Option.map_eq_some_iff.1 dBytesDesc
 obtain rfl : i0 = i1 := Option.some.inj (hi.symm.trans hi')
 have hz0 : i0.zero = some (.agg #[.int .i64 0, .int .i64 0, .slice none 0 0, .int .i64 0, .slice none 0 0]) := congrArg Prod.fst hz
 have hz1 : i0.size = 5 := congrArg Prod.snd hz
 have hz2 : i0.bytes ≤ 1024 := of_decide_eq_true hb1
 have hby : i0.bytes * n ≤ 1024 * 2097152 := Nat.mul_le_mul hz2 hn
 clear h h1 h2 h3 h4 hs hz hb1 hi'
 go_enter Try.func51, Try.ntmps51
 go_wp2_with (at_make; refine wpList_make_full _ rfl _ _ 51 rfl w.heap.size 126 i0 (.agg #[.int .i64 0, .int .i64 0, .slice none 0 0, .int .i64 0, .slice none 0 0]) 5 Try.underlying51 hi hz0 hz1 .i64 .i64 _ _ n rfl rfl rfl rfl (by first | omega | (rw [Nat.mul_comm]; omega)) (by unfold maxLen; omega) (Nat.le_refl _) ?_; intro w1 own1 grow1)
 obtain ⟨ps0, lp0, O0⟩ := own_made (zv := [.int .i64 0, .int .i64 0, .slice none 0 0, .int .i64 0, .slice none 0 0]) (zc := [.i 0, .i 0, .l 151 3 0 [], .i 0, .l 3 1 0 []]) own1 hn rfl (fun j v hv => made_at hv (by decide)) (by
   intro i v c hv hc w'
   have hi : i < 5 := by have := (List.getElem?_eq_some_iff.1 hv).1; simpa using this
   rcases (show i = 0 ∨ i = 1 ∨ i = 2 ∨ i = 3 ∨ i = 4 by omega) with rfl | rfl | rfl | rfl | rfl <;> (simp at hv hc; subst hv hc)
   · exact .i _ _ (fun _ h => h)
   · exact .i _ _ (fun _ h => h)
   · exact .nil _ _ _ (fun _ h => h)
   · exact .i _ _ (fun _ h => h)
   · exact .nil _ _ _ (fun _ h => h))
 have hb1 : Below w.heap.size w w1 := (Below.refl _ _).grown grow1 (Nat.le_refl _) (fun k e => by cases e)
 clear own1 grow1
 go_loopw [4] (fun i wr => ∃ j : Nat, j ≤ n ∧ i = .int .i64 (j : Int) ∧ (∃ ps S, ps.length = n * 5 ∧ ps.take (j * 5) = cs.take (j * 5) ∧ Own wr w.heap.size (.slice (some ⟨w.heap.size, 0, none⟩) n n) (.l 126 5 n ps) S) ∧ Below w.heap.size w wr) (fun i _ => n - (intOf i).toNat)
 case atStart => exact ⟨0, Nat.zero_le _, by simp, ⟨ps0, _, lp0, by simp, O0⟩, hb1⟩
 case round =>
   obtain ⟨j, hj, rfl, ⟨ps, S, lp, tp, ho⟩, hb⟩ := hrel
   clear O0 hb1 lp0
   by_cases hlt : j < n
   · rcases SRC.out with h0 | ⟨p1, o1, rfl, g1⟩
     · omega
     have hk0 : (0 : Int) ≤ (j : Int) := by omega
     have hk1 : (j : Int) < (n : Int) := by omega
     have hA := HV.out j hlt
     have hH := HR.out j hlt
     have hcv := rowAt hb hlt g1 L1.out
     obtain ⟨rs, hrs⟩ : ∃ rs, row cs 5 j = rs := ⟨_, rfl⟩
     obtain ⟨ws, hws⟩ : ∃ ws, (vs.drop (j * 5)).take 5 = ws := ⟨_, rfl⟩
     have HRS : Hid (row cs 5 j = rs) := hrs
     rw [hrs] at hA hH
     rw [hws] at hA hcv
     clear g1 hrs hws
     obtain ⟨c0, c1, c2, c3, c4, rfl, T0, T1, T2, T3, T4⟩ := hH.c5
     have HL0 : Hid (HasL [c0, c1, c2, c3, c4] tyDesc) := hH
     obtain ⟨v0, vr0, rfl, A0, hA0⟩ := hA.consE
     obtain ⟨v1, vr1, rfl, A1, hA1⟩ := hA0.consE
     obtain ⟨v2, vr2, rfl, A2, hA2⟩ := hA1.consE
     obtain ⟨v3, vr3, rfl, A3, hA3⟩ := hA2.consE
     obtain ⟨v4, vr4, rfl, A4, hA4⟩ := hA3.consE
     obtain rfl := hA4.nilE
     have HA0 : Hid (AtL false w [v0, v1, v2, v3, v4] [c0, c1, c2, c3, c4]) := hA
     have e0 : wr.cell? ⟨p1, o1 + j * 5, none⟩ = some v0 := hcv 0 (by omega)
     have e1 : wr.cell? ⟨p1, o1 + j * 5 + 1, none⟩ = some v1 := hcv 1 (by omega)
     have e2 : wr.cell? ⟨p1, o1 + j * 5 + 2, none⟩ = some v2 := hcv 2 (by omega)
     have e3 : wr.cell? ⟨p1, o1 + j * 5 + 3, none⟩ = some v3 := hcv 3 (by omega)
     have e4 : wr.cell? ⟨p1, o1 + j * 5 + 4, none⟩ = some v4 := hcv 4 (by omega)
     clear hcv hA hH hA0 hA1 hA2 hA3 hA4
     have HO : Hid (Own wr w.heap.size (.slice (some ⟨w.heap.size, 0, none⟩) n n) (.l 126 5 n ps) S) := ho
     clear ho
     go_wp2_with fail
     refine (dToDesc [v0, v1, v2, v3, v4] [c0, c1, c2, c3, c4] _ (HA0.out.on hb (Nat.le_refl _)) HL0.out).mono ?_
     rintro e w2 ⟨hb2, us, S', rfl, oL⟩
     have hU := oL.at
     obtain ⟨u0, u1, u2, u3, u4, rfl, U0, U1, U2, U3, U4⟩ := hU.c5
     obtain ⟨x0, rfl⟩ := T0.int
     obtain ⟨x1, rfl⟩ := T1.int
     have T2' := T2
     obtain ⟨n2, cs2, rfl, -⟩ := T2.list
     obtain ⟨x3, rfl⟩ := T3.int
     have T4' := T4
     obtain ⟨n4, cs4, rfl, -⟩ := T4.list
     obtain rfl := U0.int
     obtain rfl := U1.int
     obtain ⟨q2, m2, rfl⟩ := U2.slice
     obtain rfl := U3.int
     obtain ⟨q4, m4, rfl⟩ := U4.slice
     have O2 := HO.out.on hb2 (Nat.le_refl _)
     have hb02 : Below w.heap.size w w2 := hb.trans (hb2.mono hb.size)
     obtain ⟨pv0, -, hc0, hf0, -⟩ := O2.cell (j := j * 5) (List.getElem?_eq_getElem (by omega))
     obtain ⟨pv1, -, hc1, hf1, -⟩ := O2.cell (j := j * 5 + 1) (List.getElem?_eq_getElem (by omega))
     obtain ⟨pv2, -, hc2, hf2, -⟩ := O2.cell (j := j * 5 + 2) (List.getElem?_eq_getElem (by omega))
     obtain ⟨pv3, -, hc3, hf3, -⟩ := O2.cell (j := j * 5 + 3) (List.getElem?_eq_getElem (by omega))
     obtain ⟨pv4, -, hc4, hf4, -⟩ := O2.cell (j := j * 5 + 4) (List.getElem?_eq_getElem (by omega))
     have OL : Hid (OwnL w2 wr.heap.size [.int .i64 x0, .int .i64 x1, .slice q2 n2 m2, .int .i64 x3, .slice q4 n4 m4] [.i x0, .i x1, .l 151 3 n2 cs2, .i x3, .l 3 1 n4 cs4] S') := oL
     have HO2 : Hid (Own w2 w.heap.size (.slice (some ⟨w.heap.size, 0, none⟩) n n) (.l 126 5 n ps) S) := O2
     have HRS' : Hid (row cs 5 j = [.i x0, .i x1, .l 151 3 n2 cs2, .i x3, .l 3 1 n4 cs4]) := HRS.out
     clear oL O2 hb2 hU e0 e1 e2 e3 e4
     go_wp2
     go_roundw
     case rel =>
       have slt : ∀ x, S x → x < wr.heap.size := fun x hx => (HO.out.lt x hx).2
       obtain ⟨S'', o'', -⟩ := Own.storeL (p := j * 5) HO2.out (OL.out.weaken hb.size) (fun x hx hx' => by have h1 := (OL.out.lt x hx).1; have h2 := slt x hx'; omega) (by simp; omega)
       have hle : j * 5 + 5 ≤ n * 5 := by omega
       refine ⟨j + 1, by omega, by go_num, ⟨_, S'', ?_, ?_, o''⟩, stores_below (Nat.le_refl _) [.int .i64 x0, .int .i64 x1, .slice q2 n2 m2, .int .i64 x3, .slice q4 n4 m4] w2 (j * 5) hb02⟩
       · rw [over_len]; exact lp
       · have h3 := over_take [.i x0, .i x1, .l 151 3 n2 cs2, .i x3, .l 3 1 n4 cs4] ps (j * 5) (by simp; omega)
         rw [row_split (cs := cs), HRS'.out, ← tp, show (j + 1) * 5 = j * 5 + ([.i x0, .i x1, .l 151 3 n2 cs2, .i x3, .l 3 1 n4 cs4] : List Cel).length by simp; omega]
         exact h3
     case measure => simp [intOf]; omega
   · obtain rfl : j = n := by omega
     have e : ps = cs := by rwa [List.take_of_length_le (by omega), List.take_of_length_le (by have := L2.out; omega)] at tp
     subst e
     go_wp2
     go_ret
     exact ⟨hb, _, S, rfl, ho⟩
end
end Go.Proofs.Ytecheopkfhfgkaa
