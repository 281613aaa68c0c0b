/- Texts joined: DatU, DatV. -/
import Derived.Test.YtkbodiggdajbeaaGreatDoorMT08
import Derived.Deep.RegionHeld3
import Derived.Deep.Cut
import Derived.Handy
/- The laws' own functions on data. -/
namespace Go.Proofs.YtkbodiggdajbeaaGreatDoor
open Go.ChangeShapes Go.WideShapes Go.ChangeAt Go.RowKit Go.Joins

theorem dInfoThread : (Tryz.prog.info? 100).map (fun i => (i.zero, i.size)) = some (some (.agg #[.slice none 0 0, .int .i64 0, .bool false, .slice none 0 0, .slice none 0 0]), 5) := by kernel_rfl
theorem dBytesThread : (Tryz.prog.info? 100).map (fun i => decide (i.bytes ≤ 1024)) = some true := by kernel_rfl
set_option maxHeartbeats 2000000 in
theorem dToThread (vs : List Value) (cs : List Cel) (w : World) (h : AtL false w vs cs) (hs : HasL cs tyThread) : Calls Tryz.prog 45 #[.agg vs.toArray] w (RetL w cs) := by
  obtain ⟨c0, r0, rfl, T0, hH0⟩ := hs.cons
  obtain ⟨c1, r1, rfl, T1, hH1⟩ := hH0.cons
  obtain ⟨c2, r2, rfl, T2, hH2⟩ := hH1.cons
  obtain ⟨c3, r3, rfl, T3, hH3⟩ := hH2.cons
  obtain ⟨c4, r4, rfl, T4, hH4⟩ := hH3.cons
  obtain rfl := hH4.nil
  obtain ⟨v0, vr0, rfl, A0, hA0⟩ := h.consE
  obtain ⟨v1, vr1, rfl, A1, hA1⟩ := hA0.consE
  obtain ⟨v2, vr2, rfl, A2, hA2⟩ := hA1.consE
  obtain ⟨v3, vr3, rfl, A3, hA3⟩ := hA2.consE
  obtain ⟨v4, vr4, rfl, A4, hA4⟩ := hA3.consE
  obtain rfl := hA4.nilE
  have hA0' : Hid (At false w v0 c0) := A0
  obtain ⟨x1, rfl⟩ := T1.int
  obtain rfl := A1.int
  obtain ⟨x2, rfl⟩ := T2.bool
  obtain rfl := A2.bool
  have hA3' : Hid (At false w v3 c3) := A3
  have hA4' : Hid (At false w v4 c4) := A4
  obtain ⟨n0, cs0, rfl, -⟩ := T0.list
  have HT0 : Hid (Has (.l 57 3 n0 cs0) (.l 57 3 tyOp)) := T0
  obtain ⟨n3, cs3, rfl, -⟩ := T3.list
  have HT3 : Hid (Has (.l 176 2 n3 cs3) (.l 176 2 tyPair)) := T3
  obtain ⟨n4, cs4, rfl, -⟩ := T4.list
  have HT4 : Hid (Has (.l 180 4 n4 cs4) (.l 180 4 tyHelp)) := T4
  clear hs h hA0 hH0 hA1 hH1 hA2 hH2 hA3 hH3 hA4 hH4 T0 A0 T3 A3 T4 A4
  go_enter Tryz.func45, Tryz.ntmps45
  go_wp2_with fail
  have t0 := mk_new w #[v0, .int .i64 x1, .bool x2, v3, v4] #[.slice none 0 0, .int .i64 0, .bool false, .slice none 0 0, .slice none 0 0] #[.slice none 0 0, .int .i64 0, .bool false, .slice none 0 0, .slice none 0 0] 82 100
  have m1 := t0
  refine (dToOpS v0 n0 cs0 _ (hA0'.out.on m1.b (Nat.le_refl _)) HT0.out).mono ?_
  rintro e w1 ⟨hb, u0, S0, rfl, ho⟩
  obtain ⟨q0, d0, rfl, -⟩ := ho.slice
  have m1' := m1.call1 hb ho
  have t1 : Hid (Mk w w1 #[v0, .int .i64 x1, .bool x2, v3, v4] #[.slice none 0 0, .int .i64 0, .bool false, .slice none 0 0, .slice none 0 0] #[.slice none 0 0, .int .i64 0, .bool false, .slice none 0 0, .slice none 0 0] 82 100 _) := m1'
  have ax1_0 : w1.cell? ⟨w.heap.size, 0, none⟩ = some (v0) := t1.out.a.cell 0
  have cx1_0 : w1.cell? ⟨w.heap.size + 1 + 1, 0, none⟩ = some (.slice none 0 0) := t1.out.c.cell 0
  have fx1_0 : w1.frozen? ⟨w.heap.size + 1 + 1, 0, none⟩ = false := t1.out.c.frozen 0
  have ax1_1 : w1.cell? ⟨w.heap.size, 1, none⟩ = some (.int .i64 x1) := t1.out.a.cell 1
  have cx1_1 : w1.cell? ⟨w.heap.size + 1 + 1, 1, none⟩ = some (.int .i64 0) := t1.out.c.cell 1
  have fx1_1 : w1.frozen? ⟨w.heap.size + 1 + 1, 1, none⟩ = false := t1.out.c.frozen 1
  have ax1_2 : w1.cell? ⟨w.heap.size, 2, none⟩ = some (.bool x2) := t1.out.a.cell 2
  have cx1_2 : w1.cell? ⟨w.heap.size + 1 + 1, 2, none⟩ = some (.bool false) := t1.out.c.cell 2
  have fx1_2 : w1.frozen? ⟨w.heap.size + 1 + 1, 2, none⟩ = false := t1.out.c.frozen 2
  have ax1_3 : w1.cell? ⟨w.heap.size, 3, none⟩ = some (v3) := t1.out.a.cell 3
  have cx1_3 : w1.cell? ⟨w.heap.size + 1 + 1, 3, none⟩ = some (.slice none 0 0) := t1.out.c.cell 3
  have fx1_3 : w1.frozen? ⟨w.heap.size + 1 + 1, 3, none⟩ = false := t1.out.c.frozen 3
  have ax1_4 : w1.cell? ⟨w.heap.size, 4, none⟩ = some (v4) := t1.out.a.cell 4
  have cx1_4 : w1.cell? ⟨w.heap.size + 1 + 1, 4, none⟩ = some (.slice none 0 0) := t1.out.c.cell 4
  have fx1_4 : w1.frozen? ⟨w.heap.size + 1 + 1, 4, none⟩ = false := t1.out.c.frozen 4
  have zx1_0 : w1.cell? ⟨w.heap.size + 1, 0, none⟩ = some (.slice none 0 0) := t1.out.z.cell 0
  have gx1_0 : w1.frozen? ⟨w.heap.size + 1, 0, none⟩ = false := t1.out.z.frozen 0
  have zx1_1 : w1.cell? ⟨w.heap.size + 1, 1, none⟩ = some (.int .i64 0) := t1.out.z.cell 1
  have gx1_1 : w1.frozen? ⟨w.heap.size + 1, 1, none⟩ = false := t1.out.z.frozen 1
  have zx1_2 : w1.cell? ⟨w.heap.size + 1, 2, none⟩ = some (.bool false) := t1.out.z.cell 2
  have gx1_2 : w1.frozen? ⟨w.heap.size + 1, 2, none⟩ = false := t1.out.z.frozen 2
  have zx1_3 : w1.cell? ⟨w.heap.size + 1, 3, none⟩ = some (.slice none 0 0) := t1.out.z.cell 3
  have gx1_3 : w1.frozen? ⟨w.heap.size + 1, 3, none⟩ = false := t1.out.z.frozen 3
  have zx1_4 : w1.cell? ⟨w.heap.size + 1, 4, none⟩ = some (.slice none 0 0) := t1.out.z.cell 4
  have gx1_4 : w1.frozen? ⟨w.heap.size + 1, 4, none⟩ = false := t1.out.z.frozen 4
  clear m1 m1' hb ho t0 
  go_wp2_with fail
  have t1' := (t1.out.store 0 (.slice q0 n0 d0))
  have t1 : Hid (Mk w _ _ _ _ 82 100 _) := t1'
  clear t1'
  have m2 := ((((t1.out.store 1 (.int .i64 x1)).store 2 (.bool x2)).num (v := .int .i64 x1) (c := .i x1) (fun _ => .i x1 _ (fun _ h => h))).num (v := .bool x2) (c := .b x2) (fun _ => .b x2 _ (fun _ h => h)))
  refine (dToPairS v3 n3 cs3 _ (hA3'.out.on m2.b (Nat.le_refl _)) HT3.out).mono ?_
  rintro e w2 ⟨hb, u3, S3, rfl, ho⟩
  obtain ⟨q3, d3, rfl, -⟩ := ho.slice
  have m2' := m2.call1 hb ho
  have t2 : Hid (Mk w w2 #[v0, .int .i64 x1, .bool x2, v3, v4] #[.slice none 0 0, .int .i64 0, .bool false, .slice none 0 0, .slice none 0 0] #[(.slice q0 n0 d0), .int .i64 x1, .bool x2, .slice none 0 0, .slice none 0 0] 82 100 _) := m2'
  have ax2_0 : w2.cell? ⟨w.heap.size, 0, none⟩ = some (v0) := t2.out.a.cell 0
  have cx2_0 : w2.cell? ⟨w.heap.size + 1 + 1, 0, none⟩ = some ((.slice q0 n0 d0)) := t2.out.c.cell 0
  have fx2_0 : w2.frozen? ⟨w.heap.size + 1 + 1, 0, none⟩ = false := t2.out.c.frozen 0
  have ax2_1 : w2.cell? ⟨w.heap.size, 1, none⟩ = some (.int .i64 x1) := t2.out.a.cell 1
  have cx2_1 : w2.cell? ⟨w.heap.size + 1 + 1, 1, none⟩ = some (.int .i64 x1) := t2.out.c.cell 1
  have fx2_1 : w2.frozen? ⟨w.heap.size + 1 + 1, 1, none⟩ = false := t2.out.c.frozen 1
  have ax2_2 : w2.cell? ⟨w.heap.size, 2, none⟩ = some (.bool x2) := t2.out.a.cell 2
  have cx2_2 : w2.cell? ⟨w.heap.size + 1 + 1, 2, none⟩ = some (.bool x2) := t2.out.c.cell 2
  have fx2_2 : w2.frozen? ⟨w.heap.size + 1 + 1, 2, none⟩ = false := t2.out.c.frozen 2
  have ax2_3 : w2.cell? ⟨w.heap.size, 3, none⟩ = some (v3) := t2.out.a.cell 3
  have cx2_3 : w2.cell? ⟨w.heap.size + 1 + 1, 3, none⟩ = some (.slice none 0 0) := t2.out.c.cell 3
  have fx2_3 : w2.frozen? ⟨w.heap.size + 1 + 1, 3, none⟩ = false := t2.out.c.frozen 3
  have ax2_4 : w2.cell? ⟨w.heap.size, 4, none⟩ = some (v4) := t2.out.a.cell 4
  have cx2_4 : w2.cell? ⟨w.heap.size + 1 + 1, 4, none⟩ = some (.slice none 0 0) := t2.out.c.cell 4
  have fx2_4 : w2.frozen? ⟨w.heap.size + 1 + 1, 4, none⟩ = false := t2.out.c.frozen 4
  have zx2_0 : w2.cell? ⟨w.heap.size + 1, 0, none⟩ = some (.slice none 0 0) := t2.out.z.cell 0
  have gx2_0 : w2.frozen? ⟨w.heap.size + 1, 0, none⟩ = false := t2.out.z.frozen 0
  have zx2_1 : w2.cell? ⟨w.heap.size + 1, 1, none⟩ = some (.int .i64 0) := t2.out.z.cell 1
  have gx2_1 : w2.frozen? ⟨w.heap.size + 1, 1, none⟩ = false := t2.out.z.frozen 1
  have zx2_2 : w2.cell? ⟨w.heap.size + 1, 2, none⟩ = some (.bool false) := t2.out.z.cell 2
  have gx2_2 : w2.frozen? ⟨w.heap.size + 1, 2, none⟩ = false := t2.out.z.frozen 2
  have zx2_3 : w2.cell? ⟨w.heap.size + 1, 3, none⟩ = some (.slice none 0 0) := t2.out.z.cell 3
  have gx2_3 : w2.frozen? ⟨w.heap.size + 1, 3, none⟩ = false := t2.out.z.frozen 3
  have zx2_4 : w2.cell? ⟨w.heap.size + 1, 4, none⟩ = some (.slice none 0 0) := t2.out.z.cell 4
  have gx2_4 : w2.frozen? ⟨w.heap.size + 1, 4, none⟩ = false := t2.out.z.frozen 4
  clear m2 m2' hb ho  ax1_0 cx1_0 fx1_0 zx1_0 gx1_0 ax1_1 cx1_1 fx1_1 zx1_1 gx1_1 ax1_2 cx1_2 fx1_2 zx1_2 gx1_2 ax1_3 cx1_3 fx1_3 zx1_3 gx1_3 ax1_4 cx1_4 fx1_4 zx1_4 gx1_4
  go_wp2_with fail
  have t2' := (t2.out.store 3 (.slice q3 n3 d3))
  have t2 : Hid (Mk w _ _ _ _ 82 100 _) := t2'
  clear t2'
  have m3 := t2.out
  refine (dToHelpS v4 n4 cs4 _ (hA4'.out.on m3.b (Nat.le_refl _)) HT4.out).mono ?_
  rintro e w3 ⟨hb, u4, S4, rfl, ho⟩
  obtain ⟨q4, d4, rfl, -⟩ := ho.slice
  have m3' := m3.call1 hb ho
  have t3 : Hid (Mk w w3 #[v0, .int .i64 x1, .bool x2, v3, v4] #[.slice none 0 0, .int .i64 0, .bool false, .slice none 0 0, .slice none 0 0] #[(.slice q0 n0 d0), .int .i64 x1, .bool x2, (.slice q3 n3 d3), .slice none 0 0] 82 100 _) := m3'
  have ax3_0 : w3.cell? ⟨w.heap.size, 0, none⟩ = some (v0) := t3.out.a.cell 0
  have cx3_0 : w3.cell? ⟨w.heap.size + 1 + 1, 0, none⟩ = some ((.slice q0 n0 d0)) := t3.out.c.cell 0
  have fx3_0 : w3.frozen? ⟨w.heap.size + 1 + 1, 0, none⟩ = false := t3.out.c.frozen 0
  have ax3_1 : w3.cell? ⟨w.heap.size, 1, none⟩ = some (.int .i64 x1) := t3.out.a.cell 1
  have cx3_1 : w3.cell? ⟨w.heap.size + 1 + 1, 1, none⟩ = some (.int .i64 x1) := t3.out.c.cell 1
  have fx3_1 : w3.frozen? ⟨w.heap.size + 1 + 1, 1, none⟩ = false := t3.out.c.frozen 1
  have ax3_2 : w3.cell? ⟨w.heap.size, 2, none⟩ = some (.bool x2) := t3.out.a.cell 2
  have cx3_2 : w3.cell? ⟨w.heap.size + 1 + 1, 2, none⟩ = some (.bool x2) := t3.out.c.cell 2
  have fx3_2 : w3.frozen? ⟨w.heap.size + 1 + 1, 2, none⟩ = false := t3.out.c.frozen 2
  have ax3_3 : w3.cell? ⟨w.heap.size, 3, none⟩ = some (v3) := t3.out.a.cell 3
  have cx3_3 : w3.cell? ⟨w.heap.size + 1 + 1, 3, none⟩ = some ((.slice q3 n3 d3)) := t3.out.c.cell 3
  have fx3_3 : w3.frozen? ⟨w.heap.size + 1 + 1, 3, none⟩ = false := t3.out.c.frozen 3
  have ax3_4 : w3.cell? ⟨w.heap.size, 4, none⟩ = some (v4) := t3.out.a.cell 4
  have cx3_4 : w3.cell? ⟨w.heap.size + 1 + 1, 4, none⟩ = some (.slice none 0 0) := t3.out.c.cell 4
  have fx3_4 : w3.frozen? ⟨w.heap.size + 1 + 1, 4, none⟩ = false := t3.out.c.frozen 4
  have zx3_0 : w3.cell? ⟨w.heap.size + 1, 0, none⟩ = some (.slice none 0 0) := t3.out.z.cell 0
  have gx3_0 : w3.frozen? ⟨w.heap.size + 1, 0, none⟩ = false := t3.out.z.frozen 0
  have zx3_1 : w3.cell? ⟨w.heap.size + 1, 1, none⟩ = some (.int .i64 0) := t3.out.z.cell 1
  have gx3_1 : w3.frozen? ⟨w.heap.size + 1, 1, none⟩ = false := t3.out.z.frozen 1
  have zx3_2 : w3.cell? ⟨w.heap.size + 1, 2, none⟩ = some (.bool false) := t3.out.z.cell 2
  have gx3_2 : w3.frozen? ⟨w.heap.size + 1, 2, none⟩ = false := t3.out.z.frozen 2
  have zx3_3 : w3.cell? ⟨w.heap.size + 1, 3, none⟩ = some (.slice none 0 0) := t3.out.z.cell 3
  have gx3_3 : w3.frozen? ⟨w.heap.size + 1, 3, none⟩ = false := t3.out.z.frozen 3
  have zx3_4 : w3.cell? ⟨w.heap.size + 1, 4, none⟩ = some (.slice none 0 0) := t3.out.z.cell 4
  have gx3_4 : w3.frozen? ⟨w.heap.size + 1, 4, none⟩ = false := t3.out.z.frozen 4
  clear m3 m3' hb ho  ax2_0 cx2_0 fx2_0 zx2_0 gx2_0 ax2_1 cx2_1 fx2_1 zx2_1 gx2_1 ax2_2 cx2_2 fx2_2 zx2_2 gx2_2 ax2_3 cx2_3 fx2_3 zx2_3 gx2_3 ax2_4 cx2_4 fx2_4 zx2_4 gx2_4
  go_wp2
  (try simp only [Exit.inBlock, Exit.then])
  refine bodyPost_ret (by simp [results, Tryz.results45, go_sem, zx3_0, zx3_1, zx3_2, zx3_3, zx3_4]; try rfl) rfl ?_
  have m := ((((((t3.out.store 4 ((.slice q4 n4 d4))).storeZ 0 ((.slice q0 n0 d0))).storeZ 1 (.int .i64 x1)).storeZ 2 (.bool x2)).storeZ 3 ((.slice q3 n3 d3))).storeZ 4 ((.slice q4 n4 d4)))
  exact ⟨m.b, [(.slice q0 n0 d0), .int .i64 x1, .bool x2, (.slice q3 n3 d3), (.slice q4 n4 d4)], _, rfl, m.all⟩
set_option maxHeartbeats 1000000 in
theorem dToThreadS (v : Value) (n : Nat) (cs : List Cel) (w : World) (h : At false w v (.l 100 5 n cs)) (hs : Has (.l 100 5 n cs) (.l 100 5 tyThread)) :
    Calls Tryz.prog 19 #[v] w (Ret w (.l 100 5 n cs)) := by
  obtain ⟨a, c, vs, rfl, h1, h2, hn, -, h3, h4⟩ := h.openL
  have SRC : Hid (n = 0 ∨ ∃ b o, a = some ⟨b, o, none⟩ ∧ ∀ j, j < n * 5 → w.cell? ⟨b, o + j, none⟩ = vs[j]?) := h3
  have HV : Hid (∀ j, j < n → AtL false w ((vs.drop (j * 5)).take 5) (row cs 5 j)) := fun j hj => rowVals h1 h2 h4 hj
  have HR : Hid (∀ j, j < n → HasL (row cs 5 j) tyThread) := fun j hj => hs.rowL hj
  have L2 : Hid (cs.length = n * 5) := h2
  have L1 : Hid (vs.length = n * 5) := h1
  obtain ⟨i0, hi, hz⟩ := Option.map_eq_some_iff.1 dInfoThread
  obtain ⟨i1, hi', hb1⟩ := Option.map_eq_some_iff.1 dBytesThread
  obtain rfl : i0 = i1 := Option.some.inj (hi.symm.trans hi')
  have hz0 : i0.zero = some (.agg #[.slice none 0 0, .int .i64 0, .bool false, .slice none 0 0, .slice none 0 0]) := congrArg Prod.fst hz
  have hz1 : i0.size = 5 := congrArg Prod.snd hz
  have hz2 : i0.bytes ≤ 1024 := of_decide_eq_true hb1
  have hby : i0.bytes * n ≤ 1024 * 2097152 := Nat.mul_le_mul hz2 hn
  clear h h1 h2 h3 h4 hs hz hb1 hi'
  go_enter Tryz.func19, Tryz.ntmps19
  go_wp2_with (at_make; refine wpList_make_full _ rfl _ _ 39 rfl w.heap.size 100 i0 (.agg #[.slice none 0 0, .int .i64 0, .bool false, .slice none 0 0, .slice none 0 0]) 5 Tryz.underlying39 hi hz0 hz1 .i64 .i64 _ _ n rfl rfl rfl rfl (by first | omega | (rw [Nat.mul_comm]; omega)) (by unfold maxLen; omega) (Nat.le_refl _) ?_; intro w1 own1 grow1)
  obtain ⟨ps0, lp0, O0⟩ := own_made (zv := [.slice none 0 0, .int .i64 0, .bool false, .slice none 0 0, .slice none 0 0]) (zc := [.l 57 3 0 [], .i 0, .b false, .l 176 2 0 [], .l 180 4 0 []]) own1 hn rfl (fun j v hv => made_at hv (by decide)) (by
    intro i v c hv hc w'
    have hi : i < 5 := by have := (List.getElem?_eq_some_iff.1 hv).1; simpa using this
    rcases (show i = 0 ∨ i = 1 ∨ i = 2 ∨ i = 3 ∨ i = 4 by omega) with rfl | rfl | rfl | rfl | rfl <;> (simp at hv hc; subst hv hc)
    · exact .nil _ _ _ (fun _ h => h)
    · exact .i _ _ (fun _ h => h)
    · exact .b _ _ (fun _ h => h)
    · exact .nil _ _ _ (fun _ h => h)
    · exact .nil _ _ _ (fun _ h => h))
  have hb1 : Below w.heap.size w w1 := (Below.refl _ _).grown grow1 (Nat.le_refl _) (fun k e => by cases e)
  clear own1 grow1
  go_loopw [4] (fun i wr => ∃ j : Nat, j ≤ n ∧ i = .int .i64 (j : Int) ∧ (∃ ps S, ps.length = n * 5 ∧ ps.take (j * 5) = cs.take (j * 5) ∧ Own wr w.heap.size (.slice (some ⟨w.heap.size, 0, none⟩) n n) (.l 100 5 n ps) S) ∧ Below w.heap.size w wr) (fun i _ => n - (intOf i).toNat)
  case atStart => exact ⟨0, Nat.zero_le _, by simp, ⟨ps0, _, lp0, by simp, O0⟩, hb1⟩
  case round =>
    obtain ⟨j, hj, rfl, ⟨ps, S, lp, tp, ho⟩, hb⟩ := hrel
    clear O0 hb1 lp0
    by_cases hlt : j < n
    · rcases SRC.out with h0 | ⟨p1, o1, rfl, g1⟩
      · omega
      have hk0 : (0 : Int) ≤ (j : Int) := by omega
      have hk1 : (j : Int) < (n : Int) := by omega
      have hA := HV.out j hlt
      have hH := HR.out j hlt
      have hcv : ∀ i, i < 5 → wr.cell? ⟨p1, o1 + (j * 5 + i), none⟩ = ((vs.drop (j * 5)).take 5)[i]? := fun i hi => by
        have hle : j * 5 + 5 ≤ n * 5 := by omega
        have h5 := g1 (j * 5 + i) (by omega)
        rw [List.getElem?_take_of_lt hi, List.getElem?_drop, ← h5]
        have h6 : w.cell? ⟨p1, o1 + (j * 5 + i), none⟩ = some (vs[j * 5 + i]'(by have := L1.out; omega)) := by rw [h5, List.getElem?_eq_getElem (by have := L1.out; omega)]
        exact hb.cell (show p1 < w.heap.size from World.block_lt_of_cell? w _ h6)
      obtain ⟨rs, hrs⟩ : ∃ rs, row cs 5 j = rs := ⟨_, rfl⟩
      obtain ⟨ws, hws⟩ : ∃ ws, (vs.drop (j * 5)).take 5 = ws := ⟨_, rfl⟩
      have HRS : Hid (row cs 5 j = rs) := hrs
      rw [hrs] at hA hH
      rw [hws] at hA hcv
      clear g1 hrs hws
      obtain ⟨c0, r0, rfl, T0, hH0⟩ := hH.cons
      obtain ⟨c1, r1, rfl, T1, hH1⟩ := hH0.cons
      obtain ⟨c2, r2, rfl, T2, hH2⟩ := hH1.cons
      obtain ⟨c3, r3, rfl, T3, hH3⟩ := hH2.cons
      obtain ⟨c4, r4, rfl, T4, hH4⟩ := hH3.cons
      obtain rfl := hH4.nil
      have HL0 : Hid (HasL [c0, c1, c2, c3, c4] tyThread) := hH
      obtain ⟨v0, vr0, rfl, A0, hA0⟩ := hA.consE
      obtain ⟨v1, vr1, rfl, A1, hA1⟩ := hA0.consE
      obtain ⟨v2, vr2, rfl, A2, hA2⟩ := hA1.consE
      obtain ⟨v3, vr3, rfl, A3, hA3⟩ := hA2.consE
      obtain ⟨v4, vr4, rfl, A4, hA4⟩ := hA3.consE
      obtain rfl := hA4.nilE
      have HA0 : Hid (AtL false w [v0, v1, v2, v3, v4] [c0, c1, c2, c3, c4]) := hA
      have e0 : wr.cell? ⟨p1, o1 + j * 5, none⟩ = some v0 := hcv 0 (by omega)
      have e1 : wr.cell? ⟨p1, o1 + j * 5 + 1, none⟩ = some v1 := hcv 1 (by omega)
      have e2 : wr.cell? ⟨p1, o1 + j * 5 + 2, none⟩ = some v2 := hcv 2 (by omega)
      have e3 : wr.cell? ⟨p1, o1 + j * 5 + 3, none⟩ = some v3 := hcv 3 (by omega)
      have e4 : wr.cell? ⟨p1, o1 + j * 5 + 4, none⟩ = some v4 := hcv 4 (by omega)
      clear hcv hA hH hA0 hH0 hA1 hH1 hA2 hH2 hA3 hH3 hA4 hH4
      have HO : Hid (Own wr w.heap.size (.slice (some ⟨w.heap.size, 0, none⟩) n n) (.l 100 5 n ps) S) := ho
      clear ho
      go_wp2_with fail
      refine (dToThread [v0, v1, v2, v3, v4] [c0, c1, c2, c3, c4] _ (HA0.out.on hb (Nat.le_refl _)) HL0.out).mono ?_
      rintro e w2 ⟨hb2, us, S', rfl, oL⟩
      have hU := oL.at
      obtain ⟨u0, ur0, rfl, U0, hA0⟩ := hU.consE
      obtain ⟨u1, ur1, rfl, U1, hA1⟩ := hA0.consE
      obtain ⟨u2, ur2, rfl, U2, hA2⟩ := hA1.consE
      obtain ⟨u3, ur3, rfl, U3, hA3⟩ := hA2.consE
      obtain ⟨u4, ur4, rfl, U4, hA4⟩ := hA3.consE
      obtain rfl := hA4.nilE
      have T0' := T0
      obtain ⟨n0, cs0, rfl, -⟩ := T0.list
      obtain ⟨x1, rfl⟩ := T1.int
      obtain ⟨x2, rfl⟩ := T2.bool
      have T3' := T3
      obtain ⟨n3, cs3, rfl, -⟩ := T3.list
      have T4' := T4
      obtain ⟨n4, cs4, rfl, -⟩ := T4.list
      obtain ⟨q0, m0, rfl⟩ := U0.slice
      obtain rfl := U1.int
      obtain rfl := U2.bool
      obtain ⟨q3, m3, rfl⟩ := U3.slice
      obtain ⟨q4, m4, rfl⟩ := U4.slice
      have O2 := HO.out.on hb2 (Nat.le_refl _)
      have hb02 : Below w.heap.size w w2 := hb.trans (hb2.mono hb.size)
      obtain ⟨pv0, -, hc0, hf0, -⟩ := O2.cell (j := j * 5) (List.getElem?_eq_getElem (by omega))
      obtain ⟨pv1, -, hc1, hf1, -⟩ := O2.cell (j := j * 5 + 1) (List.getElem?_eq_getElem (by omega))
      obtain ⟨pv2, -, hc2, hf2, -⟩ := O2.cell (j := j * 5 + 2) (List.getElem?_eq_getElem (by omega))
      obtain ⟨pv3, -, hc3, hf3, -⟩ := O2.cell (j := j * 5 + 3) (List.getElem?_eq_getElem (by omega))
      obtain ⟨pv4, -, hc4, hf4, -⟩ := O2.cell (j := j * 5 + 4) (List.getElem?_eq_getElem (by omega))
      have OL : Hid (OwnL w2 wr.heap.size [.slice q0 n0 m0, .int .i64 x1, .bool x2, .slice q3 n3 m3, .slice q4 n4 m4] [.l 57 3 n0 cs0, .i x1, .b x2, .l 176 2 n3 cs3, .l 180 4 n4 cs4] S') := oL
      have HO2 : Hid (Own w2 w.heap.size (.slice (some ⟨w.heap.size, 0, none⟩) n n) (.l 100 5 n ps) S) := O2
      have HRS' : Hid (row cs 5 j = [.l 57 3 n0 cs0, .i x1, .b x2, .l 176 2 n3 cs3, .l 180 4 n4 cs4]) := HRS.out
      clear oL O2 hb2 hU e0 e1 e2 e3 e4 
      go_wp2
      go_roundw
      case rel =>
        have slt : ∀ x, S x → x < wr.heap.size := fun x hx => (HO.out.lt x hx).2
        obtain ⟨S'', o'', -⟩ := Own.storeL (p := j * 5) HO2.out (OL.out.weaken hb.size) (fun x hx hx' => by have h1 := (OL.out.lt x hx).1; have h2 := slt x hx'; omega) (by simp; omega)
        have hle : j * 5 + 5 ≤ n * 5 := by omega
        refine ⟨j + 1, by omega, by go_num, ⟨_, S'', ?_, ?_, o''⟩, stores_below (Nat.le_refl _) [.slice q0 n0 m0, .int .i64 x1, .bool x2, .slice q3 n3 m3, .slice q4 n4 m4] w2 (j * 5) hb02⟩
        · rw [over_len]; exact lp
        · have h3 := over_take [.l 57 3 n0 cs0, .i x1, .b x2, .l 176 2 n3 cs3, .l 180 4 n4 cs4] ps (j * 5) (by simp; omega)
          rw [row_split (cs := cs), HRS'.out, ← tp, show (j + 1) * 5 = j * 5 + ([.l 57 3 n0 cs0, .i x1, .b x2, .l 176 2 n3 cs3, .l 180 4 n4 cs4] : List Cel).length by simp; omega]
          exact h3
      case measure => simp [intOf]; omega
    · obtain rfl : j = n := by omega
      have e : ps = cs := by rwa [List.take_of_length_le (by omega), List.take_of_length_le (by have := L2.out; omega)] at tp
      subst e
      go_wp2
      go_ret
      exact ⟨hb, _, S, rfl, ho⟩
theorem dInfoRes : (Tryz.prog.info? 59).map (fun i => (i.zero, i.size)) = some (some (.agg #[.int .i64 0, .slice none 0 0]), 2) := by kernel_rfl
theorem dBytesRes : (Tryz.prog.info? 59).map (fun i => decide (i.bytes ≤ 1024)) = some true := by kernel_rfl
set_option maxHeartbeats 2000000 in
theorem dToRes (vs : List Value) (cs : List Cel) (w : World) (h : AtL false w vs cs) (hs : HasL cs tyRes) : Calls Tryz.prog 77 #[.agg vs.toArray] w (RetL w cs) := by
  obtain ⟨c0, r0, rfl, T0, hH0⟩ := hs.cons
  obtain ⟨c1, r1, rfl, T1, hH1⟩ := hH0.cons
  obtain rfl := hH1.nil
  obtain ⟨v0, vr0, rfl, A0, hA0⟩ := h.consE
  obtain ⟨v1, vr1, rfl, A1, hA1⟩ := hA0.consE
  obtain rfl := hA1.nilE
  obtain ⟨x0, rfl⟩ := T0.int
  obtain rfl := A0.int
  have hA1' : Hid (At false w v1 c1) := A1
  obtain ⟨n1, cs1, rfl, -⟩ := T1.list
  have HT1 : Hid (Has (.l 3 1 n1 cs1) (.l 3 1 [.i])) := T1
  clear hs h hA0 hH0 hA1 hH1 T1 A1
  go_enter Tryz.func77, Tryz.ntmps77
  go_wp2_with fail
  have t0 := mk_new w #[.int .i64 x0, v1] #[.int .i64 0, .slice none 0 0] #[.int .i64 x0, .slice none 0 0] 85 59
  have m1 := (t0.num (v := .int .i64 x0) (c := .i x0) (fun _ => .i x0 _ (fun _ h => h)))
  refine (dToIntS v1 n1 cs1 _ (hA1'.out.on m1.b (Nat.le_refl _)) HT1.out).mono ?_
  rintro e w1 ⟨hb, u1, S1, rfl, ho⟩
  obtain ⟨q1, d1, rfl, -⟩ := ho.slice
  have m1' := m1.call1 hb ho
  have t1 : Hid (Mk w w1 #[.int .i64 x0, v1] #[.int .i64 0, .slice none 0 0] #[.int .i64 x0, .slice none 0 0] 85 59 _) := m1'
  have ax1_0 : w1.cell? ⟨w.heap.size, 0, none⟩ = some (.int .i64 x0) := t1.out.a.cell 0
  have cx1_0 : w1.cell? ⟨w.heap.size + 1 + 1, 0, none⟩ = some (.int .i64 x0) := t1.out.c.cell 0
  have fx1_0 : w1.frozen? ⟨w.heap.size + 1 + 1, 0, none⟩ = false := t1.out.c.frozen 0
  have ax1_1 : w1.cell? ⟨w.heap.size, 1, none⟩ = some (v1) := t1.out.a.cell 1
  have cx1_1 : w1.cell? ⟨w.heap.size + 1 + 1, 1, none⟩ = some (.slice none 0 0) := t1.out.c.cell 1
  have fx1_1 : w1.frozen? ⟨w.heap.size + 1 + 1, 1, none⟩ = false := t1.out.c.frozen 1
  have zx1_0 : w1.cell? ⟨w.heap.size + 1, 0, none⟩ = some (.int .i64 0) := t1.out.z.cell 0
  have gx1_0 : w1.frozen? ⟨w.heap.size + 1, 0, none⟩ = false := t1.out.z.frozen 0
  have zx1_1 : w1.cell? ⟨w.heap.size + 1, 1, none⟩ = some (.slice none 0 0) := t1.out.z.cell 1
  have gx1_1 : w1.frozen? ⟨w.heap.size + 1, 1, none⟩ = false := t1.out.z.frozen 1
  clear m1 m1' hb ho t0 
  go_wp2
  (try simp only [Exit.inBlock, Exit.then])
  refine bodyPost_ret (by simp [results, Tryz.results77, go_sem, zx1_0, zx1_1]; try rfl) rfl ?_
  have m := (((t1.out.store 1 ((.slice q1 n1 d1))).storeZ 0 (.int .i64 x0)).storeZ 1 ((.slice q1 n1 d1)))
  exact ⟨m.b, [.int .i64 x0, (.slice q1 n1 d1)], _, rfl, m.all⟩
theorem dInfoRows : (Tryz.prog.info? 41).map (fun i => (i.zero, i.size)) = some (some (.agg #[.slice none 0 0, .int .i64 0]), 2) := by kernel_rfl
theorem dBytesRows : (Tryz.prog.info? 41).map (fun i => decide (i.bytes ≤ 1024)) = some true := by kernel_rfl
set_option maxHeartbeats 2000000 in
theorem dToRows (vs : List Value) (cs : List Cel) (w : World) (h : AtL false w vs cs) (hs : HasL cs tyRows) : Calls Tryz.prog 22 #[.agg vs.toArray] w (RetL w cs) := by
  obtain ⟨c0, r0, rfl, T0, hH0⟩ := hs.cons
  obtain ⟨c1, r1, rfl, T1, hH1⟩ := hH0.cons
  obtain rfl := hH1.nil
  obtain ⟨v0, vr0, rfl, A0, hA0⟩ := h.consE
  obtain ⟨v1, vr1, rfl, A1, hA1⟩ := hA0.consE
  obtain rfl := hA1.nilE
  have hA0' : Hid (At false w v0 c0) := A0
  obtain ⟨x1, rfl⟩ := T1.int
  obtain rfl := A1.int
  obtain ⟨n0, cs0, rfl, -⟩ := T0.list
  have HT0 : Hid (Has (.l 3 1 n0 cs0) (.l 3 1 [.i])) := T0
  clear hs h hA0 hH0 hA1 hH1 T0 A0
  go_enter Tryz.func22, Tryz.ntmps22
  go_wp2_with fail
  have t0 := mk_new w #[v0, .int .i64 x1] #[.slice none 0 0, .int .i64 0] #[.slice none 0 0, .int .i64 0] 30 41
  have m1 := t0
  refine (dToIntS v0 n0 cs0 _ (hA0'.out.on m1.b (Nat.le_refl _)) HT0.out).mono ?_
  rintro e w1 ⟨hb, u0, S0, rfl, ho⟩
  obtain ⟨q0, d0, rfl, -⟩ := ho.slice
  have m1' := m1.call1 hb ho
  have t1 : Hid (Mk w w1 #[v0, .int .i64 x1] #[.slice none 0 0, .int .i64 0] #[.slice none 0 0, .int .i64 0] 30 41 _) := m1'
  have ax1_0 : w1.cell? ⟨w.heap.size, 0, none⟩ = some (v0) := t1.out.a.cell 0
  have cx1_0 : w1.cell? ⟨w.heap.size + 1 + 1, 0, none⟩ = some (.slice none 0 0) := t1.out.c.cell 0
  have fx1_0 : w1.frozen? ⟨w.heap.size + 1 + 1, 0, none⟩ = false := t1.out.c.frozen 0
  have ax1_1 : w1.cell? ⟨w.heap.size, 1, none⟩ = some (.int .i64 x1) := t1.out.a.cell 1
  have cx1_1 : w1.cell? ⟨w.heap.size + 1 + 1, 1, none⟩ = some (.int .i64 0) := t1.out.c.cell 1
  have fx1_1 : w1.frozen? ⟨w.heap.size + 1 + 1, 1, none⟩ = false := t1.out.c.frozen 1
  have zx1_0 : w1.cell? ⟨w.heap.size + 1, 0, none⟩ = some (.slice none 0 0) := t1.out.z.cell 0
  have gx1_0 : w1.frozen? ⟨w.heap.size + 1, 0, none⟩ = false := t1.out.z.frozen 0
  have zx1_1 : w1.cell? ⟨w.heap.size + 1, 1, none⟩ = some (.int .i64 0) := t1.out.z.cell 1
  have gx1_1 : w1.frozen? ⟨w.heap.size + 1, 1, none⟩ = false := t1.out.z.frozen 1
  clear m1 m1' hb ho t0 
  go_wp2
  (try simp only [Exit.inBlock, Exit.then])
  refine bodyPost_ret (by simp [results, Tryz.results22, go_sem, zx1_0, zx1_1]; try rfl) rfl ?_
  have m := (((((t1.out.store 0 ((.slice q0 n0 d0))).store 1 (.int .i64 x1)).num (v := .int .i64 x1) (c := .i x1) (fun _ => .i x1 _ (fun _ h => h))).storeZ 0 ((.slice q0 n0 d0))).storeZ 1 (.int .i64 x1))
  exact ⟨m.b, [(.slice q0 n0 d0), .int .i64 x1], _, rfl, m.all⟩
theorem dInfoDesc : (Tryz.prog.info? 137).map (fun i => (i.zero, i.size)) = some (some (.agg #[.int .i64 0, .int .i64 0, .slice none 0 0, .int .i64 0, .slice none 0 0]), 5) := by kernel_rfl
theorem dBytesDesc : (Tryz.prog.info? 137).map (fun i => decide (i.bytes ≤ 1024)) = some true := by kernel_rfl
set_option maxHeartbeats 2000000 in
theorem dToDesc (vs : List Value) (cs : List Cel) (w : World) (h : AtL false w vs cs) (hs : HasL cs tyDesc) : Calls Tryz.prog 72 #[.agg vs.toArray] w (RetL w cs) := by
  obtain ⟨c0, r0, rfl, T0, hH0⟩ := hs.cons
  obtain ⟨c1, r1, rfl, T1, hH1⟩ := hH0.cons
  obtain ⟨c2, r2, rfl, T2, hH2⟩ := hH1.cons
  obtain ⟨c3, r3, rfl, T3, hH3⟩ := hH2.cons
  obtain ⟨c4, r4, rfl, T4, hH4⟩ := hH3.cons
  obtain rfl := hH4.nil
  obtain ⟨v0, vr0, rfl, A0, hA0⟩ := h.consE
  obtain ⟨v1, vr1, rfl, A1, hA1⟩ := hA0.consE
  obtain ⟨v2, vr2, rfl, A2, hA2⟩ := hA1.consE
  obtain ⟨v3, vr3, rfl, A3, hA3⟩ := hA2.consE
  obtain ⟨v4, vr4, rfl, A4, hA4⟩ := hA3.consE
  obtain rfl := hA4.nilE
  obtain ⟨x0, rfl⟩ := T0.int
  obtain rfl := A0.int
  obtain ⟨x1, rfl⟩ := T1.int
  obtain rfl := A1.int
  have hA2' : Hid (At false w v2 c2) := A2
  obtain ⟨x3, rfl⟩ := T3.int
  obtain rfl := A3.int
  have hA4' : Hid (At false w v4 c4) := A4
  obtain ⟨n2, cs2, rfl, -⟩ := T2.list
  have HT2 : Hid (Has (.l 139 3 n2 cs2) (.l 139 3 tyEntry)) := T2
  obtain ⟨n4, cs4, rfl, -⟩ := T4.list
  have HT4 : Hid (Has (.l 3 1 n4 cs4) (.l 3 1 [.i])) := T4
  have HN3 : Hid (AtL false w [.int .i64 x3, v4] [.i x3, .l 3 1 n4 cs4]) := AtL.cons (.i x3) (AtL.cons (hA4'.out) (AtL.nil))
  have HH3 : Hid (HasL [.i x3, .l 3 1 n4 cs4] tyRes) := ⟨rfl, fun j c t hc ht => by
    have hj : j < 2 := by have := (List.getElem?_eq_some_iff.1 hc).1; simpa using this
    rcases (show j = 0 ∨ j = 1 by omega) with rfl | rfl <;> (simp [tyRes] at hc ht; subst hc ht)
    · exact .i x3
    · exact HT4.out⟩
  clear hs h hA0 hH0 hA1 hH1 hA2 hH2 hA3 hH3 hA4 hH4 T2 A2 T4 A4
  go_enter Tryz.func72, Tryz.ntmps72
  go_wp2_with fail
  have t0 := mk_new w #[.int .i64 x0, .int .i64 x1, v2, .int .i64 x3, v4] #[.int .i64 0, .int .i64 0, .slice none 0 0, .int .i64 0, .slice none 0 0] #[.int .i64 x0, .int .i64 x1, .slice none 0 0, .int .i64 0, .slice none 0 0] 127 137
  have m1 := ((t0.num (v := .int .i64 x0) (c := .i x0) (fun _ => .i x0 _ (fun _ h => h))).num (v := .int .i64 x1) (c := .i x1) (fun _ => .i x1 _ (fun _ h => h)))
  refine (dToEntryS v2 n2 cs2 _ (hA2'.out.on m1.b (Nat.le_refl _)) HT2.out).mono ?_
  rintro e w1 ⟨hb, u2, S2, rfl, ho⟩
  obtain ⟨q2, d2, rfl, -⟩ := ho.slice
  have m1' := m1.call1 hb ho
  have t1 : Hid (Mk w w1 #[.int .i64 x0, .int .i64 x1, v2, .int .i64 x3, v4] #[.int .i64 0, .int .i64 0, .slice none 0 0, .int .i64 0, .slice none 0 0] #[.int .i64 x0, .int .i64 x1, .slice none 0 0, .int .i64 0, .slice none 0 0] 127 137 _) := m1'
  have ax1_0 : w1.cell? ⟨w.heap.size, 0, none⟩ = some (.int .i64 x0) := t1.out.a.cell 0
  have cx1_0 : w1.cell? ⟨w.heap.size + 1 + 1, 0, none⟩ = some (.int .i64 x0) := t1.out.c.cell 0
  have fx1_0 : w1.frozen? ⟨w.heap.size + 1 + 1, 0, none⟩ = false := t1.out.c.frozen 0
  have ax1_1 : w1.cell? ⟨w.heap.size, 1, none⟩ = some (.int .i64 x1) := t1.out.a.cell 1
  have cx1_1 : w1.cell? ⟨w.heap.size + 1 + 1, 1, none⟩ = some (.int .i64 x1) := t1.out.c.cell 1
  have fx1_1 : w1.frozen? ⟨w.heap.size + 1 + 1, 1, none⟩ = false := t1.out.c.frozen 1
  have ax1_2 : w1.cell? ⟨w.heap.size, 2, none⟩ = some (v2) := t1.out.a.cell 2
  have cx1_2 : w1.cell? ⟨w.heap.size + 1 + 1, 2, none⟩ = some (.slice none 0 0) := t1.out.c.cell 2
  have fx1_2 : w1.frozen? ⟨w.heap.size + 1 + 1, 2, none⟩ = false := t1.out.c.frozen 2
  have ax1_3 : w1.cell? ⟨w.heap.size, 3, none⟩ = some (.int .i64 x3) := t1.out.a.cell 3
  have cx1_3 : w1.cell? ⟨w.heap.size + 1 + 1, 3, none⟩ = some (.int .i64 0) := t1.out.c.cell 3
  have fx1_3 : w1.frozen? ⟨w.heap.size + 1 + 1, 3, none⟩ = false := t1.out.c.frozen 3
  have ax1_4 : w1.cell? ⟨w.heap.size, 4, none⟩ = some (v4) := t1.out.a.cell 4
  have cx1_4 : w1.cell? ⟨w.heap.size + 1 + 1, 4, none⟩ = some (.slice none 0 0) := t1.out.c.cell 4
  have fx1_4 : w1.frozen? ⟨w.heap.size + 1 + 1, 4, none⟩ = false := t1.out.c.frozen 4
  have zx1_0 : w1.cell? ⟨w.heap.size + 1, 0, none⟩ = some (.int .i64 0) := t1.out.z.cell 0
  have gx1_0 : w1.frozen? ⟨w.heap.size + 1, 0, none⟩ = false := t1.out.z.frozen 0
  have zx1_1 : w1.cell? ⟨w.heap.size + 1, 1, none⟩ = some (.int .i64 0) := t1.out.z.cell 1
  have gx1_1 : w1.frozen? ⟨w.heap.size + 1, 1, none⟩ = false := t1.out.z.frozen 1
  have zx1_2 : w1.cell? ⟨w.heap.size + 1, 2, none⟩ = some (.slice none 0 0) := t1.out.z.cell 2
  have gx1_2 : w1.frozen? ⟨w.heap.size + 1, 2, none⟩ = false := t1.out.z.frozen 2
  have zx1_3 : w1.cell? ⟨w.heap.size + 1, 3, none⟩ = some (.int .i64 0) := t1.out.z.cell 3
  have gx1_3 : w1.frozen? ⟨w.heap.size + 1, 3, none⟩ = false := t1.out.z.frozen 3
  have zx1_4 : w1.cell? ⟨w.heap.size + 1, 4, none⟩ = some (.slice none 0 0) := t1.out.z.cell 4
  have gx1_4 : w1.frozen? ⟨w.heap.size + 1, 4, none⟩ = false := t1.out.z.frozen 4
  clear m1 m1' hb ho t0 
  go_wp2_with fail
  have t1' := (t1.out.store 2 (.slice q2 n2 d2))
  have t1 : Hid (Mk w _ _ _ _ 127 137 _) := t1'
  clear t1'
  have m2 := t1.out
  refine (dToRes [.int .i64 x3, v4] [.i x3, .l 3 1 n4 cs4] _ (HN3.out.on m2.b (Nat.le_refl _)) HH3.out).mono ?_
  rintro e w2 ⟨hb, us, S3, rfl, ho⟩
  have hU := ho.at
  obtain ⟨u3, ur3, rfl, U3, hU3⟩ := hU.consE
  obtain ⟨u4, ur4, rfl, U4, hU4⟩ := hU3.consE
  obtain rfl := hU4.nilE
  obtain rfl := U3.int
  obtain ⟨q4, d4, rfl⟩ := U4.slice
  have m2' := m2.call hb ho
  clear hU U3 hU3 U4 hU4
  have t2 : Hid (Mk w w2 #[.int .i64 x0, .int .i64 x1, v2, .int .i64 x3, v4] #[.int .i64 0, .int .i64 0, .slice none 0 0, .int .i64 0, .slice none 0 0] #[.int .i64 x0, .int .i64 x1, (.slice q2 n2 d2), .int .i64 0, .slice none 0 0] 127 137 _) := m2'
  have ax2_0 : w2.cell? ⟨w.heap.size, 0, none⟩ = some (.int .i64 x0) := t2.out.a.cell 0
  have cx2_0 : w2.cell? ⟨w.heap.size + 1 + 1, 0, none⟩ = some (.int .i64 x0) := t2.out.c.cell 0
  have fx2_0 : w2.frozen? ⟨w.heap.size + 1 + 1, 0, none⟩ = false := t2.out.c.frozen 0
  have ax2_1 : w2.cell? ⟨w.heap.size, 1, none⟩ = some (.int .i64 x1) := t2.out.a.cell 1
  have cx2_1 : w2.cell? ⟨w.heap.size + 1 + 1, 1, none⟩ = some (.int .i64 x1) := t2.out.c.cell 1
  have fx2_1 : w2.frozen? ⟨w.heap.size + 1 + 1, 1, none⟩ = false := t2.out.c.frozen 1
  have ax2_2 : w2.cell? ⟨w.heap.size, 2, none⟩ = some (v2) := t2.out.a.cell 2
  have cx2_2 : w2.cell? ⟨w.heap.size + 1 + 1, 2, none⟩ = some ((.slice q2 n2 d2)) := t2.out.c.cell 2
  have fx2_2 : w2.frozen? ⟨w.heap.size + 1 + 1, 2, none⟩ = false := t2.out.c.frozen 2
  have ax2_3 : w2.cell? ⟨w.heap.size, 3, none⟩ = some (.int .i64 x3) := t2.out.a.cell 3
  have cx2_3 : w2.cell? ⟨w.heap.size + 1 + 1, 3, none⟩ = some (.int .i64 0) := t2.out.c.cell 3
  have fx2_3 : w2.frozen? ⟨w.heap.size + 1 + 1, 3, none⟩ = false := t2.out.c.frozen 3
  have ax2_4 : w2.cell? ⟨w.heap.size, 4, none⟩ = some (v4) := t2.out.a.cell 4
  have cx2_4 : w2.cell? ⟨w.heap.size + 1 + 1, 4, none⟩ = some (.slice none 0 0) := t2.out.c.cell 4
  have fx2_4 : w2.frozen? ⟨w.heap.size + 1 + 1, 4, none⟩ = false := t2.out.c.frozen 4
  have zx2_0 : w2.cell? ⟨w.heap.size + 1, 0, none⟩ = some (.int .i64 0) := t2.out.z.cell 0
  have gx2_0 : w2.frozen? ⟨w.heap.size + 1, 0, none⟩ = false := t2.out.z.frozen 0
  have zx2_1 : w2.cell? ⟨w.heap.size + 1, 1, none⟩ = some (.int .i64 0) := t2.out.z.cell 1
  have gx2_1 : w2.frozen? ⟨w.heap.size + 1, 1, none⟩ = false := t2.out.z.frozen 1
  have zx2_2 : w2.cell? ⟨w.heap.size + 1, 2, none⟩ = some (.slice none 0 0) := t2.out.z.cell 2
  have gx2_2 : w2.frozen? ⟨w.heap.size + 1, 2, none⟩ = false := t2.out.z.frozen 2
  have zx2_3 : w2.cell? ⟨w.heap.size + 1, 3, none⟩ = some (.int .i64 0) := t2.out.z.cell 3
  have gx2_3 : w2.frozen? ⟨w.heap.size + 1, 3, none⟩ = false := t2.out.z.frozen 3
  have zx2_4 : w2.cell? ⟨w.heap.size + 1, 4, none⟩ = some (.slice none 0 0) := t2.out.z.cell 4
  have gx2_4 : w2.frozen? ⟨w.heap.size + 1, 4, none⟩ = false := t2.out.z.frozen 4
  clear m2 m2' hb ho  ax1_0 cx1_0 fx1_0 zx1_0 gx1_0 ax1_1 cx1_1 fx1_1 zx1_1 gx1_1 ax1_2 cx1_2 fx1_2 zx1_2 gx1_2 ax1_3 cx1_3 fx1_3 zx1_3 gx1_3 ax1_4 cx1_4 fx1_4 zx1_4 gx1_4
  go_wp2
  (try simp only [Exit.inBlock, Exit.then])
  refine bodyPost_ret (by simp [results, Tryz.results72, go_sem, zx2_0, zx2_1, zx2_2, zx2_3, zx2_4]; try rfl) rfl ?_
  have m := (((((((t2.out.store 3 ((.int .i64 x3))).store 4 ((.slice q4 n4 d4))).storeZ 0 (.int .i64 x0)).storeZ 1 (.int .i64 x1)).storeZ 2 ((.slice q2 n2 d2))).storeZ 3 ((.int .i64 x3))).storeZ 4 ((.slice q4 n4 d4)))
  exact ⟨m.b, [.int .i64 x0, .int .i64 x1, (.slice q2 n2 d2), (.int .i64 x3), (.slice q4 n4 d4)], _, rfl, m.all⟩
set_option maxHeartbeats 1000000 in
theorem dToDescS (v : Value) (n : Nat) (cs : List Cel) (w : World) (h : At false w v (.l 137 5 n cs)) (hs : Has (.l 137 5 n cs) (.l 137 5 tyDesc)) :
    Calls Tryz.prog 44 #[v] w (Ret w (.l 137 5 n cs)) := by
  obtain ⟨a, c, vs, rfl, h1, h2, hn, -, h3, h4⟩ := h.openL
  have SRC : Hid (n = 0 ∨ ∃ b o, a = some ⟨b, o, none⟩ ∧ ∀ j, j < n * 5 → w.cell? ⟨b, o + j, none⟩ = vs[j]?) := h3
  have HV : Hid (∀ j, j < n → AtL false w ((vs.drop (j * 5)).take 5) (row cs 5 j)) := fun j hj => rowVals h1 h2 h4 hj
  have HR : Hid (∀ j, j < n → HasL (row cs 5 j) tyDesc) := fun j hj => hs.rowL hj
  have L2 : Hid (cs.length = n * 5) := h2
  have L1 : Hid (vs.length = n * 5) := h1
  obtain ⟨i0, hi, hz⟩ := Option.map_eq_some_iff.1 dInfoDesc
  obtain ⟨i1, hi', hb1⟩ := Option.map_eq_some_iff.1 dBytesDesc
  obtain rfl : i0 = i1 := Option.some.inj (hi.symm.trans hi')
  have hz0 : i0.zero = some (.agg #[.int .i64 0, .int .i64 0, .slice none 0 0, .int .i64 0, .slice none 0 0]) := congrArg Prod.fst hz
  have hz1 : i0.size = 5 := congrArg Prod.snd hz
  have hz2 : i0.bytes ≤ 1024 := of_decide_eq_true hb1
  have hby : i0.bytes * n ≤ 1024 * 2097152 := Nat.mul_le_mul hz2 hn
  clear h h1 h2 h3 h4 hs hz hb1 hi'
  go_enter Tryz.func44, Tryz.ntmps44
  go_wp2_with (at_make; refine wpList_make_full _ rfl _ _ 36 rfl w.heap.size 137 i0 (.agg #[.int .i64 0, .int .i64 0, .slice none 0 0, .int .i64 0, .slice none 0 0]) 5 Tryz.underlying36 hi hz0 hz1 .i64 .i64 _ _ n rfl rfl rfl rfl (by first | omega | (rw [Nat.mul_comm]; omega)) (by unfold maxLen; omega) (Nat.le_refl _) ?_; intro w1 own1 grow1)
  obtain ⟨ps0, lp0, O0⟩ := own_made (zv := [.int .i64 0, .int .i64 0, .slice none 0 0, .int .i64 0, .slice none 0 0]) (zc := [.i 0, .i 0, .l 139 3 0 [], .i 0, .l 3 1 0 []]) own1 hn rfl (fun j v hv => made_at hv (by decide)) (by
    intro i v c hv hc w'
    have hi : i < 5 := by have := (List.getElem?_eq_some_iff.1 hv).1; simpa using this
    rcases (show i = 0 ∨ i = 1 ∨ i = 2 ∨ i = 3 ∨ i = 4 by omega) with rfl | rfl | rfl | rfl | rfl <;> (simp at hv hc; subst hv hc)
    · exact .i _ _ (fun _ h => h)
    · exact .i _ _ (fun _ h => h)
    · exact .nil _ _ _ (fun _ h => h)
    · exact .i _ _ (fun _ h => h)
    · exact .nil _ _ _ (fun _ h => h))
  have hb1 : Below w.heap.size w w1 := (Below.refl _ _).grown grow1 (Nat.le_refl _) (fun k e => by cases e)
  clear own1 grow1
  go_loopw [4] (fun i wr => ∃ j : Nat, j ≤ n ∧ i = .int .i64 (j : Int) ∧ (∃ ps S, ps.length = n * 5 ∧ ps.take (j * 5) = cs.take (j * 5) ∧ Own wr w.heap.size (.slice (some ⟨w.heap.size, 0, none⟩) n n) (.l 137 5 n ps) S) ∧ Below w.heap.size w wr) (fun i _ => n - (intOf i).toNat)
  case atStart => exact ⟨0, Nat.zero_le _, by simp, ⟨ps0, _, lp0, by simp, O0⟩, hb1⟩
  case round =>
    obtain ⟨j, hj, rfl, ⟨ps, S, lp, tp, ho⟩, hb⟩ := hrel
    clear O0 hb1 lp0
    by_cases hlt : j < n
    · rcases SRC.out with h0 | ⟨p1, o1, rfl, g1⟩
      · omega
      have hk0 : (0 : Int) ≤ (j : Int) := by omega
      have hk1 : (j : Int) < (n : Int) := by omega
      have hA := HV.out j hlt
      have hH := HR.out j hlt
      have hcv : ∀ i, i < 5 → wr.cell? ⟨p1, o1 + (j * 5 + i), none⟩ = ((vs.drop (j * 5)).take 5)[i]? := fun i hi => by
        have hle : j * 5 + 5 ≤ n * 5 := by omega
        have h5 := g1 (j * 5 + i) (by omega)
        rw [List.getElem?_take_of_lt hi, List.getElem?_drop, ← h5]
        have h6 : w.cell? ⟨p1, o1 + (j * 5 + i), none⟩ = some (vs[j * 5 + i]'(by have := L1.out; omega)) := by rw [h5, List.getElem?_eq_getElem (by have := L1.out; omega)]
        exact hb.cell (show p1 < w.heap.size from World.block_lt_of_cell? w _ h6)
      obtain ⟨rs, hrs⟩ : ∃ rs, row cs 5 j = rs := ⟨_, rfl⟩
      obtain ⟨ws, hws⟩ : ∃ ws, (vs.drop (j * 5)).take 5 = ws := ⟨_, rfl⟩
      have HRS : Hid (row cs 5 j = rs) := hrs
      rw [hrs] at hA hH
      rw [hws] at hA hcv
      clear g1 hrs hws
      obtain ⟨c0, r0, rfl, T0, hH0⟩ := hH.cons
      obtain ⟨c1, r1, rfl, T1, hH1⟩ := hH0.cons
      obtain ⟨c2, r2, rfl, T2, hH2⟩ := hH1.cons
      obtain ⟨c3, r3, rfl, T3, hH3⟩ := hH2.cons
      obtain ⟨c4, r4, rfl, T4, hH4⟩ := hH3.cons
      obtain rfl := hH4.nil
      have HL0 : Hid (HasL [c0, c1, c2, c3, c4] tyDesc) := hH
      obtain ⟨v0, vr0, rfl, A0, hA0⟩ := hA.consE
      obtain ⟨v1, vr1, rfl, A1, hA1⟩ := hA0.consE
      obtain ⟨v2, vr2, rfl, A2, hA2⟩ := hA1.consE
      obtain ⟨v3, vr3, rfl, A3, hA3⟩ := hA2.consE
      obtain ⟨v4, vr4, rfl, A4, hA4⟩ := hA3.consE
      obtain rfl := hA4.nilE
      have HA0 : Hid (AtL false w [v0, v1, v2, v3, v4] [c0, c1, c2, c3, c4]) := hA
      have e0 : wr.cell? ⟨p1, o1 + j * 5, none⟩ = some v0 := hcv 0 (by omega)
      have e1 : wr.cell? ⟨p1, o1 + j * 5 + 1, none⟩ = some v1 := hcv 1 (by omega)
      have e2 : wr.cell? ⟨p1, o1 + j * 5 + 2, none⟩ = some v2 := hcv 2 (by omega)
      have e3 : wr.cell? ⟨p1, o1 + j * 5 + 3, none⟩ = some v3 := hcv 3 (by omega)
      have e4 : wr.cell? ⟨p1, o1 + j * 5 + 4, none⟩ = some v4 := hcv 4 (by omega)
      clear hcv hA hH hA0 hH0 hA1 hH1 hA2 hH2 hA3 hH3 hA4 hH4
      have HO : Hid (Own wr w.heap.size (.slice (some ⟨w.heap.size, 0, none⟩) n n) (.l 137 5 n ps) S) := ho
      clear ho
      go_wp2_with fail
      refine (dToDesc [v0, v1, v2, v3, v4] [c0, c1, c2, c3, c4] _ (HA0.out.on hb (Nat.le_refl _)) HL0.out).mono ?_
      rintro e w2 ⟨hb2, us, S', rfl, oL⟩
      have hU := oL.at
      obtain ⟨u0, ur0, rfl, U0, hA0⟩ := hU.consE
      obtain ⟨u1, ur1, rfl, U1, hA1⟩ := hA0.consE
      obtain ⟨u2, ur2, rfl, U2, hA2⟩ := hA1.consE
      obtain ⟨u3, ur3, rfl, U3, hA3⟩ := hA2.consE
      obtain ⟨u4, ur4, rfl, U4, hA4⟩ := hA3.consE
      obtain rfl := hA4.nilE
      obtain ⟨x0, rfl⟩ := T0.int
      obtain ⟨x1, rfl⟩ := T1.int
      have T2' := T2
      obtain ⟨n2, cs2, rfl, -⟩ := T2.list
      obtain ⟨x3, rfl⟩ := T3.int
      have T4' := T4
      obtain ⟨n4, cs4, rfl, -⟩ := T4.list
      obtain rfl := U0.int
      obtain rfl := U1.int
      obtain ⟨q2, m2, rfl⟩ := U2.slice
      obtain rfl := U3.int
      obtain ⟨q4, m4, rfl⟩ := U4.slice
      have O2 := HO.out.on hb2 (Nat.le_refl _)
      have hb02 : Below w.heap.size w w2 := hb.trans (hb2.mono hb.size)
      obtain ⟨pv0, -, hc0, hf0, -⟩ := O2.cell (j := j * 5) (List.getElem?_eq_getElem (by omega))
      obtain ⟨pv1, -, hc1, hf1, -⟩ := O2.cell (j := j * 5 + 1) (List.getElem?_eq_getElem (by omega))
      obtain ⟨pv2, -, hc2, hf2, -⟩ := O2.cell (j := j * 5 + 2) (List.getElem?_eq_getElem (by omega))
      obtain ⟨pv3, -, hc3, hf3, -⟩ := O2.cell (j := j * 5 + 3) (List.getElem?_eq_getElem (by omega))
      obtain ⟨pv4, -, hc4, hf4, -⟩ := O2.cell (j := j * 5 + 4) (List.getElem?_eq_getElem (by omega))
      have OL : Hid (OwnL w2 wr.heap.size [.int .i64 x0, .int .i64 x1, .slice q2 n2 m2, .int .i64 x3, .slice q4 n4 m4] [.i x0, .i x1, .l 139 3 n2 cs2, .i x3, .l 3 1 n4 cs4] S') := oL
      have HO2 : Hid (Own w2 w.heap.size (.slice (some ⟨w.heap.size, 0, none⟩) n n) (.l 137 5 n ps) S) := O2
      have HRS' : Hid (row cs 5 j = [.i x0, .i x1, .l 139 3 n2 cs2, .i x3, .l 3 1 n4 cs4]) := HRS.out
      clear oL O2 hb2 hU e0 e1 e2 e3 e4 
      go_wp2
      go_roundw
      case rel =>
        have slt : ∀ x, S x → x < wr.heap.size := fun x hx => (HO.out.lt x hx).2
        obtain ⟨S'', o'', -⟩ := Own.storeL (p := j * 5) HO2.out (OL.out.weaken hb.size) (fun x hx hx' => by have h1 := (OL.out.lt x hx).1; have h2 := slt x hx'; omega) (by simp; omega)
        have hle : j * 5 + 5 ≤ n * 5 := by omega
        refine ⟨j + 1, by omega, by go_num, ⟨_, S'', ?_, ?_, o''⟩, stores_below (Nat.le_refl _) [.int .i64 x0, .int .i64 x1, .slice q2 n2 m2, .int .i64 x3, .slice q4 n4 m4] w2 (j * 5) hb02⟩
        · rw [over_len]; exact lp
        · have h3 := over_take [.i x0, .i x1, .l 139 3 n2 cs2, .i x3, .l 3 1 n4 cs4] ps (j * 5) (by simp; omega)
          rw [row_split (cs := cs), HRS'.out, ← tp, show (j + 1) * 5 = j * 5 + ([.i x0, .i x1, .l 139 3 n2 cs2, .i x3, .l 3 1 n4 cs4] : List Cel).length by simp; omega]
          exact h3
      case measure => simp [intOf]; omega
    · obtain rfl : j = n := by omega
      have e : ps = cs := by rwa [List.take_of_length_le (by omega), List.take_of_length_le (by have := L2.out; omega)] at tp
      subst e
      go_wp2
      go_ret
      exact ⟨hb, _, S, rfl, ho⟩
end Go.Proofs.YtkbodiggdajbeaaGreatDoor

/- The laws' own functions on data. -/
namespace Go.Proofs.YtkbodiggdajbeaaGreatDoor
open Go.ChangeShapes Go.WideShapes Go.ChangeAt Go.RowKit Go.Joins

theorem dInfoMem : (Tryz.prog.info? 38).map (fun i => (i.zero, i.size)) = some (some (.agg #[.slice none 0 0, .slice none 0 0]), 2) := by kernel_rfl
theorem dBytesMem : (Tryz.prog.info? 38).map (fun i => decide (i.bytes ≤ 1024)) = some true := by kernel_rfl
set_option maxHeartbeats 2000000 in
theorem dToMem (vs : List Value) (cs : List Cel) (w : World) (h : AtL false w vs cs) (hs : HasL cs tyMem) : Calls Tryz.prog 18 #[.agg vs.toArray] w (RetL w cs) := by
  obtain ⟨c0, r0, rfl, T0, hH0⟩ := hs.cons
  obtain ⟨c1, r1, rfl, T1, hH1⟩ := hH0.cons
  obtain rfl := hH1.nil
  obtain ⟨v0, vr0, rfl, A0, hA0⟩ := h.consE
  obtain ⟨v1, vr1, rfl, A1, hA1⟩ := hA0.consE
  obtain rfl := hA1.nilE
  have hA0' : Hid (At false w v0 c0) := A0
  have hA1' : Hid (At false w v1 c1) := A1
  obtain ⟨n0, cs0, rfl, -⟩ := T0.list
  have HT0 : Hid (Has (.l 134 3 n0 cs0) (.l 134 3 tyWord)) := T0
  obtain ⟨n1, cs1, rfl, -⟩ := T1.list
  have HT1 : Hid (Has (.l 137 5 n1 cs1) (.l 137 5 tyDesc)) := T1
  clear hs h hA0 hH0 hA1 hH1 T0 A0 T1 A1
  go_enter Tryz.func18, Tryz.ntmps18
  go_wp2_with fail
  have t0 := mk_new w #[v0, v1] #[.slice none 0 0, .slice none 0 0] #[.slice none 0 0, .slice none 0 0] 25 38
  have m1 := t0
  refine (dToWordS v0 n0 cs0 _ (hA0'.out.on m1.b (Nat.le_refl _)) HT0.out).mono ?_
  rintro e w1 ⟨hb, u0, S0, rfl, ho⟩
  obtain ⟨q0, d0, rfl, -⟩ := ho.slice
  have m1' := m1.call1 hb ho
  have t1 : Hid (Mk w w1 #[v0, v1] #[.slice none 0 0, .slice none 0 0] #[.slice none 0 0, .slice none 0 0] 25 38 _) := m1'
  have ax1_0 : w1.cell? ⟨w.heap.size, 0, none⟩ = some (v0) := t1.out.a.cell 0
  have cx1_0 : w1.cell? ⟨w.heap.size + 1 + 1, 0, none⟩ = some (.slice none 0 0) := t1.out.c.cell 0
  have fx1_0 : w1.frozen? ⟨w.heap.size + 1 + 1, 0, none⟩ = false := t1.out.c.frozen 0
  have ax1_1 : w1.cell? ⟨w.heap.size, 1, none⟩ = some (v1) := t1.out.a.cell 1
  have cx1_1 : w1.cell? ⟨w.heap.size + 1 + 1, 1, none⟩ = some (.slice none 0 0) := t1.out.c.cell 1
  have fx1_1 : w1.frozen? ⟨w.heap.size + 1 + 1, 1, none⟩ = false := t1.out.c.frozen 1
  have zx1_0 : w1.cell? ⟨w.heap.size + 1, 0, none⟩ = some (.slice none 0 0) := t1.out.z.cell 0
  have gx1_0 : w1.frozen? ⟨w.heap.size + 1, 0, none⟩ = false := t1.out.z.frozen 0
  have zx1_1 : w1.cell? ⟨w.heap.size + 1, 1, none⟩ = some (.slice none 0 0) := t1.out.z.cell 1
  have gx1_1 : w1.frozen? ⟨w.heap.size + 1, 1, none⟩ = false := t1.out.z.frozen 1
  clear m1 m1' hb ho t0 
  go_wp2_with fail
  have t1' := (t1.out.store 0 (.slice q0 n0 d0))
  have t1 : Hid (Mk w _ _ _ _ 25 38 _) := t1'
  clear t1'
  have m2 := t1.out
  refine (dToDescS v1 n1 cs1 _ (hA1'.out.on m2.b (Nat.le_refl _)) HT1.out).mono ?_
  rintro e w2 ⟨hb, u1, S1, rfl, ho⟩
  obtain ⟨q1, d1, rfl, -⟩ := ho.slice
  have m2' := m2.call1 hb ho
  have t2 : Hid (Mk w w2 #[v0, v1] #[.slice none 0 0, .slice none 0 0] #[(.slice q0 n0 d0), .slice none 0 0] 25 38 _) := m2'
  have ax2_0 : w2.cell? ⟨w.heap.size, 0, none⟩ = some (v0) := t2.out.a.cell 0
  have cx2_0 : w2.cell? ⟨w.heap.size + 1 + 1, 0, none⟩ = some ((.slice q0 n0 d0)) := t2.out.c.cell 0
  have fx2_0 : w2.frozen? ⟨w.heap.size + 1 + 1, 0, none⟩ = false := t2.out.c.frozen 0
  have ax2_1 : w2.cell? ⟨w.heap.size, 1, none⟩ = some (v1) := t2.out.a.cell 1
  have cx2_1 : w2.cell? ⟨w.heap.size + 1 + 1, 1, none⟩ = some (.slice none 0 0) := t2.out.c.cell 1
  have fx2_1 : w2.frozen? ⟨w.heap.size + 1 + 1, 1, none⟩ = false := t2.out.c.frozen 1
  have zx2_0 : w2.cell? ⟨w.heap.size + 1, 0, none⟩ = some (.slice none 0 0) := t2.out.z.cell 0
  have gx2_0 : w2.frozen? ⟨w.heap.size + 1, 0, none⟩ = false := t2.out.z.frozen 0
  have zx2_1 : w2.cell? ⟨w.heap.size + 1, 1, none⟩ = some (.slice none 0 0) := t2.out.z.cell 1
  have gx2_1 : w2.frozen? ⟨w.heap.size + 1, 1, none⟩ = false := t2.out.z.frozen 1
  clear m2 m2' hb ho  ax1_0 cx1_0 fx1_0 zx1_0 gx1_0 ax1_1 cx1_1 fx1_1 zx1_1 gx1_1
  go_wp2
  (try simp only [Exit.inBlock, Exit.then])
  refine bodyPost_ret (by simp [results, Tryz.results18, go_sem, zx2_0, zx2_1]; try rfl) rfl ?_
  have m := (((t2.out.store 1 ((.slice q1 n1 d1))).storeZ 0 ((.slice q0 n0 d0))).storeZ 1 ((.slice q1 n1 d1)))
  exact ⟨m.b, [(.slice q0 n0 d0), (.slice q1 n1 d1)], _, rfl, m.all⟩
theorem dInfoCall : (Tryz.prog.info? 61).map (fun i => (i.zero, i.size)) = some (some (.agg #[.int .i64 0, .int .i64 0, .int .i64 0, .int .i64 0, .int .i64 0, .int .i64 0, .int .i64 0, .int .i64 0, .slice none 0 0]), 9) := by kernel_rfl
theorem dBytesCall : (Tryz.prog.info? 61).map (fun i => decide (i.bytes ≤ 1024)) = some true := by kernel_rfl
set_option maxHeartbeats 2000000 in
theorem dToCall (vs : List Value) (cs : List Cel) (w : World) (h : AtL false w vs cs) (hs : HasL cs tyCall) : Calls Tryz.prog 46 #[.agg vs.toArray] w (RetL w cs) := by
  obtain ⟨c0, r0, rfl, T0, hH0⟩ := hs.cons
  obtain ⟨c1, r1, rfl, T1, hH1⟩ := hH0.cons
  obtain ⟨c2, r2, rfl, T2, hH2⟩ := hH1.cons
  obtain ⟨c3, r3, rfl, T3, hH3⟩ := hH2.cons
  obtain ⟨c4, r4, rfl, T4, hH4⟩ := hH3.cons
  obtain ⟨c5, r5, rfl, T5, hH5⟩ := hH4.cons
  obtain ⟨c6, r6, rfl, T6, hH6⟩ := hH5.cons
  obtain ⟨c7, r7, rfl, T7, hH7⟩ := hH6.cons
  obtain ⟨c8, r8, rfl, T8, hH8⟩ := hH7.cons
  obtain rfl := hH8.nil
  obtain ⟨v0, vr0, rfl, A0, hA0⟩ := h.consE
  obtain ⟨v1, vr1, rfl, A1, hA1⟩ := hA0.consE
  obtain ⟨v2, vr2, rfl, A2, hA2⟩ := hA1.consE
  obtain ⟨v3, vr3, rfl, A3, hA3⟩ := hA2.consE
  obtain ⟨v4, vr4, rfl, A4, hA4⟩ := hA3.consE
  obtain ⟨v5, vr5, rfl, A5, hA5⟩ := hA4.consE
  obtain ⟨v6, vr6, rfl, A6, hA6⟩ := hA5.consE
  obtain ⟨v7, vr7, rfl, A7, hA7⟩ := hA6.consE
  obtain ⟨v8, vr8, rfl, A8, hA8⟩ := hA7.consE
  obtain rfl := hA8.nilE
  obtain ⟨x0, rfl⟩ := T0.int
  obtain rfl := A0.int
  obtain ⟨x1, rfl⟩ := T1.int
  obtain rfl := A1.int
  obtain ⟨x2, rfl⟩ := T2.int
  obtain rfl := A2.int
  obtain ⟨x3, rfl⟩ := T3.int
  obtain rfl := A3.int
  obtain ⟨x4, rfl⟩ := T4.int
  obtain rfl := A4.int
  obtain ⟨x5, rfl⟩ := T5.int
  obtain rfl := A5.int
  obtain ⟨x6, rfl⟩ := T6.int
  obtain rfl := A6.int
  obtain ⟨x7, rfl⟩ := T7.int
  obtain rfl := A7.int
  have hA8' : Hid (At false w v8 c8) := A8
  obtain ⟨n8, cs8, rfl, -⟩ := T8.list
  have HT8 : Hid (Has (.l 3 1 n8 cs8) (.l 3 1 [.i])) := T8
  have HN1 : Hid (AtL false w [.int .i64 x1, .int .i64 x2, .int .i64 x3] [.i x1, .i x2, .i x3]) := AtL.cons (.i x1) (AtL.cons (.i x2) (AtL.cons (.i x3) (AtL.nil)))
  have HH1 : Hid (HasL [.i x1, .i x2, .i x3] tyOp) := ⟨rfl, fun j c t hc ht => by
    have hj : j < 3 := by have := (List.getElem?_eq_some_iff.1 hc).1; simpa using this
    rcases (show j = 0 ∨ j = 1 ∨ j = 2 by omega) with rfl | rfl | rfl <;> (simp [tyOp] at hc ht; subst hc ht)
    · exact .i x1
    · exact .i x2
    · exact .i x3⟩
  have HN7 : Hid (AtL false w [.int .i64 x7, v8] [.i x7, .l 3 1 n8 cs8]) := AtL.cons (.i x7) (AtL.cons (hA8'.out) (AtL.nil))
  have HH7 : Hid (HasL [.i x7, .l 3 1 n8 cs8] tyRes) := ⟨rfl, fun j c t hc ht => by
    have hj : j < 2 := by have := (List.getElem?_eq_some_iff.1 hc).1; simpa using this
    rcases (show j = 0 ∨ j = 1 by omega) with rfl | rfl <;> (simp [tyRes] at hc ht; subst hc ht)
    · exact .i x7
    · exact HT8.out⟩
  clear hs h hA0 hH0 hA1 hH1 hA2 hH2 hA3 hH3 hA4 hH4 hA5 hH5 hA6 hH6 hA7 hH7 hA8 hH8 T8 A8
  go_enter Tryz.func46, Tryz.ntmps46
  go_wp2_with fail
  have t0 := mk_new w #[.int .i64 x0, .int .i64 x1, .int .i64 x2, .int .i64 x3, .int .i64 x4, .int .i64 x5, .int .i64 x6, .int .i64 x7, v8] #[.int .i64 0, .int .i64 0, .int .i64 0, .int .i64 0, .int .i64 0, .int .i64 0, .int .i64 0, .int .i64 0, .slice none 0 0] #[.int .i64 x0, .int .i64 0, .int .i64 0, .int .i64 0, .int .i64 0, .int .i64 0, .int .i64 0, .int .i64 0, .slice none 0 0] 87 61
  have m1 := (t0.num (v := .int .i64 x0) (c := .i x0) (fun _ => .i x0 _ (fun _ h => h)))
  refine (dToOp [.int .i64 x1, .int .i64 x2, .int .i64 x3] [.i x1, .i x2, .i x3] _ (HN1.out.on m1.b (Nat.le_refl _)) HH1.out).mono ?_
  rintro e w1 ⟨hb, us, S1, rfl, ho⟩
  have hU := ho.at
  obtain ⟨u1, ur1, rfl, U1, hU1⟩ := hU.consE
  obtain ⟨u2, ur2, rfl, U2, hU2⟩ := hU1.consE
  obtain ⟨u3, ur3, rfl, U3, hU3⟩ := hU2.consE
  obtain rfl := hU3.nilE
  obtain rfl := U1.int
  obtain rfl := U2.int
  obtain rfl := U3.int
  have m1' := m1.call hb ho
  clear hU U1 hU1 U2 hU2 U3 hU3
  have t1 : Hid (Mk w w1 #[.int .i64 x0, .int .i64 x1, .int .i64 x2, .int .i64 x3, .int .i64 x4, .int .i64 x5, .int .i64 x6, .int .i64 x7, v8] #[.int .i64 0, .int .i64 0, .int .i64 0, .int .i64 0, .int .i64 0, .int .i64 0, .int .i64 0, .int .i64 0, .slice none 0 0] #[.int .i64 x0, .int .i64 0, .int .i64 0, .int .i64 0, .int .i64 0, .int .i64 0, .int .i64 0, .int .i64 0, .slice none 0 0] 87 61 _) := m1'
  have ax1_0 : w1.cell? ⟨w.heap.size, 0, none⟩ = some (.int .i64 x0) := t1.out.a.cell 0
  have cx1_0 : w1.cell? ⟨w.heap.size + 1 + 1, 0, none⟩ = some (.int .i64 x0) := t1.out.c.cell 0
  have fx1_0 : w1.frozen? ⟨w.heap.size + 1 + 1, 0, none⟩ = false := t1.out.c.frozen 0
  have ax1_1 : w1.cell? ⟨w.heap.size, 1, none⟩ = some (.int .i64 x1) := t1.out.a.cell 1
  have cx1_1 : w1.cell? ⟨w.heap.size + 1 + 1, 1, none⟩ = some (.int .i64 0) := t1.out.c.cell 1
  have fx1_1 : w1.frozen? ⟨w.heap.size + 1 + 1, 1, none⟩ = false := t1.out.c.frozen 1
  have ax1_2 : w1.cell? ⟨w.heap.size, 2, none⟩ = some (.int .i64 x2) := t1.out.a.cell 2
  have cx1_2 : w1.cell? ⟨w.heap.size + 1 + 1, 2, none⟩ = some (.int .i64 0) := t1.out.c.cell 2
  have fx1_2 : w1.frozen? ⟨w.heap.size + 1 + 1, 2, none⟩ = false := t1.out.c.frozen 2
  have ax1_3 : w1.cell? ⟨w.heap.size, 3, none⟩ = some (.int .i64 x3) := t1.out.a.cell 3
  have cx1_3 : w1.cell? ⟨w.heap.size + 1 + 1, 3, none⟩ = some (.int .i64 0) := t1.out.c.cell 3
  have fx1_3 : w1.frozen? ⟨w.heap.size + 1 + 1, 3, none⟩ = false := t1.out.c.frozen 3
  have ax1_4 : w1.cell? ⟨w.heap.size, 4, none⟩ = some (.int .i64 x4) := t1.out.a.cell 4
  have cx1_4 : w1.cell? ⟨w.heap.size + 1 + 1, 4, none⟩ = some (.int .i64 0) := t1.out.c.cell 4
  have fx1_4 : w1.frozen? ⟨w.heap.size + 1 + 1, 4, none⟩ = false := t1.out.c.frozen 4
  have ax1_5 : w1.cell? ⟨w.heap.size, 5, none⟩ = some (.int .i64 x5) := t1.out.a.cell 5
  have cx1_5 : w1.cell? ⟨w.heap.size + 1 + 1, 5, none⟩ = some (.int .i64 0) := t1.out.c.cell 5
  have fx1_5 : w1.frozen? ⟨w.heap.size + 1 + 1, 5, none⟩ = false := t1.out.c.frozen 5
  have ax1_6 : w1.cell? ⟨w.heap.size, 6, none⟩ = some (.int .i64 x6) := t1.out.a.cell 6
  have cx1_6 : w1.cell? ⟨w.heap.size + 1 + 1, 6, none⟩ = some (.int .i64 0) := t1.out.c.cell 6
  have fx1_6 : w1.frozen? ⟨w.heap.size + 1 + 1, 6, none⟩ = false := t1.out.c.frozen 6
  have ax1_7 : w1.cell? ⟨w.heap.size, 7, none⟩ = some (.int .i64 x7) := t1.out.a.cell 7
  have cx1_7 : w1.cell? ⟨w.heap.size + 1 + 1, 7, none⟩ = some (.int .i64 0) := t1.out.c.cell 7
  have fx1_7 : w1.frozen? ⟨w.heap.size + 1 + 1, 7, none⟩ = false := t1.out.c.frozen 7
  have ax1_8 : w1.cell? ⟨w.heap.size, 8, none⟩ = some (v8) := t1.out.a.cell 8
  have cx1_8 : w1.cell? ⟨w.heap.size + 1 + 1, 8, none⟩ = some (.slice none 0 0) := t1.out.c.cell 8
  have fx1_8 : w1.frozen? ⟨w.heap.size + 1 + 1, 8, none⟩ = false := t1.out.c.frozen 8
  have zx1_0 : w1.cell? ⟨w.heap.size + 1, 0, none⟩ = some (.int .i64 0) := t1.out.z.cell 0
  have gx1_0 : w1.frozen? ⟨w.heap.size + 1, 0, none⟩ = false := t1.out.z.frozen 0
  have zx1_1 : w1.cell? ⟨w.heap.size + 1, 1, none⟩ = some (.int .i64 0) := t1.out.z.cell 1
  have gx1_1 : w1.frozen? ⟨w.heap.size + 1, 1, none⟩ = false := t1.out.z.frozen 1
  have zx1_2 : w1.cell? ⟨w.heap.size + 1, 2, none⟩ = some (.int .i64 0) := t1.out.z.cell 2
  have gx1_2 : w1.frozen? ⟨w.heap.size + 1, 2, none⟩ = false := t1.out.z.frozen 2
  have zx1_3 : w1.cell? ⟨w.heap.size + 1, 3, none⟩ = some (.int .i64 0) := t1.out.z.cell 3
  have gx1_3 : w1.frozen? ⟨w.heap.size + 1, 3, none⟩ = false := t1.out.z.frozen 3
  have zx1_4 : w1.cell? ⟨w.heap.size + 1, 4, none⟩ = some (.int .i64 0) := t1.out.z.cell 4
  have gx1_4 : w1.frozen? ⟨w.heap.size + 1, 4, none⟩ = false := t1.out.z.frozen 4
  have zx1_5 : w1.cell? ⟨w.heap.size + 1, 5, none⟩ = some (.int .i64 0) := t1.out.z.cell 5
  have gx1_5 : w1.frozen? ⟨w.heap.size + 1, 5, none⟩ = false := t1.out.z.frozen 5
  have zx1_6 : w1.cell? ⟨w.heap.size + 1, 6, none⟩ = some (.int .i64 0) := t1.out.z.cell 6
  have gx1_6 : w1.frozen? ⟨w.heap.size + 1, 6, none⟩ = false := t1.out.z.frozen 6
  have zx1_7 : w1.cell? ⟨w.heap.size + 1, 7, none⟩ = some (.int .i64 0) := t1.out.z.cell 7
  have gx1_7 : w1.frozen? ⟨w.heap.size + 1, 7, none⟩ = false := t1.out.z.frozen 7
  have zx1_8 : w1.cell? ⟨w.heap.size + 1, 8, none⟩ = some (.slice none 0 0) := t1.out.z.cell 8
  have gx1_8 : w1.frozen? ⟨w.heap.size + 1, 8, none⟩ = false := t1.out.z.frozen 8
  clear m1 m1' hb ho t0 
  go_wp2_with fail
  have t1' := (((t1.out.store 1 (.int .i64 x1)).store 2 (.int .i64 x2)).store 3 (.int .i64 x3))
  have t1 : Hid (Mk w _ _ _ _ 87 61 _) := t1'
  clear t1'
  have m2 := ((((((t1.out.store 4 (.int .i64 x4)).store 5 (.int .i64 x5)).store 6 (.int .i64 x6)).num (v := .int .i64 x4) (c := .i x4) (fun _ => .i x4 _ (fun _ h => h))).num (v := .int .i64 x5) (c := .i x5) (fun _ => .i x5 _ (fun _ h => h))).num (v := .int .i64 x6) (c := .i x6) (fun _ => .i x6 _ (fun _ h => h)))
  refine (dToRes [.int .i64 x7, v8] [.i x7, .l 3 1 n8 cs8] _ (HN7.out.on m2.b (Nat.le_refl _)) HH7.out).mono ?_
  rintro e w2 ⟨hb, us, S7, rfl, ho⟩
  have hU := ho.at
  obtain ⟨u7, ur7, rfl, U7, hU7⟩ := hU.consE
  obtain ⟨u8, ur8, rfl, U8, hU8⟩ := hU7.consE
  obtain rfl := hU8.nilE
  obtain rfl := U7.int
  obtain ⟨q8, d8, rfl⟩ := U8.slice
  have m2' := m2.call hb ho
  clear hU U7 hU7 U8 hU8
  have t2 : Hid (Mk w w2 #[.int .i64 x0, .int .i64 x1, .int .i64 x2, .int .i64 x3, .int .i64 x4, .int .i64 x5, .int .i64 x6, .int .i64 x7, v8] #[.int .i64 0, .int .i64 0, .int .i64 0, .int .i64 0, .int .i64 0, .int .i64 0, .int .i64 0, .int .i64 0, .slice none 0 0] #[.int .i64 x0, (.int .i64 x1), (.int .i64 x2), (.int .i64 x3), .int .i64 x4, .int .i64 x5, .int .i64 x6, .int .i64 0, .slice none 0 0] 87 61 _) := m2'
  have ax2_0 : w2.cell? ⟨w.heap.size, 0, none⟩ = some (.int .i64 x0) := t2.out.a.cell 0
  have cx2_0 : w2.cell? ⟨w.heap.size + 1 + 1, 0, none⟩ = some (.int .i64 x0) := t2.out.c.cell 0
  have fx2_0 : w2.frozen? ⟨w.heap.size + 1 + 1, 0, none⟩ = false := t2.out.c.frozen 0
  have ax2_1 : w2.cell? ⟨w.heap.size, 1, none⟩ = some (.int .i64 x1) := t2.out.a.cell 1
  have cx2_1 : w2.cell? ⟨w.heap.size + 1 + 1, 1, none⟩ = some ((.int .i64 x1)) := t2.out.c.cell 1
  have fx2_1 : w2.frozen? ⟨w.heap.size + 1 + 1, 1, none⟩ = false := t2.out.c.frozen 1
  have ax2_2 : w2.cell? ⟨w.heap.size, 2, none⟩ = some (.int .i64 x2) := t2.out.a.cell 2
  have cx2_2 : w2.cell? ⟨w.heap.size + 1 + 1, 2, none⟩ = some ((.int .i64 x2)) := t2.out.c.cell 2
  have fx2_2 : w2.frozen? ⟨w.heap.size + 1 + 1, 2, none⟩ = false := t2.out.c.frozen 2
  have ax2_3 : w2.cell? ⟨w.heap.size, 3, none⟩ = some (.int .i64 x3) := t2.out.a.cell 3
  have cx2_3 : w2.cell? ⟨w.heap.size + 1 + 1, 3, none⟩ = some ((.int .i64 x3)) := t2.out.c.cell 3
  have fx2_3 : w2.frozen? ⟨w.heap.size + 1 + 1, 3, none⟩ = false := t2.out.c.frozen 3
  have ax2_4 : w2.cell? ⟨w.heap.size, 4, none⟩ = some (.int .i64 x4) := t2.out.a.cell 4
  have cx2_4 : w2.cell? ⟨w.heap.size + 1 + 1, 4, none⟩ = some (.int .i64 x4) := t2.out.c.cell 4
  have fx2_4 : w2.frozen? ⟨w.heap.size + 1 + 1, 4, none⟩ = false := t2.out.c.frozen 4
  have ax2_5 : w2.cell? ⟨w.heap.size, 5, none⟩ = some (.int .i64 x5) := t2.out.a.cell 5
  have cx2_5 : w2.cell? ⟨w.heap.size + 1 + 1, 5, none⟩ = some (.int .i64 x5) := t2.out.c.cell 5
  have fx2_5 : w2.frozen? ⟨w.heap.size + 1 + 1, 5, none⟩ = false := t2.out.c.frozen 5
  have ax2_6 : w2.cell? ⟨w.heap.size, 6, none⟩ = some (.int .i64 x6) := t2.out.a.cell 6
  have cx2_6 : w2.cell? ⟨w.heap.size + 1 + 1, 6, none⟩ = some (.int .i64 x6) := t2.out.c.cell 6
  have fx2_6 : w2.frozen? ⟨w.heap.size + 1 + 1, 6, none⟩ = false := t2.out.c.frozen 6
  have ax2_7 : w2.cell? ⟨w.heap.size, 7, none⟩ = some (.int .i64 x7) := t2.out.a.cell 7
  have cx2_7 : w2.cell? ⟨w.heap.size + 1 + 1, 7, none⟩ = some (.int .i64 0) := t2.out.c.cell 7
  have fx2_7 : w2.frozen? ⟨w.heap.size + 1 + 1, 7, none⟩ = false := t2.out.c.frozen 7
  have ax2_8 : w2.cell? ⟨w.heap.size, 8, none⟩ = some (v8) := t2.out.a.cell 8
  have cx2_8 : w2.cell? ⟨w.heap.size + 1 + 1, 8, none⟩ = some (.slice none 0 0) := t2.out.c.cell 8
  have fx2_8 : w2.frozen? ⟨w.heap.size + 1 + 1, 8, none⟩ = false := t2.out.c.frozen 8
  have zx2_0 : w2.cell? ⟨w.heap.size + 1, 0, none⟩ = some (.int .i64 0) := t2.out.z.cell 0
  have gx2_0 : w2.frozen? ⟨w.heap.size + 1, 0, none⟩ = false := t2.out.z.frozen 0
  have zx2_1 : w2.cell? ⟨w.heap.size + 1, 1, none⟩ = some (.int .i64 0) := t2.out.z.cell 1
  have gx2_1 : w2.frozen? ⟨w.heap.size + 1, 1, none⟩ = false := t2.out.z.frozen 1
  have zx2_2 : w2.cell? ⟨w.heap.size + 1, 2, none⟩ = some (.int .i64 0) := t2.out.z.cell 2
  have gx2_2 : w2.frozen? ⟨w.heap.size + 1, 2, none⟩ = false := t2.out.z.frozen 2
  have zx2_3 : w2.cell? ⟨w.heap.size + 1, 3, none⟩ = some (.int .i64 0) := t2.out.z.cell 3
  have gx2_3 : w2.frozen? ⟨w.heap.size + 1, 3, none⟩ = false := t2.out.z.frozen 3
  have zx2_4 : w2.cell? ⟨w.heap.size + 1, 4, none⟩ = some (.int .i64 0) := t2.out.z.cell 4
  have gx2_4 : w2.frozen? ⟨w.heap.size + 1, 4, none⟩ = false := t2.out.z.frozen 4
  have zx2_5 : w2.cell? ⟨w.heap.size + 1, 5, none⟩ = some (.int .i64 0) := t2.out.z.cell 5
  have gx2_5 : w2.frozen? ⟨w.heap.size + 1, 5, none⟩ = false := t2.out.z.frozen 5
  have zx2_6 : w2.cell? ⟨w.heap.size + 1, 6, none⟩ = some (.int .i64 0) := t2.out.z.cell 6
  have gx2_6 : w2.frozen? ⟨w.heap.size + 1, 6, none⟩ = false := t2.out.z.frozen 6
  have zx2_7 : w2.cell? ⟨w.heap.size + 1, 7, none⟩ = some (.int .i64 0) := t2.out.z.cell 7
  have gx2_7 : w2.frozen? ⟨w.heap.size + 1, 7, none⟩ = false := t2.out.z.frozen 7
  have zx2_8 : w2.cell? ⟨w.heap.size + 1, 8, none⟩ = some (.slice none 0 0) := t2.out.z.cell 8
  have gx2_8 : w2.frozen? ⟨w.heap.size + 1, 8, none⟩ = false := t2.out.z.frozen 8
  clear m2 m2' hb ho  ax1_0 cx1_0 fx1_0 zx1_0 gx1_0 ax1_1 cx1_1 fx1_1 zx1_1 gx1_1 ax1_2 cx1_2 fx1_2 zx1_2 gx1_2 ax1_3 cx1_3 fx1_3 zx1_3 gx1_3 ax1_4 cx1_4 fx1_4 zx1_4 gx1_4 ax1_5 cx1_5 fx1_5 zx1_5 gx1_5 ax1_6 cx1_6 fx1_6 zx1_6 gx1_6 ax1_7 cx1_7 fx1_7 zx1_7 gx1_7 ax1_8 cx1_8 fx1_8 zx1_8 gx1_8
  go_wp2
  (try simp only [Exit.inBlock, Exit.then])
  refine bodyPost_ret (by simp [results, Tryz.results46, go_sem, zx2_0, zx2_1, zx2_2, zx2_3, zx2_4, zx2_5, zx2_6, zx2_7, zx2_8]; try rfl) rfl ?_
  have m := (((((((((((t2.out.store 7 ((.int .i64 x7))).store 8 ((.slice q8 n8 d8))).storeZ 0 (.int .i64 x0)).storeZ 1 ((.int .i64 x1))).storeZ 2 ((.int .i64 x2))).storeZ 3 ((.int .i64 x3))).storeZ 4 (.int .i64 x4)).storeZ 5 (.int .i64 x5)).storeZ 6 (.int .i64 x6)).storeZ 7 ((.int .i64 x7))).storeZ 8 ((.slice q8 n8 d8)))
  exact ⟨m.b, [.int .i64 x0, (.int .i64 x1), (.int .i64 x2), (.int .i64 x3), .int .i64 x4, .int .i64 x5, .int .i64 x6, (.int .i64 x7), (.slice q8 n8 d8)], _, rfl, m.all⟩
set_option maxHeartbeats 1000000 in
theorem dToCallS (v : Value) (n : Nat) (cs : List Cel) (w : World) (h : At false w v (.l 61 9 n cs)) (hs : Has (.l 61 9 n cs) (.l 61 9 tyCall)) :
    Calls Tryz.prog 20 #[v] w (Ret w (.l 61 9 n cs)) := by
  obtain ⟨a, c, vs, rfl, h1, h2, hn, -, h3, h4⟩ := h.openL
  have SRC : Hid (n = 0 ∨ ∃ b o, a = some ⟨b, o, none⟩ ∧ ∀ j, j < n * 9 → w.cell? ⟨b, o + j, none⟩ = vs[j]?) := h3
  have HV : Hid (∀ j, j < n → AtL false w ((vs.drop (j * 9)).take 9) (row cs 9 j)) := fun j hj => rowVals h1 h2 h4 hj
  have HR : Hid (∀ j, j < n → HasL (row cs 9 j) tyCall) := fun j hj => hs.rowL hj
  have L2 : Hid (cs.length = n * 9) := h2
  have L1 : Hid (vs.length = n * 9) := h1
  obtain ⟨i0, hi, hz⟩ := Option.map_eq_some_iff.1 dInfoCall
  obtain ⟨i1, hi', hb1⟩ := Option.map_eq_some_iff.1 dBytesCall
  obtain rfl : i0 = i1 := Option.some.inj (hi.symm.trans hi')
  have hz0 : i0.zero = some (.agg #[.int .i64 0, .int .i64 0, .int .i64 0, .int .i64 0, .int .i64 0, .int .i64 0, .int .i64 0, .int .i64 0, .slice none 0 0]) := congrArg Prod.fst hz
  have hz1 : i0.size = 9 := congrArg Prod.snd hz
  have hz2 : i0.bytes ≤ 1024 := of_decide_eq_true hb1
  have hby : i0.bytes * n ≤ 1024 * 2097152 := Nat.mul_le_mul hz2 hn
  clear h h1 h2 h3 h4 hs hz hb1 hi'
  go_enter Tryz.func20, Tryz.ntmps20
  go_wp2_with (at_make; refine wpList_make_full _ rfl _ _ 40 rfl w.heap.size 61 i0 (.agg #[.int .i64 0, .int .i64 0, .int .i64 0, .int .i64 0, .int .i64 0, .int .i64 0, .int .i64 0, .int .i64 0, .slice none 0 0]) 9 Tryz.underlying40 hi hz0 hz1 .i64 .i64 _ _ n rfl rfl rfl rfl (by first | omega | (rw [Nat.mul_comm]; omega)) (by unfold maxLen; omega) (Nat.le_refl _) ?_; intro w1 own1 grow1)
  obtain ⟨ps0, lp0, O0⟩ := own_made (zv := [.int .i64 0, .int .i64 0, .int .i64 0, .int .i64 0, .int .i64 0, .int .i64 0, .int .i64 0, .int .i64 0, .slice none 0 0]) (zc := [.i 0, .i 0, .i 0, .i 0, .i 0, .i 0, .i 0, .i 0, .l 3 1 0 []]) own1 hn rfl (fun j v hv => made_at hv (by decide)) (by
    intro i v c hv hc w'
    have hi : i < 9 := by have := (List.getElem?_eq_some_iff.1 hv).1; simpa using this
    rcases (show i = 0 ∨ i = 1 ∨ i = 2 ∨ i = 3 ∨ i = 4 ∨ i = 5 ∨ i = 6 ∨ i = 7 ∨ i = 8 by omega) with rfl | rfl | rfl | rfl | rfl | rfl | rfl | rfl | rfl <;> (simp at hv hc; subst hv hc)
    · exact .i _ _ (fun _ h => h)
    · exact .i _ _ (fun _ h => h)
    · exact .i _ _ (fun _ h => h)
    · exact .i _ _ (fun _ h => h)
    · exact .i _ _ (fun _ h => h)
    · exact .i _ _ (fun _ h => h)
    · exact .i _ _ (fun _ h => h)
    · exact .i _ _ (fun _ h => h)
    · exact .nil _ _ _ (fun _ h => h))
  have hb1 : Below w.heap.size w w1 := (Below.refl _ _).grown grow1 (Nat.le_refl _) (fun k e => by cases e)
  clear own1 grow1
  go_loopw [4] (fun i wr => ∃ j : Nat, j ≤ n ∧ i = .int .i64 (j : Int) ∧ (∃ ps S, ps.length = n * 9 ∧ ps.take (j * 9) = cs.take (j * 9) ∧ Own wr w.heap.size (.slice (some ⟨w.heap.size, 0, none⟩) n n) (.l 61 9 n ps) S) ∧ Below w.heap.size w wr) (fun i _ => n - (intOf i).toNat)
  case atStart => exact ⟨0, Nat.zero_le _, by simp, ⟨ps0, _, lp0, by simp, O0⟩, hb1⟩
  case round =>
    obtain ⟨j, hj, rfl, ⟨ps, S, lp, tp, ho⟩, hb⟩ := hrel
    clear O0 hb1 lp0
    by_cases hlt : j < n
    · rcases SRC.out with h0 | ⟨p1, o1, rfl, g1⟩
      · omega
      have hk0 : (0 : Int) ≤ (j : Int) := by omega
      have hk1 : (j : Int) < (n : Int) := by omega
      have hA := HV.out j hlt
      have hH := HR.out j hlt
      have hcv : ∀ i, i < 9 → wr.cell? ⟨p1, o1 + (j * 9 + i), none⟩ = ((vs.drop (j * 9)).take 9)[i]? := fun i hi => by
        have hle : j * 9 + 9 ≤ n * 9 := by omega
        have h5 := g1 (j * 9 + i) (by omega)
        rw [List.getElem?_take_of_lt hi, List.getElem?_drop, ← h5]
        have h6 : w.cell? ⟨p1, o1 + (j * 9 + i), none⟩ = some (vs[j * 9 + i]'(by have := L1.out; omega)) := by rw [h5, List.getElem?_eq_getElem (by have := L1.out; omega)]
        exact hb.cell (show p1 < w.heap.size from World.block_lt_of_cell? w _ h6)
      obtain ⟨rs, hrs⟩ : ∃ rs, row cs 9 j = rs := ⟨_, rfl⟩
      obtain ⟨ws, hws⟩ : ∃ ws, (vs.drop (j * 9)).take 9 = ws := ⟨_, rfl⟩
      have HRS : Hid (row cs 9 j = rs) := hrs
      rw [hrs] at hA hH
      rw [hws] at hA hcv
      clear g1 hrs hws
      obtain ⟨c0, r0, rfl, T0, hH0⟩ := hH.cons
      obtain ⟨c1, r1, rfl, T1, hH1⟩ := hH0.cons
      obtain ⟨c2, r2, rfl, T2, hH2⟩ := hH1.cons
      obtain ⟨c3, r3, rfl, T3, hH3⟩ := hH2.cons
      obtain ⟨c4, r4, rfl, T4, hH4⟩ := hH3.cons
      obtain ⟨c5, r5, rfl, T5, hH5⟩ := hH4.cons
      obtain ⟨c6, r6, rfl, T6, hH6⟩ := hH5.cons
      obtain ⟨c7, r7, rfl, T7, hH7⟩ := hH6.cons
      obtain ⟨c8, r8, rfl, T8, hH8⟩ := hH7.cons
      obtain rfl := hH8.nil
      have HL0 : Hid (HasL [c0, c1, c2, c3, c4, c5, c6, c7, c8] tyCall) := hH
      obtain ⟨v0, vr0, rfl, A0, hA0⟩ := hA.consE
      obtain ⟨v1, vr1, rfl, A1, hA1⟩ := hA0.consE
      obtain ⟨v2, vr2, rfl, A2, hA2⟩ := hA1.consE
      obtain ⟨v3, vr3, rfl, A3, hA3⟩ := hA2.consE
      obtain ⟨v4, vr4, rfl, A4, hA4⟩ := hA3.consE
      obtain ⟨v5, vr5, rfl, A5, hA5⟩ := hA4.consE
      obtain ⟨v6, vr6, rfl, A6, hA6⟩ := hA5.consE
      obtain ⟨v7, vr7, rfl, A7, hA7⟩ := hA6.consE
      obtain ⟨v8, vr8, rfl, A8, hA8⟩ := hA7.consE
      obtain rfl := hA8.nilE
      have HA0 : Hid (AtL false w [v0, v1, v2, v3, v4, v5, v6, v7, v8] [c0, c1, c2, c3, c4, c5, c6, c7, c8]) := hA
      have e0 : wr.cell? ⟨p1, o1 + j * 9, none⟩ = some v0 := hcv 0 (by omega)
      have e1 : wr.cell? ⟨p1, o1 + j * 9 + 1, none⟩ = some v1 := hcv 1 (by omega)
      have e2 : wr.cell? ⟨p1, o1 + j * 9 + 2, none⟩ = some v2 := hcv 2 (by omega)
      have e3 : wr.cell? ⟨p1, o1 + j * 9 + 3, none⟩ = some v3 := hcv 3 (by omega)
      have e4 : wr.cell? ⟨p1, o1 + j * 9 + 4, none⟩ = some v4 := hcv 4 (by omega)
      have e5 : wr.cell? ⟨p1, o1 + j * 9 + 5, none⟩ = some v5 := hcv 5 (by omega)
      have e6 : wr.cell? ⟨p1, o1 + j * 9 + 6, none⟩ = some v6 := hcv 6 (by omega)
      have e7 : wr.cell? ⟨p1, o1 + j * 9 + 7, none⟩ = some v7 := hcv 7 (by omega)
      have e8 : wr.cell? ⟨p1, o1 + j * 9 + 8, none⟩ = some v8 := hcv 8 (by omega)
      clear hcv hA hH hA0 hH0 hA1 hH1 hA2 hH2 hA3 hH3 hA4 hH4 hA5 hH5 hA6 hH6 hA7 hH7 hA8 hH8
      have HO : Hid (Own wr w.heap.size (.slice (some ⟨w.heap.size, 0, none⟩) n n) (.l 61 9 n ps) S) := ho
      clear ho
      go_wp2_with fail
      refine (dToCall [v0, v1, v2, v3, v4, v5, v6, v7, v8] [c0, c1, c2, c3, c4, c5, c6, c7, c8] _ (HA0.out.on hb (Nat.le_refl _)) HL0.out).mono ?_
      rintro e w2 ⟨hb2, us, S', rfl, oL⟩
      have hU := oL.at
      obtain ⟨u0, ur0, rfl, U0, hA0⟩ := hU.consE
      obtain ⟨u1, ur1, rfl, U1, hA1⟩ := hA0.consE
      obtain ⟨u2, ur2, rfl, U2, hA2⟩ := hA1.consE
      obtain ⟨u3, ur3, rfl, U3, hA3⟩ := hA2.consE
      obtain ⟨u4, ur4, rfl, U4, hA4⟩ := hA3.consE
      obtain ⟨u5, ur5, rfl, U5, hA5⟩ := hA4.consE
      obtain ⟨u6, ur6, rfl, U6, hA6⟩ := hA5.consE
      obtain ⟨u7, ur7, rfl, U7, hA7⟩ := hA6.consE
      obtain ⟨u8, ur8, rfl, U8, hA8⟩ := hA7.consE
      obtain rfl := hA8.nilE
      obtain ⟨x0, rfl⟩ := T0.int
      obtain ⟨x1, rfl⟩ := T1.int
      obtain ⟨x2, rfl⟩ := T2.int
      obtain ⟨x3, rfl⟩ := T3.int
      obtain ⟨x4, rfl⟩ := T4.int
      obtain ⟨x5, rfl⟩ := T5.int
      obtain ⟨x6, rfl⟩ := T6.int
      obtain ⟨x7, rfl⟩ := T7.int
      have T8' := T8
      obtain ⟨n8, cs8, rfl, -⟩ := T8.list
      obtain rfl := U0.int
      obtain rfl := U1.int
      obtain rfl := U2.int
      obtain rfl := U3.int
      obtain rfl := U4.int
      obtain rfl := U5.int
      obtain rfl := U6.int
      obtain rfl := U7.int
      obtain ⟨q8, m8, rfl⟩ := U8.slice
      have O2 := HO.out.on hb2 (Nat.le_refl _)
      have hb02 : Below w.heap.size w w2 := hb.trans (hb2.mono hb.size)
      obtain ⟨pv0, -, hc0, hf0, -⟩ := O2.cell (j := j * 9) (List.getElem?_eq_getElem (by omega))
      obtain ⟨pv1, -, hc1, hf1, -⟩ := O2.cell (j := j * 9 + 1) (List.getElem?_eq_getElem (by omega))
      obtain ⟨pv2, -, hc2, hf2, -⟩ := O2.cell (j := j * 9 + 2) (List.getElem?_eq_getElem (by omega))
      obtain ⟨pv3, -, hc3, hf3, -⟩ := O2.cell (j := j * 9 + 3) (List.getElem?_eq_getElem (by omega))
      obtain ⟨pv4, -, hc4, hf4, -⟩ := O2.cell (j := j * 9 + 4) (List.getElem?_eq_getElem (by omega))
      obtain ⟨pv5, -, hc5, hf5, -⟩ := O2.cell (j := j * 9 + 5) (List.getElem?_eq_getElem (by omega))
      obtain ⟨pv6, -, hc6, hf6, -⟩ := O2.cell (j := j * 9 + 6) (List.getElem?_eq_getElem (by omega))
      obtain ⟨pv7, -, hc7, hf7, -⟩ := O2.cell (j := j * 9 + 7) (List.getElem?_eq_getElem (by omega))
      obtain ⟨pv8, -, hc8, hf8, -⟩ := O2.cell (j := j * 9 + 8) (List.getElem?_eq_getElem (by omega))
      have OL : Hid (OwnL w2 wr.heap.size [.int .i64 x0, .int .i64 x1, .int .i64 x2, .int .i64 x3, .int .i64 x4, .int .i64 x5, .int .i64 x6, .int .i64 x7, .slice q8 n8 m8] [.i x0, .i x1, .i x2, .i x3, .i x4, .i x5, .i x6, .i x7, .l 3 1 n8 cs8] S') := oL
      have HO2 : Hid (Own w2 w.heap.size (.slice (some ⟨w.heap.size, 0, none⟩) n n) (.l 61 9 n ps) S) := O2
      have HRS' : Hid (row cs 9 j = [.i x0, .i x1, .i x2, .i x3, .i x4, .i x5, .i x6, .i x7, .l 3 1 n8 cs8]) := HRS.out
      clear oL O2 hb2 hU e0 e1 e2 e3 e4 e5 e6 e7 e8 
      go_wp2
      go_roundw
      case rel =>
        have slt : ∀ x, S x → x < wr.heap.size := fun x hx => (HO.out.lt x hx).2
        obtain ⟨S'', o'', -⟩ := Own.storeL (p := j * 9) HO2.out (OL.out.weaken hb.size) (fun x hx hx' => by have h1 := (OL.out.lt x hx).1; have h2 := slt x hx'; omega) (by simp; omega)
        have hle : j * 9 + 9 ≤ n * 9 := by omega
        refine ⟨j + 1, by omega, by go_num, ⟨_, S'', ?_, ?_, o''⟩, stores_below (Nat.le_refl _) [.int .i64 x0, .int .i64 x1, .int .i64 x2, .int .i64 x3, .int .i64 x4, .int .i64 x5, .int .i64 x6, .int .i64 x7, .slice q8 n8 m8] w2 (j * 9) hb02⟩
        · rw [over_len]; exact lp
        · have h3 := over_take [.i x0, .i x1, .i x2, .i x3, .i x4, .i x5, .i x6, .i x7, .l 3 1 n8 cs8] ps (j * 9) (by simp; omega)
          rw [row_split (cs := cs), HRS'.out, ← tp, show (j + 1) * 9 = j * 9 + ([.i x0, .i x1, .i x2, .i x3, .i x4, .i x5, .i x6, .i x7, .l 3 1 n8 cs8] : List Cel).length by simp; omega]
          exact h3
      case measure => simp [intOf]; omega
    · obtain rfl : j = n := by omega
      have e : ps = cs := by rwa [List.take_of_length_le (by omega), List.take_of_length_le (by have := L2.out; omega)] at tp
      subst e
      go_wp2
      go_ret
      exact ⟨hb, _, S, rfl, ho⟩
theorem dInfoMachine : (Tryz.prog.info? 43).map (fun i => (i.zero, i.size)) = some (some (.agg #[.slice none 0 0, .slice none 0 0, .slice none 0 0, .int .i64 0, .slice none 0 0, .slice none 0 0, .slice none 0 0, .int .i64 0]), 8) := by kernel_rfl
theorem dBytesMachine : (Tryz.prog.info? 43).map (fun i => decide (i.bytes ≤ 1024)) = some true := by kernel_rfl
set_option maxHeartbeats 2000000 in
theorem dToMachine (vs : List Value) (cs : List Cel) (w : World) (h : AtL false w vs cs) (hs : HasL cs tyMachine) : Calls Tryz.prog 6 #[.agg vs.toArray] w (RetL w cs) := by
  obtain ⟨c0, r0, rfl, T0, hH0⟩ := hs.cons
  obtain ⟨c1, r1, rfl, T1, hH1⟩ := hH0.cons
  obtain ⟨c2, r2, rfl, T2, hH2⟩ := hH1.cons
  obtain ⟨c3, r3, rfl, T3, hH3⟩ := hH2.cons
  obtain ⟨c4, r4, rfl, T4, hH4⟩ := hH3.cons
  obtain ⟨c5, r5, rfl, T5, hH5⟩ := hH4.cons
  obtain ⟨c6, r6, rfl, T6, hH6⟩ := hH5.cons
  obtain ⟨c7, r7, rfl, T7, hH7⟩ := hH6.cons
  obtain rfl := hH7.nil
  obtain ⟨v0, vr0, rfl, A0, hA0⟩ := h.consE
  obtain ⟨v1, vr1, rfl, A1, hA1⟩ := hA0.consE
  obtain ⟨v2, vr2, rfl, A2, hA2⟩ := hA1.consE
  obtain ⟨v3, vr3, rfl, A3, hA3⟩ := hA2.consE
  obtain ⟨v4, vr4, rfl, A4, hA4⟩ := hA3.consE
  obtain ⟨v5, vr5, rfl, A5, hA5⟩ := hA4.consE
  obtain ⟨v6, vr6, rfl, A6, hA6⟩ := hA5.consE
  obtain ⟨v7, vr7, rfl, A7, hA7⟩ := hA6.consE
  obtain rfl := hA7.nilE
  have hA0' : Hid (At false w v0 c0) := A0
  have hA1' : Hid (At false w v1 c1) := A1
  have hA2' : Hid (At false w v2 c2) := A2
  obtain ⟨x3, rfl⟩ := T3.int
  obtain rfl := A3.int
  have hA4' : Hid (At false w v4 c4) := A4
  have hA5' : Hid (At false w v5 c5) := A5
  have hA6' : Hid (At false w v6 c6) := A6
  obtain ⟨x7, rfl⟩ := T7.int
  obtain rfl := A7.int
  obtain ⟨n0, cs0, rfl, -⟩ := T0.list
  have HT0 : Hid (Has (.l 134 3 n0 cs0) (.l 134 3 tyWord)) := T0
  obtain ⟨n1, cs1, rfl, -⟩ := T1.list
  have HT1 : Hid (Has (.l 137 5 n1 cs1) (.l 137 5 tyDesc)) := T1
  obtain ⟨n2, cs2, rfl, -⟩ := T2.list
  have HT2 : Hid (Has (.l 100 5 n2 cs2) (.l 100 5 tyThread)) := T2
  obtain ⟨n4, cs4, rfl, -⟩ := T4.list
  have HT4 : Hid (Has (.l 61 9 n4 cs4) (.l 61 9 tyCall)) := T4
  obtain ⟨n5, cs5, rfl, -⟩ := T5.list
  have HT5 : Hid (Has (.l 3 1 n5 cs5) (.l 3 1 [.i])) := T5
  obtain ⟨n6, cs6, rfl, -⟩ := T6.list
  have HT6 : Hid (Has (.l 3 1 n6 cs6) (.l 3 1 [.i])) := T6
  have HN0 : Hid (AtL false w [v0, v1] [.l 134 3 n0 cs0, .l 137 5 n1 cs1]) := AtL.cons (hA0'.out) (AtL.cons (hA1'.out) (AtL.nil))
  have HH0 : Hid (HasL [.l 134 3 n0 cs0, .l 137 5 n1 cs1] tyMem) := ⟨rfl, fun j c t hc ht => by
    have hj : j < 2 := by have := (List.getElem?_eq_some_iff.1 hc).1; simpa using this
    rcases (show j = 0 ∨ j = 1 by omega) with rfl | rfl <;> (simp [tyMem] at hc ht; subst hc ht)
    · exact HT0.out
    · exact HT1.out⟩
  have HN6 : Hid (AtL false w [v6, .int .i64 x7] [.l 3 1 n6 cs6, .i x7]) := AtL.cons (hA6'.out) (AtL.cons (.i x7) (AtL.nil))
  have HH6 : Hid (HasL [.l 3 1 n6 cs6, .i x7] tyRows) := ⟨rfl, fun j c t hc ht => by
    have hj : j < 2 := by have := (List.getElem?_eq_some_iff.1 hc).1; simpa using this
    rcases (show j = 0 ∨ j = 1 by omega) with rfl | rfl <;> (simp [tyRows] at hc ht; subst hc ht)
    · exact HT6.out
    · exact .i x7⟩
  clear hs h hA0 hH0 hA1 hH1 hA2 hH2 hA3 hH3 hA4 hH4 hA5 hH5 hA6 hH6 hA7 hH7 T0 A0 T1 A1 T2 A2 T4 A4 T5 A5 T6 A6
  go_enter Tryz.func6, Tryz.ntmps6
  go_wp2_with fail
  have t0 := mk_new w #[v0, v1, v2, .int .i64 x3, v4, v5, v6, .int .i64 x7] #[.slice none 0 0, .slice none 0 0, .slice none 0 0, .int .i64 0, .slice none 0 0, .slice none 0 0, .slice none 0 0, .int .i64 0] #[.slice none 0 0, .slice none 0 0, .slice none 0 0, .int .i64 0, .slice none 0 0, .slice none 0 0, .slice none 0 0, .int .i64 0] 32 43
  have m1 := t0
  refine (dToMem [v0, v1] [.l 134 3 n0 cs0, .l 137 5 n1 cs1] _ (HN0.out.on m1.b (Nat.le_refl _)) HH0.out).mono ?_
  rintro e w1 ⟨hb, us, S0, rfl, ho⟩
  have hU := ho.at
  obtain ⟨u0, ur0, rfl, U0, hU0⟩ := hU.consE
  obtain ⟨u1, ur1, rfl, U1, hU1⟩ := hU0.consE
  obtain rfl := hU1.nilE
  obtain ⟨q0, d0, rfl⟩ := U0.slice
  obtain ⟨q1, d1, rfl⟩ := U1.slice
  have m1' := m1.call hb ho
  clear hU U0 hU0 U1 hU1
  have t1 : Hid (Mk w w1 #[v0, v1, v2, .int .i64 x3, v4, v5, v6, .int .i64 x7] #[.slice none 0 0, .slice none 0 0, .slice none 0 0, .int .i64 0, .slice none 0 0, .slice none 0 0, .slice none 0 0, .int .i64 0] #[.slice none 0 0, .slice none 0 0, .slice none 0 0, .int .i64 0, .slice none 0 0, .slice none 0 0, .slice none 0 0, .int .i64 0] 32 43 _) := m1'
  have ax1_0 : w1.cell? ⟨w.heap.size, 0, none⟩ = some (v0) := t1.out.a.cell 0
  have cx1_0 : w1.cell? ⟨w.heap.size + 1 + 1, 0, none⟩ = some (.slice none 0 0) := t1.out.c.cell 0
  have fx1_0 : w1.frozen? ⟨w.heap.size + 1 + 1, 0, none⟩ = false := t1.out.c.frozen 0
  have ax1_1 : w1.cell? ⟨w.heap.size, 1, none⟩ = some (v1) := t1.out.a.cell 1
  have cx1_1 : w1.cell? ⟨w.heap.size + 1 + 1, 1, none⟩ = some (.slice none 0 0) := t1.out.c.cell 1
  have fx1_1 : w1.frozen? ⟨w.heap.size + 1 + 1, 1, none⟩ = false := t1.out.c.frozen 1
  have ax1_2 : w1.cell? ⟨w.heap.size, 2, none⟩ = some (v2) := t1.out.a.cell 2
  have cx1_2 : w1.cell? ⟨w.heap.size + 1 + 1, 2, none⟩ = some (.slice none 0 0) := t1.out.c.cell 2
  have fx1_2 : w1.frozen? ⟨w.heap.size + 1 + 1, 2, none⟩ = false := t1.out.c.frozen 2
  have ax1_3 : w1.cell? ⟨w.heap.size, 3, none⟩ = some (.int .i64 x3) := t1.out.a.cell 3
  have cx1_3 : w1.cell? ⟨w.heap.size + 1 + 1, 3, none⟩ = some (.int .i64 0) := t1.out.c.cell 3
  have fx1_3 : w1.frozen? ⟨w.heap.size + 1 + 1, 3, none⟩ = false := t1.out.c.frozen 3
  have ax1_4 : w1.cell? ⟨w.heap.size, 4, none⟩ = some (v4) := t1.out.a.cell 4
  have cx1_4 : w1.cell? ⟨w.heap.size + 1 + 1, 4, none⟩ = some (.slice none 0 0) := t1.out.c.cell 4
  have fx1_4 : w1.frozen? ⟨w.heap.size + 1 + 1, 4, none⟩ = false := t1.out.c.frozen 4
  have ax1_5 : w1.cell? ⟨w.heap.size, 5, none⟩ = some (v5) := t1.out.a.cell 5
  have cx1_5 : w1.cell? ⟨w.heap.size + 1 + 1, 5, none⟩ = some (.slice none 0 0) := t1.out.c.cell 5
  have fx1_5 : w1.frozen? ⟨w.heap.size + 1 + 1, 5, none⟩ = false := t1.out.c.frozen 5
  have ax1_6 : w1.cell? ⟨w.heap.size, 6, none⟩ = some (v6) := t1.out.a.cell 6
  have cx1_6 : w1.cell? ⟨w.heap.size + 1 + 1, 6, none⟩ = some (.slice none 0 0) := t1.out.c.cell 6
  have fx1_6 : w1.frozen? ⟨w.heap.size + 1 + 1, 6, none⟩ = false := t1.out.c.frozen 6
  have ax1_7 : w1.cell? ⟨w.heap.size, 7, none⟩ = some (.int .i64 x7) := t1.out.a.cell 7
  have cx1_7 : w1.cell? ⟨w.heap.size + 1 + 1, 7, none⟩ = some (.int .i64 0) := t1.out.c.cell 7
  have fx1_7 : w1.frozen? ⟨w.heap.size + 1 + 1, 7, none⟩ = false := t1.out.c.frozen 7
  have zx1_0 : w1.cell? ⟨w.heap.size + 1, 0, none⟩ = some (.slice none 0 0) := t1.out.z.cell 0
  have gx1_0 : w1.frozen? ⟨w.heap.size + 1, 0, none⟩ = false := t1.out.z.frozen 0
  have zx1_1 : w1.cell? ⟨w.heap.size + 1, 1, none⟩ = some (.slice none 0 0) := t1.out.z.cell 1
  have gx1_1 : w1.frozen? ⟨w.heap.size + 1, 1, none⟩ = false := t1.out.z.frozen 1
  have zx1_2 : w1.cell? ⟨w.heap.size + 1, 2, none⟩ = some (.slice none 0 0) := t1.out.z.cell 2
  have gx1_2 : w1.frozen? ⟨w.heap.size + 1, 2, none⟩ = false := t1.out.z.frozen 2
  have zx1_3 : w1.cell? ⟨w.heap.size + 1, 3, none⟩ = some (.int .i64 0) := t1.out.z.cell 3
  have gx1_3 : w1.frozen? ⟨w.heap.size + 1, 3, none⟩ = false := t1.out.z.frozen 3
  have zx1_4 : w1.cell? ⟨w.heap.size + 1, 4, none⟩ = some (.slice none 0 0) := t1.out.z.cell 4
  have gx1_4 : w1.frozen? ⟨w.heap.size + 1, 4, none⟩ = false := t1.out.z.frozen 4
  have zx1_5 : w1.cell? ⟨w.heap.size + 1, 5, none⟩ = some (.slice none 0 0) := t1.out.z.cell 5
  have gx1_5 : w1.frozen? ⟨w.heap.size + 1, 5, none⟩ = false := t1.out.z.frozen 5
  have zx1_6 : w1.cell? ⟨w.heap.size + 1, 6, none⟩ = some (.slice none 0 0) := t1.out.z.cell 6
  have gx1_6 : w1.frozen? ⟨w.heap.size + 1, 6, none⟩ = false := t1.out.z.frozen 6
  have zx1_7 : w1.cell? ⟨w.heap.size + 1, 7, none⟩ = some (.int .i64 0) := t1.out.z.cell 7
  have gx1_7 : w1.frozen? ⟨w.heap.size + 1, 7, none⟩ = false := t1.out.z.frozen 7
  clear m1 m1' hb ho t0 
  go_wp2_with fail
  have t1' := ((t1.out.store 0 (.slice q0 n0 d0)).store 1 (.slice q1 n1 d1))
  have t1 : Hid (Mk w _ _ _ _ 32 43 _) := t1'
  clear t1'
  have m2 := t1.out
  refine (dToThreadS v2 n2 cs2 _ (hA2'.out.on m2.b (Nat.le_refl _)) HT2.out).mono ?_
  rintro e w2 ⟨hb, u2, S2, rfl, ho⟩
  obtain ⟨q2, d2, rfl, -⟩ := ho.slice
  have m2' := m2.call1 hb ho
  have t2 : Hid (Mk w w2 #[v0, v1, v2, .int .i64 x3, v4, v5, v6, .int .i64 x7] #[.slice none 0 0, .slice none 0 0, .slice none 0 0, .int .i64 0, .slice none 0 0, .slice none 0 0, .slice none 0 0, .int .i64 0] #[(.slice q0 n0 d0), (.slice q1 n1 d1), .slice none 0 0, .int .i64 0, .slice none 0 0, .slice none 0 0, .slice none 0 0, .int .i64 0] 32 43 _) := m2'
  have ax2_0 : w2.cell? ⟨w.heap.size, 0, none⟩ = some (v0) := t2.out.a.cell 0
  have cx2_0 : w2.cell? ⟨w.heap.size + 1 + 1, 0, none⟩ = some ((.slice q0 n0 d0)) := t2.out.c.cell 0
  have fx2_0 : w2.frozen? ⟨w.heap.size + 1 + 1, 0, none⟩ = false := t2.out.c.frozen 0
  have ax2_1 : w2.cell? ⟨w.heap.size, 1, none⟩ = some (v1) := t2.out.a.cell 1
  have cx2_1 : w2.cell? ⟨w.heap.size + 1 + 1, 1, none⟩ = some ((.slice q1 n1 d1)) := t2.out.c.cell 1
  have fx2_1 : w2.frozen? ⟨w.heap.size + 1 + 1, 1, none⟩ = false := t2.out.c.frozen 1
  have ax2_2 : w2.cell? ⟨w.heap.size, 2, none⟩ = some (v2) := t2.out.a.cell 2
  have cx2_2 : w2.cell? ⟨w.heap.size + 1 + 1, 2, none⟩ = some (.slice none 0 0) := t2.out.c.cell 2
  have fx2_2 : w2.frozen? ⟨w.heap.size + 1 + 1, 2, none⟩ = false := t2.out.c.frozen 2
  have ax2_3 : w2.cell? ⟨w.heap.size, 3, none⟩ = some (.int .i64 x3) := t2.out.a.cell 3
  have cx2_3 : w2.cell? ⟨w.heap.size + 1 + 1, 3, none⟩ = some (.int .i64 0) := t2.out.c.cell 3
  have fx2_3 : w2.frozen? ⟨w.heap.size + 1 + 1, 3, none⟩ = false := t2.out.c.frozen 3
  have ax2_4 : w2.cell? ⟨w.heap.size, 4, none⟩ = some (v4) := t2.out.a.cell 4
  have cx2_4 : w2.cell? ⟨w.heap.size + 1 + 1, 4, none⟩ = some (.slice none 0 0) := t2.out.c.cell 4
  have fx2_4 : w2.frozen? ⟨w.heap.size + 1 + 1, 4, none⟩ = false := t2.out.c.frozen 4
  have ax2_5 : w2.cell? ⟨w.heap.size, 5, none⟩ = some (v5) := t2.out.a.cell 5
  have cx2_5 : w2.cell? ⟨w.heap.size + 1 + 1, 5, none⟩ = some (.slice none 0 0) := t2.out.c.cell 5
  have fx2_5 : w2.frozen? ⟨w.heap.size + 1 + 1, 5, none⟩ = false := t2.out.c.frozen 5
  have ax2_6 : w2.cell? ⟨w.heap.size, 6, none⟩ = some (v6) := t2.out.a.cell 6
  have cx2_6 : w2.cell? ⟨w.heap.size + 1 + 1, 6, none⟩ = some (.slice none 0 0) := t2.out.c.cell 6
  have fx2_6 : w2.frozen? ⟨w.heap.size + 1 + 1, 6, none⟩ = false := t2.out.c.frozen 6
  have ax2_7 : w2.cell? ⟨w.heap.size, 7, none⟩ = some (.int .i64 x7) := t2.out.a.cell 7
  have cx2_7 : w2.cell? ⟨w.heap.size + 1 + 1, 7, none⟩ = some (.int .i64 0) := t2.out.c.cell 7
  have fx2_7 : w2.frozen? ⟨w.heap.size + 1 + 1, 7, none⟩ = false := t2.out.c.frozen 7
  have zx2_0 : w2.cell? ⟨w.heap.size + 1, 0, none⟩ = some (.slice none 0 0) := t2.out.z.cell 0
  have gx2_0 : w2.frozen? ⟨w.heap.size + 1, 0, none⟩ = false := t2.out.z.frozen 0
  have zx2_1 : w2.cell? ⟨w.heap.size + 1, 1, none⟩ = some (.slice none 0 0) := t2.out.z.cell 1
  have gx2_1 : w2.frozen? ⟨w.heap.size + 1, 1, none⟩ = false := t2.out.z.frozen 1
  have zx2_2 : w2.cell? ⟨w.heap.size + 1, 2, none⟩ = some (.slice none 0 0) := t2.out.z.cell 2
  have gx2_2 : w2.frozen? ⟨w.heap.size + 1, 2, none⟩ = false := t2.out.z.frozen 2
  have zx2_3 : w2.cell? ⟨w.heap.size + 1, 3, none⟩ = some (.int .i64 0) := t2.out.z.cell 3
  have gx2_3 : w2.frozen? ⟨w.heap.size + 1, 3, none⟩ = false := t2.out.z.frozen 3
  have zx2_4 : w2.cell? ⟨w.heap.size + 1, 4, none⟩ = some (.slice none 0 0) := t2.out.z.cell 4
  have gx2_4 : w2.frozen? ⟨w.heap.size + 1, 4, none⟩ = false := t2.out.z.frozen 4
  have zx2_5 : w2.cell? ⟨w.heap.size + 1, 5, none⟩ = some (.slice none 0 0) := t2.out.z.cell 5
  have gx2_5 : w2.frozen? ⟨w.heap.size + 1, 5, none⟩ = false := t2.out.z.frozen 5
  have zx2_6 : w2.cell? ⟨w.heap.size + 1, 6, none⟩ = some (.slice none 0 0) := t2.out.z.cell 6
  have gx2_6 : w2.frozen? ⟨w.heap.size + 1, 6, none⟩ = false := t2.out.z.frozen 6
  have zx2_7 : w2.cell? ⟨w.heap.size + 1, 7, none⟩ = some (.int .i64 0) := t2.out.z.cell 7
  have gx2_7 : w2.frozen? ⟨w.heap.size + 1, 7, none⟩ = false := t2.out.z.frozen 7
  clear m2 m2' hb ho  ax1_0 cx1_0 fx1_0 zx1_0 gx1_0 ax1_1 cx1_1 fx1_1 zx1_1 gx1_1 ax1_2 cx1_2 fx1_2 zx1_2 gx1_2 ax1_3 cx1_3 fx1_3 zx1_3 gx1_3 ax1_4 cx1_4 fx1_4 zx1_4 gx1_4 ax1_5 cx1_5 fx1_5 zx1_5 gx1_5 ax1_6 cx1_6 fx1_6 zx1_6 gx1_6 ax1_7 cx1_7 fx1_7 zx1_7 gx1_7
  go_wp2_with fail
  have t2' := (t2.out.store 2 (.slice q2 n2 d2))
  have t2 : Hid (Mk w _ _ _ _ 32 43 _) := t2'
  clear t2'
  have m3 := ((t2.out.store 3 (.int .i64 x3)).num (v := .int .i64 x3) (c := .i x3) (fun _ => .i x3 _ (fun _ h => h)))
  refine (dToCallS v4 n4 cs4 _ (hA4'.out.on m3.b (Nat.le_refl _)) HT4.out).mono ?_
  rintro e w3 ⟨hb, u4, S4, rfl, ho⟩
  obtain ⟨q4, d4, rfl, -⟩ := ho.slice
  have m3' := m3.call1 hb ho
  have t3 : Hid (Mk w w3 #[v0, v1, v2, .int .i64 x3, v4, v5, v6, .int .i64 x7] #[.slice none 0 0, .slice none 0 0, .slice none 0 0, .int .i64 0, .slice none 0 0, .slice none 0 0, .slice none 0 0, .int .i64 0] #[(.slice q0 n0 d0), (.slice q1 n1 d1), (.slice q2 n2 d2), .int .i64 x3, .slice none 0 0, .slice none 0 0, .slice none 0 0, .int .i64 0] 32 43 _) := m3'
  have ax3_0 : w3.cell? ⟨w.heap.size, 0, none⟩ = some (v0) := t3.out.a.cell 0
  have cx3_0 : w3.cell? ⟨w.heap.size + 1 + 1, 0, none⟩ = some ((.slice q0 n0 d0)) := t3.out.c.cell 0
  have fx3_0 : w3.frozen? ⟨w.heap.size + 1 + 1, 0, none⟩ = false := t3.out.c.frozen 0
  have ax3_1 : w3.cell? ⟨w.heap.size, 1, none⟩ = some (v1) := t3.out.a.cell 1
  have cx3_1 : w3.cell? ⟨w.heap.size + 1 + 1, 1, none⟩ = some ((.slice q1 n1 d1)) := t3.out.c.cell 1
  have fx3_1 : w3.frozen? ⟨w.heap.size + 1 + 1, 1, none⟩ = false := t3.out.c.frozen 1
  have ax3_2 : w3.cell? ⟨w.heap.size, 2, none⟩ = some (v2) := t3.out.a.cell 2
  have cx3_2 : w3.cell? ⟨w.heap.size + 1 + 1, 2, none⟩ = some ((.slice q2 n2 d2)) := t3.out.c.cell 2
  have fx3_2 : w3.frozen? ⟨w.heap.size + 1 + 1, 2, none⟩ = false := t3.out.c.frozen 2
  have ax3_3 : w3.cell? ⟨w.heap.size, 3, none⟩ = some (.int .i64 x3) := t3.out.a.cell 3
  have cx3_3 : w3.cell? ⟨w.heap.size + 1 + 1, 3, none⟩ = some (.int .i64 x3) := t3.out.c.cell 3
  have fx3_3 : w3.frozen? ⟨w.heap.size + 1 + 1, 3, none⟩ = false := t3.out.c.frozen 3
  have ax3_4 : w3.cell? ⟨w.heap.size, 4, none⟩ = some (v4) := t3.out.a.cell 4
  have cx3_4 : w3.cell? ⟨w.heap.size + 1 + 1, 4, none⟩ = some (.slice none 0 0) := t3.out.c.cell 4
  have fx3_4 : w3.frozen? ⟨w.heap.size + 1 + 1, 4, none⟩ = false := t3.out.c.frozen 4
  have ax3_5 : w3.cell? ⟨w.heap.size, 5, none⟩ = some (v5) := t3.out.a.cell 5
  have cx3_5 : w3.cell? ⟨w.heap.size + 1 + 1, 5, none⟩ = some (.slice none 0 0) := t3.out.c.cell 5
  have fx3_5 : w3.frozen? ⟨w.heap.size + 1 + 1, 5, none⟩ = false := t3.out.c.frozen 5
  have ax3_6 : w3.cell? ⟨w.heap.size, 6, none⟩ = some (v6) := t3.out.a.cell 6
  have cx3_6 : w3.cell? ⟨w.heap.size + 1 + 1, 6, none⟩ = some (.slice none 0 0) := t3.out.c.cell 6
  have fx3_6 : w3.frozen? ⟨w.heap.size + 1 + 1, 6, none⟩ = false := t3.out.c.frozen 6
  have ax3_7 : w3.cell? ⟨w.heap.size, 7, none⟩ = some (.int .i64 x7) := t3.out.a.cell 7
  have cx3_7 : w3.cell? ⟨w.heap.size + 1 + 1, 7, none⟩ = some (.int .i64 0) := t3.out.c.cell 7
  have fx3_7 : w3.frozen? ⟨w.heap.size + 1 + 1, 7, none⟩ = false := t3.out.c.frozen 7
  have zx3_0 : w3.cell? ⟨w.heap.size + 1, 0, none⟩ = some (.slice none 0 0) := t3.out.z.cell 0
  have gx3_0 : w3.frozen? ⟨w.heap.size + 1, 0, none⟩ = false := t3.out.z.frozen 0
  have zx3_1 : w3.cell? ⟨w.heap.size + 1, 1, none⟩ = some (.slice none 0 0) := t3.out.z.cell 1
  have gx3_1 : w3.frozen? ⟨w.heap.size + 1, 1, none⟩ = false := t3.out.z.frozen 1
  have zx3_2 : w3.cell? ⟨w.heap.size + 1, 2, none⟩ = some (.slice none 0 0) := t3.out.z.cell 2
  have gx3_2 : w3.frozen? ⟨w.heap.size + 1, 2, none⟩ = false := t3.out.z.frozen 2
  have zx3_3 : w3.cell? ⟨w.heap.size + 1, 3, none⟩ = some (.int .i64 0) := t3.out.z.cell 3
  have gx3_3 : w3.frozen? ⟨w.heap.size + 1, 3, none⟩ = false := t3.out.z.frozen 3
  have zx3_4 : w3.cell? ⟨w.heap.size + 1, 4, none⟩ = some (.slice none 0 0) := t3.out.z.cell 4
  have gx3_4 : w3.frozen? ⟨w.heap.size + 1, 4, none⟩ = false := t3.out.z.frozen 4
  have zx3_5 : w3.cell? ⟨w.heap.size + 1, 5, none⟩ = some (.slice none 0 0) := t3.out.z.cell 5
  have gx3_5 : w3.frozen? ⟨w.heap.size + 1, 5, none⟩ = false := t3.out.z.frozen 5
  have zx3_6 : w3.cell? ⟨w.heap.size + 1, 6, none⟩ = some (.slice none 0 0) := t3.out.z.cell 6
  have gx3_6 : w3.frozen? ⟨w.heap.size + 1, 6, none⟩ = false := t3.out.z.frozen 6
  have zx3_7 : w3.cell? ⟨w.heap.size + 1, 7, none⟩ = some (.int .i64 0) := t3.out.z.cell 7
  have gx3_7 : w3.frozen? ⟨w.heap.size + 1, 7, none⟩ = false := t3.out.z.frozen 7
  clear m3 m3' hb ho  ax2_0 cx2_0 fx2_0 zx2_0 gx2_0 ax2_1 cx2_1 fx2_1 zx2_1 gx2_1 ax2_2 cx2_2 fx2_2 zx2_2 gx2_2 ax2_3 cx2_3 fx2_3 zx2_3 gx2_3 ax2_4 cx2_4 fx2_4 zx2_4 gx2_4 ax2_5 cx2_5 fx2_5 zx2_5 gx2_5 ax2_6 cx2_6 fx2_6 zx2_6 gx2_6 ax2_7 cx2_7 fx2_7 zx2_7 gx2_7
  go_wp2_with fail
  have t3' := (t3.out.store 4 (.slice q4 n4 d4))
  have t3 : Hid (Mk w _ _ _ _ 32 43 _) := t3'
  clear t3'
  have m4 := t3.out
  refine (dToIntS v5 n5 cs5 _ (hA5'.out.on m4.b (Nat.le_refl _)) HT5.out).mono ?_
  rintro e w4 ⟨hb, u5, S5, rfl, ho⟩
  obtain ⟨q5, d5, rfl, -⟩ := ho.slice
  have m4' := m4.call1 hb ho
  have t4 : Hid (Mk w w4 #[v0, v1, v2, .int .i64 x3, v4, v5, v6, .int .i64 x7] #[.slice none 0 0, .slice none 0 0, .slice none 0 0, .int .i64 0, .slice none 0 0, .slice none 0 0, .slice none 0 0, .int .i64 0] #[(.slice q0 n0 d0), (.slice q1 n1 d1), (.slice q2 n2 d2), .int .i64 x3, (.slice q4 n4 d4), .slice none 0 0, .slice none 0 0, .int .i64 0] 32 43 _) := m4'
  have ax4_0 : w4.cell? ⟨w.heap.size, 0, none⟩ = some (v0) := t4.out.a.cell 0
  have cx4_0 : w4.cell? ⟨w.heap.size + 1 + 1, 0, none⟩ = some ((.slice q0 n0 d0)) := t4.out.c.cell 0
  have fx4_0 : w4.frozen? ⟨w.heap.size + 1 + 1, 0, none⟩ = false := t4.out.c.frozen 0
  have ax4_1 : w4.cell? ⟨w.heap.size, 1, none⟩ = some (v1) := t4.out.a.cell 1
  have cx4_1 : w4.cell? ⟨w.heap.size + 1 + 1, 1, none⟩ = some ((.slice q1 n1 d1)) := t4.out.c.cell 1
  have fx4_1 : w4.frozen? ⟨w.heap.size + 1 + 1, 1, none⟩ = false := t4.out.c.frozen 1
  have ax4_2 : w4.cell? ⟨w.heap.size, 2, none⟩ = some (v2) := t4.out.a.cell 2
  have cx4_2 : w4.cell? ⟨w.heap.size + 1 + 1, 2, none⟩ = some ((.slice q2 n2 d2)) := t4.out.c.cell 2
  have fx4_2 : w4.frozen? ⟨w.heap.size + 1 + 1, 2, none⟩ = false := t4.out.c.frozen 2
  have ax4_3 : w4.cell? ⟨w.heap.size, 3, none⟩ = some (.int .i64 x3) := t4.out.a.cell 3
  have cx4_3 : w4.cell? ⟨w.heap.size + 1 + 1, 3, none⟩ = some (.int .i64 x3) := t4.out.c.cell 3
  have fx4_3 : w4.frozen? ⟨w.heap.size + 1 + 1, 3, none⟩ = false := t4.out.c.frozen 3
  have ax4_4 : w4.cell? ⟨w.heap.size, 4, none⟩ = some (v4) := t4.out.a.cell 4
  have cx4_4 : w4.cell? ⟨w.heap.size + 1 + 1, 4, none⟩ = some ((.slice q4 n4 d4)) := t4.out.c.cell 4
  have fx4_4 : w4.frozen? ⟨w.heap.size + 1 + 1, 4, none⟩ = false := t4.out.c.frozen 4
  have ax4_5 : w4.cell? ⟨w.heap.size, 5, none⟩ = some (v5) := t4.out.a.cell 5
  have cx4_5 : w4.cell? ⟨w.heap.size + 1 + 1, 5, none⟩ = some (.slice none 0 0) := t4.out.c.cell 5
  have fx4_5 : w4.frozen? ⟨w.heap.size + 1 + 1, 5, none⟩ = false := t4.out.c.frozen 5
  have ax4_6 : w4.cell? ⟨w.heap.size, 6, none⟩ = some (v6) := t4.out.a.cell 6
  have cx4_6 : w4.cell? ⟨w.heap.size + 1 + 1, 6, none⟩ = some (.slice none 0 0) := t4.out.c.cell 6
  have fx4_6 : w4.frozen? ⟨w.heap.size + 1 + 1, 6, none⟩ = false := t4.out.c.frozen 6
  have ax4_7 : w4.cell? ⟨w.heap.size, 7, none⟩ = some (.int .i64 x7) := t4.out.a.cell 7
  have cx4_7 : w4.cell? ⟨w.heap.size + 1 + 1, 7, none⟩ = some (.int .i64 0) := t4.out.c.cell 7
  have fx4_7 : w4.frozen? ⟨w.heap.size + 1 + 1, 7, none⟩ = false := t4.out.c.frozen 7
  have zx4_0 : w4.cell? ⟨w.heap.size + 1, 0, none⟩ = some (.slice none 0 0) := t4.out.z.cell 0
  have gx4_0 : w4.frozen? ⟨w.heap.size + 1, 0, none⟩ = false := t4.out.z.frozen 0
  have zx4_1 : w4.cell? ⟨w.heap.size + 1, 1, none⟩ = some (.slice none 0 0) := t4.out.z.cell 1
  have gx4_1 : w4.frozen? ⟨w.heap.size + 1, 1, none⟩ = false := t4.out.z.frozen 1
  have zx4_2 : w4.cell? ⟨w.heap.size + 1, 2, none⟩ = some (.slice none 0 0) := t4.out.z.cell 2
  have gx4_2 : w4.frozen? ⟨w.heap.size + 1, 2, none⟩ = false := t4.out.z.frozen 2
  have zx4_3 : w4.cell? ⟨w.heap.size + 1, 3, none⟩ = some (.int .i64 0) := t4.out.z.cell 3
  have gx4_3 : w4.frozen? ⟨w.heap.size + 1, 3, none⟩ = false := t4.out.z.frozen 3
  have zx4_4 : w4.cell? ⟨w.heap.size + 1, 4, none⟩ = some (.slice none 0 0) := t4.out.z.cell 4
  have gx4_4 : w4.frozen? ⟨w.heap.size + 1, 4, none⟩ = false := t4.out.z.frozen 4
  have zx4_5 : w4.cell? ⟨w.heap.size + 1, 5, none⟩ = some (.slice none 0 0) := t4.out.z.cell 5
  have gx4_5 : w4.frozen? ⟨w.heap.size + 1, 5, none⟩ = false := t4.out.z.frozen 5
  have zx4_6 : w4.cell? ⟨w.heap.size + 1, 6, none⟩ = some (.slice none 0 0) := t4.out.z.cell 6
  have gx4_6 : w4.frozen? ⟨w.heap.size + 1, 6, none⟩ = false := t4.out.z.frozen 6
  have zx4_7 : w4.cell? ⟨w.heap.size + 1, 7, none⟩ = some (.int .i64 0) := t4.out.z.cell 7
  have gx4_7 : w4.frozen? ⟨w.heap.size + 1, 7, none⟩ = false := t4.out.z.frozen 7
  clear m4 m4' hb ho  ax3_0 cx3_0 fx3_0 zx3_0 gx3_0 ax3_1 cx3_1 fx3_1 zx3_1 gx3_1 ax3_2 cx3_2 fx3_2 zx3_2 gx3_2 ax3_3 cx3_3 fx3_3 zx3_3 gx3_3 ax3_4 cx3_4 fx3_4 zx3_4 gx3_4 ax3_5 cx3_5 fx3_5 zx3_5 gx3_5 ax3_6 cx3_6 fx3_6 zx3_6 gx3_6 ax3_7 cx3_7 fx3_7 zx3_7 gx3_7
  go_wp2_with fail
  have t4' := (t4.out.store 5 (.slice q5 n5 d5))
  have t4 : Hid (Mk w _ _ _ _ 32 43 _) := t4'
  clear t4'
  have m5 := t4.out
  refine (dToRows [v6, .int .i64 x7] [.l 3 1 n6 cs6, .i x7] _ (HN6.out.on m5.b (Nat.le_refl _)) HH6.out).mono ?_
  rintro e w5 ⟨hb, us, S6, rfl, ho⟩
  have hU := ho.at
  obtain ⟨u6, ur6, rfl, U6, hU6⟩ := hU.consE
  obtain ⟨u7, ur7, rfl, U7, hU7⟩ := hU6.consE
  obtain rfl := hU7.nilE
  obtain ⟨q6, d6, rfl⟩ := U6.slice
  obtain rfl := U7.int
  have m5' := m5.call hb ho
  clear hU U6 hU6 U7 hU7
  have t5 : Hid (Mk w w5 #[v0, v1, v2, .int .i64 x3, v4, v5, v6, .int .i64 x7] #[.slice none 0 0, .slice none 0 0, .slice none 0 0, .int .i64 0, .slice none 0 0, .slice none 0 0, .slice none 0 0, .int .i64 0] #[(.slice q0 n0 d0), (.slice q1 n1 d1), (.slice q2 n2 d2), .int .i64 x3, (.slice q4 n4 d4), (.slice q5 n5 d5), .slice none 0 0, .int .i64 0] 32 43 _) := m5'
  have ax5_0 : w5.cell? ⟨w.heap.size, 0, none⟩ = some (v0) := t5.out.a.cell 0
  have cx5_0 : w5.cell? ⟨w.heap.size + 1 + 1, 0, none⟩ = some ((.slice q0 n0 d0)) := t5.out.c.cell 0
  have fx5_0 : w5.frozen? ⟨w.heap.size + 1 + 1, 0, none⟩ = false := t5.out.c.frozen 0
  have ax5_1 : w5.cell? ⟨w.heap.size, 1, none⟩ = some (v1) := t5.out.a.cell 1
  have cx5_1 : w5.cell? ⟨w.heap.size + 1 + 1, 1, none⟩ = some ((.slice q1 n1 d1)) := t5.out.c.cell 1
  have fx5_1 : w5.frozen? ⟨w.heap.size + 1 + 1, 1, none⟩ = false := t5.out.c.frozen 1
  have ax5_2 : w5.cell? ⟨w.heap.size, 2, none⟩ = some (v2) := t5.out.a.cell 2
  have cx5_2 : w5.cell? ⟨w.heap.size + 1 + 1, 2, none⟩ = some ((.slice q2 n2 d2)) := t5.out.c.cell 2
  have fx5_2 : w5.frozen? ⟨w.heap.size + 1 + 1, 2, none⟩ = false := t5.out.c.frozen 2
  have ax5_3 : w5.cell? ⟨w.heap.size, 3, none⟩ = some (.int .i64 x3) := t5.out.a.cell 3
  have cx5_3 : w5.cell? ⟨w.heap.size + 1 + 1, 3, none⟩ = some (.int .i64 x3) := t5.out.c.cell 3
  have fx5_3 : w5.frozen? ⟨w.heap.size + 1 + 1, 3, none⟩ = false := t5.out.c.frozen 3
  have ax5_4 : w5.cell? ⟨w.heap.size, 4, none⟩ = some (v4) := t5.out.a.cell 4
  have cx5_4 : w5.cell? ⟨w.heap.size + 1 + 1, 4, none⟩ = some ((.slice q4 n4 d4)) := t5.out.c.cell 4
  have fx5_4 : w5.frozen? ⟨w.heap.size + 1 + 1, 4, none⟩ = false := t5.out.c.frozen 4
  have ax5_5 : w5.cell? ⟨w.heap.size, 5, none⟩ = some (v5) := t5.out.a.cell 5
  have cx5_5 : w5.cell? ⟨w.heap.size + 1 + 1, 5, none⟩ = some ((.slice q5 n5 d5)) := t5.out.c.cell 5
  have fx5_5 : w5.frozen? ⟨w.heap.size + 1 + 1, 5, none⟩ = false := t5.out.c.frozen 5
  have ax5_6 : w5.cell? ⟨w.heap.size, 6, none⟩ = some (v6) := t5.out.a.cell 6
  have cx5_6 : w5.cell? ⟨w.heap.size + 1 + 1, 6, none⟩ = some (.slice none 0 0) := t5.out.c.cell 6
  have fx5_6 : w5.frozen? ⟨w.heap.size + 1 + 1, 6, none⟩ = false := t5.out.c.frozen 6
  have ax5_7 : w5.cell? ⟨w.heap.size, 7, none⟩ = some (.int .i64 x7) := t5.out.a.cell 7
  have cx5_7 : w5.cell? ⟨w.heap.size + 1 + 1, 7, none⟩ = some (.int .i64 0) := t5.out.c.cell 7
  have fx5_7 : w5.frozen? ⟨w.heap.size + 1 + 1, 7, none⟩ = false := t5.out.c.frozen 7
  have zx5_0 : w5.cell? ⟨w.heap.size + 1, 0, none⟩ = some (.slice none 0 0) := t5.out.z.cell 0
  have gx5_0 : w5.frozen? ⟨w.heap.size + 1, 0, none⟩ = false := t5.out.z.frozen 0
  have zx5_1 : w5.cell? ⟨w.heap.size + 1, 1, none⟩ = some (.slice none 0 0) := t5.out.z.cell 1
  have gx5_1 : w5.frozen? ⟨w.heap.size + 1, 1, none⟩ = false := t5.out.z.frozen 1
  have zx5_2 : w5.cell? ⟨w.heap.size + 1, 2, none⟩ = some (.slice none 0 0) := t5.out.z.cell 2
  have gx5_2 : w5.frozen? ⟨w.heap.size + 1, 2, none⟩ = false := t5.out.z.frozen 2
  have zx5_3 : w5.cell? ⟨w.heap.size + 1, 3, none⟩ = some (.int .i64 0) := t5.out.z.cell 3
  have gx5_3 : w5.frozen? ⟨w.heap.size + 1, 3, none⟩ = false := t5.out.z.frozen 3
  have zx5_4 : w5.cell? ⟨w.heap.size + 1, 4, none⟩ = some (.slice none 0 0) := t5.out.z.cell 4
  have gx5_4 : w5.frozen? ⟨w.heap.size + 1, 4, none⟩ = false := t5.out.z.frozen 4
  have zx5_5 : w5.cell? ⟨w.heap.size + 1, 5, none⟩ = some (.slice none 0 0) := t5.out.z.cell 5
  have gx5_5 : w5.frozen? ⟨w.heap.size + 1, 5, none⟩ = false := t5.out.z.frozen 5
  have zx5_6 : w5.cell? ⟨w.heap.size + 1, 6, none⟩ = some (.slice none 0 0) := t5.out.z.cell 6
  have gx5_6 : w5.frozen? ⟨w.heap.size + 1, 6, none⟩ = false := t5.out.z.frozen 6
  have zx5_7 : w5.cell? ⟨w.heap.size + 1, 7, none⟩ = some (.int .i64 0) := t5.out.z.cell 7
  have gx5_7 : w5.frozen? ⟨w.heap.size + 1, 7, none⟩ = false := t5.out.z.frozen 7
  clear m5 m5' hb ho  ax4_0 cx4_0 fx4_0 zx4_0 gx4_0 ax4_1 cx4_1 fx4_1 zx4_1 gx4_1 ax4_2 cx4_2 fx4_2 zx4_2 gx4_2 ax4_3 cx4_3 fx4_3 zx4_3 gx4_3 ax4_4 cx4_4 fx4_4 zx4_4 gx4_4 ax4_5 cx4_5 fx4_5 zx4_5 gx4_5 ax4_6 cx4_6 fx4_6 zx4_6 gx4_6 ax4_7 cx4_7 fx4_7 zx4_7 gx4_7
  go_wp2
  (try simp only [Exit.inBlock, Exit.then])
  refine bodyPost_ret (by simp [results, Tryz.results6, go_sem, zx5_0, zx5_1, zx5_2, zx5_3, zx5_4, zx5_5, zx5_6, zx5_7]; try rfl) rfl ?_
  have m := ((((((((((t5.out.store 6 ((.slice q6 n6 d6))).store 7 ((.int .i64 x7))).storeZ 0 ((.slice q0 n0 d0))).storeZ 1 ((.slice q1 n1 d1))).storeZ 2 ((.slice q2 n2 d2))).storeZ 3 (.int .i64 x3)).storeZ 4 ((.slice q4 n4 d4))).storeZ 5 ((.slice q5 n5 d5))).storeZ 6 ((.slice q6 n6 d6))).storeZ 7 ((.int .i64 x7)))
  exact ⟨m.b, [(.slice q0 n0 d0), (.slice q1 n1 d1), (.slice q2 n2 d2), .int .i64 x3, (.slice q4 n4 d4), (.slice q5 n5 d5), (.slice q6 n6 d6), (.int .i64 x7)], _, rfl, m.all⟩
end Go.Proofs.YtkbodiggdajbeaaGreatDoor
