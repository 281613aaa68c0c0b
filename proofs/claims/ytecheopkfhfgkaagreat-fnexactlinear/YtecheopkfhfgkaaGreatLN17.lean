/- Texts joined: DatT, DatU, DatV, DatE. -/
import Derived.Test.YtecheopkfhfgkaaGreatLN02
import Derived.Deep.RegionHeld3
import Derived.Deep.Cut
import Derived.Handy
set_option maxHeartbeats 2000000
set_option maxRecDepth 100000
namespace Go.Proofs.YtecheopkfhfgkaaGreat
section
open Go.ChangeShapes Go.WideShapes Go.ChangeAt Go.RowKit Go.Joins
theorem dInfoInt : (Tryz.prog.info? 3).map (fun i => (i.zero, i.size)) = some (some (.int .i64 0), 1) := by kernel_rfl
theorem dBytesInt : (Tryz.prog.info? 3).map (fun i => decide (i.bytes ≤ 1024)) = some true := by kernel_rfl
theorem dToIntS (v : Value) (n : Nat) (cs : List Cel) (w : World) (h : At false w v (.l 3 1 n cs)) (hs : Has (.l 3 1 n cs) (.l 3 1 [.i])) :
    Calls Tryz.prog 17 #[v] w (Ret w (.l 3 1 n cs)) := by
  obtain ⟨a, c, vs, rfl, h1, h2, hn, -, h3, h4⟩ := h.openL
  have SRC : Hid (n = 0 ∨ ∃ b o, a = some ⟨b, o, none⟩ ∧ ∀ j, j < n * 1 → w.cell? ⟨b, o + j, none⟩ = vs[j]?) := h3
  have HV : Hid (∀ j, j < n → AtL false w ((vs.drop (j * 1)).take 1) (row cs 1 j)) := fun j hj => rowVals h1 h2 h4 hj
  have HR : Hid (∀ j, j < n → HasL (row cs 1 j) [.i]) := fun j hj => hs.rowL hj
  have L2 : Hid (cs.length = n * 1) := h2
  have L1 : Hid (vs.length = n * 1) := h1
  obtain ⟨i0, hi, hz⟩ := Option.map_eq_some_iff.1 dInfoInt
  obtain ⟨i1, hi', hb1⟩ := Option.map_eq_some_iff.1 dBytesInt
  obtain rfl : i0 = i1 := Option.some.inj (hi.symm.trans hi')
  have hz0 : i0.zero = some (.int .i64 0) := congrArg Prod.fst hz
  have hz1 : i0.size = 1 := congrArg Prod.snd hz
  have hz2 : i0.bytes ≤ 1024 := of_decide_eq_true hb1
  have hby : i0.bytes * n ≤ 1024 * 2097152 := Nat.mul_le_mul hz2 hn
  clear h h1 h2 h3 h4 hs hz hb1 hi'
  go_enter Tryz.func17, Tryz.ntmps17
  go_wp2_with (at_make; refine wpList_make_full _ rfl _ _ 22 rfl w.heap.size 3 i0 (.int .i64 0) 1 Tryz.underlying22 hi hz0 hz1 .i64 .i64 _ _ n rfl rfl rfl rfl (by first | omega | (rw [Nat.mul_comm]; omega)) (by unfold maxLen; omega) (Nat.le_refl _) ?_; intro w1 own1 grow1)
  obtain ⟨ps0, lp0, O0⟩ := own_made (zv := [.int .i64 0]) (zc := [.i 0]) own1 hn rfl (fun j v hv => made_at hv (by decide)) (by
    intro i v c hv hc w'
    have hi : i < 1 := by have := (List.getElem?_eq_some_iff.1 hv).1; simpa using this
    rcases (show i = 0 by omega) with rfl <;> (simp at hv hc; subst hv hc)
    · exact .i _ _ (fun _ h => h))
  have hb1 : Below w.heap.size w w1 := (Below.refl _ _).grown grow1 (Nat.le_refl _) (fun k e => by cases e)
  clear own1 grow1
  go_loopw [4] (fun i wr => ∃ j : Nat, j ≤ n ∧ i = .int .i64 (j : Int) ∧ (∃ ps S, ps.length = n * 1 ∧ ps.take (j * 1) = cs.take (j * 1) ∧ Own wr w.heap.size (.slice (some ⟨w.heap.size, 0, none⟩) n n) (.l 3 1 n ps) S) ∧ Below w.heap.size w wr) (fun i _ => n - (intOf i).toNat)
  case atStart => exact ⟨0, Nat.zero_le _, by simp, ⟨ps0, _, lp0, by simp, O0⟩, hb1⟩
  case round =>
    obtain ⟨j, hj, rfl, ⟨ps, S, lp, tp, ho⟩, hb⟩ := hrel
    clear O0 hb1 lp0
    by_cases hlt : j < n
    · rcases SRC.out with h0 | ⟨p1, o1, rfl, g1⟩
      · omega
      have hk0 : (0 : Int) ≤ (j : Int) := by omega
      have hk1 : (j : Int) < (n : Int) := by omega
      have hA := HV.out j hlt
      have hH := HR.out j hlt
      have hcv : ∀ i, i < 1 → wr.cell? ⟨p1, o1 + (j * 1 + i), none⟩ = ((vs.drop (j * 1)).take 1)[i]? := fun i hi => by
        have hle : j * 1 + 1 ≤ n * 1 := by omega
        have h5 := g1 (j * 1 + i) (by omega)
        rw [List.getElem?_take_of_lt hi, List.getElem?_drop, ← h5]
        have h6 : w.cell? ⟨p1, o1 + (j * 1 + i), none⟩ = some (vs[j * 1 + i]'(by have := L1.out; omega)) := by rw [h5, List.getElem?_eq_getElem (by have := L1.out; omega)]
        exact hb.cell (show p1 < w.heap.size from World.block_lt_of_cell? w _ h6)
      obtain ⟨rs, hrs⟩ : ∃ rs, row cs 1 j = rs := ⟨_, rfl⟩
      obtain ⟨ws, hws⟩ : ∃ ws, (vs.drop (j * 1)).take 1 = ws := ⟨_, rfl⟩
      have HRS : Hid (row cs 1 j = rs) := hrs
      rw [hrs] at hA hH
      rw [hws] at hA hcv
      clear g1 hrs hws
      obtain ⟨c0, r0, rfl, T0, hH0⟩ := hH.cons
      obtain rfl := hH0.nil
      have HL0 : Hid (HasL [c0] [.i]) := hH
      obtain ⟨v0, vr0, rfl, A0, hA0⟩ := hA.consE
      obtain rfl := hA0.nilE
      have HA0 : Hid (AtL false w [v0] [c0]) := hA
      have e0 : wr.cell? ⟨p1, o1 + j * 1, none⟩ = some v0 := hcv 0 (by omega)
      clear hcv hA hH hA0 hH0
      have HO : Hid (Own wr w.heap.size (.slice (some ⟨w.heap.size, 0, none⟩) n n) (.l 3 1 n ps) S) := ho
      clear ho
      obtain ⟨x0, rfl⟩ := T0.int
      obtain rfl := A0.int
      obtain ⟨pv, Sj, hc, hf, -⟩ := HO.out.cell (j := j * 1) (List.getElem?_eq_getElem (by omega))
      simp only [Nat.mul_one] at e0 hc hf
      have HRS' : Hid (row cs 1 j = [.i x0]) := HRS.out
      go_wp2
      go_roundw
      case rel =>
        obtain ⟨S'', o'', -⟩ := Own.storeL (us := [.int .i64 x0]) (rs := [.i x0]) (p := j * 1) HO.out (OwnL.cons (S0 := fun _ => False) (S := fun _ => False) (S' := fun _ => False) (.i x0 _ (fun _ h => h)) (OwnL.nil (fun _ h => h)) (fun _ h => h.elim) (fun _ => by simp)) (fun _ h => h.elim) (by simp; omega)
        have hle : j * 1 + 1 ≤ n * 1 := by omega
        refine ⟨j + 1, by omega, by go_num, ⟨_, S'', ?_, ?_, by simpa [stores] using o''⟩, by simpa [stores] using stores_below (Nat.le_refl _) [.int .i64 x0] wr (j * 1) hb⟩
        · rw [over_len]; exact lp
        · have h3 := over_take [.i x0] ps (j * 1) (by simp; omega)
          rw [row_split (cs := cs), HRS'.out, ← tp, show (j + 1) * 1 = j * 1 + ([.i x0] : List Cel).length by simp]
          simpa using h3
      case measure => simp [intOf]; omega
    · obtain rfl : j = n := by omega
      have e : ps = cs := by rwa [List.take_of_length_le (by omega), List.take_of_length_le (by have := L2.out; omega)] at tp
      subst e
      go_wp2
      go_ret
      exact ⟨hb, _, S, rfl, ho⟩
theorem dToOp (vs : List Value) (cs : List Cel) (w : World) (h : AtL false w vs cs) (hs : HasL cs tyOp) : Calls Tryz.prog 38 #[.agg vs.toArray] w (RetL w cs) := by
  obtain ⟨c0, r0, rfl, T0, hH0⟩ := hs.cons
  obtain ⟨c1, r1, rfl, T1, hH1⟩ := hH0.cons
  obtain ⟨c2, r2, rfl, T2, hH2⟩ := hH1.cons
  obtain rfl := hH2.nil
  obtain ⟨x0, rfl⟩ := T0.int
  obtain ⟨x1, rfl⟩ := T1.int
  obtain ⟨x2, rfl⟩ := T2.int
  obtain ⟨v0, vr0, rfl, A0, hA0⟩ := h.consE
  obtain ⟨v1, vr1, rfl, A1, hA1⟩ := hA0.consE
  obtain ⟨v2, vr2, rfl, A2, hA2⟩ := hA1.consE
  obtain rfl := hA2.nilE
  obtain rfl := A0.int
  obtain rfl := A1.int
  obtain rfl := A2.int
  obtain ⟨R, hR⟩ : ∃ R, Value.agg #[.int .i64 x0, .int .i64 x1, .int .i64 x2] = R := ⟨_, rfl⟩
  have HR : Hid (Value.agg #[.int .i64 x0, .int .i64 x1, .int .i64 x2] = R) := hR
  clear hR
  go_enter Tryz.func38, Tryz.ntmps38
  go_wp2
  (try simp only [Exit.inBlock, Exit.then])
  refine bodyPost_ret (by simp [results, Tryz.results38, go_sem]; try rfl) rfl ?_
  exact ⟨(((Below.refl _ _).alloc (Nat.le_refl _) _).alloc (by simp) _).alloc (by simp; omega) _, [.int .i64 x0, .int .i64 x1, .int .i64 x2], fun _ => False, rfl, OwnL.cons (S0 := fun _ => False) (S := fun _ => False) (.i x0 _ (fun _ h => h)) (OwnL.cons (S0 := fun _ => False) (S := fun _ => False) (.i x1 _ (fun _ h => h)) (OwnL.cons (S0 := fun _ => False) (S := fun _ => False) (.i x2 _ (fun _ h => h)) (OwnL.nil (fun _ h => h)) (fun _ h => h.elim) (fun _ => by simp)) (fun _ h => h.elim) (fun _ => by simp)) (fun _ h => h.elim) (fun _ => by simp)⟩
theorem dToRes (vs : List Value) (cs : List Cel) (w : World) (h : AtL false w vs cs) (hs : HasL cs tyRes) : Calls Tryz.prog 39 #[.agg vs.toArray] w (RetL w cs) := by
  obtain ⟨c0, r0, rfl, T0, hH0⟩ := hs.cons
  obtain ⟨c1, r1, rfl, T1, hH1⟩ := hH0.cons
  obtain rfl := hH1.nil
  obtain ⟨v0, vr0, rfl, A0, hA0⟩ := h.consE
  obtain ⟨v1, vr1, rfl, A1, hA1⟩ := hA0.consE
  obtain rfl := hA1.nilE
  obtain ⟨x0, rfl⟩ := T0.int
  obtain rfl := A0.int
  have hA1' : Hid (At false w v1 c1) := A1
  obtain ⟨n1, cs1, rfl, -⟩ := T1.list
  have HT1 : Hid (Has (.l 3 1 n1 cs1) (.l 3 1 [.i])) := T1
  clear hs h hA0 hH0 hA1 hH1 T1 A1
  go_enter Tryz.func39, Tryz.ntmps39
  go_wp2_with fail
  have t0 := mk_new w #[.int .i64 x0, v1] #[.int .i64 0, .slice none 0 0] #[.int .i64 x0, .slice none 0 0] 41 50
  have m1 := (t0.num (v := .int .i64 x0) (c := .i x0) (fun _ => .i x0 _ (fun _ h => h)))
  refine (dToIntS v1 n1 cs1 _ (hA1'.out.on m1.b (Nat.le_refl _)) HT1.out).mono ?_
  rintro e w1 ⟨hb, u1, S1, rfl, ho⟩
  obtain ⟨q1, d1, rfl, -⟩ := ho.slice
  have m1' := m1.call1 hb ho
  have t1 : Hid (Mk w w1 #[.int .i64 x0, v1] #[.int .i64 0, .slice none 0 0] #[.int .i64 x0, .slice none 0 0] 41 50 _) := m1'
  have ax1_0 : w1.cell? ⟨w.heap.size, 0, none⟩ = some (.int .i64 x0) := t1.out.a.cell 0
  have cx1_0 : w1.cell? ⟨w.heap.size + 1 + 1, 0, none⟩ = some (.int .i64 x0) := t1.out.c.cell 0
  have fx1_0 : w1.frozen? ⟨w.heap.size + 1 + 1, 0, none⟩ = false := t1.out.c.frozen 0
  have ax1_1 : w1.cell? ⟨w.heap.size, 1, none⟩ = some (v1) := t1.out.a.cell 1
  have cx1_1 : w1.cell? ⟨w.heap.size + 1 + 1, 1, none⟩ = some (.slice none 0 0) := t1.out.c.cell 1
  have fx1_1 : w1.frozen? ⟨w.heap.size + 1 + 1, 1, none⟩ = false := t1.out.c.frozen 1
  have zx1_0 : w1.cell? ⟨w.heap.size + 1, 0, none⟩ = some (.int .i64 0) := t1.out.z.cell 0
  have gx1_0 : w1.frozen? ⟨w.heap.size + 1, 0, none⟩ = false := t1.out.z.frozen 0
  have zx1_1 : w1.cell? ⟨w.heap.size + 1, 1, none⟩ = some (.slice none 0 0) := t1.out.z.cell 1
  have gx1_1 : w1.frozen? ⟨w.heap.size + 1, 1, none⟩ = false := t1.out.z.frozen 1
  clear m1 m1' hb ho t0 
  go_wp2
  (try simp only [Exit.inBlock, Exit.then])
  refine bodyPost_ret (by simp [results, Tryz.results39, go_sem, zx1_0, zx1_1]; try rfl) rfl ?_
  have m := (((t1.out.store 1 ((.slice q1 n1 d1))).storeZ 0 (.int .i64 x0)).storeZ 1 ((.slice q1 n1 d1)))
  exact ⟨m.b, [.int .i64 x0, (.slice q1 n1 d1)], _, rfl, m.all⟩
theorem dToRows (vs : List Value) (cs : List Cel) (w : World) (h : AtL false w vs cs) (hs : HasL cs tyRows) : Calls Tryz.prog 7 #[.agg vs.toArray] w (RetL w cs) := by
  obtain ⟨c0, r0, rfl, T0, hH0⟩ := hs.cons
  obtain ⟨c1, r1, rfl, T1, hH1⟩ := hH0.cons
  obtain rfl := hH1.nil
  obtain ⟨v0, vr0, rfl, A0, hA0⟩ := h.consE
  obtain ⟨v1, vr1, rfl, A1, hA1⟩ := hA0.consE
  obtain rfl := hA1.nilE
  have hA0' : Hid (At false w v0 c0) := A0
  obtain ⟨x1, rfl⟩ := T1.int
  obtain rfl := A1.int
  obtain ⟨n0, cs0, rfl, -⟩ := T0.list
  have HT0 : Hid (Has (.l 3 1 n0 cs0) (.l 3 1 [.i])) := T0
  clear hs h hA0 hH0 hA1 hH1 T0 A0
  go_enter Tryz.func7, Tryz.ntmps7
  go_wp2_with fail
  have t0 := mk_new w #[v0, .int .i64 x1] #[.slice none 0 0, .int .i64 0] #[.slice none 0 0, .int .i64 0] 24 29
  have m1 := t0
  refine (dToIntS v0 n0 cs0 _ (hA0'.out.on m1.b (Nat.le_refl _)) HT0.out).mono ?_
  rintro e w1 ⟨hb, u0, S0, rfl, ho⟩
  obtain ⟨q0, d0, rfl, -⟩ := ho.slice
  have m1' := m1.call1 hb ho
  have t1 : Hid (Mk w w1 #[v0, .int .i64 x1] #[.slice none 0 0, .int .i64 0] #[.slice none 0 0, .int .i64 0] 24 29 _) := m1'
  have ax1_0 : w1.cell? ⟨w.heap.size, 0, none⟩ = some (v0) := t1.out.a.cell 0
  have cx1_0 : w1.cell? ⟨w.heap.size + 1 + 1, 0, none⟩ = some (.slice none 0 0) := t1.out.c.cell 0
  have fx1_0 : w1.frozen? ⟨w.heap.size + 1 + 1, 0, none⟩ = false := t1.out.c.frozen 0
  have ax1_1 : w1.cell? ⟨w.heap.size, 1, none⟩ = some (.int .i64 x1) := t1.out.a.cell 1
  have cx1_1 : w1.cell? ⟨w.heap.size + 1 + 1, 1, none⟩ = some (.int .i64 0) := t1.out.c.cell 1
  have fx1_1 : w1.frozen? ⟨w.heap.size + 1 + 1, 1, none⟩ = false := t1.out.c.frozen 1
  have zx1_0 : w1.cell? ⟨w.heap.size + 1, 0, none⟩ = some (.slice none 0 0) := t1.out.z.cell 0
  have gx1_0 : w1.frozen? ⟨w.heap.size + 1, 0, none⟩ = false := t1.out.z.frozen 0
  have zx1_1 : w1.cell? ⟨w.heap.size + 1, 1, none⟩ = some (.int .i64 0) := t1.out.z.cell 1
  have gx1_1 : w1.frozen? ⟨w.heap.size + 1, 1, none⟩ = false := t1.out.z.frozen 1
  clear m1 m1' hb ho t0 
  go_wp2
  (try simp only [Exit.inBlock, Exit.then])
  refine bodyPost_ret (by simp [results, Tryz.results7, go_sem, zx1_0, zx1_1]; try rfl) rfl ?_
  have m := (((((t1.out.store 0 ((.slice q0 n0 d0))).store 1 (.int .i64 x1)).num (v := .int .i64 x1) (c := .i x1) (fun _ => .i x1 _ (fun _ h => h))).storeZ 0 ((.slice q0 n0 d0))).storeZ 1 (.int .i64 x1))
  exact ⟨m.b, [(.slice q0 n0 d0), .int .i64 x1], _, rfl, m.all⟩
theorem dInfoCall : (Tryz.prog.info? 52).map (fun i => (i.zero, i.size)) = some (some (.agg #[.int .i64 0, .int .i64 0, .int .i64 0, .int .i64 0, .int .i64 0, .int .i64 0, .int .i64 0, .int .i64 0, .slice none 0 0]), 9) := by kernel_rfl
theorem dBytesCall : (Tryz.prog.info? 52).map (fun i => decide (i.bytes ≤ 1024)) = some true := by kernel_rfl
theorem dToCall (vs : List Value) (cs : List Cel) (w : World) (h : AtL false w vs cs) (hs : HasL cs tyCall) : Calls Tryz.prog 18 #[.agg vs.toArray] w (RetL w cs) := by
  obtain ⟨c0, r0, rfl, T0, hH0⟩ := hs.cons
  obtain ⟨c1, r1, rfl, T1, hH1⟩ := hH0.cons
  obtain ⟨c2, r2, rfl, T2, hH2⟩ := hH1.cons
  obtain ⟨c3, r3, rfl, T3, hH3⟩ := hH2.cons
  obtain ⟨c4, r4, rfl, T4, hH4⟩ := hH3.cons
  obtain ⟨c5, r5, rfl, T5, hH5⟩ := hH4.cons
  obtain ⟨c6, r6, rfl, T6, hH6⟩ := hH5.cons
  obtain ⟨c7, r7, rfl, T7, hH7⟩ := hH6.cons
  obtain ⟨c8, r8, rfl, T8, hH8⟩ := hH7.cons
  obtain rfl := hH8.nil
  obtain ⟨v0, vr0, rfl, A0, hA0⟩ := h.consE
  obtain ⟨v1, vr1, rfl, A1, hA1⟩ := hA0.consE
  obtain ⟨v2, vr2, rfl, A2, hA2⟩ := hA1.consE
  obtain ⟨v3, vr3, rfl, A3, hA3⟩ := hA2.consE
  obtain ⟨v4, vr4, rfl, A4, hA4⟩ := hA3.consE
  obtain ⟨v5, vr5, rfl, A5, hA5⟩ := hA4.consE
  obtain ⟨v6, vr6, rfl, A6, hA6⟩ := hA5.consE
  obtain ⟨v7, vr7, rfl, A7, hA7⟩ := hA6.consE
  obtain ⟨v8, vr8, rfl, A8, hA8⟩ := hA7.consE
  obtain rfl := hA8.nilE
  obtain ⟨x0, rfl⟩ := T0.int
  obtain rfl := A0.int
  obtain ⟨x1, rfl⟩ := T1.int
  obtain rfl := A1.int
  obtain ⟨x2, rfl⟩ := T2.int
  obtain rfl := A2.int
  obtain ⟨x3, rfl⟩ := T3.int
  obtain rfl := A3.int
  obtain ⟨x4, rfl⟩ := T4.int
  obtain rfl := A4.int
  obtain ⟨x5, rfl⟩ := T5.int
  obtain rfl := A5.int
  obtain ⟨x6, rfl⟩ := T6.int
  obtain rfl := A6.int
  obtain ⟨x7, rfl⟩ := T7.int
  obtain rfl := A7.int
  have hA8' : Hid (At false w v8 c8) := A8
  obtain ⟨n8, cs8, rfl, -⟩ := T8.list
  have HT8 : Hid (Has (.l 3 1 n8 cs8) (.l 3 1 [.i])) := T8
  have HN1 : Hid (AtL false w [.int .i64 x1, .int .i64 x2, .int .i64 x3] [.i x1, .i x2, .i x3]) := AtL.cons (.i x1) (AtL.cons (.i x2) (AtL.cons (.i x3) (AtL.nil)))
  have HH1 : Hid (HasL [.i x1, .i x2, .i x3] tyOp) := ⟨rfl, fun j c t hc ht => by
    have hj : j < 3 := by have := (List.getElem?_eq_some_iff.1 hc).1; simpa using this
    rcases (show j = 0 ∨ j = 1 ∨ j = 2 by omega) with rfl | rfl | rfl <;> (simp [tyOp] at hc ht; subst hc ht)
    · exact .i x1
    · exact .i x2
    · exact .i x3⟩
  have HN7 : Hid (AtL false w [.int .i64 x7, v8] [.i x7, .l 3 1 n8 cs8]) := AtL.cons (.i x7) (AtL.cons (hA8'.out) (AtL.nil))
  have HH7 : Hid (HasL [.i x7, .l 3 1 n8 cs8] tyRes) := ⟨rfl, fun j c t hc ht => by
    have hj : j < 2 := by have := (List.getElem?_eq_some_iff.1 hc).1; simpa using this
    rcases (show j = 0 ∨ j = 1 by omega) with rfl | rfl <;> (simp [tyRes] at hc ht; subst hc ht)
    · exact .i x7
    · exact HT8.out⟩
  clear hs h hA0 hH0 hA1 hH1 hA2 hH2 hA3 hH3 hA4 hH4 hA5 hH5 hA6 hH6 hA7 hH7 hA8 hH8 T8 A8
  go_enter Tryz.func18, Tryz.ntmps18
  go_wp2_with fail
  have t0 := mk_new w #[.int .i64 x0, .int .i64 x1, .int .i64 x2, .int .i64 x3, .int .i64 x4, .int .i64 x5, .int .i64 x6, .int .i64 x7, v8] #[.int .i64 0, .int .i64 0, .int .i64 0, .int .i64 0, .int .i64 0, .int .i64 0, .int .i64 0, .int .i64 0, .slice none 0 0] #[.int .i64 x0, .int .i64 0, .int .i64 0, .int .i64 0, .int .i64 0, .int .i64 0, .int .i64 0, .int .i64 0, .slice none 0 0] 43 52
  have m1 := (t0.num (v := .int .i64 x0) (c := .i x0) (fun _ => .i x0 _ (fun _ h => h)))
  refine (dToOp [.int .i64 x1, .int .i64 x2, .int .i64 x3] [.i x1, .i x2, .i x3] _ (HN1.out.on m1.b (Nat.le_refl _)) HH1.out).mono ?_
  rintro e w1 ⟨hb, us, S1, rfl, ho⟩
  have hU := ho.at
  obtain ⟨u1, ur1, rfl, U1, hU1⟩ := hU.consE
  obtain ⟨u2, ur2, rfl, U2, hU2⟩ := hU1.consE
  obtain ⟨u3, ur3, rfl, U3, hU3⟩ := hU2.consE
  obtain rfl := hU3.nilE
  obtain rfl := U1.int
  obtain rfl := U2.int
  obtain rfl := U3.int
  have m1' := m1.call hb ho
  clear hU U1 hU1 U2 hU2 U3 hU3
  have t1 : Hid (Mk w w1 #[.int .i64 x0, .int .i64 x1, .int .i64 x2, .int .i64 x3, .int .i64 x4, .int .i64 x5, .int .i64 x6, .int .i64 x7, v8] #[.int .i64 0, .int .i64 0, .int .i64 0, .int .i64 0, .int .i64 0, .int .i64 0, .int .i64 0, .int .i64 0, .slice none 0 0] #[.int .i64 x0, .int .i64 0, .int .i64 0, .int .i64 0, .int .i64 0, .int .i64 0, .int .i64 0, .int .i64 0, .slice none 0 0] 43 52 _) := m1'
  have ax1_0 : w1.cell? ⟨w.heap.size, 0, none⟩ = some (.int .i64 x0) := t1.out.a.cell 0
  have cx1_0 : w1.cell? ⟨w.heap.size + 1 + 1, 0, none⟩ = some (.int .i64 x0) := t1.out.c.cell 0
  have fx1_0 : w1.frozen? ⟨w.heap.size + 1 + 1, 0, none⟩ = false := t1.out.c.frozen 0
  have ax1_1 : w1.cell? ⟨w.heap.size, 1, none⟩ = some (.int .i64 x1) := t1.out.a.cell 1
  have cx1_1 : w1.cell? ⟨w.heap.size + 1 + 1, 1, none⟩ = some (.int .i64 0) := t1.out.c.cell 1
  have fx1_1 : w1.frozen? ⟨w.heap.size + 1 + 1, 1, none⟩ = false := t1.out.c.frozen 1
  have ax1_2 : w1.cell? ⟨w.heap.size, 2, none⟩ = some (.int .i64 x2) := t1.out.a.cell 2
  have cx1_2 : w1.cell? ⟨w.heap.size + 1 + 1, 2, none⟩ = some (.int .i64 0) := t1.out.c.cell 2
  have fx1_2 : w1.frozen? ⟨w.heap.size + 1 + 1, 2, none⟩ = false := t1.out.c.frozen 2
  have ax1_3 : w1.cell? ⟨w.heap.size, 3, none⟩ = some (.int .i64 x3) := t1.out.a.cell 3
  have cx1_3 : w1.cell? ⟨w.heap.size + 1 + 1, 3, none⟩ = some (.int .i64 0) := t1.out.c.cell 3
  have fx1_3 : w1.frozen? ⟨w.heap.size + 1 + 1, 3, none⟩ = false := t1.out.c.frozen 3
  have ax1_4 : w1.cell? ⟨w.heap.size, 4, none⟩ = some (.int .i64 x4) := t1.out.a.cell 4
  have cx1_4 : w1.cell? ⟨w.heap.size + 1 + 1, 4, none⟩ = some (.int .i64 0) := t1.out.c.cell 4
  have fx1_4 : w1.frozen? ⟨w.heap.size + 1 + 1, 4, none⟩ = false := t1.out.c.frozen 4
  have ax1_5 : w1.cell? ⟨w.heap.size, 5, none⟩ = some (.int .i64 x5) := t1.out.a.cell 5
  have cx1_5 : w1.cell? ⟨w.heap.size + 1 + 1, 5, none⟩ = some (.int .i64 0) := t1.out.c.cell 5
  have fx1_5 : w1.frozen? ⟨w.heap.size + 1 + 1, 5, none⟩ = false := t1.out.c.frozen 5
  have ax1_6 : w1.cell? ⟨w.heap.size, 6, none⟩ = some (.int .i64 x6) := t1.out.a.cell 6
  have cx1_6 : w1.cell? ⟨w.heap.size + 1 + 1, 6, none⟩ = some (.int .i64 0) := t1.out.c.cell 6
  have fx1_6 : w1.frozen? ⟨w.heap.size + 1 + 1, 6, none⟩ = false := t1.out.c.frozen 6
  have ax1_7 : w1.cell? ⟨w.heap.size, 7, none⟩ = some (.int .i64 x7) := t1.out.a.cell 7
  have cx1_7 : w1.cell? ⟨w.heap.size + 1 + 1, 7, none⟩ = some (.int .i64 0) := t1.out.c.cell 7
  have fx1_7 : w1.frozen? ⟨w.heap.size + 1 + 1, 7, none⟩ = false := t1.out.c.frozen 7
  have ax1_8 : w1.cell? ⟨w.heap.size, 8, none⟩ = some (v8) := t1.out.a.cell 8
  have cx1_8 : w1.cell? ⟨w.heap.size + 1 + 1, 8, none⟩ = some (.slice none 0 0) := t1.out.c.cell 8
  have fx1_8 : w1.frozen? ⟨w.heap.size + 1 + 1, 8, none⟩ = false := t1.out.c.frozen 8
  have zx1_0 : w1.cell? ⟨w.heap.size + 1, 0, none⟩ = some (.int .i64 0) := t1.out.z.cell 0
  have gx1_0 : w1.frozen? ⟨w.heap.size + 1, 0, none⟩ = false := t1.out.z.frozen 0
  have zx1_1 : w1.cell? ⟨w.heap.size + 1, 1, none⟩ = some (.int .i64 0) := t1.out.z.cell 1
  have gx1_1 : w1.frozen? ⟨w.heap.size + 1, 1, none⟩ = false := t1.out.z.frozen 1
  have zx1_2 : w1.cell? ⟨w.heap.size + 1, 2, none⟩ = some (.int .i64 0) := t1.out.z.cell 2
  have gx1_2 : w1.frozen? ⟨w.heap.size + 1, 2, none⟩ = false := t1.out.z.frozen 2
  have zx1_3 : w1.cell? ⟨w.heap.size + 1, 3, none⟩ = some (.int .i64 0) := t1.out.z.cell 3
  have gx1_3 : w1.frozen? ⟨w.heap.size + 1, 3, none⟩ = false := t1.out.z.frozen 3
  have zx1_4 : w1.cell? ⟨w.heap.size + 1, 4, none⟩ = some (.int .i64 0) := t1.out.z.cell 4
  have gx1_4 : w1.frozen? ⟨w.heap.size + 1, 4, none⟩ = false := t1.out.z.frozen 4
  have zx1_5 : w1.cell? ⟨w.heap.size + 1, 5, none⟩ = some (.int .i64 0) := t1.out.z.cell 5
  have gx1_5 : w1.frozen? ⟨w.heap.size + 1, 5, none⟩ = false := t1.out.z.frozen 5
  have zx1_6 : w1.cell? ⟨w.heap.size + 1, 6, none⟩ = some (.int .i64 0) := t1.out.z.cell 6
  have gx1_6 : w1.frozen? ⟨w.heap.size + 1, 6, none⟩ = false := t1.out.z.frozen 6
  have zx1_7 : w1.cell? ⟨w.heap.size + 1, 7, none⟩ = some (.int .i64 0) := t1.out.z.cell 7
  have gx1_7 : w1.frozen? ⟨w.heap.size + 1, 7, none⟩ = false := t1.out.z.frozen 7
  have zx1_8 : w1.cell? ⟨w.heap.size + 1, 8, none⟩ = some (.slice none 0 0) := t1.out.z.cell 8
  have gx1_8 : w1.frozen? ⟨w.heap.size + 1, 8, none⟩ = false := t1.out.z.frozen 8
  clear m1 m1' hb ho t0 
  go_wp2_with fail
  have t1' := (((t1.out.store 1 (.int .i64 x1)).store 2 (.int .i64 x2)).store 3 (.int .i64 x3))
  have t1 : Hid (Mk w _ _ _ _ 43 52 _) := t1'
  clear t1'
  have m2 := ((((((t1.out.store 4 (.int .i64 x4)).store 5 (.int .i64 x5)).store 6 (.int .i64 x6)).num (v := .int .i64 x4) (c := .i x4) (fun _ => .i x4 _ (fun _ h => h))).num (v := .int .i64 x5) (c := .i x5) (fun _ => .i x5 _ (fun _ h => h))).num (v := .int .i64 x6) (c := .i x6) (fun _ => .i x6 _ (fun _ h => h)))
  refine (dToRes [.int .i64 x7, v8] [.i x7, .l 3 1 n8 cs8] _ (HN7.out.on m2.b (Nat.le_refl _)) HH7.out).mono ?_
  rintro e w2 ⟨hb, us, S7, rfl, ho⟩
  have hU := ho.at
  obtain ⟨u7, ur7, rfl, U7, hU7⟩ := hU.consE
  obtain ⟨u8, ur8, rfl, U8, hU8⟩ := hU7.consE
  obtain rfl := hU8.nilE
  obtain rfl := U7.int
  obtain ⟨q8, d8, rfl⟩ := U8.slice
  have m2' := m2.call hb ho
  clear hU U7 hU7 U8 hU8
  have t2 : Hid (Mk w w2 #[.int .i64 x0, .int .i64 x1, .int .i64 x2, .int .i64 x3, .int .i64 x4, .int .i64 x5, .int .i64 x6, .int .i64 x7, v8] #[.int .i64 0, .int .i64 0, .int .i64 0, .int .i64 0, .int .i64 0, .int .i64 0, .int .i64 0, .int .i64 0, .slice none 0 0] #[.int .i64 x0, (.int .i64 x1), (.int .i64 x2), (.int .i64 x3), .int .i64 x4, .int .i64 x5, .int .i64 x6, .int .i64 0, .slice none 0 0] 43 52 _) := m2'
  have ax2_0 : w2.cell? ⟨w.heap.size, 0, none⟩ = some (.int .i64 x0) := t2.out.a.cell 0
  have cx2_0 : w2.cell? ⟨w.heap.size + 1 + 1, 0, none⟩ = some (.int .i64 x0) := t2.out.c.cell 0
  have fx2_0 : w2.frozen? ⟨w.heap.size + 1 + 1, 0, none⟩ = false := t2.out.c.frozen 0
  have ax2_1 : w2.cell? ⟨w.heap.size, 1, none⟩ = some (.int .i64 x1) := t2.out.a.cell 1
  have cx2_1 : w2.cell? ⟨w.heap.size + 1 + 1, 1, none⟩ = some ((.int .i64 x1)) := t2.out.c.cell 1
  have fx2_1 : w2.frozen? ⟨w.heap.size + 1 + 1, 1, none⟩ = false := t2.out.c.frozen 1
  have ax2_2 : w2.cell? ⟨w.heap.size, 2, none⟩ = some (.int .i64 x2) := t2.out.a.cell 2
  have cx2_2 : w2.cell? ⟨w.heap.size + 1 + 1, 2, none⟩ = some ((.int .i64 x2)) := t2.out.c.cell 2
  have fx2_2 : w2.frozen? ⟨w.heap.size + 1 + 1, 2, none⟩ = false := t2.out.c.frozen 2
  have ax2_3 : w2.cell? ⟨w.heap.size, 3, none⟩ = some (.int .i64 x3) := t2.out.a.cell 3
  have cx2_3 : w2.cell? ⟨w.heap.size + 1 + 1, 3, none⟩ = some ((.int .i64 x3)) := t2.out.c.cell 3
  have fx2_3 : w2.frozen? ⟨w.heap.size + 1 + 1, 3, none⟩ = false := t2.out.c.frozen 3
  have ax2_4 : w2.cell? ⟨w.heap.size, 4, none⟩ = some (.int .i64 x4) := t2.out.a.cell 4
  have cx2_4 : w2.cell? ⟨w.heap.size + 1 + 1, 4, none⟩ = some (.int .i64 x4) := t2.out.c.cell 4
  have fx2_4 : w2.frozen? ⟨w.heap.size + 1 + 1, 4, none⟩ = false := t2.out.c.frozen 4
  have ax2_5 : w2.cell? ⟨w.heap.size, 5, none⟩ = some (.int .i64 x5) := t2.out.a.cell 5
  have cx2_5 : w2.cell? ⟨w.heap.size + 1 + 1, 5, none⟩ = some (.int .i64 x5) := t2.out.c.cell 5
  have fx2_5 : w2.frozen? ⟨w.heap.size + 1 + 1, 5, none⟩ = false := t2.out.c.frozen 5
  have ax2_6 : w2.cell? ⟨w.heap.size, 6, none⟩ = some (.int .i64 x6) := t2.out.a.cell 6
  have cx2_6 : w2.cell? ⟨w.heap.size + 1 + 1, 6, none⟩ = some (.int .i64 x6) := t2.out.c.cell 6
  have fx2_6 : w2.frozen? ⟨w.heap.size + 1 + 1, 6, none⟩ = false := t2.out.c.frozen 6
  have ax2_7 : w2.cell? ⟨w.heap.size, 7, none⟩ = some (.int .i64 x7) := t2.out.a.cell 7
  have cx2_7 : w2.cell? ⟨w.heap.size + 1 + 1, 7, none⟩ = some (.int .i64 0) := t2.out.c.cell 7
  have fx2_7 : w2.frozen? ⟨w.heap.size + 1 + 1, 7, none⟩ = false := t2.out.c.frozen 7
  have ax2_8 : w2.cell? ⟨w.heap.size, 8, none⟩ = some (v8) := t2.out.a.cell 8
  have cx2_8 : w2.cell? ⟨w.heap.size + 1 + 1, 8, none⟩ = some (.slice none 0 0) := t2.out.c.cell 8
  have fx2_8 : w2.frozen? ⟨w.heap.size + 1 + 1, 8, none⟩ = false := t2.out.c.frozen 8
  have zx2_0 : w2.cell? ⟨w.heap.size + 1, 0, none⟩ = some (.int .i64 0) := t2.out.z.cell 0
  have gx2_0 : w2.frozen? ⟨w.heap.size + 1, 0, none⟩ = false := t2.out.z.frozen 0
  have zx2_1 : w2.cell? ⟨w.heap.size + 1, 1, none⟩ = some (.int .i64 0) := t2.out.z.cell 1
  have gx2_1 : w2.frozen? ⟨w.heap.size + 1, 1, none⟩ = false := t2.out.z.frozen 1
  have zx2_2 : w2.cell? ⟨w.heap.size + 1, 2, none⟩ = some (.int .i64 0) := t2.out.z.cell 2
  have gx2_2 : w2.frozen? ⟨w.heap.size + 1, 2, none⟩ = false := t2.out.z.frozen 2
  have zx2_3 : w2.cell? ⟨w.heap.size + 1, 3, none⟩ = some (.int .i64 0) := t2.out.z.cell 3
  have gx2_3 : w2.frozen? ⟨w.heap.size + 1, 3, none⟩ = false := t2.out.z.frozen 3
  have zx2_4 : w2.cell? ⟨w.heap.size + 1, 4, none⟩ = some (.int .i64 0) := t2.out.z.cell 4
  have gx2_4 : w2.frozen? ⟨w.heap.size + 1, 4, none⟩ = false := t2.out.z.frozen 4
  have zx2_5 : w2.cell? ⟨w.heap.size + 1, 5, none⟩ = some (.int .i64 0) := t2.out.z.cell 5
  have gx2_5 : w2.frozen? ⟨w.heap.size + 1, 5, none⟩ = false := t2.out.z.frozen 5
  have zx2_6 : w2.cell? ⟨w.heap.size + 1, 6, none⟩ = some (.int .i64 0) := t2.out.z.cell 6
  have gx2_6 : w2.frozen? ⟨w.heap.size + 1, 6, none⟩ = false := t2.out.z.frozen 6
  have zx2_7 : w2.cell? ⟨w.heap.size + 1, 7, none⟩ = some (.int .i64 0) := t2.out.z.cell 7
  have gx2_7 : w2.frozen? ⟨w.heap.size + 1, 7, none⟩ = false := t2.out.z.frozen 7
  have zx2_8 : w2.cell? ⟨w.heap.size + 1, 8, none⟩ = some (.slice none 0 0) := t2.out.z.cell 8
  have gx2_8 : w2.frozen? ⟨w.heap.size + 1, 8, none⟩ = false := t2.out.z.frozen 8
  clear m2 m2' hb ho  ax1_0 cx1_0 fx1_0 zx1_0 gx1_0 ax1_1 cx1_1 fx1_1 zx1_1 gx1_1 ax1_2 cx1_2 fx1_2 zx1_2 gx1_2 ax1_3 cx1_3 fx1_3 zx1_3 gx1_3 ax1_4 cx1_4 fx1_4 zx1_4 gx1_4 ax1_5 cx1_5 fx1_5 zx1_5 gx1_5 ax1_6 cx1_6 fx1_6 zx1_6 gx1_6 ax1_7 cx1_7 fx1_7 zx1_7 gx1_7 ax1_8 cx1_8 fx1_8 zx1_8 gx1_8
  go_wp2
  (try simp only [Exit.inBlock, Exit.then])
  refine bodyPost_ret (by simp [results, Tryz.results18, go_sem, zx2_0, zx2_1, zx2_2, zx2_3, zx2_4, zx2_5, zx2_6, zx2_7, zx2_8]; try rfl) rfl ?_
  have m := (((((((((((t2.out.store 7 ((.int .i64 x7))).store 8 ((.slice q8 n8 d8))).storeZ 0 (.int .i64 x0)).storeZ 1 ((.int .i64 x1))).storeZ 2 ((.int .i64 x2))).storeZ 3 ((.int .i64 x3))).storeZ 4 (.int .i64 x4)).storeZ 5 (.int .i64 x5)).storeZ 6 (.int .i64 x6)).storeZ 7 ((.int .i64 x7))).storeZ 8 ((.slice q8 n8 d8)))
  exact ⟨m.b, [.int .i64 x0, (.int .i64 x1), (.int .i64 x2), (.int .i64 x3), .int .i64 x4, .int .i64 x5, .int .i64 x6, (.int .i64 x7), (.slice q8 n8 d8)], _, rfl, m.all⟩
theorem dToCallS (v : Value) (n : Nat) (cs : List Cel) (w : World) (h : At false w v (.l 52 9 n cs)) (hs : Has (.l 52 9 n cs) (.l 52 9 tyCall)) :
    Calls Tryz.prog 8 #[v] w (Ret w (.l 52 9 n cs)) := by
  obtain ⟨a, c, vs, rfl, h1, h2, hn, -, h3, h4⟩ := h.openL
  have SRC : Hid (n = 0 ∨ ∃ b o, a = some ⟨b, o, none⟩ ∧ ∀ j, j < n * 9 → w.cell? ⟨b, o + j, none⟩ = vs[j]?) := h3
  have HV : Hid (∀ j, j < n → AtL false w ((vs.drop (j * 9)).take 9) (row cs 9 j)) := fun j hj => rowVals h1 h2 h4 hj
  have HR : Hid (∀ j, j < n → HasL (row cs 9 j) tyCall) := fun j hj => hs.rowL hj
  have L2 : Hid (cs.length = n * 9) := h2
  have L1 : Hid (vs.length = n * 9) := h1
  obtain ⟨i0, hi, hz⟩ := Option.map_eq_some_iff.1 dInfoCall
  obtain ⟨i1, hi', hb1⟩ := Option.map_eq_some_iff.1 dBytesCall
  obtain rfl : i0 = i1 := Option.some.inj (hi.symm.trans hi')
  have hz0 : i0.zero = some (.agg #[.int .i64 0, .int .i64 0, .int .i64 0, .int .i64 0, .int .i64 0, .int .i64 0, .int .i64 0, .int .i64 0, .slice none 0 0]) := congrArg Prod.fst hz
  have hz1 : i0.size = 9 := congrArg Prod.snd hz
  have hz2 : i0.bytes ≤ 1024 := of_decide_eq_true hb1
  have hby : i0.bytes * n ≤ 1024 * 2097152 := Nat.mul_le_mul hz2 hn
  clear h h1 h2 h3 h4 hs hz hb1 hi'
  go_enter Tryz.func8, Tryz.ntmps8
  go_wp2_with (at_make; refine wpList_make_full _ rfl _ _ 31 rfl w.heap.size 52 i0 (.agg #[.int .i64 0, .int .i64 0, .int .i64 0, .int .i64 0, .int .i64 0, .int .i64 0, .int .i64 0, .int .i64 0, .slice none 0 0]) 9 Tryz.underlying31 hi hz0 hz1 .i64 .i64 _ _ n rfl rfl rfl rfl (by first | omega | (rw [Nat.mul_comm]; omega)) (by unfold maxLen; omega) (Nat.le_refl _) ?_; intro w1 own1 grow1)
  obtain ⟨ps0, lp0, O0⟩ := own_made (zv := [.int .i64 0, .int .i64 0, .int .i64 0, .int .i64 0, .int .i64 0, .int .i64 0, .int .i64 0, .int .i64 0, .slice none 0 0]) (zc := [.i 0, .i 0, .i 0, .i 0, .i 0, .i 0, .i 0, .i 0, .l 3 1 0 []]) own1 hn rfl (fun j v hv => made_at hv (by decide)) (by
    intro i v c hv hc w'
    have hi : i < 9 := by have := (List.getElem?_eq_some_iff.1 hv).1; simpa using this
    rcases (show i = 0 ∨ i = 1 ∨ i = 2 ∨ i = 3 ∨ i = 4 ∨ i = 5 ∨ i = 6 ∨ i = 7 ∨ i = 8 by omega) with rfl | rfl | rfl | rfl | rfl | rfl | rfl | rfl | rfl <;> (simp at hv hc; subst hv hc)
    · exact .i _ _ (fun _ h => h)
    · exact .i _ _ (fun _ h => h)
    · exact .i _ _ (fun _ h => h)
    · exact .i _ _ (fun _ h => h)
    · exact .i _ _ (fun _ h => h)
    · exact .i _ _ (fun _ h => h)
    · exact .i _ _ (fun _ h => h)
    · exact .i _ _ (fun _ h => h)
    · exact .nil _ _ _ (fun _ h => h))
  have hb1 : Below w.heap.size w w1 := (Below.refl _ _).grown grow1 (Nat.le_refl _) (fun k e => by cases e)
  clear own1 grow1
  go_loopw [4] (fun i wr => ∃ j : Nat, j ≤ n ∧ i = .int .i64 (j : Int) ∧ (∃ ps S, ps.length = n * 9 ∧ ps.take (j * 9) = cs.take (j * 9) ∧ Own wr w.heap.size (.slice (some ⟨w.heap.size, 0, none⟩) n n) (.l 52 9 n ps) S) ∧ Below w.heap.size w wr) (fun i _ => n - (intOf i).toNat)
  case atStart => exact ⟨0, Nat.zero_le _, by simp, ⟨ps0, _, lp0, by simp, O0⟩, hb1⟩
  case round =>
    obtain ⟨j, hj, rfl, ⟨ps, S, lp, tp, ho⟩, hb⟩ := hrel
    clear O0 hb1 lp0
    by_cases hlt : j < n
    · rcases SRC.out with h0 | ⟨p1, o1, rfl, g1⟩
      · omega
      have hk0 : (0 : Int) ≤ (j : Int) := by omega
      have hk1 : (j : Int) < (n : Int) := by omega
      have hA := HV.out j hlt
      have hH := HR.out j hlt
      have hcv : ∀ i, i < 9 → wr.cell? ⟨p1, o1 + (j * 9 + i), none⟩ = ((vs.drop (j * 9)).take 9)[i]? := fun i hi => by
        have hle : j * 9 + 9 ≤ n * 9 := by omega
        have h5 := g1 (j * 9 + i) (by omega)
        rw [List.getElem?_take_of_lt hi, List.getElem?_drop, ← h5]
        have h6 : w.cell? ⟨p1, o1 + (j * 9 + i), none⟩ = some (vs[j * 9 + i]'(by have := L1.out; omega)) := by rw [h5, List.getElem?_eq_getElem (by have := L1.out; omega)]
        exact hb.cell (show p1 < w.heap.size from World.block_lt_of_cell? w _ h6)
      obtain ⟨rs, hrs⟩ : ∃ rs, row cs 9 j = rs := ⟨_, rfl⟩
      obtain ⟨ws, hws⟩ : ∃ ws, (vs.drop (j * 9)).take 9 = ws := ⟨_, rfl⟩
      have HRS : Hid (row cs 9 j = rs) := hrs
      rw [hrs] at hA hH
      rw [hws] at hA hcv
      clear g1 hrs hws
      obtain ⟨c0, r0, rfl, T0, hH0⟩ := hH.cons
      obtain ⟨c1, r1, rfl, T1, hH1⟩ := hH0.cons
      obtain ⟨c2, r2, rfl, T2, hH2⟩ := hH1.cons
      obtain ⟨c3, r3, rfl, T3, hH3⟩ := hH2.cons
      obtain ⟨c4, r4, rfl, T4, hH4⟩ := hH3.cons
      obtain ⟨c5, r5, rfl, T5, hH5⟩ := hH4.cons
      obtain ⟨c6, r6, rfl, T6, hH6⟩ := hH5.cons
      obtain ⟨c7, r7, rfl, T7, hH7⟩ := hH6.cons
      obtain ⟨c8, r8, rfl, T8, hH8⟩ := hH7.cons
      obtain rfl := hH8.nil
      have HL0 : Hid (HasL [c0, c1, c2, c3, c4, c5, c6, c7, c8] tyCall) := hH
      obtain ⟨v0, vr0, rfl, A0, hA0⟩ := hA.consE
      obtain ⟨v1, vr1, rfl, A1, hA1⟩ := hA0.consE
      obtain ⟨v2, vr2, rfl, A2, hA2⟩ := hA1.consE
      obtain ⟨v3, vr3, rfl, A3, hA3⟩ := hA2.consE
      obtain ⟨v4, vr4, rfl, A4, hA4⟩ := hA3.consE
      obtain ⟨v5, vr5, rfl, A5, hA5⟩ := hA4.consE
      obtain ⟨v6, vr6, rfl, A6, hA6⟩ := hA5.consE
      obtain ⟨v7, vr7, rfl, A7, hA7⟩ := hA6.consE
      obtain ⟨v8, vr8, rfl, A8, hA8⟩ := hA7.consE
      obtain rfl := hA8.nilE
      have HA0 : Hid (AtL false w [v0, v1, v2, v3, v4, v5, v6, v7, v8] [c0, c1, c2, c3, c4, c5, c6, c7, c8]) := hA
      have e0 : wr.cell? ⟨p1, o1 + j * 9, none⟩ = some v0 := hcv 0 (by omega)
      have e1 : wr.cell? ⟨p1, o1 + j * 9 + 1, none⟩ = some v1 := hcv 1 (by omega)
      have e2 : wr.cell? ⟨p1, o1 + j * 9 + 2, none⟩ = some v2 := hcv 2 (by omega)
      have e3 : wr.cell? ⟨p1, o1 + j * 9 + 3, none⟩ = some v3 := hcv 3 (by omega)
      have e4 : wr.cell? ⟨p1, o1 + j * 9 + 4, none⟩ = some v4 := hcv 4 (by omega)
      have e5 : wr.cell? ⟨p1, o1 + j * 9 + 5, none⟩ = some v5 := hcv 5 (by omega)
      have e6 : wr.cell? ⟨p1, o1 + j * 9 + 6, none⟩ = some v6 := hcv 6 (by omega)
      have e7 : wr.cell? ⟨p1, o1 + j * 9 + 7, none⟩ = some v7 := hcv 7 (by omega)
      have e8 : wr.cell? ⟨p1, o1 + j * 9 + 8, none⟩ = some v8 := hcv 8 (by omega)
      clear hcv hA hH hA0 hH0 hA1 hH1 hA2 hH2 hA3 hH3 hA4 hH4 hA5 hH5 hA6 hH6 hA7 hH7 hA8 hH8
      have HO : Hid (Own wr w.heap.size (.slice (some ⟨w.heap.size, 0, none⟩) n n) (.l 52 9 n ps) S) := ho
      clear ho
      go_wp2_with fail
      refine (dToCall [v0, v1, v2, v3, v4, v5, v6, v7, v8] [c0, c1, c2, c3, c4, c5, c6, c7, c8] _ (HA0.out.on hb (Nat.le_refl _)) HL0.out).mono ?_
      rintro e w2 ⟨hb2, us, S', rfl, oL⟩
      have hU := oL.at
      obtain ⟨u0, ur0, rfl, U0, hA0⟩ := hU.consE
      obtain ⟨u1, ur1, rfl, U1, hA1⟩ := hA0.consE
      obtain ⟨u2, ur2, rfl, U2, hA2⟩ := hA1.consE
      obtain ⟨u3, ur3, rfl, U3, hA3⟩ := hA2.consE
      obtain ⟨u4, ur4, rfl, U4, hA4⟩ := hA3.consE
      obtain ⟨u5, ur5, rfl, U5, hA5⟩ := hA4.consE
      obtain ⟨u6, ur6, rfl, U6, hA6⟩ := hA5.consE
      obtain ⟨u7, ur7, rfl, U7, hA7⟩ := hA6.consE
      obtain ⟨u8, ur8, rfl, U8, hA8⟩ := hA7.consE
      obtain rfl := hA8.nilE
      obtain ⟨x0, rfl⟩ := T0.int
      obtain ⟨x1, rfl⟩ := T1.int
      obtain ⟨x2, rfl⟩ := T2.int
      obtain ⟨x3, rfl⟩ := T3.int
      obtain ⟨x4, rfl⟩ := T4.int
      obtain ⟨x5, rfl⟩ := T5.int
      obtain ⟨x6, rfl⟩ := T6.int
      obtain ⟨x7, rfl⟩ := T7.int
      have T8' := T8
      obtain ⟨n8, cs8, rfl, -⟩ := T8.list
      obtain rfl := U0.int
      obtain rfl := U1.int
      obtain rfl := U2.int
      obtain rfl := U3.int
      obtain rfl := U4.int
      obtain rfl := U5.int
      obtain rfl := U6.int
      obtain rfl := U7.int
      obtain ⟨q8, m8, rfl⟩ := U8.slice
      have O2 := HO.out.on hb2 (Nat.le_refl _)
      have hb02 : Below w.heap.size w w2 := hb.trans (hb2.mono hb.size)
      obtain ⟨pv0, -, hc0, hf0, -⟩ := O2.cell (j := j * 9) (List.getElem?_eq_getElem (by omega))
      obtain ⟨pv1, -, hc1, hf1, -⟩ := O2.cell (j := j * 9 + 1) (List.getElem?_eq_getElem (by omega))
      obtain ⟨pv2, -, hc2, hf2, -⟩ := O2.cell (j := j * 9 + 2) (List.getElem?_eq_getElem (by omega))
      obtain ⟨pv3, -, hc3, hf3, -⟩ := O2.cell (j := j * 9 + 3) (List.getElem?_eq_getElem (by omega))
      obtain ⟨pv4, -, hc4, hf4, -⟩ := O2.cell (j := j * 9 + 4) (List.getElem?_eq_getElem (by omega))
      obtain ⟨pv5, -, hc5, hf5, -⟩ := O2.cell (j := j * 9 + 5) (List.getElem?_eq_getElem (by omega))
      obtain ⟨pv6, -, hc6, hf6, -⟩ := O2.cell (j := j * 9 + 6) (List.getElem?_eq_getElem (by omega))
      obtain ⟨pv7, -, hc7, hf7, -⟩ := O2.cell (j := j * 9 + 7) (List.getElem?_eq_getElem (by omega))
      obtain ⟨pv8, -, hc8, hf8, -⟩ := O2.cell (j := j * 9 + 8) (List.getElem?_eq_getElem (by omega))
      have OL : Hid (OwnL w2 wr.heap.size [.int .i64 x0, .int .i64 x1, .int .i64 x2, .int .i64 x3, .int .i64 x4, .int .i64 x5, .int .i64 x6, .int .i64 x7, .slice q8 n8 m8] [.i x0, .i x1, .i x2, .i x3, .i x4, .i x5, .i x6, .i x7, .l 3 1 n8 cs8] S') := oL
      have HO2 : Hid (Own w2 w.heap.size (.slice (some ⟨w.heap.size, 0, none⟩) n n) (.l 52 9 n ps) S) := O2
      have HRS' : Hid (row cs 9 j = [.i x0, .i x1, .i x2, .i x3, .i x4, .i x5, .i x6, .i x7, .l 3 1 n8 cs8]) := HRS.out
      clear oL O2 hb2 hU e0 e1 e2 e3 e4 e5 e6 e7 e8 
      go_wp2
      go_roundw
      case rel =>
        have slt : ∀ x, S x → x < wr.heap.size := fun x hx => (HO.out.lt x hx).2
        obtain ⟨S'', o'', -⟩ := Own.storeL (p := j * 9) HO2.out (OL.out.weaken hb.size) (fun x hx hx' => by have h1 := (OL.out.lt x hx).1; have h2 := slt x hx'; omega) (by simp; omega)
        have hle : j * 9 + 9 ≤ n * 9 := by omega
        refine ⟨j + 1, by omega, by go_num, ⟨_, S'', ?_, ?_, o''⟩, stores_below (Nat.le_refl _) [.int .i64 x0, .int .i64 x1, .int .i64 x2, .int .i64 x3, .int .i64 x4, .int .i64 x5, .int .i64 x6, .int .i64 x7, .slice q8 n8 m8] w2 (j * 9) hb02⟩
        · rw [over_len]; exact lp
        · have h3 := over_take [.i x0, .i x1, .i x2, .i x3, .i x4, .i x5, .i x6, .i x7, .l 3 1 n8 cs8] ps (j * 9) (by simp; omega)
          rw [row_split (cs := cs), HRS'.out, ← tp, show (j + 1) * 9 = j * 9 + ([.i x0, .i x1, .i x2, .i x3, .i x4, .i x5, .i x6, .i x7, .l 3 1 n8 cs8] : List Cel).length by simp; omega]
          exact h3
      case measure => simp [intOf]; omega
    · obtain rfl : j = n := by omega
      have e : ps = cs := by rwa [List.take_of_length_le (by omega), List.take_of_length_le (by have := L2.out; omega)] at tp
      subst e
      go_wp2
      go_ret
      exact ⟨hb, _, S, rfl, ho⟩
theorem dEqIntS (v u : Value) (n : Nat) (cs : List Cel) (w : World) (h : At false w v (.l 3 1 n cs)) (h' : At false w u (.l 3 1 n cs)) (hs : Has (.l 3 1 n cs) (.l 3 1 [.i])) :
    Calls Tryz.prog 28 #[v, u] w (Yes w) := by
  obtain ⟨a, c, vs, rfl, h1, h2, hn, -, h3, h4⟩ := h.openL
  have SRC : Hid (n = 0 ∨ ∃ b o, a = some ⟨b, o, none⟩ ∧ ∀ j, j < n * 1 → w.cell? ⟨b, o + j, none⟩ = vs[j]?) := h3
  have HV : Hid (∀ j, j < n → AtL false w ((vs.drop (j * 1)).take 1) (row cs 1 j)) := fun j hj => rowVals h1 h2 h4 hj
  have Lvs : Hid (vs.length = n * 1) := h1
  clear h1 h2 h3 h4 hn
  obtain ⟨a', c', us, rfl, h1, h2, hn, -, h3, h4⟩ := h'.openL
  have SRD : Hid (n = 0 ∨ ∃ b o, a' = some ⟨b, o, none⟩ ∧ ∀ j, j < n * 1 → w.cell? ⟨b, o + j, none⟩ = us[j]?) := h3
  have HU : Hid (∀ j, j < n → AtL false w ((us.drop (j * 1)).take 1) (row cs 1 j)) := fun j hj => rowVals h1 h2 h4 hj
  have Lus : Hid (us.length = n * 1) := h1
  clear h1 h2 h3 h4 
  have HR : Hid (∀ j, j < n → HasL (row cs 1 j) [.i]) := fun j hj => hs.rowL hj
  clear h h' hs
  go_enter Tryz.func28, Tryz.ntmps28
  go_wp2
  go_loopw [5] (fun i wr => ∃ j : Nat, j ≤ n ∧ i = .int .i64 j ∧ Below w.heap.size w wr) (fun i _ => n - (intOf i).toNat)
  case atStart => exact ⟨0, Nat.zero_le _, rfl, Below.refl _ _⟩
  case round =>
    obtain ⟨j, hj, rfl, hb⟩ := hrel
    by_cases hlt : j < n
    · have hk0 : (0 : Int) ≤ (j : Int) := by omega
      have hk1 : (j : Int) < (n : Int) := by omega
      have hle : j * 1 + 1 ≤ n * 1 := by omega
      have hH := HR.out j hlt
      obtain ⟨rs, hrs⟩ : ∃ rs, row cs 1 j = rs := ⟨_, rfl⟩
      rw [hrs] at hH
      rcases SRC.out with h0 | ⟨p1, o1, rfl, g1⟩
      · omega
      have hA := HV.out j hlt
      have ce : ∀ i, i < 1 → wr.cell? ⟨p1, o1 + (j * 1 + i), none⟩ = ((vs.drop (j * 1)).take 1)[i]? := fun i hi => by
        have h5 := g1 (j * 1 + i) (by omega)
        rw [List.getElem?_take_of_lt hi, List.getElem?_drop, ← h5]
        have h6 : w.cell? ⟨p1, o1 + (j * 1 + i), none⟩ = some (vs[j * 1 + i]'(by have := Lvs.out; omega)) := by rw [h5, List.getElem?_eq_getElem (by have := Lvs.out; omega)]
        exact hb.cell (show p1 < w.heap.size from World.block_lt_of_cell? w _ h6)
      obtain ⟨ws, hws⟩ : ∃ ws, (vs.drop (j * 1)).take 1 = ws := ⟨_, rfl⟩
      rw [hrs] at hA
      rw [hws] at hA ce
      clear g1 hws
      rcases SRD.out with h0 | ⟨p2, o2, rfl, g2⟩
      · omega
      have hB := HU.out j hlt
      have cf : ∀ i, i < 1 → wr.cell? ⟨p2, o2 + (j * 1 + i), none⟩ = ((us.drop (j * 1)).take 1)[i]? := fun i hi => by
        have h5 := g2 (j * 1 + i) (by omega)
        rw [List.getElem?_take_of_lt hi, List.getElem?_drop, ← h5]
        have h6 : w.cell? ⟨p2, o2 + (j * 1 + i), none⟩ = some (us[j * 1 + i]'(by have := Lus.out; omega)) := by rw [h5, List.getElem?_eq_getElem (by have := Lus.out; omega)]
        exact hb.cell (show p2 < w.heap.size from World.block_lt_of_cell? w _ h6)
      obtain ⟨ws', hws⟩ : ∃ ws, (us.drop (j * 1)).take 1 = ws := ⟨_, rfl⟩
      rw [hrs] at hB
      rw [hws] at hB cf
      clear g2 hws
      obtain ⟨c0, r0, rfl, T0, hH0⟩ := hH.cons
      obtain rfl := hH0.nil
      have HL0 : Hid (HasL [c0] [.i]) := hH
      obtain ⟨v0, vr0, rfl, A0, hA0⟩ := hA.consE
      obtain rfl := hA0.nilE
      obtain ⟨u0, ur0, rfl, B0, hB0⟩ := hB.consE
      obtain rfl := hB0.nilE
      have HA0 : Hid (AtL false w [v0] [c0]) := hA
      have HB0 : Hid (AtL false w [u0] [c0]) := hB
      have e0 : wr.cell? ⟨p1, o1 + j * 1, none⟩ = some v0 := ce 0 (by omega)
      have f0 : wr.cell? ⟨p2, o2 + j * 1, none⟩ = some u0 := cf 0 (by omega)
      obtain ⟨x0, rfl⟩ := T0.int
      obtain rfl := A0.int
      obtain rfl := B0.int
      simp only [Nat.mul_one] at e0 f0
      have ne0 : (x0 != x0) = false := by simp
      clear ce cf hrs hA0 hB0 hH0 hA hB hH T0 A0 B0
      go_wp2
      go_region
      go_wp2
      exact ⟨⟨j + 1, by omega, by go_num, hb.drew⟩, by simp [intOf]; omega⟩
    · obtain rfl : j = n := by omega
      go_wp2
      go_ret
      exact ⟨rfl, hb⟩
theorem dEqOp (vs us : List Value) (cs : List Cel) (w : World) (h : AtL false w vs cs) (h' : AtL false w us cs) (hs : HasL cs tyOp) : Calls Tryz.prog 58 #[.agg vs.toArray, .agg us.toArray] w (Yes w) := by
  obtain ⟨c0, r0, rfl, T0, hH0⟩ := hs.cons
  obtain ⟨c1, r1, rfl, T1, hH1⟩ := hH0.cons
  obtain ⟨c2, r2, rfl, T2, hH2⟩ := hH1.cons
  obtain rfl := hH2.nil
  obtain ⟨v0, vr0, rfl, A0, hA0⟩ := h.consE
  obtain ⟨v1, vr1, rfl, A1, hA1⟩ := hA0.consE
  obtain ⟨v2, vr2, rfl, A2, hA2⟩ := hA1.consE
  obtain rfl := hA2.nilE
  obtain ⟨u0, ur0, rfl, B0, hB0⟩ := h'.consE
  obtain ⟨u1, ur1, rfl, B1, hB1⟩ := hB0.consE
  obtain ⟨u2, ur2, rfl, B2, hB2⟩ := hB1.consE
  obtain rfl := hB2.nilE
  obtain ⟨x0, rfl⟩ := T0.int
  obtain rfl := A0.int
  obtain rfl := B0.int
  have ne0 : (x0 != x0) = false := by simp
  obtain ⟨x1, rfl⟩ := T1.int
  obtain rfl := A1.int
  obtain rfl := B1.int
  have ne1 : (x1 != x1) = false := by simp
  obtain ⟨x2, rfl⟩ := T2.int
  obtain rfl := A2.int
  obtain rfl := B2.int
  have ne2 : (x2 != x2) = false := by simp
  clear hs h h' hA0 hB0 hH0 T0 A0 B0 hA1 hB1 hH1 T1 A1 B1 hA2 hB2 hH2 T2 A2 B2
  obtain ⟨W, hW⟩ : ∃ W, (w.alloc (.cells #[.int .i64 x0, .int .i64 x1, .int .i64 x2] 49)).alloc (.cells #[.int .i64 x0, .int .i64 x1, .int .i64 x2] 49) = W := ⟨_, rfl⟩
  have t0 : Hid (Two w W #[.int .i64 x0, .int .i64 x1, .int .i64 x2] #[.int .i64 x0, .int .i64 x1, .int .i64 x2] 49) := by rw [← hW]; exact two_new w _ _ _
  have HW : Hid _ := hW
  clear hW
  go_enter Tryz.func58, Tryz.ntmps58
  go_upto_region 1 with (fail)
  rw [HW.out]
  have ax0 : W.cell? ⟨w.heap.size, 0, none⟩ = some (.int .i64 x0) := t0.out.a.cell 0
  have bx0 : W.cell? ⟨w.heap.size + 1, 0, none⟩ = some (.int .i64 x0) := t0.out.b.cell 0
  have ax1 : W.cell? ⟨w.heap.size, 1, none⟩ = some (.int .i64 x1) := t0.out.a.cell 1
  have bx1 : W.cell? ⟨w.heap.size + 1, 1, none⟩ = some (.int .i64 x1) := t0.out.b.cell 1
  have ax2 : W.cell? ⟨w.heap.size, 2, none⟩ = some (.int .i64 x2) := t0.out.a.cell 2
  have bx2 : W.cell? ⟨w.heap.size + 1, 2, none⟩ = some (.int .i64 x2) := t0.out.b.cell 2
  go_wp2
  go_ret
  exact ⟨rfl, t0.out.on⟩
theorem dEqRes (vs us : List Value) (cs : List Cel) (w : World) (h : AtL false w vs cs) (h' : AtL false w us cs) (hs : HasL cs tyRes) : Calls Tryz.prog 59 #[.agg vs.toArray, .agg us.toArray] w (Yes w) := by
  obtain ⟨c0, r0, rfl, T0, hH0⟩ := hs.cons
  obtain ⟨c1, r1, rfl, T1, hH1⟩ := hH0.cons
  obtain rfl := hH1.nil
  obtain ⟨v0, vr0, rfl, A0, hA0⟩ := h.consE
  obtain ⟨v1, vr1, rfl, A1, hA1⟩ := hA0.consE
  obtain rfl := hA1.nilE
  obtain ⟨u0, ur0, rfl, B0, hB0⟩ := h'.consE
  obtain ⟨u1, ur1, rfl, B1, hB1⟩ := hB0.consE
  obtain rfl := hB1.nilE
  obtain ⟨x0, rfl⟩ := T0.int
  obtain rfl := A0.int
  obtain rfl := B0.int
  have ne0 : (x0 != x0) = false := by simp
  obtain ⟨n1, cs1, rfl, -⟩ := T1.list
  have HT1 : Hid (Has (.l 3 1 n1 cs1) (.l 3 1 [.i])) := T1
  obtain ⟨p1, d1, rfl⟩ := A1.slice
  obtain ⟨q1, e1, rfl⟩ := B1.slice
  have hA1' : Hid (At false w (.slice p1 n1 d1) (.l 3 1 n1 cs1)) := A1
  have hB1' : Hid (At false w (.slice q1 n1 e1) (.l 3 1 n1 cs1)) := B1
  clear hs h h' hA0 hB0 hH0 T0 A0 B0 hA1 hB1 hH1 T1 A1 B1
  obtain ⟨W, hW⟩ : ∃ W, (w.alloc (.cells #[.int .i64 x0, .slice p1 n1 d1] 50)).alloc (.cells #[.int .i64 x0, .slice q1 n1 e1] 50) = W := ⟨_, rfl⟩
  have t0 : Hid (Two w W #[.int .i64 x0, .slice p1 n1 d1] #[.int .i64 x0, .slice q1 n1 e1] 50) := by rw [← hW]; exact two_new w _ _ _
  have HW : Hid _ := hW
  clear hW
  go_enter Tryz.func59, Tryz.ntmps59
  go_upto_region 1 with (fail)
  rw [HW.out]
  have ax0 : W.cell? ⟨w.heap.size, 0, none⟩ = some (.int .i64 x0) := t0.out.a.cell 0
  have bx0 : W.cell? ⟨w.heap.size + 1, 0, none⟩ = some (.int .i64 x0) := t0.out.b.cell 0
  have ax1 : W.cell? ⟨w.heap.size, 1, none⟩ = some (.slice p1 n1 d1) := t0.out.a.cell 1
  have bx1 : W.cell? ⟨w.heap.size + 1, 1, none⟩ = some (.slice q1 n1 e1) := t0.out.b.cell 1
  go_wp2_with fail
  refine (dEqIntS _ _ n1 cs1 _ (hA1'.out.on t0.out.on (Nat.le_refl _)) (hB1'.out.on t0.out.on (Nat.le_refl _)) HT1.out).mono ?_
  rintro e w1 ⟨rfl, hb⟩
  have t1 : Hid (Two w w1 #[.int .i64 x0, .slice p1 n1 d1] #[.int .i64 x0, .slice q1 n1 e1] 50) := t0.out.call hb
  clear hb ax0 bx0 ax1 bx1
  have ax0 : w1.cell? ⟨w.heap.size, 0, none⟩ = some (.int .i64 x0) := t1.out.a.cell 0
  have bx0 : w1.cell? ⟨w.heap.size + 1, 0, none⟩ = some (.int .i64 x0) := t1.out.b.cell 0
  have ax1 : w1.cell? ⟨w.heap.size, 1, none⟩ = some (.slice p1 n1 d1) := t1.out.a.cell 1
  have bx1 : w1.cell? ⟨w.heap.size + 1, 1, none⟩ = some (.slice q1 n1 e1) := t1.out.b.cell 1
  go_wp2
  go_ret
  exact ⟨rfl, t1.out.on⟩
theorem dEqRows (vs us : List Value) (cs : List Cel) (w : World) (h : AtL false w vs cs) (h' : AtL false w us cs) (hs : HasL cs tyRows) : Calls Tryz.prog 10 #[.agg vs.toArray, .agg us.toArray] w (Yes w) := by
  obtain ⟨c0, r0, rfl, T0, hH0⟩ := hs.cons
  obtain ⟨c1, r1, rfl, T1, hH1⟩ := hH0.cons
  obtain rfl := hH1.nil
  obtain ⟨v0, vr0, rfl, A0, hA0⟩ := h.consE
  obtain ⟨v1, vr1, rfl, A1, hA1⟩ := hA0.consE
  obtain rfl := hA1.nilE
  obtain ⟨u0, ur0, rfl, B0, hB0⟩ := h'.consE
  obtain ⟨u1, ur1, rfl, B1, hB1⟩ := hB0.consE
  obtain rfl := hB1.nilE
  obtain ⟨n0, cs0, rfl, -⟩ := T0.list
  have HT0 : Hid (Has (.l 3 1 n0 cs0) (.l 3 1 [.i])) := T0
  obtain ⟨p0, d0, rfl⟩ := A0.slice
  obtain ⟨q0, e0, rfl⟩ := B0.slice
  have hA0' : Hid (At false w (.slice p0 n0 d0) (.l 3 1 n0 cs0)) := A0
  have hB0' : Hid (At false w (.slice q0 n0 e0) (.l 3 1 n0 cs0)) := B0
  obtain ⟨x1, rfl⟩ := T1.int
  obtain rfl := A1.int
  obtain rfl := B1.int
  have ne1 : (x1 != x1) = false := by simp
  clear hs h h' hA0 hB0 hH0 T0 A0 B0 hA1 hB1 hH1 T1 A1 B1
  obtain ⟨W, hW⟩ : ∃ W, (w.alloc (.cells #[.slice p0 n0 d0, .int .i64 x1] 29)).alloc (.cells #[.slice q0 n0 e0, .int .i64 x1] 29) = W := ⟨_, rfl⟩
  have t0 : Hid (Two w W #[.slice p0 n0 d0, .int .i64 x1] #[.slice q0 n0 e0, .int .i64 x1] 29) := by rw [← hW]; exact two_new w _ _ _
  have HW : Hid _ := hW
  clear hW
  go_enter Tryz.func10, Tryz.ntmps10
  go_upto_region 1 with (fail)
  rw [HW.out]
  have ax0 : W.cell? ⟨w.heap.size, 0, none⟩ = some (.slice p0 n0 d0) := t0.out.a.cell 0
  have bx0 : W.cell? ⟨w.heap.size + 1, 0, none⟩ = some (.slice q0 n0 e0) := t0.out.b.cell 0
  have ax1 : W.cell? ⟨w.heap.size, 1, none⟩ = some (.int .i64 x1) := t0.out.a.cell 1
  have bx1 : W.cell? ⟨w.heap.size + 1, 1, none⟩ = some (.int .i64 x1) := t0.out.b.cell 1
  go_wp2_with fail
  refine (dEqIntS _ _ n0 cs0 _ (hA0'.out.on t0.out.on (Nat.le_refl _)) (hB0'.out.on t0.out.on (Nat.le_refl _)) HT0.out).mono ?_
  rintro e w1 ⟨rfl, hb⟩
  have t1 : Hid (Two w w1 #[.slice p0 n0 d0, .int .i64 x1] #[.slice q0 n0 e0, .int .i64 x1] 29) := t0.out.call hb
  clear hb ax0 bx0 ax1 bx1
  have ax0 : w1.cell? ⟨w.heap.size, 0, none⟩ = some (.slice p0 n0 d0) := t1.out.a.cell 0
  have bx0 : w1.cell? ⟨w.heap.size + 1, 0, none⟩ = some (.slice q0 n0 e0) := t1.out.b.cell 0
  have ax1 : w1.cell? ⟨w.heap.size, 1, none⟩ = some (.int .i64 x1) := t1.out.a.cell 1
  have bx1 : w1.cell? ⟨w.heap.size + 1, 1, none⟩ = some (.int .i64 x1) := t1.out.b.cell 1
  go_wp2
  go_ret
  exact ⟨rfl, t1.out.on⟩
end
end Go.Proofs.YtecheopkfhfgkaaGreat
