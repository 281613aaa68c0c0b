/- Texts joined: DatL2. -/
import Derived.Test.YtcfimaffeopbbaaGreatDoorQM35
import Derived.Deep.RegionHeld3
import Derived.Deep.Cut
import Derived.Handy
set_option maxHeartbeats 2000000
set_option maxRecDepth 100000
namespace Go.Proofs.YtcfimaffeopbbaaGreatDoor
section
open Go.ChangeShapes Go.WideShapes Go.ChangeAt Go.RowKit Go.Joins
set_option linter.unusedSimpArgs false
theorem dHeldRows (tx : Int → ByteArray) (vs : List Value) (cs : List Cel) (k0 : Int) (w : World) (h : AtL false w vs (topL tx cs k0)) (hs : HasL cs tyRows) (hk0 : 0 ≤ k0) (hk1 : k0 + (tcnt cs : Int) ≤ 4611686018427387904) :
   Calls Tryz.prog 43 #[.agg vs.toArray, .int .i64 k0] w (SaysD w (k0 + (tcnt cs : Int))) := by
 obtain ⟨c0, c1, rfl, T0, T1⟩ := hs.c2
 obtain ⟨n0, cs0, rfl, -⟩ := T0.list
 have HT0 : Hid (Has (.l 3 1 n0 cs0) (.l 3 1 [.i])) := T0
 obtain ⟨x1, rfl⟩ := T1.int
 simp only [tcnt] at hk1
 push_cast at hk1
 simp only [topL] at h
 obtain ⟨q1, hq1⟩ : ∃ q' : Int, k0 + (cntL cs0 : Int) = q' := ⟨_, rfl⟩
 have HQ1 : Hid (k0 + (cntL cs0 : Int) = q1) := hq1
 have hb1 : ¬ q1 < 0 := by omega
 have hc1 : q1 ≤ 4611686018427387904 := by omega
 (try rw [hq1] at h)
 obtain ⟨v0, v1, rfl, A0, A1⟩ := h.c2
 have HA0 : Hid (At false w v0 (.l 3 1 n0 (markL tx cs0 (k0)))) := A0
 obtain rfl := A1.int
 obtain ⟨W, hW⟩ : ∃ W, w.alloc (.cells #[v0, .int .i64 x1] 34) = W := ⟨_, rfl⟩
 have t0 : Hid (One w W #[v0, .int .i64 x1] 34) := by rw [← hW]; exact one_new w _ _
 have HW : Hid _ := hW
 clear hW h hs T0 T1 A0
 go_enter Tryz.func43, Tryz.ntmps43
 go_upto_region 1 with (fail)
 rw [HW.out]
 have ax0 := t0.out.a.at 0 (v0) rfl
 have ax1 := t0.out.a.at 1 (.int .i64 x1) rfl
 go_wp2_with fail
 refine (dHeldIntS tx v0 n0 cs0 _ _ (HA0.out.on t0.out.on (Nat.le_refl _)) HT0.out (by omega) (by omega)).mono ?_
 rintro e w1 ⟨rfl, hb⟩
 rw [HQ1.out]
 have t1 : Hid (One w w1 #[v0, .int .i64 x1] 34) := t0.out.call hb
 clear hb ax0 ax1
 have ax0 := t1.out.a.at 0 (v0) rfl
 have ax1 := t1.out.a.at 1 (.int .i64 x1) rfl
 go_wp2
 go_ret
 have et : k0 + (tcnt [.l 3 1 n0 cs0, .i x1] : Int) = q1 := by simp only [tcnt]; push_cast; omega
 refine ⟨?_, t1.out.on⟩
 rw [et]; try rfl
theorem dHeldDescS (tx : Int → ByteArray) (v : Value) (n : Nat) (cs : List Cel) (k0 : Int) (w : World) (h : At false w v (.l 104 5 n (markL tx cs k0))) (hs : Has (.l 104 5 n cs) (.l 104 5 tyDesc)) (hk0 : 0 ≤ k0) (hk1 : k0 + (cntL cs : Int) ≤ 4611686018427387904) :
   Calls Tryz.prog 72 #[v, .int .i64 k0] w (SaysD w (k0 + (cntL cs : Int))) := by
 obtain ⟨a, c, vs, rfl, h1, h2, hn, -, h3, h4⟩ := h.openL
 have SRC : Hid (n = 0 ∨ ∃ b o, a = some ⟨b, o, none⟩ ∧ ∀ j, j < n * 5 → w.cell? ⟨b, o + j, none⟩ = vs[j]?) := h3
 have HV : Hid (∀ j, j < n → AtL false w ((vs.drop (j * 5)).take 5) (markL tx (row cs 5 j) (k0 + (cntL (cs.take (j * 5)) : Int)))) := fun j hj => by
   have h5 := rowVals h1 h2 h4 hj
   rwa [row_mark] at h5
 have L1 : Hid (vs.length = n * 5) := h1
 have L2 : Hid (cs.length = n * 5) := by rw [markL_len] at h2; exact h2
 have HR : Hid (∀ j, j < n → HasL (row cs 5 j) tyDesc) := fun j hj => hs.rowL hj
 have HK : Hid (∀ p, k0 + (cntL (cs.take p) : Int) ≤ 4611686018427387904) := fun p => by have := cnt_le (cs := cs) (p := p); show _ ≤ _; omega
 clear h h1 h2 h3 h4 hs hk1
 go_enter Tryz.func72, Tryz.ntmps72
 go_wp2
 go_loopw [1, 5] (fun q i wr => ∃ j : Nat, j ≤ n ∧ q = .int .i64 (k0 + (cntL (cs.take (j * 5)) : Int)) ∧ i = .int .i64 (j : Int) ∧ Below w.heap.size w wr) (fun _ i _ => n - (intOf i).toNat)
 case atStart => exact ⟨0, Nat.zero_le _, by simp [cntL], rfl, Below.refl _ _⟩
 case round =>
   obtain ⟨j, hj, rfl, rfl, hb⟩ := hrel
   have HB : Hid (Below w.heap.size w wr) := hb
   by_cases hlt : j < n
   · have hj0 : (0 : Int) ≤ (j : Int) := by omega
     have hj1 : (j : Int) < (n : Int) := by omega
     have hle : j * 5 + 5 ≤ n * 5 := by omega
     rcases SRC.out with h0' | ⟨p1, o1, rfl, g1⟩
     · omega
     have hA := HV.out j hlt
     have hH := HR.out j hlt
     have CS : Hid (cntL (cs.take ((j + 1) * 5)) = cntL (cs.take (j * 5)) + cntL (row cs 5 j)) := cnt_split
     have hkN := HK.out ((j + 1) * 5)
     have hkM := HK.out (j * 5)
     rw [CS.out] at hkN
     have ce := rowAt hb hlt g1 L1.out
     obtain ⟨rs, hrs⟩ : ∃ rs, row cs 5 j = rs := ⟨_, rfl⟩
     obtain ⟨ws, hws⟩ : ∃ ws, (vs.drop (j * 5)).take 5 = ws := ⟨_, rfl⟩
     have HRS : Hid (row cs 5 j = rs) := hrs
     obtain ⟨q, hq⟩ : ∃ q : Int, k0 + (cntL (cs.take (j * 5)) : Int) = q := ⟨_, rfl⟩
     have HQ : Hid (k0 + (cntL (cs.take (j * 5)) : Int) = q) := hq
     rw [hrs] at hH hA hkN
     rw [hws] at hA ce
     rw [hq] at hA
     rw [hq]
     have hq0 : 0 ≤ q := by omega
     have hq1 : q ≤ 4611686018427387904 := by omega
     have hqN : q + (cntL rs : Int) ≤ 4611686018427387904 := by push_cast at hkN; omega
     clear g1 hq hkN hkM hrs hws
     obtain ⟨c0, c1, c2, c3, c4, rfl, T0, T1, T2, T3, T4⟩ := hH.c5
     obtain ⟨x0, rfl⟩ := T0.int
     obtain ⟨x1, rfl⟩ := T1.int
     obtain ⟨n2, cs2, rfl, -⟩ := T2.list
     have HT2 : Hid (Has (.l 107 3 n2 cs2) (.l 107 3 tyEntry)) := T2
     obtain ⟨x3, rfl⟩ := T3.int
     obtain ⟨n4, cs4, rfl, -⟩ := T4.list
     have HT4 : Hid (Has (.l 3 1 n4 cs4) (.l 3 1 [.i])) := T4
     simp only [cntL, Cel.cnt, Nat.add_zero] at hqN
     push_cast at hqN
     simp only [markL, Cel.mark, Cel.cnt] at hA
     (try push_cast at hA)
     obtain ⟨q1, hq1⟩ : ∃ q' : Int, q + 1 + 1 + (cntL cs2 : Int) = q' := ⟨_, rfl⟩
     have HQ1 : Hid (q + 1 + 1 + (cntL cs2 : Int) = q1) := hq1
     have hb1 : ¬ q1 < 0 := by omega
     have hc1 : q1 ≤ 4611686018427387904 := by omega
     (try rw [hq1] at hA)
     obtain ⟨q2, hq2⟩ : ∃ q' : Int, q1 + 1 + (cntL cs4 : Int) = q' := ⟨_, rfl⟩
     have HQ2 : Hid (q1 + 1 + (cntL cs4 : Int) = q2) := hq2
     have hb2 : ¬ q2 < 0 := by omega
     have hc2 : q2 ≤ 4611686018427387904 := by omega
     (try rw [hq2] at hA)
     obtain ⟨v0, v1, v2, v3, v4, rfl, A0, A1, A2, A3, A4⟩ := hA.c5
     obtain rfl := A0.int
     obtain rfl := A1.int
     have HA2 : Hid (At false w v2 (.l 107 3 n2 (markL tx cs2 (q + 1 + 1)))) := A2
     obtain rfl := A3.int
     have HA4 : Hid (At false w v4 (.l 3 1 n4 (markL tx cs4 (q1 + 1)))) := A4
     have e0 : wr.cell? ⟨p1, o1 + j * 5, none⟩ = some (.int .i64 (q)) := ce 0 (by omega)
     have e1 : wr.cell? ⟨p1, o1 + j * 5 + 1, none⟩ = some (.int .i64 (q + 1)) := ce 1 (by omega)
     have e2 : wr.cell? ⟨p1, o1 + j * 5 + 2, none⟩ = some (v2) := ce 2 (by omega)
     have e3 : wr.cell? ⟨p1, o1 + j * 5 + 3, none⟩ = some (.int .i64 (q1)) := ce 3 (by omega)
     have e4 : wr.cell? ⟨p1, o1 + j * 5 + 4, none⟩ = some (v4) := ce 4 (by omega)
     have pq : p1 < wr.heap.size := World.block_lt_of_cell? wr _ e0
     clear ce hA hH hb T2 A2 T4 A4
     go_wp2_with fail
     refine (dHeldEntryS tx v2 n2 cs2 _ _ (HA2.out.on HB.out (Nat.le_refl _)) HT2.out (by omega) (by omega)).mono ?_
     rintro e w1 ⟨rfl, hb⟩
     rw [HQ1.out]
     have HB1 : Hid (Below w.heap.size w w1) := HB.out.trans (hb.mono HB.out.size)
     have e0' : w1.cell? ⟨p1, o1 + j * 5, none⟩ = some (.int .i64 (q)) := (hb.cell (show p1 < _ from pq)).trans e0
     have e1' : w1.cell? ⟨p1, o1 + j * 5 + 1, none⟩ = some (.int .i64 (q + 1)) := (hb.cell (show p1 < _ from pq)).trans e1
     have e2' : w1.cell? ⟨p1, o1 + j * 5 + 2, none⟩ = some (v2) := (hb.cell (show p1 < _ from pq)).trans e2
     have e3' : w1.cell? ⟨p1, o1 + j * 5 + 3, none⟩ = some (.int .i64 (q1)) := (hb.cell (show p1 < _ from pq)).trans e3
     have e4' : w1.cell? ⟨p1, o1 + j * 5 + 4, none⟩ = some (v4) := (hb.cell (show p1 < _ from pq)).trans e4
     have pq' : p1 < w1.heap.size := World.block_lt_of_cell? w1 _ e0'
     clear pq hb e0 e1 e2 e3 e4
     have pq := pq'
     have e0 := e0'
     have e1 := e1'
     have e2 := e2'
     have e3 := e3'
     have e4 := e4'
     clear pq' e0' e1' e2' e3' e4'
     go_wp2_with fail
     refine (dHeldIntS tx v4 n4 cs4 _ _ (HA4.out.on HB1.out (Nat.le_refl _)) HT4.out (by omega) (by omega)).mono ?_
     rintro e w2 ⟨rfl, hb⟩
     rw [HQ2.out]
     have HB2 : Hid (Below w.heap.size w w2) := HB1.out.trans (hb.mono HB1.out.size)
     have e0' : w2.cell? ⟨p1, o1 + j * 5, none⟩ = some (.int .i64 (q)) := (hb.cell (show p1 < _ from pq)).trans e0
     have e1' : w2.cell? ⟨p1, o1 + j * 5 + 1, none⟩ = some (.int .i64 (q + 1)) := (hb.cell (show p1 < _ from pq)).trans e1
     have e2' : w2.cell? ⟨p1, o1 + j * 5 + 2, none⟩ = some (v2) := (hb.cell (show p1 < _ from pq)).trans e2
     have e3' : w2.cell? ⟨p1, o1 + j * 5 + 3, none⟩ = some (.int .i64 (q1)) := (hb.cell (show p1 < _ from pq)).trans e3
     have e4' : w2.cell? ⟨p1, o1 + j * 5 + 4, none⟩ = some (v4) := (hb.cell (show p1 < _ from pq)).trans e4
     have pq' : p1 < w2.heap.size := World.block_lt_of_cell? w2 _ e0'
     clear pq hb e0 e1 e2 e3 e4
     have pq := pq'
     have e0 := e0'
     have e1 := e1'
     have e2 := e2'
     have e3 := e3'
     have e4 := e4'
     clear pq' e0' e1' e2' e3' e4'
     go_wp2
     exact ⟨⟨j + 1, by omega, by
       have h5 := HQ.out
       have h61 := HQ1.out
       have h62 := HQ2.out
       rw [CS.out, HRS.out]
       simp only [cntL, Cel.cnt]
       congr 1; push_cast; omega, by go_num, HB2.out⟩, by simp [intOf]; omega⟩
   · obtain rfl : j = n := by omega
     have HE : Hid (cs.take (j * 5) = cs) := List.take_of_length_le (by have := L2.out; omega)
     go_wp2
     go_ret
     exact ⟨by rw [HE.out]; rfl, hb⟩
theorem dHeldMem (tx : Int → ByteArray) (vs : List Value) (cs : List Cel) (k0 : Int) (w : World) (h : AtL false w vs (topL tx cs k0)) (hs : HasL cs tyMem) (hk0 : 0 ≤ k0) (hk1 : k0 + (tcnt cs : Int) ≤ 4611686018427387904) :
   Calls Tryz.prog 39 #[.agg vs.toArray, .int .i64 k0] w (SaysD w (k0 + (tcnt cs : Int))) := by
 obtain ⟨c0, c1, rfl, T0, T1⟩ := hs.c2
 obtain ⟨n0, cs0, rfl, -⟩ := T0.list
 have HT0 : Hid (Has (.l 75 3 n0 cs0) (.l 75 3 tyWord)) := T0
 obtain ⟨n1, cs1, rfl, -⟩ := T1.list
 have HT1 : Hid (Has (.l 104 5 n1 cs1) (.l 104 5 tyDesc)) := T1
 simp only [tcnt] at hk1
 push_cast at hk1
 simp only [topL] at h
 obtain ⟨q1, hq1⟩ : ∃ q' : Int, k0 + (cntL cs0 : Int) = q' := ⟨_, rfl⟩
 have HQ1 : Hid (k0 + (cntL cs0 : Int) = q1) := hq1
 have hb1 : ¬ q1 < 0 := by omega
 have hc1 : q1 ≤ 4611686018427387904 := by omega
 (try rw [hq1] at h)
 obtain ⟨q2, hq2⟩ : ∃ q' : Int, q1 + (cntL cs1 : Int) = q' := ⟨_, rfl⟩
 have HQ2 : Hid (q1 + (cntL cs1 : Int) = q2) := hq2
 have hb2 : ¬ q2 < 0 := by omega
 have hc2 : q2 ≤ 4611686018427387904 := by omega
 (try rw [hq2] at h)
 obtain ⟨v0, v1, rfl, A0, A1⟩ := h.c2
 have HA0 : Hid (At false w v0 (.l 75 3 n0 (markL tx cs0 (k0)))) := A0
 have HA1 : Hid (At false w v1 (.l 104 5 n1 (markL tx cs1 (q1)))) := A1
 obtain ⟨W, hW⟩ : ∃ W, w.alloc (.cells #[v0, v1] 31) = W := ⟨_, rfl⟩
 have t0 : Hid (One w W #[v0, v1] 31) := by rw [← hW]; exact one_new w _ _
 have HW : Hid _ := hW
 clear hW h hs T0 T1 A0 A1
 go_enter Tryz.func39, Tryz.ntmps39
 go_upto_region 1 with (fail)
 rw [HW.out]
 have ax0 := t0.out.a.at 0 (v0) rfl
 have ax1 := t0.out.a.at 1 (v1) rfl
 go_wp2_with fail
 refine (dHeldWordS tx v0 n0 cs0 _ _ (HA0.out.on t0.out.on (Nat.le_refl _)) HT0.out (by omega) (by omega)).mono ?_
 rintro e w1 ⟨rfl, hb⟩
 rw [HQ1.out]
 have t1 : Hid (One w w1 #[v0, v1] 31) := t0.out.call hb
 clear hb ax0 ax1
 have ax0 := t1.out.a.at 0 (v0) rfl
 have ax1 := t1.out.a.at 1 (v1) rfl
 go_wp2_with fail
 refine (dHeldDescS tx v1 n1 cs1 _ _ (HA1.out.on t1.out.on (Nat.le_refl _)) HT1.out (by omega) (by omega)).mono ?_
 rintro e w2 ⟨rfl, hb⟩
 rw [HQ2.out]
 have t2 : Hid (One w w2 #[v0, v1] 31) := t1.out.call hb
 clear hb ax0 ax1
 have ax0 := t2.out.a.at 0 (v0) rfl
 have ax1 := t2.out.a.at 1 (v1) rfl
 go_wp2
 go_ret
 have et : k0 + (tcnt [.l 75 3 n0 cs0, .l 104 5 n1 cs1] : Int) = q2 := by simp only [tcnt]; push_cast; omega
 refine ⟨?_, t2.out.on⟩
 rw [et]; try rfl
theorem dHeldCallS (tx : Int → ByteArray) (v : Value) (n : Nat) (cs : List Cel) (k0 : Int) (w : World) (h : At false w v (.l 93 9 n (markL tx cs k0))) (hs : Has (.l 93 9 n cs) (.l 93 9 tyCall)) (hk0 : 0 ≤ k0) (hk1 : k0 + (cntL cs : Int) ≤ 4611686018427387904) :
   Calls Tryz.prog 41 #[v, .int .i64 k0] w (SaysD w (k0 + (cntL cs : Int))) := by
 obtain ⟨a, c, vs, rfl, h1, h2, hn, -, h3, h4⟩ := h.openL
 have SRC : Hid (n = 0 ∨ ∃ b o, a = some ⟨b, o, none⟩ ∧ ∀ j, j < n * 9 → w.cell? ⟨b, o + j, none⟩ = vs[j]?) := h3
 have HV : Hid (∀ j, j < n → AtL false w ((vs.drop (j * 9)).take 9) (markL tx (row cs 9 j) (k0 + (cntL (cs.take (j * 9)) : Int)))) := fun j hj => by
   have h5 := rowVals h1 h2 h4 hj
   rwa [row_mark] at h5
 have L1 : Hid (vs.length = n * 9) := h1
 have L2 : Hid (cs.length = n * 9) := by rw [markL_len] at h2; exact h2
 have HR : Hid (∀ j, j < n → HasL (row cs 9 j) tyCall) := fun j hj => hs.rowL hj
 have HK : Hid (∀ p, k0 + (cntL (cs.take p) : Int) ≤ 4611686018427387904) := fun p => by have := cnt_le (cs := cs) (p := p); show _ ≤ _; omega
 clear h h1 h2 h3 h4 hs hk1
 go_enter Tryz.func41, Tryz.ntmps41
 go_wp2
 go_loopw [1, 5] (fun q i wr => ∃ j : Nat, j ≤ n ∧ q = .int .i64 (k0 + (cntL (cs.take (j * 9)) : Int)) ∧ i = .int .i64 (j : Int) ∧ Below w.heap.size w wr) (fun _ i _ => n - (intOf i).toNat)
 case atStart => exact ⟨0, Nat.zero_le _, by simp [cntL], rfl, Below.refl _ _⟩
 case round =>
   obtain ⟨j, hj, rfl, rfl, hb⟩ := hrel
   have HB : Hid (Below w.heap.size w wr) := hb
   by_cases hlt : j < n
   · have hj0 : (0 : Int) ≤ (j : Int) := by omega
     have hj1 : (j : Int) < (n : Int) := by omega
     have hle : j * 9 + 9 ≤ n * 9 := by omega
     rcases SRC.out with h0' | ⟨p1, o1, rfl, g1⟩
     · omega
     have hA := HV.out j hlt
     have hH := HR.out j hlt
     have CS : Hid (cntL (cs.take ((j + 1) * 9)) = cntL (cs.take (j * 9)) + cntL (row cs 9 j)) := cnt_split
     have hkN := HK.out ((j + 1) * 9)
     have hkM := HK.out (j * 9)
     rw [CS.out] at hkN
     have ce := rowAt hb hlt g1 L1.out
     obtain ⟨rs, hrs⟩ : ∃ rs, row cs 9 j = rs := ⟨_, rfl⟩
     obtain ⟨ws, hws⟩ : ∃ ws, (vs.drop (j * 9)).take 9 = ws := ⟨_, rfl⟩
     have HRS : Hid (row cs 9 j = rs) := hrs
     obtain ⟨q, hq⟩ : ∃ q : Int, k0 + (cntL (cs.take (j * 9)) : Int) = q := ⟨_, rfl⟩
     have HQ : Hid (k0 + (cntL (cs.take (j * 9)) : Int) = q) := hq
     rw [hrs] at hH hA hkN
     rw [hws] at hA ce
     rw [hq] at hA
     rw [hq]
     have hq0 : 0 ≤ q := by omega
     have hq1 : q ≤ 4611686018427387904 := by omega
     have hqN : q + (cntL rs : Int) ≤ 4611686018427387904 := by push_cast at hkN; omega
     clear g1 hq hkN hkM hrs hws
     obtain ⟨c0, c1, c2, c3, c4, c5, c6, c7, c8, rfl, T0, T1, T2, T3, T4, T5, T6, T7, T8⟩ := hH.c9
     obtain ⟨x0, rfl⟩ := T0.int
     obtain ⟨x1, rfl⟩ := T1.int
     obtain ⟨x2, rfl⟩ := T2.int
     obtain ⟨x3, rfl⟩ := T3.int
     obtain ⟨x4, rfl⟩ := T4.int
     obtain ⟨x5, rfl⟩ := T5.int
     obtain ⟨x6, rfl⟩ := T6.int
     obtain ⟨x7, rfl⟩ := T7.int
     obtain ⟨n8, cs8, rfl, -⟩ := T8.list
     have HT8 : Hid (Has (.l 3 1 n8 cs8) (.l 3 1 [.i])) := T8
     simp only [cntL, Cel.cnt, Nat.add_zero] at hqN
     push_cast at hqN
     simp only [markL, Cel.mark, Cel.cnt] at hA
     (try push_cast at hA)
     obtain ⟨q1, hq1⟩ : ∃ q' : Int, q + 1 + 1 + 1 + 1 + 1 + 1 + 1 + 1 + (cntL cs8 : Int) = q' := ⟨_, rfl⟩
     have HQ1 : Hid (q + 1 + 1 + 1 + 1 + 1 + 1 + 1 + 1 + (cntL cs8 : Int) = q1) := hq1
     have hb1 : ¬ q1 < 0 := by omega
     have hc1 : q1 ≤ 4611686018427387904 := by omega
     (try rw [hq1] at hA)
     obtain ⟨v0, v1, v2, v3, v4, v5, v6, v7, v8, rfl, A0, A1, A2, A3, A4, A5, A6, A7, A8⟩ := hA.c9
     obtain rfl := A0.int
     obtain rfl := A1.int
     obtain rfl := A2.int
     obtain rfl := A3.int
     obtain rfl := A4.int
     obtain rfl := A5.int
     obtain rfl := A6.int
     obtain rfl := A7.int
     have HA8 : Hid (At false w v8 (.l 3 1 n8 (markL tx cs8 (q + 1 + 1 + 1 + 1 + 1 + 1 + 1 + 1)))) := A8
     have e0 : wr.cell? ⟨p1, o1 + j * 9, none⟩ = some (.int .i64 (q)) := ce 0 (by omega)
     have e1 : wr.cell? ⟨p1, o1 + j * 9 + 1, none⟩ = some (.int .i64 (q + 1)) := ce 1 (by omega)
     have e2 : wr.cell? ⟨p1, o1 + j * 9 + 2, none⟩ = some (.int .i64 (q + 1 + 1)) := ce 2 (by omega)
     have e3 : wr.cell? ⟨p1, o1 + j * 9 + 3, none⟩ = some (.int .i64 (q + 1 + 1 + 1)) := ce 3 (by omega)
     have e4 : wr.cell? ⟨p1, o1 + j * 9 + 4, none⟩ = some (.int .i64 (q + 1 + 1 + 1 + 1)) := ce 4 (by omega)
     have e5 : wr.cell? ⟨p1, o1 + j * 9 + 5, none⟩ = some (.int .i64 (q + 1 + 1 + 1 + 1 + 1)) := ce 5 (by omega)
     have e6 : wr.cell? ⟨p1, o1 + j * 9 + 6, none⟩ = some (.int .i64 (q + 1 + 1 + 1 + 1 + 1 + 1)) := ce 6 (by omega)
     have e7 : wr.cell? ⟨p1, o1 + j * 9 + 7, none⟩ = some (.int .i64 (q + 1 + 1 + 1 + 1 + 1 + 1 + 1)) := ce 7 (by omega)
     have e8 : wr.cell? ⟨p1, o1 + j * 9 + 8, none⟩ = some (v8) := ce 8 (by omega)
     have pq : p1 < wr.heap.size := World.block_lt_of_cell? wr _ e0
     clear ce hA hH hb T8 A8
     go_wp2_with fail
     refine (dHeldIntS tx v8 n8 cs8 _ _ (HA8.out.on HB.out (Nat.le_refl _)) HT8.out (by omega) (by omega)).mono ?_
     rintro e w1 ⟨rfl, hb⟩
     rw [HQ1.out]
     have HB1 : Hid (Below w.heap.size w w1) := HB.out.trans (hb.mono HB.out.size)
     have e0' : w1.cell? ⟨p1, o1 + j * 9, none⟩ = some (.int .i64 (q)) := (hb.cell (show p1 < _ from pq)).trans e0
     have e1' : w1.cell? ⟨p1, o1 + j * 9 + 1, none⟩ = some (.int .i64 (q + 1)) := (hb.cell (show p1 < _ from pq)).trans e1
     have e2' : w1.cell? ⟨p1, o1 + j * 9 + 2, none⟩ = some (.int .i64 (q + 1 + 1)) := (hb.cell (show p1 < _ from pq)).trans e2
     have e3' : w1.cell? ⟨p1, o1 + j * 9 + 3, none⟩ = some (.int .i64 (q + 1 + 1 + 1)) := (hb.cell (show p1 < _ from pq)).trans e3
     have e4' : w1.cell? ⟨p1, o1 + j * 9 + 4, none⟩ = some (.int .i64 (q + 1 + 1 + 1 + 1)) := (hb.cell (show p1 < _ from pq)).trans e4
     have e5' : w1.cell? ⟨p1, o1 + j * 9 + 5, none⟩ = some (.int .i64 (q + 1 + 1 + 1 + 1 + 1)) := (hb.cell (show p1 < _ from pq)).trans e5
     have e6' : w1.cell? ⟨p1, o1 + j * 9 + 6, none⟩ = some (.int .i64 (q + 1 + 1 + 1 + 1 + 1 + 1)) := (hb.cell (show p1 < _ from pq)).trans e6
     have e7' : w1.cell? ⟨p1, o1 + j * 9 + 7, none⟩ = some (.int .i64 (q + 1 + 1 + 1 + 1 + 1 + 1 + 1)) := (hb.cell (show p1 < _ from pq)).trans e7
     have e8' : w1.cell? ⟨p1, o1 + j * 9 + 8, none⟩ = some (v8) := (hb.cell (show p1 < _ from pq)).trans e8
     have pq' : p1 < w1.heap.size := World.block_lt_of_cell? w1 _ e0'
     clear pq hb e0 e1 e2 e3 e4 e5 e6 e7 e8
     have pq := pq'
     have e0 := e0'
     have e1 := e1'
     have e2 := e2'
     have e3 := e3'
     have e4 := e4'
     have e5 := e5'
     have e6 := e6'
     have e7 := e7'
     have e8 := e8'
     clear pq' e0' e1' e2' e3' e4' e5' e6' e7' e8'
     go_wp2
     exact ⟨⟨j + 1, by omega, by
       have h5 := HQ.out
       have h61 := HQ1.out
       rw [CS.out, HRS.out]
       simp only [cntL, Cel.cnt]
       congr 1; push_cast; omega, by go_num, HB1.out⟩, by simp [intOf]; omega⟩
   · obtain rfl : j = n := by omega
     have HE : Hid (cs.take (j * 9) = cs) := List.take_of_length_le (by have := L2.out; omega)
     go_wp2
     go_ret
     exact ⟨by rw [HE.out]; rfl, hb⟩
theorem dHeldMachine (tx : Int → ByteArray) (vs : List Value) (cs : List Cel) (k0 : Int) (w : World) (h : AtL false w vs (topL tx cs k0)) (hs : HasL cs tyMachine) (hk0 : 0 ≤ k0) (hk1 : k0 + (tcnt cs : Int) ≤ 4611686018427387904) :
   Calls Tryz.prog 16 #[.agg vs.toArray, .int .i64 k0] w (SaysD w (k0 + (tcnt cs : Int))) := by
 obtain ⟨c0, c1, c2, c3, c4, c5, c6, c7, rfl, T0, T1, T2, T3, T4, T5, T6, T7⟩ := hs.c8
 obtain ⟨n0, cs0, rfl, -⟩ := T0.list
 have HT0 : Hid (Has (.l 75 3 n0 cs0) (.l 75 3 tyWord)) := T0
 obtain ⟨n1, cs1, rfl, -⟩ := T1.list
 have HT1 : Hid (Has (.l 104 5 n1 cs1) (.l 104 5 tyDesc)) := T1
 obtain ⟨n2, cs2, rfl, -⟩ := T2.list
 have HT2 : Hid (Has (.l 59 5 n2 cs2) (.l 59 5 tyThread)) := T2
 obtain ⟨x3, rfl⟩ := T3.int
 obtain ⟨n4, cs4, rfl, -⟩ := T4.list
 have HT4 : Hid (Has (.l 93 9 n4 cs4) (.l 93 9 tyCall)) := T4
 obtain ⟨n5, cs5, rfl, -⟩ := T5.list
 have HT5 : Hid (Has (.l 3 1 n5 cs5) (.l 3 1 [.i])) := T5
 obtain ⟨n6, cs6, rfl, -⟩ := T6.list
 have HT6 : Hid (Has (.l 3 1 n6 cs6) (.l 3 1 [.i])) := T6
 obtain ⟨x7, rfl⟩ := T7.int
 have HH0 : Hid (HasL [.l 75 3 n0 cs0, .l 104 5 n1 cs1] tyMem) := ⟨rfl, fun j c t hc ht => by
   have hj : j < 2 := by have := (List.getElem?_eq_some_iff.1 hc).1; simpa using this
   rcases (show j = 0 ∨ j = 1 by omega) with rfl | rfl <;> (simp [tyMem] at hc ht; subst hc ht)
   · exact HT0.out
   · exact HT1.out⟩
 have HH6 : Hid (HasL [.l 3 1 n6 cs6, .i x7] tyRows) := ⟨rfl, fun j c t hc ht => by
   have hj : j < 2 := by have := (List.getElem?_eq_some_iff.1 hc).1; simpa using this
   rcases (show j = 0 ∨ j = 1 by omega) with rfl | rfl <;> (simp [tyRows] at hc ht; subst hc ht)
   · exact HT6.out
   · exact .i x7⟩
 simp only [tcnt] at hk1
 push_cast at hk1
 simp only [topL] at h
 obtain ⟨q1, hq1⟩ : ∃ q' : Int, k0 + (cntL cs0 : Int) = q' := ⟨_, rfl⟩
 have HQ1 : Hid (k0 + (cntL cs0 : Int) = q1) := hq1
 have hb1 : ¬ q1 < 0 := by omega
 have hc1 : q1 ≤ 4611686018427387904 := by omega
 (try rw [hq1] at h)
 obtain ⟨q2, hq2⟩ : ∃ q' : Int, q1 + (cntL cs1 : Int) = q' := ⟨_, rfl⟩
 have HQ2 : Hid (q1 + (cntL cs1 : Int) = q2) := hq2
 have hb2 : ¬ q2 < 0 := by omega
 have hc2 : q2 ≤ 4611686018427387904 := by omega
 (try rw [hq2] at h)
 obtain ⟨q3, hq3⟩ : ∃ q' : Int, q2 + (cntL cs2 : Int) = q' := ⟨_, rfl⟩
 have HQ3 : Hid (q2 + (cntL cs2 : Int) = q3) := hq3
 have hb3 : ¬ q3 < 0 := by omega
 have hc3 : q3 ≤ 4611686018427387904 := by omega
 (try rw [hq3] at h)
 obtain ⟨q4, hq4⟩ : ∃ q' : Int, q3 + (cntL cs4 : Int) = q' := ⟨_, rfl⟩
 have HQ4 : Hid (q3 + (cntL cs4 : Int) = q4) := hq4
 have hb4 : ¬ q4 < 0 := by omega
 have hc4 : q4 ≤ 4611686018427387904 := by omega
 (try rw [hq4] at h)
 obtain ⟨q5, hq5⟩ : ∃ q' : Int, q4 + (cntL cs5 : Int) = q' := ⟨_, rfl⟩
 have HQ5 : Hid (q4 + (cntL cs5 : Int) = q5) := hq5
 have hb5 : ¬ q5 < 0 := by omega
 have hc5 : q5 ≤ 4611686018427387904 := by omega
 (try rw [hq5] at h)
 obtain ⟨q6, hq6⟩ : ∃ q' : Int, q5 + (cntL cs6 : Int) = q' := ⟨_, rfl⟩
 have HQ6 : Hid (q5 + (cntL cs6 : Int) = q6) := hq6
 have hb6 : ¬ q6 < 0 := by omega
 have hc6 : q6 ≤ 4611686018427387904 := by omega
 (try rw [hq6] at h)
 obtain ⟨v0, v1, v2, v3, v4, v5, v6, v7, rfl, A0, A1, A2, A3, A4, A5, A6, A7⟩ := h.c8
 have HA0 : Hid (At false w v0 (.l 75 3 n0 (markL tx cs0 (k0)))) := A0
 have HA1 : Hid (At false w v1 (.l 104 5 n1 (markL tx cs1 (q1)))) := A1
 have HA2 : Hid (At false w v2 (.l 59 5 n2 (markL tx cs2 (q2)))) := A2
 obtain rfl := A3.int
 have HA4 : Hid (At false w v4 (.l 93 9 n4 (markL tx cs4 (q3)))) := A4
 have HA5 : Hid (At false w v5 (.l 3 1 n5 (markL tx cs5 (q4)))) := A5
 have HA6 : Hid (At false w v6 (.l 3 1 n6 (markL tx cs6 (q5)))) := A6
 obtain rfl := A7.int
 have HN0 : Hid (AtL false w [v0, v1] (topL tx [.l 75 3 n0 cs0, .l 104 5 n1 cs1] (k0))) := by
   show AtL false w _ _
   simp only [topL]
   (try rw [HQ1.out])
   (try rw [HQ2.out])
   exact AtL.cons (HA0.out) (AtL.cons (HA1.out) (AtL.nil))
 have HN6 : Hid (AtL false w [v6, .int .i64 x7] (topL tx [.l 3 1 n6 cs6, .i x7] (q5))) := by
   show AtL false w _ _
   simp only [topL]
   (try rw [HQ6.out])
   exact AtL.cons (HA6.out) (AtL.cons (.i x7) (AtL.nil))
 obtain ⟨W, hW⟩ : ∃ W, w.alloc (.cells #[v0, v1, v2, .int .i64 x3, v4, v5, v6, .int .i64 x7] 36) = W := ⟨_, rfl⟩
 have t0 : Hid (One w W #[v0, v1, v2, .int .i64 x3, v4, v5, v6, .int .i64 x7] 36) := by rw [← hW]; exact one_new w _ _
 have HW : Hid _ := hW
 clear hW h hs T0 T1 T2 T3 T4 T5 T6 T7 A0 A1 A2 A4 A5 A6
 go_enter Tryz.func16, Tryz.ntmps16
 go_upto_region 1 with (fail)
 rw [HW.out]
 have ax0 := t0.out.a.at 0 (v0) rfl
 have ax1 := t0.out.a.at 1 (v1) rfl
 have ax2 := t0.out.a.at 2 (v2) rfl
 have ax3 := t0.out.a.at 3 (.int .i64 x3) rfl
 have ax4 := t0.out.a.at 4 (v4) rfl
 have ax5 := t0.out.a.at 5 (v5) rfl
 have ax6 := t0.out.a.at 6 (v6) rfl
 have ax7 := t0.out.a.at 7 (.int .i64 x7) rfl
 go_wp2_with fail
 refine (dHeldMem tx [v0, v1] [.l 75 3 n0 cs0, .l 104 5 n1 cs1] _ _ (HN0.out.on t0.out.on (Nat.le_refl _)) HH0.out (by omega) (by simp only [tcnt]; push_cast; omega)).mono ?_
 rintro e w1 ⟨rfl, hb⟩
 rw [show k0 + (tcnt [.l 75 3 n0 cs0, .l 104 5 n1 cs1] : Int) = q2 by (simp only [tcnt]; push_cast; omega)]
 have t1 : Hid (One w w1 #[v0, v1, v2, .int .i64 x3, v4, v5, v6, .int .i64 x7] 36) := t0.out.call hb
 clear hb ax0 ax1 ax2 ax3 ax4 ax5 ax6 ax7
 have ax0 := t1.out.a.at 0 (v0) rfl
 have ax1 := t1.out.a.at 1 (v1) rfl
 have ax2 := t1.out.a.at 2 (v2) rfl
 have ax3 := t1.out.a.at 3 (.int .i64 x3) rfl
 have ax4 := t1.out.a.at 4 (v4) rfl
 have ax5 := t1.out.a.at 5 (v5) rfl
 have ax6 := t1.out.a.at 6 (v6) rfl
 have ax7 := t1.out.a.at 7 (.int .i64 x7) rfl
 go_wp2_with fail
 refine (dHeldThreadS tx v2 n2 cs2 _ _ (HA2.out.on t1.out.on (Nat.le_refl _)) HT2.out (by omega) (by omega)).mono ?_
 rintro e w2 ⟨rfl, hb⟩
 rw [HQ3.out]
 have t2 : Hid (One w w2 #[v0, v1, v2, .int .i64 x3, v4, v5, v6, .int .i64 x7] 36) := t1.out.call hb
 clear hb ax0 ax1 ax2 ax3 ax4 ax5 ax6 ax7
 have ax0 := t2.out.a.at 0 (v0) rfl
 have ax1 := t2.out.a.at 1 (v1) rfl
 have ax2 := t2.out.a.at 2 (v2) rfl
 have ax3 := t2.out.a.at 3 (.int .i64 x3) rfl
 have ax4 := t2.out.a.at 4 (v4) rfl
 have ax5 := t2.out.a.at 5 (v5) rfl
 have ax6 := t2.out.a.at 6 (v6) rfl
 have ax7 := t2.out.a.at 7 (.int .i64 x7) rfl
 go_wp2_with fail
 refine (dHeldCallS tx v4 n4 cs4 _ _ (HA4.out.on t2.out.on (Nat.le_refl _)) HT4.out (by omega) (by omega)).mono ?_
 rintro e w3 ⟨rfl, hb⟩
 rw [HQ4.out]
 have t3 : Hid (One w w3 #[v0, v1, v2, .int .i64 x3, v4, v5, v6, .int .i64 x7] 36) := t2.out.call hb
 clear hb ax0 ax1 ax2 ax3 ax4 ax5 ax6 ax7
 have ax0 := t3.out.a.at 0 (v0) rfl
 have ax1 := t3.out.a.at 1 (v1) rfl
 have ax2 := t3.out.a.at 2 (v2) rfl
 have ax3 := t3.out.a.at 3 (.int .i64 x3) rfl
 have ax4 := t3.out.a.at 4 (v4) rfl
 have ax5 := t3.out.a.at 5 (v5) rfl
 have ax6 := t3.out.a.at 6 (v6) rfl
 have ax7 := t3.out.a.at 7 (.int .i64 x7) rfl
 go_wp2_with fail
 refine (dHeldIntS tx v5 n5 cs5 _ _ (HA5.out.on t3.out.on (Nat.le_refl _)) HT5.out (by omega) (by omega)).mono ?_
 rintro e w4 ⟨rfl, hb⟩
 rw [HQ5.out]
 have t4 : Hid (One w w4 #[v0, v1, v2, .int .i64 x3, v4, v5, v6, .int .i64 x7] 36) := t3.out.call hb
 clear hb ax0 ax1 ax2 ax3 ax4 ax5 ax6 ax7
 have ax0 := t4.out.a.at 0 (v0) rfl
 have ax1 := t4.out.a.at 1 (v1) rfl
 have ax2 := t4.out.a.at 2 (v2) rfl
 have ax3 := t4.out.a.at 3 (.int .i64 x3) rfl
 have ax4 := t4.out.a.at 4 (v4) rfl
 have ax5 := t4.out.a.at 5 (v5) rfl
 have ax6 := t4.out.a.at 6 (v6) rfl
 have ax7 := t4.out.a.at 7 (.int .i64 x7) rfl
 go_wp2_with fail
 refine (dHeldRows tx [v6, .int .i64 x7] [.l 3 1 n6 cs6, .i x7] _ _ (HN6.out.on t4.out.on (Nat.le_refl _)) HH6.out (by omega) (by simp only [tcnt]; push_cast; omega)).mono ?_
 rintro e w5 ⟨rfl, hb⟩
 rw [show q5 + (tcnt [.l 3 1 n6 cs6, .i x7] : Int) = q6 by (simp only [tcnt]; push_cast; omega)]
 have t5 : Hid (One w w5 #[v0, v1, v2, .int .i64 x3, v4, v5, v6, .int .i64 x7] 36) := t4.out.call hb
 clear hb ax0 ax1 ax2 ax3 ax4 ax5 ax6 ax7
 have ax0 := t5.out.a.at 0 (v0) rfl
 have ax1 := t5.out.a.at 1 (v1) rfl
 have ax2 := t5.out.a.at 2 (v2) rfl
 have ax3 := t5.out.a.at 3 (.int .i64 x3) rfl
 have ax4 := t5.out.a.at 4 (v4) rfl
 have ax5 := t5.out.a.at 5 (v5) rfl
 have ax6 := t5.out.a.at 6 (v6) rfl
 have ax7 := t5.out.a.at 7 (.int .i64 x7) rfl
 go_wp2
 go_ret
 have et : k0 + (tcnt [.l 75 3 n0 cs0, .l 104 5 n1 cs1, .l 59 5 n2 cs2, .i x3, .l 93 9 n4 cs4, .l 3 1 n5 cs5, .l 3 1 n6 cs6, .i x7] : Int) = q6 := by simp only [tcnt]; push_cast; omega
 refine ⟨?_, t5.out.on⟩
 rw [et]; try rfl
end
end Go.Proofs.YtcfimaffeopbbaaGreatDoor
