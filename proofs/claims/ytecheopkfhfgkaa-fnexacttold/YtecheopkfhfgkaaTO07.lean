/- Texts joined: DatS. -/
import Derived.Test.YtecheopkfhfgkaaTO02
import Derived.Deep.RegionHeld3
import Derived.Deep.Cut
import Derived.Handy
set_option maxHeartbeats 2000000
set_option maxRecDepth 100000
namespace Go.Proofs.Ytecheopkfhfgkaa
section
open Go.ChangeShapes Go.WideShapes Go.ChangeAt Go.RowKit Go.Joins
theorem dSzIntS (v : Value) (n : Nat) (cs : List Cel) (left : Int) (w : World) (h : In w v (.l 3 1 n cs)) (hs : Has (.l 3 1 n cs) (.l 3 1 [.i])) (h0 : 0 ≤ left) (h1 : left ≤ 2097152) :
   Calls Try.prog 28 #[v, .int .i64 left] w (Left w (n + bigL cs) left) := by
 have hz := big_flat hs (by decide)
 obtain ⟨a, c, vs, rfl, -, -, hn, -, -⟩ := h.openL
 have HZ : Hid (n + bigL cs = n) := by show _ = _; omega
 clear hs hz
 by_cases hl : (n : Int) ≤ left
 · have h2 : ¬ (left - (n : Int) < 0) := by omega
   go_enter Try.func28, Try.ntmps28
   go_wp2
   go_ret
   refine ⟨Below.refl _ _, .inl ⟨_, rfl, ?_⟩⟩
   rw [HZ.out]
   exact ⟨hl, rfl⟩
 · have h2 : left - (n : Int) < 0 := by omega
   go_enter Try.func28, Try.ntmps28
   go_wp2
   go_ret
   refine ⟨Below.refl _ _, .inr ⟨rfl, ?_⟩⟩
   rw [HZ.out]
   omega
theorem dSzOpS (v : Value) (n : Nat) (cs : List Cel) (left : Int) (w : World) (h : In w v (.l 31 3 n cs)) (hs : Has (.l 31 3 n cs) (.l 31 3 tyOp)) (h0 : 0 ≤ left) (h1 : left ≤ 2097152) :
   Calls Try.prog 64 #[v, .int .i64 left] w (Left w (n + bigL cs) left) := by
 have hz := big_flat hs (by decide)
 obtain ⟨a, c, vs, rfl, -, -, hn, -, -⟩ := h.openL
 have HZ : Hid (n + bigL cs = n) := by show _ = _; omega
 clear hs hz
 by_cases hl : (n : Int) ≤ left
 · have h2 : ¬ (left - (n : Int) < 0) := by omega
   go_enter Try.func64, Try.ntmps64
   go_wp2
   go_ret
   refine ⟨Below.refl _ _, .inl ⟨_, rfl, ?_⟩⟩
   rw [HZ.out]
   exact ⟨hl, rfl⟩
 · have h2 : left - (n : Int) < 0 := by omega
   go_enter Try.func64, Try.ntmps64
   go_wp2
   go_ret
   refine ⟨Below.refl _ _, .inr ⟨rfl, ?_⟩⟩
   rw [HZ.out]
   omega
theorem dSzPairS (v : Value) (n : Nat) (cs : List Cel) (left : Int) (w : World) (h : In w v (.l 138 2 n cs)) (hs : Has (.l 138 2 n cs) (.l 138 2 tyPair)) (h0 : 0 ≤ left) (h1 : left ≤ 2097152) :
   Calls Try.prog 65 #[v, .int .i64 left] w (Left w (n + bigL cs) left) := by
 have hz := big_flat hs (by decide)
 obtain ⟨a, c, vs, rfl, -, -, hn, -, -⟩ := h.openL
 have HZ : Hid (n + bigL cs = n) := by show _ = _; omega
 clear hs hz
 by_cases hl : (n : Int) ≤ left
 · have h2 : ¬ (left - (n : Int) < 0) := by omega
   go_enter Try.func65, Try.ntmps65
   go_wp2
   go_ret
   refine ⟨Below.refl _ _, .inl ⟨_, rfl, ?_⟩⟩
   rw [HZ.out]
   exact ⟨hl, rfl⟩
 · have h2 : left - (n : Int) < 0 := by omega
   go_enter Try.func65, Try.ntmps65
   go_wp2
   go_ret
   refine ⟨Below.refl _ _, .inr ⟨rfl, ?_⟩⟩
   rw [HZ.out]
   omega
theorem dSzHelpS (v : Value) (n : Nat) (cs : List Cel) (left : Int) (w : World) (h : In w v (.l 140 4 n cs)) (hs : Has (.l 140 4 n cs) (.l 140 4 tyHelp)) (h0 : 0 ≤ left) (h1 : left ≤ 2097152) :
   Calls Try.prog 66 #[v, .int .i64 left] w (Left w (n + bigL cs) left) := by
 have hz := big_flat hs (by decide)
 obtain ⟨a, c, vs, rfl, -, -, hn, -, -⟩ := h.openL
 have HZ : Hid (n + bigL cs = n) := by show _ = _; omega
 clear hs hz
 by_cases hl : (n : Int) ≤ left
 · have h2 : ¬ (left - (n : Int) < 0) := by omega
   go_enter Try.func66, Try.ntmps66
   go_wp2
   go_ret
   refine ⟨Below.refl _ _, .inl ⟨_, rfl, ?_⟩⟩
   rw [HZ.out]
   exact ⟨hl, rfl⟩
 · have h2 : left - (n : Int) < 0 := by omega
   go_enter Try.func66, Try.ntmps66
   go_wp2
   go_ret
   refine ⟨Below.refl _ _, .inr ⟨rfl, ?_⟩⟩
   rw [HZ.out]
   omega
theorem dSzEntryS (v : Value) (n : Nat) (cs : List Cel) (left : Int) (w : World) (h : In w v (.l 151 3 n cs)) (hs : Has (.l 151 3 n cs) (.l 151 3 tyEntry)) (h0 : 0 ≤ left) (h1 : left ≤ 2097152) :
   Calls Try.prog 79 #[v, .int .i64 left] w (Left w (n + bigL cs) left) := by
 have hz := big_flat hs (by decide)
 obtain ⟨a, c, vs, rfl, -, -, hn, -, -⟩ := h.openL
 have HZ : Hid (n + bigL cs = n) := by show _ = _; omega
 clear hs hz
 by_cases hl : (n : Int) ≤ left
 · have h2 : ¬ (left - (n : Int) < 0) := by omega
   go_enter Try.func79, Try.ntmps79
   go_wp2
   go_ret
   refine ⟨Below.refl _ _, .inl ⟨_, rfl, ?_⟩⟩
   rw [HZ.out]
   exact ⟨hl, rfl⟩
 · have h2 : left - (n : Int) < 0 := by omega
   go_enter Try.func79, Try.ntmps79
   go_wp2
   go_ret
   refine ⟨Below.refl _ _, .inr ⟨rfl, ?_⟩⟩
   rw [HZ.out]
   omega
theorem dSzWordS (v : Value) (n : Nat) (cs : List Cel) (left : Int) (w : World) (h : In w v (.l 121 3 n cs)) (hs : Has (.l 121 3 n cs) (.l 121 3 tyWord)) (h0 : 0 ≤ left) (h1 : left ≤ 2097152) :
   Calls Try.prog 46 #[v, .int .i64 left] w (Left w (n + bigL cs) left) := by
 have hz := big_flat hs (by decide)
 obtain ⟨a, c, vs, rfl, -, -, hn, -, -⟩ := h.openL
 have HZ : Hid (n + bigL cs = n) := by show _ = _; omega
 clear hs hz
 by_cases hl : (n : Int) ≤ left
 · have h2 : ¬ (left - (n : Int) < 0) := by omega
   go_enter Try.func46, Try.ntmps46
   go_wp2
   go_ret
   refine ⟨Below.refl _ _, .inl ⟨_, rfl, ?_⟩⟩
   rw [HZ.out]
   exact ⟨hl, rfl⟩
 · have h2 : left - (n : Int) < 0 := by omega
   go_enter Try.func46, Try.ntmps46
   go_wp2
   go_ret
   refine ⟨Below.refl _ _, .inr ⟨rfl, ?_⟩⟩
   rw [HZ.out]
   omega
theorem dSzThread (vs : List Value) (cs : List Cel) (left : Int) (w : World) (h : InL w vs cs) (hs : HasL cs tyThread) (h0 : 0 ≤ left) (h1 : left ≤ 2097152) : Calls Try.prog 48 #[.agg vs.toArray, .int .i64 left] w (Left w (bigL cs) left) := by
 obtain ⟨c0, c1, c2, c3, c4, rfl, T0, T1, T2, T3, T4⟩ := hs.c5
 obtain ⟨v0, v1, v2, v3, v4, rfl, A0, A1, A2, A3, A4⟩ := h.c5
 obtain ⟨n0, cs0, rfl, -⟩ := T0.list
 have HT0 : Hid (Has (.l 31 3 n0 cs0) (.l 31 3 tyOp)) := T0
 have hA0' : Hid (In w v0 (.l 31 3 n0 cs0)) := A0
 obtain ⟨x1, rfl⟩ := T1.int
 obtain rfl := A1.int
 obtain ⟨x2, rfl⟩ := T2.bool
 obtain rfl := A2.bool
 obtain ⟨n3, cs3, rfl, -⟩ := T3.list
 have HT3 : Hid (Has (.l 138 2 n3 cs3) (.l 138 2 tyPair)) := T3
 have hA3' : Hid (In w v3 (.l 138 2 n3 cs3)) := A3
 obtain ⟨n4, cs4, rfl, -⟩ := T4.list
 have HT4 : Hid (Has (.l 140 4 n4 cs4) (.l 140 4 tyHelp)) := T4
 have hA4' : Hid (In w v4 (.l 140 4 n4 cs4)) := A4
 clear hs h T0 A0 T1 A1 T2 A2 T3 A3 T4 A4
 obtain ⟨W, hW⟩ : ∃ W, w.alloc (.cells #[v0, .int .i64 x1, .bool x2, v3, v4] 95) = W := ⟨_, rfl⟩
 have t0 : Hid (One w W #[v0, .int .i64 x1, .bool x2, v3, v4] 95) := by rw [← hW]; exact one_new w _ _
 have HW : Hid _ := hW
 clear hW
 go_enter Try.func48, Try.ntmps48
 go_upto_region 1 with (fail)
 rw [HW.out]
 have ax0 := t0.out.a.at 0 (v0) rfl
 have ax1 := t0.out.a.at 1 (.int .i64 x1) rfl
 have ax2 := t0.out.a.at 2 (.bool x2) rfl
 have ax3 := t0.out.a.at 3 (v3) rfl
 have ax4 := t0.out.a.at 4 (v4) rfl
 go_wp2_with fail
 refine (dSzOpS v0 n0 cs0 _ _ (hA0'.out.on t0.out.on (Nat.le_refl _)) HT0.out (by omega) (by omega)).mono ?_
 rintro e w1 ⟨hb, hc⟩
 obtain ⟨m1, hm1⟩ : ∃ m, n0 + bigL cs0 = m := ⟨_, rfl⟩
 rw [hm1] at hc
 have HM1 : Hid (n0 + bigL cs0 = m1) := hm1
 clear hm1
 have t1 : Hid (One w w1 #[v0, .int .i64 x1, .bool x2, v3, v4] 95) := t0.out.call hb
 clear hb ax0 ax1 ax2 ax3 ax4
 have ax0 := t1.out.a.at 0 (v0) rfl
 have ax1 := t1.out.a.at 1 (.int .i64 x1) rfl
 have ax2 := t1.out.a.at 2 (.bool x2) rfl
 have ax3 := t1.out.a.at 3 (v3) rfl
 have ax4 := t1.out.a.at 4 (v4) rfl
 rcases hc with ⟨r1, rfl, hr1, hq1⟩ | ⟨rfl, hr1⟩
 rotate_left
 · go_wp2
   go_ret
   refine ⟨t1.out.on, .inr ⟨rfl, ?_⟩⟩
   have e : bigL [.l 31 3 n0 cs0, .i x1, .b x2, .l 138 2 n3 cs3, .l 140 4 n4 cs4] = ((n0 + bigL cs0) + (n3 + bigL cs3) + (n4 + bigL cs4)) := by simp [bigL, Cel.big]; try omega
   rw [e]
   have e1 := HM1.out
   (try simp only [bigL, Cel.big] at *)
   omega
 have g1 : ¬ r1 < 0 := by omega
 go_wp2_with fail
 refine (dSzPairS v3 n3 cs3 _ _ (hA3'.out.on t1.out.on (Nat.le_refl _)) HT3.out (by omega) (by omega)).mono ?_
 rintro e w2 ⟨hb, hc⟩
 obtain ⟨m2, hm2⟩ : ∃ m, n3 + bigL cs3 = m := ⟨_, rfl⟩
 rw [hm2] at hc
 have HM2 : Hid (n3 + bigL cs3 = m2) := hm2
 clear hm2
 have t2 : Hid (One w w2 #[v0, .int .i64 x1, .bool x2, v3, v4] 95) := t1.out.call hb
 clear hb ax0 ax1 ax2 ax3 ax4
 have ax0 := t2.out.a.at 0 (v0) rfl
 have ax1 := t2.out.a.at 1 (.int .i64 x1) rfl
 have ax2 := t2.out.a.at 2 (.bool x2) rfl
 have ax3 := t2.out.a.at 3 (v3) rfl
 have ax4 := t2.out.a.at 4 (v4) rfl
 rcases hc with ⟨r2, rfl, hr2, hq2⟩ | ⟨rfl, hr2⟩
 rotate_left
 · go_wp2
   go_ret
   refine ⟨t2.out.on, .inr ⟨rfl, ?_⟩⟩
   have e : bigL [.l 31 3 n0 cs0, .i x1, .b x2, .l 138 2 n3 cs3, .l 140 4 n4 cs4] = ((n0 + bigL cs0) + (n3 + bigL cs3) + (n4 + bigL cs4)) := by simp [bigL, Cel.big]; try omega
   rw [e]
   have e1 := HM1.out
   have e2 := HM2.out
   (try simp only [bigL, Cel.big] at *)
   omega
 have g2 : ¬ r2 < 0 := by omega
 go_wp2_with fail
 refine (dSzHelpS v4 n4 cs4 _ _ (hA4'.out.on t2.out.on (Nat.le_refl _)) HT4.out (by omega) (by omega)).mono ?_
 rintro e w3 ⟨hb, hc⟩
 obtain ⟨m3, hm3⟩ : ∃ m, n4 + bigL cs4 = m := ⟨_, rfl⟩
 rw [hm3] at hc
 have HM3 : Hid (n4 + bigL cs4 = m3) := hm3
 clear hm3
 have t3 : Hid (One w w3 #[v0, .int .i64 x1, .bool x2, v3, v4] 95) := t2.out.call hb
 clear hb ax0 ax1 ax2 ax3 ax4
 have ax0 := t3.out.a.at 0 (v0) rfl
 have ax1 := t3.out.a.at 1 (.int .i64 x1) rfl
 have ax2 := t3.out.a.at 2 (.bool x2) rfl
 have ax3 := t3.out.a.at 3 (v3) rfl
 have ax4 := t3.out.a.at 4 (v4) rfl
 rcases hc with ⟨r3, rfl, hr3, hq3⟩ | ⟨rfl, hr3⟩
 rotate_left
 · go_wp2
   go_ret
   refine ⟨t3.out.on, .inr ⟨rfl, ?_⟩⟩
   have e : bigL [.l 31 3 n0 cs0, .i x1, .b x2, .l 138 2 n3 cs3, .l 140 4 n4 cs4] = ((n0 + bigL cs0) + (n3 + bigL cs3) + (n4 + bigL cs4)) := by simp [bigL, Cel.big]; try omega
   rw [e]
   have e1 := HM1.out
   have e2 := HM2.out
   have e3 := HM3.out
   (try simp only [bigL, Cel.big] at *)
   omega
 have g3 : ¬ r3 < 0 := by omega
 go_wp2
 go_ret
 refine ⟨t3.out.on, .inl ⟨_, rfl, ?_⟩⟩
 have e : bigL [.l 31 3 n0 cs0, .i x1, .b x2, .l 138 2 n3 cs3, .l 140 4 n4 cs4] = (n0 + bigL cs0) + (n3 + bigL cs3) + (n4 + bigL cs4) := by simp [bigL, Cel.big]; try omega
 rw [e]
 have e1 := HM1.out
 have e2 := HM2.out
 have e3 := HM3.out
 (try simp only [bigL, Cel.big] at *)
 omega
theorem dSzThreadS (v : Value) (n : Nat) (cs : List Cel) (left : Int) (w : World) (h : In w v (.l 103 5 n cs)) (hs : Has (.l 103 5 n cs) (.l 103 5 tyThread)) (h0 : 0 ≤ left) (h1 : left ≤ 2097152) :
   Calls Try.prog 26 #[v, .int .i64 left] w (Left w (n + bigL cs) left) := by
 obtain ⟨a, c, vs, rfl, h2, h3, hn, h4, h5⟩ := h.openL
 have SRC : Hid (n = 0 ∨ ∃ b o, a = some ⟨b, o, none⟩ ∧ ∀ j, j < n * 5 → w.cell? ⟨b, o + j, none⟩ = vs[j]?) := h4
 have HV : Hid (∀ j, j < n → InL w ((vs.drop (j * 5)).take 5) (row cs 5 j)) := fun j hj => rowIn h2 h3 h5 hj
 have HR : Hid (∀ j, j < n → HasL (row cs 5 j) tyThread) := fun j hj => hs.rowL hj
 have L1 : Hid (vs.length = n * 5) := h2
 have L2 : Hid (cs.length = n * 5) := h3
 clear h h2 h3 h4 h5 hs
 by_cases hl : (n : Int) ≤ left
 rotate_left
 · have h2 : left - (n : Int) < 0 := by omega
   go_enter Try.func26, Try.ntmps26
   go_wp2
   go_ret
   exact ⟨Below.refl _ _, .inr ⟨rfl, by omega⟩⟩
 have h2 : ¬ (left - (n : Int) < 0) := by omega
 go_enter Try.func26, Try.ntmps26
 go_wp2
 go_loopw [1, 5] (fun l i wr => ∃ (j : Nat) (r : Int), j ≤ n ∧ l = .int .i64 r ∧ i = .int .i64 (j : Int) ∧ 0 ≤ r ∧ r = left - (n : Int) - (bigL (cs.take (j * 5)) : Int) ∧ Below w.heap.size w wr) (fun _ i _ => n - (intOf i).toNat)
 case atStart => exact ⟨0, left - n, Nat.zero_le _, rfl, rfl, by omega, by simp [bigL], Below.refl _ _⟩
 case round =>
   obtain ⟨j, r, hj, rfl, rfl, hr0, hr1, hb⟩ := hrel
   have HQ : Hid (r = left - (n : Int) - (bigL (cs.take (j * 5)) : Int)) := hr1
   have hr2 : r ≤ 2097152 := by omega
   clear hr1
   by_cases hlt : j < n
   · rcases SRC.out with h0' | ⟨p1, o1, rfl, g1⟩
     · omega
     have hk0 : (0 : Int) ≤ (j : Int) := by omega
     have hk1 : (j : Int) < (n : Int) := by omega
     have hle : j * 5 + 5 ≤ n * 5 := by omega
     have hA := HV.out j hlt
     have hH := HR.out j hlt
     have ce := rowAt hb hlt g1 L1.out
     obtain ⟨rs, hrs⟩ : ∃ rs, row cs 5 j = rs := ⟨_, rfl⟩
     obtain ⟨ws, hws⟩ : ∃ ws, (vs.drop (j * 5)).take 5 = ws := ⟨_, rfl⟩
     have HRS : Hid (row cs 5 j = rs) := hrs
     rw [hrs] at hA hH
     rw [hws] at hA ce
     clear g1 hrs hws
     obtain ⟨c0, c1, c2, c3, c4, rfl, T0, T1, T2, T3, T4⟩ := hH.c5
     have HL0 : Hid (HasL [c0, c1, c2, c3, c4] tyThread) := hH
     obtain ⟨v0, v1, v2, v3, v4, rfl, A0, A1, A2, A3, A4⟩ := hA.c5
     have HA0 : Hid (InL w [v0, v1, v2, v3, v4] [c0, c1, c2, c3, c4]) := hA
     have e0 : wr.cell? ⟨p1, o1 + j * 5, none⟩ = some v0 := ce 0 (by omega)
     have e1 : wr.cell? ⟨p1, o1 + j * 5 + 1, none⟩ = some v1 := ce 1 (by omega)
     have e2 : wr.cell? ⟨p1, o1 + j * 5 + 2, none⟩ = some v2 := ce 2 (by omega)
     have e3 : wr.cell? ⟨p1, o1 + j * 5 + 3, none⟩ = some v3 := ce 3 (by omega)
     have e4 : wr.cell? ⟨p1, o1 + j * 5 + 4, none⟩ = some v4 := ce 4 (by omega)
     clear ce hA hH T0 A0 T1 A1 T2 A2 T3 A3 T4 A4
     obtain ⟨m, hm⟩ : ∃ m, bigL [c0, c1, c2, c3, c4] = m := ⟨_, rfl⟩
     have HM : Hid (bigL (cs.take ((j + 1) * 5)) = bigL (cs.take (j * 5)) + m) := by show _ = _; rw [row_split, bigL_append, HRS.out, hm]
     have MON : Hid (bigL (cs.take ((j + 1) * 5)) ≤ bigL cs) := by
       show _ ≤ _
       have := bigL_append (cs.take ((j + 1) * 5)) (cs.drop ((j + 1) * 5))
       rw [List.take_append_drop] at this
       omega
     go_wp2_with fail
     refine (dSzThread [v0, v1, v2, v3, v4] [c0, c1, c2, c3, c4] _ _ (HA0.out.on hb (Nat.le_refl _)) HL0.out hr0 hr2).mono ?_
     rintro e w2 ⟨hb2, hc⟩
     rw [hm] at hc
     have hb02 : Below w.heap.size w w2 := hb.trans (hb2.mono hb.size)
     clear hb2 hm e0 e1 e2 e3 e4
     rcases hc with ⟨r2, rfl, hq1, rfl⟩ | ⟨rfl, hq⟩
     · have g : ¬ r - (m : Int) < 0 := by omega
       go_wp2
       exact ⟨⟨j + 1, r - (m : Int), by omega, rfl, by go_num, by omega, by have h5 := HM.out; have h6 := HQ.out; omega, hb02⟩, by simp [intOf]; omega⟩
     · go_wp2
       go_ret
       exact ⟨hb02, .inr ⟨rfl, by have h5 := HM.out; have h6 := HQ.out; have h7 := MON.out; omega⟩⟩
   · obtain rfl : j = n := by omega
     have HE : Hid (cs.take (j * 5) = cs) := List.take_of_length_le (by have := L2.out; omega)
     go_wp2
     go_ret
     refine ⟨hb, .inl ⟨_, rfl, ?_⟩⟩
     have h6 := HQ.out
     rw [HE.out] at h6
     omega
theorem dSzRes (vs : List Value) (cs : List Cel) (left : Int) (w : World) (h : InL w vs cs) (hs : HasL cs tyRes) (h0 : 0 ≤ left) (h1 : left ≤ 2097152) : Calls Try.prog 19 #[.agg vs.toArray, .int .i64 left] w (Left w (bigL cs) left) := by
 obtain ⟨c0, c1, rfl, T0, T1⟩ := hs.c2
 obtain ⟨v0, v1, rfl, A0, A1⟩ := h.c2
 obtain ⟨x0, rfl⟩ := T0.int
 obtain rfl := A0.int
 obtain ⟨n1, cs1, rfl, -⟩ := T1.list
 have HT1 : Hid (Has (.l 3 1 n1 cs1) (.l 3 1 [.i])) := T1
 have hA1' : Hid (In w v1 (.l 3 1 n1 cs1)) := A1
 clear hs h T0 A0 T1 A1
 obtain ⟨W, hW⟩ : ∃ W, w.alloc (.cells #[.int .i64 x0, v1] 26) = W := ⟨_, rfl⟩
 have t0 : Hid (One w W #[.int .i64 x0, v1] 26) := by rw [← hW]; exact one_new w _ _
 have HW : Hid _ := hW
 clear hW
 go_enter Try.func19, Try.ntmps19
 go_upto_region 1 with (fail)
 rw [HW.out]
 have ax0 := t0.out.a.at 0 (.int .i64 x0) rfl
 have ax1 := t0.out.a.at 1 (v1) rfl
 go_wp2_with fail
 refine (dSzIntS v1 n1 cs1 _ _ (hA1'.out.on t0.out.on (Nat.le_refl _)) HT1.out (by omega) (by omega)).mono ?_
 rintro e w1 ⟨hb, hc⟩
 obtain ⟨m1, hm1⟩ : ∃ m, n1 + bigL cs1 = m := ⟨_, rfl⟩
 rw [hm1] at hc
 have HM1 : Hid (n1 + bigL cs1 = m1) := hm1
 clear hm1
 have t1 : Hid (One w w1 #[.int .i64 x0, v1] 26) := t0.out.call hb
 clear hb ax0 ax1
 have ax0 := t1.out.a.at 0 (.int .i64 x0) rfl
 have ax1 := t1.out.a.at 1 (v1) rfl
 rcases hc with ⟨r1, rfl, hr1, hq1⟩ | ⟨rfl, hr1⟩
 rotate_left
 · go_wp2
   go_ret
   refine ⟨t1.out.on, .inr ⟨rfl, ?_⟩⟩
   have e : bigL [.i x0, .l 3 1 n1 cs1] = ((n1 + bigL cs1)) := by simp [bigL, Cel.big]; try omega
   rw [e]
   have e1 := HM1.out
   (try simp only [bigL, Cel.big] at *)
   omega
 have g1 : ¬ r1 < 0 := by omega
 go_wp2
 go_ret
 refine ⟨t1.out.on, .inl ⟨_, rfl, ?_⟩⟩
 have e : bigL [.i x0, .l 3 1 n1 cs1] = (n1 + bigL cs1) := by simp [bigL, Cel.big]; try omega
 rw [e]
 have e1 := HM1.out
 (try simp only [bigL, Cel.big] at *)
 omega
theorem dSzRows (vs : List Value) (cs : List Cel) (left : Int) (w : World) (h : InL w vs cs) (hs : HasL cs tyRows) (h0 : 0 ≤ left) (h1 : left ≤ 2097152) : Calls Try.prog 29 #[.agg vs.toArray, .int .i64 left] w (Left w (bigL cs) left) := by
 obtain ⟨c0, c1, rfl, T0, T1⟩ := hs.c2
 obtain ⟨v0, v1, rfl, A0, A1⟩ := h.c2
 obtain ⟨n0, cs0, rfl, -⟩ := T0.list
 have HT0 : Hid (Has (.l 3 1 n0 cs0) (.l 3 1 [.i])) := T0
 have hA0' : Hid (In w v0 (.l 3 1 n0 cs0)) := A0
 obtain ⟨x1, rfl⟩ := T1.int
 obtain rfl := A1.int
 clear hs h T0 A0 T1 A1
 obtain ⟨W, hW⟩ : ∃ W, w.alloc (.cells #[v0, .int .i64 x1] 44) = W := ⟨_, rfl⟩
 have t0 : Hid (One w W #[v0, .int .i64 x1] 44) := by rw [← hW]; exact one_new w _ _
 have HW : Hid _ := hW
 clear hW
 go_enter Try.func29, Try.ntmps29
 go_upto_region 1 with (fail)
 rw [HW.out]
 have ax0 := t0.out.a.at 0 (v0) rfl
 have ax1 := t0.out.a.at 1 (.int .i64 x1) rfl
 go_wp2_with fail
 refine (dSzIntS v0 n0 cs0 _ _ (hA0'.out.on t0.out.on (Nat.le_refl _)) HT0.out (by omega) (by omega)).mono ?_
 rintro e w1 ⟨hb, hc⟩
 obtain ⟨m1, hm1⟩ : ∃ m, n0 + bigL cs0 = m := ⟨_, rfl⟩
 rw [hm1] at hc
 have HM1 : Hid (n0 + bigL cs0 = m1) := hm1
 clear hm1
 have t1 : Hid (One w w1 #[v0, .int .i64 x1] 44) := t0.out.call hb
 clear hb ax0 ax1
 have ax0 := t1.out.a.at 0 (v0) rfl
 have ax1 := t1.out.a.at 1 (.int .i64 x1) rfl
 rcases hc with ⟨r1, rfl, hr1, hq1⟩ | ⟨rfl, hr1⟩
 rotate_left
 · go_wp2
   go_ret
   refine ⟨t1.out.on, .inr ⟨rfl, ?_⟩⟩
   have e : bigL [.l 3 1 n0 cs0, .i x1] = ((n0 + bigL cs0)) := by simp [bigL, Cel.big]; try omega
   rw [e]
   have e1 := HM1.out
   (try simp only [bigL, Cel.big] at *)
   omega
 have g1 : ¬ r1 < 0 := by omega
 go_wp2
 go_ret
 refine ⟨t1.out.on, .inl ⟨_, rfl, ?_⟩⟩
 have e : bigL [.l 3 1 n0 cs0, .i x1] = (n0 + bigL cs0) := by simp [bigL, Cel.big]; try omega
 rw [e]
 have e1 := HM1.out
 (try simp only [bigL, Cel.big] at *)
 omega
theorem dSzDesc (vs : List Value) (cs : List Cel) (left : Int) (w : World) (h : InL w vs cs) (hs : HasL cs tyDesc) (h0 : 0 ≤ left) (h1 : left ≤ 2097152) : Calls Try.prog 63 #[.agg vs.toArray, .int .i64 left] w (Left w (bigL cs) left) := by
 obtain ⟨c0, c1, c2, c3, c4, rfl, T0, T1, T2, T3, T4⟩ := hs.c5
 obtain ⟨v0, v1, v2, v3, v4, rfl, A0, A1, A2, A3, A4⟩ := h.c5
 obtain ⟨x0, rfl⟩ := T0.int
 obtain rfl := A0.int
 obtain ⟨x1, rfl⟩ := T1.int
 obtain rfl := A1.int
 obtain ⟨n2, cs2, rfl, -⟩ := T2.list
 have HT2 : Hid (Has (.l 151 3 n2 cs2) (.l 151 3 tyEntry)) := T2
 have hA2' : Hid (In w v2 (.l 151 3 n2 cs2)) := A2
 obtain ⟨x3, rfl⟩ := T3.int
 obtain rfl := A3.int
 obtain ⟨n4, cs4, rfl, -⟩ := T4.list
 have HT4 : Hid (Has (.l 3 1 n4 cs4) (.l 3 1 [.i])) := T4
 have hA4' : Hid (In w v4 (.l 3 1 n4 cs4)) := A4
 have HN3 : Hid (InL w [.int .i64 x3, v4] [.i x3, .l 3 1 n4 cs4]) := InL.cons (.i x3) (InL.cons (hA4'.out) (InL.nil))
 have HH3 : Hid (HasL [.i x3, .l 3 1 n4 cs4] tyRes) := ⟨rfl, fun j c t hc ht => by
   have hj : j < 2 := by have := (List.getElem?_eq_some_iff.1 hc).1; simpa using this
   rcases (show j = 0 ∨ j = 1 by omega) with rfl | rfl <;> (simp [tyRes] at hc ht; subst hc ht)
   · exact .i x3
   · exact HT4.out⟩
 clear hs h T0 A0 T1 A1 T2 A2 T3 A3 T4 A4
 obtain ⟨W, hW⟩ : ∃ W, w.alloc (.cells #[.int .i64 x0, .int .i64 x1, v2, .int .i64 x3, v4] 116) = W := ⟨_, rfl⟩
 have t0 : Hid (One w W #[.int .i64 x0, .int .i64 x1, v2, .int .i64 x3, v4] 116) := by rw [← hW]; exact one_new w _ _
 have HW : Hid _ := hW
 clear hW
 go_enter Try.func63, Try.ntmps63
 go_upto_region 1 with (fail)
 rw [HW.out]
 have ax0 := t0.out.a.at 0 (.int .i64 x0) rfl
 have ax1 := t0.out.a.at 1 (.int .i64 x1) rfl
 have ax2 := t0.out.a.at 2 (v2) rfl
 have ax3 := t0.out.a.at 3 (.int .i64 x3) rfl
 have ax4 := t0.out.a.at 4 (v4) rfl
 go_wp2_with fail
 refine (dSzEntryS v2 n2 cs2 _ _ (hA2'.out.on t0.out.on (Nat.le_refl _)) HT2.out (by omega) (by omega)).mono ?_
 rintro e w1 ⟨hb, hc⟩
 obtain ⟨m1, hm1⟩ : ∃ m, n2 + bigL cs2 = m := ⟨_, rfl⟩
 rw [hm1] at hc
 have HM1 : Hid (n2 + bigL cs2 = m1) := hm1
 clear hm1
 have t1 : Hid (One w w1 #[.int .i64 x0, .int .i64 x1, v2, .int .i64 x3, v4] 116) := t0.out.call hb
 clear hb ax0 ax1 ax2 ax3 ax4
 have ax0 := t1.out.a.at 0 (.int .i64 x0) rfl
 have ax1 := t1.out.a.at 1 (.int .i64 x1) rfl
 have ax2 := t1.out.a.at 2 (v2) rfl
 have ax3 := t1.out.a.at 3 (.int .i64 x3) rfl
 have ax4 := t1.out.a.at 4 (v4) rfl
 rcases hc with ⟨r1, rfl, hr1, hq1⟩ | ⟨rfl, hr1⟩
 rotate_left
 · go_wp2
   go_ret
   refine ⟨t1.out.on, .inr ⟨rfl, ?_⟩⟩
   have e : bigL [.i x0, .i x1, .l 151 3 n2 cs2, .i x3, .l 3 1 n4 cs4] = ((n2 + bigL cs2) + (n4 + bigL cs4)) := by simp [bigL, Cel.big]; try omega
   rw [e]
   have e1 := HM1.out
   (try simp only [bigL, Cel.big] at *)
   omega
 have g1 : ¬ r1 < 0 := by omega
 go_wp2_with fail
 refine (dSzRes [.int .i64 x3, v4] [.i x3, .l 3 1 n4 cs4] _ _ (HN3.out.on t1.out.on (Nat.le_refl _)) HH3.out (by omega) (by omega)).mono ?_
 rintro e w2 ⟨hb, hc⟩
 obtain ⟨m2, hm2⟩ : ∃ m, bigL [.i x3, .l 3 1 n4 cs4] = m := ⟨_, rfl⟩
 rw [hm2] at hc
 have HM2 : Hid (bigL [.i x3, .l 3 1 n4 cs4] = m2) := hm2
 clear hm2
 have t2 : Hid (One w w2 #[.int .i64 x0, .int .i64 x1, v2, .int .i64 x3, v4] 116) := t1.out.call hb
 clear hb ax0 ax1 ax2 ax3 ax4
 have ax0 := t2.out.a.at 0 (.int .i64 x0) rfl
 have ax1 := t2.out.a.at 1 (.int .i64 x1) rfl
 have ax2 := t2.out.a.at 2 (v2) rfl
 have ax3 := t2.out.a.at 3 (.int .i64 x3) rfl
 have ax4 := t2.out.a.at 4 (v4) rfl
 rcases hc with ⟨r2, rfl, hr2, hq2⟩ | ⟨rfl, hr2⟩
 rotate_left
 · go_wp2
   go_ret
   refine ⟨t2.out.on, .inr ⟨rfl, ?_⟩⟩
   have e : bigL [.i x0, .i x1, .l 151 3 n2 cs2, .i x3, .l 3 1 n4 cs4] = ((n2 + bigL cs2) + (n4 + bigL cs4)) := by simp [bigL, Cel.big]; try omega
   rw [e]
   have e1 := HM1.out
   have e2 := HM2.out
   (try simp only [bigL, Cel.big] at *)
   omega
 have g2 : ¬ r2 < 0 := by omega
 go_wp2
 go_ret
 refine ⟨t2.out.on, .inl ⟨_, rfl, ?_⟩⟩
 have e : bigL [.i x0, .i x1, .l 151 3 n2 cs2, .i x3, .l 3 1 n4 cs4] = (n2 + bigL cs2) + (n4 + bigL cs4) := by simp [bigL, Cel.big]; try omega
 rw [e]
 have e1 := HM1.out
 have e2 := HM2.out
 (try simp only [bigL, Cel.big] at *)
 omega
theorem dSzDescS (v : Value) (n : Nat) (cs : List Cel) (left : Int) (w : World) (h : In w v (.l 126 5 n cs)) (hs : Has (.l 126 5 n cs) (.l 126 5 tyDesc)) (h0 : 0 ≤ left) (h1 : left ≤ 2097152) :
   Calls Try.prog 47 #[v, .int .i64 left] w (Left w (n + bigL cs) left) := by
 obtain ⟨a, c, vs, rfl, h2, h3, hn, h4, h5⟩ := h.openL
 have SRC : Hid (n = 0 ∨ ∃ b o, a = some ⟨b, o, none⟩ ∧ ∀ j, j < n * 5 → w.cell? ⟨b, o + j, none⟩ = vs[j]?) := h4
 have HV : Hid (∀ j, j < n → InL w ((vs.drop (j * 5)).take 5) (row cs 5 j)) := fun j hj => rowIn h2 h3 h5 hj
 have HR : Hid (∀ j, j < n → HasL (row cs 5 j) tyDesc) := fun j hj => hs.rowL hj
 have L1 : Hid (vs.length = n * 5) := h2
 have L2 : Hid (cs.length = n * 5) := h3
 clear h h2 h3 h4 h5 hs
 by_cases hl : (n : Int) ≤ left
 rotate_left
 · have h2 : left - (n : Int) < 0 := by omega
   go_enter Try.func47, Try.ntmps47
   go_wp2
   go_ret
   exact ⟨Below.refl _ _, .inr ⟨rfl, by omega⟩⟩
 have h2 : ¬ (left - (n : Int) < 0) := by omega
 go_enter Try.func47, Try.ntmps47
 go_wp2
 go_loopw [1, 5] (fun l i wr => ∃ (j : Nat) (r : Int), j ≤ n ∧ l = .int .i64 r ∧ i = .int .i64 (j : Int) ∧ 0 ≤ r ∧ r = left - (n : Int) - (bigL (cs.take (j * 5)) : Int) ∧ Below w.heap.size w wr) (fun _ i _ => n - (intOf i).toNat)
 case atStart => exact ⟨0, left - n, Nat.zero_le _, rfl, rfl, by omega, by simp [bigL], Below.refl _ _⟩
 case round =>
   obtain ⟨j, r, hj, rfl, rfl, hr0, hr1, hb⟩ := hrel
   have HQ : Hid (r = left - (n : Int) - (bigL (cs.take (j * 5)) : Int)) := hr1
   have hr2 : r ≤ 2097152 := by omega
   clear hr1
   by_cases hlt : j < n
   · rcases SRC.out with h0' | ⟨p1, o1, rfl, g1⟩
     · omega
     have hk0 : (0 : Int) ≤ (j : Int) := by omega
     have hk1 : (j : Int) < (n : Int) := by omega
     have hle : j * 5 + 5 ≤ n * 5 := by omega
     have hA := HV.out j hlt
     have hH := HR.out j hlt
     have ce := rowAt hb hlt g1 L1.out
     obtain ⟨rs, hrs⟩ : ∃ rs, row cs 5 j = rs := ⟨_, rfl⟩
     obtain ⟨ws, hws⟩ : ∃ ws, (vs.drop (j * 5)).take 5 = ws := ⟨_, rfl⟩
     have HRS : Hid (row cs 5 j = rs) := hrs
     rw [hrs] at hA hH
     rw [hws] at hA ce
     clear g1 hrs hws
     obtain ⟨c0, c1, c2, c3, c4, rfl, T0, T1, T2, T3, T4⟩ := hH.c5
     have HL0 : Hid (HasL [c0, c1, c2, c3, c4] tyDesc) := hH
     obtain ⟨v0, v1, v2, v3, v4, rfl, A0, A1, A2, A3, A4⟩ := hA.c5
     have HA0 : Hid (InL w [v0, v1, v2, v3, v4] [c0, c1, c2, c3, c4]) := hA
     have e0 : wr.cell? ⟨p1, o1 + j * 5, none⟩ = some v0 := ce 0 (by omega)
     have e1 : wr.cell? ⟨p1, o1 + j * 5 + 1, none⟩ = some v1 := ce 1 (by omega)
     have e2 : wr.cell? ⟨p1, o1 + j * 5 + 2, none⟩ = some v2 := ce 2 (by omega)
     have e3 : wr.cell? ⟨p1, o1 + j * 5 + 3, none⟩ = some v3 := ce 3 (by omega)
     have e4 : wr.cell? ⟨p1, o1 + j * 5 + 4, none⟩ = some v4 := ce 4 (by omega)
     clear ce hA hH T0 A0 T1 A1 T2 A2 T3 A3 T4 A4
     obtain ⟨m, hm⟩ : ∃ m, bigL [c0, c1, c2, c3, c4] = m := ⟨_, rfl⟩
     have HM : Hid (bigL (cs.take ((j + 1) * 5)) = bigL (cs.take (j * 5)) + m) := by show _ = _; rw [row_split, bigL_append, HRS.out, hm]
     have MON : Hid (bigL (cs.take ((j + 1) * 5)) ≤ bigL cs) := by
       show _ ≤ _
       have := bigL_append (cs.take ((j + 1) * 5)) (cs.drop ((j + 1) * 5))
       rw [List.take_append_drop] at this
       omega
     go_wp2_with fail
     refine (dSzDesc [v0, v1, v2, v3, v4] [c0, c1, c2, c3, c4] _ _ (HA0.out.on hb (Nat.le_refl _)) HL0.out hr0 hr2).mono ?_
     rintro e w2 ⟨hb2, hc⟩
     rw [hm] at hc
     have hb02 : Below w.heap.size w w2 := hb.trans (hb2.mono hb.size)
     clear hb2 hm e0 e1 e2 e3 e4
     rcases hc with ⟨r2, rfl, hq1, rfl⟩ | ⟨rfl, hq⟩
     · have g : ¬ r - (m : Int) < 0 := by omega
       go_wp2
       exact ⟨⟨j + 1, r - (m : Int), by omega, rfl, by go_num, by omega, by have h5 := HM.out; have h6 := HQ.out; omega, hb02⟩, by simp [intOf]; omega⟩
     · go_wp2
       go_ret
       exact ⟨hb02, .inr ⟨rfl, by have h5 := HM.out; have h6 := HQ.out; have h7 := MON.out; omega⟩⟩
   · obtain rfl : j = n := by omega
     have HE : Hid (cs.take (j * 5) = cs) := List.take_of_length_le (by have := L2.out; omega)
     go_wp2
     go_ret
     refine ⟨hb, .inl ⟨_, rfl, ?_⟩⟩
     have h6 := HQ.out
     rw [HE.out] at h6
     omega
theorem dSzMem (vs : List Value) (cs : List Cel) (left : Int) (w : World) (h : InL w vs cs) (hs : HasL cs tyMem) (h0 : 0 ≤ left) (h1 : left ≤ 2097152) : Calls Try.prog 25 #[.agg vs.toArray, .int .i64 left] w (Left w (bigL cs) left) := by
 obtain ⟨c0, c1, rfl, T0, T1⟩ := hs.c2
 obtain ⟨v0, v1, rfl, A0, A1⟩ := h.c2
 obtain ⟨n0, cs0, rfl, -⟩ := T0.list
 have HT0 : Hid (Has (.l 121 3 n0 cs0) (.l 121 3 tyWord)) := T0
 have hA0' : Hid (In w v0 (.l 121 3 n0 cs0)) := A0
 obtain ⟨n1, cs1, rfl, -⟩ := T1.list
 have HT1 : Hid (Has (.l 126 5 n1 cs1) (.l 126 5 tyDesc)) := T1
 have hA1' : Hid (In w v1 (.l 126 5 n1 cs1)) := A1
 clear hs h T0 A0 T1 A1
 obtain ⟨W, hW⟩ : ∃ W, w.alloc (.cells #[v0, v1] 40) = W := ⟨_, rfl⟩
 have t0 : Hid (One w W #[v0, v1] 40) := by rw [← hW]; exact one_new w _ _
 have HW : Hid _ := hW
 clear hW
 go_enter Try.func25, Try.ntmps25
 go_upto_region 1 with (fail)
 rw [HW.out]
 have ax0 := t0.out.a.at 0 (v0) rfl
 have ax1 := t0.out.a.at 1 (v1) rfl
 go_wp2_with fail
 refine (dSzWordS v0 n0 cs0 _ _ (hA0'.out.on t0.out.on (Nat.le_refl _)) HT0.out (by omega) (by omega)).mono ?_
 rintro e w1 ⟨hb, hc⟩
 obtain ⟨m1, hm1⟩ : ∃ m, n0 + bigL cs0 = m := ⟨_, rfl⟩
 rw [hm1] at hc
 have HM1 : Hid (n0 + bigL cs0 = m1) := hm1
 clear hm1
 have t1 : Hid (One w w1 #[v0, v1] 40) := t0.out.call hb
 clear hb ax0 ax1
 have ax0 := t1.out.a.at 0 (v0) rfl
 have ax1 := t1.out.a.at 1 (v1) rfl
 rcases hc with ⟨r1, rfl, hr1, hq1⟩ | ⟨rfl, hr1⟩
 rotate_left
 · go_wp2
   go_ret
   refine ⟨t1.out.on, .inr ⟨rfl, ?_⟩⟩
   have e : bigL [.l 121 3 n0 cs0, .l 126 5 n1 cs1] = ((n0 + bigL cs0) + (n1 + bigL cs1)) := by simp [bigL, Cel.big]; try omega
   rw [e]
   have e1 := HM1.out
   (try simp only [bigL, Cel.big] at *)
   omega
 have g1 : ¬ r1 < 0 := by omega
 go_wp2_with fail
 refine (dSzDescS v1 n1 cs1 _ _ (hA1'.out.on t1.out.on (Nat.le_refl _)) HT1.out (by omega) (by omega)).mono ?_
 rintro e w2 ⟨hb, hc⟩
 obtain ⟨m2, hm2⟩ : ∃ m, n1 + bigL cs1 = m := ⟨_, rfl⟩
 rw [hm2] at hc
 have HM2 : Hid (n1 + bigL cs1 = m2) := hm2
 clear hm2
 have t2 : Hid (One w w2 #[v0, v1] 40) := t1.out.call hb
 clear hb ax0 ax1
 have ax0 := t2.out.a.at 0 (v0) rfl
 have ax1 := t2.out.a.at 1 (v1) rfl
 rcases hc with ⟨r2, rfl, hr2, hq2⟩ | ⟨rfl, hr2⟩
 rotate_left
 · go_wp2
   go_ret
   refine ⟨t2.out.on, .inr ⟨rfl, ?_⟩⟩
   have e : bigL [.l 121 3 n0 cs0, .l 126 5 n1 cs1] = ((n0 + bigL cs0) + (n1 + bigL cs1)) := by simp [bigL, Cel.big]; try omega
   rw [e]
   have e1 := HM1.out
   have e2 := HM2.out
   (try simp only [bigL, Cel.big] at *)
   omega
 have g2 : ¬ r2 < 0 := by omega
 go_wp2
 go_ret
 refine ⟨t2.out.on, .inl ⟨_, rfl, ?_⟩⟩
 have e : bigL [.l 121 3 n0 cs0, .l 126 5 n1 cs1] = (n0 + bigL cs0) + (n1 + bigL cs1) := by simp [bigL, Cel.big]; try omega
 rw [e]
 have e1 := HM1.out
 have e2 := HM2.out
 (try simp only [bigL, Cel.big] at *)
 omega
theorem dSzCall (vs : List Value) (cs : List Cel) (left : Int) (w : World) (h : InL w vs cs) (hs : HasL cs tyCall) (h0 : 0 ≤ left) (h1 : left ≤ 2097152) : Calls Try.prog 5 #[.agg vs.toArray, .int .i64 left] w (Left w (bigL cs) left) := by
 obtain ⟨c0, c1, c2, c3, c4, c5, c6, c7, c8, rfl, T0, T1, T2, T3, T4, T5, T6, T7, T8⟩ := hs.c9
 obtain ⟨v0, v1, v2, v3, v4, v5, v6, v7, v8, rfl, A0, A1, A2, A3, A4, A5, A6, A7, A8⟩ := h.c9
 obtain ⟨x0, rfl⟩ := T0.int
 obtain rfl := A0.int
 obtain ⟨x1, rfl⟩ := T1.int
 obtain rfl := A1.int
 obtain ⟨x2, rfl⟩ := T2.int
 obtain rfl := A2.int
 obtain ⟨x3, rfl⟩ := T3.int
 obtain rfl := A3.int
 obtain ⟨x4, rfl⟩ := T4.int
 obtain rfl := A4.int
 obtain ⟨x5, rfl⟩ := T5.int
 obtain rfl := A5.int
 obtain ⟨x6, rfl⟩ := T6.int
 obtain rfl := A6.int
 obtain ⟨x7, rfl⟩ := T7.int
 obtain rfl := A7.int
 obtain ⟨n8, cs8, rfl, -⟩ := T8.list
 have HT8 : Hid (Has (.l 3 1 n8 cs8) (.l 3 1 [.i])) := T8
 have hA8' : Hid (In w v8 (.l 3 1 n8 cs8)) := A8
 have HN1 : Hid (InL w [.int .i64 x1, .int .i64 x2, .int .i64 x3] [.i x1, .i x2, .i x3]) := InL.cons (.i x1) (InL.cons (.i x2) (InL.cons (.i x3) (InL.nil)))
 have HH1 : Hid (HasL [.i x1, .i x2, .i x3] tyOp) := ⟨rfl, fun j c t hc ht => by
   have hj : j < 3 := by have := (List.getElem?_eq_some_iff.1 hc).1; simpa using this
   rcases (show j = 0 ∨ j = 1 ∨ j = 2 by omega) with rfl | rfl | rfl <;> (simp [tyOp] at hc ht; subst hc ht)
   · exact .i x1
   · exact .i x2
   · exact .i x3⟩
 have HN7 : Hid (InL w [.int .i64 x7, v8] [.i x7, .l 3 1 n8 cs8]) := InL.cons (.i x7) (InL.cons (hA8'.out) (InL.nil))
 have HH7 : Hid (HasL [.i x7, .l 3 1 n8 cs8] tyRes) := ⟨rfl, fun j c t hc ht => by
   have hj : j < 2 := by have := (List.getElem?_eq_some_iff.1 hc).1; simpa using this
   rcases (show j = 0 ∨ j = 1 by omega) with rfl | rfl <;> (simp [tyRes] at hc ht; subst hc ht)
   · exact .i x7
   · exact HT8.out⟩
 clear hs h T0 A0 T1 A1 T2 A2 T3 A3 T4 A4 T5 A5 T6 A6 T7 A7 T8 A8
 obtain ⟨W, hW⟩ : ∃ W, w.alloc (.cells #[.int .i64 x0, .int .i64 x1, .int .i64 x2, .int .i64 x3, .int .i64 x4, .int .i64 x5, .int .i64 x6, .int .i64 x7, v8] 28) = W := ⟨_, rfl⟩
 have t0 : Hid (One w W #[.int .i64 x0, .int .i64 x1, .int .i64 x2, .int .i64 x3, .int .i64 x4, .int .i64 x5, .int .i64 x6, .int .i64 x7, v8] 28) := by rw [← hW]; exact one_new w _ _
 have HW : Hid _ := hW
 clear hW
 go_enter Try.func5, Try.ntmps5
 go_upto_region 1 with (fail)
 rw [HW.out]
 have ax0 := t0.out.a.at 0 (.int .i64 x0) rfl
 have ax1 := t0.out.a.at 1 (.int .i64 x1) rfl
 have ax2 := t0.out.a.at 2 (.int .i64 x2) rfl
 have ax3 := t0.out.a.at 3 (.int .i64 x3) rfl
 have ax4 := t0.out.a.at 4 (.int .i64 x4) rfl
 have ax5 := t0.out.a.at 5 (.int .i64 x5) rfl
 have ax6 := t0.out.a.at 6 (.int .i64 x6) rfl
 have ax7 := t0.out.a.at 7 (.int .i64 x7) rfl
 have ax8 := t0.out.a.at 8 (v8) rfl
 go_wp2_with fail
 refine (dSzRes [.int .i64 x7, v8] [.i x7, .l 3 1 n8 cs8] _ _ (HN7.out.on t0.out.on (Nat.le_refl _)) HH7.out (by omega) (by omega)).mono ?_
 rintro e w1 ⟨hb, hc⟩
 obtain ⟨m1, hm1⟩ : ∃ m, bigL [.i x7, .l 3 1 n8 cs8] = m := ⟨_, rfl⟩
 rw [hm1] at hc
 have HM1 : Hid (bigL [.i x7, .l 3 1 n8 cs8] = m1) := hm1
 clear hm1
 have t1 : Hid (One w w1 #[.int .i64 x0, .int .i64 x1, .int .i64 x2, .int .i64 x3, .int .i64 x4, .int .i64 x5, .int .i64 x6, .int .i64 x7, v8] 28) := t0.out.call hb
 clear hb ax0 ax1 ax2 ax3 ax4 ax5 ax6 ax7 ax8
 have ax0 := t1.out.a.at 0 (.int .i64 x0) rfl
 have ax1 := t1.out.a.at 1 (.int .i64 x1) rfl
 have ax2 := t1.out.a.at 2 (.int .i64 x2) rfl
 have ax3 := t1.out.a.at 3 (.int .i64 x3) rfl
 have ax4 := t1.out.a.at 4 (.int .i64 x4) rfl
 have ax5 := t1.out.a.at 5 (.int .i64 x5) rfl
 have ax6 := t1.out.a.at 6 (.int .i64 x6) rfl
 have ax7 := t1.out.a.at 7 (.int .i64 x7) rfl
 have ax8 := t1.out.a.at 8 (v8) rfl
 rcases hc with ⟨r1, rfl, hr1, hq1⟩ | ⟨rfl, hr1⟩
 rotate_left
 · go_wp2
   go_ret
   refine ⟨t1.out.on, .inr ⟨rfl, ?_⟩⟩
   have e : bigL [.i x0, .i x1, .i x2, .i x3, .i x4, .i x5, .i x6, .i x7, .l 3 1 n8 cs8] = ((n8 + bigL cs8)) := by simp [bigL, Cel.big]; try omega
   rw [e]
   have e1 := HM1.out
   (try simp only [bigL, Cel.big] at *)
   omega
 have g1 : ¬ r1 < 0 := by omega
 go_wp2
 go_ret
 refine ⟨t1.out.on, .inl ⟨_, rfl, ?_⟩⟩
 have e : bigL [.i x0, .i x1, .i x2, .i x3, .i x4, .i x5, .i x6, .i x7, .l 3 1 n8 cs8] = (n8 + bigL cs8) := by simp [bigL, Cel.big]; try omega
 rw [e]
 have e1 := HM1.out
 (try simp only [bigL, Cel.big] at *)
 omega
theorem dSzCallS (v : Value) (n : Nat) (cs : List Cel) (left : Int) (w : World) (h : In w v (.l 34 9 n cs)) (hs : Has (.l 34 9 n cs) (.l 34 9 tyCall)) (h0 : 0 ≤ left) (h1 : left ≤ 2097152) :
   Calls Try.prog 27 #[v, .int .i64 left] w (Left w (n + bigL cs) left) := by
 obtain ⟨a, c, vs, rfl, h2, h3, hn, h4, h5⟩ := h.openL
 have SRC : Hid (n = 0 ∨ ∃ b o, a = some ⟨b, o, none⟩ ∧ ∀ j, j < n * 9 → w.cell? ⟨b, o + j, none⟩ = vs[j]?) := h4
 have HV : Hid (∀ j, j < n → InL w ((vs.drop (j * 9)).take 9) (row cs 9 j)) := fun j hj => rowIn h2 h3 h5 hj
 have HR : Hid (∀ j, j < n → HasL (row cs 9 j) tyCall) := fun j hj => hs.rowL hj
 have L1 : Hid (vs.length = n * 9) := h2
 have L2 : Hid (cs.length = n * 9) := h3
 clear h h2 h3 h4 h5 hs
 by_cases hl : (n : Int) ≤ left
 rotate_left
 · have h2 : left - (n : Int) < 0 := by omega
   go_enter Try.func27, Try.ntmps27
   go_wp2
   go_ret
   exact ⟨Below.refl _ _, .inr ⟨rfl, by omega⟩⟩
 have h2 : ¬ (left - (n : Int) < 0) := by omega
 go_enter Try.func27, Try.ntmps27
 go_wp2
 go_loopw [1, 5] (fun l i wr => ∃ (j : Nat) (r : Int), j ≤ n ∧ l = .int .i64 r ∧ i = .int .i64 (j : Int) ∧ 0 ≤ r ∧ r = left - (n : Int) - (bigL (cs.take (j * 9)) : Int) ∧ Below w.heap.size w wr) (fun _ i _ => n - (intOf i).toNat)
 case atStart => exact ⟨0, left - n, Nat.zero_le _, rfl, rfl, by omega, by simp [bigL], Below.refl _ _⟩
 case round =>
   obtain ⟨j, r, hj, rfl, rfl, hr0, hr1, hb⟩ := hrel
   have HQ : Hid (r = left - (n : Int) - (bigL (cs.take (j * 9)) : Int)) := hr1
   have hr2 : r ≤ 2097152 := by omega
   clear hr1
   by_cases hlt : j < n
   · rcases SRC.out with h0' | ⟨p1, o1, rfl, g1⟩
     · omega
     have hk0 : (0 : Int) ≤ (j : Int) := by omega
     have hk1 : (j : Int) < (n : Int) := by omega
     have hle : j * 9 + 9 ≤ n * 9 := by omega
     have hA := HV.out j hlt
     have hH := HR.out j hlt
     have ce := rowAt hb hlt g1 L1.out
     obtain ⟨rs, hrs⟩ : ∃ rs, row cs 9 j = rs := ⟨_, rfl⟩
     obtain ⟨ws, hws⟩ : ∃ ws, (vs.drop (j * 9)).take 9 = ws := ⟨_, rfl⟩
     have HRS : Hid (row cs 9 j = rs) := hrs
     rw [hrs] at hA hH
     rw [hws] at hA ce
     clear g1 hrs hws
     obtain ⟨c0, c1, c2, c3, c4, c5, c6, c7, c8, rfl, T0, T1, T2, T3, T4, T5, T6, T7, T8⟩ := hH.c9
     have HL0 : Hid (HasL [c0, c1, c2, c3, c4, c5, c6, c7, c8] tyCall) := hH
     obtain ⟨v0, v1, v2, v3, v4, v5, v6, v7, v8, rfl, A0, A1, A2, A3, A4, A5, A6, A7, A8⟩ := hA.c9
     have HA0 : Hid (InL w [v0, v1, v2, v3, v4, v5, v6, v7, v8] [c0, c1, c2, c3, c4, c5, c6, c7, c8]) := hA
     have e0 : wr.cell? ⟨p1, o1 + j * 9, none⟩ = some v0 := ce 0 (by omega)
     have e1 : wr.cell? ⟨p1, o1 + j * 9 + 1, none⟩ = some v1 := ce 1 (by omega)
     have e2 : wr.cell? ⟨p1, o1 + j * 9 + 2, none⟩ = some v2 := ce 2 (by omega)
     have e3 : wr.cell? ⟨p1, o1 + j * 9 + 3, none⟩ = some v3 := ce 3 (by omega)
     have e4 : wr.cell? ⟨p1, o1 + j * 9 + 4, none⟩ = some v4 := ce 4 (by omega)
     have e5 : wr.cell? ⟨p1, o1 + j * 9 + 5, none⟩ = some v5 := ce 5 (by omega)
     have e6 : wr.cell? ⟨p1, o1 + j * 9 + 6, none⟩ = some v6 := ce 6 (by omega)
     have e7 : wr.cell? ⟨p1, o1 + j * 9 + 7, none⟩ = some v7 := ce 7 (by omega)
     have e8 : wr.cell? ⟨p1, o1 + j * 9 + 8, none⟩ = some v8 := ce 8 (by omega)
     clear ce hA hH T0 A0 T1 A1 T2 A2 T3 A3 T4 A4 T5 A5 T6 A6 T7 A7 T8 A8
     obtain ⟨m, hm⟩ : ∃ m, bigL [c0, c1, c2, c3, c4, c5, c6, c7, c8] = m := ⟨_, rfl⟩
     have HM : Hid (bigL (cs.take ((j + 1) * 9)) = bigL (cs.take (j * 9)) + m) := by show _ = _; rw [row_split, bigL_append, HRS.out, hm]
     have MON : Hid (bigL (cs.take ((j + 1) * 9)) ≤ bigL cs) := by
       show _ ≤ _
       have := bigL_append (cs.take ((j + 1) * 9)) (cs.drop ((j + 1) * 9))
       rw [List.take_append_drop] at this
       omega
     go_wp2_with fail
     refine (dSzCall [v0, v1, v2, v3, v4, v5, v6, v7, v8] [c0, c1, c2, c3, c4, c5, c6, c7, c8] _ _ (HA0.out.on hb (Nat.le_refl _)) HL0.out hr0 hr2).mono ?_
     rintro e w2 ⟨hb2, hc⟩
     rw [hm] at hc
     have hb02 : Below w.heap.size w w2 := hb.trans (hb2.mono hb.size)
     clear hb2 hm e0 e1 e2 e3 e4 e5 e6 e7 e8
     rcases hc with ⟨r2, rfl, hq1, rfl⟩ | ⟨rfl, hq⟩
     · have g : ¬ r - (m : Int) < 0 := by omega
       go_wp2
       exact ⟨⟨j + 1, r - (m : Int), by omega, rfl, by go_num, by omega, by have h5 := HM.out; have h6 := HQ.out; omega, hb02⟩, by simp [intOf]; omega⟩
     · go_wp2
       go_ret
       exact ⟨hb02, .inr ⟨rfl, by have h5 := HM.out; have h6 := HQ.out; have h7 := MON.out; omega⟩⟩
   · obtain rfl : j = n := by omega
     have HE : Hid (cs.take (j * 9) = cs) := List.take_of_length_le (by have := L2.out; omega)
     go_wp2
     go_ret
     refine ⟨hb, .inl ⟨_, rfl, ?_⟩⟩
     have h6 := HQ.out
     rw [HE.out] at h6
     omega
theorem dSzMachine (vs : List Value) (cs : List Cel) (left : Int) (w : World) (h : InL w vs cs) (hs : HasL cs tyMachine) (h0 : 0 ≤ left) (h1 : left ≤ 2097152) : Calls Try.prog 10 #[.agg vs.toArray, .int .i64 left] w (Left w (bigL cs) left) := by
 obtain ⟨c0, c1, c2, c3, c4, c5, c6, c7, rfl, T0, T1, T2, T3, T4, T5, T6, T7⟩ := hs.c8
 obtain ⟨v0, v1, v2, v3, v4, v5, v6, v7, rfl, A0, A1, A2, A3, A4, A5, A6, A7⟩ := h.c8
 obtain ⟨n0, cs0, rfl, -⟩ := T0.list
 have HT0 : Hid (Has (.l 121 3 n0 cs0) (.l 121 3 tyWord)) := T0
 have hA0' : Hid (In w v0 (.l 121 3 n0 cs0)) := A0
 obtain ⟨n1, cs1, rfl, -⟩ := T1.list
 have HT1 : Hid (Has (.l 126 5 n1 cs1) (.l 126 5 tyDesc)) := T1
 have hA1' : Hid (In w v1 (.l 126 5 n1 cs1)) := A1
 obtain ⟨n2, cs2, rfl, -⟩ := T2.list
 have HT2 : Hid (Has (.l 103 5 n2 cs2) (.l 103 5 tyThread)) := T2
 have hA2' : Hid (In w v2 (.l 103 5 n2 cs2)) := A2
 obtain ⟨x3, rfl⟩ := T3.int
 obtain rfl := A3.int
 obtain ⟨n4, cs4, rfl, -⟩ := T4.list
 have HT4 : Hid (Has (.l 34 9 n4 cs4) (.l 34 9 tyCall)) := T4
 have hA4' : Hid (In w v4 (.l 34 9 n4 cs4)) := A4
 obtain ⟨n5, cs5, rfl, -⟩ := T5.list
 have HT5 : Hid (Has (.l 3 1 n5 cs5) (.l 3 1 [.i])) := T5
 have hA5' : Hid (In w v5 (.l 3 1 n5 cs5)) := A5
 obtain ⟨n6, cs6, rfl, -⟩ := T6.list
 have HT6 : Hid (Has (.l 3 1 n6 cs6) (.l 3 1 [.i])) := T6
 have hA6' : Hid (In w v6 (.l 3 1 n6 cs6)) := A6
 obtain ⟨x7, rfl⟩ := T7.int
 obtain rfl := A7.int
 have HN0 : Hid (InL w [v0, v1] [.l 121 3 n0 cs0, .l 126 5 n1 cs1]) := InL.cons (hA0'.out) (InL.cons (hA1'.out) (InL.nil))
 have HH0 : Hid (HasL [.l 121 3 n0 cs0, .l 126 5 n1 cs1] tyMem) := ⟨rfl, fun j c t hc ht => by
   have hj : j < 2 := by have := (List.getElem?_eq_some_iff.1 hc).1; simpa using this
   rcases (show j = 0 ∨ j = 1 by omega) with rfl | rfl <;> (simp [tyMem] at hc ht; subst hc ht)
   · exact HT0.out
   · exact HT1.out⟩
 have HN6 : Hid (InL w [v6, .int .i64 x7] [.l 3 1 n6 cs6, .i x7]) := InL.cons (hA6'.out) (InL.cons (.i x7) (InL.nil))
 have HH6 : Hid (HasL [.l 3 1 n6 cs6, .i x7] tyRows) := ⟨rfl, fun j c t hc ht => by
   have hj : j < 2 := by have := (List.getElem?_eq_some_iff.1 hc).1; simpa using this
   rcases (show j = 0 ∨ j = 1 by omega) with rfl | rfl <;> (simp [tyRows] at hc ht; subst hc ht)
   · exact HT6.out
   · exact .i x7⟩
 clear hs h T0 A0 T1 A1 T2 A2 T3 A3 T4 A4 T5 A5 T6 A6 T7 A7
 obtain ⟨W, hW⟩ : ∃ W, w.alloc (.cells #[v0, v1, v2, .int .i64 x3, v4, v5, v6, .int .i64 x7] 46) = W := ⟨_, rfl⟩
 have t0 : Hid (One w W #[v0, v1, v2, .int .i64 x3, v4, v5, v6, .int .i64 x7] 46) := by rw [← hW]; exact one_new w _ _
 have HW : Hid _ := hW
 clear hW
 go_enter Try.func10, Try.ntmps10
 go_upto_region 1 with (fail)
 rw [HW.out]
 have ax0 := t0.out.a.at 0 (v0) rfl
 have ax1 := t0.out.a.at 1 (v1) rfl
 have ax2 := t0.out.a.at 2 (v2) rfl
 have ax3 := t0.out.a.at 3 (.int .i64 x3) rfl
 have ax4 := t0.out.a.at 4 (v4) rfl
 have ax5 := t0.out.a.at 5 (v5) rfl
 have ax6 := t0.out.a.at 6 (v6) rfl
 have ax7 := t0.out.a.at 7 (.int .i64 x7) rfl
 go_wp2_with fail
 refine (dSzMem [v0, v1] [.l 121 3 n0 cs0, .l 126 5 n1 cs1] _ _ (HN0.out.on t0.out.on (Nat.le_refl _)) HH0.out (by omega) (by omega)).mono ?_
 rintro e w1 ⟨hb, hc⟩
 obtain ⟨m1, hm1⟩ : ∃ m, bigL [.l 121 3 n0 cs0, .l 126 5 n1 cs1] = m := ⟨_, rfl⟩
 rw [hm1] at hc
 have HM1 : Hid (bigL [.l 121 3 n0 cs0, .l 126 5 n1 cs1] = m1) := hm1
 clear hm1
 have t1 : Hid (One w w1 #[v0, v1, v2, .int .i64 x3, v4, v5, v6, .int .i64 x7] 46) := t0.out.call hb
 clear hb ax0 ax1 ax2 ax3 ax4 ax5 ax6 ax7
 have ax0 := t1.out.a.at 0 (v0) rfl
 have ax1 := t1.out.a.at 1 (v1) rfl
 have ax2 := t1.out.a.at 2 (v2) rfl
 have ax3 := t1.out.a.at 3 (.int .i64 x3) rfl
 have ax4 := t1.out.a.at 4 (v4) rfl
 have ax5 := t1.out.a.at 5 (v5) rfl
 have ax6 := t1.out.a.at 6 (v6) rfl
 have ax7 := t1.out.a.at 7 (.int .i64 x7) rfl
 rcases hc with ⟨r1, rfl, hr1, hq1⟩ | ⟨rfl, hr1⟩
 rotate_left
 · go_wp2
   go_ret
   refine ⟨t1.out.on, .inr ⟨rfl, ?_⟩⟩
   have e : bigL [.l 121 3 n0 cs0, .l 126 5 n1 cs1, .l 103 5 n2 cs2, .i x3, .l 34 9 n4 cs4, .l 3 1 n5 cs5, .l 3 1 n6 cs6, .i x7] = ((n0 + bigL cs0) + (n1 + bigL cs1) + (n2 + bigL cs2) + (n4 + bigL cs4) + (n5 + bigL cs5) + (n6 + bigL cs6)) := by simp [bigL, Cel.big]; try omega
   rw [e]
   have e1 := HM1.out
   (try simp only [bigL, Cel.big] at *)
   omega
 have g1 : ¬ r1 < 0 := by omega
 go_wp2_with fail
 refine (dSzThreadS v2 n2 cs2 _ _ (hA2'.out.on t1.out.on (Nat.le_refl _)) HT2.out (by omega) (by omega)).mono ?_
 rintro e w2 ⟨hb, hc⟩
 obtain ⟨m2, hm2⟩ : ∃ m, n2 + bigL cs2 = m := ⟨_, rfl⟩
 rw [hm2] at hc
 have HM2 : Hid (n2 + bigL cs2 = m2) := hm2
 clear hm2
 have t2 : Hid (One w w2 #[v0, v1, v2, .int .i64 x3, v4, v5, v6, .int .i64 x7] 46) := t1.out.call hb
 clear hb ax0 ax1 ax2 ax3 ax4 ax5 ax6 ax7
 have ax0 := t2.out.a.at 0 (v0) rfl
 have ax1 := t2.out.a.at 1 (v1) rfl
 have ax2 := t2.out.a.at 2 (v2) rfl
 have ax3 := t2.out.a.at 3 (.int .i64 x3) rfl
 have ax4 := t2.out.a.at 4 (v4) rfl
 have ax5 := t2.out.a.at 5 (v5) rfl
 have ax6 := t2.out.a.at 6 (v6) rfl
 have ax7 := t2.out.a.at 7 (.int .i64 x7) rfl
 rcases hc with ⟨r2, rfl, hr2, hq2⟩ | ⟨rfl, hr2⟩
 rotate_left
 · go_wp2
   go_ret
   refine ⟨t2.out.on, .inr ⟨rfl, ?_⟩⟩
   have e : bigL [.l 121 3 n0 cs0, .l 126 5 n1 cs1, .l 103 5 n2 cs2, .i x3, .l 34 9 n4 cs4, .l 3 1 n5 cs5, .l 3 1 n6 cs6, .i x7] = ((n0 + bigL cs0) + (n1 + bigL cs1) + (n2 + bigL cs2) + (n4 + bigL cs4) + (n5 + bigL cs5) + (n6 + bigL cs6)) := by simp [bigL, Cel.big]; try omega
   rw [e]
   have e1 := HM1.out
   have e2 := HM2.out
   (try simp only [bigL, Cel.big] at *)
   omega
 have g2 : ¬ r2 < 0 := by omega
 go_wp2_with fail
 refine (dSzCallS v4 n4 cs4 _ _ (hA4'.out.on t2.out.on (Nat.le_refl _)) HT4.out (by omega) (by omega)).mono ?_
 rintro e w3 ⟨hb, hc⟩
 obtain ⟨m3, hm3⟩ : ∃ m, n4 + bigL cs4 = m := ⟨_, rfl⟩
 rw [hm3] at hc
 have HM3 : Hid (n4 + bigL cs4 = m3) := hm3
 clear hm3
 have t3 : Hid (One w w3 #[v0, v1, v2, .int .i64 x3, v4, v5, v6, .int .i64 x7] 46) := t2.out.call hb
 clear hb ax0 ax1 ax2 ax3 ax4 ax5 ax6 ax7
 have ax0 := t3.out.a.at 0 (v0) rfl
 have ax1 := t3.out.a.at 1 (v1) rfl
 have ax2 := t3.out.a.at 2 (v2) rfl
 have ax3 := t3.out.a.at 3 (.int .i64 x3) rfl
 have ax4 := t3.out.a.at 4 (v4) rfl
 have ax5 := t3.out.a.at 5 (v5) rfl
 have ax6 := t3.out.a.at 6 (v6) rfl
 have ax7 := t3.out.a.at 7 (.int .i64 x7) rfl
 rcases hc with ⟨r3, rfl, hr3, hq3⟩ | ⟨rfl, hr3⟩
 rotate_left
 · go_wp2
   go_ret
   refine ⟨t3.out.on, .inr ⟨rfl, ?_⟩⟩
   have e : bigL [.l 121 3 n0 cs0, .l 126 5 n1 cs1, .l 103 5 n2 cs2, .i x3, .l 34 9 n4 cs4, .l 3 1 n5 cs5, .l 3 1 n6 cs6, .i x7] = ((n0 + bigL cs0) + (n1 + bigL cs1) + (n2 + bigL cs2) + (n4 + bigL cs4) + (n5 + bigL cs5) + (n6 + bigL cs6)) := by simp [bigL, Cel.big]; try omega
   rw [e]
   have e1 := HM1.out
   have e2 := HM2.out
   have e3 := HM3.out
   (try simp only [bigL, Cel.big] at *)
   omega
 have g3 : ¬ r3 < 0 := by omega
 go_wp2_with fail
 refine (dSzIntS v5 n5 cs5 _ _ (hA5'.out.on t3.out.on (Nat.le_refl _)) HT5.out (by omega) (by omega)).mono ?_
 rintro e w4 ⟨hb, hc⟩
 obtain ⟨m4, hm4⟩ : ∃ m, n5 + bigL cs5 = m := ⟨_, rfl⟩
 rw [hm4] at hc
 have HM4 : Hid (n5 + bigL cs5 = m4) := hm4
 clear hm4
 have t4 : Hid (One w w4 #[v0, v1, v2, .int .i64 x3, v4, v5, v6, .int .i64 x7] 46) := t3.out.call hb
 clear hb ax0 ax1 ax2 ax3 ax4 ax5 ax6 ax7
 have ax0 := t4.out.a.at 0 (v0) rfl
 have ax1 := t4.out.a.at 1 (v1) rfl
 have ax2 := t4.out.a.at 2 (v2) rfl
 have ax3 := t4.out.a.at 3 (.int .i64 x3) rfl
 have ax4 := t4.out.a.at 4 (v4) rfl
 have ax5 := t4.out.a.at 5 (v5) rfl
 have ax6 := t4.out.a.at 6 (v6) rfl
 have ax7 := t4.out.a.at 7 (.int .i64 x7) rfl
 rcases hc with ⟨r4, rfl, hr4, hq4⟩ | ⟨rfl, hr4⟩
 rotate_left
 · go_wp2
   go_ret
   refine ⟨t4.out.on, .inr ⟨rfl, ?_⟩⟩
   have e : bigL [.l 121 3 n0 cs0, .l 126 5 n1 cs1, .l 103 5 n2 cs2, .i x3, .l 34 9 n4 cs4, .l 3 1 n5 cs5, .l 3 1 n6 cs6, .i x7] = ((n0 + bigL cs0) + (n1 + bigL cs1) + (n2 + bigL cs2) + (n4 + bigL cs4) + (n5 + bigL cs5) + (n6 + bigL cs6)) := by simp [bigL, Cel.big]; try omega
   rw [e]
   have e1 := HM1.out
   have e2 := HM2.out
   have e3 := HM3.out
   have e4 := HM4.out
   (try simp only [bigL, Cel.big] at *)
   omega
 have g4 : ¬ r4 < 0 := by omega
 go_wp2_with fail
 refine (dSzRows [v6, .int .i64 x7] [.l 3 1 n6 cs6, .i x7] _ _ (HN6.out.on t4.out.on (Nat.le_refl _)) HH6.out (by omega) (by omega)).mono ?_
 rintro e w5 ⟨hb, hc⟩
 obtain ⟨m5, hm5⟩ : ∃ m, bigL [.l 3 1 n6 cs6, .i x7] = m := ⟨_, rfl⟩
 rw [hm5] at hc
 have HM5 : Hid (bigL [.l 3 1 n6 cs6, .i x7] = m5) := hm5
 clear hm5
 have t5 : Hid (One w w5 #[v0, v1, v2, .int .i64 x3, v4, v5, v6, .int .i64 x7] 46) := t4.out.call hb
 clear hb ax0 ax1 ax2 ax3 ax4 ax5 ax6 ax7
 have ax0 := t5.out.a.at 0 (v0) rfl
 have ax1 := t5.out.a.at 1 (v1) rfl
 have ax2 := t5.out.a.at 2 (v2) rfl
 have ax3 := t5.out.a.at 3 (.int .i64 x3) rfl
 have ax4 := t5.out.a.at 4 (v4) rfl
 have ax5 := t5.out.a.at 5 (v5) rfl
 have ax6 := t5.out.a.at 6 (v6) rfl
 have ax7 := t5.out.a.at 7 (.int .i64 x7) rfl
 rcases hc with ⟨r5, rfl, hr5, hq5⟩ | ⟨rfl, hr5⟩
 rotate_left
 · go_wp2
   go_ret
   refine ⟨t5.out.on, .inr ⟨rfl, ?_⟩⟩
   have e : bigL [.l 121 3 n0 cs0, .l 126 5 n1 cs1, .l 103 5 n2 cs2, .i x3, .l 34 9 n4 cs4, .l 3 1 n5 cs5, .l 3 1 n6 cs6, .i x7] = ((n0 + bigL cs0) + (n1 + bigL cs1) + (n2 + bigL cs2) + (n4 + bigL cs4) + (n5 + bigL cs5) + (n6 + bigL cs6)) := by simp [bigL, Cel.big]; try omega
   rw [e]
   have e1 := HM1.out
   have e2 := HM2.out
   have e3 := HM3.out
   have e4 := HM4.out
   have e5 := HM5.out
   (try simp only [bigL, Cel.big] at *)
   omega
 have g5 : ¬ r5 < 0 := by omega
 go_wp2
 go_ret
 refine ⟨t5.out.on, .inl ⟨_, rfl, ?_⟩⟩
 have e : bigL [.l 121 3 n0 cs0, .l 126 5 n1 cs1, .l 103 5 n2 cs2, .i x3, .l 34 9 n4 cs4, .l 3 1 n5 cs5, .l 3 1 n6 cs6, .i x7] = (n0 + bigL cs0) + (n1 + bigL cs1) + (n2 + bigL cs2) + (n4 + bigL cs4) + (n5 + bigL cs5) + (n6 + bigL cs6) := by simp [bigL, Cel.big]; try omega
 rw [e]
 have e1 := HM1.out
 have e2 := HM2.out
 have e3 := HM3.out
 have e4 := HM4.out
 have e5 := HM5.out
 (try simp only [bigL, Cel.big] at *)
 omega
end
end Go.Proofs.Ytecheopkfhfgkaa
