/- Texts joined: SpecTi. -/
import Derived.Test.YtlkdjeneggfhgaaGreatDoorQT23
import Derived.Test.YtlkdjeneggfhgaaGreatDoorQT16
import Derived.Deep.Cut
import Derived.Deep.RegionHeld3
set_option maxHeartbeats 16000000
set_option maxRecDepth 100000
namespace Go.Proofs.YtlkdjeneggfhgaaGreatDoor
section
open Go.ChangeShapes Go.WideShapes Go.ChangeAt Go.RowKit
def AheadAll (f : Nat → CaD) (x0 x4 : Int) (j : Nat) : Prop := ∀ l, l < j → (f l).t = x0 → 0 ≤ (f l).en ∧ (f l).en < x4
theorem AheadAll.next {f : Nat → CaD} {x0 x4 : Int} {j : Nat} (h : AheadAll f x0 x4 j) (h1 : (f j).t = x0 → 0 ≤ (f j).en ∧ (f j).en < x4) : AheadAll f x0 x4 (j + 1) := fun l hl => by
 by_cases e : l = j
 · rw [e]; exact h1
 · exact h l (by omega)
theorem specJudgeTimes_any (wa : Option Addr) (wc : Nat) (da : Option Addr) (dc : Nat) (ta : Option Addr) (tc : Nat) (ca : Option Addr) (cc : Nat) (oa : Option Addr) (oc : Nat) (ha : Option Addr) (hc : Nat) (M : MaD) (w : World) (h : MaAt w wa da ta ca oa ha M) :
   Calls Tryz.prog 21 #[MaV wa wc da dc ta tc ca cc oa oc ha hc M] w fun e w' => ∃ ok, (e = .returned (.bool ok) ∧ (ok = true ↔ JTimes M)) ∧ Below w.heap.size w w' := by
 obtain ⟨G, hG⟩ : ∃ G : Prop, JTimes M = G := ⟨_, rfl⟩
 rw [hG]
 have HM : Hid (MaAt w wa da ta ca oa ha M) := h
 have HG : Hid (G ↔ JTimes M) := by show _ ↔ _; rw [hG]
 obtain ⟨MO, hMO⟩ : ∃ MO : Prop, MachGood M = MO := ⟨_, rfl⟩
 have HMO : Hid (MachGood M = MO) := hMO
 obtain ⟨TA, hTA⟩ : ∃ TA : Nat → Prop, TimeAt M = TA := ⟨_, rfl⟩
 have HTA : Hid (∀ i, TA i ↔ ((0 ≤ (M.f i).en → inB (M.f i).ln (M.f i).st (M.f i).en = true) ∧ AheadAll M.f (M.f i).t (M.f i).st i)) := fun i => by rw [← hTA]; exact Iff.rfl
 have HG : Hid (G ↔ (MO ∧ ∀ i, i < M.nc → TA i)) := by
   show _ ↔ _
   rw [HG.out, ← HMO.out, ← hTA]
   exact Iff.rfl
 obtain ⟨nw, ws, nd, ds, nt, ts, tm, nc, f, no, os, nh, hs, st⟩ := M
 have H3 : Hid (CasAt w ca nc f) := h.calls
 have hnc := h.calls.1
 dsimp only at hnc HTA HG
 show Calls Tryz.prog 21 #[.agg #[.slice wa nw wc, .slice da nd dc, .slice ta nt tc, .int .i64 tm, .slice ca nc cc, .slice oa no oc, .slice ha nh hc, .int .i64 st]] w fun e w' => ∃ ok, (e = .returned (.bool ok) ∧ (ok = true ↔ G)) ∧ Below w.heap.size w w'
 obtain ⟨W, hW⟩ : ∃ W, w.alloc (.cells #[.slice wa nw wc, .slice da nd dc, .slice ta nt tc, .int .i64 tm, .slice ca nc cc, .slice oa no oc, .slice ha nh hc, .int .i64 st] 44) = W := ⟨_, rfl⟩
 have hb0 : Below w.heap.size w W := by rw [← hW]; exact (Below.refl _ w).alloc (Nat.le_refl _) _
 have BX : Hid (Box W w.heap.size #[.slice wa nw wc, .slice da nd dc, .slice ta nt tc, .int .i64 tm, .slice ca nc cc, .slice oa no oc, .slice ha nh hc, .int .i64 st] 44) := by rw [← hW]; exact box_of w _ _
 have HB0 : Hid (Below w.heap.size w W) := hb0
 have HW : Hid (w.alloc (.cells #[.slice wa nw wc, .slice da nd dc, .slice ta nt tc, .int .i64 tm, .slice ca nc cc, .slice oa no oc, .slice ha nh hc, .int .i64 st] 44) = W) := hW
 clear h hb0 hW hG hMO hTA
 go_enter Tryz.func21, Tryz.ntmps21
 go_wp2_with fail
 rw [HW.out]
 refine (specMachineOk_any wa wc da dc ta tc ca cc oa oc ha hc ⟨nw, ws, nd, ds, nt, ts, tm, nc, f, no, os, nh, hs, st⟩ W (HM.out.below HB0.out (Nat.le_refl _))).mono ?_
 rintro e w1 ⟨r, ⟨rfl, hr⟩, hb1⟩
 have HR : Hid (r = true ↔ MO) := by show _ ↔ _; rw [← HMO.out]; exact hr
 have BX1 : Hid (Box w1 w.heap.size #[.slice wa nw wc, .slice da nd dc, .slice ta nt tc, .int .i64 tm, .slice ca nc cc, .slice oa no oc, .slice ha nh hc, .int .i64 st] 44) := BX.out.below hb1 BX.out.lt
 have HB1 : Hid (Below w.heap.size w w1) := HB0.out.trans (hb1.mono HB0.out.size)
 obtain ⟨z0, z1, z2, z3, z4, z5, z6, z7⟩ := eight_of BX1.out
 clear hr hb1
 rcases r with _ | _
 · have HNO : Hid (¬ G) := fun hg => by have := HR.out.2 (HG.out.1 hg).1; cases this
   go_wp2
   go_ret
   exact ⟨false, ⟨rfl, by simp [HNO.out]⟩, HB1.out⟩
 have HOK : Hid MO := HR.out.1 (by first | rfl | trivial)
 go_wp2
 go_loopw [3] (fun i wr => ∃ k : Nat, k ≤ nc ∧ i = .int .i64 (k : Int) ∧ (∀ j, j < k → TA j) ∧ Below w1.heap.size w1 wr) (fun i _ => nc - (intOf i).toNat)
 case atStart => exact ⟨0, Nat.zero_le _, rfl, (fun j h => by omega), Below.refl _ _⟩
 case round =>
   clear z0 z1 z2 z3 z4 z5 z6 z7
   obtain ⟨k, hk, rfl, hall, hb⟩ := hrel
   have HALL : Hid (∀ j, j < k → TA j) := hall
   have HB : Hid (Below w1.heap.size w1 wr) := hb
   have HBW : Hid (Below w.heap.size w wr) := HB1.out.trans (hb.mono HB1.out.size)
   have BR : Hid (Box wr w.heap.size #[.slice wa nw wc, .slice da nd dc, .slice ta nt tc, .int .i64 tm, .slice ca nc cc, .slice oa no oc, .slice ha nh hc, .int .i64 st] 44) := BX1.out.below hb BX1.out.lt
   have L1 : w.heap.size < wr.heap.size := BR.out.lt
   clear hall hb
   by_cases hlt : k < nc
   case neg =>
     obtain rfl : nc = k := by omega
     have HYES : Hid G := HG.out.2 ⟨HOK.out, HALL.out⟩
     obtain ⟨z0, z1, z2, z3, z4, z5, z6, z7⟩ := eight_of BR.out
     go_wp2
     go_ret
     exact ⟨true, ⟨rfl, by simp [HYES.out]⟩, HBW.out⟩
   have hk0 : (0 : Int) ≤ (k : Int) := by omega
   have hk1 : (k : Int) < (nc : Int) := by omega
   rcases (H3.out.below HBW.out (Nat.le_refl _)).2 with h0 | ⟨p1, o1, rfl, g1⟩
   · omega
   obtain ⟨ra, rn, rc, e0, e1, e2, e3, e4, e5, e6, e7, e8⟩ := g1 k hlt
   have HTK := HTA.out k
   obtain ⟨C, hC⟩ : ∃ C, f k = C := ⟨_, rfl⟩
   rw [hC] at e0 e1 e2 e3 e4 e5 e6 e7 HTK
   obtain ⟨x0, x1, x2, x3, x4, x5, x6, x7⟩ := C
   dsimp only at e0 e1 e2 e3 e4 e5 e6 e7 HTK
   have HTK : Hid (TA k ↔ ((0 ≤ x6 → inB x5 x4 x6 = true) ∧ AheadAll f x0 x4 k)) := HTK
   obtain ⟨X, hX⟩ : ∃ X, wr.alloc (.cells #[.int .i64 x0, .int .i64 x1, .int .i64 x2, .int .i64 x3, .int .i64 x4, .int .i64 x5, .int .i64 x6, .int .i64 x7, .slice ra rn rc] 63) = X := ⟨_, rfl⟩
   have hbx : Below wr.heap.size wr X := by rw [← hX]; exact (Below.refl _ wr).alloc (Nat.le_refl _) _
   have BXX : Hid (Box X wr.heap.size #[.int .i64 x0, .int .i64 x1, .int .i64 x2, .int .i64 x3, .int .i64 x4, .int .i64 x5, .int .i64 x6, .int .i64 x7, .slice ra rn rc] 63) := by rw [← hX]; exact box_of wr _ _
   have BMX : Hid (Box X w.heap.size #[.slice wa nw wc, .slice da nd dc, .slice ta nt tc, .int .i64 tm, .slice (some ⟨p1, o1, none⟩) nc cc, .slice oa no oc, .slice ha nh hc, .int .i64 st] 44) := BR.out.below hbx L1
   have HBX : Hid (Below w1.heap.size w1 X) := HB.out.trans (hbx.mono HB.out.size)
   have HBWX : Hid (Below w.heap.size w X) := HBW.out.trans (hbx.mono HBW.out.size)
   have HX : Hid (wr.alloc (.cells #[.int .i64 x0, .int .i64 x1, .int .i64 x2, .int .i64 x3, .int .i64 x4, .int .i64 x5, .int .i64 x6, .int .i64 x7, .slice ra rn rc] 63) = X) := hX
   have L2 : wr.heap.size < X.heap.size := BXX.out.lt
   have L3 : w.heap.size < X.heap.size := BMX.out.lt
   obtain ⟨q, hq⟩ : ∃ q, wr.heap.size = q := ⟨_, rfl⟩
   have HQ : Hid (wr.heap.size = q) := hq
   obtain ⟨z0, z1, z2, z3, z4, z5, z6, z7⟩ := eight_of BR.out
   clear g1 hC hX hbx
   go_upto_region 7 with (fail)
   rw [HX.out]
   rw [HQ.out] at BXX L2
   (try rw [HQ.out])
   clear z0 z1 z2 z3 z4 z5 z6 z7 e0 e1 e2 e3 e4 e5 e6 e7 e8 hq HX HQ L1
   obtain ⟨u0, u1, u2, u3, u4, u5, u6, u7, u8⟩ := nine_of BXX.out
   by_cases hx6 : 0 ≤ x6
   · have hx6' : decide (0 ≤ x6) = true := decide_eq_true hx6
     go_wp2_with fail
     refine (l1In_g x5 x4 x6 _).mono ?_
     rintro e w3 ⟨rfl, hw3⟩
     obtain rfl : X = w3 := hw3.symm
     obtain ⟨R, hR⟩ : ∃ R, inB x5 x4 x6 = R := ⟨_, rfl⟩
     have HR2 : Hid (inB x5 x4 x6 = R) := hR
     rw [hR]
     clear hR
     rcases R with _ | _
     · have HNO : Hid (¬ G) := fun hg => by
         have h1 := (HTK.out.1 ((HG.out.1 hg).2 k hlt)).1 hx6
         rw [HR2.out] at h1
         cases h1
       clear hx6
       go_wp2
       go_ret
       exact ⟨false, ⟨rfl, by simp [HNO.out]⟩, HBWX.out⟩
     clear hx6 hx6'
     go_wp2
     clear u0 u1 u2 u3 u4 u5 u6 u7 u8
     go_loopw [5] (fun i wr => ∃ j : Nat, j ≤ k ∧ i = .int .i64 (j : Int) ∧ AheadAll f x0 x4 j ∧ Below X.heap.size X wr) (fun i _ => k - (intOf i).toNat)
     case atStart => exact ⟨0, Nat.zero_le _, rfl, (fun l h => by omega), Below.refl _ _⟩
     case round =>
       obtain ⟨j, hj, rfl, hah, hb⟩ := hrel
       have HAH : Hid (AheadAll f x0 x4 j) := hah
       have HBJ : Hid (Below X.heap.size X wr) := hb
       have HB5 : Hid (Below w1.heap.size w1 wr) := HBX.out.trans (hb.mono HBX.out.size)
       have HB6 : Hid (Below w.heap.size w wr) := HBWX.out.trans (hb.mono HBWX.out.size)
       have BM5 : Hid (Box wr w.heap.size #[.slice wa nw wc, .slice da nd dc, .slice ta nt tc, .int .i64 tm, .slice (some ⟨p1, o1, none⟩) nc cc, .slice oa no oc, .slice ha nh hc, .int .i64 st] 44) := BMX.out.below hb L3
       have BX5 : Hid (Box wr q #[.int .i64 x0, .int .i64 x1, .int .i64 x2, .int .i64 x3, .int .i64 x4, .int .i64 x5, .int .i64 x6, .int .i64 x7, .slice ra rn rc] 63) := BXX.out.below hb L2
       have L5 : w.heap.size < wr.heap.size := BM5.out.lt
       have L6 : q < wr.heap.size := BX5.out.lt
       clear hah hb
       by_cases hlj : j < k
       case neg =>
         obtain rfl : k = j := by omega
         have HT : Hid (TA k) := HTK.out.2 ⟨(fun _ => HR2.out), HAH.out⟩
         go_wp2
         exact ⟨⟨k + 1, by omega, by go_num, all_next HALL.out HT.out, HB5.out⟩, by simp [intOf]; omega⟩
       have hj0 : (0 : Int) ≤ (j : Int) := by omega
       have hj1 : (j : Int) < (k : Int) := by omega
       have hj2 : (j : Int) < (nc : Int) := by omega
       rcases (H3.out.below HB6.out (Nat.le_refl _)).2 with h0 | ⟨p2, o2, hpe, g2⟩
       · omega
       cases hpe
       obtain ⟨sa, sn, sc, d0, d1, d2, d3, d4, d5, d6, d7, d8⟩ := g2 j (by omega)
       have HNX : Hid (((f j).t = x0 → 0 ≤ (f j).en ∧ (f j).en < x4) → AheadAll f x0 x4 (j + 1)) := fun h1 => HAH.out.next h1
       have HNA : Hid (AheadAll f x0 x4 k → (f j).t = x0 → 0 ≤ (f j).en ∧ (f j).en < x4) := fun h => h j hlj
       obtain ⟨C, hC⟩ : ∃ C, f j = C := ⟨_, rfl⟩
       rw [hC] at d0 d1 d2 d3 d4 d5 d6 d7 HNX HNA
       obtain ⟨y0, y1, y2, y3, y4, y5, y6, y7⟩ := C
       dsimp only at d0 d1 d2 d3 d4 d5 d6 d7 HNX HNA
       obtain ⟨Y, hY⟩ : ∃ Y, wr.alloc (.cells #[.int .i64 y0, .int .i64 y1, .int .i64 y2, .int .i64 y3, .int .i64 y4, .int .i64 y5, .int .i64 y6, .int .i64 y7, .slice sa sn sc] 63) = Y := ⟨_, rfl⟩
       have hby : Below wr.heap.size wr Y := by rw [← hY]; exact (Below.refl _ wr).alloc (Nat.le_refl _) _
       have BYY : Hid (Box Y wr.heap.size #[.int .i64 y0, .int .i64 y1, .int .i64 y2, .int .i64 y3, .int .i64 y4, .int .i64 y5, .int .i64 y6, .int .i64 y7, .slice sa sn sc] 63) := by rw [← hY]; exact box_of wr _ _
       have BXY : Hid (Box Y q #[.int .i64 x0, .int .i64 x1, .int .i64 x2, .int .i64 x3, .int .i64 x4, .int .i64 x5, .int .i64 x6, .int .i64 x7, .slice ra rn rc] 63) := BX5.out.below hby L6
       have HBJY : Hid (Below X.heap.size X Y) := HBJ.out.trans (hby.mono HBJ.out.size)
       have HBY : Hid (Below w.heap.size w Y) := HB6.out.trans (hby.mono HB6.out.size)
       have HY : Hid (wr.alloc (.cells #[.int .i64 y0, .int .i64 y1, .int .i64 y2, .int .i64 y3, .int .i64 y4, .int .i64 y5, .int .i64 y6, .int .i64 y7, .slice sa sn sc] 63) = Y) := hY
       obtain ⟨q2, hq2⟩ : ∃ q2, wr.heap.size = q2 := ⟨_, rfl⟩
       have HQ2 : Hid (wr.heap.size = q2) := hq2
       obtain ⟨z0, z1, z2, z3, z4, z5, z6, z7⟩ := eight_of BM5.out
       clear g2 hC hY hby
       go_upto_region 13 with (fail)
       rw [HY.out]
       rw [HQ2.out] at BYY
       (try rw [HQ2.out])
       clear z0 z1 z2 z3 z4 z5 z6 z7 d0 d1 d2 d3 d4 d5 d6 d7 d8 hq2 HY HQ2 L5 L6
       obtain ⟨u0, u1, u2, u3, u4, u5, u6, u7, u8⟩ := nine_of BXY.out
       obtain ⟨t0, t1, t2, t3, t4, t5, t6, t7, t8⟩ := nine_of BYY.out
       by_cases hT : y0 = x0
       case neg =>
         have hT' : (y0 == x0) = false := by simp [hT]
         have HA : Hid (AheadAll f x0 x4 (j + 1)) := HNX.out (fun h => absurd h hT)
         clear hT
         go_wp2
         exact ⟨⟨j + 1, by omega, by go_num, HA.out, HBJY.out⟩, by simp [intOf]; omega⟩
       have hT' : (y0 == x0) = true := by simp [hT]
       by_cases h6 : y6 < 0
       · have h6' : decide (y6 < 0) = true := decide_eq_true h6
         have HNO : Hid (¬ G) := fun hg => by
           have h1 := HNA.out (HTK.out.1 ((HG.out.1 hg).2 k hlt)).2 hT
           omega
         clear hT h6
         go_wp2
         go_ret
         exact ⟨false, ⟨rfl, by simp [HNO.out]⟩, HBY.out⟩
       have h6' : decide (y6 < 0) = false := decide_eq_false h6
       by_cases h4 : x4 ≤ y6
       · have h4' : decide (x4 ≤ y6) = true := decide_eq_true h4
         have HNO : Hid (¬ G) := fun hg => by
           have h1 := HNA.out (HTK.out.1 ((HG.out.1 hg).2 k hlt)).2 hT
           omega
         clear hT h6 h4
         go_wp2
         go_ret
         exact ⟨false, ⟨rfl, by simp [HNO.out]⟩, HBY.out⟩
       have h4' : decide (x4 ≤ y6) = false := decide_eq_false h4
       have HA : Hid (AheadAll f x0 x4 (j + 1)) := HNX.out (fun _ => ⟨by omega, by omega⟩)
       clear hT h6 h4
       go_wp2
       exact ⟨⟨j + 1, by omega, by go_num, HA.out, HBJY.out⟩, by simp [intOf]; omega⟩
   · have hx6' : decide (0 ≤ x6) = false := decide_eq_false hx6
     have HX6 : Hid (¬ 0 ≤ x6) := hx6
     clear hx6
     go_wp2
     clear hx6'
     clear u0 u1 u2 u3 u4 u5 u6 u7 u8
     go_loopw [5] (fun i wr => ∃ j : Nat, j ≤ k ∧ i = .int .i64 (j : Int) ∧ AheadAll f x0 x4 j ∧ Below X.heap.size X wr) (fun i _ => k - (intOf i).toNat)
     case atStart => exact ⟨0, Nat.zero_le _, rfl, (fun l h => by omega), Below.refl _ _⟩
     case round =>
       obtain ⟨j, hj, rfl, hah, hb⟩ := hrel
       have HAH : Hid (AheadAll f x0 x4 j) := hah
       have HBJ : Hid (Below X.heap.size X wr) := hb
       have HB5 : Hid (Below w1.heap.size w1 wr) := HBX.out.trans (hb.mono HBX.out.size)
       have HB6 : Hid (Below w.heap.size w wr) := HBWX.out.trans (hb.mono HBWX.out.size)
       have BM5 : Hid (Box wr w.heap.size #[.slice wa nw wc, .slice da nd dc, .slice ta nt tc, .int .i64 tm, .slice (some ⟨p1, o1, none⟩) nc cc, .slice oa no oc, .slice ha nh hc, .int .i64 st] 44) := BMX.out.below hb L3
       have BX5 : Hid (Box wr q #[.int .i64 x0, .int .i64 x1, .int .i64 x2, .int .i64 x3, .int .i64 x4, .int .i64 x5, .int .i64 x6, .int .i64 x7, .slice ra rn rc] 63) := BXX.out.below hb L2
       have L5 : w.heap.size < wr.heap.size := BM5.out.lt
       have L6 : q < wr.heap.size := BX5.out.lt
       clear hah hb
       by_cases hlj : j < k
       case neg =>
         obtain rfl : k = j := by omega
         have HT : Hid (TA k) := HTK.out.2 ⟨(fun h => by have := HX6.out; omega), HAH.out⟩
         go_wp2
         exact ⟨⟨k + 1, by omega, by go_num, all_next HALL.out HT.out, HB5.out⟩, by simp [intOf]; omega⟩
       have hj0 : (0 : Int) ≤ (j : Int) := by omega
       have hj1 : (j : Int) < (k : Int) := by omega
       have hj2 : (j : Int) < (nc : Int) := by omega
       rcases (H3.out.below HB6.out (Nat.le_refl _)).2 with h0 | ⟨p2, o2, hpe, g2⟩
       · omega
       cases hpe
       obtain ⟨sa, sn, sc, d0, d1, d2, d3, d4, d5, d6, d7, d8⟩ := g2 j (by omega)
       have HNX : Hid (((f j).t = x0 → 0 ≤ (f j).en ∧ (f j).en < x4) → AheadAll f x0 x4 (j + 1)) := fun h1 => HAH.out.next h1
       have HNA : Hid (AheadAll f x0 x4 k → (f j).t = x0 → 0 ≤ (f j).en ∧ (f j).en < x4) := fun h => h j hlj
       obtain ⟨C, hC⟩ : ∃ C, f j = C := ⟨_, rfl⟩
       rw [hC] at d0 d1 d2 d3 d4 d5 d6 d7 HNX HNA
       obtain ⟨y0, y1, y2, y3, y4, y5, y6, y7⟩ := C
       dsimp only at d0 d1 d2 d3 d4 d5 d6 d7 HNX HNA
       obtain ⟨Y, hY⟩ : ∃ Y, wr.alloc (.cells #[.int .i64 y0, .int .i64 y1, .int .i64 y2, .int .i64 y3, .int .i64 y4, .int .i64 y5, .int .i64 y6, .int .i64 y7, .slice sa sn sc] 63) = Y := ⟨_, rfl⟩
       have hby : Below wr.heap.size wr Y := by rw [← hY]; exact (Below.refl _ wr).alloc (Nat.le_refl _) _
       have BYY : Hid (Box Y wr.heap.size #[.int .i64 y0, .int .i64 y1, .int .i64 y2, .int .i64 y3, .int .i64 y4, .int .i64 y5, .int .i64 y6, .int .i64 y7, .slice sa sn sc] 63) := by rw [← hY]; exact box_of wr _ _
       have BXY : Hid (Box Y q #[.int .i64 x0, .int .i64 x1, .int .i64 x2, .int .i64 x3, .int .i64 x4, .int .i64 x5, .int .i64 x6, .int .i64 x7, .slice ra rn rc] 63) := BX5.out.below hby L6
       have HBJY : Hid (Below X.heap.size X Y) := HBJ.out.trans (hby.mono HBJ.out.size)
       have HBY : Hid (Below w.heap.size w Y) := HB6.out.trans (hby.mono HB6.out.size)
       have HY : Hid (wr.alloc (.cells #[.int .i64 y0, .int .i64 y1, .int .i64 y2, .int .i64 y3, .int .i64 y4, .int .i64 y5, .int .i64 y6, .int .i64 y7, .slice sa sn sc] 63) = Y) := hY
       obtain ⟨q2, hq2⟩ : ∃ q2, wr.heap.size = q2 := ⟨_, rfl⟩
       have HQ2 : Hid (wr.heap.size = q2) := hq2
       obtain ⟨z0, z1, z2, z3, z4, z5, z6, z7⟩ := eight_of BM5.out
       clear g2 hC hY hby
       go_upto_region 13 with (fail)
       rw [HY.out]
       rw [HQ2.out] at BYY
       (try rw [HQ2.out])
       clear z0 z1 z2 z3 z4 z5 z6 z7 d0 d1 d2 d3 d4 d5 d6 d7 d8 hq2 HY HQ2 L5 L6
       obtain ⟨u0, u1, u2, u3, u4, u5, u6, u7, u8⟩ := nine_of BXY.out
       obtain ⟨t0, t1, t2, t3, t4, t5, t6, t7, t8⟩ := nine_of BYY.out
       by_cases hT : y0 = x0
       case neg =>
         have hT' : (y0 == x0) = false := by simp [hT]
         have HA : Hid (AheadAll f x0 x4 (j + 1)) := HNX.out (fun h => absurd h hT)
         clear hT
         go_wp2
         exact ⟨⟨j + 1, by omega, by go_num, HA.out, HBJY.out⟩, by simp [intOf]; omega⟩
       have hT' : (y0 == x0) = true := by simp [hT]
       by_cases h6 : y6 < 0
       · have h6' : decide (y6 < 0) = true := decide_eq_true h6
         have HNO : Hid (¬ G) := fun hg => by
           have h1 := HNA.out (HTK.out.1 ((HG.out.1 hg).2 k hlt)).2 hT
           omega
         clear hT h6
         go_wp2
         go_ret
         exact ⟨false, ⟨rfl, by simp [HNO.out]⟩, HBY.out⟩
       have h6' : decide (y6 < 0) = false := decide_eq_false h6
       by_cases h4 : x4 ≤ y6
       · have h4' : decide (x4 ≤ y6) = true := decide_eq_true h4
         have HNO : Hid (¬ G) := fun hg => by
           have h1 := HNA.out (HTK.out.1 ((HG.out.1 hg).2 k hlt)).2 hT
           omega
         clear hT h6 h4
         go_wp2
         go_ret
         exact ⟨false, ⟨rfl, by simp [HNO.out]⟩, HBY.out⟩
       have h4' : decide (x4 ≤ y6) = false := decide_eq_false h4
       have HA : Hid (AheadAll f x0 x4 (j + 1)) := HNX.out (fun _ => ⟨by omega, by omega⟩)
       clear hT h6 h4
       go_wp2
       exact ⟨⟨j + 1, by omega, by go_num, HA.out, HBJY.out⟩, by simp [intOf]; omega⟩
end
end Go.Proofs.YtlkdjeneggfhgaaGreatDoor
