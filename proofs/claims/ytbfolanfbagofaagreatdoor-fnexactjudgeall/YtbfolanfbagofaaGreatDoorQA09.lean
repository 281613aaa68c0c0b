/- Texts joined: SpecCs, ImplCo, OpEq, ImplTk. -/
import Derived.Test.YtbfolanfbagofaaGreatDoorQA06
import Derived.Test.YtbfolanfbagofaaGreatDoorQA08
import Derived.Deep.RegionHeld3
import Derived.Test.YtbfolanfbagofaaGreatDoorQA07
import Derived.Test.YtbfolanfbagofaaGreatDoorQA01
import Derived.Laws.StructEq
set_option maxHeartbeats 16000000
set_option maxRecDepth 100000
namespace Go.Proofs.YtbfolanfbagofaaGreatDoor
section
open Go.ChangeShapes Go.WideShapes Go.ChangeAt Go.RowKit
theorem soN_succ (f : Nat → CaD) (k : Nat) : soN f (k + 1) = soN f k + if 0 ≤ (f k).ln then 1 else 0 := rfl
theorem specCalls_any (v0 v1 v6 v7 : Value) (ta : Option Addr) (nt tc : Nat) (hn : nt ≤ 2097152) (tm : Int) (ca : Option Addr) (nc cc : Nat) (f : Nat → CaD) (oa : Option Addr) (no oc : Nat) (os : List Int) (w : World) (h1 : CasAt w ca nc f) (h2 : IntAt w oa no os) :
   Calls Tryz.prog 65 #[.agg #[v0, v1, .slice ta nt tc, .int .i64 tm, .slice ca nc cc, .slice oa no oc, v6, v7]] w fun e w' => ∃ ok, (e = .returned (.bool ok) ∧ (ok = true ↔ CallsGood f nc os no nt tm)) ∧ Below w.heap.size w w' := by
 have hnc := h1.1
 have hno := h2.2.1
 have H1 : Hid (CasAt w ca nc f) := h1
 have H2 : Hid (IntAt w oa no os) := h2
 obtain ⟨G, hG⟩ : ∃ G : Prop, CallsGood f nc os no nt tm = G := ⟨_, rfl⟩
 have HG : Hid (G ↔ CallsGood f nc os no nt tm) := by show _ ↔ _; rw [hG]
 rw [hG]
 obtain ⟨W, hW⟩ : ∃ W, w.alloc (.cells #[v0, v1, .slice ta nt tc, .int .i64 tm, .slice ca nc cc, .slice oa no oc, v6, v7] 43) = W := ⟨_, rfl⟩
 have hb0 : Below w.heap.size w W := by rw [← hW]; exact (Below.refl _ w).alloc (Nat.le_refl _) _
 have BX : Hid (Box W w.heap.size #[v0, v1, .slice ta nt tc, .int .i64 tm, .slice ca nc cc, .slice oa no oc, v6, v7] 43) := by rw [← hW]; exact box_of w _ _
 have HB0 : Hid (Below w.heap.size w W) := hb0
 have HW : Hid (w.alloc (.cells #[v0, v1, .slice ta nt tc, .int .i64 tm, .slice ca nc cc, .slice oa no oc, v6, v7] 43) = W) := hW
 clear h1 h2 hb0 hW hG
 go_enter Tryz.func65, Tryz.ntmps65
 go_wp2
 rw [HW.out]
 go_loopw [3, 4] (fun q i wr => ∃ k : Nat, k ≤ nc ∧ q = .int .i64 ((soN f k : Nat) : Int) ∧ i = .int .i64 (k : Int) ∧ (∀ j, j < k → CaGood nt tm (f j) = true) ∧ Below W.heap.size W wr) (fun _ i _ => nc - (intOf i).toNat)
 case atStart => exact ⟨0, Nat.zero_le _, rfl, rfl, fun j h => by omega, Below.refl _ _⟩
 case round =>
   obtain ⟨k, hk, rfl, rfl, hall, hb⟩ := hrel
   have HALL : Hid (∀ j, j < k → CaGood nt tm (f j) = true) := hall
   have HB : Hid (Below W.heap.size W wr) := hb
   have HBW : Hid (Below w.heap.size w wr) := HB0.out.trans (hb.mono HB0.out.size)
   have BR : Hid (Box wr w.heap.size #[v0, v1, .slice ta nt tc, .int .i64 tm, .slice ca nc cc, .slice oa no oc, v6, v7] 43) := BX.out.below hb BX.out.lt
   have L1 : w.heap.size < wr.heap.size := BR.out.lt
   obtain ⟨z0, z1, z2, z3, z4, z5, z6, z7⟩ := eight_of BR.out
   have hso := soN_le f k
   clear hall hb
   by_cases hlt : k < nc
   · have hk0 : (0 : Int) ≤ (k : Int) := by omega
     have hk1 : (k : Int) < (nc : Int) := by omega
     rcases (H1.out.below HBW.out (Nat.le_refl _)).2 with h0 | ⟨p1, o1, rfl, g1⟩
     · omega
     obtain ⟨ra, rn, rc, e0, e1, e2, e3, e4, e5, e6, e7, e8⟩ := g1 k hlt
     obtain ⟨s, hs⟩ : ∃ s, soN f k = s := ⟨_, rfl⟩
     have HS : Hid (soN f k = s) := hs
     obtain ⟨C, hC⟩ : ∃ C, f k = C := ⟨_, rfl⟩
     have HC : Hid (f k = C) := hC
     rw [hs] at hso ⊢
     rw [hC] at e0 e1 e2 e3 e4 e5 e6 e7
     obtain ⟨x0, x1, x2, x3, x4, x5, x6, x7⟩ := C
     dsimp only at e0 e1 e2 e3 e4 e5 e6 e7
     have q1 : p1 < wr.heap.size := World.block_lt_of_cell? wr _ e0
     clear g1 hs hC
     go_wp2_with fail
     go_region_held3 (fun w' => w'.cell? ⟨w.heap.size, 0, none⟩ = some v0 ∧ w'.cell? ⟨w.heap.size, 1, none⟩ = some v1 ∧ w'.cell? ⟨w.heap.size, 2, none⟩ = some (.slice ta nt tc) ∧ w'.cell? ⟨w.heap.size, 3, none⟩ = some (.int .i64 tm) ∧ w'.cell? ⟨w.heap.size, 4, none⟩ = some (.slice (some ⟨p1, o1, none⟩) nc cc) ∧ w'.cell? ⟨w.heap.size, 5, none⟩ = some (.slice oa no oc) ∧ w'.cell? ⟨w.heap.size, 6, none⟩ = some v6 ∧ w'.cell? ⟨w.heap.size, 7, none⟩ = some v7 ∧ w'.cell? ⟨p1, o1 + k * 9, none⟩ = some (.int .i64 x0) ∧ w'.cell? ⟨p1, o1 + k * 9 + 1, none⟩ = some (.int .i64 x1) ∧ w'.cell? ⟨p1, o1 + k * 9 + 2, none⟩ = some (.int .i64 x2) ∧ w'.cell? ⟨p1, o1 + k * 9 + 3, none⟩ = some (.int .i64 x3) ∧ w'.cell? ⟨p1, o1 + k * 9 + 4, none⟩ = some (.int .i64 x4) ∧ w'.cell? ⟨p1, o1 + k * 9 + 5, none⟩ = some (.int .i64 x5) ∧ w'.cell? ⟨p1, o1 + k * 9 + 6, none⟩ = some (.int .i64 x6) ∧ w'.cell? ⟨p1, o1 + k * 9 + 7, none⟩ = some (.int .i64 x7) ∧ w'.cell? ⟨p1, o1 + k * 9 + 8, none⟩ = some (.slice ra rn rc))
       (first | (with_reducible exact K2.out) | go_keep)
       (first
       | (go_at_call 117
          refine (specCall_any v0 v1 (.slice (some ⟨p1, o1, none⟩) nc cc) (.slice oa no oc) v6 v7 ta nt tc hn tm ⟨x0, x1, x2, x3, x4, x5, x6, x7⟩ (.slice ra rn rc) _).mono ?_
          rintro e w2 ⟨rfl, hb2⟩
          have hb2' : Below wr.heap.size wr w2 := (Below.refl _ wr).drew.trans hb2
          have K2 : Hid (w2.cell? ⟨w.heap.size, 0, none⟩ = some v0 ∧ w2.cell? ⟨w.heap.size, 1, none⟩ = some v1 ∧ w2.cell? ⟨w.heap.size, 2, none⟩ = some (.slice ta nt tc) ∧ w2.cell? ⟨w.heap.size, 3, none⟩ = some (.int .i64 tm) ∧ w2.cell? ⟨w.heap.size, 4, none⟩ = some (.slice (some ⟨p1, o1, none⟩) nc cc) ∧ w2.cell? ⟨w.heap.size, 5, none⟩ = some (.slice oa no oc) ∧ w2.cell? ⟨w.heap.size, 6, none⟩ = some v6 ∧ w2.cell? ⟨w.heap.size, 7, none⟩ = some v7 ∧ w2.cell? ⟨p1, o1 + k * 9, none⟩ = some (.int .i64 x0) ∧ w2.cell? ⟨p1, o1 + k * 9 + 1, none⟩ = some (.int .i64 x1) ∧ w2.cell? ⟨p1, o1 + k * 9 + 2, none⟩ = some (.int .i64 x2) ∧ w2.cell? ⟨p1, o1 + k * 9 + 3, none⟩ = some (.int .i64 x3) ∧ w2.cell? ⟨p1, o1 + k * 9 + 4, none⟩ = some (.int .i64 x4) ∧ w2.cell? ⟨p1, o1 + k * 9 + 5, none⟩ = some (.int .i64 x5) ∧ w2.cell? ⟨p1, o1 + k * 9 + 6, none⟩ = some (.int .i64 x6) ∧ w2.cell? ⟨p1, o1 + k * 9 + 7, none⟩ = some (.int .i64 x7) ∧ w2.cell? ⟨p1, o1 + k * 9 + 8, none⟩ = some (.slice ra rn rc)) := ⟨(hb2'.cell (show w.heap.size < _ from L1)).trans z0, (hb2'.cell (show w.heap.size < _ from L1)).trans z1, (hb2'.cell (show w.heap.size < _ from L1)).trans z2, (hb2'.cell (show w.heap.size < _ from L1)).trans z3, (hb2'.cell (show w.heap.size < _ from L1)).trans z4, (hb2'.cell (show w.heap.size < _ from L1)).trans z5, (hb2'.cell (show w.heap.size < _ from L1)).trans z6, (hb2'.cell (show w.heap.size < _ from L1)).trans z7, (hb2'.cell (show p1 < _ from q1)).trans e0, (hb2'.cell (show p1 < _ from q1)).trans e1, (hb2'.cell (show p1 < _ from q1)).trans e2, (hb2'.cell (show p1 < _ from q1)).trans e3, (hb2'.cell (show p1 < _ from q1)).trans e4, (hb2'.cell (show p1 < _ from q1)).trans e5, (hb2'.cell (show p1 < _ from q1)).trans e6, (hb2'.cell (show p1 < _ from q1)).trans e7, (hb2'.cell (show p1 < _ from q1)).trans e8⟩
          have HB2 : Hid (Below W.heap.size W w2) := HB.out.trans (hb2'.mono HB.out.size)
          have HBW2 : Hid (Below w.heap.size w w2) := HBW.out.trans (hb2'.mono HBW.out.size)
          obtain ⟨R, hR⟩ : ∃ R, CaGood nt tm ⟨x0, x1, x2, x3, x4, x5, x6, x7⟩ = R := ⟨_, rfl⟩
          have HR : Hid (CaGood nt tm ⟨x0, x1, x2, x3, x4, x5, x6, x7⟩ = R) := hR
          rw [hR]
          clear hb2 hb2' hR))
     clear z0 z1 z2 z3 z4 z5 z6 z7 e0 e1 e2 e3 e4 e5 e6 e7 e8
     rcases R with _ | _
     · have HNO : Hid (¬ G) := fun hg => by
         have h3 := (HG.out.1 hg).each k hlt
         rw [HC.out, HR.out] at h3
         cases h3
       clear K2
       go_wp2
       go_ret
       exact ⟨false, ⟨rfl, by simp [HNO.out]⟩, HBW2.out⟩
     · have HOK : Hid (CaGood nt tm (f k) = true) := by show _ = _; rw [HC.out]; exact HR.out
       have HSN : Hid (soN f (k + 1) = s + if 0 ≤ x5 then 1 else 0) := by show _ = _; rw [soN_succ, HC.out, HS.out]
       obtain ⟨z0, z1, z2, z3, z4, z5, z6, z7, e0, e1, e2, e3, e4, e5, e6, e7, e8⟩ := K2.out
       clear K2 HR
       by_cases hx5 : 0 ≤ x5
       · have hx5' : decide (0 ≤ x5) = true := decide_eq_true hx5
         have HSN : Hid (soN f (k + 1) = s + 1) := by show _ = _; rw [HSN.out, if_pos hx5]
         go_wp2_with fail
         refine (l1Bit9 _ _).mono ?_
         rintro e w3 ⟨rfl, rfl⟩
         rw [if_pos (by simp)]
         go_wp2
         exact ⟨⟨k + 1, by omega, by first | (rw [HSN.out]; done) | (rw [HSN.out]; go_num), by go_num, all_next HALL.out HOK.out, HB2.out⟩, by simp [intOf]; omega⟩
       · have hx5' : decide (0 ≤ x5) = false := decide_eq_false hx5
         have HSN : Hid (soN f (k + 1) = s) := by show _ = _; rw [HSN.out, if_neg hx5]; rfl
         go_wp2_with fail
         refine (l1Bit9 _ _).mono ?_
         rintro e w3 ⟨rfl, rfl⟩
         rw [if_neg (by simp)]
         go_wp2
         exact ⟨⟨k + 1, by omega, by first | (rw [HSN.out]; done) | (rw [HSN.out]; go_num), by go_num, all_next HALL.out HOK.out, HB2.out⟩, by simp [intOf]; omega⟩
   · obtain rfl : nc = k := by omega
     have HEA := HALL
     obtain ⟨s, hs⟩ : ∃ s, soN f nc = s := ⟨_, rfl⟩
     have HS : Hid (soN f nc = s) := hs
     rw [hs] at hso ⊢
     clear HALL hs
     go_wp2
     go_loopw [5] (fun i wr => ∃ k : Nat, k ≤ no ∧ i = .int .i64 (k : Int) ∧ (∀ j, j < k → OrdAt f nc os j) ∧ Below W.heap.size W wr) (fun i _ => no - (intOf i).toNat)
     case atStart => exact ⟨0, Nat.zero_le _, rfl, fun j h => by omega, HB.out⟩
     case round =>
       clear HB HBW BR L1 z0 z1 z2 z3 z4 z5 z6 z7
       obtain ⟨i, hi, rfl, hall, hb⟩ := hrel
       have HALL : Hid (∀ j, j < i → OrdAt f nc os j) := hall
       have HB : Hid (Below W.heap.size W wr) := hb
       have HBW : Hid (Below w.heap.size w wr) := HB0.out.trans (hb.mono HB0.out.size)
       have BR : Hid (Box wr w.heap.size #[v0, v1, .slice ta nt tc, .int .i64 tm, .slice ca nc cc, .slice oa no oc, v6, v7] 43) := BX.out.below hb BX.out.lt
       have L1 : w.heap.size < wr.heap.size := BR.out.lt
       obtain ⟨z0, z1, z2, z3, z4, z5, z6, z7⟩ := eight_of BR.out
       clear hall hb
       by_cases hlt : i < no
       · have hi0 : (0 : Int) ≤ (i : Int) := by omega
         have hi1 : (i : Int) < (no : Int) := by omega
         rcases (H2.out.below HBW.out (Nat.le_refl _)).2.2 with h0 | ⟨p2, o2, rfl, g2⟩
         · omega
         have e0 := g2 i hlt
         have HG2 : Hid (∀ j, j < no → wr.cell? ⟨p2, o2 + j, none⟩ = some (I (os.getD j 0))) := g2
         obtain ⟨y, hy⟩ : ∃ y, os.getD i 0 = y := ⟨_, rfl⟩
         have HY : Hid (os.getD i 0 = y) := hy
         rw [hy] at e0
         clear g2 hy
         rcases hI : inB y 0 ((nc : Int) - 1) with _ | _
         · have HI : Hid (inB y 0 ((nc : Int) - 1) = false) := hI
           have HNO : Hid (¬ G) := fun hg => by
             have h3 := ((HG.out.1 hg).ord i hlt).1
             rw [HY.out, hI] at h3
             cases h3
           clear hI
           go_wp2
           go_quiet (first | (go_at_call 39; with_reducible exact Calls.quiet_of_same (l1In_not HI.out _)) | fail)
           go_wp2
           go_ret
           exact ⟨false, ⟨rfl, by simp [HNO.out]⟩, below_drewN6 HBW.out nq⟩
         have HI : Hid (inB y 0 ((nc : Int) - 1) = true) := hI
         obtain ⟨yn, rfl⟩ : ∃ m : Nat, y = (m : Int) := ⟨y.toNat, by have := inB_val hI; omega⟩
         have hyn : yn < nc := by have := inB_val hI; omega
         have hy0 : (0 : Int) ≤ (yn : Int) := by omega
         have hy1 : (yn : Int) < (nc : Int) := by omega
         clear hI
         rcases (H1.out.below HBW.out (Nat.le_refl _)).2 with h0 | ⟨p1, o1, rfl, g1⟩
         · omega
         obtain ⟨ra, rn, rc, _, _, _, _, _, e5, _, _, _⟩ := g1 yn hyn
         have HG1 : Hid (∀ i, i < nc → ∃ ra rn rc, CaC wr p1 (o1 + i * 9) (f i) (.slice ra rn rc)) := g1
         obtain ⟨lx, hlx⟩ : ∃ lx, (f yn).ln = lx := ⟨_, rfl⟩
         have HLX : Hid (linAt f os i = lx) := by show _ = _; unfold linAt; rw [HY.out]; simpa using hlx
         rw [hlx] at e5
         clear g1 hlx
         by_cases hneg : lx < 0
         · have hn' : decide (lx < 0) = true := decide_eq_true hneg
           have HNO : Hid (¬ G) := fun hg => by
             have h3 := ((HG.out.1 hg).ord i hlt).2.1
             rw [HLX.out] at h3
             omega
           clear hneg
           go_wp2
           go_quiet (first | (go_at_call 39; with_reducible exact Calls.quiet_of_same (l1In_yes HI.out _)) | fail)
           go_wp2
           go_ret
           exact ⟨false, ⟨rfl, by simp [HNO.out]⟩, below_drewN6 HBW.out nq⟩
         have hn' : decide (lx < 0) = false := decide_eq_false hneg
         have HNEG : Hid (0 ≤ lx) := by show _ ≤ _; omega
         clear hneg
         have inner : ∀ (HPREV : Hid (0 < i → linAt f os (i - 1) ≤ linAt f os i)), True := fun _ => trivial
         rcases Nat.eq_zero_or_pos i with hiz | hpos
         · have hkz : decide ((0 : Int) < (i : Int)) = false := decide_eq_false (by omega)
           have hkn : decide (0 < i) = false := decide_eq_false (by omega)
           have HPREV : Hid (0 < i → linAt f os (i - 1) ≤ linAt f os i) := fun h => by omega
           clear inner hiz
           go_wp2
           go_quiet (first | (go_at_call 39; with_reducible exact Calls.quiet_of_same (l1In_yes HI.out _)) | fail)
           go_wp2
           have HBQ : Hid (Below W.heap.size W (wr.drewN nq)) := below_drewN6 HB.out nq
           go_loopw [7] (fun ix wr' => ∃ m : Nat, m ≤ i ∧ ix = .int .i64 (m : Int) ∧ (∀ j, j < m → os.getD j 0 ≠ (yn : Int)) ∧ wr' = wr.drewN nq) (fun ix _ => i - (intOf ix).toNat)
           case atStart => exact ⟨0, Nat.zero_le _, rfl, fun j h => by omega, rfl⟩
           case round =>
             obtain ⟨m, hm, rfl, hno2, rfl⟩ := hrel
             have HNE : Hid (∀ j, j < m → os.getD j 0 ≠ (yn : Int)) := hno2
             clear hno2
             by_cases hlm : m < i
             · have hm0 : (0 : Int) ≤ (m : Int) := by omega
               have hm1 : (m : Int) < (no : Int) := by omega
               have hm2 : (m : Int) < ((i : Nat) : Int) := by omega
               have d0 : (wr.drewN nq).cell? ⟨p2, o2 + m, none⟩ = some (I (os.getD m 0)) := HG2.out m (by omega)
               obtain ⟨u2, hu2⟩ : ∃ u, os.getD m 0 = u := ⟨_, rfl⟩
               rw [hu2] at d0
               by_cases huy : u2 = (yn : Int)
               · have hu' : (u2 == (yn : Int)) = true := by simp [huy]
                 have HNO : Hid (¬ G) := fun hg => by
                   have h3 := ((HG.out.1 hg).ord i hlt).2.2.2 m hlm
                   rw [hu2, HY.out] at h3
                   exact h3 huy
                 clear huy hu2
                 go_wp2
                 go_ret
                 exact ⟨false, ⟨rfl, by simp [HNO.out]⟩, below_drewN6 HBW.out nq⟩
               · have hu' : (u2 == (yn : Int)) = false := by simpa using huy
                 have HN2 : Hid (∀ j, j < m + 1 → os.getD j 0 ≠ (yn : Int)) := all_next HNE.out (by rw [hu2]; exact huy)
                 clear huy hu2
                 go_wp2
                 exact ⟨⟨m + 1, by omega, by go_num, HN2.out, by first | trivial | rfl⟩, by simp [intOf]; omega⟩
             · obtain rfl : i = m := by omega
               have HOI : Hid (OrdAt f nc os i) := ⟨by rw [HY.out]; exact HI.out, by rw [HLX.out]; exact HNEG.out, HPREV.out, fun j hj => by rw [HY.out]; exact HNE.out j hj⟩
               go_wp2
               exact ⟨⟨i + 1, by omega, by go_num, all_next HALL.out HOI.out, HBQ.out⟩, by simp [intOf]; omega⟩
         · obtain ⟨j, rfl⟩ : ∃ j, i = j + 1 := ⟨i - 1, by omega⟩
           have hkz : decide ((0 : Int) < ((j + 1 : Nat) : Int)) = true := decide_eq_true (by omega)
           have hj0 : (0 : Int) ≤ (j : Int) := by omega
           have hj1 : (j : Int) < (no : Int) := by omega
           have hjj : (((j + 1 : Nat) : Int)) - 1 = (j : Int) := by omega
           have hord := HALL.out j (by omega)
           have c0 := HG2.out j (by omega)
           obtain ⟨u, hu⟩ : ∃ u, os.getD j 0 = u := ⟨_, rfl⟩
           have hin := hord.1
           rw [hu] at c0 hin
           obtain ⟨un, rfl⟩ : ∃ m : Nat, u = (m : Int) := ⟨u.toNat, by have := inB_val hin; omega⟩
           have hun : un < nc := by have := inB_val hin; omega
           have hu0 : (0 : Int) ≤ (un : Int) := by omega
           have hu1 : (un : Int) < (nc : Int) := by omega
           obtain ⟨ra', rn', rc', _, _, _, _, _, c5, _, _, _⟩ := HG1.out un hun
           obtain ⟨lu, hlu⟩ : ∃ lu, (f un).ln = lu := ⟨_, rfl⟩
           have HLU : Hid (linAt f os j = lu) := by show _ = _; unfold linAt; rw [hu]; simpa using hlu
           rw [hlu] at c5
           clear hord hin hu hlu inner hpos
           by_cases hgt : lx < lu
           · have hg' : decide (lx < lu) = true := decide_eq_true hgt
             have HNO : Hid (¬ G) := fun hg => by
               have h3 := ((HG.out.1 hg).ord (j + 1) hlt).2.2.1 (by omega)
               rw [Nat.add_sub_cancel, HLU.out, HLX.out] at h3
               omega
             clear hgt
             go_wp2
             go_quiet (first | (go_at_call 39; with_reducible exact Calls.quiet_of_same (l1In_yes HI.out _)) | fail)
             go_wp2
             go_ret
             exact ⟨false, ⟨rfl, by simp [HNO.out]⟩, below_drewN6 HBW.out nq⟩
           · have hg' : decide (lx < lu) = false := decide_eq_false hgt
             have HPREV : Hid (0 < j + 1 → linAt f os (j + 1 - 1) ≤ linAt f os (j + 1)) := fun _ => by rw [Nat.add_sub_cancel, HLU.out, HLX.out]; omega
             clear hgt
             go_wp2
             go_quiet (first | (go_at_call 39; with_reducible exact Calls.quiet_of_same (l1In_yes HI.out _)) | fail)
             go_wp2
             have HBQ : Hid (Below W.heap.size W (wr.drewN nq)) := below_drewN6 HB.out nq
             go_loopw [7] (fun i wr' => ∃ m : Nat, m ≤ j + 1 ∧ i = .int .i64 (m : Int) ∧ (∀ j, j < m → os.getD j 0 ≠ (yn : Int)) ∧ wr' = wr.drewN nq) (fun i _ => j + 1 - (intOf i).toNat)
             case atStart => exact ⟨0, Nat.zero_le _, rfl, fun j h => by omega, rfl⟩
             case round =>
               obtain ⟨m, hm, rfl, hno2, rfl⟩ := hrel
               have HNE : Hid (∀ j, j < m → os.getD j 0 ≠ (yn : Int)) := hno2
               clear hno2
               by_cases hlm : m < j + 1
               · have hm0 : (0 : Int) ≤ (m : Int) := by omega
                 have hm1 : (m : Int) < (no : Int) := by omega
                 have hm2 : (m : Int) < ((j + 1 : Nat) : Int) := by omega
                 have d0 : (wr.drewN nq).cell? ⟨p2, o2 + m, none⟩ = some (I (os.getD m 0)) := HG2.out m (by omega)
                 obtain ⟨u2, hu2⟩ : ∃ u, os.getD m 0 = u := ⟨_, rfl⟩
                 rw [hu2] at d0
                 by_cases huy : u2 = (yn : Int)
                 · have hu' : (u2 == (yn : Int)) = true := by simp [huy]
                   have HNO : Hid (¬ G) := fun hg => by
                     have h3 := ((HG.out.1 hg).ord (j + 1) hlt).2.2.2 m hlm
                     rw [hu2, HY.out] at h3
                     exact h3 huy
                   clear huy hu2
                   go_wp2
                   go_ret
                   exact ⟨false, ⟨rfl, by simp [HNO.out]⟩, below_drewN6 HBW.out nq⟩
                 · have hu' : (u2 == (yn : Int)) = false := by simpa using huy
                   have HN2 : Hid (∀ j, j < m + 1 → os.getD j 0 ≠ (yn : Int)) := all_next HNE.out (by rw [hu2]; exact huy)
                   clear huy hu2
                   go_wp2
                   exact ⟨⟨m + 1, by omega, by go_num, HN2.out, by first | trivial | rfl⟩, by simp [intOf]; omega⟩
               · obtain rfl : j + 1 = m := by omega
                 have HOI : Hid (OrdAt f nc os (j + 1)) := ⟨by rw [HY.out]; exact HI.out, by rw [HLX.out]; exact HNEG.out, HPREV.out, fun j hj => by rw [HY.out]; exact HNE.out j hj⟩
                 go_wp2
                 exact ⟨⟨j + 1 + 1, by omega, by go_num, all_next HALL.out HOI.out, HBQ.out⟩, by simp [intOf]; omega⟩
       · obtain rfl : no = i := by omega
         clear HB L1
         by_cases h40 : (nc : Int) ≤ 40
         case neg =>
           have h4' : decide ((nc : Int) ≤ 40) = false := decide_eq_false h40
           have HNO : Hid (¬ G) := fun hg => by have := (HG.out.1 hg).few; omega
           go_wp2
           go_ret
           exact ⟨.inl ⟨rfl, HNO.out⟩, HBW.out⟩
         by_cases hsn : s = no
         · have hs' : ((s : Int) == (no : Int)) = true := by simp [hsn]
           have HYES : Hid G := HG.out.2 ⟨HEA.out, HALL.out, by omega, by rw [HS.out]; exact hsn⟩
           clear hsn
           go_wp2
           go_ret
           exact ⟨true, ⟨by simp, by simp [HYES.out]⟩, HBW.out⟩
         · have hs' : ((s : Int) == (no : Int)) = false := by simp; omega
           have HNO : Hid (¬ G) := fun hg => hsn (by rw [← HS.out]; exact (HG.out.1 hg).all)
           clear hsn
           go_wp2
           go_ret
           exact ⟨false, ⟨by simp, by simp [HNO.out]⟩, HBW.out⟩
instance : Inhabited CaD := ⟨⟨0, 0, 0, 0, 0, 0, 0, 0⟩⟩
abbrev CaP : Type := CaD × (Option Addr × Nat × Nat)
def caCells (p : CaP) : List Value := [I p.1.t, I p.1.kd, I p.1.k, I p.1.v, I p.1.st, I p.1.ln, I p.1.en, I p.1.cd, .slice p.2.1 p.2.2.1 p.2.2.2]
theorem ca_at : ∀ {LL : List CaP} {k r : Nat} {p : CaP}, LL[k]? = some p → r < 9 → (LL.flatMap caCells)[k * 9 + r]? = (caCells p)[r]?
 | [], k, r, p, h, _ => by simp at h
 | x :: LL, 0, r, p, h, hr => by
   simp only [List.getElem?_cons_zero, Option.some.injEq] at h
   subst h
   rw [List.flatMap_cons, Nat.zero_mul, Nat.zero_add, List.getElem?_append_left (by simpa [caCells] using hr)]
 | x :: LL, k + 1, r, p, h, hr => by
   have h' : LL[k]? = some p := by simpa using h
   rw [List.flatMap_cons, List.getElem?_append_right (by simp [caCells]; omega), ← ca_at h' hr]
   congr 1
   simp [caCells]
   omega
theorem own_cas {w : World} {base : Nat} {v : Value} {LL : List CaP} {L : List CaD} (h : w.ownsRow base 84 9 v LL.length (LL.flatMap caCells)) (hL : LL.map Prod.fst = L) (hn : LL.length ≤ 2097152) : ∃ a c, v = .slice a L.length c ∧ L.length ≤ c ∧ CasAt w a L.length (fun j => L.getD j default) := by
 have hl : LL.length = L.length := by rw [← hL]; simp
 obtain ⟨a, c, rfl, hc⟩ := owns_slice h
 refine ⟨a, c, by rw [hl], by omega, by omega, ?_⟩
 rcases owns_forms h with ⟨-, h3⟩ | ⟨g, cap, hv⟩
 · exact .inl (by omega)
 · cases hv
   refine .inr ⟨g, 0, rfl, fun i hi => ?_⟩
   have hi' : i < LL.length := by omega
   have hp : LL[i]? = some LL[i] := List.getElem?_eq_getElem hi'
   have hf : L.getD i default = LL[i].1 := by subst hL; simp [List.getD, hi']
   have cell : ∀ r, r < 9 → w.cell? ⟨g, 0 + i * 9 + r, none⟩ = (caCells LL[i])[r]? := fun r hr => by
     rw [Nat.zero_add, h.cellAt (i * 9 + r) (by omega), ca_at hp hr]
   show ∃ ra rn rc, CaC w g (0 + i * 9) (L.getD i default) (.slice ra rn rc)
   rw [hf]
   exact ⟨_, _, _, cell 0 (by omega), cell 1 (by omega), cell 2 (by omega), cell 3 (by omega), cell 4 (by omega), cell 5 (by omega), cell 6 (by omega), cell 7 (by omega), cell 8 (by omega)⟩
theorem callsL_len (f : Nat → CaD) (t : Int) : ∀ n, (callsL f t n).length ≤ n
 | 0 => Nat.le_refl _
 | n + 1 => by
   have := callsL_len f t n
   unfold callsL
   rw [List.length_append]
   split <;> simp <;> omega
theorem nine_at (w : World) (p : CaP) (t : TypeId) : ∀ (j : Nat) (u : Value), (caCells p)[j]? = some u → (w.alloc (.cells (caCells p).toArray t)).cell? ((⟨w.heap.size, 0, none⟩ : Addr).add j) = some u := by
 intro j u hj
 have hx := (box_of w (caCells p).toArray t).cell j
 have e : (⟨w.heap.size, 0, none⟩ : Addr).add j = ⟨w.heap.size, j, none⟩ := by simp [Addr.add]; omega
 rw [e, hx]
 simpa using hj
theorem nine_one (p : CaP) : ∀ u ∈ caCells p, u.oneCell' = true := by
 intro u hu
 simp [caCells] at hu
 rcases hu with rfl | rfl | rfl | rfl | rfl | rfl | rfl | rfl | rfl <;> rfl
theorem infoCall : (Tryz.prog.info? 84).map (fun i => (i.zero, i.size, i.bytes)) = some (some (.agg #[.int .i64 0, .int .i64 0, .int .i64 0, .int .i64 0, .int .i64 0, .int .i64 0, .int .i64 0, .int .i64 0, .slice none 0 0]), 9, 88) := by kernel_rfl
theorem impl_callsOf (v0 v1 v2 v3 v5 v6 v7 : Value) (ca : Option Addr) (nc cc : Nat) (f : Nat → CaD) (t : Int) (w : World) (h : CasAt w ca nc f) :
   Calls Tryz.prog 161 #[.agg #[v0, v1, v2, v3, .slice ca nc cc, v5, v6, v7], .int .i64 t] w fun e w' => (∃ a c, e = .returned (.slice a (callsL f t nc).length c) ∧ (callsL f t nc).length ≤ c ∧ CasAt w' a (callsL f t nc).length (fun j => (callsL f t nc).getD j default)) ∧ Below w.heap.size w w' := by
 have hnc := h.1
 have H1 : Hid (CasAt w ca nc f) := h
 obtain ⟨i0, hi, hz⟩ := Option.map_eq_some_iff.1 infoCall
 have hz0 : i0.zero = some (.agg #[.int .i64 0, .int .i64 0, .int .i64 0, .int .i64 0, .int .i64 0, .int .i64 0, .int .i64 0, .int .i64 0, .slice none 0 0]) := congrArg Prod.fst hz
 have hz1 : i0.size = 9 := congrArg (fun p => p.2.1) hz
 have hz2 : i0.bytes = 88 := congrArg (fun p => p.2.2) hz
 obtain ⟨W, hW⟩ : ∃ W, w.alloc (.cells #[v0, v1, v2, v3, .slice ca nc cc, v5, v6, v7] 43) = W := ⟨_, rfl⟩
 have hb0 : Below w.heap.size w W := by rw [← hW]; exact (Below.refl _ w).alloc (Nat.le_refl _) _
 have HB0 : Hid (Below w.heap.size w W) := hb0
 have HW : Hid (w.alloc (.cells #[v0, v1, v2, v3, .slice ca nc cc, v5, v6, v7] 43) = W) := hW
 clear h hb0 hW hz
 go_enter Tryz.func161, Tryz.ntmps161
 go_wp2
 rw [HW.out]
 go_loopw [5, 11] (fun o i wr => ∃ (k : Nat) (LL : List CaP), k ≤ nc ∧ i = .int .i64 (k : Int) ∧ LL.map Prod.fst = callsL f t k ∧ wr.ownsRow W.heap.size 84 9 o LL.length (LL.flatMap caCells) ∧ Below W.heap.size W wr) (fun _ i _ => nc - (intOf i).toNat)
 case atStart => exact ⟨0, [], Nat.zero_le _, rfl, rfl, World.ownsRow_nil _ _ _ _, Below.refl _ _⟩
 case round =>
   obtain ⟨k, LL, hk, rfl, hL, hown, hb⟩ := hrel
   have HB : Hid (Below W.heap.size W wr) := hb
   have HBW : Hid (Below w.heap.size w wr) := HB0.out.trans (hb.mono HB0.out.size)
   have HL : Hid (LL.map Prod.fst = callsL f t k) := hL
   have HO : Hid (wr.ownsRow W.heap.size 84 9 u5 LL.length (LL.flatMap caCells)) := hown
   have hlen : LL.length ≤ k := by have := callsL_len f t k; rw [← hL] at this; simpa using this
   clear hb hL hown
   by_cases hlt : k < nc
   · have hk0 : (0 : Int) ≤ (k : Int) := by omega
     have hk1 : (k : Int) < (nc : Int) := by omega
     rcases (H1.out.below HBW.out (Nat.le_refl _)).2 with h0 | ⟨p1, o1, rfl, g1⟩
     · omega
     obtain ⟨ra, rn, rc, e0, e1, e2, e3, e4, e5, e6, e7, e8⟩ := g1 k hlt
     obtain ⟨C, hC⟩ : ∃ C, f k = C := ⟨_, rfl⟩
     have HC : Hid (f k = C) := hC
     rw [hC] at e0 e1 e2 e3 e4 e5 e6 e7
     obtain ⟨y0, y1, y2, y3, y4, y5, y6, y7⟩ := C
     dsimp only at e0 e1 e2 e3 e4 e5 e6 e7
     clear g1 hC
     have hsz := HB.out.size
     by_cases hyt : y0 = t
     · have hyt' : (y0 == t) = true := by simp [hyt]
       have HN : Hid ((LL ++ [((⟨y0, y1, y2, y3, y4, y5, y6, y7⟩ : CaD), (ra, rn, rc))]).map Prod.fst = callsL f t (k + 1)) := by
         show _ = _
         rw [List.map_append, HL.out, callsL, HC.out, if_pos hyt]
         rfl
       have CV : Hid (∀ (x : World), (x.alloc (.cells (caCells ((⟨y0, y1, y2, y3, y4, y5, y6, y7⟩ : CaD), (ra, rn, rc))).toArray 84)) = x.alloc (.cells #[.int .i64 y0, .int .i64 y1, .int .i64 y2, .int .i64 y3, .int .i64 y4, .int .i64 y5, .int .i64 y6, .int .i64 y7, .slice ra rn rc] 84)) := fun _ => rfl
       clear hyt
       go_wp2_with
         (at_builtin
          refine wpList_append_own _ rfl _ _ 40 rfl W.heap.size 84 i0 (.agg #[.int .i64 0, .int .i64 0, .int .i64 0, .int .i64 0, .int .i64 0, .int .i64 0, .int .i64 0, .int .i64 0, .slice none 0 0]) 9 88 Tryz.underlying40 hi hz0 hz1 hz2 rfl (by decide) _ _ _ rfl ((HO.out.alloc _).alloc _) ⟨wr.heap.size + 1, 0, none⟩ 1 1 (caCells ((⟨y0, y1, y2, y3, y4, y5, y6, y7⟩ : CaD), (ra, rn, rc))) rfl rfl (by
            have h := nine_at (wr.alloc (.cells #[.int .i64 y0, .int .i64 y1, .int .i64 y2, .int .i64 y3, .int .i64 y4, .int .i64 y5, .int .i64 y6, .int .i64 y7, .slice ra rn rc] 84)) ((⟨y0, y1, y2, y3, y4, y5, y6, y7⟩ : CaD), (ra, rn, rc)) 84
            rw [World.size_alloc] at h
            exact h) (nine_one _) (by unfold maxLen; omega) (by omega) (by simp; omega) ?_
          intro v' w4 hown4 hgrow4 _
          have hbx : Below W.heap.size W ((wr.alloc (.cells #[.int .i64 y0, .int .i64 y1, .int .i64 y2, .int .i64 y3, .int .i64 y4, .int .i64 y5, .int .i64 y6, .int .i64 y7, .slice ra rn rc] 84)).alloc (.cells #[.int .i64 y0, .int .i64 y1, .int .i64 y2, .int .i64 y3, .int .i64 y4, .int .i64 y5, .int .i64 y6, .int .i64 y7, .slice ra rn rc] 84)) := (HB.out.alloc hsz _).alloc (by simp; omega) _
          have HB4 : Hid (Below W.heap.size W w4) := hbx.grown hgrow4 (by simp; omega) (fun k e => (HO.out.lt k e).1)
          have HO4 : Hid (w4.ownsRow W.heap.size 84 9 v' (LL ++ [((⟨y0, y1, y2, y3, y4, y5, y6, y7⟩ : CaD), (ra, rn, rc))]).length ((LL ++ [((⟨y0, y1, y2, y3, y4, y5, y6, y7⟩ : CaD), (ra, rn, rc))]).flatMap caCells)) := by
            show w4.ownsRow _ _ _ _ _ _
            rw [List.length_append, List.flatMap_append]
            simpa using hown4
          clear hown4 hgrow4 hbx)
       go_wp2
       exact ⟨⟨k + 1, _, by omega, by go_num, HN.out, HO4.out, HB4.out⟩, by simp [intOf]; omega⟩
     · have hyt' : (y0 == t) = false := by simp [hyt]
       have HN : Hid (LL.map Prod.fst = callsL f t (k + 1)) := by
         show _ = _
         rw [HL.out, callsL, HC.out, if_neg hyt, List.append_nil]
       have HB2 : Hid (Below W.heap.size W (wr.alloc (.cells #[.int .i64 y0, .int .i64 y1, .int .i64 y2, .int .i64 y3, .int .i64 y4, .int .i64 y5, .int .i64 y6, .int .i64 y7, .slice ra rn rc] 84))) := HB.out.alloc hsz _
       have HO2 : Hid ((wr.alloc (.cells #[.int .i64 y0, .int .i64 y1, .int .i64 y2, .int .i64 y3, .int .i64 y4, .int .i64 y5, .int .i64 y6, .int .i64 y7, .slice ra rn rc] 84)).ownsRow W.heap.size 84 9 u5 LL.length (LL.flatMap caCells)) := HO.out.alloc _
       clear hyt
       go_wp2
       exact ⟨⟨k + 1, LL, by omega, by go_num, HN.out, HO2.out, HB2.out⟩, by simp [intOf]; omega⟩
   · obtain rfl : nc = k := by omega
     obtain ⟨a, c, rfl, hc, hat⟩ := own_cas HO.out HL.out (by omega)
     have HAT : Hid (CasAt wr a (callsL f t nc).length (fun j => (callsL f t nc).getD j default)) := hat
     clear hat
     go_wp2
     go_ret
     exact ⟨⟨a, c, rfl, hc, HAT.out⟩, HBW.out⟩
theorem equalIn_op (x y z x' y' z' : Int) (w : World) (b : Bool) (hb : (x == x' && (y == y' && z == z')) = b) : (Op.equalIn 10000 81 (.agg #[.int .i64 x, .int .i64 y, .int .i64 z]) (.agg #[.int .i64 x', .int .i64 y', .int .i64 z'])).run Tryz.prog w = .ok b w := by
 have hS : Tryz.prog.underlying 81 = some (.struct (Tryz.prog.fieldsOf 81)) := by kernel_rfl
 have hp : Tryz.prog.stoodInHeld 81 = false := by kernel_rfl
 have u3 := Tryz.underlying3
 rw [show (10000 : Nat) = 9999 + 1 from rfl, run_equalIn_agg w 9999 81 _ _ hS hp]
 simp only [Program.fieldsOf, Tryz.underlying81]
 subst hb
 rcases h0 : (x == x') with _ | _
 · go_simp
 · rcases h1 : (y == y') with _ | _
   · go_simp
   · rcases h2 : (z == z') with _ | _
     · go_simp
     · go_simp
theorem eql_op (x y z x' y' z' : Int) (w : World) (b : Bool) (hb : (x == x' && (y == y' && z == z')) = b) : (binOp .eql 81 (.agg #[.int .i64 x, .int .i64 y, .int .i64 z]) (.agg #[.int .i64 x', .int .i64 y', .int .i64 z'])).run Tryz.prog w = .ok (.bool b) w := by
 rw [run_eql_struct, equalIn_op x y z x' y' z' w b hb]
 rfl
theorem neq_op (x y z x' y' z' : Int) (w : World) (b : Bool) (hb : (x == x' && (y == y' && z == z')) = b) : (binOp .neq 81 (.agg #[.int .i64 x, .int .i64 y, .int .i64 z]) (.agg #[.int .i64 x', .int .i64 y', .int .i64 z'])).run Tryz.prog w = .ok (.bool !b) w := by
 rw [run_neq_struct, equalIn_op x y z x' y' z' w b hb]
 rfl
theorem ops_eq {x y z x' y' z' : Int} (h : x = x' ∧ y = y' ∧ z = z') : (x == x' && (y == y' && z == z')) = true := by obtain ⟨rfl, rfl, rfl⟩ := h; simp
theorem ops_ne {x y z x' y' z' : Int} (h : ¬ (x = x' ∧ y = y' ∧ z = z')) : (x == x' && (y == y' && z == z')) = false := by
 rcases hb : (x == x' && (y == y' && z == z')) with _ | _
 · rfl
 · simp at hb; exact absurd hb h
theorem CasAt.fewer {w : World} {a : Option Addr} {n m : Nat} {f : Nat → CaD} (h : CasAt w a n f) (hm : m ≤ n) : CasAt w a m f := by
 refine ⟨Nat.le_trans hm h.1, ?_⟩
 rcases h.2 with h0 | ⟨b, o, h1, h2⟩
 · exact .inl (by omega)
 · exact .inr ⟨b, o, h1, fun i hi => h2 i (by omega)⟩
theorem all_ended {L : List CaD} {m : Nat} (hm : m ≤ L.length) : (∀ j, j < m → decide (0 ≤ (L.getD j default).en) = true) ↔ ∀ d ∈ L.take m, 0 ≤ d.en := by
 constructor
 · intro h d hd
   obtain ⟨j, hj, rfl⟩ := List.getElem_of_mem hd
   rw [List.length_take] at hj
   have := h j (by omega)
   have hjl : j < L.length := by omega
   simpa [List.getD, hjl] using this
 · intro h j hj
   have hjl : j < L.length := by omega
   have := h (L[j]) (List.mem_take_iff_getElem.2 ⟨j, by omega, rfl⟩)
   simpa [List.getD, hjl] using this
theorem task_off {x : ThD} {L : List CaD} (h : x.on = false) : TaskGood x L ↔ ((L.length : Int) = x.pc ∧ ∀ d ∈ L, 0 ≤ d.en) := by
 unfold TaskGood
 rw [h, if_neg (by simp)]
theorem task_on {x : ThD} {L : List CaD} {m : Nat} (h : x.on = true) (hm : L.length = m + 1) : TaskGood x L ↔ ((((L.getD m default).kd = x.fs.getD (x.pc.toNat * 3) 0 ∧ (L.getD m default).k = x.fs.getD (x.pc.toNat * 3 + 1) 0 ∧ (L.getD m default).v = x.fs.getD (x.pc.toNat * 3 + 2) 0) ∧ (L.getD m default).en = -1) ∧ (m : Int) = x.pc ∧ ∀ d ∈ L.take m, 0 ≤ d.en) := by
 have hml : m < L.length := by omega
 have hsp : L = L.take m ++ [L.getD m default] := by
   conv => lhs; rw [← List.take_append_drop m L]
   congr 1
   have e1 : L.getD m default = L[m] := by simp [List.getD, hml]
   rw [e1, List.drop_eq_getElem_cons hml, List.drop_eq_nil_of_le (by omega)]
 unfold TaskGood
 rw [h, if_pos rfl]
 constructor
 · rintro ⟨L', c, hL, hop, hen, hlen, hall⟩
   have hl : L'.length = m := by rw [hL] at hm; simpa using hm
   have e := hsp.symm.trans hL
   obtain ⟨e1, e2⟩ := List.append_inj' e rfl
   have e2 : L.getD m default = c := by simpa using e2
   exact ⟨⟨by rw [e2]; exact hop, by rw [e2]; exact hen⟩, by omega, by rw [e1]; exact hall⟩
 · rintro ⟨⟨hop, hen⟩, hlen, hall⟩
   exact ⟨_, _, hsp, hop, hen, by rw [List.length_take]; omega, hall⟩
theorem task_nil {x : ThD} (h : x.on = true) : ¬ TaskGood x [] := by
 unfold TaskGood
 rw [h, if_pos rfl]
 rintro ⟨L', c, hL, _⟩
 simp at hL
theorem tells_ended {w : World} {n : Nat} {f : Nat → CaD} (V : Nat → Value) : TellsCall 99 #[] n (fun j => I (f j).t) (fun j => I (f j).kd) (fun j => I (f j).k) (fun j => I (f j).v) (fun j => I (f j).st) (fun j => I (f j).ln) (fun j => I (f j).en) (fun j => I (f j).cd) V (fun j => decide (0 ≤ (f j).en)) w :=
 fun j _ W _ => impl_ended (f j) (V j) W
theorem impl_taskOk (a0 : Option Addr) (c0 : Nat) (a1 : Option Addr) (c1 : Nat) (a2 : Option Addr) (c2 : Nat) (x : ThD) (a : Option Addr) (c : Nat) (L : List CaD) (w : World) (h1 : ThL w a0 a1 a2 x) (h2 : CasAt w a L.length (fun j => L.getD j default)) (hc : L.length ≤ c)
   (hpc : x.on = true → 0 ≤ x.pc ∧ x.pc < (x.n0 : Int)) :
   Calls Tryz.prog 160 #[ThV5 a0 c0 a1 c1 a2 c2 x, .slice a L.length c] w fun e w' => ∃ ok, (e = .returned (.bool ok) ∧ (ok = true ↔ TaskGood x L)) ∧ Below w.heap.size w w' := by
 obtain ⟨G, hG⟩ : ∃ G : Prop, TaskGood x L = G := ⟨_, rfl⟩
 rw [hG]
 have hn := h2.1
 have H2 : Hid (CasAt w a L.length (fun j => L.getD j default)) := h2
 obtain ⟨n0, fs, pc, on, n1, gs, n2, hs⟩ := x
 have HOPS : Hid (KAt 3 w a0 n0 fs) := h1.ops
 have hm0 := h1.ops.2.1
 dsimp only at hm0 hpc
 have HPC : Hid (on = true → 0 ≤ pc ∧ pc < (n0 : Int)) := hpc
 have HG : Hid (TaskGood ⟨n0, fs, pc, on, n1, gs, n2, hs⟩ L = G) := hG
 clear h1 h2 hpc hG
 rcases on with _ | _
 · have HG : Hid (G ↔ ((L.length : Int) = pc ∧ ∀ d ∈ L, 0 ≤ d.en)) := by show _ ↔ _; rw [← HG.out]; exact task_off rfl
   obtain ⟨n, hnn⟩ : ∃ n, L.length = n := ⟨_, rfl⟩
   have HN : Hid (L.length = n) := hnn
   show Calls Tryz.prog 160 #[.agg #[.slice a0 n0 c0, .int .i64 pc, .bool false, .slice a1 n1 c1, .slice a2 n2 c2], .slice a L.length c] w fun e w' => ∃ ok, (e = .returned (.bool ok) ∧ (ok = true ↔ G)) ∧ Below w.heap.size w w'
   rw [hnn] at HG H2 hn hc ⊢
   clear hnn
   have HB0 : Hid (Below w.heap.size w (w.alloc (.cells #[.slice a0 n0 c0, .int .i64 pc, .bool false, .slice a1 n1 c1, .slice a2 n2 c2] 92))) := (Below.refl _ w).alloc (Nat.le_refl _) _
   by_cases hp : (n : Int) = pc
   case neg =>
     have hp' : ((n : Int) == pc) = false := by simpa using hp
     have HNO : Hid (¬ G) := fun hg => hp (HG.out.1 hg).1
     clear hp
     go_enter Tryz.func160, Tryz.ntmps160
     go_wp2
     go_ret
     first | exact ⟨false, ⟨rfl, by simp [HNO.out]⟩, HB0.out⟩ | exact ⟨.inl ⟨rfl, HNO.out⟩, HB0.out⟩
   have hp' : ((n : Int) == pc) = true := by simp [hp]
   have HGG : Hid (G ↔ ∀ j, j < n → decide (0 ≤ (L.getD j default).en) = true) := by
     show _ ↔ _
     rw [HG.out, all_ended (Nat.le_of_eq HN.out.symm), ← HN.out, List.take_length]
     exact ⟨fun h => h.2, fun h => ⟨by rw [HN.out]; exact hp, h⟩⟩
   clear hp
   go_enter Tryz.func160, Tryz.ntmps160
   go_wp2_with fail
   obtain ⟨V, hV, hlie⟩ := (H2.out.below HB0.out (Nat.le_refl _)).lie
   refine (allCall 99 #[] a n c _ _ _ _ _ _ _ _ _ _ _ hn hlie (tells_ended V) enters_ended).mono ?_
   rintro e w1 ⟨r, ⟨rfl, hr⟩, hb1⟩
   have HR : Hid (r = true ↔ G) := by show _ ↔ _; rw [HGG.out, hr]
   have HB : Hid (Below w.heap.size w w1) := HB0.out.trans (hb1.mono HB0.out.size)
   clear hr hb1 hlie hV
   rcases r with _ | _
   · go_wp2
     go_ret
     exact ⟨false, ⟨rfl, HR.out⟩, HB.out⟩
   · go_wp2
     go_ret
     exact ⟨true, ⟨rfl, ⟨fun _ => HR.out.1 (by first | rfl | trivial), fun _ => rfl⟩⟩, HB.out⟩
 · obtain ⟨hp0, hp1⟩ := HPC.out rfl
   obtain ⟨pn, rfl⟩ : ∃ m : Nat, pc = (m : Int) := ⟨pc.toNat, by omega⟩
   have HB0 : Hid (Below w.heap.size w (w.alloc (.cells #[.slice a0 n0 c0, .int .i64 (pn : Int), .bool true, .slice a1 n1 c1, .slice a2 n2 c2] 92))) := (Below.refl _ w).alloc (Nat.le_refl _) _
   rcases Nat.eq_zero_or_pos L.length with hlen | hpos
   · obtain rfl : L = [] := List.length_eq_zero_iff.1 hlen
     have HNO : Hid (¬ G) := by show ¬ G; rw [← HG.out]; exact task_nil rfl
     show Calls Tryz.prog 160 #[.agg #[.slice a0 n0 c0, .int .i64 (pn : Int), .bool true, .slice a1 n1 c1, .slice a2 n2 c2], .slice a 0 c] w fun e w' => ∃ ok, (e = .returned (.bool ok) ∧ (ok = true ↔ G)) ∧ Below w.heap.size w w'
     go_enter Tryz.func160, Tryz.ntmps160
     go_wp2
     go_quiet (fail)
     go_wp2
     go_ret
     first | exact ⟨false, ⟨rfl, by simp [HNO.out]⟩, below_drewN6 HB0.out nq⟩ | exact ⟨.inl ⟨rfl, HNO.out⟩, below_drewN6 HB0.out nq⟩
   show Calls Tryz.prog 160 #[.agg #[.slice a0 n0 c0, .int .i64 (pn : Int), .bool true, .slice a1 n1 c1, .slice a2 n2 c2], .slice a L.length c] w fun e w' => ∃ ok, (e = .returned (.bool ok) ∧ (ok = true ↔ G)) ∧ Below w.heap.size w w'
   obtain ⟨m, hlen⟩ : ∃ m, L.length = m + 1 := ⟨L.length - 1, by omega⟩
   obtain ⟨n, hnn⟩ : ∃ n, L.length = n := ⟨_, rfl⟩
   have hnm : n = m + 1 := by omega
   rw [hnn] at hn hc H2 ⊢
   have HNM : Hid (n = m + 1) := hnm
   obtain ⟨W, hW⟩ : ∃ W, w.alloc (.cells #[.slice a0 n0 c0, .int .i64 (pn : Int), .bool true, .slice a1 n1 c1, .slice a2 n2 c2] 92) = W := ⟨_, rfl⟩
   have BT : Hid (Box W w.heap.size #[.slice a0 n0 c0, .int .i64 (pn : Int), .bool true, .slice a1 n1 c1, .slice a2 n2 c2] 92) := by rw [← hW]; exact box_of w _ _
   rw [hW] at HB0
   have HW : Hid (w.alloc (.cells #[.slice a0 n0 c0, .int .i64 (pn : Int), .bool true, .slice a1 n1 c1, .slice a2 n2 c2] 92) = W) := hW
   clear hW
   rcases (H2.out.below HB0.out (Nat.le_refl _)).2 with h0 | ⟨p1, o1, rfl, g1⟩
   · omega
   obtain ⟨ra, rn, rc, _, d1, d2, d3, _, _, d6, _, _⟩ := g1 m (by omega)
   rcases (HOPS.out.below HB0.out (Nat.le_refl _)).2.2 with h0 | ⟨p3, o3, rfl, g3⟩
   · omega
   have k1 := g3 (pn * 3) (by omega)
   have k2 := g3 (pn * 3 + 1) (by omega)
   have k3 := g3 (pn * 3 + 2) (by omega)
   obtain ⟨x1, hx1⟩ : ∃ x, (L.getD m default).kd = x := ⟨_, rfl⟩
   obtain ⟨x2, hx2⟩ : ∃ x, (L.getD m default).k = x := ⟨_, rfl⟩
   obtain ⟨x3, hx3⟩ : ∃ x, (L.getD m default).v = x := ⟨_, rfl⟩
   obtain ⟨x6, hx6⟩ : ∃ x, (L.getD m default).en = x := ⟨_, rfl⟩
   obtain ⟨q1, hq1⟩ : ∃ x, fs.getD (pn * 3) 0 = x := ⟨_, rfl⟩
   obtain ⟨q2, hq2⟩ : ∃ x, fs.getD (pn * 3 + 1) 0 = x := ⟨_, rfl⟩
   obtain ⟨q3, hq3⟩ : ∃ x, fs.getD (pn * 3 + 2) 0 = x := ⟨_, rfl⟩
   have HGG : Hid (G ↔ (((x1 = q1 ∧ x2 = q2 ∧ x3 = q3) ∧ x6 = -1) ∧ (m : Int) = (pn : Int) ∧ ∀ d ∈ L.take m, 0 ≤ d.en)) := by
     show _ ↔ _
     rw [← HG.out, task_on rfl hlen]
     dsimp only
     rw [Int.toNat_natCast, hx1, hx2, hx3, hx6, hq1, hq2, hq3]
   have HALL : Hid ((∀ d ∈ L.take m, 0 ≤ d.en) ↔ ∀ j, j < m → decide (0 ≤ (L.getD j default).en) = true) := (all_ended (by omega)).symm
   dsimp only at d1 d2 d3 d6
   rw [hx1] at d1
   rw [hx2] at d2
   rw [hx3] at d3
   rw [hx6] at d6
   rw [hq1] at k1
   rw [hq2, ← Nat.add_assoc] at k2
   rw [hq3, ← Nat.add_assoc] at k3
   have hm1 : (m : Int) < (n : Int) := by omega
   have hm2 : (0 : Int) ≤ (m : Int) := by omega
   have hm3 : (n : Int) - 1 = (m : Int) := by omega
   have HLEN : Hid (L.length = m + 1) := hlen
   have hm4 : (m : Int) ≤ (c : Int) := by omega
   obtain ⟨z0, z1, z2, z3, z4⟩ := five_of BT.out
   have hneg : decide ((m : Int) < 0) = false := decide_eq_false (by omega)
   clear g1 g3 hx1 hx2 hx3 hx6 hq1 hq2 hq3 HG hlen hnn hnm hpos
   by_cases hop : x1 = q1 ∧ x2 = q2 ∧ x3 = q3
   case neg =>
     have HNO : Hid (¬ G) := fun hg => hop (HGG.out.1 hg).1.1
     have hq := fun w => neq_op x1 x2 x3 q1 q2 q3 w false (ops_ne hop)
     clear hop HGG
     go_enter Tryz.func160, Tryz.ntmps160
     go_wp2
     rw [HW.out]
     go_quiet (fail)
     go_wp2
     go_ret
     first | exact ⟨false, ⟨rfl, by simp [HNO.out]⟩, below_drewN6 HB0.out nq⟩ | exact ⟨.inl ⟨rfl, HNO.out⟩, below_drewN6 HB0.out nq⟩
   have hq := fun w => neq_op x1 x2 x3 q1 q2 q3 w true (ops_eq hop)
   by_cases h6 : x6 = -1
   case neg =>
     have h6' : (x6 != -1) = true := by simpa using h6
     have HNO : Hid (¬ G) := fun hg => h6 (HGG.out.1 hg).1.2
     clear h6 HGG hop
     go_enter Tryz.func160, Tryz.ntmps160
     go_wp2
     rw [HW.out]
     go_quiet (fail)
     go_wp2
     go_ret
     first | exact ⟨false, ⟨rfl, by simp [HNO.out]⟩, below_drewN6 HB0.out nq⟩ | exact ⟨.inl ⟨rfl, HNO.out⟩, below_drewN6 HB0.out nq⟩
   have h6' : (x6 != -1) = false := by simp [h6]
   by_cases hmp : (m : Int) = (pn : Int)
   case neg =>
     have hmp' : ((m : Int) == (pn : Int)) = false := by simpa using hmp
     have HNO : Hid (¬ G) := fun hg => hmp (HGG.out.1 hg).2.1
     have hmn : (m == pn) = false := by simp; omega
     clear h6 HGG hop hmp
     go_enter Tryz.func160, Tryz.ntmps160
     go_wp2
     rw [HW.out]
     go_quiet (fail)
     go_wp2
     go_ret
     first | exact ⟨false, ⟨rfl, by simp [HNO.out]⟩, below_drewN6 HB0.out nq⟩ | exact ⟨.inl ⟨rfl, HNO.out⟩, below_drewN6 HB0.out nq⟩
   have hmp' : ((m : Int) == (pn : Int)) = true := by simpa using hmp
   have HGE : Hid (G ↔ ∀ j, j < m → decide (0 ≤ (L.getD j default).en) = true) := by show _ ↔ _; rw [HGG.out, HALL.out]; exact ⟨fun h => h.2.2, fun h => ⟨⟨hop, h6⟩, hmp, h⟩⟩
   clear h6 HGG hop hmp
   go_enter Tryz.func160, Tryz.ntmps160
   go_wp2
   rw [HW.out]
   go_quiet (fail)
   go_wp2_with fail
   have hbq := below_drewN6 HB0.out nq
   obtain ⟨V, hV, hlie⟩ := ((H2.out.fewer (show m ≤ n by omega)).below hbq (Nat.le_refl _)).lie
   refine (allCall 99 #[] (some ⟨p1, o1, none⟩) m c _ _ _ _ _ _ _ _ _ _ _ (by omega) hlie (tells_ended V) enters_ended).mono ?_
   rintro e w1 ⟨r, ⟨rfl, hr⟩, hb1⟩
   have HR : Hid (r = true ↔ G) := by show _ ↔ _; rw [HGE.out, hr]
   have HB : Hid (Below w.heap.size w w1) := hbq.trans (hb1.mono hbq.size)
   clear hr hb1 hlie hV hbq
   rcases r with _ | _
   · go_wp2
     go_ret
     exact ⟨false, ⟨rfl, HR.out⟩, HB.out⟩
   · go_wp2
     go_ret
     exact ⟨true, ⟨rfl, ⟨fun _ => HR.out.1 (by first | rfl | trivial), fun _ => rfl⟩⟩, HB.out⟩
end
end Go.Proofs.YtbfolanfbagofaaGreatDoor
