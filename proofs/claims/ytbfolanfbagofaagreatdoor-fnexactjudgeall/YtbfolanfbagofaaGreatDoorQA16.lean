/- Texts joined: SpecMa, ClassOf, WordsM, SpecHow, AllowM, AfterD. -/
import Derived.Test.YtbfolanfbagofaaGreatDoorQA14
import Derived.Test.YtbfolanfbagofaaGreatDoorQA13
import Derived.Test.YtbfolanfbagofaaGreatDoorQA15
import Derived.Test.YtbfolanfbagofaaGreatDoorRows
import Derived.WalkKit
import Derived.ProofKit
import Derived.Test.YtbfolanfbagofaaGreatDoorQA02
import Derived.Test.YtbfolanfbagofaaGreatDoorQA01
import Derived.Test.YtbfolanfbagofaaGreatDoorQA12
import Derived.Test.YtbfolanfbagofaaGreatDoorQA03
import Derived.Test.YtbfolanfbagofaaGreatDoorQA07
import Derived.Handy
set_option maxHeartbeats 16000000
set_option maxRecDepth 100000
namespace Go.Proofs.YtbfolanfbagofaaGreatDoor
section
open Go.ChangeShapes Go.WideShapes Go.ChangeAt Go.RowKit
theorem specMachineOk_any (wa : Option Addr) (wc : Nat) (da : Option Addr) (dc : Nat) (ta : Option Addr) (tc : Nat) (ca : Option Addr) (cc : Nat) (oa : Option Addr) (oc : Nat) (ha : Option Addr) (hc : Nat) (M : MaD) (w : World) (h : MaAt w wa da ta ca oa ha M) :
   Calls Tryz.prog 35 #[MaV wa wc da dc ta tc ca cc oa oc ha hc M] w fun e w' => ∃ ok, (e = .returned (.bool ok) ∧ (ok = true ↔ MachGood M)) ∧ Below w.heap.size w w' := by
 obtain ⟨G, hG⟩ : ∃ G : Prop, MachGood M = G := ⟨_, rfl⟩
 rw [hG]
 obtain ⟨nw, ws, nd, ds, nt, ts, tm, nc, f, no, os, nh, hs, st⟩ := M
 have HG : Hid (G ↔ MachGood ⟨nw, ws, nd, ds, nt, ts, tm, nc, f, no, os, nh, hs, st⟩) := by show _ ↔ _; rw [hG]
 have H1 : Hid (TripAt w wa nw ws) := h.words
 have H2 : Hid (DescAt w da nd ds) := h.descs
 have H3 : Hid (ThsAt w ta nt ts) := h.ths
 have H4 : Hid (CasAt w ca nc f) := h.calls
 have H5 : Hid (IntAt w oa no os) := h.ord
 have H6 : Hid (IntAt w ha nh hs) := h.held
 have hnt := h.ths.1
 have hnd := h.descs.2.1
 have HND : Hid (ds.length = nd) := h.descs.1
 have HNH : Hid (hs.length = nh) := h.held.1
 dsimp only at hnt hnd
 show Calls Tryz.prog 35 #[.agg #[.slice wa nw wc, .slice da nd dc, .slice ta nt tc, .int .i64 tm, .slice ca nc cc, .slice oa no oc, .slice ha nh hc, .int .i64 st]] w fun e w' => ∃ ok, (e = .returned (.bool ok) ∧ (ok = true ↔ G)) ∧ Below w.heap.size w w'
 obtain ⟨W, hW⟩ : ∃ W, w.alloc (.cells #[.slice wa nw wc, .slice da nd dc, .slice ta nt tc, .int .i64 tm, .slice ca nc cc, .slice oa no oc, .slice ha nh hc, .int .i64 st] 43) = W := ⟨_, rfl⟩
 have hb0 : Below w.heap.size w W := by rw [← hW]; exact (Below.refl _ w).alloc (Nat.le_refl _) _
 have BX : Hid (Box W w.heap.size #[.slice wa nw wc, .slice da nd dc, .slice ta nt tc, .int .i64 tm, .slice ca nc cc, .slice oa no oc, .slice ha nh hc, .int .i64 st] 43) := by rw [← hW]; exact box_of w _ _
 have HB0 : Hid (Below w.heap.size w W) := hb0
 have HW : Hid (w.alloc (.cells #[.slice wa nw wc, .slice da nd dc, .slice ta nt tc, .int .i64 tm, .slice ca nc cc, .slice oa no oc, .slice ha nh hc, .int .i64 st] 43) = W) := hW
 clear h hb0 hW hG
 go_enter Tryz.func35, Tryz.ntmps35
 go_wp2_with fail
 rw [HW.out]
 refine (specMemOk_any wa nw wc ws da nd dc ds W (H1.out.below HB0.out (Nat.le_refl _)) (H2.out.below HB0.out (Nat.le_refl _))).mono ?_
 rintro e w1 ⟨ok1, ⟨rfl, hk1⟩, hb1⟩
 have BX1 : Hid (Box w1 w.heap.size #[.slice wa nw wc, .slice da nd dc, .slice ta nt tc, .int .i64 tm, .slice ca nc cc, .slice oa no oc, .slice ha nh hc, .int .i64 st] 43) := BX.out.below hb1 BX.out.lt
 have HB1 : Hid (Below w.heap.size w w1) := HB0.out.trans (hb1.mono HB0.out.size)
 obtain ⟨z0, z1, z2, z3, z4, z5, z6, z7⟩ := eight_of BX1.out
 have L1 : w.heap.size < w1.heap.size := BX1.out.lt
 have HK1 : Hid (ok1 = true ↔ MemGood ws nw ds) := hk1
 clear hb1 hk1
 rcases ok1 with _ | _
 · have HNO : Hid (¬ G) := fun hg => by have := HK1.out.2 (HG.out.1 hg).mem; cases this
   go_wp2
   go_ret
   exact ⟨false, ⟨rfl, by simp [HNO.out]⟩, HB1.out⟩
 by_cases hmn : nd = nt
 case neg =>
   have hmn' : ((nd : Int) != (nt : Int)) = true := by simp; omega
   have HNO : Hid (¬ G) := fun hg => hmn (HG.out.1 hg).many
   go_wp2
   go_ret
   exact ⟨false, ⟨rfl, by simp [HNO.out]⟩, HB1.out⟩
 have hmn' : ((nd : Int) != (nt : Int)) = false := by simp [hmn]
 have HMN : Hid (nd = nt) := hmn
 clear hmn
 go_wp2_with fail
 refine (l1In_g _ _ _ _).mono ?_
 rintro e w1' ⟨rfl, rfl⟩
 rcases hI : inB tm 0 100000 with _ | _
 · have HNO : Hid (¬ G) := fun hg => by have := (HG.out.1 hg).time; dsimp only at this; rw [hI] at this; cases this
   go_wp2
   go_ret
   exact ⟨false, ⟨rfl, by simp [HNO.out]⟩, HB1.out⟩
 have HI : Hid (inB tm 0 100000 = true) := hI
 clear hI
 go_wp2_with fail
 refine (specRowsOk_any ha nh hc st hs _ (H6.out.below HB1.out (Nat.le_refl _))).mono ?_
 rintro e w2 ⟨⟨ok2, rfl, hk2⟩, hb2⟩
 have BX2 : Hid (Box w2 w.heap.size #[.slice wa nw wc, .slice da nd dc, .slice ta nt tc, .int .i64 tm, .slice ca nc cc, .slice oa no oc, .slice ha nh hc, .int .i64 st] 43) := BX1.out.below hb2 BX1.out.lt
 have HB2 : Hid (Below w.heap.size w w2) := HB1.out.trans (hb2.mono HB1.out.size)
 have HK2 : Hid (ok2 = true ↔ OkRows hs st) := by show _ ↔ _; rw [← ok_iff HNH.out]; exact hk2
 clear z0 z1 z2 z3 z4 z5 z6 z7 L1 hb2 hk2
 obtain ⟨z0, z1, z2, z3, z4, z5, z6, z7⟩ := eight_of BX2.out
 have L1 : w.heap.size < w2.heap.size := BX2.out.lt
 rcases ok2 with _ | _
 · have HNO : Hid (¬ G) := fun hg => by have := HK2.out.2 (HG.out.1 hg).first; cases this
   go_wp2
   go_ret
   exact ⟨false, ⟨rfl, by simp [HNO.out]⟩, HB2.out⟩
 go_wp2_with fail
 refine (specCalls_any (.slice wa nw wc) (.slice da nd dc) (.slice ha nh hc) (.int .i64 st) ta nt tc hnt tm ca nc cc f oa no oc os _ (H4.out.below HB2.out (Nat.le_refl _)) (H5.out.below HB2.out (Nat.le_refl _))).mono ?_
 rintro e w3 ⟨ok3, ⟨rfl, hk3⟩, hb3⟩
 have BX3 : Hid (Box w3 w.heap.size #[.slice wa nw wc, .slice da nd dc, .slice ta nt tc, .int .i64 tm, .slice ca nc cc, .slice oa no oc, .slice ha nh hc, .int .i64 st] 43) := BX2.out.below hb3 BX2.out.lt
 have HB3 : Hid (Below w.heap.size w w3) := HB2.out.trans (hb3.mono HB2.out.size)
 have HK3 : Hid (ok3 = true ↔ CallsGood f nc os no nt tm) := hk3
 clear z0 z1 z2 z3 z4 z5 z6 z7 L1 hb3 hk3
 obtain ⟨z0, z1, z2, z3, z4, z5, z6, z7⟩ := eight_of BX3.out
 have L1 : w.heap.size < w3.heap.size := BX3.out.lt
 rcases ok3 with _ | _
 · have HNO : Hid (¬ G) := fun hg => by have := HK3.out.2 (HG.out.1 hg).calls; cases this
   go_wp2
   go_ret
   exact ⟨false, ⟨rfl, by simp [HNO.out]⟩, HB3.out⟩
 go_wp2
 go_loopw [3] (fun i wr => ∃ k : Nat, k ≤ nt ∧ i = .int .i64 (k : Int) ∧ (∀ j, j < k → ThGood (ts j) nt ∧ TaskSpec f nc (j : Int) (ts j)) ∧ Below w3.heap.size w3 wr) (fun i _ => nt - (intOf i).toNat)
 case atStart => exact ⟨0, Nat.zero_le _, rfl, (fun j h => by omega), Below.refl _ _⟩
 case round =>
   clear z0 z1 z2 z3 z4 z5 z6 z7 L1
   obtain ⟨k, hk, rfl, hall, hb⟩ := hrel
   have HALL : Hid (∀ j, j < k → ThGood (ts j) nt ∧ TaskSpec f nc (j : Int) (ts j)) := hall
   have HB : Hid (Below w3.heap.size w3 wr) := hb
   have HBW : Hid (Below w.heap.size w wr) := HB3.out.trans (hb.mono HB3.out.size)
   have BR : Hid (Box wr w.heap.size #[.slice wa nw wc, .slice da nd dc, .slice ta nt tc, .int .i64 tm, .slice ca nc cc, .slice oa no oc, .slice ha nh hc, .int .i64 st] 43) := BX3.out.below hb BX3.out.lt
   have L1 : w.heap.size < wr.heap.size := BR.out.lt
   obtain ⟨z0, z1, z2, z3, z4, z5, z6, z7⟩ := eight_of BR.out
   clear hall hb
   by_cases hlt : k < nt
   · have hk0 : (0 : Int) ≤ (k : Int) := by omega
     have hk1 : (k : Int) < (nt : Int) := by omega
     rcases (H3.out.below HBW.out (Nat.le_refl _)).2 with h0 | ⟨p1, o1, rfl, g1⟩
     · omega
     obtain ⟨a0, c0, a1, c1, a2, c2, hTC, hTL, _⟩ := g1 k hlt
     obtain ⟨X, hX⟩ : ∃ X, ts k = X := ⟨_, rfl⟩
     have HX : Hid (ts k = X) := hX
     rw [hX] at hTC hTL
     obtain ⟨n0, fs, pc, on, n1, gs, n2, hs2⟩ := X
     obtain ⟨e0, e1, e2, e3, e4⟩ := hTC
     dsimp only at e0 e1 e2 e3 e4
     have HTL : Hid (ThL wr a0 a1 a2 ⟨n0, fs, pc, on, n1, gs, n2, hs2⟩) := hTL
     have q1 : p1 < wr.heap.size := World.block_lt_of_cell? wr _ e0
     clear g1 hX hTL
     by_cases hth : ThGood ⟨n0, fs, pc, on, n1, gs, n2, hs2⟩ nt
     case neg =>
       have HTH : Hid (¬ ThGood ⟨n0, fs, pc, on, n1, gs, n2, hs2⟩ nt) := hth
       have HNO : Hid (¬ G) := fun hg => hth (by have := ((HG.out.1 hg).ths k hlt).1; dsimp only at this; rw [HX.out] at this; exact this)
       clear hth
       go_wp2_with fail
       refine wp_region_held_drew (S := fun w' => w'.cell? ⟨w.heap.size, 0, none⟩ = some (.slice wa nw wc) ∧ w'.cell? ⟨w.heap.size, 1, none⟩ = some (.slice da nd dc) ∧ w'.cell? ⟨w.heap.size, 2, none⟩ = some (.slice (some ⟨p1, o1, none⟩) nt tc) ∧ w'.cell? ⟨w.heap.size, 3, none⟩ = some (.int .i64 tm) ∧ w'.cell? ⟨w.heap.size, 4, none⟩ = some (.slice ca nc cc) ∧ w'.cell? ⟨w.heap.size, 5, none⟩ = some (.slice oa no oc) ∧ w'.cell? ⟨w.heap.size, 6, none⟩ = some (.slice ha nh hc) ∧ w'.cell? ⟨w.heap.size, 7, none⟩ = some (.int .i64 st) ∧ w'.cell? ⟨p1, o1 + k * 5, none⟩ = some (.slice a0 n0 c0) ∧ w'.cell? ⟨p1, o1 + k * 5 + 1, none⟩ = some (.int .i64 pc) ∧ w'.cell? ⟨p1, o1 + k * 5 + 2, none⟩ = some (.bool on) ∧ w'.cell? ⟨p1, o1 + k * 5 + 3, none⟩ = some (.slice a1 n1 c1) ∧ w'.cell? ⟨p1, o1 + k * 5 + 4, none⟩ = some (.slice a2 n2 c2)) (by kernel_rfl) ⟨z0, z1, z2, z3, z4, z5, z6, z7, e0, e1, e2, e3, e4⟩ (fun hHeld => ?_)
       refine takeH 0 (.pointer (some ⟨w.heap.size, 2, none⟩)) ?_ hHeld ?_
       · intro w' hSw; obtain ⟨s0, s1, s2, s3, s4, s5, s6, s7, s8, s9, s10, s11, s12⟩ := hSw; go_simp
       simp only [Act.put, List.setIfInBounds_toArray, List.set_cons_zero, List.set_cons_succ]
       refine takeH 1 (.slice (some ⟨p1, o1, none⟩) nt tc) ?_ hHeld ?_
       · intro w' hSw; obtain ⟨s0, s1, s2, s3, s4, s5, s6, s7, s8, s9, s10, s11, s12⟩ := hSw; go_simp
       simp only [Act.put, List.setIfInBounds_toArray, List.set_cons_zero, List.set_cons_succ]
       refine takeH 2 (.int .i64 (k : Int)) ?_ hHeld ?_
       · intro w' hSw; obtain ⟨s0, s1, s2, s3, s4, s5, s6, s7, s8, s9, s10, s11, s12⟩ := hSw; go_simp
       simp only [Act.put, List.setIfInBounds_toArray, List.set_cons_zero, List.set_cons_succ]
       refine takeH 3 (.pointer (some ⟨p1, o1 + k * 5, none⟩)) ?_ hHeld ?_
       · intro w' hSw; obtain ⟨s0, s1, s2, s3, s4, s5, s6, s7, s8, s9, s10, s11, s12⟩ := hSw; go_simp
       simp only [Act.put, List.setIfInBounds_toArray, List.set_cons_zero, List.set_cons_succ]
       refine takeH 4 (.agg #[.slice a0 n0 c0, .int .i64 pc, .bool on, .slice a1 n1 c1, .slice a2 n2 c2]) ?_ hHeld ?_
       · intro w' hSw; obtain ⟨s0, s1, s2, s3, s4, s5, s6, s7, s8, s9, s10, s11, s12⟩ := hSw; go_simp
       simp only [Act.put, List.setIfInBounds_toArray, List.set_cons_zero, List.set_cons_succ]
       refine takeH 5 (.pointer (some ⟨w.heap.size, 2, none⟩)) ?_ hHeld ?_
       · intro w' hSw; obtain ⟨s0, s1, s2, s3, s4, s5, s6, s7, s8, s9, s10, s11, s12⟩ := hSw; go_simp
       simp only [Act.put, List.setIfInBounds_toArray, List.set_cons_zero, List.set_cons_succ]
       refine takeH 6 (.slice (some ⟨p1, o1, none⟩) nt tc) ?_ hHeld ?_
       · intro w' hSw; obtain ⟨s0, s1, s2, s3, s4, s5, s6, s7, s8, s9, s10, s11, s12⟩ := hSw; go_simp
       simp only [Act.put, List.setIfInBounds_toArray, List.set_cons_zero, List.set_cons_succ]
       refine takeH 7 (.int .i64 (nt : Int)) ?_ hHeld ?_
       · intro w' hSw; obtain ⟨s0, s1, s2, s3, s4, s5, s6, s7, s8, s9, s10, s11, s12⟩ := hSw; go_simp
       simp only [Act.put, List.setIfInBounds_toArray, List.set_cons_zero, List.set_cons_succ]
       refine wpAnyH_ready (rs := [8]) (by kernel_rfl) (by simp) ?_
       refine AllReadyH.cons (o := _) (by rw [List.getElem?_toArray]; exact rfl) (fun K hK => ?_) AllReadyH.nil
       rw [if_pos (by kernel_rfl)]
       go_simp
       refine (specThreadOk_any a0 c0 a1 c1 a2 c2 ⟨n0, fs, pc, on, n1, gs, n2, hs2⟩ nt hnt _ (HTL.out.below (Below.refl wr.heap.size wr).drew (Nat.le_refl _))).mono ?_
       rintro e w4 ⟨ok4, ⟨rfl, hk4⟩, hb4⟩
       have hb4' : Below wr.heap.size wr w4 := (Below.refl _ wr).drew.trans hb4
       have HB4 : Hid (Below w.heap.size w w4) := HBW.out.trans (hb4'.mono HBW.out.size)
       obtain rfl : ok4 = false := by
         cases ok4
         · rfl
         · exact absurd (hk4.1 rfl) HTH.out
       refine hK.out _ _ ?_ (fun hHeld => ?_)
       · exact ⟨(hb4'.cell (show w.heap.size < _ from L1)).trans z0, (hb4'.cell (show w.heap.size < _ from L1)).trans z1, (hb4'.cell (show w.heap.size < _ from L1)).trans z2, (hb4'.cell (show w.heap.size < _ from L1)).trans z3, (hb4'.cell (show w.heap.size < _ from L1)).trans z4, (hb4'.cell (show w.heap.size < _ from L1)).trans z5, (hb4'.cell (show w.heap.size < _ from L1)).trans z6, (hb4'.cell (show w.heap.size < _ from L1)).trans z7, (hb4'.cell (show p1 < _ from q1)).trans e0, (hb4'.cell (show p1 < _ from q1)).trans e1, (hb4'.cell (show p1 < _ from q1)).trans e2, (hb4'.cell (show p1 < _ from q1)).trans e3, (hb4'.cell (show p1 < _ from q1)).trans e4⟩
       clear hK K hb4 hb4' hk4
       refine takeH 9 (.bool true) ?_ hHeld ?_
       · intro w' hSw; obtain ⟨s0, s1, s2, s3, s4, s5, s6, s7, s8, s9, s10, s11, s12⟩ := hSw; go_simp
       simp only [Act.put, List.setIfInBounds_toArray, List.set_cons_zero, List.set_cons_succ]
       refine takeH 10 (.bool true) ?_ hHeld ?_
       · intro w' hSw; obtain ⟨s0, s1, s2, s3, s4, s5, s6, s7, s8, s9, s10, s11, s12⟩ := hSw; go_simp
       simp only [Act.put, List.setIfInBounds_toArray, List.set_cons_zero, List.set_cons_succ]
       refine skipH 11 hHeld ?_
       simp only [Act.put, List.setIfInBounds_toArray, List.set_cons_zero, List.set_cons_succ]
       refine skipH 12 hHeld ?_
       simp only [Act.put, List.setIfInBounds_toArray, List.set_cons_zero, List.set_cons_succ]
       refine skipH 13 hHeld ?_
       simp only [Act.put, List.setIfInBounds_toArray, List.set_cons_zero, List.set_cons_succ]
       refine skipH 14 hHeld ?_
       simp only [Act.put, List.setIfInBounds_toArray, List.set_cons_zero, List.set_cons_succ]
       refine takeH 15 (.bool true) ?_ hHeld ?_
       · intro w' hSw; obtain ⟨s0, s1, s2, s3, s4, s5, s6, s7, s8, s9, s10, s11, s12⟩ := hSw; go_simp
       simp only [Act.put, List.setIfInBounds_toArray, List.set_cons_zero, List.set_cons_succ]
       refine wpAnyH_done (by kernel_rfl) ?_ _
       go_wp2
       go_ret
       exact ⟨false, ⟨rfl, by simp [HNO.out]⟩, HB4.out⟩
     have HTH : Hid (ThGood ⟨n0, fs, pc, on, n1, gs, n2, hs2⟩ nt) := hth
     have HPC : Hid ((ts k).on = true → 0 ≤ (ts k).pc ∧ (ts k).pc < (ts k).n0) := by
       show _ → _
       rw [HX.out]
       exact fun h => ⟨hth.pc.1, hth.on h⟩
     clear hth
     by_cases htk : TaskSpec f nc (k : Int) (ts k)
     · have HTK : Hid (TaskSpec f nc (k : Int) (ts k)) := htk
       have HTT : Hid (ThGood (ts k) nt ∧ TaskSpec f nc (k : Int) (ts k)) := ⟨by rw [HX.out]; exact HTH.out, htk⟩
       clear htk
       go_wp2_with fail
       have KF : ∀ y, Below wr.heap.size wr y → Hid (y.cell? ⟨w.heap.size, 0, none⟩ = some (.slice wa nw wc) ∧ y.cell? ⟨w.heap.size, 1, none⟩ = some (.slice da nd dc) ∧ y.cell? ⟨w.heap.size, 2, none⟩ = some (.slice (some ⟨p1, o1, none⟩) nt tc) ∧ y.cell? ⟨w.heap.size, 3, none⟩ = some (.int .i64 tm) ∧ y.cell? ⟨w.heap.size, 4, none⟩ = some (.slice ca nc cc) ∧ y.cell? ⟨w.heap.size, 5, none⟩ = some (.slice oa no oc) ∧ y.cell? ⟨w.heap.size, 6, none⟩ = some (.slice ha nh hc) ∧ y.cell? ⟨w.heap.size, 7, none⟩ = some (.int .i64 st) ∧ y.cell? ⟨p1, o1 + k * 5, none⟩ = some (.slice a0 n0 c0) ∧ y.cell? ⟨p1, o1 + k * 5 + 1, none⟩ = some (.int .i64 pc) ∧ y.cell? ⟨p1, o1 + k * 5 + 2, none⟩ = some (.bool on) ∧ y.cell? ⟨p1, o1 + k * 5 + 3, none⟩ = some (.slice a1 n1 c1) ∧ y.cell? ⟨p1, o1 + k * 5 + 4, none⟩ = some (.slice a2 n2 c2)) := fun y hb => ⟨(hb.cell (show w.heap.size < _ from L1)).trans z0, (hb.cell (show w.heap.size < _ from L1)).trans z1, (hb.cell (show w.heap.size < _ from L1)).trans z2, (hb.cell (show w.heap.size < _ from L1)).trans z3, (hb.cell (show w.heap.size < _ from L1)).trans z4, (hb.cell (show w.heap.size < _ from L1)).trans z5, (hb.cell (show w.heap.size < _ from L1)).trans z6, (hb.cell (show w.heap.size < _ from L1)).trans z7, (hb.cell (show p1 < _ from q1)).trans e0, (hb.cell (show p1 < _ from q1)).trans e1, (hb.cell (show p1 < _ from q1)).trans e2, (hb.cell (show p1 < _ from q1)).trans e3, (hb.cell (show p1 < _ from q1)).trans e4⟩
       go_region_held3 (fun w' => w'.cell? ⟨w.heap.size, 0, none⟩ = some (.slice wa nw wc) ∧ w'.cell? ⟨w.heap.size, 1, none⟩ = some (.slice da nd dc) ∧ w'.cell? ⟨w.heap.size, 2, none⟩ = some (.slice (some ⟨p1, o1, none⟩) nt tc) ∧ w'.cell? ⟨w.heap.size, 3, none⟩ = some (.int .i64 tm) ∧ w'.cell? ⟨w.heap.size, 4, none⟩ = some (.slice ca nc cc) ∧ w'.cell? ⟨w.heap.size, 5, none⟩ = some (.slice oa no oc) ∧ w'.cell? ⟨w.heap.size, 6, none⟩ = some (.slice ha nh hc) ∧ w'.cell? ⟨w.heap.size, 7, none⟩ = some (.int .i64 st) ∧ w'.cell? ⟨p1, o1 + k * 5, none⟩ = some (.slice a0 n0 c0) ∧ w'.cell? ⟨p1, o1 + k * 5 + 1, none⟩ = some (.int .i64 pc) ∧ w'.cell? ⟨p1, o1 + k * 5 + 2, none⟩ = some (.bool on) ∧ w'.cell? ⟨p1, o1 + k * 5 + 3, none⟩ = some (.slice a1 n1 c1) ∧ w'.cell? ⟨p1, o1 + k * 5 + 4, none⟩ = some (.slice a2 n2 c2))
         (first | (with_reducible exact K3.out) | (with_reducible exact K2.out) | go_keep)
         (first
         | (go_at_call 66
            refine (specThreadOk_any a0 c0 a1 c1 a2 c2 ⟨n0, fs, pc, on, n1, gs, n2, hs2⟩ nt hnt _ (HTL.out.below (Below.refl wr.heap.size wr).drew (Nat.le_refl _))).mono ?_
            rintro e w4 ⟨ok4, ⟨rfl, hk4⟩, hb4⟩
            have hb4' : Below wr.heap.size wr w4 := (Below.refl _ wr).drew.trans hb4
            have K2 := KF w4 hb4'
            have HB4 : Hid (Below w.heap.size w w4) := HBW.out.trans (hb4'.mono HBW.out.size)
            have HB4' : Hid (Below wr.heap.size wr w4) := hb4'
            obtain rfl : ok4 = true := hk4.2 HTH.out
            clear hb4 hb4' hk4)
         | (go_at_call 67
            refine (specTask_any (.slice wa nw wc) (.slice da nd dc) (.int .i64 tm) (.slice oa no oc) (.slice ha nh hc) (.int .i64 st) (some ⟨p1, o1, none⟩) nt tc ts ca nc cc f k hlt _ (H3.out.below HB4.out (Nat.le_refl _)) (H4.out.below HB4.out (Nat.le_refl _)) HPC.out).mono ?_
            rintro e w5 ⟨ok5, ⟨rfl, hk5⟩, hb5⟩
            have hb5' : Below wr.heap.size wr w5 := HB4'.out.trans (hb5.mono HB4'.out.size)
            have K3 := KF w5 hb5'
            have HB5 : Hid (Below w.heap.size w w5) := HBW.out.trans (hb5'.mono HBW.out.size)
            have HB5' : Hid (Below w3.heap.size w3 w5) := HB.out.trans (hb5'.mono HB.out.size)
            obtain rfl : ok5 = true := by
              exact hk5.2 HTK.out
            clear hb5 hb5' hk5))
       go_wp2
       exact ⟨⟨k + 1, by omega, by go_num, all_next HALL.out HTT.out, HB5'.out⟩, by simp [intOf]; omega⟩
     · have HTK : Hid (¬ TaskSpec f nc (k : Int) (ts k)) := htk
       have HNO : Hid (¬ G) := fun hg => htk ((HG.out.1 hg).ths k hlt).2
       clear htk
       go_wp2_with fail
       have KF : ∀ y, Below wr.heap.size wr y → Hid (y.cell? ⟨w.heap.size, 0, none⟩ = some (.slice wa nw wc) ∧ y.cell? ⟨w.heap.size, 1, none⟩ = some (.slice da nd dc) ∧ y.cell? ⟨w.heap.size, 2, none⟩ = some (.slice (some ⟨p1, o1, none⟩) nt tc) ∧ y.cell? ⟨w.heap.size, 3, none⟩ = some (.int .i64 tm) ∧ y.cell? ⟨w.heap.size, 4, none⟩ = some (.slice ca nc cc) ∧ y.cell? ⟨w.heap.size, 5, none⟩ = some (.slice oa no oc) ∧ y.cell? ⟨w.heap.size, 6, none⟩ = some (.slice ha nh hc) ∧ y.cell? ⟨w.heap.size, 7, none⟩ = some (.int .i64 st) ∧ y.cell? ⟨p1, o1 + k * 5, none⟩ = some (.slice a0 n0 c0) ∧ y.cell? ⟨p1, o1 + k * 5 + 1, none⟩ = some (.int .i64 pc) ∧ y.cell? ⟨p1, o1 + k * 5 + 2, none⟩ = some (.bool on) ∧ y.cell? ⟨p1, o1 + k * 5 + 3, none⟩ = some (.slice a1 n1 c1) ∧ y.cell? ⟨p1, o1 + k * 5 + 4, none⟩ = some (.slice a2 n2 c2)) := fun y hb => ⟨(hb.cell (show w.heap.size < _ from L1)).trans z0, (hb.cell (show w.heap.size < _ from L1)).trans z1, (hb.cell (show w.heap.size < _ from L1)).trans z2, (hb.cell (show w.heap.size < _ from L1)).trans z3, (hb.cell (show w.heap.size < _ from L1)).trans z4, (hb.cell (show w.heap.size < _ from L1)).trans z5, (hb.cell (show w.heap.size < _ from L1)).trans z6, (hb.cell (show w.heap.size < _ from L1)).trans z7, (hb.cell (show p1 < _ from q1)).trans e0, (hb.cell (show p1 < _ from q1)).trans e1, (hb.cell (show p1 < _ from q1)).trans e2, (hb.cell (show p1 < _ from q1)).trans e3, (hb.cell (show p1 < _ from q1)).trans e4⟩
       go_region_held3 (fun w' => w'.cell? ⟨w.heap.size, 0, none⟩ = some (.slice wa nw wc) ∧ w'.cell? ⟨w.heap.size, 1, none⟩ = some (.slice da nd dc) ∧ w'.cell? ⟨w.heap.size, 2, none⟩ = some (.slice (some ⟨p1, o1, none⟩) nt tc) ∧ w'.cell? ⟨w.heap.size, 3, none⟩ = some (.int .i64 tm) ∧ w'.cell? ⟨w.heap.size, 4, none⟩ = some (.slice ca nc cc) ∧ w'.cell? ⟨w.heap.size, 5, none⟩ = some (.slice oa no oc) ∧ w'.cell? ⟨w.heap.size, 6, none⟩ = some (.slice ha nh hc) ∧ w'.cell? ⟨w.heap.size, 7, none⟩ = some (.int .i64 st) ∧ w'.cell? ⟨p1, o1 + k * 5, none⟩ = some (.slice a0 n0 c0) ∧ w'.cell? ⟨p1, o1 + k * 5 + 1, none⟩ = some (.int .i64 pc) ∧ w'.cell? ⟨p1, o1 + k * 5 + 2, none⟩ = some (.bool on) ∧ w'.cell? ⟨p1, o1 + k * 5 + 3, none⟩ = some (.slice a1 n1 c1) ∧ w'.cell? ⟨p1, o1 + k * 5 + 4, none⟩ = some (.slice a2 n2 c2))
         (first | (with_reducible exact K3.out) | (with_reducible exact K2.out) | go_keep)
         (first
         | (go_at_call 66
            refine (specThreadOk_any a0 c0 a1 c1 a2 c2 ⟨n0, fs, pc, on, n1, gs, n2, hs2⟩ nt hnt _ (HTL.out.below (Below.refl wr.heap.size wr).drew (Nat.le_refl _))).mono ?_
            rintro e w4 ⟨ok4, ⟨rfl, hk4⟩, hb4⟩
            have hb4' : Below wr.heap.size wr w4 := (Below.refl _ wr).drew.trans hb4
            have K2 := KF w4 hb4'
            have HB4 : Hid (Below w.heap.size w w4) := HBW.out.trans (hb4'.mono HBW.out.size)
            have HB4' : Hid (Below wr.heap.size wr w4) := hb4'
            obtain rfl : ok4 = true := hk4.2 HTH.out
            clear hb4 hb4' hk4)
         | (go_at_call 67
            refine (specTask_any (.slice wa nw wc) (.slice da nd dc) (.int .i64 tm) (.slice oa no oc) (.slice ha nh hc) (.int .i64 st) (some ⟨p1, o1, none⟩) nt tc ts ca nc cc f k hlt _ (H3.out.below HB4.out (Nat.le_refl _)) (H4.out.below HB4.out (Nat.le_refl _)) HPC.out).mono ?_
            rintro e w5 ⟨ok5, ⟨rfl, hk5⟩, hb5⟩
            have hb5' : Below wr.heap.size wr w5 := HB4'.out.trans (hb5.mono HB4'.out.size)
            have K3 := KF w5 hb5'
            have HB5 : Hid (Below w.heap.size w w5) := HBW.out.trans (hb5'.mono HBW.out.size)
            have HB5' : Hid (Below w3.heap.size w3 w5) := HB.out.trans (hb5'.mono HB.out.size)
            obtain rfl : ok5 = false := by
              cases ok5
              · rfl
              · exact absurd (hk5.1 rfl) HTK.out
            clear hb5 hb5' hk5))
       go_wp2
       go_ret
       exact ⟨false, ⟨rfl, by simp [HNO.out]⟩, HB5.out⟩
   · obtain rfl : nt = k := by omega
     have HYES : Hid G := HG.out.2 ⟨HK1.out.1 (by first | rfl | trivial), HMN.out, HI.out, HK2.out.1 (by first | rfl | trivial), HK3.out.1 (by first | rfl | trivial), HALL.out⟩
     go_wp2
     go_ret
     exact ⟨true, ⟨rfl, by simp [HYES.out]⟩, HBW.out⟩
def classN (v : Int) : Int := if 1 ≤ v ∧ v ≤ 6 then v % 3 else -1
theorem specClassOf_any (k : Int) (w : World) :
   Calls Tryz.prog 121 #[.int .i64 k] w fun e w' => e = .returned (.int .i64 (classN k)) ∧ w' = w := by
 by_cases h : 1 ≤ k ∧ k ≤ 6
 · have h2 : k = 1 ∨ k = 2 ∨ k = 3 ∨ k = 4 ∨ k = 5 ∨ k = 6 := by omega
   clear h
   rcases h2 with rfl | rfl | rfl | rfl | rfl | rfl <;> (go_enter Tryz.func121, Tryz.ntmps121; go_wp2; go_ret; exact ⟨rfl, rfl⟩)
 · rw [show classN k = -1 from if_neg h]
   by_cases h0 : 1 ≤ k
   · have h1 : ¬ k ≤ 6 := by omega
     clear h
     go_enter Tryz.func121, Tryz.ntmps121
     go_wp2
     go_ret
     exact ⟨rfl, rfl⟩
   · clear h
     go_enter Tryz.func121, Tryz.ntmps121
     go_wp2
     go_ret
     exact ⟨rfl, rfl⟩
theorem implClassOf_any (k : Int) (w : World) :
   Calls Tryz.prog 96 #[.int .i64 k] w fun e w' => e = .returned (.int .i64 (classN k)) ∧ w' = w := by
 by_cases h : 1 ≤ k ∧ k ≤ 6
 · have h2 : k = 1 ∨ k = 2 ∨ k = 3 ∨ k = 4 ∨ k = 5 ∨ k = 6 := by omega
   clear h
   rcases h2 with rfl | rfl | rfl | rfl | rfl | rfl <;> (go_enter Tryz.func96, Tryz.ntmps96; go_wp2; go_ret; exact ⟨rfl, rfl⟩)
 · rw [show classN k = -1 from if_neg h]
   by_cases h0 : 1 ≤ k
   · have h1 : ¬ k ≤ 6 := by omega
     clear h
     go_enter Tryz.func96, Tryz.ntmps96
     go_wp2
     go_ret
     exact ⟨rfl, rfl⟩
   · clear h
     go_enter Tryz.func96, Tryz.ntmps96
     go_wp2
     go_ret
     exact ⟨rfl, rfl⟩
end
def ownW (y0 y1 y2 y3 v : Int) : Int := if y0 = v then 1 else if y1 = v then 2 else if y2 = v then 3 else if y3 = v then 4 else 0
def bitW (y c : Int) : Int := if (1 ≤ y ∧ y ≤ 6) ∧ classN y = c then 1 else 0
def clsW (y0 y1 y2 y3 c : Int) : Int := bitW y0 c + bitW y1 c + bitW y2 c + bitW y3 c
def viaW (y0 y1 y2 y3 st v : Int) : Int := if ownW y0 y1 y2 y3 v < st then ownW y0 y1 y2 y3 v else 0
def wordsG (y0 y1 y2 y3 c0 c1 c2 s st : Int) : List Int :=
 [y0, y1, y2, y3, ownW y0 y1 y2 y3 1, ownW y0 y1 y2 y3 2, ownW y0 y1 y2 y3 3, ownW y0 y1 y2 y3 4, ownW y0 y1 y2 y3 5, ownW y0 y1 y2 y3 6, c0, c1, c2, s,
  viaW y0 y1 y2 y3 st 1, viaW y0 y1 y2 y3 st 2, viaW y0 y1 y2 y3 st 3, viaW y0 y1 y2 y3 st 4, viaW y0 y1 y2 y3 st 5, viaW y0 y1 y2 y3 st 6]
def wordsL (y0 y1 y2 y3 st : Int) : List Int := wordsG y0 y1 y2 y3 (clsW y0 y1 y2 y3 0) (clsW y0 y1 y2 y3 1) (clsW y0 y1 y2 y3 2) st st
def stepW (L : List Int) (k : Nat) (x : Int) (st : Int) : List Int :=
 if (k : Int) + 1 < st then ((L.set k x).set (x + 3).toNat ((k : Int) + 1)).set (x + 13).toNat ((k : Int) + 1) else (L.set k x).set (x + 3).toNat ((k : Int) + 1)
theorem vals6 {x : Int} (h : 1 ≤ x ∧ x ≤ 6) : x = 1 ∨ x = 2 ∨ x = 3 ∨ x = 4 ∨ x = 5 ∨ x = 6 := by omega
theorem step0 (y1 y2 y3 c0 c1 c2 s st x : Int) (hx : 1 ≤ x ∧ x ≤ 6) (h1 : y1 ≠ x) (h2 : y2 ≠ x) (h3 : y3 ≠ x) : stepW (wordsG 0 y1 y2 y3 c0 c1 c2 s st) 0 x st = wordsG x y1 y2 y3 c0 c1 c2 s st := by
 rcases vals6 hx with rfl | rfl | rfl | rfl | rfl | rfl <;> by_cases hs : 1 < st <;> simp [stepW, wordsG, ownW, viaW, h1, h2, h3, hs]
theorem step1 (y0 y2 y3 c0 c1 c2 s st x : Int) (hx : 1 ≤ x ∧ x ≤ 6) (h0 : y0 ≠ x) (h2 : y2 ≠ x) (h3 : y3 ≠ x) : stepW (wordsG y0 0 y2 y3 c0 c1 c2 s st) 1 x st = wordsG y0 x y2 y3 c0 c1 c2 s st := by
 rcases vals6 hx with rfl | rfl | rfl | rfl | rfl | rfl <;> by_cases hs : 2 < st <;> simp [stepW, wordsG, ownW, viaW, h0, h2, h3, hs]
theorem step2 (y0 y1 y3 c0 c1 c2 s st x : Int) (hx : 1 ≤ x ∧ x ≤ 6) (h0 : y0 ≠ x) (h1 : y1 ≠ x) (h3 : y3 ≠ x) : stepW (wordsG y0 y1 0 y3 c0 c1 c2 s st) 2 x st = wordsG y0 y1 x y3 c0 c1 c2 s st := by
 rcases vals6 hx with rfl | rfl | rfl | rfl | rfl | rfl <;> by_cases hs : 3 < st <;> simp [stepW, wordsG, ownW, viaW, h0, h1, h3, hs]
theorem step3 (y0 y1 y2 c0 c1 c2 s st x : Int) (hx : 1 ≤ x ∧ x ≤ 6) (h0 : y0 ≠ x) (h1 : y1 ≠ x) (h2 : y2 ≠ x) : stepW (wordsG y0 y1 y2 0 c0 c1 c2 s st) 3 x st = wordsG y0 y1 y2 x c0 c1 c2 s st := by
 rcases vals6 hx with rfl | rfl | rfl | rfl | rfl | rfl <;> by_cases hs : 4 < st <;> simp [stepW, wordsG, ownW, viaW, h0, h1, h2, hs]
theorem bitW_zero {c : Int} : bitW 0 c = 0 := by simp [bitW]
theorem wordsG_new (st : Int) : wordsG 0 0 0 0 0 0 0 0 st = List.replicate 20 0 := by
 simp [wordsG, ownW, viaW, List.replicate_succ]
theorem wordsL_new (st : Int) : wordsL 0 0 0 0 st = (List.replicate 20 0).set 13 st := by
 simp [wordsL, clsW, bitW_zero, wordsG, ownW, viaW, List.replicate_succ]
def istepW (L : List Int) (k : Nat) (x : Int) (st : Int) : List Int :=
 if (k : Int) + 1 < st then (((L.set k x).set (x + 3).toNat ((k : Int) + 1)).set (10 + x % 3).toNat (((L.set k x).set (x + 3).toNat ((k : Int) + 1)).getD (10 + x % 3).toNat 0 + 1)).set (x + 13).toNat ((k : Int) + 1)
 else ((L.set k x).set (x + 3).toNat ((k : Int) + 1)).set (10 + x % 3).toNat (((L.set k x).set (x + 3).toNat ((k : Int) + 1)).getD (10 + x % 3).toNat 0 + 1)
theorem bitW_vals : bitW 1 0 = 0 ∧ bitW 1 1 = 1 ∧ bitW 1 2 = 0 ∧ bitW 2 0 = 0 ∧ bitW 2 1 = 0 ∧ bitW 2 2 = 1 ∧ bitW 3 0 = 1 ∧ bitW 3 1 = 0 ∧ bitW 3 2 = 0 ∧ bitW 4 0 = 0 ∧ bitW 4 1 = 1 ∧ bitW 4 2 = 0 ∧ bitW 5 0 = 0 ∧ bitW 5 1 = 0 ∧ bitW 5 2 = 1 ∧ bitW 6 0 = 1 ∧ bitW 6 1 = 0 ∧ bitW 6 2 = 0 := by decide
theorem istep0 (y1 y2 y3 st x : Int) (hx : 1 ≤ x ∧ x ≤ 6) (h1 : y1 ≠ x) (h2 : y2 ≠ x) (h3 : y3 ≠ x) : istepW (wordsL 0 y1 y2 y3 st) 0 x st = wordsL x y1 y2 y3 st := by
 rcases vals6 hx with rfl | rfl | rfl | rfl | rfl | rfl <;> by_cases hs : 1 < st <;> simp [istepW, wordsL, wordsG, ownW, viaW, clsW, bitW_zero, bitW_vals, h1, h2, h3, hs] <;> omega
theorem istep1 (y0 y2 y3 st x : Int) (hx : 1 ≤ x ∧ x ≤ 6) (h0 : y0 ≠ x) (h2 : y2 ≠ x) (h3 : y3 ≠ x) : istepW (wordsL y0 0 y2 y3 st) 1 x st = wordsL y0 x y2 y3 st := by
 rcases vals6 hx with rfl | rfl | rfl | rfl | rfl | rfl <;> by_cases hs : 2 < st <;> simp [istepW, wordsL, wordsG, ownW, viaW, clsW, bitW_zero, bitW_vals, h0, h2, h3, hs] <;> omega
theorem istep2 (y0 y1 y3 st x : Int) (hx : 1 ≤ x ∧ x ≤ 6) (h0 : y0 ≠ x) (h1 : y1 ≠ x) (h3 : y3 ≠ x) : istepW (wordsL y0 y1 0 y3 st) 2 x st = wordsL y0 y1 x y3 st := by
 rcases vals6 hx with rfl | rfl | rfl | rfl | rfl | rfl <;> by_cases hs : 3 < st <;> simp [istepW, wordsL, wordsG, ownW, viaW, clsW, bitW_zero, bitW_vals, h0, h1, h3, hs] <;> omega
theorem istep3 (y0 y1 y2 st x : Int) (hx : 1 ≤ x ∧ x ≤ 6) (h0 : y0 ≠ x) (h1 : y1 ≠ x) (h2 : y2 ≠ x) : istepW (wordsL y0 y1 y2 0 st) 3 x st = wordsL y0 y1 y2 x st := by
 rcases vals6 hx with rfl | rfl | rfl | rfl | rfl | rfl <;> by_cases hs : 4 < st <;> simp [istepW, wordsL, wordsG, ownW, viaW, clsW, bitW_zero, bitW_vals, h0, h1, h2, hs] <;> omega
section
open Go.ChangeShapes Go.WideShapes Go.ChangeAt Go.RowKit
def cntK (xs : List Int) (c : Int) : Nat → Int
 | 0 => 0
 | k + 1 => cntK xs c k + bitW (xs.getD k 0) c
theorem bitW_le (y c : Int) : 0 ≤ bitW y c ∧ bitW y c ≤ 1 := by unfold bitW; split <;> omega
theorem cntK_le (xs : List Int) (c : Int) (k : Nat) : 0 ≤ cntK xs c k ∧ cntK xs c k ≤ (k : Int) := by
 induction k with
 | zero => simp [cntK]
 | succ k ih =>
   have := bitW_le (xs.getD k 0) c
   simp only [cntK]
   omega
theorem cntK_four (xs : List Int) (c : Int) : cntK xs c 4 = clsW (xs.getD 0 0) (xs.getD 1 0) (xs.getD 2 0) (xs.getD 3 0) c := by
 simp [cntK, clsW]
theorem l1Bit_any (b : Bool) (w : World) : Calls Tryz.prog 118 #[.bool b] w fun e w' => e = .returned (.int .i64 (if b then 1 else 0)) ∧ w' = w := by
 cases b
 · go_enter Tryz.func118, Tryz.ntmps118
   go_wp2
   go_ret
   exact ⟨rfl, rfl⟩
 · go_enter Tryz.func118, Tryz.ntmps118
   go_wp2
   go_ret
   exact ⟨rfl, rfl⟩
theorem specHowMany_four (a : Option Addr) (cp : Nat) (st c : Int) (xs : List Int) (w : World) (hA : IntAt w a 4 xs) :
   Calls Tryz.prog 72 #[.agg #[.slice a 4 cp, .int .i64 st], .int .i64 c] w fun e w' => e = .returned (.int .i64 (cntK xs c 4)) ∧ Below w.heap.size w w' := by
 have HA : Hid (IntAt w a 4 xs) := hA
 clear hA
 go_enter Tryz.func72, Tryz.ntmps72
 go_wp2
 go_loopw [5, 6] (fun q i wr => ∃ k : Nat, k ≤ 4 ∧ q = .int .i64 (cntK xs c k) ∧ i = .int .i64 (k : Int) ∧ Below (w.heap.size + 1) (w.alloc (.cells #[.slice a 4 cp, .int .i64 st] 41)) wr) (fun _ i _ => 4 - (intOf i).toNat)
 case atStart => exact ⟨0, Nat.zero_le _, rfl, rfl, Below.refl _ _⟩
 case round =>
   obtain ⟨k, hk, rfl, rfl, hb⟩ := hrel
   have hbw : Below w.heap.size w wr := ((Below.refl _ w).alloc (Nat.le_refl _) _).trans (hb.mono (Nat.le_succ _))
   have hc0 : wr.cell? ⟨w.heap.size, 0, none⟩ = some (.slice a 4 cp) := by rw [hb.cell (by simp)]; simp
   by_cases hlt : k < 4
   · rcases (HA.out.below hbw (Nat.le_refl _)).2.2 with h0 | ⟨p1, o1, rfl, g1⟩
     · omega
     have e1 := g1 k hlt
     obtain ⟨x, hx⟩ : ∃ x, xs.getD k 0 = x := ⟨_, rfl⟩
     rw [hx] at e1
     obtain ⟨q, hq⟩ : ∃ q, cntK xs c k = q := ⟨_, rfl⟩
     have hqb := cntK_le xs c k
     have hnext : Hid (cntK xs c (k + 1) = cntK xs c k + bitW x c) := by rw [← hx]; rfl
     rw [hq] at hqb ⊢
     have HQ : Hid (cntK xs c k = q) := hq
     clear g1 hx hq
     by_cases hv : 1 ≤ x ∧ x ≤ 6
     · by_cases hc : classN x = c
       · have hbit : Hid (bitW x c = 1) := by simp [Hid, bitW, hv, hc]
         have hcc : (classN x == c) = true := by simpa using hc
         clear hc
         go_wp2_with (first
           | (go_at_call 115; refine (specValOk_any x _).mono ?_; rintro e w1 ⟨rfl, rfl⟩; rw [show decide (1 ≤ x ∧ x ≤ 6) = true from decide_eq_true hv])
           | (go_at_call 121; refine (specClassOf_any x _).mono ?_; rintro e w1 ⟨rfl, rfl⟩)
           | (go_at_call 118; refine (l1Bit_any _ _).mono ?_; rintro e w1 ⟨rfl, rfl⟩))
         exact ⟨⟨k + 1, by omega, by rw [hnext.out, HQ.out, hbit.out], by go_num, hb⟩, by simp [intOf]; omega⟩
       · have hbit : Hid (bitW x c = 0) := by simp [Hid, bitW, hc]
         have hcc : (classN x == c) = false := by simpa using hc
         clear hc
         go_wp2_with (first
           | (go_at_call 115; refine (specValOk_any x _).mono ?_; rintro e w1 ⟨rfl, rfl⟩; rw [show decide (1 ≤ x ∧ x ≤ 6) = true from decide_eq_true hv])
           | (go_at_call 121; refine (specClassOf_any x _).mono ?_; rintro e w1 ⟨rfl, rfl⟩)
           | (go_at_call 118; refine (l1Bit_any _ _).mono ?_; rintro e w1 ⟨rfl, rfl⟩))
         exact ⟨⟨k + 1, by omega, by rw [hnext.out, HQ.out, hbit.out, Int.add_zero], by go_num, hb⟩, by simp [intOf]; omega⟩
     · have hbit : Hid (bitW x c = 0) := by simp [Hid, bitW, hv]
       go_wp2_with (first
         | (go_at_call 115; refine (specValOk_any x _).mono ?_; rintro e w1 ⟨rfl, rfl⟩; rw [show decide (1 ≤ x ∧ x ≤ 6) = false from decide_eq_false hv])
         | (go_at_call 118; refine (l1Bit_any _ _).mono ?_; rintro e w1 ⟨rfl, rfl⟩))
       exact ⟨⟨k + 1, by omega, by rw [hnext.out, HQ.out, hbit.out, Int.add_zero], by go_num, hb⟩, by simp [intOf]; omega⟩
   · obtain rfl : k = 4 := by omega
     go_wp2
     go_ret
     exact ⟨rfl, hbw⟩
end
def keyN (xs : List Int) (v : Int) : Int :=
 if xs.getD 0 0 = v then 0 else if xs.getD 1 0 = v then 1 else if xs.getD 2 0 = v then 2 else if xs.getD 3 0 = v then 3 else -1
theorem keyN_is (xs : List Int) (v : Int) : KeyIs xs 4 v (keyN xs v) := by
 unfold keyN
 split
 · exact .inr ⟨0, by omega, rfl, by assumption, fun j hj => by omega⟩
 split
 · exact .inr ⟨1, by omega, rfl, by assumption, fun j hj => by obtain rfl : j = 0 := by omega
                                                               assumption⟩
 split
 · exact .inr ⟨2, by omega, rfl, by assumption, fun j hj => by rcases (show j = 0 ∨ j = 1 by omega) with rfl | rfl <;> assumption⟩
 split
 · exact .inr ⟨3, by omega, rfl, by assumption, fun j hj => by rcases (show j = 0 ∨ j = 1 ∨ j = 2 by omega) with rfl | rfl | rfl <;> assumption⟩
 · exact .inl ⟨rfl, fun j hj => by rcases (show j = 0 ∨ j = 1 ∨ j = 2 ∨ j = 3 by omega) with rfl | rfl | rfl | rfl <;> assumption⟩
theorem KeyIs.keyN {xs : List Int} {v r : Int} (h : KeyIs xs 4 v r) : r = keyN xs v := h.one (keyN_is xs v)
theorem keyN_le (xs : List Int) (v : Int) : -1 ≤ keyN xs v ∧ keyN xs v ≤ 3 := by unfold Go.Proofs.YtbfolanfbagofaaGreatDoor.keyN; repeat (first | split | omega)
abbrev atK (xs : List Int) (k : Int) : Int := xs.getD k.toNat 0
def FailsM (xs : List Int) (st kind k v code : Int) : Prop :=
 (code = 1 ∧ kind = 1 ∧ atK xs k ≠ 0) ∨ (code = 2 ∧ (kind = 1 ∨ kind = 2) ∧ 0 ≤ keyN xs v)
 ∨ (code = 3 ∧ (((kind = 2 ∨ kind = 3 ∨ kind = 4) ∧ atK xs k = 0) ∨ (kind = 5 ∧ keyN xs v < 0) ∨ (kind = 10 ∧ st = 5 ∧ keyN xs v < 0)))
 ∨ (code = 4 ∧ ((kind = 8 ∧ st ≠ 0) ∨ (kind = 9 ∧ (st = 0 ∨ st = 5)) ∨ (kind = 10 ∧ st ≠ 5)))
def DoneM (xs : List Int) (st kind k v : Int) : Prop :=
 (kind = 1 ∧ atK xs k = 0 ∧ keyN xs v < 0) ∨ (kind = 2 ∧ atK xs k ≠ 0 ∧ (keyN xs v < 0 ∨ keyN xs v = k)) ∨ (kind = 3 ∧ atK xs k ≠ 0) ∨ (kind = 4 ∧ atK xs k ≠ 0)
 ∨ (kind = 5 ∧ 0 ≤ keyN xs v) ∨ kind = 6 ∨ kind = 7 ∨ (kind = 8 ∧ st = 0) ∨ (kind = 9 ∧ 1 ≤ st ∧ st ≤ 4) ∨ (kind = 10 ∧ st = 5 ∧ 0 ≤ keyN xs v)
def listM (xs : List Int) (kind k v : Int) : List Int :=
 if kind = 4 then [atK xs k] else if kind = 5 ∨ kind = 10 then [keyN xs v] else if kind = 6 then [cntK xs k 4] else if kind = 7 then xs else []
def AllowM (xs : List Int) (st kind k v code : Int) (ys : List Int) : Prop :=
 OkRows xs st ∧ OpGood kind k v ∧ ((code ≠ 0 ∧ ys = [] ∧ FailsM xs st kind k v code) ∨ (code = 0 ∧ DoneM xs st kind k v ∧ listM xs kind k v = ys))
def AfterM (xs : List Int) (st kind k v code : Int) (ys zs : List Int) (st' : Int) : Prop :=
 (AllowM xs st kind k v code ys ∧ code = 0 ∧ (((kind = 1 ∨ kind = 2) ∧ zs = xs.set k.toNat v ∧ st' = st) ∨ (kind = 3 ∧ zs = xs.set k.toNat 0 ∧ st' = st)
   ∨ ((kind = 8 ∨ kind = 9) ∧ zs = xs ∧ st' = st + 1) ∨ ((4 ≤ kind ∧ kind ≤ 7 ∨ kind = 10) ∧ zs = xs ∧ st' = st)))
 ∨ (¬ (AllowM xs st kind k v code ys ∧ code = 0) ∧ zs = xs ∧ st' = st)
theorem AfterM.one {xs : List Int} {st kind k v code : Int} {ys zs zs2 : List Int} {s1 s2 : Int} (h : AfterM xs st kind k v code ys zs s1) (g : AfterM xs st kind k v code ys zs2 s2) : zs = zs2 ∧ s1 = s2 := by
 rcases h with ⟨ha, hc, h⟩ | ⟨hn, h1, h2⟩
 · rcases g with ⟨_, _, g⟩ | ⟨gn, _⟩
   · rcases h with ⟨h0, rfl, rfl⟩ | ⟨h0, rfl, rfl⟩ | ⟨h0, rfl, rfl⟩ | ⟨h0, rfl, rfl⟩ <;> rcases g with ⟨g0, rfl, rfl⟩ | ⟨g0, rfl, rfl⟩ | ⟨g0, rfl, rfl⟩ | ⟨g0, rfl, rfl⟩ <;> first | exact ⟨rfl, rfl⟩ | (exfalso; omega)
   · exact absurd ⟨ha, hc⟩ gn
 · rcases g with ⟨ga, gc, _⟩ | ⟨_, g1, g2⟩
   · exact absurd ⟨ga, gc⟩ hn
   · exact ⟨h1.trans g1.symm, h2.trans g2.symm⟩
instance (xs : List Int) (st kind k v code : Int) : Decidable (FailsM xs st kind k v code) := by unfold FailsM; infer_instance
instance (xs : List Int) (st kind k v : Int) : Decidable (DoneM xs st kind k v) := by unfold DoneM; infer_instance
section
open Go.ChangeShapes Go.WideShapes Go.ChangeAt Go.RowKit
theorem codes (code : Int) : code = 1 ∨ code = 2 ∨ code = 3 ∨ code = 4 ∨ ((code == 1) = false ∧ (code == 2) = false ∧ (code == 3) = false ∧ (code == 4) = false) := by
 simp only [beq_eq_false_iff_ne, ne_eq]; omega
theorem says_iff {b : Bool} {P : Prop} [Decidable P] (h : b = true ↔ P) : Ending.returned (.bool b) = .returned (.bool (decide P)) := by
 rw [show b = decide P by cases b <;> simp at h ⊢ <;> exact h]
def DoneSays (e : Ending) (w' : World) (zs : List Int) (b : Bool) : Prop := ∃ (a' : Option Addr) (c' : Nat), e = .returned (.tuple #[.slice a' zs.length c', .bool b]) ∧ IntAt w' a' zs.length zs
theorem neb (a b : Int) : (a = b ∧ (a != b) = false) ∨ (¬ a = b ∧ (a != b) = true) := by
 by_cases h : a = b
 · exact .inl ⟨h, by simp [h]⟩
 · exact .inr ⟨h, by simp [h]⟩
theorem says_two {x y : Value} {b : Bool} {P : Prop} [Decidable P] (hx : x = y) (h : b = true ↔ P) : Ending.returned (.tuple #[x, .bool b]) = .returned (.tuple #[y, .bool (decide P)]) := by
 rw [hx, show b = decide P by cases b <;> simp at h ⊢ <;> exact h]
def Args (w : World) (ra oa sa : Array Value) (wr : World) : Prop :=
 (∀ i u, ra[i]? = some u → wr.cell? ⟨w.heap.size, i, none⟩ = some u) ∧ (∀ i u, oa[i]? = some u → wr.cell? ⟨w.heap.size + 1, i, none⟩ = some u) ∧ (∀ i u, sa[i]? = some u → wr.cell? ⟨w.heap.size + 1 + 1, i, none⟩ = some u)
theorem args_at (w : World) (ra oa sa : Array Value) (T1 T2 T3 : TypeId) (wr : World) (h : Below (w.heap.size + 1 + 1 + 1) (((w.alloc (.cells ra T1)).alloc (.cells oa T2)).alloc (.cells sa T3)) wr) : Args w ra oa sa wr := by
 refine ⟨fun i u hu => ?_, fun i u hu => ?_, fun i u hu => ?_⟩
 · rw [h.cell (show w.heap.size < w.heap.size + 1 + 1 + 1 by omega), World.cell?_alloc_past _ _ _ (by simp; omega), World.cell?_alloc_past _ _ _ (by simp), World.cell?_alloc_at _ _ _ _ rfl]
   exact hu
 · rw [h.cell (show w.heap.size + 1 < w.heap.size + 1 + 1 + 1 by omega), World.cell?_alloc_past _ _ _ (by simp), World.cell?_alloc_at _ _ _ _ (by simp)]
   exact hu
 · rw [h.cell (show w.heap.size + 1 + 1 < w.heap.size + 1 + 1 + 1 by omega), World.cell?_alloc_at _ _ _ _ (by simp)]
   exact hu
def Four (w : World) (ra oa sa va : Array Value) (wr : World) : Prop :=
 (∀ i u, ra[i]? = some u → wr.cell? ⟨w.heap.size, i, none⟩ = some u) ∧ (∀ i u, oa[i]? = some u → wr.cell? ⟨w.heap.size + 1, i, none⟩ = some u) ∧ (∀ i u, sa[i]? = some u → wr.cell? ⟨w.heap.size + 1 + 1, i, none⟩ = some u)
   ∧ (∀ i u, va[i]? = some u → wr.cell? ⟨w.heap.size + 1 + 1 + 1, i, none⟩ = some u) ∧ (∀ i, wr.frozen? ⟨w.heap.size + 1 + 1 + 1, i, none⟩ = false)
theorem four_at (w : World) (ra oa sa va : Array Value) (T1 T2 T3 T4 : TypeId) (wr : World) (h : Below (w.heap.size + 1 + 1 + 1 + 1) ((((w.alloc (.cells ra T1)).alloc (.cells oa T2)).alloc (.cells sa T3)).alloc (.cells va T4)) wr) : Four w ra oa sa va wr := by
 refine ⟨fun i u hu => ?_, fun i u hu => ?_, fun i u hu => ?_, fun i u hu => ?_, fun i => ?_⟩
 · rw [h.cell (show w.heap.size < w.heap.size + 1 + 1 + 1 + 1 by omega), World.cell?_alloc_past _ _ _ (by simp; omega), World.cell?_alloc_past _ _ _ (by simp; omega), World.cell?_alloc_past _ _ _ (by simp), World.cell?_alloc_at _ _ _ _ rfl]
   exact hu
 · rw [h.cell (show w.heap.size + 1 < w.heap.size + 1 + 1 + 1 + 1 by omega), World.cell?_alloc_past _ _ _ (by simp; try omega), World.cell?_alloc_past _ _ _ (by simp), World.cell?_alloc_at _ _ _ _ (by simp)]
   exact hu
 · rw [h.cell (show w.heap.size + 1 + 1 < w.heap.size + 1 + 1 + 1 + 1 by omega), World.cell?_alloc_past _ _ _ (by simp), World.cell?_alloc_at _ _ _ _ (by simp)]
   exact hu
 · rw [h.cell (show w.heap.size + 1 + 1 + 1 < w.heap.size + 1 + 1 + 1 + 1 by omega), World.cell?_alloc_at _ _ _ _ (by simp)]
   exact hu
 · rw [h.frozen (show w.heap.size + 1 + 1 + 1 < w.heap.size + 1 + 1 + 1 + 1 by omega)]
   simp [World.frozen?_alloc_at]
def AfterSays (e : Ending) (w w' : World) (n : Nat) (A : List Int → Int → Prop) : Prop :=
 ∃ (zs : List Int) (st' : Int) (a' : Option Addr) (c' : Nat), e = .returned (.agg #[.slice a' n c', .int .i64 st']) ∧ A zs st' ∧ w'.ownsRow w.heap.size 3 1 (.slice a' n c') n (zs.map I)
end
end Go.Proofs.YtbfolanfbagofaaGreatDoor
