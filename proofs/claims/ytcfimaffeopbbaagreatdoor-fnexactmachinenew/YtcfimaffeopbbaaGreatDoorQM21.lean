/- Texts joined: SpecMa, NwA. -/
import Derived.Test.YtcfimaffeopbbaaGreatDoorQM13
import Derived.Test.YtcfimaffeopbbaaGreatDoorQM06
import Derived.Test.YtcfimaffeopbbaaGreatDoorQM20
import Derived.Test.YtcfimaffeopbbaaGreatDoorQM12
import Derived.Test.YtcfimaffeopbbaaGreatDoorQM15
import Derived.Test.YtcfimaffeopbbaaGreatDoorQM16
set_option maxHeartbeats 16000000
set_option maxRecDepth 100000
namespace Go.Proofs.YtcfimaffeopbbaaGreatDoor
section
open Go.ChangeShapes Go.WideShapes Go.ChangeAt Go.RowKit
theorem specMachineOk_any (wa : Option Addr) (wc : Nat) (da : Option Addr) (dc : Nat) (ta : Option Addr) (tc : Nat) (ca : Option Addr) (cc : Nat) (oa : Option Addr) (oc : Nat) (ha : Option Addr) (hc : Nat) (M : MaD) (w : World) (h : MaAt w wa da ta ca oa ha M) :
   Calls Tryz.prog 22 #[MaV wa wc da dc ta tc ca cc oa oc ha hc M] w fun e w' => ∃ ok, (e = .returned (.bool ok) ∧ (ok = true ↔ MachGood M)) ∧ Below w.heap.size w w' := by
 obtain ⟨G, hG⟩ : ∃ G : Prop, MachGood M = G := ⟨_, rfl⟩
 rw [hG]
 obtain ⟨nw, ws, nd, ds, nt, ts, tm, nc, f, no, os, nh, hs, st⟩ := M
 have HG : Hid (G ↔ MachGood ⟨nw, ws, nd, ds, nt, ts, tm, nc, f, no, os, nh, hs, st⟩) := by show _ ↔ _; rw [hG]
 have H1 : Hid (TripAt w wa nw ws) := h.words
 have H2 : Hid (DescAt w da nd ds) := h.descs
 have H3 : Hid (ThsAt w ta nt ts) := h.ths
 have H4 : Hid (CasAt w ca nc f) := h.calls
 have H5 : Hid (IntAt w oa no os) := h.ord
 have H6 : Hid (IntAt w ha nh hs) := h.held
 have hnt := h.ths.1
 have hnd := h.descs.2.1
 have HND : Hid (ds.length = nd) := h.descs.1
 have HNH : Hid (hs.length = nh) := h.held.1
 dsimp only at hnt hnd
 show Calls Tryz.prog 22 #[.agg #[.slice wa nw wc, .slice da nd dc, .slice ta nt tc, .int .i64 tm, .slice ca nc cc, .slice oa no oc, .slice ha nh hc, .int .i64 st]] w fun e w' => ∃ ok, (e = .returned (.bool ok) ∧ (ok = true ↔ G)) ∧ Below w.heap.size w w'
 obtain ⟨W, hW⟩ : ∃ W, w.alloc (.cells #[.slice wa nw wc, .slice da nd dc, .slice ta nt tc, .int .i64 tm, .slice ca nc cc, .slice oa no oc, .slice ha nh hc, .int .i64 st] 36) = W := ⟨_, rfl⟩
 have hb0 : Below w.heap.size w W := by rw [← hW]; exact (Below.refl _ w).alloc (Nat.le_refl _) _
 have BX : Hid (Box W w.heap.size #[.slice wa nw wc, .slice da nd dc, .slice ta nt tc, .int .i64 tm, .slice ca nc cc, .slice oa no oc, .slice ha nh hc, .int .i64 st] 36) := by rw [← hW]; exact box_of w _ _
 have HB0 : Hid (Below w.heap.size w W) := hb0
 have HW : Hid (w.alloc (.cells #[.slice wa nw wc, .slice da nd dc, .slice ta nt tc, .int .i64 tm, .slice ca nc cc, .slice oa no oc, .slice ha nh hc, .int .i64 st] 36) = W) := hW
 clear h hb0 hW hG
 go_enter Tryz.func22, Tryz.ntmps22
 go_wp2_with fail
 rw [HW.out]
 refine (specMemOk_any wa nw wc ws da nd dc ds W (H1.out.below HB0.out (Nat.le_refl _)) (H2.out.below HB0.out (Nat.le_refl _))).mono ?_
 rintro e w1 ⟨ok1, ⟨rfl, hk1⟩, hb1⟩
 have BX1 : Hid (Box w1 w.heap.size #[.slice wa nw wc, .slice da nd dc, .slice ta nt tc, .int .i64 tm, .slice ca nc cc, .slice oa no oc, .slice ha nh hc, .int .i64 st] 36) := BX.out.below hb1 BX.out.lt
 have HB1 : Hid (Below w.heap.size w w1) := HB0.out.trans (hb1.mono HB0.out.size)
 obtain ⟨z0, z1, z2, z3, z4, z5, z6, z7⟩ := eight_of BX1.out
 have L1 : w.heap.size < w1.heap.size := BX1.out.lt
 have HK1 : Hid (ok1 = true ↔ MemGood ws nw ds) := hk1
 clear hb1 hk1
 rcases ok1 with _ | _
 · have HNO : Hid (¬ G) := fun hg => by have := HK1.out.2 (HG.out.1 hg).mem; cases this
   go_wp2
   go_ret
   exact ⟨false, ⟨rfl, by simp [HNO.out]⟩, HB1.out⟩
 by_cases hmn : nd = nt
 case neg =>
   have hmn' : ((nd : Int) != (nt : Int)) = true := by simp; omega
   have HNO : Hid (¬ G) := fun hg => hmn (HG.out.1 hg).many
   go_wp2
   go_ret
   exact ⟨false, ⟨rfl, by simp [HNO.out]⟩, HB1.out⟩
 have hmn' : ((nd : Int) != (nt : Int)) = false := by simp [hmn]
 have HMN : Hid (nd = nt) := hmn
 clear hmn
 go_wp2_with fail
 refine (l1In_g _ _ _ _).mono ?_
 rintro e w1' ⟨rfl, rfl⟩
 rcases hI : inB tm 0 100000 with _ | _
 · have HNO : Hid (¬ G) := fun hg => by have := (HG.out.1 hg).time; dsimp only at this; rw [hI] at this; cases this
   go_wp2
   go_ret
   exact ⟨false, ⟨rfl, by simp [HNO.out]⟩, HB1.out⟩
 have HI : Hid (inB tm 0 100000 = true) := hI
 clear hI
 go_wp2_with fail
 refine (specRowsOk_any ha nh hc st hs _ (H6.out.below HB1.out (Nat.le_refl _))).mono ?_
 rintro e w2 ⟨⟨ok2, rfl, hk2⟩, hb2⟩
 have BX2 : Hid (Box w2 w.heap.size #[.slice wa nw wc, .slice da nd dc, .slice ta nt tc, .int .i64 tm, .slice ca nc cc, .slice oa no oc, .slice ha nh hc, .int .i64 st] 36) := BX1.out.below hb2 BX1.out.lt
 have HB2 : Hid (Below w.heap.size w w2) := HB1.out.trans (hb2.mono HB1.out.size)
 have HK2 : Hid (ok2 = true ↔ OkRows hs st) := by show _ ↔ _; rw [← ok_iff HNH.out]; exact hk2
 clear z0 z1 z2 z3 z4 z5 z6 z7 L1 hb2 hk2
 obtain ⟨z0, z1, z2, z3, z4, z5, z6, z7⟩ := eight_of BX2.out
 have L1 : w.heap.size < w2.heap.size := BX2.out.lt
 rcases ok2 with _ | _
 · have HNO : Hid (¬ G) := fun hg => by have := HK2.out.2 (HG.out.1 hg).first; cases this
   go_wp2
   go_ret
   exact ⟨false, ⟨rfl, by simp [HNO.out]⟩, HB2.out⟩
 go_wp2_with fail
 refine (specCalls_any (.slice wa nw wc) (.slice da nd dc) (.slice ha nh hc) (.int .i64 st) ta nt tc hnt tm ca nc cc f oa no oc os _ (H4.out.below HB2.out (Nat.le_refl _)) (H5.out.below HB2.out (Nat.le_refl _))).mono ?_
 rintro e w3 ⟨ok3, ⟨rfl, hk3⟩, hb3⟩
 have BX3 : Hid (Box w3 w.heap.size #[.slice wa nw wc, .slice da nd dc, .slice ta nt tc, .int .i64 tm, .slice ca nc cc, .slice oa no oc, .slice ha nh hc, .int .i64 st] 36) := BX2.out.below hb3 BX2.out.lt
 have HB3 : Hid (Below w.heap.size w w3) := HB2.out.trans (hb3.mono HB2.out.size)
 have HK3 : Hid (ok3 = true ↔ CallsGood f nc os no nt tm) := hk3
 clear z0 z1 z2 z3 z4 z5 z6 z7 L1 hb3 hk3
 obtain ⟨z0, z1, z2, z3, z4, z5, z6, z7⟩ := eight_of BX3.out
 have L1 : w.heap.size < w3.heap.size := BX3.out.lt
 rcases ok3 with _ | _
 · have HNO : Hid (¬ G) := fun hg => by have := HK3.out.2 (HG.out.1 hg).calls; cases this
   go_wp2
   go_ret
   exact ⟨false, ⟨rfl, by simp [HNO.out]⟩, HB3.out⟩
 go_wp2
 go_loopw [3] (fun i wr => ∃ k : Nat, k ≤ nt ∧ i = .int .i64 (k : Int) ∧ (∀ j, j < k → ThGood (ts j) nt ∧ TaskSpec f nc (j : Int) (ts j)) ∧ Below w3.heap.size w3 wr) (fun i _ => nt - (intOf i).toNat)
 case atStart => exact ⟨0, Nat.zero_le _, rfl, (fun j h => by omega), Below.refl _ _⟩
 case round =>
   clear z0 z1 z2 z3 z4 z5 z6 z7 L1
   obtain ⟨k, hk, rfl, hall, hb⟩ := hrel
   have HALL : Hid (∀ j, j < k → ThGood (ts j) nt ∧ TaskSpec f nc (j : Int) (ts j)) := hall
   have HB : Hid (Below w3.heap.size w3 wr) := hb
   have HBW : Hid (Below w.heap.size w wr) := HB3.out.trans (hb.mono HB3.out.size)
   have BR : Hid (Box wr w.heap.size #[.slice wa nw wc, .slice da nd dc, .slice ta nt tc, .int .i64 tm, .slice ca nc cc, .slice oa no oc, .slice ha nh hc, .int .i64 st] 36) := BX3.out.below hb BX3.out.lt
   have L1 : w.heap.size < wr.heap.size := BR.out.lt
   obtain ⟨z0, z1, z2, z3, z4, z5, z6, z7⟩ := eight_of BR.out
   clear hall hb
   by_cases hlt : k < nt
   · have hk0 : (0 : Int) ≤ (k : Int) := by omega
     have hk1 : (k : Int) < (nt : Int) := by omega
     rcases (H3.out.below HBW.out (Nat.le_refl _)).2 with h0 | ⟨p1, o1, rfl, g1⟩
     · omega
     obtain ⟨a0, c0, a1, c1, a2, c2, hTC, hTL, _⟩ := g1 k hlt
     obtain ⟨X, hX⟩ : ∃ X, ts k = X := ⟨_, rfl⟩
     have HX : Hid (ts k = X) := hX
     rw [hX] at hTC hTL
     obtain ⟨n0, fs, pc, on, n1, gs, n2, hs2⟩ := X
     obtain ⟨e0, e1, e2, e3, e4⟩ := hTC
     dsimp only at e0 e1 e2 e3 e4
     have HTL : Hid (ThL wr a0 a1 a2 ⟨n0, fs, pc, on, n1, gs, n2, hs2⟩) := hTL
     have q1 : p1 < wr.heap.size := World.block_lt_of_cell? wr _ e0
     clear g1 hX hTL
     by_cases hth : ThGood ⟨n0, fs, pc, on, n1, gs, n2, hs2⟩ nt
     case neg =>
       have HTH : Hid (¬ ThGood ⟨n0, fs, pc, on, n1, gs, n2, hs2⟩ nt) := hth
       have HNO : Hid (¬ G) := fun hg => hth (by have := ((HG.out.1 hg).ths k hlt).1; dsimp only at this; rw [HX.out] at this; exact this)
       clear hth
       go_wp2_with fail
       refine wp_region_held_drew (S := fun w' => w'.cell? ⟨w.heap.size, 0, none⟩ = some (.slice wa nw wc) ∧ w'.cell? ⟨w.heap.size, 1, none⟩ = some (.slice da nd dc) ∧ w'.cell? ⟨w.heap.size, 2, none⟩ = some (.slice (some ⟨p1, o1, none⟩) nt tc) ∧ w'.cell? ⟨w.heap.size, 3, none⟩ = some (.int .i64 tm) ∧ w'.cell? ⟨w.heap.size, 4, none⟩ = some (.slice ca nc cc) ∧ w'.cell? ⟨w.heap.size, 5, none⟩ = some (.slice oa no oc) ∧ w'.cell? ⟨w.heap.size, 6, none⟩ = some (.slice ha nh hc) ∧ w'.cell? ⟨w.heap.size, 7, none⟩ = some (.int .i64 st) ∧ w'.cell? ⟨p1, o1 + k * 5, none⟩ = some (.slice a0 n0 c0) ∧ w'.cell? ⟨p1, o1 + k * 5 + 1, none⟩ = some (.int .i64 pc) ∧ w'.cell? ⟨p1, o1 + k * 5 + 2, none⟩ = some (.bool on) ∧ w'.cell? ⟨p1, o1 + k * 5 + 3, none⟩ = some (.slice a1 n1 c1) ∧ w'.cell? ⟨p1, o1 + k * 5 + 4, none⟩ = some (.slice a2 n2 c2)) (by kernel_rfl) ⟨z0, z1, z2, z3, z4, z5, z6, z7, e0, e1, e2, e3, e4⟩ (fun hHeld => ?_)
       refine takeH 0 (.pointer (some ⟨w.heap.size, 2, none⟩)) ?_ hHeld ?_
       · intro w' hSw; obtain ⟨s0, s1, s2, s3, s4, s5, s6, s7, s8, s9, s10, s11, s12⟩ := hSw; go_simp
       simp only [Act.put, List.setIfInBounds_toArray, List.set_cons_zero, List.set_cons_succ]
       refine takeH 1 (.slice (some ⟨p1, o1, none⟩) nt tc) ?_ hHeld ?_
       · intro w' hSw; obtain ⟨s0, s1, s2, s3, s4, s5, s6, s7, s8, s9, s10, s11, s12⟩ := hSw; go_simp
       simp only [Act.put, List.setIfInBounds_toArray, List.set_cons_zero, List.set_cons_succ]
       refine takeH 2 (.int .i64 (k : Int)) ?_ hHeld ?_
       · intro w' hSw; obtain ⟨s0, s1, s2, s3, s4, s5, s6, s7, s8, s9, s10, s11, s12⟩ := hSw; go_simp
       simp only [Act.put, List.setIfInBounds_toArray, List.set_cons_zero, List.set_cons_succ]
       refine takeH 3 (.pointer (some ⟨p1, o1 + k * 5, none⟩)) ?_ hHeld ?_
       · intro w' hSw; obtain ⟨s0, s1, s2, s3, s4, s5, s6, s7, s8, s9, s10, s11, s12⟩ := hSw; go_simp
       simp only [Act.put, List.setIfInBounds_toArray, List.set_cons_zero, List.set_cons_succ]
       refine takeH 4 (.agg #[.slice a0 n0 c0, .int .i64 pc, .bool on, .slice a1 n1 c1, .slice a2 n2 c2]) ?_ hHeld ?_
       · intro w' hSw; obtain ⟨s0, s1, s2, s3, s4, s5, s6, s7, s8, s9, s10, s11, s12⟩ := hSw; go_simp
       simp only [Act.put, List.setIfInBounds_toArray, List.set_cons_zero, List.set_cons_succ]
       refine takeH 5 (.pointer (some ⟨w.heap.size, 2, none⟩)) ?_ hHeld ?_
       · intro w' hSw; obtain ⟨s0, s1, s2, s3, s4, s5, s6, s7, s8, s9, s10, s11, s12⟩ := hSw; go_simp
       simp only [Act.put, List.setIfInBounds_toArray, List.set_cons_zero, List.set_cons_succ]
       refine takeH 6 (.slice (some ⟨p1, o1, none⟩) nt tc) ?_ hHeld ?_
       · intro w' hSw; obtain ⟨s0, s1, s2, s3, s4, s5, s6, s7, s8, s9, s10, s11, s12⟩ := hSw; go_simp
       simp only [Act.put, List.setIfInBounds_toArray, List.set_cons_zero, List.set_cons_succ]
       refine takeH 7 (.int .i64 (nt : Int)) ?_ hHeld ?_
       · intro w' hSw; obtain ⟨s0, s1, s2, s3, s4, s5, s6, s7, s8, s9, s10, s11, s12⟩ := hSw; go_simp
       simp only [Act.put, List.setIfInBounds_toArray, List.set_cons_zero, List.set_cons_succ]
       refine wpAnyH_ready (rs := [8]) (by kernel_rfl) (by simp) ?_
       refine AllReadyH.cons (o := _) (by rw [List.getElem?_toArray]; exact rfl) (fun K hK => ?_) AllReadyH.nil
       rw [if_pos (by kernel_rfl)]
       go_simp
       refine (specThreadOk_any a0 c0 a1 c1 a2 c2 ⟨n0, fs, pc, on, n1, gs, n2, hs2⟩ nt hnt _ (HTL.out.below (Below.refl wr.heap.size wr).drew (Nat.le_refl _))).mono ?_
       rintro e w4 ⟨ok4, ⟨rfl, hk4⟩, hb4⟩
       have hb4' : Below wr.heap.size wr w4 := (Below.refl _ wr).drew.trans hb4
       have HB4 : Hid (Below w.heap.size w w4) := HBW.out.trans (hb4'.mono HBW.out.size)
       obtain rfl : ok4 = false := by
         cases ok4
         · rfl
         · exact absurd (hk4.1 rfl) HTH.out
       refine hK.out _ _ ?_ (fun hHeld => ?_)
       · exact ⟨(hb4'.cell (show w.heap.size < _ from L1)).trans z0, (hb4'.cell (show w.heap.size < _ from L1)).trans z1, (hb4'.cell (show w.heap.size < _ from L1)).trans z2, (hb4'.cell (show w.heap.size < _ from L1)).trans z3, (hb4'.cell (show w.heap.size < _ from L1)).trans z4, (hb4'.cell (show w.heap.size < _ from L1)).trans z5, (hb4'.cell (show w.heap.size < _ from L1)).trans z6, (hb4'.cell (show w.heap.size < _ from L1)).trans z7, (hb4'.cell (show p1 < _ from q1)).trans e0, (hb4'.cell (show p1 < _ from q1)).trans e1, (hb4'.cell (show p1 < _ from q1)).trans e2, (hb4'.cell (show p1 < _ from q1)).trans e3, (hb4'.cell (show p1 < _ from q1)).trans e4⟩
       clear hK K hb4 hb4' hk4
       refine takeH 9 (.bool true) ?_ hHeld ?_
       · intro w' hSw; obtain ⟨s0, s1, s2, s3, s4, s5, s6, s7, s8, s9, s10, s11, s12⟩ := hSw; go_simp
       simp only [Act.put, List.setIfInBounds_toArray, List.set_cons_zero, List.set_cons_succ]
       refine takeH 10 (.bool true) ?_ hHeld ?_
       · intro w' hSw; obtain ⟨s0, s1, s2, s3, s4, s5, s6, s7, s8, s9, s10, s11, s12⟩ := hSw; go_simp
       simp only [Act.put, List.setIfInBounds_toArray, List.set_cons_zero, List.set_cons_succ]
       refine skipH 11 hHeld ?_
       simp only [Act.put, List.setIfInBounds_toArray, List.set_cons_zero, List.set_cons_succ]
       refine skipH 12 hHeld ?_
       simp only [Act.put, List.setIfInBounds_toArray, List.set_cons_zero, List.set_cons_succ]
       refine skipH 13 hHeld ?_
       simp only [Act.put, List.setIfInBounds_toArray, List.set_cons_zero, List.set_cons_succ]
       refine skipH 14 hHeld ?_
       simp only [Act.put, List.setIfInBounds_toArray, List.set_cons_zero, List.set_cons_succ]
       refine takeH 15 (.bool true) ?_ hHeld ?_
       · intro w' hSw; obtain ⟨s0, s1, s2, s3, s4, s5, s6, s7, s8, s9, s10, s11, s12⟩ := hSw; go_simp
       simp only [Act.put, List.setIfInBounds_toArray, List.set_cons_zero, List.set_cons_succ]
       refine wpAnyH_done (by kernel_rfl) ?_ _
       go_wp2
       go_ret
       exact ⟨false, ⟨rfl, by simp [HNO.out]⟩, HB4.out⟩
     have HTH : Hid (ThGood ⟨n0, fs, pc, on, n1, gs, n2, hs2⟩ nt) := hth
     have HPC : Hid ((ts k).on = true → 0 ≤ (ts k).pc ∧ (ts k).pc < (ts k).n0) := by
       show _ → _
       rw [HX.out]
       exact fun h => ⟨hth.pc.1, hth.on h⟩
     clear hth
     by_cases htk : TaskSpec f nc (k : Int) (ts k)
     · have HTK : Hid (TaskSpec f nc (k : Int) (ts k)) := htk
       have HTT : Hid (ThGood (ts k) nt ∧ TaskSpec f nc (k : Int) (ts k)) := ⟨by rw [HX.out]; exact HTH.out, htk⟩
       clear htk
       go_wp2_with fail
       have KF : ∀ y, Below wr.heap.size wr y → Hid (y.cell? ⟨w.heap.size, 0, none⟩ = some (.slice wa nw wc) ∧ y.cell? ⟨w.heap.size, 1, none⟩ = some (.slice da nd dc) ∧ y.cell? ⟨w.heap.size, 2, none⟩ = some (.slice (some ⟨p1, o1, none⟩) nt tc) ∧ y.cell? ⟨w.heap.size, 3, none⟩ = some (.int .i64 tm) ∧ y.cell? ⟨w.heap.size, 4, none⟩ = some (.slice ca nc cc) ∧ y.cell? ⟨w.heap.size, 5, none⟩ = some (.slice oa no oc) ∧ y.cell? ⟨w.heap.size, 6, none⟩ = some (.slice ha nh hc) ∧ y.cell? ⟨w.heap.size, 7, none⟩ = some (.int .i64 st) ∧ y.cell? ⟨p1, o1 + k * 5, none⟩ = some (.slice a0 n0 c0) ∧ y.cell? ⟨p1, o1 + k * 5 + 1, none⟩ = some (.int .i64 pc) ∧ y.cell? ⟨p1, o1 + k * 5 + 2, none⟩ = some (.bool on) ∧ y.cell? ⟨p1, o1 + k * 5 + 3, none⟩ = some (.slice a1 n1 c1) ∧ y.cell? ⟨p1, o1 + k * 5 + 4, none⟩ = some (.slice a2 n2 c2)) := fun y hb => ⟨(hb.cell (show w.heap.size < _ from L1)).trans z0, (hb.cell (show w.heap.size < _ from L1)).trans z1, (hb.cell (show w.heap.size < _ from L1)).trans z2, (hb.cell (show w.heap.size < _ from L1)).trans z3, (hb.cell (show w.heap.size < _ from L1)).trans z4, (hb.cell (show w.heap.size < _ from L1)).trans z5, (hb.cell (show w.heap.size < _ from L1)).trans z6, (hb.cell (show w.heap.size < _ from L1)).trans z7, (hb.cell (show p1 < _ from q1)).trans e0, (hb.cell (show p1 < _ from q1)).trans e1, (hb.cell (show p1 < _ from q1)).trans e2, (hb.cell (show p1 < _ from q1)).trans e3, (hb.cell (show p1 < _ from q1)).trans e4⟩
       go_region_held3 (fun w' => w'.cell? ⟨w.heap.size, 0, none⟩ = some (.slice wa nw wc) ∧ w'.cell? ⟨w.heap.size, 1, none⟩ = some (.slice da nd dc) ∧ w'.cell? ⟨w.heap.size, 2, none⟩ = some (.slice (some ⟨p1, o1, none⟩) nt tc) ∧ w'.cell? ⟨w.heap.size, 3, none⟩ = some (.int .i64 tm) ∧ w'.cell? ⟨w.heap.size, 4, none⟩ = some (.slice ca nc cc) ∧ w'.cell? ⟨w.heap.size, 5, none⟩ = some (.slice oa no oc) ∧ w'.cell? ⟨w.heap.size, 6, none⟩ = some (.slice ha nh hc) ∧ w'.cell? ⟨w.heap.size, 7, none⟩ = some (.int .i64 st) ∧ w'.cell? ⟨p1, o1 + k * 5, none⟩ = some (.slice a0 n0 c0) ∧ w'.cell? ⟨p1, o1 + k * 5 + 1, none⟩ = some (.int .i64 pc) ∧ w'.cell? ⟨p1, o1 + k * 5 + 2, none⟩ = some (.bool on) ∧ w'.cell? ⟨p1, o1 + k * 5 + 3, none⟩ = some (.slice a1 n1 c1) ∧ w'.cell? ⟨p1, o1 + k * 5 + 4, none⟩ = some (.slice a2 n2 c2))
         (first | (with_reducible exact K3.out) | (with_reducible exact K2.out) | go_keep)
         (first
         | (go_at_call 49
            refine (specThreadOk_any a0 c0 a1 c1 a2 c2 ⟨n0, fs, pc, on, n1, gs, n2, hs2⟩ nt hnt _ (HTL.out.below (Below.refl wr.heap.size wr).drew (Nat.le_refl _))).mono ?_
            rintro e w4 ⟨ok4, ⟨rfl, hk4⟩, hb4⟩
            have hb4' : Below wr.heap.size wr w4 := (Below.refl _ wr).drew.trans hb4
            have K2 := KF w4 hb4'
            have HB4 : Hid (Below w.heap.size w w4) := HBW.out.trans (hb4'.mono HBW.out.size)
            have HB4' : Hid (Below wr.heap.size wr w4) := hb4'
            obtain rfl : ok4 = true := hk4.2 HTH.out
            clear hb4 hb4' hk4)
         | (go_at_call 50
            refine (specTask_any (.slice wa nw wc) (.slice da nd dc) (.int .i64 tm) (.slice oa no oc) (.slice ha nh hc) (.int .i64 st) (some ⟨p1, o1, none⟩) nt tc ts ca nc cc f k hlt _ (H3.out.below HB4.out (Nat.le_refl _)) (H4.out.below HB4.out (Nat.le_refl _)) HPC.out).mono ?_
            rintro e w5 ⟨ok5, ⟨rfl, hk5⟩, hb5⟩
            have hb5' : Below wr.heap.size wr w5 := HB4'.out.trans (hb5.mono HB4'.out.size)
            have K3 := KF w5 hb5'
            have HB5 : Hid (Below w.heap.size w w5) := HBW.out.trans (hb5'.mono HBW.out.size)
            have HB5' : Hid (Below w3.heap.size w3 w5) := HB.out.trans (hb5'.mono HB.out.size)
            obtain rfl : ok5 = true := by
              exact hk5.2 HTK.out
            clear hb5 hb5' hk5))
       go_wp2
       exact ⟨⟨k + 1, by omega, by go_num, all_next HALL.out HTT.out, HB5'.out⟩, by simp [intOf]; omega⟩
     · have HTK : Hid (¬ TaskSpec f nc (k : Int) (ts k)) := htk
       have HNO : Hid (¬ G) := fun hg => htk ((HG.out.1 hg).ths k hlt).2
       clear htk
       go_wp2_with fail
       have KF : ∀ y, Below wr.heap.size wr y → Hid (y.cell? ⟨w.heap.size, 0, none⟩ = some (.slice wa nw wc) ∧ y.cell? ⟨w.heap.size, 1, none⟩ = some (.slice da nd dc) ∧ y.cell? ⟨w.heap.size, 2, none⟩ = some (.slice (some ⟨p1, o1, none⟩) nt tc) ∧ y.cell? ⟨w.heap.size, 3, none⟩ = some (.int .i64 tm) ∧ y.cell? ⟨w.heap.size, 4, none⟩ = some (.slice ca nc cc) ∧ y.cell? ⟨w.heap.size, 5, none⟩ = some (.slice oa no oc) ∧ y.cell? ⟨w.heap.size, 6, none⟩ = some (.slice ha nh hc) ∧ y.cell? ⟨w.heap.size, 7, none⟩ = some (.int .i64 st) ∧ y.cell? ⟨p1, o1 + k * 5, none⟩ = some (.slice a0 n0 c0) ∧ y.cell? ⟨p1, o1 + k * 5 + 1, none⟩ = some (.int .i64 pc) ∧ y.cell? ⟨p1, o1 + k * 5 + 2, none⟩ = some (.bool on) ∧ y.cell? ⟨p1, o1 + k * 5 + 3, none⟩ = some (.slice a1 n1 c1) ∧ y.cell? ⟨p1, o1 + k * 5 + 4, none⟩ = some (.slice a2 n2 c2)) := fun y hb => ⟨(hb.cell (show w.heap.size < _ from L1)).trans z0, (hb.cell (show w.heap.size < _ from L1)).trans z1, (hb.cell (show w.heap.size < _ from L1)).trans z2, (hb.cell (show w.heap.size < _ from L1)).trans z3, (hb.cell (show w.heap.size < _ from L1)).trans z4, (hb.cell (show w.heap.size < _ from L1)).trans z5, (hb.cell (show w.heap.size < _ from L1)).trans z6, (hb.cell (show w.heap.size < _ from L1)).trans z7, (hb.cell (show p1 < _ from q1)).trans e0, (hb.cell (show p1 < _ from q1)).trans e1, (hb.cell (show p1 < _ from q1)).trans e2, (hb.cell (show p1 < _ from q1)).trans e3, (hb.cell (show p1 < _ from q1)).trans e4⟩
       go_region_held3 (fun w' => w'.cell? ⟨w.heap.size, 0, none⟩ = some (.slice wa nw wc) ∧ w'.cell? ⟨w.heap.size, 1, none⟩ = some (.slice da nd dc) ∧ w'.cell? ⟨w.heap.size, 2, none⟩ = some (.slice (some ⟨p1, o1, none⟩) nt tc) ∧ w'.cell? ⟨w.heap.size, 3, none⟩ = some (.int .i64 tm) ∧ w'.cell? ⟨w.heap.size, 4, none⟩ = some (.slice ca nc cc) ∧ w'.cell? ⟨w.heap.size, 5, none⟩ = some (.slice oa no oc) ∧ w'.cell? ⟨w.heap.size, 6, none⟩ = some (.slice ha nh hc) ∧ w'.cell? ⟨w.heap.size, 7, none⟩ = some (.int .i64 st) ∧ w'.cell? ⟨p1, o1 + k * 5, none⟩ = some (.slice a0 n0 c0) ∧ w'.cell? ⟨p1, o1 + k * 5 + 1, none⟩ = some (.int .i64 pc) ∧ w'.cell? ⟨p1, o1 + k * 5 + 2, none⟩ = some (.bool on) ∧ w'.cell? ⟨p1, o1 + k * 5 + 3, none⟩ = some (.slice a1 n1 c1) ∧ w'.cell? ⟨p1, o1 + k * 5 + 4, none⟩ = some (.slice a2 n2 c2))
         (first | (with_reducible exact K3.out) | (with_reducible exact K2.out) | go_keep)
         (first
         | (go_at_call 49
            refine (specThreadOk_any a0 c0 a1 c1 a2 c2 ⟨n0, fs, pc, on, n1, gs, n2, hs2⟩ nt hnt _ (HTL.out.below (Below.refl wr.heap.size wr).drew (Nat.le_refl _))).mono ?_
            rintro e w4 ⟨ok4, ⟨rfl, hk4⟩, hb4⟩
            have hb4' : Below wr.heap.size wr w4 := (Below.refl _ wr).drew.trans hb4
            have K2 := KF w4 hb4'
            have HB4 : Hid (Below w.heap.size w w4) := HBW.out.trans (hb4'.mono HBW.out.size)
            have HB4' : Hid (Below wr.heap.size wr w4) := hb4'
            obtain rfl : ok4 = true := hk4.2 HTH.out
            clear hb4 hb4' hk4)
         | (go_at_call 50
            refine (specTask_any (.slice wa nw wc) (.slice da nd dc) (.int .i64 tm) (.slice oa no oc) (.slice ha nh hc) (.int .i64 st) (some ⟨p1, o1, none⟩) nt tc ts ca nc cc f k hlt _ (H3.out.below HB4.out (Nat.le_refl _)) (H4.out.below HB4.out (Nat.le_refl _)) HPC.out).mono ?_
            rintro e w5 ⟨ok5, ⟨rfl, hk5⟩, hb5⟩
            have hb5' : Below wr.heap.size wr w5 := HB4'.out.trans (hb5.mono HB4'.out.size)
            have K3 := KF w5 hb5'
            have HB5 : Hid (Below w.heap.size w w5) := HBW.out.trans (hb5'.mono HBW.out.size)
            have HB5' : Hid (Below w3.heap.size w3 w5) := HB.out.trans (hb5'.mono HB.out.size)
            obtain rfl : ok5 = false := by
              cases ok5
              · rfl
              · exact absurd (hk5.1 rfl) HTK.out
            clear hb5 hb5' hk5))
       go_wp2
       go_ret
       exact ⟨false, ⟨rfl, by simp [HNO.out]⟩, HB5.out⟩
   · obtain rfl : nt = k := by omega
     have HYES : Hid G := HG.out.2 ⟨HK1.out.1 (by first | rfl | trivial), HMN.out, HI.out, HK2.out.1 (by first | rfl | trivial), HK3.out.1 (by first | rfl | trivial), HALL.out⟩
     go_wp2
     go_ret
     exact ⟨true, ⟨rfl, by simp [HYES.out]⟩, HBW.out⟩
end
section
open Go.ChangeShapes Go.WideShapes Go.ChangeAt Go.RowKit Go.Joins
def newM (L : List Int) (n : Nat) (cl : List Cel) (nh : Nat) (hs : List Int) (st : Int) : MaD where
 nw := L.length
 ws := wordsF L L.length
 nd := n
 ds := zds n
 nt := n
 ts := fun i => thD (row (thsNew cl n) 5 i)
 tm := 0
 nc := 0
 f := fun _ => ⟨0, 0, 0, 0, 0, 0, 0, 0⟩
 no := 0
 os := []
 nh := nh
 hs := hs
 st := st
def NewOk (L : List Int) (n : Nat) (cl : List Cel) (nh : Nat) (hs : List Int) (st : Int) : Prop := NewGood L (n : Int) ∧ MachGood (newM L n cl nh hs st)
def zdc (n : Nat) : List Cel := (List.range n).flatMap fun _ => [.i 0, .i 0, .l 107 3 0 [], .i 0, .l 3 1 0 []]
def newCs (L : List Int) (n : Nat) (cl : List Cel) (nh : Nat) (hs : List Int) (st : Int) : List Cel :=
 [.l 75 3 L.length (celI (wordsF L L.length)), .l 104 5 n (zdc n), .l 59 5 n (thsNew cl n), .i 0, .l 93 9 0 [], .l 3 1 0 [], .l 3 1 nh (celI hs), .i st]
def zeroC : List Cel := [.l 75 3 0 [], .l 104 5 0 [], .l 59 5 0 [], .i 0, .l 93 9 0 [], .l 3 1 0 [], .l 3 1 0 [], .i 0]
def NewAns (L : List Int) (n : Nat) (cl : List Cel) (nh : Nat) (hs : List Int) (st : Int) (e : Ending) (w' : World) : Prop :=
 ∃ us ok, e = .returned (.tuple #[.agg us.toArray, .bool ok]) ∧ ((ok = true ∧ NewOk L n cl nh hs st ∧ AtL false w' us (newCs L n cl nh hs st)) ∨ (ok = false ∧ ¬ NewOk L n cl nh hs st ∧ AtL false w' us zeroC))
theorem own_intAt9 {w : World} {base n c : Nat} {a : Option Addr} {T : TypeId} {fs : List Int} (h : w.ownsRow base T 1 (.slice a n c) n (fs.map I)) (hn : n ≤ 2097152) : IntAt w a n fs := (owns_kAt h hn).ints
theorem thsNew_has {n k : Nat} {cl : List Cel} (hlh : Has (.l 55 1 n cl) (.l 55 1 tyOpS)) (hk : k ≤ n) : Has (.l 59 5 k (thsNew cl k)) (.l 59 5 tyThread) := by
 refine .l _ 5 k _ _ rfl (thsNew_len cl k) fun j c t hc ht => ?_
 have hj : j < k * 5 := by have := (List.getElem?_eq_some_iff.1 hc).1; rwa [thsNew_len] at this
 have hjd : j = (j / 5) * 5 + j % 5 := by omega
 have hd : j / 5 < k := by omega
 have hm : j % 5 < 5 := by omega
 unfold thsNew at hc
 rw [hjd, flat_at (k := 5) k (fun _ _ => rfl) (j / 5) (j % 5) hd hm] at hc
 have h0 : Has (nthC cl (j / 5)) (.l 82 3 tyOp) := by
   cases hlh with
   | l _ _ _ _ _ hk' hl' hh =>
     have hlt : j / 5 < cl.length := by omega
     have := hh (j / 5) _ (.l 82 3 tyOp) (List.getElem?_eq_getElem hlt) (by rw [Nat.mod_one]; rfl)
     unfold nthC
     rw [List.getD_eq_getElem?_getD, List.getElem?_eq_getElem hlt]
     exact this
 rcases (show j % 5 = 0 ∨ j % 5 = 1 ∨ j % 5 = 2 ∨ j % 5 = 3 ∨ j % 5 = 4 by omega) with e | e | e | e | e <;> rw [e] at hc ht
 · cases hc; cases ht; exact h0
 · cases hc; cases ht; exact .i 0
 · cases hc; cases ht; exact .b false
 · cases hc; cases ht; exact .l _ 2 0 [] _ rfl rfl (fun j c t hc _ => by simp at hc)
 · cases hc; cases ht; exact .l _ 4 0 [] _ rfl rfl (fun j c t hc _ => by simp at hc)
theorem ths_new {w : World} {base n c : Nat} {a : Option Addr} {cl : List Cel} {S : Nat → Prop} (h : Own w base (.slice a n c) (.l 59 5 n (thsNew cl n)) S) (hlh : Has (.l 55 1 n cl) (.l 55 1 tyOpS)) : ThsAt w a n (fun i => thD (row (thsNew cl n) 5 i)) := by
 refine ⟨h.len.2, ?_⟩
 rcases at_rows h.at with h0 | ⟨b, o, rfl, hr⟩
 · exact .inl h0
 · refine .inr ⟨b, o, rfl, fun i hi => ?_⟩
   obtain ⟨us, hu, hc⟩ := hr i hi
   exact at_thread hu ((thsNew_has hlh (Nat.le_refl _)).rowL hi) hc
theorem at_nil9 (w : World) (T : TypeId) (k : Nat) : At false w (.slice none 0 0) (.l T k 0 []) := .l none T k 0 0 [] [] (by simp) (by simp) (by omega) (fun h => by cases h) (.inl rfl) (fun j v c hv _ => by simp at hv)
theorem at_empty {w : World} {a : Option Addr} {c : Nat} (T : TypeId) (k : Nat) : At false w (.slice a 0 c) (.l T k 0 []) := .l a T k 0 c [] [] (by simp) (by simp) (by omega) (fun h => by cases h) (.inl rfl) (fun j v c hv _ => by simp at hv)
def But (g : Nat) (w w' : World) : Prop := ∀ x, x ≠ g → w'.heap[x]? = w.heap[x]?
theorem but8 (w : World) (g : Nat) (x0 x1 x2 x3 x4 x5 x6 x7 : Value) : But g w ((((((((w.setCell ⟨g, 0, none⟩ x0).setCell ⟨g, 1, none⟩ x1).setCell ⟨g, 2, none⟩ x2).setCell ⟨g, 3, none⟩ x3).setCell ⟨g, 4, none⟩ x4).setCell ⟨g, 5, none⟩ x5).setCell ⟨g, 6, none⟩ x6).setCell ⟨g, 7, none⟩ x7) := fun x hx => by
 iterate 8 rw [Below.heap_setCell _ _ _ _ hx]
theorem But.cell {g : Nat} {w w' : World} (h : But g w w') {a : Addr} (ha : a.block ≠ g) : w'.cell? a = w.cell? a := World.cell?_of_block (h _ ha)
theorem trip_but {g : Nat} {w w' : World} {a : Option Addr} {n : Nat} {fs : List Int} {A : Array Value} {T : TypeId} (h : TripAt w a n fs) (hb : But g w w') (hx : Box w g A T) (hA : A.size ≤ n * 3 - 1) (hn : 0 < n) : TripAt w' a n fs := by
 obtain ⟨h1, h2, h0 | ⟨b, o, h3, h4⟩⟩ := h
 · exact ⟨h1, h2, .inl h0⟩
 · have hne : b ≠ g := fun e => by
     have h5 := h4 (n * 3 - 1) (by omega)
     rw [e, hx.cell, Array.getElem?_eq_none (by omega)] at h5
     cases h5
   exact ⟨h1, h2, .inr ⟨b, o, h3, fun i hi => (hb.cell hne).trans (h4 i hi)⟩⟩
theorem zdesc_at {g : Nat} {w w' : World} {a : Option Addr} {n c : Nat} {x0 x1 x2 x4 x5 x6 : Value} {T : TypeId} (h : DescAt w a n (zds n)) (hb : But g w w') (hx : Box w g #[x0, x1, x2, .int .i64 0, x4, x5, x6, .int .i64 0] T) (hs : (∀ z : Int, x0 ≠ I z) ∧ (∀ z : Int, x1 ≠ I z) ∧ (∀ z : Int, x2 ≠ I z) ∧ (∀ z : Int, x4 ≠ I z) ∧ (∀ z : Int, x5 ≠ I z) ∧ ∀ z : Int, x6 ≠ I z) :
   At false w' (.slice a n c) (.l 104 5 n (zdc n)) := by
 obtain ⟨_, hn, h0 | ⟨b, o, rfl, h4⟩⟩ := h
 · subst h0
   exact at_empty _ _
 obtain ⟨z, hz⟩ : ∃ z : Nat → (Option Addr × Nat) × (Option Addr × Nat), ∀ i, i < n → w.cell? ⟨b, o + i * 5, none⟩ = some (I 0) ∧ w.cell? ⟨b, o + i * 5 + 1, none⟩ = some (I 0) ∧ w.cell? ⟨b, o + i * 5 + 2, none⟩ = some (.slice (z i).1.1 0 (z i).1.2) ∧ w.cell? ⟨b, o + i * 5 + 3, none⟩ = some (I 0) ∧ w.cell? ⟨b, o + i * 5 + 4, none⟩ = some (.slice (z i).2.1 0 (z i).2.2) :=
   Go.Deep.choose_lt (p := fun i (z : (Option Addr × Nat) × (Option Addr × Nat)) => w.cell? ⟨b, o + i * 5, none⟩ = some (I 0) ∧ w.cell? ⟨b, o + i * 5 + 1, none⟩ = some (I 0) ∧ w.cell? ⟨b, o + i * 5 + 2, none⟩ = some (.slice z.1.1 0 z.1.2) ∧ w.cell? ⟨b, o + i * 5 + 3, none⟩ = some (I 0) ∧ w.cell? ⟨b, o + i * 5 + 4, none⟩ = some (.slice z.2.1 0 z.2.2)) (fun i hi => by
     obtain ⟨ea, ec, ra, rc, h5, _, _⟩ := h4 i hi
     rw [zds_at] at h5
     exact ⟨((ea, ec), (ra, rc)), h5⟩)
 have hne : 0 < n → b ≠ g := fun hp e => by
   obtain ⟨c0, c1, _⟩ := hz 0 hp
   rw [e, hx.cell] at c0 c1
   simp only [Nat.zero_mul, Nat.add_zero] at c0 c1
   match o, c0, c1 with
   | 0, c0, _ => exact hs.1 0 (by simpa using c0)
   | 1, c0, _ => exact hs.2.1 0 (by simpa using c0)
   | 2, c0, _ => exact hs.2.2.1 0 (by simpa using c0)
   | 3, _, c1 => exact hs.2.2.2.1 0 (by simpa using c1)
   | 4, c0, _ => exact hs.2.2.2.1 0 (by simpa using c0)
   | 5, c0, _ => exact hs.2.2.2.2.1 0 (by simpa using c0)
   | 6, c0, _ => exact hs.2.2.2.2.2 0 (by simpa using c0)
   | 7, _, c1 => simp at c1
   | o + 8, c0, _ => simp at c0
 refine .l (some ⟨b, o, none⟩) _ 5 n c (zdc n) ((List.range n).flatMap fun i => [I 0, I 0, .slice (z i).1.1 0 (z i).1.2, I 0, .slice (z i).2.1 0 (z i).2.2]) (flat_len (k := 5) n (fun _ _ => rfl)) (flat_len (k := 5) n (fun _ _ => rfl)) (by omega) (fun h => by cases h) (.inr ⟨b, o, rfl, fun j hj => ?_⟩) (fun j v cc hv hc => ?_)
 · have hjd : j = (j / 5) * 5 + j % 5 := by omega
   have hd : j / 5 < n := by omega
   have hm : j % 5 < 5 := by omega
   obtain ⟨c0, c1, c2, c3, c4⟩ := hz (j / 5) hd
   rw [hb.cell (hne (by omega))]
   conv => rhs; rw [hjd]
   rw [flat_at (k := 5) n (fun _ _ => rfl) (j / 5) (j % 5) hd hm]
   conv => lhs; rw [hjd, ← Nat.add_assoc]
   rcases (show j % 5 = 0 ∨ j % 5 = 1 ∨ j % 5 = 2 ∨ j % 5 = 3 ∨ j % 5 = 4 by omega) with e | e | e | e | e <;> rw [e]
   · exact c0
   · exact c1
   · exact c2
   · exact c3
   · exact c4
 · have hj : j < n * 5 := by have := (List.getElem?_eq_some_iff.1 hv).1; rwa [flat_len (k := 5) n (fun _ _ => rfl)] at this
   have hjd : j = (j / 5) * 5 + j % 5 := by omega
   have hd : j / 5 < n := by omega
   have hm : j % 5 < 5 := by omega
   unfold zdc at hc
   rw [hjd, flat_at (k := 5) n (fun _ _ => rfl) (j / 5) (j % 5) hd hm] at hv hc
   rcases (show j % 5 = 0 ∨ j % 5 = 1 ∨ j % 5 = 2 ∨ j % 5 = 3 ∨ j % 5 = 4 by omega) with e | e | e | e | e <;> rw [e] at hv hc <;> cases hv <;> cases hc
   · exact .i 0
   · exact .i 0
   · exact at_empty _ _
   · exact .i 0
   · exact at_empty _ _
def NwSt (W2 W3 : World) (bm : Nat) (wa : Option Addr) (m wc : Nat) (da : Option Addr) (nn dc : Nat) (ha : Option Addr) (nh hc' : Nat) (st : Int) (hs : List Int) (cl : List Cel) (k : Nat) (w' : World) : Prop :=
 ∃ (tv : Value) (S : Nat → Prop), Box w' bm #[.slice wa m wc, .slice da nn dc, tv, .int .i64 0, .slice none 0 0, .slice none 0 0, .slice ha nh hc', .int .i64 st] 36 ∧ Own w' W3.heap.size tv (.l 59 5 k (thsNew cl k)) S ∧ w'.ownsRow W2.heap.size 3 1 (.slice ha nh hc') nh (hs.map I) ∧ Below W2.heap.size W2 w' ∧ W3.heap.size ≤ w'.heap.size ∧ ∀ x, S x → W3.heap.size ≤ x
def CutThr (F : (Nat → Value) → Act) (N : World → Prop) (a' : Act) (w' : World) : Prop := ∃ j : Nat → Value, a' = F j ∧ N w'
theorem infoThread : (Tryz.prog.info? 59).map (fun i => (i.zero, i.size, i.bytes)) = some (some (.agg #[.slice none 0 0, .int .i64 0, .bool false, .slice none 0 0, .slice none 0 0]), 5, 88) := by kernel_rfl
def CutNew (F : Nat → Option Addr → Nat → Act) (NM : Option Addr → Nat → Array Value) (W2 : World) (nh : Nat) (hs : List Int) (a' : Act) (w' : World) : Prop :=
 ∃ (bm : Nat) (ha : Option Addr) (hc' : Nat), a' = F bm ha hc' ∧ Box w' bm (NM ha hc') 36 ∧ w'.ownsRow W2.heap.size 3 1 (.slice ha nh hc') nh (hs.map I) ∧ Below W2.heap.size W2 w' ∧ W2.heap.size ≤ bm ∧ (Value.slice ha nh hc').ownBlock ≠ some bm
theorem own_far8 {w : World} {base g n k : Nat} {T : TypeId} {v : Value} {xs : List Value} {x0 x1 x2 x3 x4 x5 x6 x7 : Value} (h : w.ownsRow base T k v n xs) (hg : v.ownBlock ≠ some g) :
   ((((((((w.setCell ⟨g, 0, none⟩ x0).setCell ⟨g, 1, none⟩ x1).setCell ⟨g, 2, none⟩ x2).setCell ⟨g, 3, none⟩ x3).setCell ⟨g, 4, none⟩ x4).setCell ⟨g, 5, none⟩ x5).setCell ⟨g, 6, none⟩ x6).setCell ⟨g, 7, none⟩ x7).ownsRow base T k v n xs :=
 owns_heap h fun j hj => by
   have hne : j ≠ g := fun e => hg (by rw [← e]; exact hj)
   iterate 8 rw [Below.heap_setCell _ _ _ _ hne]
theorem Box.eightF {w : World} {b : Nat} {x0 x1 x2 x3 x4 x5 x6 x7 : Value} {T : TypeId} (h : Box w b #[x0, x1, x2, x3, x4, x5, x6, x7] T) :
   w.frozen? ⟨b, 0, none⟩ = false ∧ w.frozen? ⟨b, 1, none⟩ = false ∧ w.frozen? ⟨b, 2, none⟩ = false ∧ w.frozen? ⟨b, 3, none⟩ = false ∧ w.frozen? ⟨b, 4, none⟩ = false ∧ w.frozen? ⟨b, 5, none⟩ = false ∧ w.frozen? ⟨b, 6, none⟩ = false ∧ w.frozen? ⟨b, 7, none⟩ = false :=
 ⟨h.frozen 0, h.frozen 1, h.frozen 2, h.frozen 3, h.frozen 4, h.frozen 5, h.frozen 6, h.frozen 7⟩
end
end Go.Proofs.YtcfimaffeopbbaaGreatDoor
