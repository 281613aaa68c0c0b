/- Texts joined: ImplMa. -/
import Derived.Test.YtcfimaffeopbbaaGreatDoorQM28
import Derived.Test.YtcfimaffeopbbaaGreatDoorQM06
import Derived.Test.YtcfimaffeopbbaaGreatDoorQM14
import Derived.Test.YtcfimaffeopbbaaGreatDoorQM10
set_option maxHeartbeats 16000000
set_option maxRecDepth 100000
namespace Go.Proofs.YtcfimaffeopbbaaGreatDoor
section
open Go.ChangeShapes Go.WideShapes Go.ChangeAt Go.RowKit
theorem impl_tasksOk (v0 v1 v3 v5 v6 v7 : Value) (ta : Option Addr) (nt tc : Nat) (ts : Nat → ThD) (ca : Option Addr) (nc cc : Nat) (f : Nat → CaD) (w : World) (h1 : ThsAt w ta nt ts) (h2 : CasAt w ca nc f) (hpc : ∀ i, i < nt → (ts i).on = true → 0 ≤ (ts i).pc ∧ (ts i).pc < ((ts i).n0 : Int)) :
   Calls Tryz.prog 61 #[.agg #[v0, v1, .slice ta nt tc, v3, .slice ca nc cc, v5, v6, v7]] w fun e w' => ∃ ok, (e = .returned (.bool ok) ∧ (ok = true ↔ ∀ i, i < nt → TaskGood (ts i) (callsL f (i : Int) nc))) ∧ Below w.heap.size w w' := by
 have hnt := h1.1
 have hnc := h2.1
 have H1 : Hid (ThsAt w ta nt ts) := h1
 have H2 : Hid (CasAt w ca nc f) := h2
 have HPC : Hid (∀ i, i < nt → (ts i).on = true → 0 ≤ (ts i).pc ∧ (ts i).pc < ((ts i).n0 : Int)) := hpc
 obtain ⟨G, hG⟩ : ∃ G : Prop, (∀ i, i < nt → TaskGood (ts i) (callsL f (i : Int) nc)) = G := ⟨_, rfl⟩
 have HG : Hid (G ↔ (∀ i, i < nt → TaskGood (ts i) (callsL f (i : Int) nc))) := by show _ ↔ _; rw [hG]
 rw [hG]
 obtain ⟨W, hW⟩ : ∃ W, w.alloc (.cells #[v0, v1, .slice ta nt tc, v3, .slice ca nc cc, v5, v6, v7] 36) = W := ⟨_, rfl⟩
 have hb0 : Below w.heap.size w W := by rw [← hW]; exact (Below.refl _ w).alloc (Nat.le_refl _) _
 have BX : Hid (Box W w.heap.size #[v0, v1, .slice ta nt tc, v3, .slice ca nc cc, v5, v6, v7] 36) := by rw [← hW]; exact box_of w _ _
 have HB0 : Hid (Below w.heap.size w W) := hb0
 have HW : Hid (w.alloc (.cells #[v0, v1, .slice ta nt tc, v3, .slice ca nc cc, v5, v6, v7] 36) = W) := hW
 clear h1 h2 hb0 hW hG hpc
 go_enter Tryz.func61, Tryz.ntmps61
 go_wp2
 rw [HW.out]
 go_loopw [7] (fun i wr => ∃ k : Nat, k ≤ nt ∧ i = .int .i64 (k : Int) ∧ (∀ j, j < k → TaskGood (ts j) (callsL f (j : Int) nc)) ∧ Below W.heap.size W wr) (fun i _ => nt - (intOf i).toNat)
 case atStart => exact ⟨0, Nat.zero_le _, rfl, (fun j h => by omega), Below.refl _ _⟩
 case round =>
   obtain ⟨k, hk, rfl, hall, hb⟩ := hrel
   have HALL : Hid (∀ j, j < k → TaskGood (ts j) (callsL f (j : Int) nc)) := hall
   have HB : Hid (Below W.heap.size W wr) := hb
   have HBW : Hid (Below w.heap.size w wr) := HB0.out.trans (hb.mono HB0.out.size)
   have BR : Hid (Box wr w.heap.size #[v0, v1, .slice ta nt tc, v3, .slice ca nc cc, v5, v6, v7] 36) := BX.out.below hb BX.out.lt
   have L1 : w.heap.size < wr.heap.size := BR.out.lt
   obtain ⟨z0, z1, z2, z3, z4, z5, z6, z7⟩ := eight_of BR.out
   clear hall hb
   by_cases hlt : k < nt
   · have hk0 : (0 : Int) ≤ (k : Int) := by omega
     have hk1 : (k : Int) < (nt : Int) := by omega
     rcases (H1.out.below HBW.out (Nat.le_refl _)).2 with h0 | ⟨p1, o1, rfl, g1⟩
     · omega
     obtain ⟨a0, c0, a1, c1, a2, c2, hTC, hTL, _⟩ := g1 k hlt
     have hpk := HPC.out k hlt
     obtain ⟨X, hX⟩ : ∃ X, ts k = X := ⟨_, rfl⟩
     have HX : Hid (ts k = X) := hX
     rw [hX] at hTC hTL hpk
     obtain ⟨n0, fs, pc, on, n1, gs, n2, hs2⟩ := X
     obtain ⟨e0, e1, e2, e3, e4⟩ := hTC
     dsimp only at e0 e1 e2 e3 e4 hpk
     have HTL : Hid (ThL wr a0 a1 a2 ⟨n0, fs, pc, on, n1, gs, n2, hs2⟩) := hTL
     have HPK : Hid (on = true → 0 ≤ pc ∧ pc < (n0 : Int)) := hpk
     have q1 : p1 < wr.heap.size := World.block_lt_of_cell? wr _ e0
     clear g1 hX hTL hpk
     by_cases htk : TaskGood ⟨n0, fs, pc, on, n1, gs, n2, hs2⟩ (callsL f (k : Int) nc)
     · have HTK : Hid (TaskGood ⟨n0, fs, pc, on, n1, gs, n2, hs2⟩ (callsL f (k : Int) nc)) := htk
       have HTT : Hid (TaskGood (ts k) (callsL f (k : Int) nc)) := by show TaskGood _ _; rw [HX.out]; exact htk
       clear htk
       go_wp2_with fail
       have KF : ∀ y, Below wr.heap.size wr y → Hid (y.cell? ⟨w.heap.size, 0, none⟩ = some v0 ∧ y.cell? ⟨w.heap.size, 1, none⟩ = some v1 ∧ y.cell? ⟨w.heap.size, 2, none⟩ = some (.slice (some ⟨p1, o1, none⟩) nt tc) ∧ y.cell? ⟨w.heap.size, 3, none⟩ = some v3 ∧ y.cell? ⟨w.heap.size, 4, none⟩ = some (.slice ca nc cc) ∧ y.cell? ⟨w.heap.size, 5, none⟩ = some v5 ∧ y.cell? ⟨w.heap.size, 6, none⟩ = some v6 ∧ y.cell? ⟨w.heap.size, 7, none⟩ = some v7 ∧ y.cell? ⟨p1, o1 + k * 5, none⟩ = some (.slice a0 n0 c0) ∧ y.cell? ⟨p1, o1 + k * 5 + 1, none⟩ = some (.int .i64 pc) ∧ y.cell? ⟨p1, o1 + k * 5 + 2, none⟩ = some (.bool on) ∧ y.cell? ⟨p1, o1 + k * 5 + 3, none⟩ = some (.slice a1 n1 c1) ∧ y.cell? ⟨p1, o1 + k * 5 + 4, none⟩ = some (.slice a2 n2 c2)) := fun y hb => ⟨(hb.cell (show w.heap.size < _ from L1)).trans z0, (hb.cell (show w.heap.size < _ from L1)).trans z1, (hb.cell (show w.heap.size < _ from L1)).trans z2, (hb.cell (show w.heap.size < _ from L1)).trans z3, (hb.cell (show w.heap.size < _ from L1)).trans z4, (hb.cell (show w.heap.size < _ from L1)).trans z5, (hb.cell (show w.heap.size < _ from L1)).trans z6, (hb.cell (show w.heap.size < _ from L1)).trans z7, (hb.cell (show p1 < _ from q1)).trans e0, (hb.cell (show p1 < _ from q1)).trans e1, (hb.cell (show p1 < _ from q1)).trans e2, (hb.cell (show p1 < _ from q1)).trans e3, (hb.cell (show p1 < _ from q1)).trans e4⟩
       go_region_held3 (fun w' => w'.cell? ⟨w.heap.size, 0, none⟩ = some v0 ∧ w'.cell? ⟨w.heap.size, 1, none⟩ = some v1 ∧ w'.cell? ⟨w.heap.size, 2, none⟩ = some (.slice (some ⟨p1, o1, none⟩) nt tc) ∧ w'.cell? ⟨w.heap.size, 3, none⟩ = some v3 ∧ w'.cell? ⟨w.heap.size, 4, none⟩ = some (.slice ca nc cc) ∧ w'.cell? ⟨w.heap.size, 5, none⟩ = some v5 ∧ w'.cell? ⟨w.heap.size, 6, none⟩ = some v6 ∧ w'.cell? ⟨w.heap.size, 7, none⟩ = some v7 ∧ w'.cell? ⟨p1, o1 + k * 5, none⟩ = some (.slice a0 n0 c0) ∧ w'.cell? ⟨p1, o1 + k * 5 + 1, none⟩ = some (.int .i64 pc) ∧ w'.cell? ⟨p1, o1 + k * 5 + 2, none⟩ = some (.bool on) ∧ w'.cell? ⟨p1, o1 + k * 5 + 3, none⟩ = some (.slice a1 n1 c1) ∧ w'.cell? ⟨p1, o1 + k * 5 + 4, none⟩ = some (.slice a2 n2 c2))
         (first | (with_reducible exact K3.out) | (with_reducible exact K2.out) | go_keep)
         (first
         | (go_at_call 112
            refine (impl_callsOf v0 v1 (.slice (some ⟨p1, o1, none⟩) nt tc) v3 v5 v6 v7 ca nc cc f (k : Int) _ (H2.out.below (HBW.out.drew) (Nat.le_refl _))).mono ?_
            rintro e w4 ⟨⟨la, lc, rfl, hlc, hat⟩, hb4⟩
            have hb4' : Below wr.heap.size wr w4 := (Below.refl _ wr).drew.trans hb4
            have K2 := KF w4 hb4'
            have HB4 : Hid (Below w.heap.size w w4) := HBW.out.trans (hb4'.mono HBW.out.size)
            have HB4' : Hid (Below wr.heap.size wr w4) := hb4'
            have HAT : Hid (CasAt w4 la (callsL f (k : Int) nc).length (fun j => (callsL f (k : Int) nc).getD j default)) := hat
            have HLC : Hid ((callsL f (k : Int) nc).length ≤ lc) := hlc
            clear hb4 hb4' hat hlc)
         | (go_at_call 111
            refine (impl_taskOk a0 c0 a1 c1 a2 c2 ⟨n0, fs, pc, on, n1, gs, n2, hs2⟩ la lc (callsL f (k : Int) nc) _ (HTL.out.below HB4'.out (Nat.le_refl _)) HAT.out HLC.out HPK.out).mono ?_
            rintro e w5 ⟨ok5, ⟨rfl, hk5⟩, hb5⟩
            have hb5' : Below wr.heap.size wr w5 := HB4'.out.trans (hb5.mono HB4'.out.size)
            have K3 := KF w5 hb5'
            have HB5 : Hid (Below w.heap.size w w5) := HBW.out.trans (hb5'.mono HBW.out.size)
            have HB5' : Hid (Below W.heap.size W w5) := HB.out.trans (hb5'.mono HB.out.size)
            obtain rfl : ok5 = true := by
              exact hk5.2 HTK.out
            clear hb5 hb5' hk5))
       go_wp2
       exact ⟨⟨k + 1, by omega, by go_num, all_next HALL.out HTT.out, HB5'.out⟩, by simp [intOf]; omega⟩
     · have HTK : Hid (¬ TaskGood ⟨n0, fs, pc, on, n1, gs, n2, hs2⟩ (callsL f (k : Int) nc)) := htk
       have HNO : Hid (¬ G) := fun hg => htk (by have := HG.out.1 hg k hlt; rw [HX.out] at this; exact this)
       clear htk
       go_wp2_with fail
       have KF : ∀ y, Below wr.heap.size wr y → Hid (y.cell? ⟨w.heap.size, 0, none⟩ = some v0 ∧ y.cell? ⟨w.heap.size, 1, none⟩ = some v1 ∧ y.cell? ⟨w.heap.size, 2, none⟩ = some (.slice (some ⟨p1, o1, none⟩) nt tc) ∧ y.cell? ⟨w.heap.size, 3, none⟩ = some v3 ∧ y.cell? ⟨w.heap.size, 4, none⟩ = some (.slice ca nc cc) ∧ y.cell? ⟨w.heap.size, 5, none⟩ = some v5 ∧ y.cell? ⟨w.heap.size, 6, none⟩ = some v6 ∧ y.cell? ⟨w.heap.size, 7, none⟩ = some v7 ∧ y.cell? ⟨p1, o1 + k * 5, none⟩ = some (.slice a0 n0 c0) ∧ y.cell? ⟨p1, o1 + k * 5 + 1, none⟩ = some (.int .i64 pc) ∧ y.cell? ⟨p1, o1 + k * 5 + 2, none⟩ = some (.bool on) ∧ y.cell? ⟨p1, o1 + k * 5 + 3, none⟩ = some (.slice a1 n1 c1) ∧ y.cell? ⟨p1, o1 + k * 5 + 4, none⟩ = some (.slice a2 n2 c2)) := fun y hb => ⟨(hb.cell (show w.heap.size < _ from L1)).trans z0, (hb.cell (show w.heap.size < _ from L1)).trans z1, (hb.cell (show w.heap.size < _ from L1)).trans z2, (hb.cell (show w.heap.size < _ from L1)).trans z3, (hb.cell (show w.heap.size < _ from L1)).trans z4, (hb.cell (show w.heap.size < _ from L1)).trans z5, (hb.cell (show w.heap.size < _ from L1)).trans z6, (hb.cell (show w.heap.size < _ from L1)).trans z7, (hb.cell (show p1 < _ from q1)).trans e0, (hb.cell (show p1 < _ from q1)).trans e1, (hb.cell (show p1 < _ from q1)).trans e2, (hb.cell (show p1 < _ from q1)).trans e3, (hb.cell (show p1 < _ from q1)).trans e4⟩
       go_region_held3 (fun w' => w'.cell? ⟨w.heap.size, 0, none⟩ = some v0 ∧ w'.cell? ⟨w.heap.size, 1, none⟩ = some v1 ∧ w'.cell? ⟨w.heap.size, 2, none⟩ = some (.slice (some ⟨p1, o1, none⟩) nt tc) ∧ w'.cell? ⟨w.heap.size, 3, none⟩ = some v3 ∧ w'.cell? ⟨w.heap.size, 4, none⟩ = some (.slice ca nc cc) ∧ w'.cell? ⟨w.heap.size, 5, none⟩ = some v5 ∧ w'.cell? ⟨w.heap.size, 6, none⟩ = some v6 ∧ w'.cell? ⟨w.heap.size, 7, none⟩ = some v7 ∧ w'.cell? ⟨p1, o1 + k * 5, none⟩ = some (.slice a0 n0 c0) ∧ w'.cell? ⟨p1, o1 + k * 5 + 1, none⟩ = some (.int .i64 pc) ∧ w'.cell? ⟨p1, o1 + k * 5 + 2, none⟩ = some (.bool on) ∧ w'.cell? ⟨p1, o1 + k * 5 + 3, none⟩ = some (.slice a1 n1 c1) ∧ w'.cell? ⟨p1, o1 + k * 5 + 4, none⟩ = some (.slice a2 n2 c2))
         (first | (with_reducible exact K3.out) | (with_reducible exact K2.out) | go_keep)
         (first
         | (go_at_call 112
            refine (impl_callsOf v0 v1 (.slice (some ⟨p1, o1, none⟩) nt tc) v3 v5 v6 v7 ca nc cc f (k : Int) _ (H2.out.below (HBW.out.drew) (Nat.le_refl _))).mono ?_
            rintro e w4 ⟨⟨la, lc, rfl, hlc, hat⟩, hb4⟩
            have hb4' : Below wr.heap.size wr w4 := (Below.refl _ wr).drew.trans hb4
            have K2 := KF w4 hb4'
            have HB4 : Hid (Below w.heap.size w w4) := HBW.out.trans (hb4'.mono HBW.out.size)
            have HB4' : Hid (Below wr.heap.size wr w4) := hb4'
            have HAT : Hid (CasAt w4 la (callsL f (k : Int) nc).length (fun j => (callsL f (k : Int) nc).getD j default)) := hat
            have HLC : Hid ((callsL f (k : Int) nc).length ≤ lc) := hlc
            clear hb4 hb4' hat hlc)
         | (go_at_call 111
            refine (impl_taskOk a0 c0 a1 c1 a2 c2 ⟨n0, fs, pc, on, n1, gs, n2, hs2⟩ la lc (callsL f (k : Int) nc) _ (HTL.out.below HB4'.out (Nat.le_refl _)) HAT.out HLC.out HPK.out).mono ?_
            rintro e w5 ⟨ok5, ⟨rfl, hk5⟩, hb5⟩
            have hb5' : Below wr.heap.size wr w5 := HB4'.out.trans (hb5.mono HB4'.out.size)
            have K3 := KF w5 hb5'
            have HB5 : Hid (Below w.heap.size w w5) := HBW.out.trans (hb5'.mono HBW.out.size)
            have HB5' : Hid (Below W.heap.size W w5) := HB.out.trans (hb5'.mono HB.out.size)
            obtain rfl : ok5 = false := by
              cases ok5
              · rfl
              · exact absurd (hk5.1 rfl) HTK.out
            clear hb5 hb5' hk5))
       go_wp2
       go_ret
       exact ⟨false, ⟨rfl, by simp [HNO.out]⟩, HB5.out⟩
   · obtain rfl : nt = k := by omega
     have HYES : Hid G := HG.out.2 HALL.out
     go_wp2
     go_ret
     exact ⟨true, ⟨rfl, by simp [HYES.out]⟩, HBW.out⟩
def MachImpl (M : MaD) : Prop := MemGood M.ws M.nw M.ds ∧ (M.nd = M.nt ∧ ∀ i, i < M.nt → ThGood (M.ts i) M.nt) ∧ inB M.tm 0 100000 = true ∧ (M.nc ≤ 40 ∧ ∀ i, i < M.nc → CaGood M.nt M.tm (M.f i) = true) ∧ ((∀ i, i < M.no → OrdAt M.f M.nc M.os i) ∧ soN M.f M.nc = M.no) ∧ OkRows M.hs M.st ∧ ∀ i, i < M.nt → TaskGood (M.ts i) (callsL M.f (i : Int) M.nc)
theorem mach_iff (M : MaD) : MachGood M ↔ MachImpl M :=
 ⟨fun h => ⟨h.mem, ⟨h.many, fun i hi => (h.ths i hi).1⟩, h.time, ⟨h.calls.few, h.calls.each⟩, ⟨h.calls.ord, h.calls.all⟩, h.first, fun i hi => task_iff.1 (h.ths i hi).2⟩,
   fun ⟨h1, ⟨h2, h3⟩, h4, ⟨h5, h6⟩, ⟨h7, h8⟩, h9, h10⟩ => ⟨h1, h2, h4, h9, ⟨h6, h7, h5, h8⟩, fun i hi => ⟨h3 i hi, task_iff.2 (h10 i hi)⟩⟩⟩
theorem implMachineOk_any (wa : Option Addr) (wc : Nat) (da : Option Addr) (dc : Nat) (ta : Option Addr) (tc : Nat) (ca : Option Addr) (cc : Nat) (oa : Option Addr) (oc : Nat) (ha : Option Addr) (hc : Nat) (M : MaD) (w : World) (h : MaAt w wa da ta ca oa ha M) (hcap : CapAt w da M.nd M.ds) (hwf : ∀ x ∈ M.hs, (Lit.int .i64 x).wf = true) (hhc : M.nh ≤ hc) :
   Calls Tryz.prog 28 #[MaV wa wc da dc ta tc ca cc oa oc ha hc M] w fun e w' => ∃ ok, (e = .returned (.bool ok) ∧ (ok = true ↔ MachGood M)) ∧ Below w.heap.size w w' := by
 obtain ⟨G, hG⟩ : ∃ G : Prop, MachGood M = G := ⟨_, rfl⟩
 rw [hG]
 have HG : Hid (G ↔ MachImpl M) := by show _ ↔ _; rw [← hG]; exact mach_iff M
 obtain ⟨nw, ws, nd, ds, nt, ts, tm, nc, f, no, os, nh, hs, st⟩ := M
 dsimp only at HG hcap hwf hhc
 have H1 : Hid (TripAt w wa nw ws) := h.words
 have H2 : Hid (DescAt w da nd ds) := h.descs
 have H3 : Hid (ThsAt w ta nt ts) := h.ths
 have H4 : Hid (CasAt w ca nc f) := h.calls
 have H5 : Hid (IntAt w oa no os) := h.ord
 have H6 : Hid (IntAt w ha nh hs) := h.held
 have HC : Hid (CapAt w da nd ds) := hcap
 have HWF : Hid (∀ x ∈ hs, (Lit.int .i64 x).wf = true) := hwf
 have hnt := h.ths.1
 dsimp only at hnt
 show Calls Tryz.prog 28 #[.agg #[.slice wa nw wc, .slice da nd dc, .slice ta nt tc, .int .i64 tm, .slice ca nc cc, .slice oa no oc, .slice ha nh hc, .int .i64 st]] w fun e w' => ∃ ok, (e = .returned (.bool ok) ∧ (ok = true ↔ G)) ∧ Below w.heap.size w w'
 obtain ⟨w0, hW⟩ : ∃ W, w.alloc (.cells #[.slice wa nw wc, .slice da nd dc, .slice ta nt tc, .int .i64 tm, .slice ca nc cc, .slice oa no oc, .slice ha nh hc, .int .i64 st] 36) = W := ⟨_, rfl⟩
 have hb0 : Below w.heap.size w w0 := by rw [← hW]; exact (Below.refl _ w).alloc (Nat.le_refl _) _
 have BX0 : Hid (Box w0 w.heap.size #[.slice wa nw wc, .slice da nd dc, .slice ta nt tc, .int .i64 tm, .slice ca nc cc, .slice oa no oc, .slice ha nh hc, .int .i64 st] 36) := by rw [← hW]; exact box_of w _ _
 have HB0 : Hid (Below w.heap.size w w0) := hb0
 have HW : Hid (w.alloc (.cells #[.slice wa nw wc, .slice da nd dc, .slice ta nt tc, .int .i64 tm, .slice ca nc cc, .slice oa no oc, .slice ha nh hc, .int .i64 st] 36) = w0) := hW
 clear h hb0 hW hG hcap hwf
 go_enter Tryz.func28, Tryz.ntmps28
 go_wp2_with fail
 rw [HW.out]
 refine (implMemOk_any wa nw wc ws da nd dc ds w0 (H1.out.below HB0.out (Nat.le_refl _)) (H2.out.below HB0.out (Nat.le_refl _)) (HC.out.below HB0.out (Nat.le_refl _))).mono ?_
 rintro e w1 ⟨r1, ⟨rfl, hr1⟩, hb1⟩
 have HR1 : Hid (r1 = true ↔ MemGood ws nw ds) := hr1
 have BX1 : Hid (Box w1 w.heap.size #[.slice wa nw wc, .slice da nd dc, .slice ta nt tc, .int .i64 tm, .slice ca nc cc, .slice oa no oc, .slice ha nh hc, .int .i64 st] 36) := BX0.out.below hb1 BX0.out.lt
 have HB1 : Hid (Below w.heap.size w w1) := HB0.out.trans (hb1.mono HB0.out.size)
 clear hr1 hb1
 obtain ⟨z0, z1, z2, z3, z4, z5, z6, z7⟩ := eight_of BX1.out
 have L1 : w.heap.size < w1.heap.size := BX1.out.lt
 rcases r1 with _ | _
 · have HNO : Hid (¬ G) := fun hg => by have := HR1.out.2 (HG.out.1 hg).1; cases this
   go_wp2
   go_ret
   exact ⟨false, ⟨rfl, by simp [HNO.out]⟩, HB1.out⟩
 go_wp2_with fail
 refine (impl_threadsOk (.slice wa nw wc) (.int .i64 tm) (.slice ca nc cc) (.slice oa no oc) (.slice ha nh hc) (.int .i64 st) da nd dc ta nt tc ts _ (H3.out.below HB1.out (Nat.le_refl _))).mono ?_
 rintro e w2 ⟨r2, ⟨rfl, hr2⟩, hb2⟩
 have HR2 : Hid (r2 = true ↔ (nd = nt ∧ ∀ i, i < nt → ThGood (ts i) nt)) := hr2
 have BX2 : Hid (Box w2 w.heap.size #[.slice wa nw wc, .slice da nd dc, .slice ta nt tc, .int .i64 tm, .slice ca nc cc, .slice oa no oc, .slice ha nh hc, .int .i64 st] 36) := BX1.out.below hb2 BX1.out.lt
 have HB2 : Hid (Below w.heap.size w w2) := HB1.out.trans (hb2.mono HB1.out.size)
 clear hr2 hb2
 clear z0 z1 z2 z3 z4 z5 z6 z7 L1
 obtain ⟨z0, z1, z2, z3, z4, z5, z6, z7⟩ := eight_of BX2.out
 have L1 : w.heap.size < w2.heap.size := BX2.out.lt
 rcases r2 with _ | _
 · have HNO : Hid (¬ G) := fun hg => by have := HR2.out.2 (HG.out.1 hg).2.1; cases this
   go_wp2
   go_ret
   exact ⟨false, ⟨rfl, by simp [HNO.out]⟩, HB2.out⟩
 go_wp2_with fail
 refine (within_g _ _ _ _).mono ?_
 rintro e w2' ⟨rfl, rfl⟩
 rcases hI : inB tm 0 100000 with _ | _
 · have HNO : Hid (¬ G) := fun hg => by have := (HG.out.1 hg).2.2.1; rw [hI] at this; cases this
   go_wp2
   go_ret
   exact ⟨false, ⟨rfl, by simp [HNO.out]⟩, HB2.out⟩
 have HI : Hid (inB tm 0 100000 = true) := hI
 clear hI
 go_wp2_with fail
 refine (impl_callsOk (.slice wa nw wc) (.slice oa no oc) (.slice ha nh hc) (.int .i64 st) da nd dc ta nt tc hnt tm ca nc cc f _ (H4.out.below HB2.out (Nat.le_refl _))).mono ?_
 rintro e w3 ⟨r3, ⟨rfl, hr3⟩, hb3⟩
 have HR3 : Hid (r3 = true ↔ (nc ≤ 40 ∧ ∀ i, i < nc → CaGood nt tm (f i) = true)) := hr3
 have BX3 : Hid (Box w3 w.heap.size #[.slice wa nw wc, .slice da nd dc, .slice ta nt tc, .int .i64 tm, .slice ca nc cc, .slice oa no oc, .slice ha nh hc, .int .i64 st] 36) := BX2.out.below hb3 BX2.out.lt
 have HB3 : Hid (Below w.heap.size w w3) := HB2.out.trans (hb3.mono HB2.out.size)
 clear hr3 hb3
 clear z0 z1 z2 z3 z4 z5 z6 z7 L1
 obtain ⟨z0, z1, z2, z3, z4, z5, z6, z7⟩ := eight_of BX3.out
 have L1 : w.heap.size < w3.heap.size := BX3.out.lt
 rcases r3 with _ | _
 · have HNO : Hid (¬ G) := fun hg => by have := HR3.out.2 (HG.out.1 hg).2.2.2.1; cases this
   go_wp2
   go_ret
   exact ⟨false, ⟨rfl, by simp [HNO.out]⟩, HB3.out⟩
 go_wp2_with fail
 refine (impl_orderOk (.slice wa nw wc) (.slice da nd dc) (.slice ta nt tc) (.int .i64 tm) (.slice ha nh hc) (.int .i64 st) ca nc cc f oa no oc os _ (H4.out.below HB3.out (Nat.le_refl _)) (H5.out.below HB3.out (Nat.le_refl _))).mono ?_
 rintro e w4 ⟨r4, ⟨rfl, hr4⟩, hb4⟩
 have HR4 : Hid (r4 = true ↔ ((∀ i, i < no → OrdAt f nc os i) ∧ soN f nc = no)) := hr4
 have BX4 : Hid (Box w4 w.heap.size #[.slice wa nw wc, .slice da nd dc, .slice ta nt tc, .int .i64 tm, .slice ca nc cc, .slice oa no oc, .slice ha nh hc, .int .i64 st] 36) := BX3.out.below hb4 BX3.out.lt
 have HB4 : Hid (Below w.heap.size w w4) := HB3.out.trans (hb4.mono HB3.out.size)
 clear hr4 hb4
 clear z0 z1 z2 z3 z4 z5 z6 z7 L1
 obtain ⟨z0, z1, z2, z3, z4, z5, z6, z7⟩ := eight_of BX4.out
 have L1 : w.heap.size < w4.heap.size := BX4.out.lt
 rcases r4 with _ | _
 · have HNO : Hid (¬ G) := fun hg => by have := HR4.out.2 (HG.out.1 hg).2.2.2.2.1; cases this
   go_wp2
   go_ret
   exact ⟨false, ⟨rfl, by simp [HNO.out]⟩, HB4.out⟩
 go_wp2_with fail
 refine (implRowsOk_room ha nh hc hhc st hs _ (H6.out.below HB4.out (Nat.le_refl _)) HWF.out).mono ?_
 rintro e w5 ⟨⟨r5, rfl, hr5⟩, hb5⟩
 have HR5 : Hid (r5 = true ↔ OkRows hs st) := hr5
 have BX5 : Hid (Box w5 w.heap.size #[.slice wa nw wc, .slice da nd dc, .slice ta nt tc, .int .i64 tm, .slice ca nc cc, .slice oa no oc, .slice ha nh hc, .int .i64 st] 36) := BX4.out.below hb5 BX4.out.lt
 have HB5 : Hid (Below w.heap.size w w5) := HB4.out.trans (hb5.mono HB4.out.size)
 clear hr5 hb5
 clear z0 z1 z2 z3 z4 z5 z6 z7 L1
 obtain ⟨z0, z1, z2, z3, z4, z5, z6, z7⟩ := eight_of BX5.out
 have L1 : w.heap.size < w5.heap.size := BX5.out.lt
 rcases r5 with _ | _
 · have HNO : Hid (¬ G) := fun hg => by have := HR5.out.2 (HG.out.1 hg).2.2.2.2.2.1; cases this
   go_wp2
   go_ret
   exact ⟨false, ⟨rfl, by simp [HNO.out]⟩, HB5.out⟩
 have HTH : Hid (∀ i, i < nt → ThGood (ts i) nt) := (HR2.out.1 (by first | rfl | trivial)).2
 go_wp2_with fail
 refine (impl_tasksOk (.slice wa nw wc) (.slice da nd dc) (.int .i64 tm) (.slice oa no oc) (.slice ha nh hc) (.int .i64 st) ta nt tc ts ca nc cc f _ (H3.out.below HB5.out (Nat.le_refl _)) (H4.out.below HB5.out (Nat.le_refl _)) (fun i hi hon => ⟨(HTH.out i hi).pc.1, (HTH.out i hi).on hon⟩)).mono ?_
 rintro e w6 ⟨r6, ⟨rfl, hr6⟩, hb6⟩
 have HR6 : Hid (r6 = true ↔ ∀ i, i < nt → TaskGood (ts i) (callsL f (i : Int) nc)) := hr6
 have HB6 : Hid (Below w.heap.size w w6) := HB5.out.trans (hb6.mono HB5.out.size)
 clear hr6 hb6
 rcases r6 with _ | _
 · have HNO : Hid (¬ G) := fun hg => by have := HR6.out.2 (HG.out.1 hg).2.2.2.2.2.2; cases this
   go_wp2
   go_ret
   exact ⟨false, ⟨rfl, by simp [HNO.out]⟩, HB6.out⟩
 have HY : Hid G := HG.out.2 ⟨HR1.out.1 (by first | rfl | trivial), HR2.out.1 (by first | rfl | trivial), HI.out, HR3.out.1 (by first | rfl | trivial), HR4.out.1 (by first | rfl | trivial), HR5.out.1 (by first | rfl | trivial), HR6.out.1 (by first | rfl | trivial)⟩
 go_wp2
 go_ret
 exact ⟨true, ⟨rfl, by simp [HY.out]⟩, HB6.out⟩
end
end Go.Proofs.YtcfimaffeopbbaaGreatDoor
