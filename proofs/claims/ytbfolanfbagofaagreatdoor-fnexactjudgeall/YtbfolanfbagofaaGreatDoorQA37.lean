/- Texts joined: ImplTi, ImplJa, LaidE, Laid. -/
import Derived.Test.YtbfolanfbagofaaGreatDoorQA15
import Derived.Test.YtbfolanfbagofaaGreatDoorQA36
import Derived.LaidEql
import Derived.Deep.Cut
import Derived.Deep.RegionHeld3
import Derived.Test.YtbfolanfbagofaaGreatDoorRows
import Derived.Test.YtbfolanfbagofaaGreatDoorQA01
import Derived.ChangeVars
import Derived.ChangeReads
import Derived.Stop.LaidErr
import Derived.Stop.LaidTwo
import Derived.Lib.LaidTab
import Derived.LaidMore
import Derived.MakeChecks
import Derived.Below
import Derived.Test.YtbfolanfbagofaaGreatDoorQA33
import Derived.Lib.LaidU8
set_option maxHeartbeats 16000000
set_option maxRecDepth 100000
namespace Go.Proofs.YtbfolanfbagofaaGreatDoor
section
open Go.ChangeShapes Go.WideShapes Go.ChangeAt Go.RowKit
def ErrT (w : World) : Prop := ∃ a b c, w.cell? ⟨0, 0, none⟩ = some (.iface 260 (.pointer (some a))) ∧ w.cell? ⟨2, 0, none⟩ = some (.iface 260 (.pointer (some b))) ∧ w.cell? ⟨3, 0, none⟩ = some (.iface 260 (.pointer (some c)))
theorem ErrT.below {w w' : World} (h : ErrT w) {B : Nat} (hb : Below B w w') (hB : w.heap.size ≤ B) : ErrT w' := by
 obtain ⟨a, b, c, h1, h2, h3⟩ := h
 exact ⟨a, b, c, (hb.cell (Nat.lt_of_lt_of_le (World.block_lt_of_cell? w _ h1) hB)).trans h1, (hb.cell (Nat.lt_of_lt_of_le (World.block_lt_of_cell? w _ h2) hB)).trans h2, (hb.cell (Nat.lt_of_lt_of_le (World.block_lt_of_cell? w _ h3) hB)).trans h3⟩
def LastAt (w : World) (g nt : Nat) (f : Nat → CaD) (k : Nat) : Prop := ∃ A : Array Value, Box w g A 3 ∧ A.size = nt ∧ ∀ j, j < nt → A[j]? = some (.int .i64 (lastE f (j : Int) k))
theorem LastAt.lt {w : World} {g nc : Nat} {f : Nat → CaD} {k : Nat} (h : LastAt w g nc f k) : g < w.heap.size := let ⟨_, h, _⟩ := h; h.lt
theorem LastAt.at_ {w : World} {g nc : Nat} {f : Nat → CaD} {k : Nat} (h : LastAt w g nc f k) {j : Nat} (hj : j < nc) : w.cell? ⟨g, j, none⟩ = some (.int .i64 (lastE f (j : Int) k)) := let ⟨_, h, _, h2⟩ := h; (h.cell j).trans (h2 j hj)
theorem LastAt.fr {w : World} {g nc : Nat} {f : Nat → CaD} {k : Nat} (h : LastAt w g nc f k) (j : Nat) : w.frozen? ⟨g, j, none⟩ = false := let ⟨_, h, _⟩ := h; h.frozen j
theorem LastAt.below {w w' : World} {g nc : Nat} {f : Nat → CaD} {k : Nat} (h : LastAt w g nc f k) {B : Nat} (hb : Below B w w') (hB : w.heap.size ≤ B) : LastAt w' g nc f k := let ⟨A, h, h2⟩ := h; ⟨A, h.below hb (Nat.lt_of_lt_of_le h.lt hB), h2⟩
theorem LastAt.put {w : World} {g nc : Nat} {f : Nat → CaD} {k y : Nat} (h : LastAt w g nc f k) (hy : (f k).t = (y : Int)) {x : Int} (hx : (f k).en = x) : LastAt (w.setCell ⟨g, y, none⟩ (.int .i64 x)) g nc f (k + 1) := by
 obtain ⟨A, h, h1, h2⟩ := h
 refine ⟨_, h.put y (.int .i64 x), by simpa using h1, fun j hj => ?_⟩
 unfold lastE
 rw [hy]
 by_cases e : y = j
 · subst e
   rw [Array.getElem?_setIfInBounds_self_of_lt (by omega), if_pos rfl, hx]
 · rw [Array.getElem?_setIfInBounds_ne e, h2 j hj, if_neg (by omega)]
theorem reps_at {w : World} {g n : Nat} (h : Box w g (reps n) 3) (f : Nat → CaD) : LastAt w g n f 0 := ⟨_, h, by simp [reps], fun j hj => by simp [reps, hj, lastE]⟩
def TiSays (G : Prop) (e : Ending) : Prop := (G ∧ e = .returned .nilIface) ∨ (¬ G ∧ ∃ a, e = .returned (.iface 260 (.pointer (some a))))
theorem impl_times (wa : Option Addr) (wc : Nat) (da : Option Addr) (dc : Nat) (ta : Option Addr) (tc : Nat) (ca : Option Addr) (cc : Nat) (oa : Option Addr) (oc : Nat) (ha : Option Addr) (hc : Nat) (M : MaD) (w : World) (h : MaAt w wa da ta ca oa ha M) (hcap : CapAt w da M.nd M.ds) (hwf : ∀ x ∈ M.hs, (Lit.int .i64 x).wf = true) (hhc : M.nh ≤ hc) (he : ErrT w) :
   Calls Tryz.prog 50 #[MaV wa wc da dc ta tc ca cc oa oc ha hc M] w fun e w' => TiSays (JTimes M) e ∧ Below w.heap.size w w' := by
 obtain ⟨G, hG⟩ : ∃ G : Prop, JTimes M = G := ⟨_, rfl⟩
 rw [hG]
 have HM : Hid (MaAt w wa da ta ca oa ha M ∧ CapAt w da M.nd M.ds ∧ (∀ x ∈ M.hs, (Lit.int .i64 x).wf = true) ∧ M.nh ≤ hc) := ⟨h, hcap, hwf, hhc⟩
 obtain ⟨MO, hMO⟩ : ∃ MO : Prop, MachGood M = MO := ⟨_, rfl⟩
 have HMO : Hid (MachGood M = MO) := hMO
 obtain ⟨TA, hTA⟩ : ∃ TA : Nat → Prop, TimeI M = TA := ⟨_, rfl⟩
 have HTA : Hid (∀ i, TA i ↔ ((0 ≤ (M.f i).en → inB (M.f i).ln (M.f i).st (M.f i).en = true) ∧ lastE M.f (M.f i).t i < (M.f i).st)) := fun i => by rw [← hTA]; exact Iff.rfl
 have HG : Hid (G ↔ (MO ∧ ∀ i, i < M.nc → TA i)) := by
   show _ ↔ _
   rw [← hG, ← hMO, ← hTA]
   unfold JTimes
   exact ⟨fun h => ⟨h.1, (times_iff h.1).1 h.2⟩, fun h => ⟨h.1, (times_iff h.1).2 h.2⟩⟩
 have HTH : Hid (MO → 1 ≤ M.nt ∧ M.nt ≤ 4) := fun hm => by
   rw [← hMO] at hm
   have h1 := hm.mem.2.1
   have h2 := h.descs.1
   have h3 := hm.many
   omega
 have HTR : Hid (MO → ∀ i, i < M.nc → inB (M.f i).t 0 ((M.nt : Int) - 1) = true) := fun hm i hi => by
   rw [← hMO] at hm
   have hc := hm.calls.each i hi
   simp only [CaGood, Bool.and_eq_true] at hc
   exact hc.1
 have HE : Hid (ErrT w) := he
 obtain ⟨nw, ws, nd, ds, nt, ts, tm, nc, f, no, os, nh, hs, st⟩ := M
 have H3 : Hid (CasAt w ca nc f) := h.calls
 have hnc := h.calls.1
 have hnt := h.ths.1
 dsimp only at hnc hnt HTA HG HTH HTR
 show Calls Tryz.prog 50 #[.agg #[.slice wa nw wc, .slice da nd dc, .slice ta nt tc, .int .i64 tm, .slice ca nc cc, .slice oa no oc, .slice ha nh hc, .int .i64 st]] w fun e w' => TiSays G e ∧ Below w.heap.size w w'
 obtain ⟨W, hW⟩ : ∃ W, w.alloc (.cells #[.slice wa nw wc, .slice da nd dc, .slice ta nt tc, .int .i64 tm, .slice ca nc cc, .slice oa no oc, .slice ha nh hc, .int .i64 st] 43) = W := ⟨_, rfl⟩
 have hb0 : Below w.heap.size w W := by rw [← hW]; exact (Below.refl _ w).alloc (Nat.le_refl _) _
 have BX : Hid (Box W w.heap.size #[.slice wa nw wc, .slice da nd dc, .slice ta nt tc, .int .i64 tm, .slice ca nc cc, .slice oa no oc, .slice ha nh hc, .int .i64 st] 43) := by rw [← hW]; exact box_of w _ _
 have HB0 : Hid (Below w.heap.size w W) := hb0
 have HW : Hid (w.alloc (.cells #[.slice wa nw wc, .slice da nd dc, .slice ta nt tc, .int .i64 tm, .slice ca nc cc, .slice oa no oc, .slice ha nh hc, .int .i64 st] 43) = W) := hW
 clear h hcap hwf hhc hb0 hW hG hMO hTA he
 go_enter Tryz.func50, Tryz.ntmps50
 go_wp2_with fail
 rw [HW.out]
 refine (implMachineOk_any wa wc da dc ta tc ca cc oa oc ha hc ⟨nw, ws, nd, ds, nt, ts, tm, nc, f, no, os, nh, hs, st⟩ W (HM.out.1.below HB0.out (Nat.le_refl _)) (HM.out.2.1.below HB0.out (Nat.le_refl _)) HM.out.2.2.1 HM.out.2.2.2).mono ?_
 rintro e w1 ⟨r, ⟨rfl, hr⟩, hb1⟩
 have HR : Hid (r = true ↔ MO) := by show _ ↔ _; rw [← HMO.out]; exact hr
 have BX1 : Hid (Box w1 w.heap.size #[.slice wa nw wc, .slice da nd dc, .slice ta nt tc, .int .i64 tm, .slice ca nc cc, .slice oa no oc, .slice ha nh hc, .int .i64 st] 43) := BX.out.below hb1 BX.out.lt
 have HB1 : Hid (Below w.heap.size w w1) := HB0.out.trans (hb1.mono HB0.out.size)
 obtain ⟨z0, z1, z2, z3, z4, z5, z6, z7⟩ := eight_of BX1.out
 clear hr hb1
 rcases r with _ | _
 · have HNO : Hid (¬ G) := fun hg => by have := HR.out.2 (HG.out.1 hg).1; cases this
   obtain ⟨ea, eb, ec, q0, q1, q2⟩ := HE.out.below HB1.out (Nat.le_refl _)
   go_wp2
   go_ret
   exact ⟨.inr ⟨HNO.out, _, rfl⟩, HB1.out⟩
 have HOK : Hid MO := HR.out.1 (by first | rfl | trivial)
 obtain ⟨X, hX⟩ : ∃ X, w1.alloc (.cells #[.int .i64 (-1)] 3) = X := ⟨_, rfl⟩
 have hbx : Below w1.heap.size w1 X := by rw [← hX]; exact (Below.refl _ w1).alloc (Nat.le_refl _) _
 have BL : Hid (Box X w1.heap.size #[.int .i64 (-1)] 3) := by rw [← hX]; exact box_of w1 _ _
 have BMX : Hid (Box X w.heap.size #[.slice wa nw wc, .slice da nd dc, .slice ta nt tc, .int .i64 tm, .slice ca nc cc, .slice oa no oc, .slice ha nh hc, .int .i64 st] 43) := BX1.out.below hbx BX1.out.lt
 have HBX : Hid (Below w.heap.size w X) := HB1.out.trans (hbx.mono HB1.out.size)
 have HX : Hid (w1.alloc (.cells #[.int .i64 (-1)] 3) = X) := hX
 clear hbx
 obtain ⟨y0, y1, y2, y3, y4, y5, y6, y7⟩ := eight_of BMX.out
 go_wp2_with fail
 (try rw [HX.out])
 clear hX y0 y1 y2 y3 y4 y5 y6 y7
 refine (repeat_any nt (HTH.out HOK.out) w1.heap.size X BL.out).mono ?_
 rintro e w2 ⟨rfl, hbl, hb2⟩
 have LA0 : Hid (LastAt w2 X.heap.size nt f 0) := reps_at hbl f
 have BM2 : Hid (Box w2 w.heap.size #[.slice wa nw wc, .slice da nd dc, .slice ta nt tc, .int .i64 tm, .slice ca nc cc, .slice oa no oc, .slice ha nh hc, .int .i64 st] 43) := BMX.out.below hb2 BMX.out.lt
 have HB2 : Hid (Below w.heap.size w w2) := HBX.out.trans (hb2.mono HBX.out.size)
 obtain ⟨g, hg⟩ : ∃ g, X.heap.size = g := ⟨_, rfl⟩
 have LG : w.heap.size < g := by rw [← hg]; exact BMX.out.lt
 rw [hg] at LA0 ⊢
 clear z0 z1 z2 z3 z4 z5 z6 z7 hbl hb2 hg
 obtain ⟨z0, z1, z2, z3, z4, z5, z6, z7⟩ := eight_of BM2.out
 go_wp2
 go_loopw [18] (fun i wr => ∃ k : Nat, k ≤ nc ∧ i = .int .i64 (k : Int) ∧ (∀ j, j < k → TA j) ∧ LastAt wr g nt f k ∧ Below g w2 wr) (fun i _ => nc - (intOf i).toNat)
 case atStart => exact ⟨0, Nat.zero_le _, rfl, (fun j h => by omega), LA0.out, Below.refl _ _⟩
 case round =>
   clear z0 z1 z2 z3 z4 z5 z6 z7
   obtain ⟨k, hk, rfl, hall, hla, hb⟩ := hrel
   have HALL : Hid (∀ j, j < k → TA j) := hall
   have HLA : Hid (LastAt wr g nt f k) := hla
   have HB : Hid (Below g w2 wr) := hb
   have HBW : Hid (Below w.heap.size w wr) := HB2.out.trans (hb.mono (Nat.le_of_lt LG))
   clear hall hla hb
   by_cases hlt : k < nc
   case neg =>
     obtain rfl : nc = k := by omega
     have HYES : Hid G := HG.out.2 ⟨HOK.out, HALL.out⟩
     go_wp2
     go_ret
     exact ⟨.inl ⟨HYES.out, rfl⟩, HBW.out⟩
   have hk0 : (0 : Int) ≤ (k : Int) := by omega
   have hk1 : (k : Int) < (nc : Int) := by omega
   rcases (H3.out.below HBW.out (Nat.le_refl _)).2 with h0 | ⟨p1, o1, rfl, g1⟩
   · omega
   obtain ⟨ra, rn, rc, e0, e1, e2, e3, e4, e5, e6, e7, e8⟩ := g1 k hlt
   have HTK := HTA.out k
   have HTI := HTR.out HOK.out k hlt
   obtain ⟨C, hC⟩ : ∃ C, f k = C := ⟨_, rfl⟩
   have HC : Hid (f k = C) := hC
   rw [hC] at e0 e1 e2 e3 e4 e5 e6 e7 HTK HTI
   obtain ⟨x0, x1, x2, x3, x4, x5, x6, x7⟩ := C
   dsimp only at e0 e1 e2 e3 e4 e5 e6 e7 HTK HTI
   obtain ⟨y, rfl⟩ : ∃ y : Nat, x0 = (y : Int) := ⟨x0.toNat, by have := inB_val HTI; omega⟩
   have hy : y < nt := by have := inB_val HTI; omega
   have hy0 : (0 : Int) ≤ (y : Int) := by omega
   have hy1 : (y : Int) < (nt : Int) := by omega
   have HTK : Hid (TA k ↔ ((0 ≤ x6 → inB x5 x4 x6 = true) ∧ lastE f (y : Int) k < x4)) := HTK
   obtain ⟨X2, hX2⟩ : ∃ X2, wr.alloc (.cells #[.int .i64 (y : Int), .int .i64 x1, .int .i64 x2, .int .i64 x3, .int .i64 x4, .int .i64 x5, .int .i64 x6, .int .i64 x7, .slice ra rn rc] 84) = X2 := ⟨_, rfl⟩
   have hbx2 : Below wr.heap.size wr X2 := by rw [← hX2]; exact (Below.refl _ wr).alloc (Nat.le_refl _) _
   have BC : Hid (Box X2 wr.heap.size #[.int .i64 (y : Int), .int .i64 x1, .int .i64 x2, .int .i64 x3, .int .i64 x4, .int .i64 x5, .int .i64 x6, .int .i64 x7, .slice ra rn rc] 84) := by rw [← hX2]; exact box_of wr _ _
   have HLX : Hid (LastAt X2 g nt f k) := HLA.out.below hbx2 (Nat.le_refl _)
   have HBX2 : Hid (Below g w2 X2) := HB.out.trans (hbx2.mono (Nat.le_of_lt HLA.out.lt))
   have HX2 : Hid (wr.alloc (.cells #[.int .i64 (y : Int), .int .i64 x1, .int .i64 x2, .int .i64 x3, .int .i64 x4, .int .i64 x5, .int .i64 x6, .int .i64 x7, .slice ra rn rc] 84) = X2) := hX2
   obtain ⟨q, hq⟩ : ∃ q, wr.heap.size = q := ⟨_, rfl⟩
   have HQ : Hid (wr.heap.size = q) := hq
   have LQ : g < q := by rw [← hq]; exact HLA.out.lt
   clear g1 hC hX2 hbx2 HTI
   go_wp2_with fail
   rw [HX2.out]
   (try rw [HQ.out])
   rw [HQ.out] at BC
   refine (impl_ended ⟨(y : Int), x1, x2, x3, x4, x5, x6, x7⟩ (.slice ra rn rc) X2).mono ?_
   rintro e w3 ⟨rfl, hb3⟩
   have BC3 : Hid (Box w3 q #[.int .i64 (y : Int), .int .i64 x1, .int .i64 x2, .int .i64 x3, .int .i64 x4, .int .i64 x5, .int .i64 x6, .int .i64 x7, .slice ra rn rc] 84) := BC.out.below hb3 BC.out.lt
   have HL3 : Hid (LastAt w3 g nt f k) := HLX.out.below hb3 (Nat.le_refl _)
   have HB3 : Hid (Below g w2 w3) := HBX2.out.trans (hb3.mono (Nat.le_of_lt HLX.out.lt))
   have HBW3 : Hid (Below w.heap.size w w3) := HB2.out.trans (HB3.out.mono (Nat.le_of_lt LG))
   obtain ⟨ea, eb, ec, q0, q1, q2⟩ := HE.out.below HBW3.out (Nat.le_refl _)
   clear e0 e1 e2 e3 e4 e5 e6 e7 e8 hb3 hq HX2 HQ
   obtain ⟨u0, u1, u2, u3, u4, u5, u6, u7, u8⟩ := nine_of BC3.out
   have s0 := HL3.out.at_ hy
   have s1 := HL3.out.fr y
   obtain ⟨l, hl⟩ : ∃ l, lastE f (y : Int) k = l := ⟨_, rfl⟩
   rw [hl] at s0
   have HTK : Hid (TA k ↔ ((0 ≤ x6 → inB x5 x4 x6 = true) ∧ l < x4)) := by show _ ↔ _; rw [← hl]; exact HTK.out
   have HL4 : Hid (LastAt (w3.drew.setCell ⟨g, y, none⟩ (.int .i64 x6)) g nt f (k + 1)) := LastAt.put (HL3.out.below (Below.refl w3.heap.size w3).drew (Nat.le_refl _)) (by rw [HC.out]) (by rw [HC.out])
   have HB4 : Hid (Below g w2 (w3.drew.setCell ⟨g, y, none⟩ (.int .i64 x6))) := HB3.out.drew.setCell (by simp) _
   have K0 : Hid (w3.drew.cell? ⟨q, 4, none⟩ = some (.int .i64 x4) ∧ w3.drew.cell? ⟨q, 0, none⟩ = some (.int .i64 (y : Int)) ∧ w3.drew.cell? ⟨g, y, none⟩ = some (.int .i64 l)) := ⟨u4, u0, s0⟩
   have D : Hid (Box w3.drew q #[.int .i64 (y : Int), .int .i64 x1, .int .i64 x2, .int .i64 x3, .int .i64 x4, .int .i64 x5, .int .i64 x6, .int .i64 x7, .slice ra rn rc] 84) := BC3.out.drew
   have s2 : w3.drew.frozen? ⟨g, y, none⟩ = false := (HL3.out.below (Below.refl w3.heap.size w3).drew (Nat.le_refl _)).fr y
   have r0 : w3.drew.cell? ⟨g, y, none⟩ = some (.int .i64 l) := s0
   have r2 : w3.drew.cell? ⟨3, 0, none⟩ = some (.iface 260 (.pointer (some ec))) := q2
   clear hl
   have step : ∀ ok : Bool, (ok = true ↔ (0 ≤ x6 → inB x5 x4 x6 = true)) → Hid (TA k ↔ (ok = true ∧ l < x4)) := fun ok h => by show _ ↔ _; rw [HTK.out, h]
   by_cases hx6 : 0 ≤ x6
   · rw [show decide (0 ≤ x6) = true from decide_eq_true hx6]
     obtain ⟨I0, hI0⟩ : ∃ I0, inB x5 x4 x6 = I0 := ⟨_, rfl⟩
     have HI0 : Hid (inB x5 x4 x6 = I0) := hI0
     have HTK2 : Hid (TA k ↔ (I0 = true ∧ l < x4)) := step I0 (by rw [hI0]; exact ⟨fun h _ => h, fun h => h hx6⟩)
     clear hI0 step hx6
     go_wp2_with fail
     refine (within_g _ _ _ _).mono ?_
     rintro e w4 ⟨rfl, rfl⟩
     rw [HI0.out]
     rcases I0 with _ | _
     · have HNO : Hid (¬ G) := fun hg => by have := (HTK2.out.1 ((HG.out.1 hg).2 k hlt)).1; cases this
       go_wp2
       go_ret
       exact ⟨.inr ⟨HNO.out, _, rfl⟩, HBW3.out⟩
     go_wp2_with fail
     go_region_held3 (fun w' => w'.cell? ⟨q, 4, none⟩ = some (.int .i64 x4) ∧ w'.cell? ⟨q, 0, none⟩ = some (.int .i64 (y : Int)) ∧ w'.cell? ⟨g, y, none⟩ = some (.int .i64 l))
       (first | (with_reducible exact K0.out) | go_keep)
       (fail)
     clear u0 u1 u2 u3 u4 u5 u6 u7 u8
     obtain ⟨u0, u1, u2, u3, u4, u5, u6, u7, u8⟩ := nine_of D.out
     by_cases hle : x4 ≤ l
     · have HNO : Hid (¬ G) := fun hg => by have := (HTK2.out.1 ((HG.out.1 hg).2 k hlt)).2; omega
       rw [show decide (x4 ≤ l) = true from decide_eq_true hle]
       clear hle
       go_wp2
       go_ret
       exact ⟨.inr ⟨HNO.out, _, rfl⟩, HBW3.out.drew⟩
     · have HOKK : Hid (TA k) := HTK2.out.2 ⟨by trivial, by omega⟩
       rw [show decide (x4 ≤ l) = false from decide_eq_false hle]
       clear hle
       go_wp2
       exact ⟨⟨k + 1, by omega, by go_num, all_next HALL.out HOKK.out, HL4.out, HB4.out⟩, by simp [intOf]; omega⟩
   · rw [show decide (0 ≤ x6) = false from decide_eq_false hx6]
     have HTK2 : Hid (TA k ↔ (True ∧ l < x4)) := by have := (step true ⟨fun _ h => absurd h hx6, fun _ => rfl⟩).out; show _ ↔ _; simpa using this
     clear step hx6
     go_wp2_with fail
     go_region_held3 (fun w' => w'.cell? ⟨q, 4, none⟩ = some (.int .i64 x4) ∧ w'.cell? ⟨q, 0, none⟩ = some (.int .i64 (y : Int)) ∧ w'.cell? ⟨g, y, none⟩ = some (.int .i64 l))
       (first | (with_reducible exact K0.out) | go_keep)
       (fail)
     clear u0 u1 u2 u3 u4 u5 u6 u7 u8
     obtain ⟨u0, u1, u2, u3, u4, u5, u6, u7, u8⟩ := nine_of D.out
     by_cases hle : x4 ≤ l
     · have HNO : Hid (¬ G) := fun hg => by have := (HTK2.out.1 ((HG.out.1 hg).2 k hlt)).2; omega
       rw [show decide (x4 ≤ l) = true from decide_eq_true hle]
       clear hle
       go_wp2
       go_ret
       exact ⟨.inr ⟨HNO.out, _, rfl⟩, HBW3.out.drew⟩
     · have HOKK : Hid (TA k) := HTK2.out.2 ⟨by trivial, by omega⟩
       rw [show decide (x4 ≤ l) = false from decide_eq_false hle]
       clear hle
       go_wp2
       exact ⟨⟨k + 1, by omega, by go_num, all_next HALL.out HOKK.out, HL4.out, HB4.out⟩, by simp [intOf]; omega⟩
theorem implJudgeTimes_any (wa : Option Addr) (wc : Nat) (da : Option Addr) (dc : Nat) (ta : Option Addr) (tc : Nat) (ca : Option Addr) (cc : Nat) (oa : Option Addr) (oc : Nat) (ha : Option Addr) (hc : Nat) (M : MaD) (w : World) (h : MaAt w wa da ta ca oa ha M) (hcap : CapAt w da M.nd M.ds) (hwf : ∀ x ∈ M.hs, (Lit.int .i64 x).wf = true) (hhc : M.nh ≤ hc) (he : ErrT w) :
   Calls Tryz.prog 24 #[MaV wa wc da dc ta tc ca cc oa oc ha hc M] w fun e w' => ∃ ok, (e = .returned (.bool ok) ∧ (ok = true ↔ JTimes M)) ∧ Below w.heap.size w w' := by
 obtain ⟨G, hG⟩ : ∃ G : Prop, JTimes M = G := ⟨_, rfl⟩
 have HGG : Hid (JTimes M = G) := hG
 rw [hG]
 have HM : Hid (MaAt w wa da ta ca oa ha M ∧ CapAt w da M.nd M.ds ∧ (∀ x ∈ M.hs, (Lit.int .i64 x).wf = true) ∧ M.nh ≤ hc) := ⟨h, hcap, hwf, hhc⟩
 have HE : Hid (ErrT w) := he
 obtain ⟨nw, ws, nd, ds, nt, ts, tm, nc, f, no, os, nh, hs, st⟩ := M
 show Calls Tryz.prog 24 #[.agg #[.slice wa nw wc, .slice da nd dc, .slice ta nt tc, .int .i64 tm, .slice ca nc cc, .slice oa no oc, .slice ha nh hc, .int .i64 st]] w fun e w' => ∃ ok, (e = .returned (.bool ok) ∧ (ok = true ↔ G)) ∧ Below w.heap.size w w'
 obtain ⟨W, hW⟩ : ∃ W, w.alloc (.cells #[.slice wa nw wc, .slice da nd dc, .slice ta nt tc, .int .i64 tm, .slice ca nc cc, .slice oa no oc, .slice ha nh hc, .int .i64 st] 43) = W := ⟨_, rfl⟩
 have HB0 : Hid (Below w.heap.size w W) := by show Below _ _ _; rw [← hW]; exact (Below.refl _ w).alloc (Nat.le_refl _) _
 have HW : Hid (w.alloc (.cells #[.slice wa nw wc, .slice da nd dc, .slice ta nt tc, .int .i64 tm, .slice ca nc cc, .slice oa no oc, .slice ha nh hc, .int .i64 st] 43) = W) := hW
 clear h hcap hwf hhc hW hG he
 go_enter Tryz.func24, Tryz.ntmps24
 go_wp2_with fail
 rw [HW.out]
 refine (impl_times wa wc da dc ta tc ca cc oa oc ha hc ⟨nw, ws, nd, ds, nt, ts, tm, nc, f, no, os, nh, hs, st⟩ W (HM.out.1.below HB0.out (Nat.le_refl _)) (HM.out.2.1.below HB0.out (Nat.le_refl _)) HM.out.2.2.1 HM.out.2.2.2 (HE.out.below HB0.out (Nat.le_refl _))).mono ?_
 rintro e w1 ⟨hs, hb1⟩
 have HB1 : Hid (Below w.heap.size w w1) := HB0.out.trans (hb1.mono HB0.out.size)
 clear hb1
 rw [HGG.out] at hs
 rcases hs with ⟨hg, rfl⟩ | ⟨hg, a, rfl⟩
 · have HGO : Hid G := hg
   clear hg
   go_wp2
   go_ret
   first | exact ⟨true, ⟨rfl, by simp [HGO.out]⟩, HB1.out⟩ | exact ⟨.inr ⟨rfl, HGO.out⟩, HB1.out⟩
 · have HGO : Hid (¬ G) := hg
   clear hg
   go_wp2
   go_ret
   first | exact ⟨false, ⟨rfl, by simp [HGO.out]⟩, HB1.out⟩ | exact ⟨.inl ⟨rfl, HGO.out⟩, HB1.out⟩
def ErrA (w : World) : Prop := ErrR w ∧ Names w ∧ ErrT w
theorem ErrA.below {w w' : World} (h : ErrA w) {B : Nat} (hb : Below B w w') (hB : w.heap.size ≤ B) : ErrA w' := ⟨h.1.below hb hB, h.2.1.below hb (Nat.lt_of_lt_of_le h.2.1.lt hB), h.2.2.below hb hB⟩
theorem implJudgeAll_any (wa : Option Addr) (wc : Nat) (da : Option Addr) (dc : Nat) (ta : Option Addr) (tc : Nat) (ca : Option Addr) (cc : Nat) (oa : Option Addr) (oc : Nat) (ha : Option Addr) (hc : Nat) (M : MaD) (rs : Nat → List Int) (w : World) (h : MaAt w wa da ta ca oa ha M) (hr : CasR w ca M.nc M.f rs) (hcap : CapAt w da M.nd M.ds) (hwf : ∀ x ∈ M.hs, (Lit.int .i64 x).wf = true) (hhc : M.nh ≤ hc) (he : ErrA w) :
   Calls Tryz.prog 7 #[MaV wa wc da dc ta tc ca cc oa oc ha hc M] w fun e w' => ∃ ok, (e = .returned (.bool ok) ∧ (ok = true ↔ JAll M rs)) ∧ Below w.heap.size w w' := by
 have HM : Hid (MaAt w wa da ta ca oa ha M ∧ CasR w ca M.nc M.f rs ∧ CapAt w da M.nd M.ds ∧ (∀ x ∈ M.hs, (Lit.int .i64 x).wf = true) ∧ M.nh ≤ hc) := ⟨h, hr, hcap, hwf, hhc⟩
 have HE : Hid (ErrA w) := he
 obtain ⟨G, hG⟩ : ∃ G : Prop, JAll M rs = G := ⟨_, rfl⟩
 have HG : Hid (G ↔ (JSo M rs ∧ JWords M rs ∧ JTimes M)) := by show _ ↔ _; rw [← hG]; exact Iff.rfl
 rw [hG]
 clear hG h hr hcap hwf hhc he
 obtain ⟨nw, ws, nd, ds, nt, ts, tm, nc, f, no, os, nh, hs, st⟩ := M
 show Calls Tryz.prog 7 #[.agg #[.slice wa nw wc, .slice da nd dc, .slice ta nt tc, .int .i64 tm, .slice ca nc cc, .slice oa no oc, .slice ha nh hc, .int .i64 st]] w fun e w' => ∃ ok, (e = .returned (.bool ok) ∧ (ok = true ↔ G)) ∧ Below w.heap.size w w'
 obtain ⟨W, hW⟩ : ∃ W, w.alloc (.cells #[.slice wa nw wc, .slice da nd dc, .slice ta nt tc, .int .i64 tm, .slice ca nc cc, .slice oa no oc, .slice ha nh hc, .int .i64 st] 43) = W := ⟨_, rfl⟩
 have HB0 : Hid (Below w.heap.size w W) := by show Below _ _ _; rw [← hW]; exact (Below.refl _ w).alloc (Nat.le_refl _) _
 have BX : Hid (Box W w.heap.size #[.slice wa nw wc, .slice da nd dc, .slice ta nt tc, .int .i64 tm, .slice ca nc cc, .slice oa no oc, .slice ha nh hc, .int .i64 st] 43) := by rw [← hW]; exact box_of w _ _
 have HW : Hid (w.alloc (.cells #[.slice wa nw wc, .slice da nd dc, .slice ta nt tc, .int .i64 tm, .slice ca nc cc, .slice oa no oc, .slice ha nh hc, .int .i64 st] 43) = W) := hW
 clear hW
 go_enter Tryz.func7, Tryz.ntmps7
 go_wp2_with fail
 rw [HW.out]
 refine (implJudgeSo_any wa wc da dc ta tc ca cc oa oc ha hc ⟨nw, ws, nd, ds, nt, ts, tm, nc, f, no, os, nh, hs, st⟩ rs W (HM.out.1.below HB0.out (Nat.le_refl _)) (HM.out.2.1.below HB0.out (Nat.le_refl _)) (HM.out.2.2.1.below HB0.out (Nat.le_refl _)) HM.out.2.2.2.1 HM.out.2.2.2.2 (HE.out.1.below HB0.out (Nat.le_refl _))).mono ?_
 rintro e w1 ⟨b1, ⟨rfl, h1⟩, hb1⟩
 have BX1 : Hid (Box w1 w.heap.size #[.slice wa nw wc, .slice da nd dc, .slice ta nt tc, .int .i64 tm, .slice ca nc cc, .slice oa no oc, .slice ha nh hc, .int .i64 st] 43) := BX.out.below hb1 BX.out.lt
 have HB1 : Hid (Below w.heap.size w w1) := HB0.out.trans (hb1.mono HB0.out.size)
 have H1 : Hid (b1 = true ↔ JSo ⟨nw, ws, nd, ds, nt, ts, tm, nc, f, no, os, nh, hs, st⟩ rs) := h1
 obtain ⟨z0, z1, z2, z3, z4, z5, z6, z7⟩ := eight_of BX1.out
 clear h1 hb1
 rcases b1 with _ | _
 · have HN : Hid (¬ G) := fun h => by have := H1.out.2 (HG.out.1 h).1; cases this
   go_wp2
   go_ret
   first | exact ⟨false, ⟨rfl, by simp [HN.out]⟩, HB1.out⟩ | exact ⟨HN.out, HB1.out⟩ | exact ⟨.inl ⟨rfl, HN.out⟩, HB1.out⟩
 have H1' : Hid (JSo ⟨nw, ws, nd, ds, nt, ts, tm, nc, f, no, os, nh, hs, st⟩ rs) := H1.out.1 rfl
 clear H1
 go_wp2_with fail
 refine (implJudgeWords_any wa wc da dc ta tc ca cc oa oc ha hc ⟨nw, ws, nd, ds, nt, ts, tm, nc, f, no, os, nh, hs, st⟩ rs w1 (HM.out.1.below HB1.out (Nat.le_refl _)) (HM.out.2.1.below HB1.out (Nat.le_refl _)) (HM.out.2.2.1.below HB1.out (Nat.le_refl _)) HM.out.2.2.2.1 HM.out.2.2.2.2 ((show ErrW w from ⟨HE.out.1, HE.out.2.1⟩).below HB1.out (Nat.le_refl _))).mono ?_
 rintro e w2 ⟨b2, ⟨rfl, h2⟩, hb2⟩
 have BX2 : Hid (Box w2 w.heap.size #[.slice wa nw wc, .slice da nd dc, .slice ta nt tc, .int .i64 tm, .slice ca nc cc, .slice oa no oc, .slice ha nh hc, .int .i64 st] 43) := BX1.out.below hb2 BX1.out.lt
 have HB2 : Hid (Below w.heap.size w w2) := HB1.out.trans (hb2.mono HB1.out.size)
 have H2 : Hid (b2 = true ↔ JWords ⟨nw, ws, nd, ds, nt, ts, tm, nc, f, no, os, nh, hs, st⟩ rs) := h2
 clear h2 hb2 z0 z1 z2 z3 z4 z5 z6 z7
 obtain ⟨z0, z1, z2, z3, z4, z5, z6, z7⟩ := eight_of BX2.out
 rcases b2 with _ | _
 · have HN : Hid (¬ G) := fun h => by have := H2.out.2 (HG.out.1 h).2.1; cases this
   go_wp2
   go_ret
   first | exact ⟨false, ⟨rfl, by simp [HN.out]⟩, HB2.out⟩ | exact ⟨HN.out, HB2.out⟩ | exact ⟨.inl ⟨rfl, HN.out⟩, HB2.out⟩
 have H2' : Hid (JWords ⟨nw, ws, nd, ds, nt, ts, tm, nc, f, no, os, nh, hs, st⟩ rs) := H2.out.1 rfl
 clear H2
 go_wp2_with fail
 refine (implJudgeTimes_any wa wc da dc ta tc ca cc oa oc ha hc ⟨nw, ws, nd, ds, nt, ts, tm, nc, f, no, os, nh, hs, st⟩ w2 (HM.out.1.below HB2.out (Nat.le_refl _)) (HM.out.2.2.1.below HB2.out (Nat.le_refl _)) HM.out.2.2.2.1 HM.out.2.2.2.2 (HE.out.2.2.below HB2.out (Nat.le_refl _))).mono ?_
 rintro e w3 ⟨b3, ⟨rfl, h3⟩, hb3⟩
 have HB3 : Hid (Below w.heap.size w w3) := HB2.out.trans (hb3.mono HB2.out.size)
 have H3 : Hid (b3 = true ↔ JTimes ⟨nw, ws, nd, ds, nt, ts, tm, nc, f, no, os, nh, hs, st⟩) := h3
 clear h3 hb3
 rcases b3 with _ | _
 · have HN : Hid (¬ G) := fun h => by have := H3.out.2 (HG.out.1 h).2.2; cases this
   go_wp2
   go_ret
   first | exact ⟨false, ⟨rfl, by simp [HN.out]⟩, HB3.out⟩ | exact ⟨HN.out, HB3.out⟩ | exact ⟨.inl ⟨rfl, HN.out⟩, HB3.out⟩
 · have HN : Hid G := HG.out.2 ⟨H1'.out, H2'.out, H3.out.1 rfl⟩
   go_wp2
   go_ret
   first | exact ⟨true, ⟨rfl, by simp [HN.out]⟩, HB3.out⟩ | exact ⟨HN.out, HB3.out⟩ | exact ⟨.inr ⟨rfl, HN.out⟩, HB3.out⟩
theorem eCells : Tryz.prog.cellsOf 284 = 1 := by kernel_rfl
theorem eCellsS : Tryz.prog.cellsOf 9 = 1 := by kernel_rfl
theorem eStar : "*" ++ "errors.errorString" = "*errors.errorString" := by decide
theorem eRow (u : TypeId) (h : Tryz.prog.typeName? 3 u = some "*errors.errorString") : u = 260 :=
 typeName_ptr_named (nm := "errors.errorString") (by rw [eStar]; kernel_rfl) (by kernel_rfl) (by decide) u (by rw [eStar]; exact h)
def VarE (W : World) (n : String) (a : Addr) : Prop := W.var? Tryz.prog n = some #[.iface 260 (.pointer (some a))]
theorem VarE.cell {W : World} {n : String} {a : Addr} (h : VarE W n a) {g : Nat} (hg : Tryz.prog.globalNamed n = some g) : W.cell? ⟨g, 0, none⟩ = some (.iface 260 (.pointer (some a))) := by simpa using World.var?_cell hg h 0
theorem VarE.below {W W' : World} {n : String} {a : Addr} (h : VarE W n a) {g : Nat} (hg : Tryz.prog.globalNamed n = some g) (hb : Below W.heap.size W W') : VarE W' n a :=
 var?_below hb hg (World.block_lt_of_cell? W _ (h.cell hg)) h
theorem gE_errNoMachine : Tryz.prog.globalNamed "loop.example/g00468/impl.errNoMachine" = some 0 := by kernel_rfl
theorem tE_errNoMachine : (Tryz.prog.globals[0]?).map (·.type) = some 96 := by kernel_rfl
theorem gE_errNotSo : Tryz.prog.globalNamed "loop.example/g00468/impl.errNotSo" = some 1 := by kernel_rfl
theorem tE_errNotSo : (Tryz.prog.globals[1]?).map (·.type) = some 96 := by kernel_rfl
theorem gE_errNotThen : Tryz.prog.globalNamed "loop.example/g00468/impl.errNotThen" = some 2 := by kernel_rfl
theorem tE_errNotThen : (Tryz.prog.globals[2]?).map (·.type) = some 96 := by kernel_rfl
theorem sent_errNotThen {text : List UInt8} {r : List (String × DataW Unit)} {W : World} (h : laidMet Tryz.prog (("loop.example/g00468/impl.errNotThen", .iface "*errors.errorString" (.ptr (.agg [.lit (.string text)]))) :: r) W) : ∃ a, VarE W "loop.example/g00468/impl.errNotThen" a := by
 obtain ⟨a, s, h1, -⟩ := laid_sentinel h gE_errNotThen tE_errNotThen Tryz.underlying96 eRow Tryz.underlying260 Tryz.underlying284 rfl rfl Tryz.underlying9 eCells eCellsS
 exact ⟨a, h1⟩
theorem gE_errNotBehind : Tryz.prog.globalNamed "loop.example/g00468/impl.errNotBehind" = some 3 := by kernel_rfl
theorem tE_errNotBehind : (Tryz.prog.globals[3]?).map (·.type) = some 96 := by kernel_rfl
theorem sent_errNotBehind {text : List UInt8} {r : List (String × DataW Unit)} {W : World} (h : laidMet Tryz.prog (("loop.example/g00468/impl.errNotBehind", .iface "*errors.errorString" (.ptr (.agg [.lit (.string text)]))) :: r) W) : ∃ a, VarE W "loop.example/g00468/impl.errNotBehind" a := by
 obtain ⟨a, s, h1, -⟩ := laid_sentinel h gE_errNotBehind tE_errNotBehind Tryz.underlying96 eRow Tryz.underlying260 Tryz.underlying284 rfl rfl Tryz.underlying9 eCells eCellsS
 exact ⟨a, h1⟩
theorem sent_two {t0 t1 : List UInt8} {r : List (String × DataW Unit)} {W : World} (h : laidMet Tryz.prog (("loop.example/g00468/impl.errNoMachine", .iface "*errors.errorString" (.ptr (.agg [.lit (.string t0)]))) :: ("loop.example/g00468/impl.errNotSo", .iface "*errors.errorString" (.ptr (.agg [.lit (.string t1)]))) :: r) W) :
   ∃ a0 a1, VarE W "loop.example/g00468/impl.errNoMachine" a0 ∧ VarE W "loop.example/g00468/impl.errNotSo" a1 ∧ a0 ≠ a1 ∧ (∃ c t, W.heap[a0.block]? = some (.cells c t (0, 0))) ∧ ∃ c t, W.heap[a1.block]? = some (.cells c t (0, 0)) := by
 obtain ⟨a0, a1, s0, s1, c0, c1, t0, t1, hv0, hv1, -, -, -, -, -, -, hne, hb0, hb1⟩ := laid_sentinels2 h gE_errNoMachine tE_errNoMachine gE_errNotSo tE_errNotSo Tryz.underlying96 eRow Tryz.underlying260 Tryz.underlying284 rfl rfl Tryz.underlying9 eCells eCellsS
 exact ⟨a0, a1, hv0, hv1, hne, ⟨c0, t0, hb0⟩, c1, t1, hb1⟩
def namesD {H : Type} : DataW H := .agg (nmL.map fun p => .agg [.lit (.int .i64 p.1), .lit (.int .i64 p.2)])
theorem reads_names {H : Type} (enc : TypeId × Value → H) (W : World) (base : Nat) (sp : Nat → Bool) (held : Bool) : DataW.trod enc Tryz.prog W base sp held 4 236 nmCells.toList = some (namesD, []) := by kernel_rfl
theorem cells_name : Tryz.prog.cellsOf 203 = 2 := by kernel_rfl
theorem cells_names : Tryz.prog.cellsOf 236 = 40 := by kernel_rfl
theorem nm_cells (i : Nat) (hi : i < 20) (r : Nat) (hr : r < 2) : nmCells.toList[i * 2 + r]? = [Value.int .i64 (nmA i), .int .i64 (nmB i)][r]? := by
 have h : i = 0 ∨ i = 1 ∨ i = 2 ∨ i = 3 ∨ i = 4 ∨ i = 5 ∨ i = 6 ∨ i = 7 ∨ i = 8 ∨ i = 9 ∨ i = 10 ∨ i = 11 ∨ i = 12 ∨ i = 13 ∨ i = 14 ∨ i = 15 ∨ i = 16 ∨ i = 17 ∨ i = 18 ∨ i = 19 := by omega
 have h2 : r = 0 ∨ r = 1 := by omega
 rcases h2 with rfl | rfl <;> rcases h with rfl | rfl | rfl | rfl | rfl | rfl | rfl | rfl | rfl | rfl | rfl | rfl | rfl | rfl | rfl | rfl | rfl | rfl | rfl | rfl <;> rfl
theorem nm_data {H : Type} (i : Nat) (hi : i < 20) : (nmL.map fun p => (DataW.agg [.lit (.int .i64 p.1), .lit (.int .i64 p.2)] : DataW H))[i]? = some (Lib.tabData .i64 [nmA i, nmB i]) := by
 have h : i = 0 ∨ i = 1 ∨ i = 2 ∨ i = 3 ∨ i = 4 ∨ i = 5 ∨ i = 6 ∨ i = 7 ∨ i = 8 ∨ i = 9 ∨ i = 10 ∨ i = 11 ∨ i = 12 ∨ i = 13 ∨ i = 14 ∨ i = 15 ∨ i = 16 ∨ i = 17 ∨ i = 18 ∨ i = 19 := by omega
 rcases h with rfl | rfl | rfl | rfl | rfl | rfl | rfl | rfl | rfl | rfl | rfl | rfl | rfl | rfl | rfl | rfl | rfl | rfl | rfl | rfl <;> rfl
theorem names_of_trod {H : Type} {enc : TypeId × Value → H} {w : World} {base : Nat} {sp : Nat → Bool} {held : Bool} {fuel : Nat} {cs : List Value} {p : List MemPlace}
   (h : DataW.trod enc Tryz.prog w base sp held fuel 236 cs = some (namesD, p)) : cs = nmCells.toList := by
 have hl : cs.length = 40 := by
   cases fuel with
   | zero => simp [DataW.trod] at h
   | succ fuel =>
     simp only [DataW.trod, Tryz.underlying236, cells_names, cells_name] at h
     split at h
     · rename_i hl
       omega
     · cases h
 have key : ∀ i, i < 20 → (cs.drop (i * 2)).take 2 = [Value.int .i64 (nmA i), .int .i64 (nmB i)] := by
   intro i hi
   obtain ⟨fuel', d, q, hd, ht⟩ := Lib.array_elem Tryz.underlying236 h i hi
   rw [nm_data i hi] at hd
   obtain rfl := Option.some.inj hd
   rw [cells_name] at ht
   exact Lib.cells_of_tab Tryz.underlying203 Tryz.underlying3 cells_int cells_name ht
 apply List.ext_getElem?
 intro j
 by_cases hj : j < 40
 · obtain ⟨i, r, rfl, hi, hr⟩ : ∃ i r, j = i * 2 + r ∧ i < 20 ∧ r < 2 := ⟨j / 2, j % 2, by omega, by omega, by omega⟩
   rw [nm_cells i hi r hr, ← key i hi]
   simp [hr]
 · rw [List.getElem?_eq_none (by omega), List.getElem?_eq_none (by rw [show nmCells.toList.length = 40 by decide +kernel]; omega)]
theorem names_of_laid_r {r : List (String × DataW Unit)} {W : World} (h : laidMet Tryz.prog (("loop.example/g00468/impl.wordNames", namesD) :: r) W) : Names W := by
 obtain ⟨ps, ⟨g', t', cs, fuel, p, q, hg', ht', hvar, hd, _, _⟩, _⟩ := h
 obtain rfl := Option.some.inj (gNames.symm.trans hg')
 obtain rfl := Option.some.inj (gNamesType.symm.trans ht')
 have hc := names_of_trod hd
 unfold Names
 rw [hvar]
 congr 1
 cases cs
 simp_all
end
end Go.Proofs.YtbfolanfbagofaaGreatDoor
