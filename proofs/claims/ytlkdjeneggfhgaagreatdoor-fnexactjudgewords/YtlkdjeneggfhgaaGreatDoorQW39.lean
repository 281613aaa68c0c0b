/- Texts joined: ImplJw, LaidE, Laid. -/
import Derived.Test.YtlkdjeneggfhgaaGreatDoorQW14
import Derived.Test.YtlkdjeneggfhgaaGreatDoorQW34
import Derived.Test.YtlkdjeneggfhgaaGreatDoorQW38
import Derived.Test.YtlkdjeneggfhgaaGreatDoorQW35
import Derived.Test.YtlkdjeneggfhgaaGreatDoorQW13
import Derived.Deep.Cut
import Derived.Deep.RegionHeld3
import Derived.Test.YtlkdjeneggfhgaaGreatDoorRows
import Derived.Test.YtlkdjeneggfhgaaGreatDoorQW01
import Derived.ChangeVars
import Derived.ChangeReads
import Derived.Stop.LaidErr
import Derived.Stop.LaidTwo
import Derived.Lib.LaidTab
import Derived.LaidMore
import Derived.MakeChecks
import Derived.Below
import Derived.Test.YtlkdjeneggfhgaaGreatDoorQW36
import Derived.Lib.LaidU8
set_option maxHeartbeats 16000000
set_option maxRecDepth 100000
namespace Go.Proofs.YtlkdjeneggfhgaaGreatDoor
section
open Go.ChangeShapes Go.WideShapes Go.ChangeAt Go.RowKit
def ErrW (w : World) : Prop := ErrR w ∧ Names w
theorem ErrW.below {w w' : World} (h : ErrW w) {B : Nat} (hb : Below B w w') (hB : w.heap.size ≤ B) : ErrW w' := ⟨h.1.below hb hB, h.2.below hb (Nat.lt_of_lt_of_le h.2.lt hB)⟩
theorem intAt_row {w : World} {base g n c : Nat} {xs : List Int} {e : TypeId} (h : w.ownsRow base e 1 (.slice (some ⟨g, 0, none⟩) n c) n (xs.map I)) (hn : n ≤ 1048576) : IntAt w (some ⟨g, 0, none⟩) n xs := by
 obtain ⟨a, c', e1, h1⟩ := own_at h (by omega)
 cases e1
 exact h1
theorem implJudgeWords_any (wa : Option Addr) (wc : Nat) (da : Option Addr) (dc : Nat) (ta : Option Addr) (tc : Nat) (ca : Option Addr) (cc : Nat) (oa : Option Addr) (oc : Nat) (ha : Option Addr) (hc : Nat) (M : MaD) (rs : Nat → List Int) (w : World) (h : MaAt w wa da ta ca oa ha M) (hr : CasR w ca M.nc M.f rs) (hcap : CapAt w da M.nd M.ds) (hwf : ∀ x ∈ M.hs, (Lit.int .i64 x).wf = true) (hhc : M.nh ≤ hc) (he : ErrW w) :
   Calls Tryz.prog 20 #[MaV wa wc da dc ta tc ca cc oa oc ha hc M] w fun e w' => ∃ ok, (e = .returned (.bool ok) ∧ (ok = true ↔ JWords M rs)) ∧ Below w.heap.size w w' := by
 obtain ⟨⟨a0, a1, he⟩, hnm⟩ := he
 have HRP : Hid (∀ W, Below w.heap.size w W → Calls Tryz.prog 39 #[MaV wa wc da dc ta tc ca cc oa oc ha hc M] W fun e w' => RplI M rs a0 a1 W.heap.size e w' ∧ Below W.heap.size W w') := fun W hb => impl_replay wa wc da dc ta tc ca cc oa oc ha hc M rs W (h.below hb (Nat.le_refl _)) (hr.below hb (Nat.le_refl _)) (hcap.below hb (Nat.le_refl _)) hwf hhc a0 a1 (he.below hb (Nat.le_refl _))
 have HEX : Hid (ErrX w a0 a1) := he
 have HNM : Hid (Names w) := hnm
 have HWD : Hid (TripAt w wa M.nw M.ws ∧ DescAt w da M.nd M.ds) := ⟨h.words, h.descs⟩
 obtain ⟨G, hG⟩ : ∃ G : Prop, JWords M rs = G := ⟨_, rfl⟩
 have HG : Hid (G ↔ JWords M rs) := by show _ ↔ _; rw [hG]
 rw [hG]
 clear hG h hr hcap hwf hhc he hnm
 obtain ⟨nw, ws, nd, ds, nt, ts, tm, nc, f, no, os, nh, hs, st⟩ := M
 dsimp only at HWD
 show Calls Tryz.prog 20 #[.agg #[.slice wa nw wc, .slice da nd dc, .slice ta nt tc, .int .i64 tm, .slice ca nc cc, .slice oa no oc, .slice ha nh hc, .int .i64 st]] w fun e w' => ∃ ok, (e = .returned (.bool ok) ∧ (ok = true ↔ G)) ∧ Below w.heap.size w w'
 obtain ⟨sz, hsz⟩ : ∃ sz, w.heap.size = sz := ⟨_, rfl⟩
 obtain ⟨W, hW⟩ : ∃ W, w.alloc (.cells #[.slice wa nw wc, .slice da nd dc, .slice ta nt tc, .int .i64 tm, .slice ca nc cc, .slice oa no oc, .slice ha nh hc, .int .i64 st] 44) = W := ⟨_, rfl⟩
 have HB0 : Hid (Below sz w W) := by show Below _ _ _; rw [← hW, ← hsz]; exact (Below.refl _ w).alloc (Nat.le_refl _) _
 have BM : Hid (Box W sz #[.slice wa nw wc, .slice da nd dc, .slice ta nt tc, .int .i64 tm, .slice ca nc cc, .slice oa no oc, .slice ha nh hc, .int .i64 st] 44) := by rw [← hW, ← hsz]; exact box_of w _ _
 have HW : Hid (w.alloc (.cells #[.slice wa nw wc, .slice da nd dc, .slice ta nt tc, .int .i64 tm, .slice ca nc cc, .slice oa no oc, .slice ha nh hc, .int .i64 st] 44) = W) := hW
 have HSZ : Hid (w.heap.size = sz) := hsz
 have HLE : Hid (w.heap.size ≤ sz) := by show _ ≤ _; omega
 rw [hsz] at HRP
 rw [show (fun e w' => ∃ ok, (e = Ending.returned (.bool ok) ∧ (ok = true ↔ G)) ∧ Below w.heap.size w w') = (fun e w' => ∃ ok, (e = Ending.returned (.bool ok) ∧ (ok = true ↔ G)) ∧ Below sz w w') by rw [hsz]]
 clear hW hsz
 go_enter Tryz.func20, Tryz.ntmps20
 go_wp2_with fail
 rw [HW.out]
 (try rw [HSZ.out])
 refine (HRP.out W HB0.out).mono ?_
 rintro e w1 ⟨hsay, hb1⟩
 have BM1 : Hid (Box w1 sz #[.slice wa nw wc, .slice da nd dc, .slice ta nt tc, .int .i64 tm, .slice ca nc cc, .slice oa no oc, .slice ha nh hc, .int .i64 st] 44) := BM.out.below hb1 BM.out.lt
 have HB1 : Hid (Below sz w w1) := HB0.out.trans (hb1.mono (by have := BM.out.lt; omega))
 rcases hsay with ⟨hg, g, c, zs, st', ok, rfl, hrep, hso, hown⟩ | ⟨hng, rfl⟩
 · have HROK : Hid (OkRows zs st') := hrep.ok hg.first
   have HJ : Hid (G ↔ meanM ws nw ds = specL zs st') := by show _ ↔ _; rw [HG.out]; exact JWords.iff hg hrep
   have HNW : Hid (nw ≤ 1048576) := by have h20 : nw = 20 := hg.mem.1; show _ ≤ _; omega
   have OW : Hid (w1.ownsRow W.heap.size 3 1 (.slice (some ⟨g, 0, none⟩) 4 c) 4 (zs.map I)) := hown
   obtain ⟨B, hB⟩ : ∃ B, decide (meanM ws nw ds = specL zs st') = B := ⟨_, rfl⟩
   have HDB : Hid (decide (meanM ws nw ds = specL zs st') = B) := hB
   have HBG : Hid (B = true ↔ G) := by show _ ↔ _; rw [HJ.out, ← hB, decide_eq_true_iff]
   clear hg hrep hso hown hb1 hB
   obtain ⟨ev, hev, hc1⟩ : ∃ ev, (bif ok then Value.nilIface else .iface 269 (.pointer (some a1))) = ev ∧ ∀ W, ErrX W a0 a1 → Calls Tryz.prog 40 #[ev, .iface 269 (.pointer (some a0))] W fun e w' => e = .returned (.bool false) ∧ w' = W := by
     cases ok
     · exact ⟨_, rfl, fun W hE => isR_other hE⟩
     · exact ⟨_, rfl, fun W _ => is_nil a0 W⟩
   have C1 : Hid (∀ W, ErrX W a0 a1 → Calls Tryz.prog 40 #[ev, .iface 269 (.pointer (some a0))] W fun e w' => e = .returned (.bool false) ∧ w' = W) := hc1
   rw [hev]
   clear hev hc1
   obtain ⟨q, hq⟩ : ∃ q, w1.heap.size = q := ⟨_, rfl⟩
   obtain ⟨X, hX⟩ : ∃ X, w1.alloc (.cells #[.slice (some ⟨g, 0, none⟩) 4 c, .int .i64 st'] 34) = X := ⟨_, rfl⟩
   obtain ⟨D, hD⟩ : ∃ D, X.drew = D := ⟨_, rfl⟩
   have hbx : Below w1.heap.size w1 D := by rw [← hD, ← hX]; exact ((Below.refl _ w1).alloc (Nat.le_refl _) _).drew
   have BQ_D : Hid (Box D q #[.slice (some ⟨g, 0, none⟩) 4 c, .int .i64 st'] 34) := by rw [← hD, ← hX, ← hq]; exact (box_of w1 _ _).drew
   have BM_D : Hid (Box D sz #[.slice wa nw wc, .slice da nd dc, .slice ta nt tc, .int .i64 tm, .slice ca nc cc, .slice oa no oc, .slice ha nh hc, .int .i64 st] 44) := BM1.out.below hbx BM1.out.lt
   have HB_D : Hid (Below sz w D) := HB1.out.trans (hbx.mono (by have := BM1.out.lt; omega))
   have HE_D : Hid (ErrX D a0 a1) := HEX.out.below HB_D.out HLE.out
   have HED : Hid (ErrX D a0 a1) := HE_D.out
   have KD : Hid (D.cell? ⟨q, 0, none⟩ = some (.slice (some ⟨g, 0, none⟩) 4 c) ∧ D.cell? ⟨q, 1, none⟩ = some (.int .i64 st') ∧ D.cell? ⟨0, 0, none⟩ = some (.iface 269 (.pointer (some a0))) ∧ D.cell? ⟨sz, 0, none⟩ = some (.slice wa nw wc) ∧ D.cell? ⟨sz, 1, none⟩ = some (.slice da nd dc)) := ⟨(two_of BQ_D.out).1, (two_of BQ_D.out).2.1, HE_D.out.c0, (eight_of BM_D.out).1, (eight_of BM_D.out).2.1⟩
   have KX : Hid (X.drew.cell? ⟨q, 0, none⟩ = some (.slice (some ⟨g, 0, none⟩) 4 c) ∧ X.drew.cell? ⟨q, 1, none⟩ = some (.int .i64 st') ∧ X.drew.cell? ⟨0, 0, none⟩ = some (.iface 269 (.pointer (some a0))) ∧ X.drew.cell? ⟨sz, 0, none⟩ = some (.slice wa nw wc) ∧ X.drew.cell? ⟨sz, 1, none⟩ = some (.slice da nd dc)) := by rw [hD]; exact KD.out
   have HD : Hid (X.drew = D) := hD
   have HX : Hid (w1.alloc (.cells #[.slice (some ⟨g, 0, none⟩) 4 c, .int .i64 st'] 34) = X) := hX
   have HQ : Hid (w1.heap.size = q) := hq
   have OWD : Hid (D.ownsRow W.heap.size 3 1 (.slice (some ⟨g, 0, none⟩) 4 c) 4 (zs.map I)) := owns_below OW.out hbx (Nat.le_refl _)
   clear hX hD hq hbx
   go_upto_region 2 with (fail)
   rw [HX.out]
   (try rw [HQ.out])
   refine wp_region_held_drew (S := fun w' => w'.cell? ⟨q, 0, none⟩ = some (.slice (some ⟨g, 0, none⟩) 4 c) ∧ w'.cell? ⟨q, 1, none⟩ = some (.int .i64 st') ∧ w'.cell? ⟨0, 0, none⟩ = some (.iface 269 (.pointer (some a0))) ∧ w'.cell? ⟨sz, 0, none⟩ = some (.slice wa nw wc) ∧ w'.cell? ⟨sz, 1, none⟩ = some (.slice da nd dc)) (by kernel_rfl) KX.out (fun hHeld => ?_)
   rw [HD.out] at hHeld ⊢
   refine takeA 0 ev hHeld ?_
   simp only [Act.put, List.setIfInBounds_toArray, List.set_cons_zero, List.set_cons_succ]
   refine takeA 1 (.iface 269 (.pointer (some a0))) hHeld ?_
   simp only [Act.put, List.setIfInBounds_toArray, List.set_cons_zero, List.set_cons_succ]
   refine wpAnyH_ready (rs := [2]) (by kernel_rfl) (by simp) ?_
   refine AllReadyH.cons (o := _) (by rw [List.getElem?_toArray]; exact rfl) (fun K hK => ?_) AllReadyH.nil
   rw [if_pos (by kernel_rfl)]
   go_simp
   refine (C1.out _ HED.out).mono ?_
   rintro e w9 ⟨rfl, hw9⟩
   rw [hw9]
   refine hK.out _ _ ?_ (fun hHeld => ?_)
   · exact KD.out
   clear hK K
   refine takeA 3 (.bool true) hHeld ?_
   simp only [Act.put, List.setIfInBounds_toArray, List.set_cons_zero, List.set_cons_succ]
   refine takeA 4 (.bool true) hHeld ?_
   simp only [Act.put, List.setIfInBounds_toArray, List.set_cons_zero, List.set_cons_succ]
   refine takeA 5 (.pointer (some ⟨sz, 0, none⟩)) hHeld ?_
   simp only [Act.put, List.setIfInBounds_toArray, List.set_cons_zero, List.set_cons_succ]
   refine takeA 6 (.pointer (some ⟨sz, 0, none⟩)) hHeld ?_
   simp only [Act.put, List.setIfInBounds_toArray, List.set_cons_zero, List.set_cons_succ]
   refine takeA 7 (.slice wa nw wc) hHeld ?_
   simp only [Act.put, List.setIfInBounds_toArray, List.set_cons_zero, List.set_cons_succ]
   refine takeA 8 (.pointer (some ⟨sz, 0, none⟩)) hHeld ?_
   simp only [Act.put, List.setIfInBounds_toArray, List.set_cons_zero, List.set_cons_succ]
   refine takeA 9 (.pointer (some ⟨sz, 1, none⟩)) hHeld ?_
   simp only [Act.put, List.setIfInBounds_toArray, List.set_cons_zero, List.set_cons_succ]
   refine takeA 10 (.slice da nd dc) hHeld ?_
   simp only [Act.put, List.setIfInBounds_toArray, List.set_cons_zero, List.set_cons_succ]
   refine takeA 12 (.agg #[.slice (some ⟨g, 0, none⟩) 4 c, .int .i64 st']) hHeld ?_
   simp only [Act.put, List.setIfInBounds_toArray, List.set_cons_zero, List.set_cons_succ]
   refine wpAnyH_ready (rs := [11]) (by kernel_rfl) (by simp) ?_
   refine AllReadyH.cons (o := _) (by rw [List.getElem?_toArray]; exact rfl) (fun K hK => ?_) AllReadyH.nil
   rw [if_pos (by kernel_rfl)]
   go_simp
   refine (implMeaning_any wa nw wc ws da nd dc ds D (HWD.out.1.below HB_D.out HLE.out) (HWD.out.2.below HB_D.out HLE.out)).mono ?_
   rintro e w5 ⟨rfl, hown5, hb_w5⟩
   have BQ_w5 : Hid (Box w5 q #[.slice (some ⟨g, 0, none⟩) 4 c, .int .i64 st'] 34) := BQ_D.out.below hb_w5 BQ_D.out.lt
   have BM_w5 : Hid (Box w5 sz #[.slice wa nw wc, .slice da nd dc, .slice ta nt tc, .int .i64 tm, .slice ca nc cc, .slice oa no oc, .slice ha nh hc, .int .i64 st] 44) := BM_D.out.below hb_w5 BM_D.out.lt
   have HB_w5 : Hid (Below sz w w5) := HB_D.out.trans (hb_w5.mono (by have := BM_D.out.lt; omega))
   have HE_w5 : Hid (ErrX w5 a0 a1) := HEX.out.below HB_w5.out HLE.out
   have K5 : Hid (w5.cell? ⟨q, 0, none⟩ = some (.slice (some ⟨g, 0, none⟩) 4 c) ∧ w5.cell? ⟨q, 1, none⟩ = some (.int .i64 st') ∧ w5.cell? ⟨0, 0, none⟩ = some (.iface 269 (.pointer (some a0))) ∧ w5.cell? ⟨sz, 0, none⟩ = some (.slice wa nw wc) ∧ w5.cell? ⟨sz, 1, none⟩ = some (.slice da nd dc)) := ⟨(two_of BQ_w5.out).1, (two_of BQ_w5.out).2.1, HE_w5.out.c0, (eight_of BM_w5.out).1, (eight_of BM_w5.out).2.1⟩
   have OM5 : Hid (w5.ownsRow D.heap.size 3 1 (.slice (some ⟨D.heap.size, 0, none⟩) nw nw) nw ((meanM ws nw ds).map I)) := hown5
   have OW5 : Hid (w5.ownsRow W.heap.size 3 1 (.slice (some ⟨g, 0, none⟩) 4 c) 4 (zs.map I)) := owns_below OWD.out hb_w5 (Nat.le_refl _)
   have HB5 : Hid (Below D.heap.size D w5) := hb_w5
   clear hown5 hb_w5
   refine hK.out _ _ ?_ (fun hHeld => ?_)
   · exact K5.out
   clear hK K
   refine wpAnyH_ready (rs := [13]) (by kernel_rfl) (by simp) ?_
   refine AllReadyH.cons (o := _) (by rw [List.getElem?_toArray]; exact rfl) (fun K hK => ?_) AllReadyH.nil
   rw [if_pos (by kernel_rfl)]
   go_simp
   refine (implWordsOf_room (some ⟨g, 0, none⟩) c (rowsR_room OW5.out) st' zs w5 (intAt_own OW5.out) (rowsR_wf HROK.out) HROK.out (HNM.out.below HB_w5.out (Nat.lt_of_lt_of_le HNM.out.lt HLE.out))).mono ?_
   rintro e w6 ⟨⟨g6, hg6, rfl, hown6⟩, hb6⟩
   have hb_w6 : Below D.heap.size D w6 := HB5.out.trans (hb6.mono HB5.out.size)
   have BQ_w6 : Hid (Box w6 q #[.slice (some ⟨g, 0, none⟩) 4 c, .int .i64 st'] 34) := BQ_D.out.below hb_w6 BQ_D.out.lt
   have BM_w6 : Hid (Box w6 sz #[.slice wa nw wc, .slice da nd dc, .slice ta nt tc, .int .i64 tm, .slice ca nc cc, .slice oa no oc, .slice ha nh hc, .int .i64 st] 44) := BM_D.out.below hb_w6 BM_D.out.lt
   have HB_w6 : Hid (Below sz w w6) := HB_D.out.trans (hb_w6.mono (by have := BM_D.out.lt; omega))
   have HE_w6 : Hid (ErrX w6 a0 a1) := HEX.out.below HB_w6.out HLE.out
   have K6 : Hid (w6.cell? ⟨q, 0, none⟩ = some (.slice (some ⟨g, 0, none⟩) 4 c) ∧ w6.cell? ⟨q, 1, none⟩ = some (.int .i64 st') ∧ w6.cell? ⟨0, 0, none⟩ = some (.iface 269 (.pointer (some a0))) ∧ w6.cell? ⟨sz, 0, none⟩ = some (.slice wa nw wc) ∧ w6.cell? ⟨sz, 1, none⟩ = some (.slice da nd dc)) := ⟨(two_of BQ_w6.out).1, (two_of BQ_w6.out).2.1, HE_w6.out.c0, (eight_of BM_w6.out).1, (eight_of BM_w6.out).2.1⟩
   have OM6 : Hid (w6.ownsRow D.heap.size 3 1 (.slice (some ⟨D.heap.size, 0, none⟩) nw nw) nw ((meanM ws nw ds).map I)) := owns_below OM5.out hb6 (Nat.le_refl _)
   have OS6 : Hid (w6.ownsRow g6 3 1 (.slice (some ⟨g6, 0, none⟩) 20 20) 20 ((specL zs st').map I)) := hown6
   have HB6 : Hid (Below D.heap.size D w6) := hb_w6
   clear hown6 hb_w6 hb6 hg6
   refine hK.out _ _ ?_ (fun hHeld => ?_)
   · exact K6.out
   clear hK K
   refine wpAnyH_ready (rs := [14]) (by kernel_rfl) (by simp) ?_
   refine AllReadyH.cons (o := _) (by rw [List.getElem?_toArray]; exact rfl) (fun K hK => ?_) AllReadyH.nil
   rw [if_pos (by kernel_rfl)]
   go_simp
   refine (equalI_any (some ⟨D.heap.size, 0, none⟩) (some ⟨g6, 0, none⟩) nw 20 nw 20 (meanM ws nw ds) (specL zs st') w6 (intAt_row OM6.out HNW.out) (intAt_row OS6.out (by omega))).mono ?_
   rintro e w7 ⟨rfl, hb7⟩
   rw [HDB.out]
   have hb_w7 : Below D.heap.size D w7 := HB6.out.trans (hb7.mono HB6.out.size)
   have BQ_w7 : Hid (Box w7 q #[.slice (some ⟨g, 0, none⟩) 4 c, .int .i64 st'] 34) := BQ_D.out.below hb_w7 BQ_D.out.lt
   have BM_w7 : Hid (Box w7 sz #[.slice wa nw wc, .slice da nd dc, .slice ta nt tc, .int .i64 tm, .slice ca nc cc, .slice oa no oc, .slice ha nh hc, .int .i64 st] 44) := BM_D.out.below hb_w7 BM_D.out.lt
   have HB_w7 : Hid (Below sz w w7) := HB_D.out.trans (hb_w7.mono (by have := BM_D.out.lt; omega))
   have HE_w7 : Hid (ErrX w7 a0 a1) := HEX.out.below HB_w7.out HLE.out
   have K7 : Hid (w7.cell? ⟨q, 0, none⟩ = some (.slice (some ⟨g, 0, none⟩) 4 c) ∧ w7.cell? ⟨q, 1, none⟩ = some (.int .i64 st') ∧ w7.cell? ⟨0, 0, none⟩ = some (.iface 269 (.pointer (some a0))) ∧ w7.cell? ⟨sz, 0, none⟩ = some (.slice wa nw wc) ∧ w7.cell? ⟨sz, 1, none⟩ = some (.slice da nd dc)) := ⟨(two_of BQ_w7.out).1, (two_of BQ_w7.out).2.1, HE_w7.out.c0, (eight_of BM_w7.out).1, (eight_of BM_w7.out).2.1⟩
   clear hb_w7 hb7
   refine hK.out _ _ ?_ (fun hHeld => ?_)
   · exact K7.out
   clear hK K
   rcases B with _ | _
   · have HN : Hid (¬ G) := fun h => by have := HBG.out.2 h; cases this
     refine takeA 15 (.bool false) hHeld ?_
     simp only [Act.put, List.setIfInBounds_toArray, List.set_cons_zero, List.set_cons_succ]
     refine takeA 16 (.bool false) hHeld ?_
     simp only [Act.put, List.setIfInBounds_toArray, List.set_cons_zero, List.set_cons_succ]
     refine wpAnyH_done (by kernel_rfl) ?_ _
     go_wp2
     go_ret
     first | exact ⟨false, ⟨rfl, by simp [HN.out]⟩, HB_w7.out⟩ | exact ⟨HN.out, HB_w7.out⟩ | exact ⟨.inl ⟨rfl, HN.out⟩, HB_w7.out⟩
   · have HN : Hid G := HBG.out.1 rfl
     refine takeA 15 (.bool true) hHeld ?_
     simp only [Act.put, List.setIfInBounds_toArray, List.set_cons_zero, List.set_cons_succ]
     refine takeA 16 (.bool true) hHeld ?_
     simp only [Act.put, List.setIfInBounds_toArray, List.set_cons_zero, List.set_cons_succ]
     refine wpAnyH_done (by kernel_rfl) ?_ _
     go_wp2
     go_ret
     first | exact ⟨true, ⟨rfl, by simp [HN.out]⟩, HB_w7.out⟩ | exact ⟨HN.out, HB_w7.out⟩ | exact ⟨.inr ⟨rfl, HN.out⟩, HB_w7.out⟩
 · have HN : Hid (¬ G) := fun h => hng (HG.out.1 h).1
   clear hng hb1
   obtain ⟨q, hq⟩ : ∃ q, w1.heap.size = q := ⟨_, rfl⟩
   obtain ⟨X, hX⟩ : ∃ X, w1.alloc (.cells #[.slice none 0 0, .int .i64 0] 34) = X := ⟨_, rfl⟩
   obtain ⟨D, hD⟩ : ∃ D, X.drew = D := ⟨_, rfl⟩
   have hbx : Below w1.heap.size w1 D := by rw [← hD, ← hX]; exact ((Below.refl _ w1).alloc (Nat.le_refl _) _).drew
   have BQ_D : Hid (Box D q #[.slice none 0 0, .int .i64 0] 34) := by rw [← hD, ← hX, ← hq]; exact (box_of w1 _ _).drew
   have BM_D : Hid (Box D sz #[.slice wa nw wc, .slice da nd dc, .slice ta nt tc, .int .i64 tm, .slice ca nc cc, .slice oa no oc, .slice ha nh hc, .int .i64 st] 44) := BM1.out.below hbx BM1.out.lt
   have HB_D : Hid (Below sz w D) := HB1.out.trans (hbx.mono (by have := BM1.out.lt; omega))
   have HE_D : Hid (ErrX D a0 a1) := HEX.out.below HB_D.out HLE.out
   have HED : Hid (ErrX D a0 a1) := HE_D.out
   have KD : Hid (D.cell? ⟨q, 0, none⟩ = some (.slice none 0 0) ∧ D.cell? ⟨q, 1, none⟩ = some (.int .i64 0) ∧ D.cell? ⟨0, 0, none⟩ = some (.iface 269 (.pointer (some a0))) ∧ D.cell? ⟨sz, 0, none⟩ = some (.slice wa nw wc) ∧ D.cell? ⟨sz, 1, none⟩ = some (.slice da nd dc)) := ⟨(two_of BQ_D.out).1, (two_of BQ_D.out).2.1, HE_D.out.c0, (eight_of BM_D.out).1, (eight_of BM_D.out).2.1⟩
   have KX : Hid (X.drew.cell? ⟨q, 0, none⟩ = some (.slice none 0 0) ∧ X.drew.cell? ⟨q, 1, none⟩ = some (.int .i64 0) ∧ X.drew.cell? ⟨0, 0, none⟩ = some (.iface 269 (.pointer (some a0))) ∧ X.drew.cell? ⟨sz, 0, none⟩ = some (.slice wa nw wc) ∧ X.drew.cell? ⟨sz, 1, none⟩ = some (.slice da nd dc)) := by rw [hD]; exact KD.out
   have HD : Hid (X.drew = D) := hD
   have HX : Hid (w1.alloc (.cells #[.slice none 0 0, .int .i64 0] 34) = X) := hX
   have HQ : Hid (w1.heap.size = q) := hq
   clear hX hD hq hbx
   go_upto_region 2 with (fail)
   rw [HX.out]
   (try rw [HQ.out])
   refine wp_region_held_drew (S := fun w' => w'.cell? ⟨q, 0, none⟩ = some (.slice none 0 0) ∧ w'.cell? ⟨q, 1, none⟩ = some (.int .i64 0) ∧ w'.cell? ⟨0, 0, none⟩ = some (.iface 269 (.pointer (some a0))) ∧ w'.cell? ⟨sz, 0, none⟩ = some (.slice wa nw wc) ∧ w'.cell? ⟨sz, 1, none⟩ = some (.slice da nd dc)) (by kernel_rfl) KX.out (fun hHeld => ?_)
   rw [HD.out] at hHeld ⊢
   refine takeA 0 (.iface 269 (.pointer (some a0))) hHeld ?_
   simp only [Act.put, List.setIfInBounds_toArray, List.set_cons_zero, List.set_cons_succ]
   refine takeA 1 (.iface 269 (.pointer (some a0))) hHeld ?_
   simp only [Act.put, List.setIfInBounds_toArray, List.set_cons_zero, List.set_cons_succ]
   refine wpAnyH_ready (rs := [2]) (by kernel_rfl) (by simp) ?_
   refine AllReadyH.cons (o := _) (by rw [List.getElem?_toArray]; exact rfl) (fun K hK => ?_) AllReadyH.nil
   rw [if_pos (by kernel_rfl)]
   go_simp
   refine (is_same a0 _).mono ?_
   rintro e w9 ⟨rfl, hw9⟩
   rw [hw9]
   refine hK.out _ _ ?_ (fun hHeld => ?_)
   · exact KD.out
   clear hK K
   refine takeA 3 (.bool false) hHeld ?_
   simp only [Act.put, List.setIfInBounds_toArray, List.set_cons_zero, List.set_cons_succ]
   refine takeA 4 (.bool false) hHeld ?_
   simp only [Act.put, List.setIfInBounds_toArray, List.set_cons_zero, List.set_cons_succ]
   refine skipH 5 hHeld ?_
   simp only [Act.put, List.setIfInBounds_toArray, List.set_cons_zero, List.set_cons_succ]
   refine skipH 6 hHeld ?_
   simp only [Act.put, List.setIfInBounds_toArray, List.set_cons_zero, List.set_cons_succ]
   refine skipH 7 hHeld ?_
   simp only [Act.put, List.setIfInBounds_toArray, List.set_cons_zero, List.set_cons_succ]
   refine skipH 8 hHeld ?_
   simp only [Act.put, List.setIfInBounds_toArray, List.set_cons_zero, List.set_cons_succ]
   refine skipH 9 hHeld ?_
   simp only [Act.put, List.setIfInBounds_toArray, List.set_cons_zero, List.set_cons_succ]
   refine skipH 10 hHeld ?_
   simp only [Act.put, List.setIfInBounds_toArray, List.set_cons_zero, List.set_cons_succ]
   refine skipH 11 hHeld ?_
   simp only [Act.put, List.setIfInBounds_toArray, List.set_cons_zero, List.set_cons_succ]
   refine skipH 12 hHeld ?_
   simp only [Act.put, List.setIfInBounds_toArray, List.set_cons_zero, List.set_cons_succ]
   refine skipH 13 hHeld ?_
   simp only [Act.put, List.setIfInBounds_toArray, List.set_cons_zero, List.set_cons_succ]
   refine skipH 14 hHeld ?_
   simp only [Act.put, List.setIfInBounds_toArray, List.set_cons_zero, List.set_cons_succ]
   refine takeA 15 (.bool false) hHeld ?_
   simp only [Act.put, List.setIfInBounds_toArray, List.set_cons_zero, List.set_cons_succ]
   refine takeA 16 (.bool false) hHeld ?_
   simp only [Act.put, List.setIfInBounds_toArray, List.set_cons_zero, List.set_cons_succ]
   refine wpAnyH_done (by kernel_rfl) ?_ _
   go_wp2
   go_ret
   first | exact ⟨false, ⟨rfl, by simp [HN.out]⟩, HB_D.out⟩ | exact ⟨HN.out, HB_D.out⟩ | exact ⟨.inl ⟨rfl, HN.out⟩, HB_D.out⟩
theorem eCells : Tryz.prog.cellsOf 293 = 1 := by kernel_rfl
theorem eCellsS : Tryz.prog.cellsOf 9 = 1 := by kernel_rfl
theorem eStar : "*" ++ "errors.errorString" = "*errors.errorString" := by decide
theorem eRow (u : TypeId) (h : Tryz.prog.typeName? 3 u = some "*errors.errorString") : u = 269 :=
 typeName_ptr_named (nm := "errors.errorString") (by rw [eStar]; kernel_rfl) (by kernel_rfl) (by decide) u (by rw [eStar]; exact h)
def VarE (W : World) (n : String) (a : Addr) : Prop := W.var? Tryz.prog n = some #[.iface 269 (.pointer (some a))]
theorem VarE.cell {W : World} {n : String} {a : Addr} (h : VarE W n a) {g : Nat} (hg : Tryz.prog.globalNamed n = some g) : W.cell? ⟨g, 0, none⟩ = some (.iface 269 (.pointer (some a))) := by simpa using World.var?_cell hg h 0
theorem VarE.below {W W' : World} {n : String} {a : Addr} (h : VarE W n a) {g : Nat} (hg : Tryz.prog.globalNamed n = some g) (hb : Below W.heap.size W W') : VarE W' n a :=
 var?_below hb hg (World.block_lt_of_cell? W _ (h.cell hg)) h
theorem gE_errNoMachine : Tryz.prog.globalNamed "loop.example/g00468/impl.errNoMachine" = some 0 := by kernel_rfl
theorem tE_errNoMachine : (Tryz.prog.globals[0]?).map (·.type) = some 72 := by kernel_rfl
theorem gE_errNotSo : Tryz.prog.globalNamed "loop.example/g00468/impl.errNotSo" = some 1 := by kernel_rfl
theorem tE_errNotSo : (Tryz.prog.globals[1]?).map (·.type) = some 72 := by kernel_rfl
theorem sent_two {t0 t1 : List UInt8} {r : List (String × DataW Unit)} {W : World} (h : laidMet Tryz.prog (("loop.example/g00468/impl.errNoMachine", .iface "*errors.errorString" (.ptr (.agg [.lit (.string t0)]))) :: ("loop.example/g00468/impl.errNotSo", .iface "*errors.errorString" (.ptr (.agg [.lit (.string t1)]))) :: r) W) :
   ∃ a0 a1, VarE W "loop.example/g00468/impl.errNoMachine" a0 ∧ VarE W "loop.example/g00468/impl.errNotSo" a1 ∧ a0 ≠ a1 ∧ (∃ c t, W.heap[a0.block]? = some (.cells c t (0, 0))) ∧ ∃ c t, W.heap[a1.block]? = some (.cells c t (0, 0)) := by
 obtain ⟨a0, a1, s0, s1, c0, c1, t0, t1, hv0, hv1, -, -, -, -, -, -, hne, hb0, hb1⟩ := laid_sentinels2 h gE_errNoMachine tE_errNoMachine gE_errNotSo tE_errNotSo Tryz.underlying72 eRow Tryz.underlying269 Tryz.underlying293 rfl rfl Tryz.underlying9 eCells eCellsS
 exact ⟨a0, a1, hv0, hv1, hne, ⟨c0, t0, hb0⟩, c1, t1, hb1⟩
def namesD {H : Type} : DataW H := .agg (nmL.map fun p => .agg [.lit (.int .i64 p.1), .lit (.int .i64 p.2)])
theorem reads_names {H : Type} (enc : TypeId × Value → H) (W : World) (base : Nat) (sp : Nat → Bool) (held : Bool) : DataW.trod enc Tryz.prog W base sp held 4 243 nmCells.toList = some (namesD, []) := by kernel_rfl
theorem cells_name : Tryz.prog.cellsOf 206 = 2 := by kernel_rfl
theorem cells_names : Tryz.prog.cellsOf 243 = 40 := by kernel_rfl
theorem nm_cells (i : Nat) (hi : i < 20) (r : Nat) (hr : r < 2) : nmCells.toList[i * 2 + r]? = [Value.int .i64 (nmA i), .int .i64 (nmB i)][r]? := by
 have h : i = 0 ∨ i = 1 ∨ i = 2 ∨ i = 3 ∨ i = 4 ∨ i = 5 ∨ i = 6 ∨ i = 7 ∨ i = 8 ∨ i = 9 ∨ i = 10 ∨ i = 11 ∨ i = 12 ∨ i = 13 ∨ i = 14 ∨ i = 15 ∨ i = 16 ∨ i = 17 ∨ i = 18 ∨ i = 19 := by omega
 have h2 : r = 0 ∨ r = 1 := by omega
 rcases h2 with rfl | rfl <;> rcases h with rfl | rfl | rfl | rfl | rfl | rfl | rfl | rfl | rfl | rfl | rfl | rfl | rfl | rfl | rfl | rfl | rfl | rfl | rfl | rfl <;> rfl
theorem nm_data {H : Type} (i : Nat) (hi : i < 20) : (nmL.map fun p => (DataW.agg [.lit (.int .i64 p.1), .lit (.int .i64 p.2)] : DataW H))[i]? = some (Lib.tabData .i64 [nmA i, nmB i]) := by
 have h : i = 0 ∨ i = 1 ∨ i = 2 ∨ i = 3 ∨ i = 4 ∨ i = 5 ∨ i = 6 ∨ i = 7 ∨ i = 8 ∨ i = 9 ∨ i = 10 ∨ i = 11 ∨ i = 12 ∨ i = 13 ∨ i = 14 ∨ i = 15 ∨ i = 16 ∨ i = 17 ∨ i = 18 ∨ i = 19 := by omega
 rcases h with rfl | rfl | rfl | rfl | rfl | rfl | rfl | rfl | rfl | rfl | rfl | rfl | rfl | rfl | rfl | rfl | rfl | rfl | rfl | rfl <;> rfl
theorem names_of_trod {H : Type} {enc : TypeId × Value → H} {w : World} {base : Nat} {sp : Nat → Bool} {held : Bool} {fuel : Nat} {cs : List Value} {p : List MemPlace}
   (h : DataW.trod enc Tryz.prog w base sp held fuel 243 cs = some (namesD, p)) : cs = nmCells.toList := by
 have hl : cs.length = 40 := by
   cases fuel with
   | zero => simp [DataW.trod] at h
   | succ fuel =>
     simp only [DataW.trod, Tryz.underlying243, cells_names, cells_name] at h
     split at h
     · rename_i hl
       omega
     · cases h
 have key : ∀ i, i < 20 → (cs.drop (i * 2)).take 2 = [Value.int .i64 (nmA i), .int .i64 (nmB i)] := by
   intro i hi
   obtain ⟨fuel', d, q, hd, ht⟩ := Lib.array_elem Tryz.underlying243 h i hi
   rw [nm_data i hi] at hd
   obtain rfl := Option.some.inj hd
   rw [cells_name] at ht
   exact Lib.cells_of_tab Tryz.underlying206 Tryz.underlying3 cells_int cells_name ht
 apply List.ext_getElem?
 intro j
 by_cases hj : j < 40
 · obtain ⟨i, r, rfl, hi, hr⟩ : ∃ i r, j = i * 2 + r ∧ i < 20 ∧ r < 2 := ⟨j / 2, j % 2, by omega, by omega, by omega⟩
   rw [nm_cells i hi r hr, ← key i hi]
   simp [hr]
 · rw [List.getElem?_eq_none (by omega), List.getElem?_eq_none (by rw [show nmCells.toList.length = 40 by decide +kernel]; omega)]
theorem names_of_laid_r {r : List (String × DataW Unit)} {W : World} (h : laidMet Tryz.prog (("loop.example/g00468/impl.wordNames", namesD) :: r) W) : Names W := by
 obtain ⟨ps, ⟨g', t', cs, fuel, p, q, hg', ht', hvar, hd, _, _⟩, _⟩ := h
 obtain rfl := Option.some.inj (gNames.symm.trans hg')
 obtain rfl := Option.some.inj (gNamesType.symm.trans ht')
 have hc := names_of_trod hd
 unfold Names
 rw [hvar]
 congr 1
 cases cs
 simp_all
end
end Go.Proofs.YtlkdjeneggfhgaaGreatDoor
