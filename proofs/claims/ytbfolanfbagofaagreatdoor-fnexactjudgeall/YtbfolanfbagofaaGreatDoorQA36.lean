/- Texts joined: ImplJw, JudI, RepeatI. -/
import Derived.Test.YtbfolanfbagofaaGreatDoorQA14
import Derived.Test.YtbfolanfbagofaaGreatDoorQA32
import Derived.Test.YtbfolanfbagofaaGreatDoorQA35
import Derived.Test.YtbfolanfbagofaaGreatDoorQA33
import Derived.Test.YtbfolanfbagofaaGreatDoorQA13
import Derived.Deep.Cut
import Derived.Deep.RegionHeld3
import Derived.Test.YtbfolanfbagofaaGreatDoorQA01
import Derived.Laws.CopyRow
import Derived.Laws.MakeOwn
import Derived.Laws.CopyOwn
set_option maxHeartbeats 16000000
set_option maxRecDepth 100000
namespace Go.Proofs.YtbfolanfbagofaaGreatDoor
section
open Go.ChangeShapes Go.WideShapes Go.ChangeAt Go.RowKit
def ErrW (w : World) : Prop := ErrR w ∧ Names w
theorem ErrW.below {w w' : World} (h : ErrW w) {B : Nat} (hb : Below B w w') (hB : w.heap.size ≤ B) : ErrW w' := ⟨h.1.below hb hB, h.2.below hb (Nat.lt_of_lt_of_le h.2.lt hB)⟩
theorem intAt_row {w : World} {base g n c : Nat} {xs : List Int} {e : TypeId} (h : w.ownsRow base e 1 (.slice (some ⟨g, 0, none⟩) n c) n (xs.map I)) (hn : n ≤ 1048576) : IntAt w (some ⟨g, 0, none⟩) n xs := by
 obtain ⟨a, c', e1, h1⟩ := own_at h (by omega)
 cases e1
 exact h1
theorem implJudgeWords_any (wa : Option Addr) (wc : Nat) (da : Option Addr) (dc : Nat) (ta : Option Addr) (tc : Nat) (ca : Option Addr) (cc : Nat) (oa : Option Addr) (oc : Nat) (ha : Option Addr) (hc : Nat) (M : MaD) (rs : Nat → List Int) (w : World) (h : MaAt w wa da ta ca oa ha M) (hr : CasR w ca M.nc M.f rs) (hcap : CapAt w da M.nd M.ds) (hwf : ∀ x ∈ M.hs, (Lit.int .i64 x).wf = true) (hhc : M.nh ≤ hc) (he : ErrW w) :
   Calls Tryz.prog 23 #[MaV wa wc da dc ta tc ca cc oa oc ha hc M] w fun e w' => ∃ ok, (e = .returned (.bool ok) ∧ (ok = true ↔ JWords M rs)) ∧ Below w.heap.size w w' := by
 obtain ⟨⟨a0, a1, he⟩, hnm⟩ := he
 have HRP : Hid (∀ W, Below w.heap.size w W → Calls Tryz.prog 45 #[MaV wa wc da dc ta tc ca cc oa oc ha hc M] W fun e w' => RplI M rs a0 a1 W.heap.size e w' ∧ Below W.heap.size W w') := fun W hb => impl_replay wa wc da dc ta tc ca cc oa oc ha hc M rs W (h.below hb (Nat.le_refl _)) (hr.below hb (Nat.le_refl _)) (hcap.below hb (Nat.le_refl _)) hwf hhc a0 a1 (he.below hb (Nat.le_refl _))
 have HEX : Hid (ErrX w a0 a1) := he
 have HNM : Hid (Names w) := hnm
 have HWD : Hid (TripAt w wa M.nw M.ws ∧ DescAt w da M.nd M.ds) := ⟨h.words, h.descs⟩
 obtain ⟨G, hG⟩ : ∃ G : Prop, JWords M rs = G := ⟨_, rfl⟩
 have HG : Hid (G ↔ JWords M rs) := by show _ ↔ _; rw [hG]
 rw [hG]
 clear hG h hr hcap hwf hhc he hnm
 obtain ⟨nw, ws, nd, ds, nt, ts, tm, nc, f, no, os, nh, hs, st⟩ := M
 dsimp only at HWD
 show Calls Tryz.prog 23 #[.agg #[.slice wa nw wc, .slice da nd dc, .slice ta nt tc, .int .i64 tm, .slice ca nc cc, .slice oa no oc, .slice ha nh hc, .int .i64 st]] w fun e w' => ∃ ok, (e = .returned (.bool ok) ∧ (ok = true ↔ G)) ∧ Below w.heap.size w w'
 obtain ⟨sz, hsz⟩ : ∃ sz, w.heap.size = sz := ⟨_, rfl⟩
 obtain ⟨W, hW⟩ : ∃ W, w.alloc (.cells #[.slice wa nw wc, .slice da nd dc, .slice ta nt tc, .int .i64 tm, .slice ca nc cc, .slice oa no oc, .slice ha nh hc, .int .i64 st] 43) = W := ⟨_, rfl⟩
 have HB0 : Hid (Below sz w W) := by show Below _ _ _; rw [← hW, ← hsz]; exact (Below.refl _ w).alloc (Nat.le_refl _) _
 have BM : Hid (Box W sz #[.slice wa nw wc, .slice da nd dc, .slice ta nt tc, .int .i64 tm, .slice ca nc cc, .slice oa no oc, .slice ha nh hc, .int .i64 st] 43) := by rw [← hW, ← hsz]; exact box_of w _ _
 have HW : Hid (w.alloc (.cells #[.slice wa nw wc, .slice da nd dc, .slice ta nt tc, .int .i64 tm, .slice ca nc cc, .slice oa no oc, .slice ha nh hc, .int .i64 st] 43) = W) := hW
 have HSZ : Hid (w.heap.size = sz) := hsz
 have HLE : Hid (w.heap.size ≤ sz) := by show _ ≤ _; omega
 rw [hsz] at HRP
 rw [show (fun e w' => ∃ ok, (e = Ending.returned (.bool ok) ∧ (ok = true ↔ G)) ∧ Below w.heap.size w w') = (fun e w' => ∃ ok, (e = Ending.returned (.bool ok) ∧ (ok = true ↔ G)) ∧ Below sz w w') by rw [hsz]]
 clear hW hsz
 go_enter Tryz.func23, Tryz.ntmps23
 go_wp2_with fail
 rw [HW.out]
 (try rw [HSZ.out])
 refine (HRP.out W HB0.out).mono ?_
 rintro e w1 ⟨hsay, hb1⟩
 have BM1 : Hid (Box w1 sz #[.slice wa nw wc, .slice da nd dc, .slice ta nt tc, .int .i64 tm, .slice ca nc cc, .slice oa no oc, .slice ha nh hc, .int .i64 st] 43) := BM.out.below hb1 BM.out.lt
 have HB1 : Hid (Below sz w w1) := HB0.out.trans (hb1.mono (by have := BM.out.lt; omega))
 rcases hsay with ⟨hg, g, c, zs, st', ok, rfl, hrep, hso, hown⟩ | ⟨hng, rfl⟩
 · have HROK : Hid (OkRows zs st') := hrep.ok hg.first
   have HJ : Hid (G ↔ meanM ws nw ds = specL zs st') := by show _ ↔ _; rw [HG.out]; exact JWords.iff hg hrep
   have HNW : Hid (nw ≤ 1048576) := by have h20 : nw = 20 := hg.mem.1; show _ ≤ _; omega
   have OW : Hid (w1.ownsRow W.heap.size 3 1 (.slice (some ⟨g, 0, none⟩) 4 c) 4 (zs.map I)) := hown
   obtain ⟨B, hB⟩ : ∃ B, decide (meanM ws nw ds = specL zs st') = B := ⟨_, rfl⟩
   have HDB : Hid (decide (meanM ws nw ds = specL zs st') = B) := hB
   have HBG : Hid (B = true ↔ G) := by show _ ↔ _; rw [HJ.out, ← hB, decide_eq_true_iff]
   clear hg hrep hso hown hb1 hB
   obtain ⟨ev, hev, hc1⟩ : ∃ ev, (bif ok then Value.nilIface else .iface 260 (.pointer (some a1))) = ev ∧ ∀ W, ErrX W a0 a1 → Calls Tryz.prog 46 #[ev, .iface 260 (.pointer (some a0))] W fun e w' => e = .returned (.bool false) ∧ w' = W := by
     cases ok
     · exact ⟨_, rfl, fun W hE => isR_other hE⟩
     · exact ⟨_, rfl, fun W _ => is_nil a0 W⟩
   have C1 : Hid (∀ W, ErrX W a0 a1 → Calls Tryz.prog 46 #[ev, .iface 260 (.pointer (some a0))] W fun e w' => e = .returned (.bool false) ∧ w' = W) := hc1
   rw [hev]
   clear hev hc1
   obtain ⟨q, hq⟩ : ∃ q, w1.heap.size = q := ⟨_, rfl⟩
   obtain ⟨X, hX⟩ : ∃ X, w1.alloc (.cells #[.slice (some ⟨g, 0, none⟩) 4 c, .int .i64 st'] 41) = X := ⟨_, rfl⟩
   obtain ⟨D, hD⟩ : ∃ D, X.drew = D := ⟨_, rfl⟩
   have hbx : Below w1.heap.size w1 D := by rw [← hD, ← hX]; exact ((Below.refl _ w1).alloc (Nat.le_refl _) _).drew
   have BQ_D : Hid (Box D q #[.slice (some ⟨g, 0, none⟩) 4 c, .int .i64 st'] 41) := by rw [← hD, ← hX, ← hq]; exact (box_of w1 _ _).drew
   have BM_D : Hid (Box D sz #[.slice wa nw wc, .slice da nd dc, .slice ta nt tc, .int .i64 tm, .slice ca nc cc, .slice oa no oc, .slice ha nh hc, .int .i64 st] 43) := BM1.out.below hbx BM1.out.lt
   have HB_D : Hid (Below sz w D) := HB1.out.trans (hbx.mono (by have := BM1.out.lt; omega))
   have HE_D : Hid (ErrX D a0 a1) := HEX.out.below HB_D.out HLE.out
   have HED : Hid (ErrX D a0 a1) := HE_D.out
   have KD : Hid (D.cell? ⟨q, 0, none⟩ = some (.slice (some ⟨g, 0, none⟩) 4 c) ∧ D.cell? ⟨q, 1, none⟩ = some (.int .i64 st') ∧ D.cell? ⟨0, 0, none⟩ = some (.iface 260 (.pointer (some a0))) ∧ D.cell? ⟨sz, 0, none⟩ = some (.slice wa nw wc) ∧ D.cell? ⟨sz, 1, none⟩ = some (.slice da nd dc)) := ⟨(two_of BQ_D.out).1, (two_of BQ_D.out).2.1, HE_D.out.c0, (eight_of BM_D.out).1, (eight_of BM_D.out).2.1⟩
   have KX : Hid (X.drew.cell? ⟨q, 0, none⟩ = some (.slice (some ⟨g, 0, none⟩) 4 c) ∧ X.drew.cell? ⟨q, 1, none⟩ = some (.int .i64 st') ∧ X.drew.cell? ⟨0, 0, none⟩ = some (.iface 260 (.pointer (some a0))) ∧ X.drew.cell? ⟨sz, 0, none⟩ = some (.slice wa nw wc) ∧ X.drew.cell? ⟨sz, 1, none⟩ = some (.slice da nd dc)) := by rw [hD]; exact KD.out
   have HD : Hid (X.drew = D) := hD
   have HX : Hid (w1.alloc (.cells #[.slice (some ⟨g, 0, none⟩) 4 c, .int .i64 st'] 41) = X) := hX
   have HQ : Hid (w1.heap.size = q) := hq
   have OWD : Hid (D.ownsRow W.heap.size 3 1 (.slice (some ⟨g, 0, none⟩) 4 c) 4 (zs.map I)) := owns_below OW.out hbx (Nat.le_refl _)
   clear hX hD hq hbx
   go_upto_region 2 with (fail)
   rw [HX.out]
   (try rw [HQ.out])
   refine wp_region_held_drew (S := fun w' => w'.cell? ⟨q, 0, none⟩ = some (.slice (some ⟨g, 0, none⟩) 4 c) ∧ w'.cell? ⟨q, 1, none⟩ = some (.int .i64 st') ∧ w'.cell? ⟨0, 0, none⟩ = some (.iface 260 (.pointer (some a0))) ∧ w'.cell? ⟨sz, 0, none⟩ = some (.slice wa nw wc) ∧ w'.cell? ⟨sz, 1, none⟩ = some (.slice da nd dc)) (by kernel_rfl) KX.out (fun hHeld => ?_)
   rw [HD.out] at hHeld ⊢
   refine takeA 0 ev hHeld ?_
   simp only [Act.put, List.setIfInBounds_toArray, List.set_cons_zero, List.set_cons_succ]
   refine takeA 1 (.iface 260 (.pointer (some a0))) hHeld ?_
   simp only [Act.put, List.setIfInBounds_toArray, List.set_cons_zero, List.set_cons_succ]
   refine wpAnyH_ready (rs := [2]) (by kernel_rfl) (by simp) ?_
   refine AllReadyH.cons (o := _) (by rw [List.getElem?_toArray]; exact rfl) (fun K hK => ?_) AllReadyH.nil
   rw [if_pos (by kernel_rfl)]
   go_simp
   refine (C1.out _ HED.out).mono ?_
   rintro e w9 ⟨rfl, hw9⟩
   rw [hw9]
   refine hK.out _ _ ?_ (fun hHeld => ?_)
   · exact KD.out
   clear hK K
   refine takeA 3 (.bool true) hHeld ?_
   simp only [Act.put, List.setIfInBounds_toArray, List.set_cons_zero, List.set_cons_succ]
   refine takeA 4 (.bool true) hHeld ?_
   simp only [Act.put, List.setIfInBounds_toArray, List.set_cons_zero, List.set_cons_succ]
   refine takeA 5 (.pointer (some ⟨sz, 0, none⟩)) hHeld ?_
   simp only [Act.put, List.setIfInBounds_toArray, List.set_cons_zero, List.set_cons_succ]
   refine takeA 6 (.pointer (some ⟨sz, 0, none⟩)) hHeld ?_
   simp only [Act.put, List.setIfInBounds_toArray, List.set_cons_zero, List.set_cons_succ]
   refine takeA 7 (.slice wa nw wc) hHeld ?_
   simp only [Act.put, List.setIfInBounds_toArray, List.set_cons_zero, List.set_cons_succ]
   refine takeA 8 (.pointer (some ⟨sz, 0, none⟩)) hHeld ?_
   simp only [Act.put, List.setIfInBounds_toArray, List.set_cons_zero, List.set_cons_succ]
   refine takeA 9 (.pointer (some ⟨sz, 1, none⟩)) hHeld ?_
   simp only [Act.put, List.setIfInBounds_toArray, List.set_cons_zero, List.set_cons_succ]
   refine takeA 10 (.slice da nd dc) hHeld ?_
   simp only [Act.put, List.setIfInBounds_toArray, List.set_cons_zero, List.set_cons_succ]
   refine takeA 12 (.agg #[.slice (some ⟨g, 0, none⟩) 4 c, .int .i64 st']) hHeld ?_
   simp only [Act.put, List.setIfInBounds_toArray, List.set_cons_zero, List.set_cons_succ]
   refine wpAnyH_ready (rs := [11]) (by kernel_rfl) (by simp) ?_
   refine AllReadyH.cons (o := _) (by rw [List.getElem?_toArray]; exact rfl) (fun K hK => ?_) AllReadyH.nil
   rw [if_pos (by kernel_rfl)]
   go_simp
   refine (implMeaning_any wa nw wc ws da nd dc ds D (HWD.out.1.below HB_D.out HLE.out) (HWD.out.2.below HB_D.out HLE.out)).mono ?_
   rintro e w5 ⟨rfl, hown5, hb_w5⟩
   have BQ_w5 : Hid (Box w5 q #[.slice (some ⟨g, 0, none⟩) 4 c, .int .i64 st'] 41) := BQ_D.out.below hb_w5 BQ_D.out.lt
   have BM_w5 : Hid (Box w5 sz #[.slice wa nw wc, .slice da nd dc, .slice ta nt tc, .int .i64 tm, .slice ca nc cc, .slice oa no oc, .slice ha nh hc, .int .i64 st] 43) := BM_D.out.below hb_w5 BM_D.out.lt
   have HB_w5 : Hid (Below sz w w5) := HB_D.out.trans (hb_w5.mono (by have := BM_D.out.lt; omega))
   have HE_w5 : Hid (ErrX w5 a0 a1) := HEX.out.below HB_w5.out HLE.out
   have K5 : Hid (w5.cell? ⟨q, 0, none⟩ = some (.slice (some ⟨g, 0, none⟩) 4 c) ∧ w5.cell? ⟨q, 1, none⟩ = some (.int .i64 st') ∧ w5.cell? ⟨0, 0, none⟩ = some (.iface 260 (.pointer (some a0))) ∧ w5.cell? ⟨sz, 0, none⟩ = some (.slice wa nw wc) ∧ w5.cell? ⟨sz, 1, none⟩ = some (.slice da nd dc)) := ⟨(two_of BQ_w5.out).1, (two_of BQ_w5.out).2.1, HE_w5.out.c0, (eight_of BM_w5.out).1, (eight_of BM_w5.out).2.1⟩
   have OM5 : Hid (w5.ownsRow D.heap.size 3 1 (.slice (some ⟨D.heap.size, 0, none⟩) nw nw) nw ((meanM ws nw ds).map I)) := hown5
   have OW5 : Hid (w5.ownsRow W.heap.size 3 1 (.slice (some ⟨g, 0, none⟩) 4 c) 4 (zs.map I)) := owns_below OWD.out hb_w5 (Nat.le_refl _)
   have HB5 : Hid (Below D.heap.size D w5) := hb_w5
   clear hown5 hb_w5
   refine hK.out _ _ ?_ (fun hHeld => ?_)
   · exact K5.out
   clear hK K
   refine wpAnyH_ready (rs := [13]) (by kernel_rfl) (by simp) ?_
   refine AllReadyH.cons (o := _) (by rw [List.getElem?_toArray]; exact rfl) (fun K hK => ?_) AllReadyH.nil
   rw [if_pos (by kernel_rfl)]
   go_simp
   refine (implWordsOf_room (some ⟨g, 0, none⟩) c (rowsR_room OW5.out) st' zs w5 (intAt_own OW5.out) (rowsR_wf HROK.out) HROK.out (HNM.out.below HB_w5.out (Nat.lt_of_lt_of_le HNM.out.lt HLE.out))).mono ?_
   rintro e w6 ⟨⟨g6, hg6, rfl, hown6⟩, hb6⟩
   have hb_w6 : Below D.heap.size D w6 := HB5.out.trans (hb6.mono HB5.out.size)
   have BQ_w6 : Hid (Box w6 q #[.slice (some ⟨g, 0, none⟩) 4 c, .int .i64 st'] 41) := BQ_D.out.below hb_w6 BQ_D.out.lt
   have BM_w6 : Hid (Box w6 sz #[.slice wa nw wc, .slice da nd dc, .slice ta nt tc, .int .i64 tm, .slice ca nc cc, .slice oa no oc, .slice ha nh hc, .int .i64 st] 43) := BM_D.out.below hb_w6 BM_D.out.lt
   have HB_w6 : Hid (Below sz w w6) := HB_D.out.trans (hb_w6.mono (by have := BM_D.out.lt; omega))
   have HE_w6 : Hid (ErrX w6 a0 a1) := HEX.out.below HB_w6.out HLE.out
   have K6 : Hid (w6.cell? ⟨q, 0, none⟩ = some (.slice (some ⟨g, 0, none⟩) 4 c) ∧ w6.cell? ⟨q, 1, none⟩ = some (.int .i64 st') ∧ w6.cell? ⟨0, 0, none⟩ = some (.iface 260 (.pointer (some a0))) ∧ w6.cell? ⟨sz, 0, none⟩ = some (.slice wa nw wc) ∧ w6.cell? ⟨sz, 1, none⟩ = some (.slice da nd dc)) := ⟨(two_of BQ_w6.out).1, (two_of BQ_w6.out).2.1, HE_w6.out.c0, (eight_of BM_w6.out).1, (eight_of BM_w6.out).2.1⟩
   have OM6 : Hid (w6.ownsRow D.heap.size 3 1 (.slice (some ⟨D.heap.size, 0, none⟩) nw nw) nw ((meanM ws nw ds).map I)) := owns_below OM5.out hb6 (Nat.le_refl _)
   have OS6 : Hid (w6.ownsRow g6 3 1 (.slice (some ⟨g6, 0, none⟩) 20 20) 20 ((specL zs st').map I)) := hown6
   have HB6 : Hid (Below D.heap.size D w6) := hb_w6
   clear hown6 hb_w6 hb6 hg6
   refine hK.out _ _ ?_ (fun hHeld => ?_)
   · exact K6.out
   clear hK K
   refine wpAnyH_ready (rs := [14]) (by kernel_rfl) (by simp) ?_
   refine AllReadyH.cons (o := _) (by rw [List.getElem?_toArray]; exact rfl) (fun K hK => ?_) AllReadyH.nil
   rw [if_pos (by kernel_rfl)]
   go_simp
   refine (equalI_any (some ⟨D.heap.size, 0, none⟩) (some ⟨g6, 0, none⟩) nw 20 nw 20 (meanM ws nw ds) (specL zs st') w6 (intAt_row OM6.out HNW.out) (intAt_row OS6.out (by omega))).mono ?_
   rintro e w7 ⟨rfl, hb7⟩
   rw [HDB.out]
   have hb_w7 : Below D.heap.size D w7 := HB6.out.trans (hb7.mono HB6.out.size)
   have BQ_w7 : Hid (Box w7 q #[.slice (some ⟨g, 0, none⟩) 4 c, .int .i64 st'] 41) := BQ_D.out.below hb_w7 BQ_D.out.lt
   have BM_w7 : Hid (Box w7 sz #[.slice wa nw wc, .slice da nd dc, .slice ta nt tc, .int .i64 tm, .slice ca nc cc, .slice oa no oc, .slice ha nh hc, .int .i64 st] 43) := BM_D.out.below hb_w7 BM_D.out.lt
   have HB_w7 : Hid (Below sz w w7) := HB_D.out.trans (hb_w7.mono (by have := BM_D.out.lt; omega))
   have HE_w7 : Hid (ErrX w7 a0 a1) := HEX.out.below HB_w7.out HLE.out
   have K7 : Hid (w7.cell? ⟨q, 0, none⟩ = some (.slice (some ⟨g, 0, none⟩) 4 c) ∧ w7.cell? ⟨q, 1, none⟩ = some (.int .i64 st') ∧ w7.cell? ⟨0, 0, none⟩ = some (.iface 260 (.pointer (some a0))) ∧ w7.cell? ⟨sz, 0, none⟩ = some (.slice wa nw wc) ∧ w7.cell? ⟨sz, 1, none⟩ = some (.slice da nd dc)) := ⟨(two_of BQ_w7.out).1, (two_of BQ_w7.out).2.1, HE_w7.out.c0, (eight_of BM_w7.out).1, (eight_of BM_w7.out).2.1⟩
   clear hb_w7 hb7
   refine hK.out _ _ ?_ (fun hHeld => ?_)
   · exact K7.out
   clear hK K
   rcases B with _ | _
   · have HN : Hid (¬ G) := fun h => by have := HBG.out.2 h; cases this
     refine takeA 15 (.bool false) hHeld ?_
     simp only [Act.put, List.setIfInBounds_toArray, List.set_cons_zero, List.set_cons_succ]
     refine takeA 16 (.bool false) hHeld ?_
     simp only [Act.put, List.setIfInBounds_toArray, List.set_cons_zero, List.set_cons_succ]
     refine wpAnyH_done (by kernel_rfl) ?_ _
     go_wp2
     go_ret
     first | exact ⟨false, ⟨rfl, by simp [HN.out]⟩, HB_w7.out⟩ | exact ⟨HN.out, HB_w7.out⟩ | exact ⟨.inl ⟨rfl, HN.out⟩, HB_w7.out⟩
   · have HN : Hid G := HBG.out.1 rfl
     refine takeA 15 (.bool true) hHeld ?_
     simp only [Act.put, List.setIfInBounds_toArray, List.set_cons_zero, List.set_cons_succ]
     refine takeA 16 (.bool true) hHeld ?_
     simp only [Act.put, List.setIfInBounds_toArray, List.set_cons_zero, List.set_cons_succ]
     refine wpAnyH_done (by kernel_rfl) ?_ _
     go_wp2
     go_ret
     first | exact ⟨true, ⟨rfl, by simp [HN.out]⟩, HB_w7.out⟩ | exact ⟨HN.out, HB_w7.out⟩ | exact ⟨.inr ⟨rfl, HN.out⟩, HB_w7.out⟩
 · have HN : Hid (¬ G) := fun h => hng (HG.out.1 h).1
   clear hng hb1
   obtain ⟨q, hq⟩ : ∃ q, w1.heap.size = q := ⟨_, rfl⟩
   obtain ⟨X, hX⟩ : ∃ X, w1.alloc (.cells #[.slice none 0 0, .int .i64 0] 41) = X := ⟨_, rfl⟩
   obtain ⟨D, hD⟩ : ∃ D, X.drew = D := ⟨_, rfl⟩
   have hbx : Below w1.heap.size w1 D := by rw [← hD, ← hX]; exact ((Below.refl _ w1).alloc (Nat.le_refl _) _).drew
   have BQ_D : Hid (Box D q #[.slice none 0 0, .int .i64 0] 41) := by rw [← hD, ← hX, ← hq]; exact (box_of w1 _ _).drew
   have BM_D : Hid (Box D sz #[.slice wa nw wc, .slice da nd dc, .slice ta nt tc, .int .i64 tm, .slice ca nc cc, .slice oa no oc, .slice ha nh hc, .int .i64 st] 43) := BM1.out.below hbx BM1.out.lt
   have HB_D : Hid (Below sz w D) := HB1.out.trans (hbx.mono (by have := BM1.out.lt; omega))
   have HE_D : Hid (ErrX D a0 a1) := HEX.out.below HB_D.out HLE.out
   have HED : Hid (ErrX D a0 a1) := HE_D.out
   have KD : Hid (D.cell? ⟨q, 0, none⟩ = some (.slice none 0 0) ∧ D.cell? ⟨q, 1, none⟩ = some (.int .i64 0) ∧ D.cell? ⟨0, 0, none⟩ = some (.iface 260 (.pointer (some a0))) ∧ D.cell? ⟨sz, 0, none⟩ = some (.slice wa nw wc) ∧ D.cell? ⟨sz, 1, none⟩ = some (.slice da nd dc)) := ⟨(two_of BQ_D.out).1, (two_of BQ_D.out).2.1, HE_D.out.c0, (eight_of BM_D.out).1, (eight_of BM_D.out).2.1⟩
   have KX : Hid (X.drew.cell? ⟨q, 0, none⟩ = some (.slice none 0 0) ∧ X.drew.cell? ⟨q, 1, none⟩ = some (.int .i64 0) ∧ X.drew.cell? ⟨0, 0, none⟩ = some (.iface 260 (.pointer (some a0))) ∧ X.drew.cell? ⟨sz, 0, none⟩ = some (.slice wa nw wc) ∧ X.drew.cell? ⟨sz, 1, none⟩ = some (.slice da nd dc)) := by rw [hD]; exact KD.out
   have HD : Hid (X.drew = D) := hD
   have HX : Hid (w1.alloc (.cells #[.slice none 0 0, .int .i64 0] 41) = X) := hX
   have HQ : Hid (w1.heap.size = q) := hq
   clear hX hD hq hbx
   go_upto_region 2 with (fail)
   rw [HX.out]
   (try rw [HQ.out])
   refine wp_region_held_drew (S := fun w' => w'.cell? ⟨q, 0, none⟩ = some (.slice none 0 0) ∧ w'.cell? ⟨q, 1, none⟩ = some (.int .i64 0) ∧ w'.cell? ⟨0, 0, none⟩ = some (.iface 260 (.pointer (some a0))) ∧ w'.cell? ⟨sz, 0, none⟩ = some (.slice wa nw wc) ∧ w'.cell? ⟨sz, 1, none⟩ = some (.slice da nd dc)) (by kernel_rfl) KX.out (fun hHeld => ?_)
   rw [HD.out] at hHeld ⊢
   refine takeA 0 (.iface 260 (.pointer (some a0))) hHeld ?_
   simp only [Act.put, List.setIfInBounds_toArray, List.set_cons_zero, List.set_cons_succ]
   refine takeA 1 (.iface 260 (.pointer (some a0))) hHeld ?_
   simp only [Act.put, List.setIfInBounds_toArray, List.set_cons_zero, List.set_cons_succ]
   refine wpAnyH_ready (rs := [2]) (by kernel_rfl) (by simp) ?_
   refine AllReadyH.cons (o := _) (by rw [List.getElem?_toArray]; exact rfl) (fun K hK => ?_) AllReadyH.nil
   rw [if_pos (by kernel_rfl)]
   go_simp
   refine (is_same a0 _).mono ?_
   rintro e w9 ⟨rfl, hw9⟩
   rw [hw9]
   refine hK.out _ _ ?_ (fun hHeld => ?_)
   · exact KD.out
   clear hK K
   refine takeA 3 (.bool false) hHeld ?_
   simp only [Act.put, List.setIfInBounds_toArray, List.set_cons_zero, List.set_cons_succ]
   refine takeA 4 (.bool false) hHeld ?_
   simp only [Act.put, List.setIfInBounds_toArray, List.set_cons_zero, List.set_cons_succ]
   refine skipH 5 hHeld ?_
   simp only [Act.put, List.setIfInBounds_toArray, List.set_cons_zero, List.set_cons_succ]
   refine skipH 6 hHeld ?_
   simp only [Act.put, List.setIfInBounds_toArray, List.set_cons_zero, List.set_cons_succ]
   refine skipH 7 hHeld ?_
   simp only [Act.put, List.setIfInBounds_toArray, List.set_cons_zero, List.set_cons_succ]
   refine skipH 8 hHeld ?_
   simp only [Act.put, List.setIfInBounds_toArray, List.set_cons_zero, List.set_cons_succ]
   refine skipH 9 hHeld ?_
   simp only [Act.put, List.setIfInBounds_toArray, List.set_cons_zero, List.set_cons_succ]
   refine skipH 10 hHeld ?_
   simp only [Act.put, List.setIfInBounds_toArray, List.set_cons_zero, List.set_cons_succ]
   refine skipH 11 hHeld ?_
   simp only [Act.put, List.setIfInBounds_toArray, List.set_cons_zero, List.set_cons_succ]
   refine skipH 12 hHeld ?_
   simp only [Act.put, List.setIfInBounds_toArray, List.set_cons_zero, List.set_cons_succ]
   refine skipH 13 hHeld ?_
   simp only [Act.put, List.setIfInBounds_toArray, List.set_cons_zero, List.set_cons_succ]
   refine skipH 14 hHeld ?_
   simp only [Act.put, List.setIfInBounds_toArray, List.set_cons_zero, List.set_cons_succ]
   refine takeA 15 (.bool false) hHeld ?_
   simp only [Act.put, List.setIfInBounds_toArray, List.set_cons_zero, List.set_cons_succ]
   refine takeA 16 (.bool false) hHeld ?_
   simp only [Act.put, List.setIfInBounds_toArray, List.set_cons_zero, List.set_cons_succ]
   refine wpAnyH_done (by kernel_rfl) ?_ _
   go_wp2
   go_ret
   first | exact ⟨false, ⟨rfl, by simp [HN.out]⟩, HB_D.out⟩ | exact ⟨HN.out, HB_D.out⟩ | exact ⟨.inl ⟨rfl, HN.out⟩, HB_D.out⟩
end
section
open Go.ChangeShapes Go.WideShapes Go.ChangeAt Go.RowKit Go.Joins
def lastE (f : Nat → CaD) (t : Int) : Nat → Int
 | 0 => -1
 | n + 1 => if (f n).t = t then (f n).en else lastE f t n
theorem lastE_is (f : Nat → CaD) (t : Int) : ∀ n, ((∀ k, k < n → (f k).t ≠ t) ∧ lastE f t n = -1) ∨ ∃ j, j < n ∧ (f j).t = t ∧ (∀ k, j < k → k < n → (f k).t ≠ t) ∧ lastE f t n = (f j).en
 | 0 => .inl ⟨fun k h => by omega, rfl⟩
 | n + 1 => by
   by_cases e : (f n).t = t
   · exact .inr ⟨n, by omega, e, fun k h1 h2 => by omega, by simp [lastE, e]⟩
   · have e2 : lastE f t (n + 1) = lastE f t n := by simp [lastE, e]
     rcases lastE_is f t n with ⟨h1, h2⟩ | ⟨j, h1, h2, h3, h4⟩
     · refine .inl ⟨fun k hk => ?_, e2.trans h2⟩
       by_cases ek : k = n
       · rw [ek]; exact e
       · exact h1 k (by omega)
     · refine .inr ⟨j, by omega, h2, fun k hj hk => ?_, e2.trans h4⟩
       by_cases ek : k = n
       · rw [ek]; exact e
       · exact h3 k hj (by omega)
def TimeI (M : MaD) (i : Nat) : Prop := (0 ≤ (M.f i).en → inB (M.f i).ln (M.f i).st (M.f i).en = true) ∧ lastE M.f (M.f i).t i < (M.f i).st
theorem lastN_mono {f : Nat → CaD} {t : Int} : ∀ {n : Nat} {i : Nat}, i < n → (f i).t = t → (i : Int) ≤ lastN f t n
 | 0, i, h, _ => by omega
 | n + 1, i, h, ht => by
   unfold lastN
   by_cases e : (f n).t = t
   · rw [if_pos e]; omega
   · rw [if_neg e]
     have : i ≠ n := fun h => e (h ▸ ht)
     exact lastN_mono (by omega) ht
theorem ended_of {M : MaD} (h : MachGood M) {k i : Nat} (hk : k < i) (hi : i < M.nc) (e : (M.f k).t = (M.f i).t) : 0 ≤ (M.f k).en ∧ (M.f k).st ≤ (M.f k).en := by
 have hc := h.calls.each k (by omega)
 simp only [CaGood, Bool.and_eq_true] at hc
 obtain ⟨ht, -, -, -, hen⟩ := hc
 obtain ⟨t0, t1⟩ := inB_val ht
 obtain ⟨t, ht⟩ : ∃ t : Nat, (M.f k).t = (t : Int) := ⟨(M.f k).t.toNat, by omega⟩
 have hT := (h.ths t (by omega)).2
 have h0 : 0 ≤ (M.f k).en := by
   rcases hT.ends k (by omega) ht with h0 | ⟨-, h1⟩
   · exact h0
   · have := lastN_mono (f := M.f) hi (e.symm.trans ht)
     omega
 refine ⟨h0, ?_⟩
 simp only [MomGood, Bool.or_eq_true, beq_iff_eq] at hen
 rcases hen with h1 | h1
 · omega
 · exact (inB_val h1).1
theorem start_of {M : MaD} (h : MachGood M) {i : Nat} (hi : i < M.nc) : 0 ≤ (M.f i).st := by
 have hc := h.calls.each i hi
 simp only [CaGood, Bool.and_eq_true] at hc
 exact (inB_val hc.2.2.1).1
theorem times_iff {M : MaD} (h : MachGood M) : (∀ i, i < M.nc → TimeAt M i) ↔ ∀ i, i < M.nc → TimeI M i := by
 constructor
 · intro g i hi
   refine ⟨(g i hi).1, ?_⟩
   rcases lastE_is M.f (M.f i).t i with ⟨-, e⟩ | ⟨j, h1, h2, -, e⟩
   · have := start_of h hi
     rw [e]; omega
   · rw [e]
     exact ((g i hi).2 j h1 h2).2
 · intro g
   have main : ∀ i, i < M.nc → ∀ k, k < i → (M.f k).t = (M.f i).t → 0 ≤ (M.f k).en ∧ (M.f k).en < (M.f i).st := by
     intro i
     induction i using Nat.strongRecOn with
     | ind i ih =>
       intro hi k hk e
       have hE := ended_of h hk hi e
       refine ⟨hE.1, ?_⟩
       have hl := (g i hi).2
       rcases lastE_is M.f (M.f i).t i with ⟨h1, -⟩ | ⟨j, h1, h2, h3, h4⟩
       · exact absurd e (h1 k hk)
       · rw [h4] at hl
         by_cases ej : k = j
         · rw [ej]; exact hl
         · have hkj : k < j := by
             rcases Nat.lt_trichotomy k j with h5 | h5 | h5
             · exact h5
             · exact absurd h5 ej
             · exact absurd e (h3 k h5 hk)
           have a := (ih j h1 (by omega) k hkj (e.trans h2.symm)).2
           have b := (ended_of h h1 hi h2).2
           omega
   intro i hi
   exact ⟨(g i hi).1, main i hi⟩
end
section
open Go.ChangeShapes Go.WideShapes Go.ChangeAt Go.RowKit
theorem rp_size : (Tryz.prog.info? 3).map (·.size) = some 1 := by kernel_rfl
theorem copy_e (W : World) (g o dl dc : Nat) (a : Addr) (sl sc : Nat) (cur : Array Value) (cs : List Value) (hg : Box W g cur 3) (hn : cs.length = Nat.min sl dl) (hsrc : ∀ j v, cs[j]? = some v → W.cell? (a.add j) = some v) (hfit : o + cs.length ≤ cur.size) (h1 : ∀ v ∈ cs, v.oneCell' = true) :
   ∃ W', (∀ ty, (Builtin.copy_ #[28, 28] ty #[.slice (some ⟨g, o, none⟩) dl dc, .slice (some a) sl sc]).run Tryz.prog W = .ok (goInt cs.length) W') ∧ Box W' g (cur.toList.take o ++ cs ++ cur.toList.drop (o + cs.length)).toArray 3 ∧ ∀ B w0, Below B w0 W → B ≤ g → Below B w0 W' := by
 refine ⟨W.setRow g (cur.toList.take o ++ cs ++ cur.toList.drop (o + cs.length)).toArray, fun ty => run_copy_row (P := Tryz.prog) W 28 28 ty 3 g o dl dc a sl sc cur 3 cs Tryz.underlying28 rp_size hg hn hsrc hfit h1, setRow_heap W g _ _ 3 _ hg, fun B w0 hb hB => below_setRow hb hB _⟩
theorem rp_info : (Tryz.prog.info? 3).map (fun i => (i.zero, i.size)) = some (some (.int .i64 0), 1) := by kernel_rfl
theorem rp_bytes : (Tryz.prog.info? 3).map (fun i => decide (i.bytes ≤ 1024)) = some true := by kernel_rfl
theorem rp_make (n : Nat) (hn : n ≤ 2097152) (W : World) : (Instr.makeSlice 28 (.int .i64 (n : Int)) (.int .i64 (n : Int))).run Tryz.prog W = .ok (.slice (some ⟨W.heap.size, 0, none⟩) n n) (W.alloc (.cells (madeCells #[.int .i64 0] n) 3)) := by
 obtain ⟨i0, hi, hz⟩ := Option.map_eq_some_iff.1 rp_info
 obtain ⟨i1, hi', hb1⟩ := Option.map_eq_some_iff.1 rp_bytes
 obtain rfl : i0 = i1 := Option.some.inj (hi.symm.trans hi')
 have hz0 : i0.zero = some (.int .i64 0) := congrArg Prod.fst hz
 have hz1 : i0.size = 1 := congrArg Prod.snd hz
 have hz2 : i0.bytes ≤ 1024 := of_decide_eq_true hb1
 have hby : i0.bytes * n ≤ 1024 * 2097152 := Nat.mul_le_mul hz2 hn
 have h : ((i0.bytes * n : Nat) : Int) ≤ 281474976710656 := by omega
 have hr := run_make (P := Tryz.prog) W 28 3 i0 (.int .i64 0) Tryz.underlying28 hi hz0 .i64 .i64 (n : Int) (n : Int) (by omega) (Int.le_refl _) (by rwa [Int.natCast_mul] at h) (by omega)
 simp only [Int.toNat_natCast, hz1, Nat.mul_one] at hr
 exact hr
theorem repeat_1 (b : Nat) (w : World) (hB : Box w b #[.int .i64 (-1)] 3) :
   Calls Tryz.prog 98 #[.slice (some ⟨b, 0, none⟩) 1 1, .int .i64 1] w fun e w' => e = .returned (.slice (some ⟨w.heap.size, 0, none⟩) 1 1) ∧ Box w' w.heap.size #[.int .i64 (-1)] 3 ∧ Below w.heap.size w w' := by
 obtain ⟨g, hg⟩ : ∃ g, w.heap.size = g := ⟨_, rfl⟩
 obtain ⟨W0, hW0⟩ : ∃ W0, w.alloc (.cells #[.int .i64 0] 3) = W0 := ⟨_, rfl⟩
 have B0 : Box W0 g #[.int .i64 0] 3 := by rw [← hW0, ← hg]; exact box_of w _ _
 have b0 : Below g w W0 := by rw [← hW0, ← hg]; exact (Below.refl _ w).alloc (Nat.le_refl _) _
 have hmk : (Instr.makeSlice 28 (.int .i64 1) (.int .i64 1)).run Tryz.prog w = .ok (.slice (some ⟨g, 0, none⟩) 1 1) W0 := by
   have e : madeCells #[Value.int .i64 0] 1 = #[.int .i64 0] := by kernel_rfl
   have h := rp_make 1 (by omega) w
   rw [e, hW0, hg] at h
   exact h
 have hs0 : W0.cell? ⟨b, 0, none⟩ = some (.int .i64 (-1)) := (hB.below b0 (by have := hB.lt; omega)).cell 0
 obtain ⟨W1, hc1, B1, b1⟩ := copy_e W0 g 0 1 1 ⟨b, 0, none⟩ 1 1 _ [.int .i64 (-1)] B0 (by decide) (fun j v h => by
   match j with
   | 0 => obtain rfl := Option.some.inj h; exact hs0
   | j + 1 => simp at h) (by simp) (by simp [Value.oneCell'])
 have B1 : Box W1 g #[.int .i64 (-1)] 3 := B1
 have hc1 : ∀ ty, (Builtin.copy_ #[28, 28] ty #[.slice (some ⟨g, 0, none⟩) 1 1, .slice (some ⟨b, 0, none⟩) 1 1]).run Tryz.prog W0 = .ok (.int .i64 1) W1 := hc1
 have L1 := b1 g w b0 (Nat.le_refl _)
 have HEND : Hid (Box W1 g #[.int .i64 (-1)] 3 ∧ Below g w W1) := ⟨B1, L1⟩
 rw [hg]
 have HG : Hid (w.heap.size = g) := hg
 have hw2 : IntKind.i64.wrap 2 = 2 := by kernel_rfl
 have hw3 : IntKind.i64.wrap 3 = 3 := by kernel_rfl
 have hw4 : IntKind.i64.wrap 4 = 4 := by kernel_rfl
 clear hg hW0 B1 L1 b1 B0 b0 hs0 hB
 go_enter Tryz.func98, Tryz.ntmps98
 go_wp2
 refine wp_loop_rounds 1 ?_
 rw [rounds_succ]
 go_wp2
 go_ret
 exact ⟨rfl, HEND.out⟩
theorem repeat_2 (b : Nat) (w : World) (hB : Box w b #[.int .i64 (-1)] 3) :
   Calls Tryz.prog 98 #[.slice (some ⟨b, 0, none⟩) 1 1, .int .i64 2] w fun e w' => e = .returned (.slice (some ⟨w.heap.size, 0, none⟩) 2 2) ∧ Box w' w.heap.size #[.int .i64 (-1), .int .i64 (-1)] 3 ∧ Below w.heap.size w w' := by
 obtain ⟨g, hg⟩ : ∃ g, w.heap.size = g := ⟨_, rfl⟩
 obtain ⟨W0, hW0⟩ : ∃ W0, w.alloc (.cells #[.int .i64 0, .int .i64 0] 3) = W0 := ⟨_, rfl⟩
 have B0 : Box W0 g #[.int .i64 0, .int .i64 0] 3 := by rw [← hW0, ← hg]; exact box_of w _ _
 have b0 : Below g w W0 := by rw [← hW0, ← hg]; exact (Below.refl _ w).alloc (Nat.le_refl _) _
 have hmk : (Instr.makeSlice 28 (.int .i64 2) (.int .i64 2)).run Tryz.prog w = .ok (.slice (some ⟨g, 0, none⟩) 2 2) W0 := by
   have e : madeCells #[Value.int .i64 0] 2 = #[.int .i64 0, .int .i64 0] := by kernel_rfl
   have h := rp_make 2 (by omega) w
   rw [e, hW0, hg] at h
   exact h
 have hs0 : W0.cell? ⟨b, 0, none⟩ = some (.int .i64 (-1)) := (hB.below b0 (by have := hB.lt; omega)).cell 0
 obtain ⟨W1, hc1, B1, b1⟩ := copy_e W0 g 0 2 2 ⟨b, 0, none⟩ 1 1 _ [.int .i64 (-1)] B0 (by decide) (fun j v h => by
   match j with
   | 0 => obtain rfl := Option.some.inj h; exact hs0
   | j + 1 => simp at h) (by simp) (by simp [Value.oneCell'])
 have B1 : Box W1 g #[.int .i64 (-1), .int .i64 0] 3 := B1
 have hc1 : ∀ ty, (Builtin.copy_ #[28, 28] ty #[.slice (some ⟨g, 0, none⟩) 2 2, .slice (some ⟨b, 0, none⟩) 1 1]).run Tryz.prog W0 = .ok (.int .i64 1) W1 := hc1
 have L1 := b1 g w b0 (Nat.le_refl _)
 obtain ⟨W2, hc2, B2, b2⟩ := copy_e W1.drew g 1 1 1 ⟨g, 0, none⟩ 1 2 _ [.int .i64 (-1)] B1.drew (by decide) (fun j v h => by
   match j with
   | 0 => obtain rfl := Option.some.inj h; exact B1.drew.cell 0
   | j + 1 => simp at h) (by simp) (by simp [Value.oneCell'])
 have B2 : Box W2 g #[.int .i64 (-1), .int .i64 (-1)] 3 := B2
 have hc2 : ∀ ty, (Builtin.copy_ #[28, 28] ty #[.slice (some ⟨g, 1, none⟩) 1 1, .slice (some ⟨g, 0, none⟩) 1 2]).run Tryz.prog W1.drew = .ok (.int .i64 1) W2 := hc2
 have L2 := b2 g w L1.drew (Nat.le_refl _)
 have HEND : Hid (Box W2 g #[.int .i64 (-1), .int .i64 (-1)] 3 ∧ Below g w W2) := ⟨B2, L2⟩
 rw [hg]
 have HG : Hid (w.heap.size = g) := hg
 have hw2 : IntKind.i64.wrap 2 = 2 := by kernel_rfl
 have hw3 : IntKind.i64.wrap 3 = 3 := by kernel_rfl
 have hw4 : IntKind.i64.wrap 4 = 4 := by kernel_rfl
 clear hg hW0 B1 L1 b1 B2 L2 b2 B0 b0 hs0 hB
 go_enter Tryz.func98, Tryz.ntmps98
 go_wp2
 refine wp_loop_rounds 2 ?_
 rw [rounds_succ]
 go_wp2
 go_region_held3 (fun _ => True) (trivial) (fail)
 (try simp only [hw2, hw3, hw4])
 go_wp2
 rw [rounds_succ]
 go_wp2
 go_ret
 exact ⟨rfl, HEND.out⟩
theorem repeat_3 (b : Nat) (w : World) (hB : Box w b #[.int .i64 (-1)] 3) :
   Calls Tryz.prog 98 #[.slice (some ⟨b, 0, none⟩) 1 1, .int .i64 3] w fun e w' => e = .returned (.slice (some ⟨w.heap.size, 0, none⟩) 3 3) ∧ Box w' w.heap.size #[.int .i64 (-1), .int .i64 (-1), .int .i64 (-1)] 3 ∧ Below w.heap.size w w' := by
 obtain ⟨g, hg⟩ : ∃ g, w.heap.size = g := ⟨_, rfl⟩
 obtain ⟨W0, hW0⟩ : ∃ W0, w.alloc (.cells #[.int .i64 0, .int .i64 0, .int .i64 0] 3) = W0 := ⟨_, rfl⟩
 have B0 : Box W0 g #[.int .i64 0, .int .i64 0, .int .i64 0] 3 := by rw [← hW0, ← hg]; exact box_of w _ _
 have b0 : Below g w W0 := by rw [← hW0, ← hg]; exact (Below.refl _ w).alloc (Nat.le_refl _) _
 have hmk : (Instr.makeSlice 28 (.int .i64 3) (.int .i64 3)).run Tryz.prog w = .ok (.slice (some ⟨g, 0, none⟩) 3 3) W0 := by
   have e : madeCells #[Value.int .i64 0] 3 = #[.int .i64 0, .int .i64 0, .int .i64 0] := by kernel_rfl
   have h := rp_make 3 (by omega) w
   rw [e, hW0, hg] at h
   exact h
 have hs0 : W0.cell? ⟨b, 0, none⟩ = some (.int .i64 (-1)) := (hB.below b0 (by have := hB.lt; omega)).cell 0
 obtain ⟨W1, hc1, B1, b1⟩ := copy_e W0 g 0 3 3 ⟨b, 0, none⟩ 1 1 _ [.int .i64 (-1)] B0 (by decide) (fun j v h => by
   match j with
   | 0 => obtain rfl := Option.some.inj h; exact hs0
   | j + 1 => simp at h) (by simp) (by simp [Value.oneCell'])
 have B1 : Box W1 g #[.int .i64 (-1), .int .i64 0, .int .i64 0] 3 := B1
 have hc1 : ∀ ty, (Builtin.copy_ #[28, 28] ty #[.slice (some ⟨g, 0, none⟩) 3 3, .slice (some ⟨b, 0, none⟩) 1 1]).run Tryz.prog W0 = .ok (.int .i64 1) W1 := hc1
 have L1 := b1 g w b0 (Nat.le_refl _)
 obtain ⟨W2, hc2, B2, b2⟩ := copy_e W1.drew g 1 2 2 ⟨g, 0, none⟩ 1 3 _ [.int .i64 (-1)] B1.drew (by decide) (fun j v h => by
   match j with
   | 0 => obtain rfl := Option.some.inj h; exact B1.drew.cell 0
   | j + 1 => simp at h) (by simp) (by simp [Value.oneCell'])
 have B2 : Box W2 g #[.int .i64 (-1), .int .i64 (-1), .int .i64 0] 3 := B2
 have hc2 : ∀ ty, (Builtin.copy_ #[28, 28] ty #[.slice (some ⟨g, 1, none⟩) 2 2, .slice (some ⟨g, 0, none⟩) 1 3]).run Tryz.prog W1.drew = .ok (.int .i64 1) W2 := hc2
 have L2 := b2 g w L1.drew (Nat.le_refl _)
 obtain ⟨W3, hc3, B3, b3⟩ := copy_e W2.drew g 2 1 1 ⟨g, 0, none⟩ 2 3 _ [.int .i64 (-1)] B2.drew (by decide) (fun j v h => by
   match j with
   | 0 => obtain rfl := Option.some.inj h; exact B2.drew.cell 0
   | j + 1 => simp at h) (by simp) (by simp [Value.oneCell'])
 have B3 : Box W3 g #[.int .i64 (-1), .int .i64 (-1), .int .i64 (-1)] 3 := B3
 have hc3 : ∀ ty, (Builtin.copy_ #[28, 28] ty #[.slice (some ⟨g, 2, none⟩) 1 1, .slice (some ⟨g, 0, none⟩) 2 3]).run Tryz.prog W2.drew = .ok (.int .i64 1) W3 := hc3
 have L3 := b3 g w L2.drew (Nat.le_refl _)
 have HEND : Hid (Box W3 g #[.int .i64 (-1), .int .i64 (-1), .int .i64 (-1)] 3 ∧ Below g w W3) := ⟨B3, L3⟩
 rw [hg]
 have HG : Hid (w.heap.size = g) := hg
 have hw2 : IntKind.i64.wrap 2 = 2 := by kernel_rfl
 have hw3 : IntKind.i64.wrap 3 = 3 := by kernel_rfl
 have hw4 : IntKind.i64.wrap 4 = 4 := by kernel_rfl
 clear hg hW0 B1 L1 b1 B2 L2 b2 B3 L3 b3 B0 b0 hs0 hB
 go_enter Tryz.func98, Tryz.ntmps98
 go_wp2
 refine wp_loop_rounds 3 ?_
 rw [rounds_succ]
 go_wp2
 go_region_held3 (fun _ => True) (trivial) (fail)
 (try simp only [hw2, hw3, hw4])
 go_wp2
 rw [rounds_succ]
 go_wp2
 go_region_held3 (fun _ => True) (trivial) (fail)
 (try simp only [hw2, hw3, hw4])
 go_wp2
 rw [rounds_succ]
 go_wp2
 go_ret
 exact ⟨rfl, HEND.out⟩
theorem repeat_4 (b : Nat) (w : World) (hB : Box w b #[.int .i64 (-1)] 3) :
   Calls Tryz.prog 98 #[.slice (some ⟨b, 0, none⟩) 1 1, .int .i64 4] w fun e w' => e = .returned (.slice (some ⟨w.heap.size, 0, none⟩) 4 4) ∧ Box w' w.heap.size #[.int .i64 (-1), .int .i64 (-1), .int .i64 (-1), .int .i64 (-1)] 3 ∧ Below w.heap.size w w' := by
 obtain ⟨g, hg⟩ : ∃ g, w.heap.size = g := ⟨_, rfl⟩
 obtain ⟨W0, hW0⟩ : ∃ W0, w.alloc (.cells #[.int .i64 0, .int .i64 0, .int .i64 0, .int .i64 0] 3) = W0 := ⟨_, rfl⟩
 have B0 : Box W0 g #[.int .i64 0, .int .i64 0, .int .i64 0, .int .i64 0] 3 := by rw [← hW0, ← hg]; exact box_of w _ _
 have b0 : Below g w W0 := by rw [← hW0, ← hg]; exact (Below.refl _ w).alloc (Nat.le_refl _) _
 have hmk : (Instr.makeSlice 28 (.int .i64 4) (.int .i64 4)).run Tryz.prog w = .ok (.slice (some ⟨g, 0, none⟩) 4 4) W0 := by
   have e : madeCells #[Value.int .i64 0] 4 = #[.int .i64 0, .int .i64 0, .int .i64 0, .int .i64 0] := by kernel_rfl
   have h := rp_make 4 (by omega) w
   rw [e, hW0, hg] at h
   exact h
 have hs0 : W0.cell? ⟨b, 0, none⟩ = some (.int .i64 (-1)) := (hB.below b0 (by have := hB.lt; omega)).cell 0
 obtain ⟨W1, hc1, B1, b1⟩ := copy_e W0 g 0 4 4 ⟨b, 0, none⟩ 1 1 _ [.int .i64 (-1)] B0 (by decide) (fun j v h => by
   match j with
   | 0 => obtain rfl := Option.some.inj h; exact hs0
   | j + 1 => simp at h) (by simp) (by simp [Value.oneCell'])
 have B1 : Box W1 g #[.int .i64 (-1), .int .i64 0, .int .i64 0, .int .i64 0] 3 := B1
 have hc1 : ∀ ty, (Builtin.copy_ #[28, 28] ty #[.slice (some ⟨g, 0, none⟩) 4 4, .slice (some ⟨b, 0, none⟩) 1 1]).run Tryz.prog W0 = .ok (.int .i64 1) W1 := hc1
 have L1 := b1 g w b0 (Nat.le_refl _)
 obtain ⟨W2, hc2, B2, b2⟩ := copy_e W1.drew g 1 3 3 ⟨g, 0, none⟩ 1 4 _ [.int .i64 (-1)] B1.drew (by decide) (fun j v h => by
   match j with
   | 0 => obtain rfl := Option.some.inj h; exact B1.drew.cell 0
   | j + 1 => simp at h) (by simp) (by simp [Value.oneCell'])
 have B2 : Box W2 g #[.int .i64 (-1), .int .i64 (-1), .int .i64 0, .int .i64 0] 3 := B2
 have hc2 : ∀ ty, (Builtin.copy_ #[28, 28] ty #[.slice (some ⟨g, 1, none⟩) 3 3, .slice (some ⟨g, 0, none⟩) 1 4]).run Tryz.prog W1.drew = .ok (.int .i64 1) W2 := hc2
 have L2 := b2 g w L1.drew (Nat.le_refl _)
 obtain ⟨W3, hc3, B3, b3⟩ := copy_e W2.drew g 2 2 2 ⟨g, 0, none⟩ 2 4 _ [.int .i64 (-1), .int .i64 (-1)] B2.drew (by decide) (fun j v h => by
   match j with
   | 0 => obtain rfl := Option.some.inj h; exact B2.drew.cell 0
   | 1 => obtain rfl := Option.some.inj h; exact B2.drew.cell 1
   | j + 2 => simp at h) (by simp) (by simp [Value.oneCell'])
 have B3 : Box W3 g #[.int .i64 (-1), .int .i64 (-1), .int .i64 (-1), .int .i64 (-1)] 3 := B3
 have hc3 : ∀ ty, (Builtin.copy_ #[28, 28] ty #[.slice (some ⟨g, 2, none⟩) 2 2, .slice (some ⟨g, 0, none⟩) 2 4]).run Tryz.prog W2.drew = .ok (.int .i64 2) W3 := hc3
 have L3 := b3 g w L2.drew (Nat.le_refl _)
 have HEND : Hid (Box W3 g #[.int .i64 (-1), .int .i64 (-1), .int .i64 (-1), .int .i64 (-1)] 3 ∧ Below g w W3) := ⟨B3, L3⟩
 rw [hg]
 have HG : Hid (w.heap.size = g) := hg
 have hw2 : IntKind.i64.wrap 2 = 2 := by kernel_rfl
 have hw3 : IntKind.i64.wrap 3 = 3 := by kernel_rfl
 have hw4 : IntKind.i64.wrap 4 = 4 := by kernel_rfl
 clear hg hW0 B1 L1 b1 B2 L2 b2 B3 L3 b3 B0 b0 hs0 hB
 go_enter Tryz.func98, Tryz.ntmps98
 go_wp2
 refine wp_loop_rounds 3 ?_
 rw [rounds_succ]
 go_wp2
 go_region_held3 (fun _ => True) (trivial) (fail)
 (try simp only [hw2, hw3, hw4])
 go_wp2
 rw [rounds_succ]
 go_wp2
 go_region_held3 (fun _ => True) (trivial) (fail)
 (try simp only [hw2, hw3, hw4])
 go_wp2
 rw [rounds_succ]
 go_wp2
 go_ret
 exact ⟨rfl, HEND.out⟩
def reps (n : Nat) : Array Value := Array.replicate n (.int .i64 (-1))
theorem repeat_any (n : Nat) (hn : 1 ≤ n ∧ n ≤ 4) (b : Nat) (w : World) (hB : Box w b #[.int .i64 (-1)] 3) :
   Calls Tryz.prog 98 #[.slice (some ⟨b, 0, none⟩) 1 1, .int .i64 (n : Int)] w fun e w' => e = .returned (.slice (some ⟨w.heap.size, 0, none⟩) n n) ∧ Box w' w.heap.size (reps n) 3 ∧ Below w.heap.size w w' := by
 have h : n = 1 ∨ n = 2 ∨ n = 3 ∨ n = 4 := by omega
 rcases h with rfl | rfl | rfl | rfl
 · exact repeat_1 b w hB
 · exact repeat_2 b w hB
 · exact repeat_3 b w hB
 · exact repeat_4 b w hB
end
end Go.Proofs.YtbfolanfbagofaaGreatDoor
