/- Texts joined: ImplRq, JudT, SpecTi, SpecVal, Copy3. -/
import Derived.Test.YtbfolanfbagofaaGreatDoorQA14
import Derived.Test.YtbfolanfbagofaaGreatDoorQA31
import Derived.Deep.Cut
import Derived.Deep.RegionHeld3
import Derived.Test.YtbfolanfbagofaaGreatDoorQA13
import Derived.Test.YtbfolanfbagofaaGreatDoorQA16
import Derived.Test.YtbfolanfbagofaaGreatDoorQA10
import Derived.Test.YtbfolanfbagofaaGreatDoorQA01
import Derived.Laws.CopyOwn
set_option maxHeartbeats 16000000
set_option maxRecDepth 100000
namespace Go.Proofs.YtbfolanfbagofaaGreatDoor
section
open Go.ChangeShapes Go.WideShapes Go.ChangeAt Go.RowKit
theorem isR_other {W : World} {a0 a1 : Addr} (h : ErrX W a0 a1) : Calls Tryz.prog 46 #[.iface 260 (.pointer (some a1)), .iface 260 (.pointer (some a0))] W fun e w' => e = .returned (.bool false) ∧ w' = W := by
 obtain ⟨-, -, h3, ⟨c, t, h4⟩, c', t', h5⟩ := h
 exact is_other a1 a0 c' c t' t W (Ne.symm h3) h5 h4
theorem implReplay_any (wa : Option Addr) (wc : Nat) (da : Option Addr) (dc : Nat) (ta : Option Addr) (tc : Nat) (ca : Option Addr) (cc : Nat) (oa : Option Addr) (oc : Nat) (ha : Option Addr) (hc : Nat) (M : MaD) (rs : Nat → List Int) (w : World) (h : MaAt w wa da ta ca oa ha M) (hr : CasR w ca M.nc M.f rs) (hcap : CapAt w da M.nd M.ds) (hwf : ∀ x ∈ M.hs, (Lit.int .i64 x).wf = true) (hhc : M.nh ≤ hc) (he : ErrR w) :
   Calls Tryz.prog 44 #[MaV wa wc da dc ta tc ca cc oa oc ha hc M] w fun e w' => ReplSays M rs w.heap.size e w' ∧ Below w.heap.size w w' := by
 obtain ⟨a0, a1, he⟩ := he
 have HRP : Hid (∀ W, Below w.heap.size w W → Calls Tryz.prog 45 #[MaV wa wc da dc ta tc ca cc oa oc ha hc M] W fun e w' => RplI M rs a0 a1 W.heap.size e w' ∧ Below W.heap.size W w') := fun W hb => impl_replay wa wc da dc ta tc ca cc oa oc ha hc M rs W (h.below hb (Nat.le_refl _)) (hr.below hb (Nat.le_refl _)) (hcap.below hb (Nat.le_refl _)) hwf hhc a0 a1 (he.below hb (Nat.le_refl _))
 have HEX : Hid (ErrX w a0 a1) := he
 obtain ⟨SAY, hSAY⟩ : ∃ SAY, ReplSays M rs w.heap.size = SAY := ⟨_, rfl⟩
 have HS2 : Hid (∀ e w', ReplSays M rs w.heap.size e w' → SAY e w') := fun e w' h => by rw [← hSAY]; exact h
 rw [hSAY]
 clear hSAY h hr hcap hwf hhc he
 obtain ⟨nw, ws, nd, ds, nt, ts, tm, nc, f, no, os, nh, hs, st⟩ := M
 show Calls Tryz.prog 44 #[.agg #[.slice wa nw wc, .slice da nd dc, .slice ta nt tc, .int .i64 tm, .slice ca nc cc, .slice oa no oc, .slice ha nh hc, .int .i64 st]] w fun e w' => SAY e w' ∧ Below w.heap.size w w'
 obtain ⟨sz, hsz⟩ : ∃ sz, w.heap.size = sz := ⟨_, rfl⟩
 obtain ⟨W, hW⟩ : ∃ W, (w.alloc (.cells #[.slice wa nw wc, .slice da nd dc, .slice ta nt tc, .int .i64 tm, .slice ca nc cc, .slice oa no oc, .slice ha nh hc, .int .i64 st] 43)).alloc (.cells #[.slice none 0 0, .int .i64 0] 41) = W := ⟨_, rfl⟩
 have hb0 : Below sz w W := by rw [← hW, ← hsz]; exact ((Below.refl _ w).alloc (Nat.le_refl _) _).alloc (by simp) _
 have BO : Hid (Box W (sz + 1) #[.slice none 0 0, .int .i64 0] 41) := by rw [← hW, ← hsz]; have := box_of (w.alloc (.cells #[.slice wa nw wc, .slice da nd dc, .slice ta nt tc, .int .i64 tm, .slice ca nc cc, .slice oa no oc, .slice ha nh hc, .int .i64 st] 43)) #[.slice none 0 0, .int .i64 0] 41; rwa [World.size_alloc] at this
 have HB0 : Hid (Below sz w W) := hb0
 have HW : Hid ((w.alloc (.cells #[.slice wa nw wc, .slice da nd dc, .slice ta nt tc, .int .i64 tm, .slice ca nc cc, .slice oa no oc, .slice ha nh hc, .int .i64 st] 43)).alloc (.cells #[.slice none 0 0, .int .i64 0] 41) = W) := hW
 have HSZ : Hid (w.heap.size = sz) := hsz
 have HLE : Hid (w.heap.size ≤ sz) := by show _ ≤ _; omega
 rw [hsz] at HS2 HRP
 rw [show (fun e w' => SAY e w' ∧ Below w.heap.size w w') = (fun e w' => SAY e w' ∧ Below sz w w') by rw [hsz]]
 clear hb0 hW hsz
 go_enter Tryz.func44, Tryz.ntmps44
 go_wp2_with fail
 rw [HW.out]
 (try rw [HSZ.out])
 refine (HRP.out W HB0.out).mono ?_
 rintro e w1 ⟨hsay, hb1⟩
 have BO1 : Hid (Box w1 (sz + 1) #[.slice none 0 0, .int .i64 0] 41) := BO.out.below hb1 BO.out.lt
 have HB1 : Hid (Below sz w w1) := HB0.out.trans (hb1.mono (by have := BO.out.lt; omega))
 have LW : sz + 1 < W.heap.size := BO.out.lt
 rcases hsay with ⟨hg, g, c, zs, st', ok, rfl, hrep, hso, hown⟩ | ⟨hng, rfl⟩
 · have HGD : Hid (MachGood ⟨nw, ws, nd, ds, nt, ts, tm, nc, f, no, os, nh, hs, st⟩) := hg
   have HREP : Hid (ReplM ⟨nw, ws, nd, ds, nt, ts, tm, nc, f, no, os, nh, hs, st⟩ rs no zs st') := hrep
   have HSO : Hid (ok = true ↔ SoM ⟨nw, ws, nd, ds, nt, ts, tm, nc, f, no, os, nh, hs, st⟩ rs no) := hso
   have OW : Hid (w1.ownsRow W.heap.size 3 1 (.slice (some ⟨g, 0, none⟩) 4 c) 4 (zs.map I)) := hown
   clear hg hrep hso hown hb1
   obtain ⟨ev, nk, hev, hc1, hc2, hso'⟩ : ∃ ev nk, (bif ok then Value.nilIface else .iface 260 (.pointer (some a1))) = ev ∧ (∀ W, ErrX W a0 a1 → Calls Tryz.prog 46 #[ev, .iface 260 (.pointer (some a0))] W fun e w' => e = .returned (.bool false) ∧ w' = W) ∧ (∀ W, ErrX W a0 a1 → Calls Tryz.prog 46 #[ev, .iface 260 (.pointer (some a1))] W fun e w' => e = .returned (.bool nk) ∧ w' = W) ∧ ((!nk) = true ↔ SoM ⟨nw, ws, nd, ds, nt, ts, tm, nc, f, no, os, nh, hs, st⟩ rs no) := by
     cases ok
     · exact ⟨_, true, rfl, fun W hE => isR_other hE, fun W _ => is_same a1 W, by simpa using HSO.out⟩
     · exact ⟨_, false, rfl, fun W _ => is_nil a0 W, fun W _ => is_nil a1 W, by simpa using HSO.out⟩
   have C1 : Hid (∀ W, ErrX W a0 a1 → Calls Tryz.prog 46 #[ev, .iface 260 (.pointer (some a0))] W fun e w' => e = .returned (.bool false) ∧ w' = W) := hc1
   have C2 : Hid (∀ W, ErrX W a0 a1 → Calls Tryz.prog 46 #[ev, .iface 260 (.pointer (some a1))] W fun e w' => e = .returned (.bool nk) ∧ w' = W) := hc2
   have HSO : Hid ((!nk) = true ↔ SoM ⟨nw, ws, nd, ds, nt, ts, tm, nc, f, no, os, nh, hs, st⟩ rs no) := hso'
   rw [hev]
   clear hev hc1 hc2 hso'
   obtain ⟨q, hq⟩ : ∃ q, w1.heap.size = q := ⟨_, rfl⟩
   obtain ⟨X, hX⟩ : ∃ X, w1.alloc (.cells #[.slice (some ⟨g, 0, none⟩) 4 c, .int .i64 st'] 41) = X := ⟨_, rfl⟩
   obtain ⟨D, hD⟩ : ∃ D, X.drew = D := ⟨_, rfl⟩
   have hbx : Below w1.heap.size w1 D := by rw [← hD, ← hX]; exact ((Below.refl _ w1).alloc (Nat.le_refl _) _).drew
   have BQ : Hid (Box D q #[.slice (some ⟨g, 0, none⟩) 4 c, .int .i64 st'] 41) := by rw [← hD, ← hX, ← hq]; exact (box_of w1 _ _).drew
   have BOD : Hid (Box D (sz + 1) #[.slice none 0 0, .int .i64 0] 41) := BO1.out.below hbx BO1.out.lt
   have HBD : Hid (Below sz w D) := HB1.out.trans (hbx.mono (by have := BO1.out.lt; omega))
   have LQ : sz + 1 < q := by rw [← hq]; exact BO1.out.lt
   have HED : Hid (ErrX D a0 a1) := HEX.out.below HBD.out HLE.out
   obtain ⟨y0, y1, _, _⟩ := two_of BQ.out
   have KD : Hid (D.cell? ⟨q, 0, none⟩ = some (.slice (some ⟨g, 0, none⟩) 4 c) ∧ D.cell? ⟨q, 1, none⟩ = some (.int .i64 st') ∧ D.cell? ⟨0, 0, none⟩ = some (.iface 260 (.pointer (some a0))) ∧ D.cell? ⟨1, 0, none⟩ = some (.iface 260 (.pointer (some a1)))) := ⟨y0, y1, HED.out.c0, HED.out.c1⟩
   have KX : Hid (X.drew.cell? ⟨q, 0, none⟩ = some (.slice (some ⟨g, 0, none⟩) 4 c) ∧ X.drew.cell? ⟨q, 1, none⟩ = some (.int .i64 st') ∧ X.drew.cell? ⟨0, 0, none⟩ = some (.iface 260 (.pointer (some a0))) ∧ X.drew.cell? ⟨1, 0, none⟩ = some (.iface 260 (.pointer (some a1)))) := by rw [hD]; exact KD.out
   obtain ⟨D1, hD1⟩ : ∃ D1, (D.setCell ⟨sz + 1, 0, none⟩ (.slice (some ⟨g, 0, none⟩) 4 c)).setCell ⟨sz + 1, 1, none⟩ (.int .i64 st') = D1 := ⟨_, rfl⟩
   have HBD1 : Hid (Below sz w D1) := by rw [← hD1]; exact (HBD.out.setCell (show sz ≤ sz + 1 by omega) _).setCell (show sz ≤ sz + 1 by omega) _
   have BQ1 : Hid (Box D1 q #[.slice (some ⟨g, 0, none⟩) 4 c, .int .i64 st'] 41) := by rw [← hD1]; exact (BQ.out.set (show q ≠ sz + 1 by omega) _).set (show q ≠ sz + 1 by omega) _
   have BO3 : Hid (Box D1 (sz + 1) #[.slice (some ⟨g, 0, none⟩) 4 c, .int .i64 st'] 41) := by rw [← hD1]; exact (BOD.out.put 0 (.slice (some ⟨g, 0, none⟩) 4 c)).put 1 (.int .i64 st')
   have HE1 : Hid (ErrX D1 a0 a1) := HEX.out.below HBD1.out HLE.out
   have hneD : (Value.slice (some ⟨g, 0, none⟩) 4 c).ownBlock ≠ some (sz + 1) := fun h => by
     have h2 : g = sz + 1 := Option.some.inj h
     have h3 := own_base OW.out
     omega
   have OWD : Hid (D1.ownsRow sz 3 1 (.slice (some ⟨g, 0, none⟩) 4 c) 4 (zs.map I)) := by
     rw [← hD1]
     exact own_weaken (own_setCell_far (own_setCell_far (owns_below OW.out hbx (Nat.le_refl _)) hneD _) hneD _) (by omega)
   have KE : Hid (D1.cell? ⟨q, 0, none⟩ = some (.slice (some ⟨g, 0, none⟩) 4 c) ∧ D1.cell? ⟨q, 1, none⟩ = some (.int .i64 st') ∧ D1.cell? ⟨0, 0, none⟩ = some (.iface 260 (.pointer (some a0))) ∧ D1.cell? ⟨1, 0, none⟩ = some (.iface 260 (.pointer (some a1)))) := ⟨(two_of BQ1.out).1, (two_of BQ1.out).2.1, HE1.out.c0, HE1.out.c1⟩
   have HD : Hid (X.drew = D) := hD
   have HX : Hid (w1.alloc (.cells #[.slice (some ⟨g, 0, none⟩) 4 c, .int .i64 st'] 41) = X) := hX
   have HQ : Hid (w1.heap.size = q) := hq
   have HD1 : Hid ((D.setCell ⟨sz + 1, 0, none⟩ (.slice (some ⟨g, 0, none⟩) 4 c)).setCell ⟨sz + 1, 1, none⟩ (.int .i64 st') = D1) := hD1
   obtain ⟨d0, d1, _, _⟩ := two_of BO3.out
   obtain ⟨c0, c1, f0, f1⟩ := two_of BOD.out
   have LD : sz + 1 < D.heap.size := BOD.out.lt
   clear hX hD hq hD1 hbx y0 y1
   go_upto_region 2 with (fail)
   rw [HX.out]
   (try rw [HQ.out])
   refine wp_region_held_drew (S := fun w' => w'.cell? ⟨q, 0, none⟩ = some (.slice (some ⟨g, 0, none⟩) 4 c) ∧ w'.cell? ⟨q, 1, none⟩ = some (.int .i64 st') ∧ w'.cell? ⟨0, 0, none⟩ = some (.iface 260 (.pointer (some a0))) ∧ w'.cell? ⟨1, 0, none⟩ = some (.iface 260 (.pointer (some a1)))) (by kernel_rfl) KX.out (fun hHeld => ?_)
   rw [HD.out] at hHeld ⊢
   refine takeA 0 (.agg #[.slice (some ⟨g, 0, none⟩) 4 c, .int .i64 st']) hHeld ?_
   simp only [Act.put, List.setIfInBounds_toArray, List.set_cons_zero, List.set_cons_succ]
   refine takeA 1 ev hHeld ?_
   simp only [Act.put, List.setIfInBounds_toArray, List.set_cons_zero, List.set_cons_succ]
   refine takeA 2 (.iface 260 (.pointer (some a0))) hHeld ?_
   simp only [Act.put, List.setIfInBounds_toArray, List.set_cons_zero, List.set_cons_succ]
   refine wpAnyH_ready (rs := [3]) (by kernel_rfl) (by simp) ?_
   refine AllReadyH.cons (o := _) (by rw [List.getElem?_toArray]; exact rfl) (fun K hK => ?_) AllReadyH.nil
   rw [if_pos (by kernel_rfl)]
   go_simp
   refine (C1.out _ HED.out).mono ?_
   rintro e w9 ⟨rfl, hw9⟩
   rw [hw9]
   refine hK.out _ _ ?_ (fun hHeld => ?_)
   · exact KD.out
   clear hK K
   refine takeA 4 (.bool true) hHeld ?_
   simp only [Act.put, List.setIfInBounds_toArray, List.set_cons_zero, List.set_cons_succ]
   refine takeA 5 (.bool true) hHeld ?_
   simp only [Act.put, List.setIfInBounds_toArray, List.set_cons_zero, List.set_cons_succ]
   refine takeA 6 ev hHeld ?_
   simp only [Act.put, List.setIfInBounds_toArray, List.set_cons_zero, List.set_cons_succ]
   refine takeA 7 (.iface 260 (.pointer (some a1))) hHeld ?_
   simp only [Act.put, List.setIfInBounds_toArray, List.set_cons_zero, List.set_cons_succ]
   refine wpAnyH_ready (rs := [8]) (by kernel_rfl) (by simp) ?_
   refine AllReadyH.cons (o := _) (by rw [List.getElem?_toArray]; exact rfl) (fun K hK => ?_) AllReadyH.nil
   rw [if_pos (by kernel_rfl)]
   go_simp
   refine (C2.out _ HED.out).mono ?_
   rintro e w9 ⟨rfl, hw9⟩
   rw [hw9]
   refine hK.out _ _ ?_ (fun hHeld => ?_)
   · exact KD.out
   clear hK K
   refine takeA 9 (.bool (!nk)) hHeld ?_
   simp only [Act.put, List.setIfInBounds_toArray, List.set_cons_zero, List.set_cons_succ]
   refine takeA 10 (.bool (!nk)) hHeld ?_
   simp only [Act.put, List.setIfInBounds_toArray, List.set_cons_zero, List.set_cons_succ]
   refine wpAnyH_ready (rs := [11]) (by kernel_rfl) (by simp) ?_
   refine AllReadyH.cons (o := _) (by rw [List.getElem?_toArray]; exact rfl) (fun K hK => ?_) AllReadyH.nil
   rw [if_pos (by kernel_rfl)]
   go_simp
   refine hK.out _ _ ?_ (fun hHeld => ?_)
   · rw [HD1.out]; exact KE.out
   clear hK K
   refine takeA 12 (.bool (!nk)) hHeld ?_
   simp only [Act.put, List.setIfInBounds_toArray, List.set_cons_zero, List.set_cons_succ]
   refine wpAnyH_done (by kernel_rfl) ?_ _
   rw [HD1.out]
   go_wp2
   (try simp only [Exit.inBlock, Exit.then])
   refine bodyPost_ret (by simp [results, Tryz.results44, go_sem, d0, d1]; try rfl) rfl ?_
   exact ⟨HS2.out _ _ (.inl ⟨HGD.out, g, c, zs, st', (!nk), rfl, HREP.out, HSO.out, OWD.out⟩), HBD1.out⟩
 · have HNG : Hid (¬ MachGood ⟨nw, ws, nd, ds, nt, ts, tm, nc, f, no, os, nh, hs, st⟩) := hng
   clear hng hb1
   obtain ⟨q, hq⟩ : ∃ q, w1.heap.size = q := ⟨_, rfl⟩
   obtain ⟨X, hX⟩ : ∃ X, w1.alloc (.cells #[.slice none 0 0, .int .i64 0] 41) = X := ⟨_, rfl⟩
   obtain ⟨D, hD⟩ : ∃ D, X.drew = D := ⟨_, rfl⟩
   have hbx : Below w1.heap.size w1 D := by rw [← hD, ← hX]; exact ((Below.refl _ w1).alloc (Nat.le_refl _) _).drew
   have BQ : Hid (Box D q #[.slice none 0 0, .int .i64 0] 41) := by rw [← hD, ← hX, ← hq]; exact (box_of w1 _ _).drew
   have BOD : Hid (Box D (sz + 1) #[.slice none 0 0, .int .i64 0] 41) := BO1.out.below hbx BO1.out.lt
   have HBD : Hid (Below sz w D) := HB1.out.trans (hbx.mono (by have := BO1.out.lt; omega))
   have LQ : sz + 1 < q := by rw [← hq]; exact BO1.out.lt
   have HED : Hid (ErrX D a0 a1) := HEX.out.below HBD.out HLE.out
   obtain ⟨y0, y1, _, _⟩ := two_of BQ.out
   have KD : Hid (D.cell? ⟨q, 0, none⟩ = some (.slice none 0 0) ∧ D.cell? ⟨q, 1, none⟩ = some (.int .i64 0) ∧ D.cell? ⟨0, 0, none⟩ = some (.iface 260 (.pointer (some a0))) ∧ D.cell? ⟨1, 0, none⟩ = some (.iface 260 (.pointer (some a1)))) := ⟨y0, y1, HED.out.c0, HED.out.c1⟩
   have KX : Hid (X.drew.cell? ⟨q, 0, none⟩ = some (.slice none 0 0) ∧ X.drew.cell? ⟨q, 1, none⟩ = some (.int .i64 0) ∧ X.drew.cell? ⟨0, 0, none⟩ = some (.iface 260 (.pointer (some a0))) ∧ X.drew.cell? ⟨1, 0, none⟩ = some (.iface 260 (.pointer (some a1)))) := by rw [hD]; exact KD.out
   obtain ⟨D1, hD1⟩ : ∃ D1, (D.setCell ⟨sz + 1, 0, none⟩ (.slice none 0 0)).setCell ⟨sz + 1, 1, none⟩ (.int .i64 0) = D1 := ⟨_, rfl⟩
   have HBD1 : Hid (Below sz w D1) := by rw [← hD1]; exact (HBD.out.setCell (show sz ≤ sz + 1 by omega) _).setCell (show sz ≤ sz + 1 by omega) _
   have BQ1 : Hid (Box D1 q #[.slice none 0 0, .int .i64 0] 41) := by rw [← hD1]; exact (BQ.out.set (show q ≠ sz + 1 by omega) _).set (show q ≠ sz + 1 by omega) _
   have BO3 : Hid (Box D1 (sz + 1) #[.slice none 0 0, .int .i64 0] 41) := by rw [← hD1]; exact (BOD.out.put 0 (.slice none 0 0)).put 1 (.int .i64 0)
   have HE1 : Hid (ErrX D1 a0 a1) := HEX.out.below HBD1.out HLE.out
   have KE : Hid (D1.cell? ⟨q, 0, none⟩ = some (.slice none 0 0) ∧ D1.cell? ⟨q, 1, none⟩ = some (.int .i64 0) ∧ D1.cell? ⟨0, 0, none⟩ = some (.iface 260 (.pointer (some a0))) ∧ D1.cell? ⟨1, 0, none⟩ = some (.iface 260 (.pointer (some a1)))) := ⟨(two_of BQ1.out).1, (two_of BQ1.out).2.1, HE1.out.c0, HE1.out.c1⟩
   have HD : Hid (X.drew = D) := hD
   have HX : Hid (w1.alloc (.cells #[.slice none 0 0, .int .i64 0] 41) = X) := hX
   have HQ : Hid (w1.heap.size = q) := hq
   have HD1 : Hid ((D.setCell ⟨sz + 1, 0, none⟩ (.slice none 0 0)).setCell ⟨sz + 1, 1, none⟩ (.int .i64 0) = D1) := hD1
   obtain ⟨d0, d1, _, _⟩ := two_of BO3.out
   obtain ⟨c0, c1, f0, f1⟩ := two_of BOD.out
   have LD : sz + 1 < D.heap.size := BOD.out.lt
   clear hX hD hq hD1 hbx y0 y1
   go_upto_region 2 with (fail)
   rw [HX.out]
   (try rw [HQ.out])
   refine wp_region_held_drew (S := fun w' => w'.cell? ⟨q, 0, none⟩ = some (.slice none 0 0) ∧ w'.cell? ⟨q, 1, none⟩ = some (.int .i64 0) ∧ w'.cell? ⟨0, 0, none⟩ = some (.iface 260 (.pointer (some a0))) ∧ w'.cell? ⟨1, 0, none⟩ = some (.iface 260 (.pointer (some a1)))) (by kernel_rfl) KX.out (fun hHeld => ?_)
   rw [HD.out] at hHeld ⊢
   refine takeA 0 (.agg #[.slice none 0 0, .int .i64 0]) hHeld ?_
   simp only [Act.put, List.setIfInBounds_toArray, List.set_cons_zero, List.set_cons_succ]
   refine takeA 1 (.iface 260 (.pointer (some a0))) hHeld ?_
   simp only [Act.put, List.setIfInBounds_toArray, List.set_cons_zero, List.set_cons_succ]
   refine takeA 2 (.iface 260 (.pointer (some a0))) hHeld ?_
   simp only [Act.put, List.setIfInBounds_toArray, List.set_cons_zero, List.set_cons_succ]
   refine wpAnyH_ready (rs := [3]) (by kernel_rfl) (by simp) ?_
   refine AllReadyH.cons (o := _) (by rw [List.getElem?_toArray]; exact rfl) (fun K hK => ?_) AllReadyH.nil
   rw [if_pos (by kernel_rfl)]
   go_simp
   refine (is_same a0 _).mono ?_
   rintro e w9 ⟨rfl, hw9⟩
   rw [hw9]
   refine hK.out _ _ ?_ (fun hHeld => ?_)
   · exact KD.out
   clear hK K
   refine takeA 4 (.bool false) hHeld ?_
   simp only [Act.put, List.setIfInBounds_toArray, List.set_cons_zero, List.set_cons_succ]
   refine takeA 5 (.bool false) hHeld ?_
   simp only [Act.put, List.setIfInBounds_toArray, List.set_cons_zero, List.set_cons_succ]
   refine skipH 6 hHeld ?_
   simp only [Act.put, List.setIfInBounds_toArray, List.set_cons_zero, List.set_cons_succ]
   refine skipH 7 hHeld ?_
   simp only [Act.put, List.setIfInBounds_toArray, List.set_cons_zero, List.set_cons_succ]
   refine skipH 8 hHeld ?_
   simp only [Act.put, List.setIfInBounds_toArray, List.set_cons_zero, List.set_cons_succ]
   refine skipH 9 hHeld ?_
   simp only [Act.put, List.setIfInBounds_toArray, List.set_cons_zero, List.set_cons_succ]
   refine takeA 10 (.bool false) hHeld ?_
   simp only [Act.put, List.setIfInBounds_toArray, List.set_cons_zero, List.set_cons_succ]
   refine wpAnyH_ready (rs := [11]) (by kernel_rfl) (by simp) ?_
   refine AllReadyH.cons (o := _) (by rw [List.getElem?_toArray]; exact rfl) (fun K hK => ?_) AllReadyH.nil
   rw [if_pos (by kernel_rfl)]
   go_simp
   refine hK.out _ _ ?_ (fun hHeld => ?_)
   · rw [HD1.out]; exact KE.out
   clear hK K
   refine takeA 12 (.bool false) hHeld ?_
   simp only [Act.put, List.setIfInBounds_toArray, List.set_cons_zero, List.set_cons_succ]
   refine wpAnyH_done (by kernel_rfl) ?_ _
   rw [HD1.out]
   go_wp2
   (try simp only [Exit.inBlock, Exit.then])
   refine bodyPost_ret (by simp [results, Tryz.results44, go_sem, d0, d1]; try rfl) rfl ?_
   exact ⟨HS2.out _ _ (.inr ⟨HNG.out, rfl⟩), HBD1.out⟩
theorem implJudgeSo_any (wa : Option Addr) (wc : Nat) (da : Option Addr) (dc : Nat) (ta : Option Addr) (tc : Nat) (ca : Option Addr) (cc : Nat) (oa : Option Addr) (oc : Nat) (ha : Option Addr) (hc : Nat) (M : MaD) (rs : Nat → List Int) (w : World) (h : MaAt w wa da ta ca oa ha M) (hr : CasR w ca M.nc M.f rs) (hcap : CapAt w da M.nd M.ds) (hwf : ∀ x ∈ M.hs, (Lit.int .i64 x).wf = true) (hhc : M.nh ≤ hc) (he : ErrR w) :
   Calls Tryz.prog 22 #[MaV wa wc da dc ta tc ca cc oa oc ha hc M] w fun e w' => ∃ ok, (e = .returned (.bool ok) ∧ (ok = true ↔ JSo M rs)) ∧ Below w.heap.size w w' := by
 have HRP : Hid (∀ W, Below w.heap.size w W → Calls Tryz.prog 44 #[MaV wa wc da dc ta tc ca cc oa oc ha hc M] W fun e w' => ReplSays M rs W.heap.size e w' ∧ Below W.heap.size W w') := fun W hb => implReplay_any wa wc da dc ta tc ca cc oa oc ha hc M rs W (h.below hb (Nat.le_refl _)) (hr.below hb (Nat.le_refl _)) (hcap.below hb (Nat.le_refl _)) hwf hhc (he.below hb (Nat.le_refl _))
 obtain ⟨G, hG⟩ : ∃ G : Prop, JSo M rs = G := ⟨_, rfl⟩
 have HG : Hid (G ↔ JSo M rs) := by show _ ↔ _; rw [hG]
 rw [hG]
 clear hG h hr hcap hwf hhc he
 obtain ⟨nw, ws, nd, ds, nt, ts, tm, nc, f, no, os, nh, hs, st⟩ := M
 show Calls Tryz.prog 22 #[.agg #[.slice wa nw wc, .slice da nd dc, .slice ta nt tc, .int .i64 tm, .slice ca nc cc, .slice oa no oc, .slice ha nh hc, .int .i64 st]] w fun e w' => ∃ ok, (e = .returned (.bool ok) ∧ (ok = true ↔ G)) ∧ Below w.heap.size w w'
 obtain ⟨W, hW⟩ : ∃ W, w.alloc (.cells #[.slice wa nw wc, .slice da nd dc, .slice ta nt tc, .int .i64 tm, .slice ca nc cc, .slice oa no oc, .slice ha nh hc, .int .i64 st] 43) = W := ⟨_, rfl⟩
 have HB0 : Hid (Below w.heap.size w W) := by show Below _ _ _; rw [← hW]; exact (Below.refl _ w).alloc (Nat.le_refl _) _
 have HW : Hid (w.alloc (.cells #[.slice wa nw wc, .slice da nd dc, .slice ta nt tc, .int .i64 tm, .slice ca nc cc, .slice oa no oc, .slice ha nh hc, .int .i64 st] 43) = W) := hW
 clear hW
 go_enter Tryz.func22, Tryz.ntmps22
 go_wp2_with fail
 rw [HW.out]
 refine (HRP.out W HB0.out).mono ?_
 rintro e w1 ⟨hsay, hb1⟩
 have HB1 : Hid (Below w.heap.size w w1) := HB0.out.trans (hb1.mono HB0.out.size)
 clear hb1
 rcases hsay with ⟨hg, g, c, zs, st', ok, rfl, hrep, hso, hown⟩ | ⟨hng, rfl⟩
 · have HOK : Hid (ok = true ↔ G) := by
     show _ ↔ _
     rw [HG.out, hso]
     exact ⟨fun h => ⟨hg, h⟩, fun h => h.2⟩
   clear hg hrep hso hown
   go_wp2
   go_ret
   rcases ok with _ | _
   · have HN : Hid (¬ G) := fun h => by have := HOK.out.2 h; cases this
     first | exact ⟨false, ⟨rfl, HOK.out⟩, HB1.out.alloc HB1.out.size _⟩ | exact ⟨HN.out, HB1.out.alloc HB1.out.size _⟩ | exact ⟨.inl ⟨rfl, HN.out⟩, HB1.out.alloc HB1.out.size _⟩
   · have HY : Hid G := HOK.out.1 rfl
     first | exact ⟨true, ⟨rfl, HOK.out⟩, HB1.out.alloc HB1.out.size _⟩ | exact ⟨HY.out, HB1.out.alloc HB1.out.size _⟩ | exact ⟨.inr ⟨rfl, HY.out⟩, HB1.out.alloc HB1.out.size _⟩
 · have HN : Hid (¬ G) := fun h => hng (HG.out.1 h).1
   clear hng
   go_wp2
   go_ret
   first | exact ⟨false, ⟨rfl, by simp [HN.out]⟩, HB1.out.alloc HB1.out.size _⟩ | exact ⟨HN.out, HB1.out.alloc HB1.out.size _⟩ | exact ⟨.inl ⟨rfl, HN.out⟩, HB1.out.alloc HB1.out.size _⟩
end
section
open Go.ChangeShapes Go.WideShapes Go.ChangeAt Go.RowKit Go.Joins
def TimeAt (M : MaD) (i : Nat) : Prop := (0 ≤ (M.f i).en → inB (M.f i).ln (M.f i).st (M.f i).en = true) ∧ ∀ k, k < i → (M.f k).t = (M.f i).t → 0 ≤ (M.f k).en ∧ (M.f k).en < (M.f i).st
def JTimes (M : MaD) : Prop := MachGood M ∧ ∀ i, i < M.nc → TimeAt M i
end
section
open Go.ChangeShapes Go.WideShapes Go.ChangeAt Go.RowKit
def AheadAll (f : Nat → CaD) (x0 x4 : Int) (j : Nat) : Prop := ∀ l, l < j → (f l).t = x0 → 0 ≤ (f l).en ∧ (f l).en < x4
theorem AheadAll.next {f : Nat → CaD} {x0 x4 : Int} {j : Nat} (h : AheadAll f x0 x4 j) (h1 : (f j).t = x0 → 0 ≤ (f j).en ∧ (f j).en < x4) : AheadAll f x0 x4 (j + 1) := fun l hl => by
 by_cases e : l = j
 · rw [e]; exact h1
 · exact h l (by omega)
theorem specJudgeTimes_any (wa : Option Addr) (wc : Nat) (da : Option Addr) (dc : Nat) (ta : Option Addr) (tc : Nat) (ca : Option Addr) (cc : Nat) (oa : Option Addr) (oc : Nat) (ha : Option Addr) (hc : Nat) (M : MaD) (w : World) (h : MaAt w wa da ta ca oa ha M) :
   Calls Tryz.prog 16 #[MaV wa wc da dc ta tc ca cc oa oc ha hc M] w fun e w' => ∃ ok, (e = .returned (.bool ok) ∧ (ok = true ↔ JTimes M)) ∧ Below w.heap.size w w' := by
 obtain ⟨G, hG⟩ : ∃ G : Prop, JTimes M = G := ⟨_, rfl⟩
 rw [hG]
 have HM : Hid (MaAt w wa da ta ca oa ha M) := h
 have HG : Hid (G ↔ JTimes M) := by show _ ↔ _; rw [hG]
 obtain ⟨MO, hMO⟩ : ∃ MO : Prop, MachGood M = MO := ⟨_, rfl⟩
 have HMO : Hid (MachGood M = MO) := hMO
 obtain ⟨TA, hTA⟩ : ∃ TA : Nat → Prop, TimeAt M = TA := ⟨_, rfl⟩
 have HTA : Hid (∀ i, TA i ↔ ((0 ≤ (M.f i).en → inB (M.f i).ln (M.f i).st (M.f i).en = true) ∧ AheadAll M.f (M.f i).t (M.f i).st i)) := fun i => by rw [← hTA]; exact Iff.rfl
 have HG : Hid (G ↔ (MO ∧ ∀ i, i < M.nc → TA i)) := by
   show _ ↔ _
   rw [HG.out, ← HMO.out, ← hTA]
   exact Iff.rfl
 obtain ⟨nw, ws, nd, ds, nt, ts, tm, nc, f, no, os, nh, hs, st⟩ := M
 have H3 : Hid (CasAt w ca nc f) := h.calls
 have hnc := h.calls.1
 dsimp only at hnc HTA HG
 show Calls Tryz.prog 16 #[.agg #[.slice wa nw wc, .slice da nd dc, .slice ta nt tc, .int .i64 tm, .slice ca nc cc, .slice oa no oc, .slice ha nh hc, .int .i64 st]] w fun e w' => ∃ ok, (e = .returned (.bool ok) ∧ (ok = true ↔ G)) ∧ Below w.heap.size w w'
 obtain ⟨W, hW⟩ : ∃ W, w.alloc (.cells #[.slice wa nw wc, .slice da nd dc, .slice ta nt tc, .int .i64 tm, .slice ca nc cc, .slice oa no oc, .slice ha nh hc, .int .i64 st] 43) = W := ⟨_, rfl⟩
 have hb0 : Below w.heap.size w W := by rw [← hW]; exact (Below.refl _ w).alloc (Nat.le_refl _) _
 have BX : Hid (Box W w.heap.size #[.slice wa nw wc, .slice da nd dc, .slice ta nt tc, .int .i64 tm, .slice ca nc cc, .slice oa no oc, .slice ha nh hc, .int .i64 st] 43) := by rw [← hW]; exact box_of w _ _
 have HB0 : Hid (Below w.heap.size w W) := hb0
 have HW : Hid (w.alloc (.cells #[.slice wa nw wc, .slice da nd dc, .slice ta nt tc, .int .i64 tm, .slice ca nc cc, .slice oa no oc, .slice ha nh hc, .int .i64 st] 43) = W) := hW
 clear h hb0 hW hG hMO hTA
 go_enter Tryz.func16, Tryz.ntmps16
 go_wp2_with fail
 rw [HW.out]
 refine (specMachineOk_any wa wc da dc ta tc ca cc oa oc ha hc ⟨nw, ws, nd, ds, nt, ts, tm, nc, f, no, os, nh, hs, st⟩ W (HM.out.below HB0.out (Nat.le_refl _))).mono ?_
 rintro e w1 ⟨r, ⟨rfl, hr⟩, hb1⟩
 have HR : Hid (r = true ↔ MO) := by show _ ↔ _; rw [← HMO.out]; exact hr
 have BX1 : Hid (Box w1 w.heap.size #[.slice wa nw wc, .slice da nd dc, .slice ta nt tc, .int .i64 tm, .slice ca nc cc, .slice oa no oc, .slice ha nh hc, .int .i64 st] 43) := BX.out.below hb1 BX.out.lt
 have HB1 : Hid (Below w.heap.size w w1) := HB0.out.trans (hb1.mono HB0.out.size)
 obtain ⟨z0, z1, z2, z3, z4, z5, z6, z7⟩ := eight_of BX1.out
 clear hr hb1
 rcases r with _ | _
 · have HNO : Hid (¬ G) := fun hg => by have := HR.out.2 (HG.out.1 hg).1; cases this
   go_wp2
   go_ret
   exact ⟨false, ⟨rfl, by simp [HNO.out]⟩, HB1.out⟩
 have HOK : Hid MO := HR.out.1 (by first | rfl | trivial)
 go_wp2
 go_loopw [3] (fun i wr => ∃ k : Nat, k ≤ nc ∧ i = .int .i64 (k : Int) ∧ (∀ j, j < k → TA j) ∧ Below w1.heap.size w1 wr) (fun i _ => nc - (intOf i).toNat)
 case atStart => exact ⟨0, Nat.zero_le _, rfl, (fun j h => by omega), Below.refl _ _⟩
 case round =>
   clear z0 z1 z2 z3 z4 z5 z6 z7
   obtain ⟨k, hk, rfl, hall, hb⟩ := hrel
   have HALL : Hid (∀ j, j < k → TA j) := hall
   have HB : Hid (Below w1.heap.size w1 wr) := hb
   have HBW : Hid (Below w.heap.size w wr) := HB1.out.trans (hb.mono HB1.out.size)
   have BR : Hid (Box wr w.heap.size #[.slice wa nw wc, .slice da nd dc, .slice ta nt tc, .int .i64 tm, .slice ca nc cc, .slice oa no oc, .slice ha nh hc, .int .i64 st] 43) := BX1.out.below hb BX1.out.lt
   have L1 : w.heap.size < wr.heap.size := BR.out.lt
   clear hall hb
   by_cases hlt : k < nc
   case neg =>
     obtain rfl : nc = k := by omega
     have HYES : Hid G := HG.out.2 ⟨HOK.out, HALL.out⟩
     obtain ⟨z0, z1, z2, z3, z4, z5, z6, z7⟩ := eight_of BR.out
     go_wp2
     go_ret
     exact ⟨true, ⟨rfl, by simp [HYES.out]⟩, HBW.out⟩
   have hk0 : (0 : Int) ≤ (k : Int) := by omega
   have hk1 : (k : Int) < (nc : Int) := by omega
   rcases (H3.out.below HBW.out (Nat.le_refl _)).2 with h0 | ⟨p1, o1, rfl, g1⟩
   · omega
   obtain ⟨ra, rn, rc, e0, e1, e2, e3, e4, e5, e6, e7, e8⟩ := g1 k hlt
   have HTK := HTA.out k
   obtain ⟨C, hC⟩ : ∃ C, f k = C := ⟨_, rfl⟩
   rw [hC] at e0 e1 e2 e3 e4 e5 e6 e7 HTK
   obtain ⟨x0, x1, x2, x3, x4, x5, x6, x7⟩ := C
   dsimp only at e0 e1 e2 e3 e4 e5 e6 e7 HTK
   have HTK : Hid (TA k ↔ ((0 ≤ x6 → inB x5 x4 x6 = true) ∧ AheadAll f x0 x4 k)) := HTK
   obtain ⟨X, hX⟩ : ∃ X, wr.alloc (.cells #[.int .i64 x0, .int .i64 x1, .int .i64 x2, .int .i64 x3, .int .i64 x4, .int .i64 x5, .int .i64 x6, .int .i64 x7, .slice ra rn rc] 84) = X := ⟨_, rfl⟩
   have hbx : Below wr.heap.size wr X := by rw [← hX]; exact (Below.refl _ wr).alloc (Nat.le_refl _) _
   have BXX : Hid (Box X wr.heap.size #[.int .i64 x0, .int .i64 x1, .int .i64 x2, .int .i64 x3, .int .i64 x4, .int .i64 x5, .int .i64 x6, .int .i64 x7, .slice ra rn rc] 84) := by rw [← hX]; exact box_of wr _ _
   have BMX : Hid (Box X w.heap.size #[.slice wa nw wc, .slice da nd dc, .slice ta nt tc, .int .i64 tm, .slice (some ⟨p1, o1, none⟩) nc cc, .slice oa no oc, .slice ha nh hc, .int .i64 st] 43) := BR.out.below hbx L1
   have HBX : Hid (Below w1.heap.size w1 X) := HB.out.trans (hbx.mono HB.out.size)
   have HBWX : Hid (Below w.heap.size w X) := HBW.out.trans (hbx.mono HBW.out.size)
   have HX : Hid (wr.alloc (.cells #[.int .i64 x0, .int .i64 x1, .int .i64 x2, .int .i64 x3, .int .i64 x4, .int .i64 x5, .int .i64 x6, .int .i64 x7, .slice ra rn rc] 84) = X) := hX
   have L2 : wr.heap.size < X.heap.size := BXX.out.lt
   have L3 : w.heap.size < X.heap.size := BMX.out.lt
   obtain ⟨q, hq⟩ : ∃ q, wr.heap.size = q := ⟨_, rfl⟩
   have HQ : Hid (wr.heap.size = q) := hq
   obtain ⟨z0, z1, z2, z3, z4, z5, z6, z7⟩ := eight_of BR.out
   clear g1 hC hX hbx
   go_upto_region 7 with (fail)
   rw [HX.out]
   rw [HQ.out] at BXX L2
   (try rw [HQ.out])
   clear z0 z1 z2 z3 z4 z5 z6 z7 e0 e1 e2 e3 e4 e5 e6 e7 e8 hq HX HQ L1
   obtain ⟨u0, u1, u2, u3, u4, u5, u6, u7, u8⟩ := nine_of BXX.out
   by_cases hx6 : 0 ≤ x6
   · have hx6' : decide (0 ≤ x6) = true := decide_eq_true hx6
     go_wp2_with fail
     refine (l1In_g x5 x4 x6 _).mono ?_
     rintro e w3 ⟨rfl, hw3⟩
     obtain rfl : X = w3 := hw3.symm
     obtain ⟨R, hR⟩ : ∃ R, inB x5 x4 x6 = R := ⟨_, rfl⟩
     have HR2 : Hid (inB x5 x4 x6 = R) := hR
     rw [hR]
     clear hR
     rcases R with _ | _
     · have HNO : Hid (¬ G) := fun hg => by
         have h1 := (HTK.out.1 ((HG.out.1 hg).2 k hlt)).1 hx6
         rw [HR2.out] at h1
         cases h1
       clear hx6
       go_wp2
       go_ret
       exact ⟨false, ⟨rfl, by simp [HNO.out]⟩, HBWX.out⟩
     clear hx6 hx6'
     go_wp2
     clear u0 u1 u2 u3 u4 u5 u6 u7 u8
     go_loopw [5] (fun i wr => ∃ j : Nat, j ≤ k ∧ i = .int .i64 (j : Int) ∧ AheadAll f x0 x4 j ∧ Below X.heap.size X wr) (fun i _ => k - (intOf i).toNat)
     case atStart => exact ⟨0, Nat.zero_le _, rfl, (fun l h => by omega), Below.refl _ _⟩
     case round =>
       obtain ⟨j, hj, rfl, hah, hb⟩ := hrel
       have HAH : Hid (AheadAll f x0 x4 j) := hah
       have HBJ : Hid (Below X.heap.size X wr) := hb
       have HB5 : Hid (Below w1.heap.size w1 wr) := HBX.out.trans (hb.mono HBX.out.size)
       have HB6 : Hid (Below w.heap.size w wr) := HBWX.out.trans (hb.mono HBWX.out.size)
       have BM5 : Hid (Box wr w.heap.size #[.slice wa nw wc, .slice da nd dc, .slice ta nt tc, .int .i64 tm, .slice (some ⟨p1, o1, none⟩) nc cc, .slice oa no oc, .slice ha nh hc, .int .i64 st] 43) := BMX.out.below hb L3
       have BX5 : Hid (Box wr q #[.int .i64 x0, .int .i64 x1, .int .i64 x2, .int .i64 x3, .int .i64 x4, .int .i64 x5, .int .i64 x6, .int .i64 x7, .slice ra rn rc] 84) := BXX.out.below hb L2
       have L5 : w.heap.size < wr.heap.size := BM5.out.lt
       have L6 : q < wr.heap.size := BX5.out.lt
       clear hah hb
       by_cases hlj : j < k
       case neg =>
         obtain rfl : k = j := by omega
         have HT : Hid (TA k) := HTK.out.2 ⟨(fun _ => HR2.out), HAH.out⟩
         go_wp2
         exact ⟨⟨k + 1, by omega, by go_num, all_next HALL.out HT.out, HB5.out⟩, by simp [intOf]; omega⟩
       have hj0 : (0 : Int) ≤ (j : Int) := by omega
       have hj1 : (j : Int) < (k : Int) := by omega
       have hj2 : (j : Int) < (nc : Int) := by omega
       rcases (H3.out.below HB6.out (Nat.le_refl _)).2 with h0 | ⟨p2, o2, hpe, g2⟩
       · omega
       cases hpe
       obtain ⟨sa, sn, sc, d0, d1, d2, d3, d4, d5, d6, d7, d8⟩ := g2 j (by omega)
       have HNX : Hid (((f j).t = x0 → 0 ≤ (f j).en ∧ (f j).en < x4) → AheadAll f x0 x4 (j + 1)) := fun h1 => HAH.out.next h1
       have HNA : Hid (AheadAll f x0 x4 k → (f j).t = x0 → 0 ≤ (f j).en ∧ (f j).en < x4) := fun h => h j hlj
       obtain ⟨C, hC⟩ : ∃ C, f j = C := ⟨_, rfl⟩
       rw [hC] at d0 d1 d2 d3 d4 d5 d6 d7 HNX HNA
       obtain ⟨y0, y1, y2, y3, y4, y5, y6, y7⟩ := C
       dsimp only at d0 d1 d2 d3 d4 d5 d6 d7 HNX HNA
       obtain ⟨Y, hY⟩ : ∃ Y, wr.alloc (.cells #[.int .i64 y0, .int .i64 y1, .int .i64 y2, .int .i64 y3, .int .i64 y4, .int .i64 y5, .int .i64 y6, .int .i64 y7, .slice sa sn sc] 84) = Y := ⟨_, rfl⟩
       have hby : Below wr.heap.size wr Y := by rw [← hY]; exact (Below.refl _ wr).alloc (Nat.le_refl _) _
       have BYY : Hid (Box Y wr.heap.size #[.int .i64 y0, .int .i64 y1, .int .i64 y2, .int .i64 y3, .int .i64 y4, .int .i64 y5, .int .i64 y6, .int .i64 y7, .slice sa sn sc] 84) := by rw [← hY]; exact box_of wr _ _
       have BXY : Hid (Box Y q #[.int .i64 x0, .int .i64 x1, .int .i64 x2, .int .i64 x3, .int .i64 x4, .int .i64 x5, .int .i64 x6, .int .i64 x7, .slice ra rn rc] 84) := BX5.out.below hby L6
       have HBJY : Hid (Below X.heap.size X Y) := HBJ.out.trans (hby.mono HBJ.out.size)
       have HBY : Hid (Below w.heap.size w Y) := HB6.out.trans (hby.mono HB6.out.size)
       have HY : Hid (wr.alloc (.cells #[.int .i64 y0, .int .i64 y1, .int .i64 y2, .int .i64 y3, .int .i64 y4, .int .i64 y5, .int .i64 y6, .int .i64 y7, .slice sa sn sc] 84) = Y) := hY
       obtain ⟨q2, hq2⟩ : ∃ q2, wr.heap.size = q2 := ⟨_, rfl⟩
       have HQ2 : Hid (wr.heap.size = q2) := hq2
       obtain ⟨z0, z1, z2, z3, z4, z5, z6, z7⟩ := eight_of BM5.out
       clear g2 hC hY hby
       go_upto_region 13 with (fail)
       rw [HY.out]
       rw [HQ2.out] at BYY
       (try rw [HQ2.out])
       clear z0 z1 z2 z3 z4 z5 z6 z7 d0 d1 d2 d3 d4 d5 d6 d7 d8 hq2 HY HQ2 L5 L6
       obtain ⟨u0, u1, u2, u3, u4, u5, u6, u7, u8⟩ := nine_of BXY.out
       obtain ⟨t0, t1, t2, t3, t4, t5, t6, t7, t8⟩ := nine_of BYY.out
       by_cases hT : y0 = x0
       case neg =>
         have hT' : (y0 == x0) = false := by simp [hT]
         have HA : Hid (AheadAll f x0 x4 (j + 1)) := HNX.out (fun h => absurd h hT)
         clear hT
         go_wp2
         exact ⟨⟨j + 1, by omega, by go_num, HA.out, HBJY.out⟩, by simp [intOf]; omega⟩
       have hT' : (y0 == x0) = true := by simp [hT]
       by_cases h6 : y6 < 0
       · have h6' : decide (y6 < 0) = true := decide_eq_true h6
         have HNO : Hid (¬ G) := fun hg => by
           have h1 := HNA.out (HTK.out.1 ((HG.out.1 hg).2 k hlt)).2 hT
           omega
         clear hT h6
         go_wp2
         go_ret
         exact ⟨false, ⟨rfl, by simp [HNO.out]⟩, HBY.out⟩
       have h6' : decide (y6 < 0) = false := decide_eq_false h6
       by_cases h4 : x4 ≤ y6
       · have h4' : decide (x4 ≤ y6) = true := decide_eq_true h4
         have HNO : Hid (¬ G) := fun hg => by
           have h1 := HNA.out (HTK.out.1 ((HG.out.1 hg).2 k hlt)).2 hT
           omega
         clear hT h6 h4
         go_wp2
         go_ret
         exact ⟨false, ⟨rfl, by simp [HNO.out]⟩, HBY.out⟩
       have h4' : decide (x4 ≤ y6) = false := decide_eq_false h4
       have HA : Hid (AheadAll f x0 x4 (j + 1)) := HNX.out (fun _ => ⟨by omega, by omega⟩)
       clear hT h6 h4
       go_wp2
       exact ⟨⟨j + 1, by omega, by go_num, HA.out, HBJY.out⟩, by simp [intOf]; omega⟩
   · have hx6' : decide (0 ≤ x6) = false := decide_eq_false hx6
     have HX6 : Hid (¬ 0 ≤ x6) := hx6
     clear hx6
     go_wp2
     clear hx6'
     clear u0 u1 u2 u3 u4 u5 u6 u7 u8
     go_loopw [5] (fun i wr => ∃ j : Nat, j ≤ k ∧ i = .int .i64 (j : Int) ∧ AheadAll f x0 x4 j ∧ Below X.heap.size X wr) (fun i _ => k - (intOf i).toNat)
     case atStart => exact ⟨0, Nat.zero_le _, rfl, (fun l h => by omega), Below.refl _ _⟩
     case round =>
       obtain ⟨j, hj, rfl, hah, hb⟩ := hrel
       have HAH : Hid (AheadAll f x0 x4 j) := hah
       have HBJ : Hid (Below X.heap.size X wr) := hb
       have HB5 : Hid (Below w1.heap.size w1 wr) := HBX.out.trans (hb.mono HBX.out.size)
       have HB6 : Hid (Below w.heap.size w wr) := HBWX.out.trans (hb.mono HBWX.out.size)
       have BM5 : Hid (Box wr w.heap.size #[.slice wa nw wc, .slice da nd dc, .slice ta nt tc, .int .i64 tm, .slice (some ⟨p1, o1, none⟩) nc cc, .slice oa no oc, .slice ha nh hc, .int .i64 st] 43) := BMX.out.below hb L3
       have BX5 : Hid (Box wr q #[.int .i64 x0, .int .i64 x1, .int .i64 x2, .int .i64 x3, .int .i64 x4, .int .i64 x5, .int .i64 x6, .int .i64 x7, .slice ra rn rc] 84) := BXX.out.below hb L2
       have L5 : w.heap.size < wr.heap.size := BM5.out.lt
       have L6 : q < wr.heap.size := BX5.out.lt
       clear hah hb
       by_cases hlj : j < k
       case neg =>
         obtain rfl : k = j := by omega
         have HT : Hid (TA k) := HTK.out.2 ⟨(fun h => by have := HX6.out; omega), HAH.out⟩
         go_wp2
         exact ⟨⟨k + 1, by omega, by go_num, all_next HALL.out HT.out, HB5.out⟩, by simp [intOf]; omega⟩
       have hj0 : (0 : Int) ≤ (j : Int) := by omega
       have hj1 : (j : Int) < (k : Int) := by omega
       have hj2 : (j : Int) < (nc : Int) := by omega
       rcases (H3.out.below HB6.out (Nat.le_refl _)).2 with h0 | ⟨p2, o2, hpe, g2⟩
       · omega
       cases hpe
       obtain ⟨sa, sn, sc, d0, d1, d2, d3, d4, d5, d6, d7, d8⟩ := g2 j (by omega)
       have HNX : Hid (((f j).t = x0 → 0 ≤ (f j).en ∧ (f j).en < x4) → AheadAll f x0 x4 (j + 1)) := fun h1 => HAH.out.next h1
       have HNA : Hid (AheadAll f x0 x4 k → (f j).t = x0 → 0 ≤ (f j).en ∧ (f j).en < x4) := fun h => h j hlj
       obtain ⟨C, hC⟩ : ∃ C, f j = C := ⟨_, rfl⟩
       rw [hC] at d0 d1 d2 d3 d4 d5 d6 d7 HNX HNA
       obtain ⟨y0, y1, y2, y3, y4, y5, y6, y7⟩ := C
       dsimp only at d0 d1 d2 d3 d4 d5 d6 d7 HNX HNA
       obtain ⟨Y, hY⟩ : ∃ Y, wr.alloc (.cells #[.int .i64 y0, .int .i64 y1, .int .i64 y2, .int .i64 y3, .int .i64 y4, .int .i64 y5, .int .i64 y6, .int .i64 y7, .slice sa sn sc] 84) = Y := ⟨_, rfl⟩
       have hby : Below wr.heap.size wr Y := by rw [← hY]; exact (Below.refl _ wr).alloc (Nat.le_refl _) _
       have BYY : Hid (Box Y wr.heap.size #[.int .i64 y0, .int .i64 y1, .int .i64 y2, .int .i64 y3, .int .i64 y4, .int .i64 y5, .int .i64 y6, .int .i64 y7, .slice sa sn sc] 84) := by rw [← hY]; exact box_of wr _ _
       have BXY : Hid (Box Y q #[.int .i64 x0, .int .i64 x1, .int .i64 x2, .int .i64 x3, .int .i64 x4, .int .i64 x5, .int .i64 x6, .int .i64 x7, .slice ra rn rc] 84) := BX5.out.below hby L6
       have HBJY : Hid (Below X.heap.size X Y) := HBJ.out.trans (hby.mono HBJ.out.size)
       have HBY : Hid (Below w.heap.size w Y) := HB6.out.trans (hby.mono HB6.out.size)
       have HY : Hid (wr.alloc (.cells #[.int .i64 y0, .int .i64 y1, .int .i64 y2, .int .i64 y3, .int .i64 y4, .int .i64 y5, .int .i64 y6, .int .i64 y7, .slice sa sn sc] 84) = Y) := hY
       obtain ⟨q2, hq2⟩ : ∃ q2, wr.heap.size = q2 := ⟨_, rfl⟩
       have HQ2 : Hid (wr.heap.size = q2) := hq2
       obtain ⟨z0, z1, z2, z3, z4, z5, z6, z7⟩ := eight_of BM5.out
       clear g2 hC hY hby
       go_upto_region 13 with (fail)
       rw [HY.out]
       rw [HQ2.out] at BYY
       (try rw [HQ2.out])
       clear z0 z1 z2 z3 z4 z5 z6 z7 d0 d1 d2 d3 d4 d5 d6 d7 d8 hq2 HY HQ2 L5 L6
       obtain ⟨u0, u1, u2, u3, u4, u5, u6, u7, u8⟩ := nine_of BXY.out
       obtain ⟨t0, t1, t2, t3, t4, t5, t6, t7, t8⟩ := nine_of BYY.out
       by_cases hT : y0 = x0
       case neg =>
         have hT' : (y0 == x0) = false := by simp [hT]
         have HA : Hid (AheadAll f x0 x4 (j + 1)) := HNX.out (fun h => absurd h hT)
         clear hT
         go_wp2
         exact ⟨⟨j + 1, by omega, by go_num, HA.out, HBJY.out⟩, by simp [intOf]; omega⟩
       have hT' : (y0 == x0) = true := by simp [hT]
       by_cases h6 : y6 < 0
       · have h6' : decide (y6 < 0) = true := decide_eq_true h6
         have HNO : Hid (¬ G) := fun hg => by
           have h1 := HNA.out (HTK.out.1 ((HG.out.1 hg).2 k hlt)).2 hT
           omega
         clear hT h6
         go_wp2
         go_ret
         exact ⟨false, ⟨rfl, by simp [HNO.out]⟩, HBY.out⟩
       have h6' : decide (y6 < 0) = false := decide_eq_false h6
       by_cases h4 : x4 ≤ y6
       · have h4' : decide (x4 ≤ y6) = true := decide_eq_true h4
         have HNO : Hid (¬ G) := fun hg => by
           have h1 := HNA.out (HTK.out.1 ((HG.out.1 hg).2 k hlt)).2 hT
           omega
         clear hT h6 h4
         go_wp2
         go_ret
         exact ⟨false, ⟨rfl, by simp [HNO.out]⟩, HBY.out⟩
       have h4' : decide (x4 ≤ y6) = false := decide_eq_false h4
       have HA : Hid (AheadAll f x0 x4 (j + 1)) := HNX.out (fun _ => ⟨by omega, by omega⟩)
       clear hT h6 h4
       go_wp2
       exact ⟨⟨j + 1, by omega, by go_num, HA.out, HBJY.out⟩, by simp [intOf]; omega⟩
theorem specValueAt_any (a : Option Addr) (m c : Nat) (fs : List Int) (da : Option Addr) (dn dc : Nat) (ds : List DK) (at_ : Int) (w : World) (h1 : TripAt w a m fs) (h2 : DescAt w da dn ds) :
   Calls Tryz.prog 68 #[.slice a m c, .slice da dn dc, .int .i64 at_] w fun e w' => e = .returned (.int .i64 (valM fs m ds at_)) ∧ Below w.heap.size w w' := by
 have H1 : Hid (TripAt w a m fs) := h1
 have H2 : Hid (DescAt w da dn ds) := h2
 have hm := h1.2.1
 have hdn := h2.2.1
 obtain ⟨V, hV⟩ : ∃ V, valM fs m ds at_ = V := ⟨_, rfl⟩
 rw [hV]
 have HV : Hid (valM fs m ds at_ = V) := hV
 clear h1 h2 hV
 rcases hI : inB at_ 0 ((m : Int) - 1) with _ | _
 · have HI : Hid (inB at_ 0 ((m : Int) - 1) = false) := hI
   obtain rfl : V = 0 := by
     rw [← HV.out]
     unfold valM
     rw [if_neg]
     intro h
     rw [inB_yes (by omega)] at hI
     cases hI
   clear HV hI
   go_enter Tryz.func68, Tryz.ntmps68
   go_wp2_with fail
   refine (l1In_g at_ 0 _ _).mono ?_
   rintro e w1 ⟨rfl, rfl⟩
   rw [HI.out]
   go_wp2
   go_ret
   exact ⟨rfl, Below.refl _ _⟩
 · have hat := inB_val hI
   have HI : Hid (inB at_ 0 ((m : Int) - 1) = true) := hI
   clear hI
   obtain ⟨i, rfl⟩ : ∃ i : Nat, at_ = (i : Int) := ⟨at_.toNat, by omega⟩
   have hi0 : (0 : Int) ≤ (i : Int) := by omega
   have hi1 : (i : Int) < (m : Int) := by omega
   rcases H1.out.2.2 with h0 | ⟨p1, o1, rfl, g1⟩
   · omega
   have e1 := g1 (i * 3) (by omega)
   have e2 := g1 (i * 3 + 1) (by omega)
   have e3 := g1 (i * 3 + 2) (by omega)
   have HV2 : Hid (wordM (fs.getD (i * 3) 0) (fs.getD (i * 3 + 1) 0) (fs.getD (i * 3 + 2) 0) ds i = V) := by
     show _ = _
     rw [← HV.out]
     unfold valM
     rw [if_pos ⟨hi0, hi1⟩]
     simp
   obtain ⟨x, hx⟩ : ∃ x, fs.getD (i * 3) 0 = x := ⟨_, rfl⟩
   obtain ⟨t, ht⟩ : ∃ y, fs.getD (i * 3 + 1) 0 = y := ⟨_, rfl⟩
   obtain ⟨s, hs⟩ : ∃ z, fs.getD (i * 3 + 2) 0 = z := ⟨_, rfl⟩
   rw [hx, ht, hs] at HV2
   rw [hx] at e1
   rw [ht, ← Nat.add_assoc] at e2
   rw [hs, ← Nat.add_assoc] at e3
   clear g1 hx ht hs HV hat
   have HBX : Hid (Below w.heap.size w (w.alloc (.cells #[.int .i64 x, .int .i64 t, .int .i64 s] 125))) := (Below.refl _ w).alloc (Nat.le_refl _) _
   by_cases ht : t = 0
   · subst ht
     obtain rfl : V = x := by rw [← HV2.out]; simp [wordM]
     clear HV2
     go_enter Tryz.func68, Tryz.ntmps68
     go_wp2_with fail
     refine (l1In_g _ 0 _ _).mono ?_
     rintro e w1 ⟨rfl, rfl⟩
     rw [HI.out]
     go_wp2
     go_ret
     exact ⟨rfl, HBX.out⟩
   · have ht' : (t == 0) = false := by simpa using ht
     rcases hT : inB t 1 (dn : Int) with _ | _
     · have HT : Hid (inB t 1 (dn : Int) = false) := hT
       obtain rfl : V = 0 := by rw [← HV2.out]; unfold wordM; rw [if_neg ht, H2.out.1, hT]; rfl
       clear HV2 hT ht
       go_enter Tryz.func68, Tryz.ntmps68
       go_wp2_with fail
       refine (l1In_g _ 0 _ _).mono ?_
       rintro e w1 ⟨rfl, rfl⟩
       rw [HI.out]
       go_wp2_with fail
       refine (l1In_g t 1 _ _).mono ?_
       rintro e w2 ⟨rfl, rfl⟩
       rw [HT.out]
       go_wp2
       go_ret
       exact ⟨rfl, HBX.out⟩
     · have htv := inB_val hT
       have HT : Hid (inB t 1 (dn : Int) = true) := hT
       obtain ⟨j, rfl⟩ : ∃ j : Nat, t = (j : Int) + 1 := ⟨(t - 1).toNat, by omega⟩
       have HV3 : Hid ((if (dk ds j).sq = s ∧ (dk ds j).st = 2 then (entM (dk ds j).es (dk ds j).en i).2.2.1 else (entM (dk ds j).es (dk ds j).en i).2.1) = V) := by
         show _ = _
         rw [← HV2.out]
         unfold wordM
         rw [if_neg ht, H2.out.1, if_pos hT, show ((j : Int) + 1 - 1).toNat = j by omega]
       clear HV2 hT ht
       rcases H2.out.2.2 with h0 | ⟨q1, o2, rfl, g2⟩
       · omega
       obtain ⟨ea, ec, ra, rc, h5, h6, h7⟩ := g2 j (by omega)
       obtain ⟨f0, f1, f2, f3, f4⟩ := h5
       have H6 : Hid (TripAt w ea (dk ds j).en (dk ds j).es) := h6
       have hq1 : q1 < w.heap.size := World.block_lt_of_cell? w _ f0
       obtain ⟨D, hD⟩ : ∃ D, dk ds j = D := ⟨_, rfl⟩
       rw [hD] at HV3 H6 f0 f1 f2 f3 f4
       obtain ⟨r, hr⟩ : ∃ r, entM D.es D.en i = r := ⟨_, rfl⟩
       rw [hr] at HV3
       have HR : Hid (entM D.es D.en i = r) := hr
       obtain ⟨r0, r1, r2, r3⟩ := r
       obtain ⟨dsq, dst, den, des, dcd, drn, drs⟩ := D
       dsimp only at HV3 H6 f0 f1 f2 f3 f4 HR
       clear g2 h6 h7 hD hr
       have hj0 : (0 : Int) ≤ (j : Int) := by omega
       have hj1 : (j : Int) < (dn : Int) := by omega
       have HB2 : Hid (Below w.heap.size w ((w.alloc (.cells #[.int .i64 x, .int .i64 ((j : Int) + 1), .int .i64 s] 125)).alloc (.cells (DescC dsq dst ea den ec dcd ra drn rc) 130))) := HBX.out.alloc (by simp) _
       go_enter Tryz.func68, Tryz.ntmps68
       go_wp2_with fail
       refine (l1In_g _ 0 _ _).mono ?_
       rintro e w1 ⟨rfl, rfl⟩
       rw [HI.out]
       go_wp2_with fail
       refine (l1In_g _ 1 _ _).mono ?_
       rintro e w2 ⟨rfl, rfl⟩
       rw [HT.out]
       go_wp2_with fail
       refine (specEntries_any dsq dst ea den ec des dcd ra drn rc i _ (H6.out.below HB2.out (Nat.le_refl _))).mono ?_
       rintro e w3 ⟨rfl, hb3⟩
       rw [HR.out]
       dsimp only
       have X3 : Hid (Box w3 w1.heap.size #[.int .i64 x, .int .i64 ((j : Int) + 1), .int .i64 s] 125) := ((box_of w1 _ _).alloc _).below hb3 (by simp; omega)
       have Y3 : Hid (Box w3 (w1.heap.size + 1) (DescC dsq dst ea den ec dcd ra drn rc) 130) := by
         have := (box_of (w1.alloc (.cells #[.int .i64 x, .int .i64 ((j : Int) + 1), .int .i64 s] 125)) (DescC dsq dst ea den ec dcd ra drn rc) 130).below hb3 (by simp)
         simp at this
         exact this
       have HB3 : Hid (Below w1.heap.size w1 (w3.alloc (.cells #[.int .i64 r0, .int .i64 r1, .int .i64 r2] 161))) := (HB2.out.trans (hb3.mono (by simp; omega))).alloc (Nat.le_trans HB2.out.size hb3.size) _
       have hx3 : w1.heap.size < w3.heap.size := X3.out.lt
       have hy3 : w1.heap.size + 1 < w3.heap.size := Y3.out.lt
       obtain ⟨x0, x1, x2, _, _, _⟩ := X3.out.three
       obtain ⟨y0, y1, y2, y3, y4, _, _, _, _, _⟩ := Y3.out.desc
       clear hb3 e1 e2 e3 f0 f1 f2 f3 f4
       by_cases hsq : dsq = s
       · have hsq' : (dsq == s) = true := by simpa using hsq
         by_cases hst : dst = 2
         · have hst' : (dst == 2) = true := by simpa using hst
           obtain rfl : V = r2 := by rw [← HV3.out, if_pos ⟨hsq, hst⟩]
           clear hsq hst HV3
           go_wp2
           go_ret
           exact ⟨rfl, HB3.out⟩
         · have hst' : (dst == 2) = false := by simpa using hst
           obtain rfl : V = r1 := by rw [← HV3.out, if_neg (fun h => hst h.2)]
           clear hsq hst HV3
           go_wp2
           go_ret
           exact ⟨rfl, HB3.out⟩
       · have hsq' : (dsq == s) = false := by simpa using hsq
         obtain rfl : V = r1 := by rw [← HV3.out, if_neg (fun h => hsq h.1)]
         clear hsq HV3
         go_wp2
         go_ret
         exact ⟨rfl, HB3.out⟩
end
section
open Go.RowKit
theorem run_copy3 {P : Program} (w : World) (dT sT ty elem : TypeId) (g n c : Nat) (ad : Option Addr) (sCap : Nat) (cur : Array Value) (t : TypeId) (cs : List Value)
   (hu : P.underlying dT = some (.slice elem)) (hs : (P.info? elem).map (·.size) = some 3)
   (hg : w.heap[g]? = some (.cells cur t (0, 0))) (hcur : cur.size = n * 3) (hn : cs.length = n * 3)
   (hsrc : n = 0 ∨ ∃ a, ad = some a ∧ ∀ j v, cs[j]? = some v → w.cell? (a.add j) = some v) (h1 : ∀ v ∈ cs, v.oneCell' = true) :
   ∃ w', (Builtin.copy_ #[dT, sT] ty #[.slice (some ⟨g, 0, none⟩) n c, .slice ad n sCap]).run P w = .ok (goInt n) w' ∧ w'.heap[g]? = some (.cells cs.toArray t (0, 0)) ∧ ∀ B w0, Below B w0 w → B ≤ g → Below B w0 w' := by
 cases hq : P.info? elem with
 | none => simp [hq] at hs
 | some i =>
   have hi : i.size = 3 := by simpa [hq] using hs
   rcases hsrc with rfl | ⟨a, rfl, hsrc⟩
   · obtain rfl : cs = [] := List.eq_nil_of_length_eq_zero (by simpa using hn)
     obtain rfl : cur = #[] := Array.eq_empty_of_size_eq_zero (by simpa using hcur)
     have hl : ∀ (x : Addr), (loadCells x 0).run P w = .ok #[] w := fun x => by simpa using run_loadCells_list (P := P) w x [] (by simp)
     refine ⟨w, ?_, hg, fun _ _ hb _ => hb⟩
     cases ad <;> simp [Builtin.copy_, run_underlying hu, Builtin.lenOf, Builtin.firstCells, sizeOf, typeInfo, hq, storeCells, hl]
   · have hl := run_loadCells_list (P := P) w a cs hsrc
     have hst := run_storeCells_at P g 0 t cs 0 cur w hg (by simp; omega) h1
     rw [hn] at hl
     have e : (cur.toList.take (0 + 0) ++ cs ++ cur.toList.drop (0 + 0 + cs.length)) = cs := by
       rw [List.drop_of_length_le (by simp; omega)]; simp
     rw [e] at hst
     refine ⟨w.setRow g cs.toArray, ?_, setRow_heap w g _ _ t _ hg, fun B w0 hb hB => below_setRow hb hB _⟩
     simp [Builtin.copy_, run_underlying hu, Builtin.lenOf, Builtin.firstCells, sizeOf, typeInfo, hq, hi, hl, hst]
end
end Go.Proofs.YtbfolanfbagofaaGreatDoor
