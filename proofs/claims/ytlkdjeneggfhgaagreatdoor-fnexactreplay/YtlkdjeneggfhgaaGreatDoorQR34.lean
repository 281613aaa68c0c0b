/- Texts joined: ImplRq. -/
import Derived.Test.YtlkdjeneggfhgaaGreatDoorQR00
import Derived.Test.YtlkdjeneggfhgaaGreatDoorQR33
import Derived.Deep.Cut
import Derived.Deep.RegionHeld3
set_option maxHeartbeats 16000000
set_option maxRecDepth 100000
namespace Go.Proofs.YtlkdjeneggfhgaaGreatDoor
section
open Go.ChangeShapes Go.WideShapes Go.ChangeAt Go.RowKit
theorem isR_other {W : World} {a0 a1 : Addr} (h : ErrX W a0 a1) : Calls Tryz.prog 40 #[.iface 269 (.pointer (some a1)), .iface 269 (.pointer (some a0))] W fun e w' => e = .returned (.bool false) ∧ w' = W := by
 obtain ⟨-, -, h3, ⟨c, t, h4⟩, c', t', h5⟩ := h
 exact is_other a1 a0 c' c t' t W (Ne.symm h3) h5 h4
theorem implReplay_any (wa : Option Addr) (wc : Nat) (da : Option Addr) (dc : Nat) (ta : Option Addr) (tc : Nat) (ca : Option Addr) (cc : Nat) (oa : Option Addr) (oc : Nat) (ha : Option Addr) (hc : Nat) (M : MaD) (rs : Nat → List Int) (w : World) (h : MaAt w wa da ta ca oa ha M) (hr : CasR w ca M.nc M.f rs) (hcap : CapAt w da M.nd M.ds) (hwf : ∀ x ∈ M.hs, (Lit.int .i64 x).wf = true) (hhc : M.nh ≤ hc) (he : ErrR w) :
   Calls Tryz.prog 11 #[MaV wa wc da dc ta tc ca cc oa oc ha hc M] w fun e w' => ReplSays M rs w.heap.size e w' ∧ Below w.heap.size w w' := by
 obtain ⟨a0, a1, he⟩ := he
 have HRP : Hid (∀ W, Below w.heap.size w W → Calls Tryz.prog 39 #[MaV wa wc da dc ta tc ca cc oa oc ha hc M] W fun e w' => RplI M rs a0 a1 W.heap.size e w' ∧ Below W.heap.size W w') := fun W hb => impl_replay wa wc da dc ta tc ca cc oa oc ha hc M rs W (h.below hb (Nat.le_refl _)) (hr.below hb (Nat.le_refl _)) (hcap.below hb (Nat.le_refl _)) hwf hhc a0 a1 (he.below hb (Nat.le_refl _))
 have HEX : Hid (ErrX w a0 a1) := he
 obtain ⟨SAY, hSAY⟩ : ∃ SAY, ReplSays M rs w.heap.size = SAY := ⟨_, rfl⟩
 have HS2 : Hid (∀ e w', ReplSays M rs w.heap.size e w' → SAY e w') := fun e w' h => by rw [← hSAY]; exact h
 rw [hSAY]
 clear hSAY h hr hcap hwf hhc he
 obtain ⟨nw, ws, nd, ds, nt, ts, tm, nc, f, no, os, nh, hs, st⟩ := M
 show Calls Tryz.prog 11 #[.agg #[.slice wa nw wc, .slice da nd dc, .slice ta nt tc, .int .i64 tm, .slice ca nc cc, .slice oa no oc, .slice ha nh hc, .int .i64 st]] w fun e w' => SAY e w' ∧ Below w.heap.size w w'
 obtain ⟨sz, hsz⟩ : ∃ sz, w.heap.size = sz := ⟨_, rfl⟩
 obtain ⟨W, hW⟩ : ∃ W, (w.alloc (.cells #[.slice wa nw wc, .slice da nd dc, .slice ta nt tc, .int .i64 tm, .slice ca nc cc, .slice oa no oc, .slice ha nh hc, .int .i64 st] 44)).alloc (.cells #[.slice none 0 0, .int .i64 0] 34) = W := ⟨_, rfl⟩
 have hb0 : Below sz w W := by rw [← hW, ← hsz]; exact ((Below.refl _ w).alloc (Nat.le_refl _) _).alloc (by simp) _
 have BO : Hid (Box W (sz + 1) #[.slice none 0 0, .int .i64 0] 34) := by rw [← hW, ← hsz]; have := box_of (w.alloc (.cells #[.slice wa nw wc, .slice da nd dc, .slice ta nt tc, .int .i64 tm, .slice ca nc cc, .slice oa no oc, .slice ha nh hc, .int .i64 st] 44)) #[.slice none 0 0, .int .i64 0] 34; rwa [World.size_alloc] at this
 have HB0 : Hid (Below sz w W) := hb0
 have HW : Hid ((w.alloc (.cells #[.slice wa nw wc, .slice da nd dc, .slice ta nt tc, .int .i64 tm, .slice ca nc cc, .slice oa no oc, .slice ha nh hc, .int .i64 st] 44)).alloc (.cells #[.slice none 0 0, .int .i64 0] 34) = W) := hW
 have HSZ : Hid (w.heap.size = sz) := hsz
 have HLE : Hid (w.heap.size ≤ sz) := by show _ ≤ _; omega
 rw [hsz] at HS2 HRP
 rw [show (fun e w' => SAY e w' ∧ Below w.heap.size w w') = (fun e w' => SAY e w' ∧ Below sz w w') by rw [hsz]]
 clear hb0 hW hsz
 go_enter Tryz.func11, Tryz.ntmps11
 go_wp2_with fail
 rw [HW.out]
 (try rw [HSZ.out])
 refine (HRP.out W HB0.out).mono ?_
 rintro e w1 ⟨hsay, hb1⟩
 have BO1 : Hid (Box w1 (sz + 1) #[.slice none 0 0, .int .i64 0] 34) := BO.out.below hb1 BO.out.lt
 have HB1 : Hid (Below sz w w1) := HB0.out.trans (hb1.mono (by have := BO.out.lt; omega))
 have LW : sz + 1 < W.heap.size := BO.out.lt
 rcases hsay with ⟨hg, g, c, zs, st', ok, rfl, hrep, hso, hown⟩ | ⟨hng, rfl⟩
 · have HGD : Hid (MachGood ⟨nw, ws, nd, ds, nt, ts, tm, nc, f, no, os, nh, hs, st⟩) := hg
   have HREP : Hid (ReplM ⟨nw, ws, nd, ds, nt, ts, tm, nc, f, no, os, nh, hs, st⟩ rs no zs st') := hrep
   have HSO : Hid (ok = true ↔ SoM ⟨nw, ws, nd, ds, nt, ts, tm, nc, f, no, os, nh, hs, st⟩ rs no) := hso
   have OW : Hid (w1.ownsRow W.heap.size 3 1 (.slice (some ⟨g, 0, none⟩) 4 c) 4 (zs.map I)) := hown
   clear hg hrep hso hown hb1
   obtain ⟨ev, nk, hev, hc1, hc2, hso'⟩ : ∃ ev nk, (bif ok then Value.nilIface else .iface 269 (.pointer (some a1))) = ev ∧ (∀ W, ErrX W a0 a1 → Calls Tryz.prog 40 #[ev, .iface 269 (.pointer (some a0))] W fun e w' => e = .returned (.bool false) ∧ w' = W) ∧ (∀ W, ErrX W a0 a1 → Calls Tryz.prog 40 #[ev, .iface 269 (.pointer (some a1))] W fun e w' => e = .returned (.bool nk) ∧ w' = W) ∧ ((!nk) = true ↔ SoM ⟨nw, ws, nd, ds, nt, ts, tm, nc, f, no, os, nh, hs, st⟩ rs no) := by
     cases ok
     · exact ⟨_, true, rfl, fun W hE => isR_other hE, fun W _ => is_same a1 W, by simpa using HSO.out⟩
     · exact ⟨_, false, rfl, fun W _ => is_nil a0 W, fun W _ => is_nil a1 W, by simpa using HSO.out⟩
   have C1 : Hid (∀ W, ErrX W a0 a1 → Calls Tryz.prog 40 #[ev, .iface 269 (.pointer (some a0))] W fun e w' => e = .returned (.bool false) ∧ w' = W) := hc1
   have C2 : Hid (∀ W, ErrX W a0 a1 → Calls Tryz.prog 40 #[ev, .iface 269 (.pointer (some a1))] W fun e w' => e = .returned (.bool nk) ∧ w' = W) := hc2
   have HSO : Hid ((!nk) = true ↔ SoM ⟨nw, ws, nd, ds, nt, ts, tm, nc, f, no, os, nh, hs, st⟩ rs no) := hso'
   rw [hev]
   clear hev hc1 hc2 hso'
   obtain ⟨q, hq⟩ : ∃ q, w1.heap.size = q := ⟨_, rfl⟩
   obtain ⟨X, hX⟩ : ∃ X, w1.alloc (.cells #[.slice (some ⟨g, 0, none⟩) 4 c, .int .i64 st'] 34) = X := ⟨_, rfl⟩
   obtain ⟨D, hD⟩ : ∃ D, X.drew = D := ⟨_, rfl⟩
   have hbx : Below w1.heap.size w1 D := by rw [← hD, ← hX]; exact ((Below.refl _ w1).alloc (Nat.le_refl _) _).drew
   have BQ : Hid (Box D q #[.slice (some ⟨g, 0, none⟩) 4 c, .int .i64 st'] 34) := by rw [← hD, ← hX, ← hq]; exact (box_of w1 _ _).drew
   have BOD : Hid (Box D (sz + 1) #[.slice none 0 0, .int .i64 0] 34) := BO1.out.below hbx BO1.out.lt
   have HBD : Hid (Below sz w D) := HB1.out.trans (hbx.mono (by have := BO1.out.lt; omega))
   have LQ : sz + 1 < q := by rw [← hq]; exact BO1.out.lt
   have HED : Hid (ErrX D a0 a1) := HEX.out.below HBD.out HLE.out
   obtain ⟨y0, y1, _, _⟩ := two_of BQ.out
   have KD : Hid (D.cell? ⟨q, 0, none⟩ = some (.slice (some ⟨g, 0, none⟩) 4 c) ∧ D.cell? ⟨q, 1, none⟩ = some (.int .i64 st') ∧ D.cell? ⟨0, 0, none⟩ = some (.iface 269 (.pointer (some a0))) ∧ D.cell? ⟨1, 0, none⟩ = some (.iface 269 (.pointer (some a1)))) := ⟨y0, y1, HED.out.c0, HED.out.c1⟩
   have KX : Hid (X.drew.cell? ⟨q, 0, none⟩ = some (.slice (some ⟨g, 0, none⟩) 4 c) ∧ X.drew.cell? ⟨q, 1, none⟩ = some (.int .i64 st') ∧ X.drew.cell? ⟨0, 0, none⟩ = some (.iface 269 (.pointer (some a0))) ∧ X.drew.cell? ⟨1, 0, none⟩ = some (.iface 269 (.pointer (some a1)))) := by rw [hD]; exact KD.out
   obtain ⟨D1, hD1⟩ : ∃ D1, (D.setCell ⟨sz + 1, 0, none⟩ (.slice (some ⟨g, 0, none⟩) 4 c)).setCell ⟨sz + 1, 1, none⟩ (.int .i64 st') = D1 := ⟨_, rfl⟩
   have HBD1 : Hid (Below sz w D1) := by rw [← hD1]; exact (HBD.out.setCell (show sz ≤ sz + 1 by omega) _).setCell (show sz ≤ sz + 1 by omega) _
   have BQ1 : Hid (Box D1 q #[.slice (some ⟨g, 0, none⟩) 4 c, .int .i64 st'] 34) := by rw [← hD1]; exact (BQ.out.set (show q ≠ sz + 1 by omega) _).set (show q ≠ sz + 1 by omega) _
   have BO3 : Hid (Box D1 (sz + 1) #[.slice (some ⟨g, 0, none⟩) 4 c, .int .i64 st'] 34) := by rw [← hD1]; exact (BOD.out.put 0 (.slice (some ⟨g, 0, none⟩) 4 c)).put 1 (.int .i64 st')
   have HE1 : Hid (ErrX D1 a0 a1) := HEX.out.below HBD1.out HLE.out
   have hneD : (Value.slice (some ⟨g, 0, none⟩) 4 c).ownBlock ≠ some (sz + 1) := fun h => by
     have h2 : g = sz + 1 := Option.some.inj h
     have h3 := own_base OW.out
     omega
   have OWD : Hid (D1.ownsRow sz 3 1 (.slice (some ⟨g, 0, none⟩) 4 c) 4 (zs.map I)) := by
     rw [← hD1]
     exact own_weaken (own_setCell_far (own_setCell_far (owns_below OW.out hbx (Nat.le_refl _)) hneD _) hneD _) (by omega)
   have KE : Hid (D1.cell? ⟨q, 0, none⟩ = some (.slice (some ⟨g, 0, none⟩) 4 c) ∧ D1.cell? ⟨q, 1, none⟩ = some (.int .i64 st') ∧ D1.cell? ⟨0, 0, none⟩ = some (.iface 269 (.pointer (some a0))) ∧ D1.cell? ⟨1, 0, none⟩ = some (.iface 269 (.pointer (some a1)))) := ⟨(two_of BQ1.out).1, (two_of BQ1.out).2.1, HE1.out.c0, HE1.out.c1⟩
   have HD : Hid (X.drew = D) := hD
   have HX : Hid (w1.alloc (.cells #[.slice (some ⟨g, 0, none⟩) 4 c, .int .i64 st'] 34) = X) := hX
   have HQ : Hid (w1.heap.size = q) := hq
   have HD1 : Hid ((D.setCell ⟨sz + 1, 0, none⟩ (.slice (some ⟨g, 0, none⟩) 4 c)).setCell ⟨sz + 1, 1, none⟩ (.int .i64 st') = D1) := hD1
   obtain ⟨d0, d1, _, _⟩ := two_of BO3.out
   obtain ⟨c0, c1, f0, f1⟩ := two_of BOD.out
   have LD : sz + 1 < D.heap.size := BOD.out.lt
   clear hX hD hq hD1 hbx y0 y1
   go_upto_region 2 with (fail)
   rw [HX.out]
   (try rw [HQ.out])
   refine wp_region_held_drew (S := fun w' => w'.cell? ⟨q, 0, none⟩ = some (.slice (some ⟨g, 0, none⟩) 4 c) ∧ w'.cell? ⟨q, 1, none⟩ = some (.int .i64 st') ∧ w'.cell? ⟨0, 0, none⟩ = some (.iface 269 (.pointer (some a0))) ∧ w'.cell? ⟨1, 0, none⟩ = some (.iface 269 (.pointer (some a1)))) (by kernel_rfl) KX.out (fun hHeld => ?_)
   rw [HD.out] at hHeld ⊢
   refine takeA 0 (.agg #[.slice (some ⟨g, 0, none⟩) 4 c, .int .i64 st']) hHeld ?_
   simp only [Act.put, List.setIfInBounds_toArray, List.set_cons_zero, List.set_cons_succ]
   refine takeA 1 ev hHeld ?_
   simp only [Act.put, List.setIfInBounds_toArray, List.set_cons_zero, List.set_cons_succ]
   refine takeA 2 (.iface 269 (.pointer (some a0))) hHeld ?_
   simp only [Act.put, List.setIfInBounds_toArray, List.set_cons_zero, List.set_cons_succ]
   refine wpAnyH_ready (rs := [3]) (by kernel_rfl) (by simp) ?_
   refine AllReadyH.cons (o := _) (by rw [List.getElem?_toArray]; exact rfl) (fun K hK => ?_) AllReadyH.nil
   rw [if_pos (by kernel_rfl)]
   go_simp
   refine (C1.out _ HED.out).mono ?_
   rintro e w9 ⟨rfl, hw9⟩
   rw [hw9]
   refine hK.out _ _ ?_ (fun hHeld => ?_)
   · exact KD.out
   clear hK K
   refine takeA 4 (.bool true) hHeld ?_
   simp only [Act.put, List.setIfInBounds_toArray, List.set_cons_zero, List.set_cons_succ]
   refine takeA 5 (.bool true) hHeld ?_
   simp only [Act.put, List.setIfInBounds_toArray, List.set_cons_zero, List.set_cons_succ]
   refine takeA 6 ev hHeld ?_
   simp only [Act.put, List.setIfInBounds_toArray, List.set_cons_zero, List.set_cons_succ]
   refine takeA 7 (.iface 269 (.pointer (some a1))) hHeld ?_
   simp only [Act.put, List.setIfInBounds_toArray, List.set_cons_zero, List.set_cons_succ]
   refine wpAnyH_ready (rs := [8]) (by kernel_rfl) (by simp) ?_
   refine AllReadyH.cons (o := _) (by rw [List.getElem?_toArray]; exact rfl) (fun K hK => ?_) AllReadyH.nil
   rw [if_pos (by kernel_rfl)]
   go_simp
   refine (C2.out _ HED.out).mono ?_
   rintro e w9 ⟨rfl, hw9⟩
   rw [hw9]
   refine hK.out _ _ ?_ (fun hHeld => ?_)
   · exact KD.out
   clear hK K
   refine takeA 9 (.bool (!nk)) hHeld ?_
   simp only [Act.put, List.setIfInBounds_toArray, List.set_cons_zero, List.set_cons_succ]
   refine takeA 10 (.bool (!nk)) hHeld ?_
   simp only [Act.put, List.setIfInBounds_toArray, List.set_cons_zero, List.set_cons_succ]
   refine wpAnyH_ready (rs := [11]) (by kernel_rfl) (by simp) ?_
   refine AllReadyH.cons (o := _) (by rw [List.getElem?_toArray]; exact rfl) (fun K hK => ?_) AllReadyH.nil
   rw [if_pos (by kernel_rfl)]
   go_simp
   refine hK.out _ _ ?_ (fun hHeld => ?_)
   · rw [HD1.out]; exact KE.out
   clear hK K
   refine takeA 12 (.bool (!nk)) hHeld ?_
   simp only [Act.put, List.setIfInBounds_toArray, List.set_cons_zero, List.set_cons_succ]
   refine wpAnyH_done (by kernel_rfl) ?_ _
   rw [HD1.out]
   go_wp2
   (try simp only [Exit.inBlock, Exit.then])
   refine bodyPost_ret (by simp [results, Tryz.results11, go_sem, d0, d1]; try rfl) rfl ?_
   exact ⟨HS2.out _ _ (.inl ⟨HGD.out, g, c, zs, st', (!nk), rfl, HREP.out, HSO.out, OWD.out⟩), HBD1.out⟩
 · have HNG : Hid (¬ MachGood ⟨nw, ws, nd, ds, nt, ts, tm, nc, f, no, os, nh, hs, st⟩) := hng
   clear hng hb1
   obtain ⟨q, hq⟩ : ∃ q, w1.heap.size = q := ⟨_, rfl⟩
   obtain ⟨X, hX⟩ : ∃ X, w1.alloc (.cells #[.slice none 0 0, .int .i64 0] 34) = X := ⟨_, rfl⟩
   obtain ⟨D, hD⟩ : ∃ D, X.drew = D := ⟨_, rfl⟩
   have hbx : Below w1.heap.size w1 D := by rw [← hD, ← hX]; exact ((Below.refl _ w1).alloc (Nat.le_refl _) _).drew
   have BQ : Hid (Box D q #[.slice none 0 0, .int .i64 0] 34) := by rw [← hD, ← hX, ← hq]; exact (box_of w1 _ _).drew
   have BOD : Hid (Box D (sz + 1) #[.slice none 0 0, .int .i64 0] 34) := BO1.out.below hbx BO1.out.lt
   have HBD : Hid (Below sz w D) := HB1.out.trans (hbx.mono (by have := BO1.out.lt; omega))
   have LQ : sz + 1 < q := by rw [← hq]; exact BO1.out.lt
   have HED : Hid (ErrX D a0 a1) := HEX.out.below HBD.out HLE.out
   obtain ⟨y0, y1, _, _⟩ := two_of BQ.out
   have KD : Hid (D.cell? ⟨q, 0, none⟩ = some (.slice none 0 0) ∧ D.cell? ⟨q, 1, none⟩ = some (.int .i64 0) ∧ D.cell? ⟨0, 0, none⟩ = some (.iface 269 (.pointer (some a0))) ∧ D.cell? ⟨1, 0, none⟩ = some (.iface 269 (.pointer (some a1)))) := ⟨y0, y1, HED.out.c0, HED.out.c1⟩
   have KX : Hid (X.drew.cell? ⟨q, 0, none⟩ = some (.slice none 0 0) ∧ X.drew.cell? ⟨q, 1, none⟩ = some (.int .i64 0) ∧ X.drew.cell? ⟨0, 0, none⟩ = some (.iface 269 (.pointer (some a0))) ∧ X.drew.cell? ⟨1, 0, none⟩ = some (.iface 269 (.pointer (some a1)))) := by rw [hD]; exact KD.out
   obtain ⟨D1, hD1⟩ : ∃ D1, (D.setCell ⟨sz + 1, 0, none⟩ (.slice none 0 0)).setCell ⟨sz + 1, 1, none⟩ (.int .i64 0) = D1 := ⟨_, rfl⟩
   have HBD1 : Hid (Below sz w D1) := by rw [← hD1]; exact (HBD.out.setCell (show sz ≤ sz + 1 by omega) _).setCell (show sz ≤ sz + 1 by omega) _
   have BQ1 : Hid (Box D1 q #[.slice none 0 0, .int .i64 0] 34) := by rw [← hD1]; exact (BQ.out.set (show q ≠ sz + 1 by omega) _).set (show q ≠ sz + 1 by omega) _
   have BO3 : Hid (Box D1 (sz + 1) #[.slice none 0 0, .int .i64 0] 34) := by rw [← hD1]; exact (BOD.out.put 0 (.slice none 0 0)).put 1 (.int .i64 0)
   have HE1 : Hid (ErrX D1 a0 a1) := HEX.out.below HBD1.out HLE.out
   have KE : Hid (D1.cell? ⟨q, 0, none⟩ = some (.slice none 0 0) ∧ D1.cell? ⟨q, 1, none⟩ = some (.int .i64 0) ∧ D1.cell? ⟨0, 0, none⟩ = some (.iface 269 (.pointer (some a0))) ∧ D1.cell? ⟨1, 0, none⟩ = some (.iface 269 (.pointer (some a1)))) := ⟨(two_of BQ1.out).1, (two_of BQ1.out).2.1, HE1.out.c0, HE1.out.c1⟩
   have HD : Hid (X.drew = D) := hD
   have HX : Hid (w1.alloc (.cells #[.slice none 0 0, .int .i64 0] 34) = X) := hX
   have HQ : Hid (w1.heap.size = q) := hq
   have HD1 : Hid ((D.setCell ⟨sz + 1, 0, none⟩ (.slice none 0 0)).setCell ⟨sz + 1, 1, none⟩ (.int .i64 0) = D1) := hD1
   obtain ⟨d0, d1, _, _⟩ := two_of BO3.out
   obtain ⟨c0, c1, f0, f1⟩ := two_of BOD.out
   have LD : sz + 1 < D.heap.size := BOD.out.lt
   clear hX hD hq hD1 hbx y0 y1
   go_upto_region 2 with (fail)
   rw [HX.out]
   (try rw [HQ.out])
   refine wp_region_held_drew (S := fun w' => w'.cell? ⟨q, 0, none⟩ = some (.slice none 0 0) ∧ w'.cell? ⟨q, 1, none⟩ = some (.int .i64 0) ∧ w'.cell? ⟨0, 0, none⟩ = some (.iface 269 (.pointer (some a0))) ∧ w'.cell? ⟨1, 0, none⟩ = some (.iface 269 (.pointer (some a1)))) (by kernel_rfl) KX.out (fun hHeld => ?_)
   rw [HD.out] at hHeld ⊢
   refine takeA 0 (.agg #[.slice none 0 0, .int .i64 0]) hHeld ?_
   simp only [Act.put, List.setIfInBounds_toArray, List.set_cons_zero, List.set_cons_succ]
   refine takeA 1 (.iface 269 (.pointer (some a0))) hHeld ?_
   simp only [Act.put, List.setIfInBounds_toArray, List.set_cons_zero, List.set_cons_succ]
   refine takeA 2 (.iface 269 (.pointer (some a0))) hHeld ?_
   simp only [Act.put, List.setIfInBounds_toArray, List.set_cons_zero, List.set_cons_succ]
   refine wpAnyH_ready (rs := [3]) (by kernel_rfl) (by simp) ?_
   refine AllReadyH.cons (o := _) (by rw [List.getElem?_toArray]; exact rfl) (fun K hK => ?_) AllReadyH.nil
   rw [if_pos (by kernel_rfl)]
   go_simp
   refine (is_same a0 _).mono ?_
   rintro e w9 ⟨rfl, hw9⟩
   rw [hw9]
   refine hK.out _ _ ?_ (fun hHeld => ?_)
   · exact KD.out
   clear hK K
   refine takeA 4 (.bool false) hHeld ?_
   simp only [Act.put, List.setIfInBounds_toArray, List.set_cons_zero, List.set_cons_succ]
   refine takeA 5 (.bool false) hHeld ?_
   simp only [Act.put, List.setIfInBounds_toArray, List.set_cons_zero, List.set_cons_succ]
   refine skipH 6 hHeld ?_
   simp only [Act.put, List.setIfInBounds_toArray, List.set_cons_zero, List.set_cons_succ]
   refine skipH 7 hHeld ?_
   simp only [Act.put, List.setIfInBounds_toArray, List.set_cons_zero, List.set_cons_succ]
   refine skipH 8 hHeld ?_
   simp only [Act.put, List.setIfInBounds_toArray, List.set_cons_zero, List.set_cons_succ]
   refine skipH 9 hHeld ?_
   simp only [Act.put, List.setIfInBounds_toArray, List.set_cons_zero, List.set_cons_succ]
   refine takeA 10 (.bool false) hHeld ?_
   simp only [Act.put, List.setIfInBounds_toArray, List.set_cons_zero, List.set_cons_succ]
   refine wpAnyH_ready (rs := [11]) (by kernel_rfl) (by simp) ?_
   refine AllReadyH.cons (o := _) (by rw [List.getElem?_toArray]; exact rfl) (fun K hK => ?_) AllReadyH.nil
   rw [if_pos (by kernel_rfl)]
   go_simp
   refine hK.out _ _ ?_ (fun hHeld => ?_)
   · rw [HD1.out]; exact KE.out
   clear hK K
   refine takeA 12 (.bool false) hHeld ?_
   simp only [Act.put, List.setIfInBounds_toArray, List.set_cons_zero, List.set_cons_succ]
   refine wpAnyH_done (by kernel_rfl) ?_ _
   rw [HD1.out]
   go_wp2
   (try simp only [Exit.inBlock, Exit.then])
   refine bodyPost_ret (by simp [results, Tryz.results11, go_sem, d0, d1]; try rfl) rfl ?_
   exact ⟨HS2.out _ _ (.inr ⟨HNG.out, rfl⟩), HBD1.out⟩
end
end Go.Proofs.YtlkdjeneggfhgaaGreatDoor
