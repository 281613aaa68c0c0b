/- JudgeAll of the program answers as the specification's JudgeAll at all machines, and leaves what it was handed as it was: the card of the law FnExactJudgeAll holds, with no condition beyond the program's own errors and its table of names as its text lays them. -/
import Derived.Test.YtbfolanfbagofaaGreatDoorRows
import Derived.Test.YtbfolanfbagofaaGreatDoorQA37
import Derived.Test.YtbfolanfbagofaaGreatDoorTie
import Derived.Test.YtbfolanfbagofaaGreatDoorCards
import Derived.Test.YtbfolanfbagofaaGreatDoorQA21
import Derived.Test.YtbfolanfbagofaaGreatDoorQA35
import Derived.Test.YtbfolanfbagofaaGreatDoorQA16
import Derived.Test.YtbfolanfbagofaaGreatDoorQA15
import Derived.Test.YtbfolanfbagofaaGreatDoorQA38
import Derived.Test.YtbfolanfbagofaaGreatDoorQA41
import Derived.Test.YtbfolanfbagofaaGreatDoorQA43
import Derived.WalkKit
import Derived.ProofKit
import Derived.OpenShut
import Derived.LaidMore
import Derived.Stop.Joined
import Derived.Stop.LaidErr
import Derived.MakeChecks
import Derived.SevenTiedAt
import Derived.ChangeOld
import Derived.Below
import Derived.Lib.SmallJoins
import Derived.Deep.RegionHeld3
import Derived.Deep.Cut
namespace Go.Proofs.YtbfolanfbagofaaGreatDoor
open Go.ChangeShapes Go.WideShapes Go.ChangeAt Go.RowKit Go.Joins
namespace fnExactJudgeAll
theorem own : ownKnob Tryz.prog.godebug = none := by kernel_rfl
theorem laidOut : laidOutB Tryz.prog = true := by kernel_rfl
theorem specC (us : List Value) (cs : List Cel) (w : World) (h : AtL true w us cs) (hs : HasL cs tyMachine) (hb : bigL cs ≤ 1048576) :
   Calls Tryz.prog 5 #[.agg us.toArray] w fun e w' => ∃ ok, (e = .returned (.bool ok) ∧ (ok = true ↔ JAll (maD cs) (rsD cs))) ∧ Below w.heap.size w w' := by
 obtain ⟨wa, wc, da, dc, ta, tc, ca, cc, oa, oc, ha, hc, e, hM, hC, hh, hR⟩ := at_machine_r h hs hb
 rw [e]
 exact specJudgeAll_any wa wc da dc ta tc ca cc oa oc ha hc (maD cs) (rsD cs) w hM hR
theorem implC (us : List Value) (cs : List Cel) (w : World) (h : AtL true w us cs) (hs : HasL cs tyMachine) (hb : bigL cs ≤ 1048576) (hw : WfL cs) (hE : ErrA w) :
   Calls Tryz.prog 7 #[.agg us.toArray] w fun e w' => ∃ ok, (e = .returned (.bool ok) ∧ (ok = true ↔ JAll (maD cs) (rsD cs))) ∧ Below w.heap.size w w' := by
 obtain ⟨wa, wc, da, dc, ta, tc, ca, cc, oa, oc, ha, hc, e, hM, hC, hh, hR⟩ := at_machine_r h hs hb
 rw [e]
 exact implJudgeAll_any wa wc da dc ta tc ca cc oa oc ha hc (maD cs) (rsD cs) w hM hR hC (wf_held hw hs) hh hE
set_option maxHeartbeats 16000000 in
set_option maxRecDepth 100000 in
theorem walk (vs : List Value) (cs : List Cel) (w : World) (h : InL w vs cs) (hs : HasL cs tyMachine) (hw : WfL cs) (hE : ErrA w) :
   Calls Tryz.prog 3 #[.agg vs.toArray] w fun e w' => e = .returned (.bool true) ∧ Below w.heap.size w w' := by
 have hl8 : vs.length = 8 := by rw [h.1, hs.1]; rfl
 obtain ⟨v0, v1, v2, v3, v4, v5, v6, v7, rfl⟩ : ∃ v0 v1 v2 v3 v4 v5 v6 v7, vs = [v0, v1, v2, v3, v4, v5, v6, v7] := by
   match vs, hl8 with
   | [a0, a1, a2, a3, a4, a5, a6, a7], _ => exact ⟨_, _, _, _, _, _, _, _, rfl⟩
 have HIN : Hid (InL w [v0, v1, v2, v3, v4, v5, v6, v7] cs) := h
 have HS : Hid (HasL cs tyMachine) := hs
 have HWF : Hid (WfL cs) := hw
 have HEX : Hid (ErrA w) := hE
 obtain ⟨sz, hsz⟩ : ∃ sz, w.heap.size = sz := ⟨_, rfl⟩
 obtain ⟨W, hW⟩ : ∃ W, w.alloc (.cells #[v0, v1, v2, v3, v4, v5, v6, v7] 32) = W := ⟨_, rfl⟩
 have hb0 : Below sz w W := by rw [← hW, ← hsz]; exact (Below.refl _ w).alloc (Nat.le_refl _) _
 have hWs : W.heap.size = sz + 1 := by rw [← hW, ← hsz]; simp
 have XA : Hid (Box W sz #[v0, v1, v2, v3, v4, v5, v6, v7] 32) := by rw [← hW, ← hsz]; exact (box_of w _ _)
 have HW : Hid (w.alloc (.cells #[v0, v1, v2, v3, v4, v5, v6, v7] 32) = W) := hW
 have HSZ : Hid (w.heap.size = sz) := hsz
 have HB0 : Hid (Below sz w W) := hb0
 have HWS : Hid (W.heap.size = sz + 1) := hWs
 have hsw : Hid (w.heap.size ≤ sz) := by rw [hsz]; exact Nat.le_refl _
 have CA : Hid (∀ y, Below W.heap.size W y → y.cell? ⟨sz, 0, none⟩ = some v0 ∧ y.cell? ⟨sz, 1, none⟩ = some v1 ∧ y.cell? ⟨sz, 2, none⟩ = some v2 ∧ y.cell? ⟨sz, 3, none⟩ = some v3 ∧ y.cell? ⟨sz, 4, none⟩ = some v4 ∧ y.cell? ⟨sz, 5, none⟩ = some v5 ∧ y.cell? ⟨sz, 6, none⟩ = some v6 ∧ y.cell? ⟨sz, 7, none⟩ = some v7) := fun y hb => eight_of (XA.out.below hb XA.out.lt)
 have UP : Hid (∀ y, Below W.heap.size W y → Below sz w y) := fun y hb => HB0.out.trans (hb.mono (by have := HWS.out; omega))
 clear hW hb0 hWs hsz h hs hw hl8 hE
 show Calls Tryz.prog 3 #[.agg #[v0, v1, v2, v3, v4, v5, v6, v7]] w fun e w' => e = .returned (.bool true) ∧ Below w.heap.size w w'
 go_enter Tryz.func3, Tryz.ntmps3
 go_wp2_with fail
 rw [HW.out]
 (try rw [HSZ.out])
 refine (dSzMachine [v0, v1, v2, v3, v4, v5, v6, v7] cs 1048576 W (HIN.out.on HB0.out hsw.out) HS.out (by omega) (by omega)).mono ?_
 rintro e w1 ⟨hb1, ⟨r, rfl, hr0, hr1⟩ | ⟨rfl, hbig⟩⟩
 case inr =>
   have hall : Below sz w w1 := UP.out _ hb1
   clear hb1 hbig
   go_wp2
   go_ret
   exact ⟨rfl, by rw [HSZ.out]; exact hall⟩
 have BIG : Hid (bigL cs ≤ 1048576) := by show _ ≤ _; omega
 have hr2 : ¬ r < 0 := by omega
 have hr3 : decide (r < 0) = false := decide_eq_false hr2
 have HB1 : Hid (Below W.heap.size W w1) := hb1
 have INS : Hid (∀ y, Below sz w y → AtL false y [v0, v1, v2, v3, v4, v5, v6, v7] cs) := fun y hb => (HIN.out.on hb hsw.out).at (by have := BIG.out; omega)
 clear hb1 hr0 hr1
 obtain ⟨y0, y1, y2, y3, y4, y5, y6, y7⟩ := CA.out _ HB1.out
 go_wp2_with fail
 refine (dToMachine [v0, v1, v2, v3, v4, v5, v6, v7] cs _ (INS.out _ (UP.out _ HB1.out)) HS.out).mono ?_
 rintro e w2 ⟨hb2, ss, S2, rfl, hO2⟩
 have HB2 : Hid (Below W.heap.size W w2) := HB1.out.trans (hb2.mono HB1.out.size)
 have SA : Hid (AtL true w2 ss cs) := hO2.at
 clear y0 y1 y2 y3 y4 y5 y6 y7 hO2 hb2
 go_wp2_with fail
 refine (specC ss cs _ SA.out HS.out BIG.out).mono ?_
 rintro e W4 ⟨B, ⟨rfl, hB⟩, hb3⟩
 have HBB : Hid (B = true ↔ JAll (maD cs) (rsD cs)) := hB
 have nb : (B != B) = false := by simp
 have HA4 : Hid (Below W.heap.size W W4) := HB2.out.trans (hb3.mono HB2.out.size)
 clear hb3 SA hB
 obtain ⟨y0, y1, y2, y3, y4, y5, y6, y7⟩ := CA.out _ HA4.out
 go_wp2_with fail
 refine (dToMachine [v0, v1, v2, v3, v4, v5, v6, v7] cs _ (INS.out _ (UP.out _ HA4.out)) HS.out).mono ?_
 rintro e w5 ⟨hb5, us, S5, rfl, hO5⟩
 obtain ⟨b0, m0, k0, b1, m1, k1, b2, m2, k2, j3, b4, m4, k4, b5, m5, k5, b6, m6, k6, j7, rfl⟩ := forms8 hO5.at HS.out
 obtain ⟨q5, hq5⟩ : ∃ q5, w5.heap.size = q5 := ⟨_, rfl⟩
 obtain ⟨W5, hW5⟩ : ∃ W5, w5.alloc (.cells #[(.slice b0 m0 k0), (.slice b1 m1 k1), (.slice b2 m2 k2), (.int .i64 j3), (.slice b4 m4 k4), (.slice b5 m5 k5), (.slice b6 m6 k6), (.int .i64 j7)] 43) = W5 := ⟨_, rfl⟩
 have hxW5 : Below w5.heap.size w5 W5 := by rw [← hW5]; exact (Below.refl _ _).alloc (Nat.le_refl _) _
 have X5 : Hid (Box W5 q5 #[(.slice b0 m0 k0), (.slice b1 m1 k1), (.slice b2 m2 k2), (.int .i64 j3), (.slice b4 m4 k4), (.slice b5 m5 k5), (.slice b6 m6 k6), (.int .i64 j7)] 43) := by rw [← hW5, ← hq5]; exact box_of w5 _ _
 have UA : Hid (AtL true W5 [(.slice b0 m0 k0), (.slice b1 m1 k1), (.slice b2 m2 k2), (.int .i64 j3), (.slice b4 m4 k4), (.slice b5 m5 k5), (.slice b6 m6 k6), (.int .i64 j7)] cs) := hO5.at.on hxW5 (Nat.le_refl _)
 have HB45 : Hid (Below W4.heap.size W4 W5) := hb5.trans (hxW5.mono hb5.size)
 have HA5 : Hid (Below W.heap.size W W5) := HA4.out.trans (HB45.out.mono HA4.out.size)
 have HW5 : Hid (w5.alloc (.cells #[(.slice b0 m0 k0), (.slice b1 m1 k1), (.slice b2 m2 k2), (.int .i64 j3), (.slice b4 m4 k4), (.slice b5 m5 k5), (.slice b6 m6 k6), (.int .i64 j7)] 43) = W5) := hW5
 have E5 : Hid (w5.heap.size = q5) := hq5
 clear hO5 hb5 hW5 hq5 hxW5 y0 y1 y2 y3 y4 y5 y6 y7
 go_upto_region 7 with (fail)
 rw [HW5.out]
 (try rw [E5.out])
 clear HW5 E5
 obtain ⟨y0, y1, y2, y3, y4, y5, y6, y7⟩ := eight_of X5.out
 go_wp2_with fail
 refine (implC [(.slice b0 m0 k0), (.slice b1 m1 k1), (.slice b2 m2 k2), (.int .i64 j3), (.slice b4 m4 k4), (.slice b5 m5 k5), (.slice b6 m6 k6), (.int .i64 j7)] cs _ UA.out HS.out BIG.out HWF.out (HEX.out.below (UP.out _ HA5.out) hsw.out)).mono ?_
 rintro e w7 ⟨B', ⟨rfl, hB'⟩, hb7⟩
 obtain rfl : B = B' := by
   have h1 := HBB.out
   rw [← hB'] at h1
   cases B <;> cases B' <;> simp at h1 ⊢
 have HB57 : Hid (Below W5.heap.size W5 w7) := hb7
 clear hb7 hB' y0 y1 y2 y3 y4 y5 y6 y7
 have KS : Hid (∀ y, Below w7.heap.size w7 y → (y.cell? ⟨q5, 0, none⟩ = some (.slice b0 m0 k0) ∧ y.cell? ⟨q5, 1, none⟩ = some (.slice b1 m1 k1) ∧ y.cell? ⟨q5, 2, none⟩ = some (.slice b2 m2 k2) ∧ y.cell? ⟨q5, 3, none⟩ = some (.int .i64 j3) ∧ y.cell? ⟨q5, 4, none⟩ = some (.slice b4 m4 k4) ∧ y.cell? ⟨q5, 5, none⟩ = some (.slice b5 m5 k5) ∧ y.cell? ⟨q5, 6, none⟩ = some (.slice b6 m6 k6) ∧ y.cell? ⟨q5, 7, none⟩ = some (.int .i64 j7)) ∧ y.cell? ⟨sz, 0, none⟩ = some v0 ∧ y.cell? ⟨sz, 1, none⟩ = some v1 ∧ y.cell? ⟨sz, 2, none⟩ = some v2 ∧ y.cell? ⟨sz, 3, none⟩ = some v3 ∧ y.cell? ⟨sz, 4, none⟩ = some v4 ∧ y.cell? ⟨sz, 5, none⟩ = some v5 ∧ y.cell? ⟨sz, 6, none⟩ = some v6 ∧ y.cell? ⟨sz, 7, none⟩ = some v7) := fun y hb => by
   have hb' : Below W5.heap.size W5 y := HB57.out.trans (hb.mono HB57.out.size)
   exact ⟨eight_of (X5.out.below hb' X5.out.lt), CA.out y (HA5.out.trans (hb'.mono HA5.out.size))⟩
 have K0 : Hid ((w7.drew.cell? ⟨q5, 0, none⟩ = some (.slice b0 m0 k0) ∧ w7.drew.cell? ⟨q5, 1, none⟩ = some (.slice b1 m1 k1) ∧ w7.drew.cell? ⟨q5, 2, none⟩ = some (.slice b2 m2 k2) ∧ w7.drew.cell? ⟨q5, 3, none⟩ = some (.int .i64 j3) ∧ w7.drew.cell? ⟨q5, 4, none⟩ = some (.slice b4 m4 k4) ∧ w7.drew.cell? ⟨q5, 5, none⟩ = some (.slice b5 m5 k5) ∧ w7.drew.cell? ⟨q5, 6, none⟩ = some (.slice b6 m6 k6) ∧ w7.drew.cell? ⟨q5, 7, none⟩ = some (.int .i64 j7)) ∧ w7.drew.cell? ⟨sz, 0, none⟩ = some v0 ∧ w7.drew.cell? ⟨sz, 1, none⟩ = some v1 ∧ w7.drew.cell? ⟨sz, 2, none⟩ = some v2 ∧ w7.drew.cell? ⟨sz, 3, none⟩ = some v3 ∧ w7.drew.cell? ⟨sz, 4, none⟩ = some v4 ∧ w7.drew.cell? ⟨sz, 5, none⟩ = some v5 ∧ w7.drew.cell? ⟨sz, 6, none⟩ = some v6 ∧ w7.drew.cell? ⟨sz, 7, none⟩ = some v7) := KS.out _ (Below.refl _ _).drew
 have HA7 : Hid (Below W.heap.size W w7) := HA5.out.trans (HB57.out.mono HA5.out.size)
 have INS7 : Hid (AtL false w7.drew [v0, v1, v2, v3, v4, v5, v6, v7] cs) := INS.out _ (UP.out _ HA7.out).drew
 have UA7 : Hid (AtL false w7 [(.slice b0 m0 k0), (.slice b1 m1 k1), (.slice b2 m2 k2), (.int .i64 j3), (.slice b4 m4 k4), (.slice b5 m5 k5), (.slice b6 m6 k6), (.int .i64 j7)] cs) := ⟨UA.out.1, fun j v c hv hc => ((UA.out.2 j v c hv hc).on HB57.out (Nat.le_refl _)).loose⟩
 go_upto_region 10 with (fail)
 go_region_held3 (fun w' => (w'.cell? ⟨q5, 0, none⟩ = some (.slice b0 m0 k0) ∧ w'.cell? ⟨q5, 1, none⟩ = some (.slice b1 m1 k1) ∧ w'.cell? ⟨q5, 2, none⟩ = some (.slice b2 m2 k2) ∧ w'.cell? ⟨q5, 3, none⟩ = some (.int .i64 j3) ∧ w'.cell? ⟨q5, 4, none⟩ = some (.slice b4 m4 k4) ∧ w'.cell? ⟨q5, 5, none⟩ = some (.slice b5 m5 k5) ∧ w'.cell? ⟨q5, 6, none⟩ = some (.slice b6 m6 k6) ∧ w'.cell? ⟨q5, 7, none⟩ = some (.int .i64 j7)) ∧ w'.cell? ⟨sz, 0, none⟩ = some v0 ∧ w'.cell? ⟨sz, 1, none⟩ = some v1 ∧ w'.cell? ⟨sz, 2, none⟩ = some v2 ∧ w'.cell? ⟨sz, 3, none⟩ = some v3 ∧ w'.cell? ⟨sz, 4, none⟩ = some v4 ∧ w'.cell? ⟨sz, 5, none⟩ = some v5 ∧ w'.cell? ⟨sz, 6, none⟩ = some v6 ∧ w'.cell? ⟨sz, 7, none⟩ = some v7)
   (first | (with_reducible exact K2.out) | (with_reducible exact K1.out) | (with_reducible exact K0.out) | go_keep)
   (first
   | (go_at_call 6
      refine (dToMachine [v0, v1, v2, v3, v4, v5, v6, v7] cs _ INS7.out HS.out).mono ?_
      rintro e w8 ⟨hb8, ts, S8, rfl, hO8⟩
      have hb8' : Below w7.heap.size w7 w8 := (Below.refl w7.heap.size w7).drew.trans hb8
      have HB8 : Hid (Below w7.heap.size w7 w8) := hb8'
      have SA8 : Hid (AtL false w8 ts cs) := ⟨hO8.1, fun j v c hv hc => (hO8.at.2 j v c hv hc).loose⟩
      have K1 : Hid ((w8.cell? ⟨q5, 0, none⟩ = some (.slice b0 m0 k0) ∧ w8.cell? ⟨q5, 1, none⟩ = some (.slice b1 m1 k1) ∧ w8.cell? ⟨q5, 2, none⟩ = some (.slice b2 m2 k2) ∧ w8.cell? ⟨q5, 3, none⟩ = some (.int .i64 j3) ∧ w8.cell? ⟨q5, 4, none⟩ = some (.slice b4 m4 k4) ∧ w8.cell? ⟨q5, 5, none⟩ = some (.slice b5 m5 k5) ∧ w8.cell? ⟨q5, 6, none⟩ = some (.slice b6 m6 k6) ∧ w8.cell? ⟨q5, 7, none⟩ = some (.int .i64 j7)) ∧ w8.cell? ⟨sz, 0, none⟩ = some v0 ∧ w8.cell? ⟨sz, 1, none⟩ = some v1 ∧ w8.cell? ⟨sz, 2, none⟩ = some v2 ∧ w8.cell? ⟨sz, 3, none⟩ = some v3 ∧ w8.cell? ⟨sz, 4, none⟩ = some v4 ∧ w8.cell? ⟨sz, 5, none⟩ = some v5 ∧ w8.cell? ⟨sz, 6, none⟩ = some v6 ∧ w8.cell? ⟨sz, 7, none⟩ = some v7) := KS.out _ hb8'
      clear hb8 hb8' hO8)
   | (go_at_call 8
      refine (dEqMachine [(.slice b0 m0 k0), (.slice b1 m1 k1), (.slice b2 m2 k2), (.int .i64 j3), (.slice b4 m4 k4), (.slice b5 m5 k5), (.slice b6 m6 k6), (.int .i64 j7)] ts cs _ (UA7.out.on HB8.out (Nat.le_refl _)) SA8.out HS.out).mono ?_
      rintro e w9 ⟨rfl, hb9⟩
      have hb9' : Below w7.heap.size w7 w9 := HB8.out.trans (hb9.mono HB8.out.size)
      have HB9 : Hid (Below w7.heap.size w7 w9) := hb9'
      have K2 : Hid ((w9.cell? ⟨q5, 0, none⟩ = some (.slice b0 m0 k0) ∧ w9.cell? ⟨q5, 1, none⟩ = some (.slice b1 m1 k1) ∧ w9.cell? ⟨q5, 2, none⟩ = some (.slice b2 m2 k2) ∧ w9.cell? ⟨q5, 3, none⟩ = some (.int .i64 j3) ∧ w9.cell? ⟨q5, 4, none⟩ = some (.slice b4 m4 k4) ∧ w9.cell? ⟨q5, 5, none⟩ = some (.slice b5 m5 k5) ∧ w9.cell? ⟨q5, 6, none⟩ = some (.slice b6 m6 k6) ∧ w9.cell? ⟨q5, 7, none⟩ = some (.int .i64 j7)) ∧ w9.cell? ⟨sz, 0, none⟩ = some v0 ∧ w9.cell? ⟨sz, 1, none⟩ = some v1 ∧ w9.cell? ⟨sz, 2, none⟩ = some v2 ∧ w9.cell? ⟨sz, 3, none⟩ = some v3 ∧ w9.cell? ⟨sz, 4, none⟩ = some v4 ∧ w9.cell? ⟨sz, 5, none⟩ = some v5 ∧ w9.cell? ⟨sz, 6, none⟩ = some v6 ∧ w9.cell? ⟨sz, 7, none⟩ = some v7) := KS.out _ hb9'
      clear hb9 hb9'))
 have hall : Below sz w w9 := UP.out _ (HA7.out.trans (HB9.out.mono HA7.out.size))
 clear K0 K1 K2 KS SA8 HB8 HB9
 go_wp2
 go_ret
 exact ⟨rfl, by rw [HSZ.out]; exact hall⟩
theorem vars_at {H : Type} (enc : TypeId × Value → H) {W : World} {a0 a1 a2 a3 : Addr} (h_errNoMachine : VarE W "loop.example/g00468/impl.errNoMachine" a0) (h_errNotSo : VarE W "loop.example/g00468/impl.errNotSo" a1) (h_wordNames : Names W) (h_errNotThen : VarE W "loop.example/g00468/impl.errNotThen" a2) (h_errNotBehind : VarE W "loop.example/g00468/impl.errNotBehind" a3) (sp : Nat → Bool) :
   DataW.TrodVars enc Tryz.prog W sp ["loop.example/g00468/impl.errNoMachine", "loop.example/g00468/impl.errNotSo", "loop.example/g00468/impl.wordNames", "loop.example/g00468/impl.errNotThen", "loop.example/g00468/impl.errNotBehind"] [tok enc (.iface 260 (.pointer (some a0))), tok enc (.iface 260 (.pointer (some a1))), namesD, tok enc (.iface 260 (.pointer (some a2))), tok enc (.iface 260 (.pointer (some a3)))] (MemPlace.row ⟨0, 0, none⟩ 1 ++ [] ++ (MemPlace.row ⟨1, 0, none⟩ 1 ++ [] ++ (MemPlace.row ⟨4, 0, none⟩ nmCells.size ++ [] ++ (MemPlace.row ⟨2, 0, none⟩ 1 ++ [] ++ (MemPlace.row ⟨3, 0, none⟩ 1 ++ [] ++ []))))) :=
 ⟨0, 96, #[.iface 260 (.pointer (some a0))], 1, [], _, gE_errNoMachine, tE_errNoMachine, h_errNoMachine, trod_held (v := .iface 260 (.pointer (some a0))) Tryz.underlying96 trivial 0, ⟨1, 96, #[.iface 260 (.pointer (some a1))], 1, [], _, gE_errNotSo, tE_errNotSo, h_errNotSo, trod_held (v := .iface 260 (.pointer (some a1))) Tryz.underlying96 trivial 0, ⟨4, 236, nmCells, 4, [], _, gNames, gNamesType, h_wordNames, reads_names enc W _ _ _, ⟨2, 96, #[.iface 260 (.pointer (some a2))], 1, [], _, gE_errNotThen, tE_errNotThen, h_errNotThen, trod_held (v := .iface 260 (.pointer (some a2))) Tryz.underlying96 trivial 0, ⟨3, 96, #[.iface 260 (.pointer (some a3))], 1, [], _, gE_errNotBehind, tE_errNotBehind, h_errNotBehind, trod_held (v := .iface 260 (.pointer (some a3))) Tryz.underlying96 trivial 0, rfl, rfl⟩, rfl⟩, rfl⟩, rfl⟩, rfl⟩
/-- The heap that the door's own run leaves meets the row's condition on its variables. -/
theorem door_met (os : Os) (args : Array Value) : laidMetH Tryz.prog Rows.fnExactJudgeAllRow.laid ((World.doorLaid Tryz.prog 200 os).forCall (fun _ _ => 0) ⟨#[], args, []⟩).memory :=
 laidMetH_of_parts3 (fuel := 8) (laidMet_of_run' 8 (by kernel_rfl) (by kernel_rfl)) (by kernel_rfl) (by kernel_rfl)
set_option maxRecDepth 100000 in
theorem lifted (os : Os) (started : os.Started) (H : Type) (enc : TypeId × Value → H) :
   ReturnsInHanded {} Tryz.checked os 3 .any (fun w args => (Rows.fnExactJudgeAllSpec.pre enc Tryz.prog Tryz.f3 [] false w args ∧ laidMetH Tryz.prog Rows.fnExactJudgeAllRow.laid w) ∧ sizedMet enc Tryz.prog Tryz.f3 (OpenSpec.ofChange Rows.fnExactJudgeAllSpec) false w args)
     (Rows.fnExactJudgeAllSpec.post enc Tryz.prog Tryz.f3 false true false false) := by
 refine returnsInHanded_of_change_and (C := Tryz.checked) (X := fun w _ => laidMetH Tryz.prog Rows.fnExactJudgeAllRow.laid w) (fun _ _ _ hh h => h.of_heap hh) own started (by kernel_rfl) Tryz.func3
   (ChangeSpec.witness_shaped (enc := enc) (C := Tryz.checked) (os := os) (X := fun w _ => laidMetH Tryz.prog Rows.fnExactJudgeAllRow.laid w) false (World.doorLaid Tryz.prog 200 os) #[.agg #[.slice none 0 0, .slice none 0 0, .slice none 0 0, .int .i64 0, .slice none 0 0, .slice none 0 0, .slice none 0 0, .int .i64 0]] 8 rfl (World.shaped_of_RefB (by kernel_rfl) (by kernel_rfl)) (by kernel_rfl) (by kernel_rfl) (by kernel_rfl) (door_met os _)) ?_
 intro W base args ds gs before hval0 hW _ _ hL _
 have hval : ∀ (j : Nat) t v, Tryz.f3.params[j]? = some t → args[j]? = some v → Value.okWide Tryz.prog W .any base t v := hval0
 have hW' := hW
 obtain ⟨p, q, hA0, hV0, rfl, hfz, hnd⟩ := hW
 have hA : DataW.TrodAll enc Tryz.prog W 0 (fun _ => true) true Tryz.f3.params.toList args.toList ds p := hA0
 have hV : DataW.TrodVars enc Tryz.prog W (fun _ => true) ["loop.example/g00468/impl.errNoMachine", "loop.example/g00468/impl.errNotSo", "loop.example/g00468/impl.wordNames", "loop.example/g00468/impl.errNotThen", "loop.example/g00468/impl.errNotBehind"] gs q := hV0
 have hL' : laidMet Tryz.prog Rows.fnExactJudgeAllRow.laid W := by rw [← MakeChecks.laidMetH_plain _ _ _ (by kernel_rfl)]; exact hL
 have h_wordNames := names_of_laid_r hL'
 obtain ⟨a0, a1, h_errNoMachine, h_errNotSo, hne, hb0, hb1⟩ := sent_two hL'.tail
 obtain ⟨a2, h_errNotThen⟩ := sent_errNotThen hL'.tail.tail.tail
 obtain ⟨a3, h_errNotBehind⟩ := sent_errNotBehind hL'.tail.tail.tail.tail
 obtain ⟨rfl, rfl⟩ := hV.unique (vars_at enc h_errNoMachine h_errNotSo h_wordNames h_errNotThen h_errNotBehind _)
 have hE : ErrA W := ⟨⟨a0, a1, h_errNoMachine.cell gE_errNoMachine, h_errNotSo.cell gE_errNotSo, hne, hb0, hb1⟩, h_wordNames, ⟨a0, a2, a3, h_errNoMachine.cell gE_errNoMachine, h_errNotThen.cell gE_errNotThen, h_errNotBehind.cell gE_errNotBehind⟩⟩
 rw [Tryz.params3] at hA hval
 obtain ⟨v0, d0, rfl, rfl, h0⟩ := trodAll_one hA
 have k0 := h0
 have lt0 : ∀ x ∈ p, x.block < W.heap.size := by obtain ⟨m, hm⟩ := k0; exact DataW.trod_lt m _ _ _ hm
 obtain ⟨vs, cs, rfl, hI, hH, hF⟩ := open_st Tryz.underlying32 flatMachine (hval 0 32 v0 rfl rfl) h0
 clear hA0 hV0 hval0
 refine (walk vs cs W hI hH hF hE).mono fun e W' ⟨he, bel⟩ => ?_
 subst he
 exact ⟨_, rfl, _, _, _, [], _, _, hW', trodAll_mk1 (shut_bool Tryz.underlying4 _), (trodAll_cons_mk (Below.trod laidOut (by kernel_rfl) (of_decide_eq_true (by kernel_rfl)) k0 bel lt0) trodAll_mk0), vars_at enc (h_errNoMachine.below gE_errNoMachine bel) (h_errNotSo.below gE_errNotSo bel) (h_wordNames.below bel h_wordNames.lt) (h_errNotThen.below gE_errNotThen bel) (h_errNotBehind.below gE_errNotBehind bel) _, bel.frame _, fun h => by cases h⟩
theorem row_holds : Rows.FnExactJudgeAllSaid :=
 OpenClaim.holds_of_wide 3 Tryz.f3 rfl rfl rfl rfl rfl rfl rfl ⟨rfl, rfl, rfl, rfl, rfl⟩ rfl rfl rfl rfl rfl (by kernel_rfl) Tryz.func3 (by kernel_rfl)
   (of_decide_eq_true (by kernel_rfl)) (by unfold Func.isWrapper; first | (rw [if_pos (by decide +kernel)]; kernel_rfl) | (rw [if_neg (by decide +kernel)]; exact ⟨rfl, rfl⟩))
   (fun os started H enc _ => lifted os started H enc)
end fnExactJudgeAll
theorem fnExactJudgeAll_holds : Rows.FnExactJudgeAllCardSaid :=
 Claim7.holds_tied_plain_at .later [] [.data, .sentinel, .sentinel, .sentinel, .sentinel] true Rows.fnExactJudgeAllCard.stood.harness Rows.fnExactJudgeAllCard.stood.looks
   fnExactJudgeAll.row_holds (fun _ h => by cases h) (by kernel_rfl) (fun _ h => by cases h) fnExactJudgeAll_row_tie rfl ⟨rfl, rfl⟩ (by kernel_rfl) rfl
   (fun f fn hf hfn => by
     obtain rfl : f = 3 := Option.some.inj ((show Tryz.prog.funcNamed Rows.fnExactJudgeAllRow.func = some 3 by kernel_rfl).symm.trans hf) |>.symm
     obtain rfl : fn = Tryz.f3 := (Option.some.inj (Tryz.func3.symm.trans hfn)).symm
     exact ⟨by kernel_rfl, fun j t ht => by
       rw [Tryz.params3] at ht
       have hm : t ∈ [32] := by simpa using Array.mem_of_getElem? ht
       have hall : ([32].all fun u => !Tryz.prog.wantsStandIn u) = true := by kernel_rfl
       exact (show Tryz.prog.wantsStandIn t = false by simpa using List.all_eq_true.1 hall t hm)⟩)
   (by kernel_rfl)
#print axioms fnExactJudgeAll_holds
end Go.Proofs.YtbfolanfbagofaaGreatDoor
