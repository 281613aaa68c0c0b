/- FnExactMachineText: of every machine the program's MachineText answers as the specification's, at every argument, and writes nothing that was there; the program's tables of names and of powers of ten are as its text lays them. -/
import Derived.Test.YtkbodiggdajbeaaGreatDoorRows
import Derived.Test.YtkbodiggdajbeaaGreatDoorTie
import Derived.Test.YtkbodiggdajbeaaGreatDoorCards
import Derived.Test.YtkbodiggdajbeaaGreatDoorMT08
import Derived.Test.YtkbodiggdajbeaaGreatDoorMT06
import Derived.Test.YtkbodiggdajbeaaGreatDoorMT09
import Derived.Test.YtkbodiggdajbeaaGreatDoorMT11
import Derived.Test.YtkbodiggdajbeaaGreatDoorMT12
import Derived.WalkKit
import Derived.ProofKit
import Derived.OpenShut
import Derived.ChangeOld
import Derived.Below
import Derived.LaidMore
import Derived.Stop.Joined
import Derived.Stop.LaidErr
import Derived.Lib.LaidTab
import Derived.Lib.SmallJoins
import Derived.MakeChecks
import Derived.SevenTiedAt
import Derived.Deep.RegionHeld3
import Derived.Deep.Cut
namespace Go.Proofs.YtkbodiggdajbeaaGreatDoor
open Go.ChangeShapes Go.WideShapes Go.ChangeAt Go.RowKit Go.Joins

namespace fnExactMachineText
theorem own : ownKnob Tryz.prog.godebug = none := by kernel_rfl
theorem laidOut : laidOutB Tryz.prog = true := by kernel_rfl
theorem names_three {H : Type} (enc : TypeId × Value → H) {W : World} (h0 : Names W) (h1 : OpNamesIs W) (h2 : ResNamesIs W) (sp : Nat → Bool) :
    DataW.TrodVars enc Tryz.prog W sp ["loop.example/g00468/impl.wordNames", "loop.example/g00468/impl.opNames", "loop.example/g00468/impl.resNames"] [namesD, strD namesT, strD codesR] (MemPlace.row ⟨1, 0, none⟩ nmCells.size ++ [] ++ (MemPlace.row ⟨0, 0, none⟩ (namesT.map S).toArray.size ++ [] ++ (MemPlace.row ⟨2, 0, none⟩ (codesR.map S).toArray.size ++ [] ++ []))) :=
  ⟨1, 183, nmCells, 4, [], _, gNames, gNamesType, h0, reads_names enc W _ _ _, ⟨0, 162, (namesT.map S).toArray, 4, [], _, gOpNames, tOpNames, h1, OpNames_reads enc W _ _ _, ⟨2, 192, (codesR.map S).toArray, 4, [], _, gResNames, tResNames, h2, ResNames_reads enc W _ _ _, rfl, rfl⟩, rfl⟩, rfl⟩
theorem forms {q : Bool} {w : World} {us : List Value} {cs : List Cel} (h : AtL q w us cs) (hs : HasL cs tyMachine) : ∃ b0 m0 k0 b1 m1 k1 b2 m2 k2 j3 b4 m4 k4 b5 m5 k5 b6 m6 k6 j7, us = [.slice b0 m0 k0, .slice b1 m1 k1, .slice b2 m2 k2, .int .i64 j3, .slice b4 m4 k4, .slice b5 m5 k5, .slice b6 m6 k6, .int .i64 j7] := by
  obtain ⟨x0, r0, rfl, T0, hH0⟩ := hs.cons
  obtain ⟨x1, r1, rfl, T1, hH1⟩ := hH0.cons
  obtain ⟨x2, r2, rfl, T2, hH2⟩ := hH1.cons
  obtain ⟨x3, r3, rfl, T3, hH3⟩ := hH2.cons
  obtain ⟨x4, r4, rfl, T4, hH4⟩ := hH3.cons
  obtain ⟨x5, r5, rfl, T5, hH5⟩ := hH4.cons
  obtain ⟨x6, r6, rfl, T6, hH6⟩ := hH5.cons
  obtain ⟨x7, r7, rfl, T7, hH7⟩ := hH6.cons
  obtain rfl := hH7.nil
  obtain ⟨v0, vr0, rfl, A0, hA0⟩ := h.consE
  obtain ⟨v1, vr1, rfl, A1, hA1⟩ := hA0.consE
  obtain ⟨v2, vr2, rfl, A2, hA2⟩ := hA1.consE
  obtain ⟨v3, vr3, rfl, A3, hA3⟩ := hA2.consE
  obtain ⟨v4, vr4, rfl, A4, hA4⟩ := hA3.consE
  obtain ⟨v5, vr5, rfl, A5, hA5⟩ := hA4.consE
  obtain ⟨v6, vr6, rfl, A6, hA6⟩ := hA5.consE
  obtain ⟨v7, vr7, rfl, A7, hA7⟩ := hA6.consE
  obtain rfl := hA7.nilE
  obtain ⟨n0, l0, rfl, e0⟩ := T0.list
  obtain ⟨a0, c0, rfl⟩ := A0.slice
  obtain ⟨n1, l1, rfl, e1⟩ := T1.list
  obtain ⟨a1, c1, rfl⟩ := A1.slice
  obtain ⟨n2, l2, rfl, e2⟩ := T2.list
  obtain ⟨a2, c2, rfl⟩ := A2.slice
  obtain ⟨y3, rfl⟩ := T3.int
  obtain rfl := A3.int
  obtain ⟨n4, l4, rfl, e4⟩ := T4.list
  obtain ⟨a4, c4, rfl⟩ := A4.slice
  obtain ⟨n5, l5, rfl, e5⟩ := T5.list
  obtain ⟨a5, c5, rfl⟩ := A5.slice
  obtain ⟨n6, l6, rfl, e6⟩ := T6.list
  obtain ⟨a6, c6, rfl⟩ := A6.slice
  obtain ⟨y7, rfl⟩ := T7.int
  obtain rfl := A7.int
  exact ⟨_, _, _, _, _, _, _, _, _, _, _, _, _, _, _, _, _, _, _, _, rfl⟩
theorem specC (us : List Value) (cs : List Cel) (w : World) (h : AtL true w us cs) (hs : HasL cs tyMachine) (hb : bigL cs ≤ 1048576) (hw : WfL cs) :
    Calls Tryz.prog 5 #[.agg us.toArray] w fun e w' => TextSays e (machB (maD cs) (rsD cs)) ∧ Below w.heap.size w w' := by
  obtain ⟨wa, wc, da, dc, ta, tc, ca, cc, oa, oc, ha, hc, e, hM, hC, hh, hR⟩ := at_machine_r h hs hb
  rw [e]
  exact specMachineText_any wa wc da dc ta tc ca cc oa oc ha hc (maD cs) (rsD cs) w hM hR (rowsWf_of hw) (callsWf_of hs hw hb).1
theorem implC (us : List Value) (cs : List Cel) (w : World) (h : AtL true w us cs) (hs : HasL cs tyMachine) (hb : bigL cs ≤ 1048576) (hw : WfL cs) (hT : TabsM w) :
    Calls Tryz.prog 7 #[.agg us.toArray] w fun e w' => TextSays e (machB (maD cs) (rsD cs)) ∧ Below w.heap.size w w' := by
  obtain ⟨wa, wc, da, dc, ta, tc, ca, cc, oa, oc, ha, hc, e, hM, hC, hh, hR⟩ := at_machine_r h hs hb
  rw [e]
  exact implMachineText_any wa wc da dc ta tc ca cc oa oc ha hc (maD cs) (rsD cs) w hM hR (rowsWf_of hw) (callsWf_of hs hw hb).1 hT (callsWf_of hs hw hb).2
set_option maxHeartbeats 16000000 in
set_option maxRecDepth 100000 in
theorem walk (vs : List Value) (cs : List Cel) (w : World) (h : InL w vs cs) (hs : HasL cs tyMachine) (hw : WfL cs) (hE : TabsM w) :
    Calls Tryz.prog 3 #[.agg vs.toArray] w fun e w' => e = .returned (.bool true) ∧ Below w.heap.size w w' := by
  have hl8 : vs.length = 8 := by rw [h.1, hs.1]; rfl
  obtain ⟨v0, v1, v2, v3, v4, v5, v6, v7, rfl⟩ : ∃ v0 v1 v2 v3 v4 v5 v6 v7, vs = [v0, v1, v2, v3, v4, v5, v6, v7] := by
    match vs, hl8 with
    | [a0, a1, a2, a3, a4, a5, a6, a7], _ => exact ⟨_, _, _, _, _, _, _, _, rfl⟩
  have HIN : Hid (InL w [v0, v1, v2, v3, v4, v5, v6, v7] cs) := h
  have HS : Hid (HasL cs tyMachine) := hs
  have HWF : Hid (WfL cs) := hw
  have HEX : Hid (TabsM w) := hE
  obtain ⟨sz, hsz⟩ : ∃ sz, w.heap.size = sz := ⟨_, rfl⟩
  obtain ⟨W, hW⟩ : ∃ W, w.alloc (.cells #[v0, v1, v2, v3, v4, v5, v6, v7] 32) = W := ⟨_, rfl⟩
  have hb0 : Below sz w W := by rw [← hW, ← hsz]; exact (Below.refl _ w).alloc (Nat.le_refl _) _
  have hWs : W.heap.size = sz + 1 := by rw [← hW, ← hsz]; simp
  have XA : Hid (Box W sz #[v0, v1, v2, v3, v4, v5, v6, v7] 32) := by rw [← hW, ← hsz]; exact (box_of w _ _)
  have HW : Hid (w.alloc (.cells #[v0, v1, v2, v3, v4, v5, v6, v7] 32) = W) := hW
  have HSZ : Hid (w.heap.size = sz) := hsz
  have HB0 : Hid (Below sz w W) := hb0
  have HWS : Hid (W.heap.size = sz + 1) := hWs
  have hsw : Hid (w.heap.size ≤ sz) := by rw [hsz]; exact Nat.le_refl _
  have CA : Hid (∀ y, Below W.heap.size W y → y.cell? ⟨sz, 0, none⟩ = some v0 ∧ y.cell? ⟨sz, 1, none⟩ = some v1 ∧ y.cell? ⟨sz, 2, none⟩ = some v2 ∧ y.cell? ⟨sz, 3, none⟩ = some v3 ∧ y.cell? ⟨sz, 4, none⟩ = some v4 ∧ y.cell? ⟨sz, 5, none⟩ = some v5 ∧ y.cell? ⟨sz, 6, none⟩ = some v6 ∧ y.cell? ⟨sz, 7, none⟩ = some v7) := fun y hb => eight_of (XA.out.below hb XA.out.lt)
  have UP : Hid (∀ y, Below W.heap.size W y → Below sz w y) := fun y hb => HB0.out.trans (hb.mono (by have := HWS.out; omega))
  clear hW hb0 hWs hsz h hs hw hl8 hE
  show Calls Tryz.prog 3 #[.agg #[v0, v1, v2, v3, v4, v5, v6, v7]] w fun e w' => e = .returned (.bool true) ∧ Below w.heap.size w w'
  go_enter Tryz.func3, Tryz.ntmps3
  go_wp2_with fail
  rw [HW.out]
  (try rw [HSZ.out])
  refine (dSzMachine [v0, v1, v2, v3, v4, v5, v6, v7] cs 1048576 W (HIN.out.on HB0.out hsw.out) HS.out (by omega) (by omega)).mono ?_
  rintro e w1 ⟨hb1, ⟨r, rfl, hr0, hr1⟩ | ⟨rfl, hbig⟩⟩
  case inr =>
    have hall : Below sz w w1 := UP.out _ hb1
    clear hb1 hbig
    go_wp2
    go_ret
    exact ⟨rfl, by rw [HSZ.out]; exact hall⟩
  have BIG : Hid (bigL cs ≤ 1048576) := by show _ ≤ _; omega
  have hr2 : ¬ r < 0 := by omega
  have hr3 : decide (r < 0) = false := decide_eq_false hr2
  have HB1 : Hid (Below W.heap.size W w1) := hb1
  have INS : Hid (∀ y, Below sz w y → AtL false y [v0, v1, v2, v3, v4, v5, v6, v7] cs) := fun y hb => (HIN.out.on hb hsw.out).at (by have := BIG.out; omega)
  clear hb1 hr0 hr1
  obtain ⟨y0, y1, y2, y3, y4, y5, y6, y7⟩ := CA.out _ HB1.out
  go_wp2_with fail
  refine (dToMachine [v0, v1, v2, v3, v4, v5, v6, v7] cs _ (INS.out _ (UP.out _ HB1.out)) HS.out).mono ?_
  rintro e w2 ⟨hb2, ss, S2, rfl, hO2⟩
  have HB2 : Hid (Below W.heap.size W w2) := HB1.out.trans (hb2.mono HB1.out.size)
  have SA : Hid (AtL true w2 ss cs) := hO2.at
  clear y0 y1 y2 y3 y4 y5 y6 y7 hO2 hb2
  go_wp2_with fail
  refine (specC ss cs _ SA.out HS.out BIG.out HWF.out).mono ?_
  rintro e W4 ⟨⟨s4, rfl, hs4⟩, hb3⟩
  have HS4 : Hid (s4.data.toList = machB (maD cs) (rsD cs)) := hs4
  have HA4 : Hid (Below W.heap.size W W4) := HB2.out.trans (hb3.mono HB2.out.size)
  clear hb3 SA hs4
  obtain ⟨y0, y1, y2, y3, y4, y5, y6, y7⟩ := CA.out _ HA4.out
  go_wp2_with fail
  refine (dToMachine [v0, v1, v2, v3, v4, v5, v6, v7] cs _ (INS.out _ (UP.out _ HA4.out)) HS.out).mono ?_
  rintro e w5 ⟨hb5, us, S5, rfl, hO5⟩
  obtain ⟨b0, m0, k0, b1, m1, k1, b2, m2, k2, j3, b4, m4, k4, b5, m5, k5, b6, m6, k6, j7, rfl⟩ := forms hO5.at HS.out
  obtain ⟨q5, hq5⟩ : ∃ q5, w5.heap.size = q5 := ⟨_, rfl⟩
  obtain ⟨W5, hW5⟩ : ∃ W5, w5.alloc (.cells #[(.slice b0 m0 k0), (.slice b1 m1 k1), (.slice b2 m2 k2), (.int .i64 j3), (.slice b4 m4 k4), (.slice b5 m5 k5), (.slice b6 m6 k6), (.int .i64 j7)] 43) = W5 := ⟨_, rfl⟩
  have hxW5 : Below w5.heap.size w5 W5 := by rw [← hW5]; exact (Below.refl _ _).alloc (Nat.le_refl _) _
  have X5 : Hid (Box W5 q5 #[(.slice b0 m0 k0), (.slice b1 m1 k1), (.slice b2 m2 k2), (.int .i64 j3), (.slice b4 m4 k4), (.slice b5 m5 k5), (.slice b6 m6 k6), (.int .i64 j7)] 43) := by rw [← hW5, ← hq5]; exact box_of w5 _ _
  have UA : Hid (AtL true W5 [(.slice b0 m0 k0), (.slice b1 m1 k1), (.slice b2 m2 k2), (.int .i64 j3), (.slice b4 m4 k4), (.slice b5 m5 k5), (.slice b6 m6 k6), (.int .i64 j7)] cs) := hO5.at.on hxW5 (Nat.le_refl _)
  have HB45 : Hid (Below W4.heap.size W4 W5) := hb5.trans (hxW5.mono hb5.size)
  have HA5 : Hid (Below W.heap.size W W5) := HA4.out.trans (HB45.out.mono HA4.out.size)
  have HW5 : Hid (w5.alloc (.cells #[(.slice b0 m0 k0), (.slice b1 m1 k1), (.slice b2 m2 k2), (.int .i64 j3), (.slice b4 m4 k4), (.slice b5 m5 k5), (.slice b6 m6 k6), (.int .i64 j7)] 43) = W5) := hW5
  have E5 : Hid (w5.heap.size = q5) := hq5
  clear hO5 hb5 hW5 hq5 hxW5 y0 y1 y2 y3 y4 y5 y6 y7
  go_upto_region 7 with (fail)
  rw [HW5.out]
  (try rw [E5.out])
  clear HW5 E5
  obtain ⟨y0, y1, y2, y3, y4, y5, y6, y7⟩ := eight_of X5.out
  go_wp2_with fail
  refine (implC [(.slice b0 m0 k0), (.slice b1 m1 k1), (.slice b2 m2 k2), (.int .i64 j3), (.slice b4 m4 k4), (.slice b5 m5 k5), (.slice b6 m6 k6), (.int .i64 j7)] cs _ UA.out HS.out BIG.out HWF.out (HEX.out.below (UP.out _ HA5.out) hsw.out)).mono ?_
  rintro e w7 ⟨⟨s7, rfl, hs7⟩, hb7⟩
  obtain rfl : s4 = s7 := str_eq (HS4.out.trans hs7.symm)
  have HB57 : Hid (Below W5.heap.size W5 w7) := hb7
  clear hb7 hs7 y0 y1 y2 y3 y4 y5 y6 y7
  have KS : Hid (∀ y, Below w7.heap.size w7 y → (y.cell? ⟨q5, 0, none⟩ = some (.slice b0 m0 k0) ∧ y.cell? ⟨q5, 1, none⟩ = some (.slice b1 m1 k1) ∧ y.cell? ⟨q5, 2, none⟩ = some (.slice b2 m2 k2) ∧ y.cell? ⟨q5, 3, none⟩ = some (.int .i64 j3) ∧ y.cell? ⟨q5, 4, none⟩ = some (.slice b4 m4 k4) ∧ y.cell? ⟨q5, 5, none⟩ = some (.slice b5 m5 k5) ∧ y.cell? ⟨q5, 6, none⟩ = some (.slice b6 m6 k6) ∧ y.cell? ⟨q5, 7, none⟩ = some (.int .i64 j7)) ∧ y.cell? ⟨sz, 0, none⟩ = some v0 ∧ y.cell? ⟨sz, 1, none⟩ = some v1 ∧ y.cell? ⟨sz, 2, none⟩ = some v2 ∧ y.cell? ⟨sz, 3, none⟩ = some v3 ∧ y.cell? ⟨sz, 4, none⟩ = some v4 ∧ y.cell? ⟨sz, 5, none⟩ = some v5 ∧ y.cell? ⟨sz, 6, none⟩ = some v6 ∧ y.cell? ⟨sz, 7, none⟩ = some v7) := fun y hb => by
    have hb' : Below W5.heap.size W5 y := HB57.out.trans (hb.mono HB57.out.size)
    exact ⟨eight_of (X5.out.below hb' X5.out.lt), CA.out y (HA5.out.trans (hb'.mono HA5.out.size))⟩
  have K0 : Hid ((w7.drew.cell? ⟨q5, 0, none⟩ = some (.slice b0 m0 k0) ∧ w7.drew.cell? ⟨q5, 1, none⟩ = some (.slice b1 m1 k1) ∧ w7.drew.cell? ⟨q5, 2, none⟩ = some (.slice b2 m2 k2) ∧ w7.drew.cell? ⟨q5, 3, none⟩ = some (.int .i64 j3) ∧ w7.drew.cell? ⟨q5, 4, none⟩ = some (.slice b4 m4 k4) ∧ w7.drew.cell? ⟨q5, 5, none⟩ = some (.slice b5 m5 k5) ∧ w7.drew.cell? ⟨q5, 6, none⟩ = some (.slice b6 m6 k6) ∧ w7.drew.cell? ⟨q5, 7, none⟩ = some (.int .i64 j7)) ∧ w7.drew.cell? ⟨sz, 0, none⟩ = some v0 ∧ w7.drew.cell? ⟨sz, 1, none⟩ = some v1 ∧ w7.drew.cell? ⟨sz, 2, none⟩ = some v2 ∧ w7.drew.cell? ⟨sz, 3, none⟩ = some v3 ∧ w7.drew.cell? ⟨sz, 4, none⟩ = some v4 ∧ w7.drew.cell? ⟨sz, 5, none⟩ = some v5 ∧ w7.drew.cell? ⟨sz, 6, none⟩ = some v6 ∧ w7.drew.cell? ⟨sz, 7, none⟩ = some v7) := KS.out _ (Below.refl _ _).drew
  have HA7 : Hid (Below W.heap.size W w7) := HA5.out.trans (HB57.out.mono HA5.out.size)
  have INS7 : Hid (AtL false w7.drew [v0, v1, v2, v3, v4, v5, v6, v7] cs) := INS.out _ (UP.out _ HA7.out).drew
  have UA7 : Hid (AtL false w7 [(.slice b0 m0 k0), (.slice b1 m1 k1), (.slice b2 m2 k2), (.int .i64 j3), (.slice b4 m4 k4), (.slice b5 m5 k5), (.slice b6 m6 k6), (.int .i64 j7)] cs) := ⟨UA.out.1, fun j v c hv hc => ((UA.out.2 j v c hv hc).on HB57.out (Nat.le_refl _)).loose⟩
  go_upto_region 10 with (fail)
  go_region_held3 (fun w' => (w'.cell? ⟨q5, 0, none⟩ = some (.slice b0 m0 k0) ∧ w'.cell? ⟨q5, 1, none⟩ = some (.slice b1 m1 k1) ∧ w'.cell? ⟨q5, 2, none⟩ = some (.slice b2 m2 k2) ∧ w'.cell? ⟨q5, 3, none⟩ = some (.int .i64 j3) ∧ w'.cell? ⟨q5, 4, none⟩ = some (.slice b4 m4 k4) ∧ w'.cell? ⟨q5, 5, none⟩ = some (.slice b5 m5 k5) ∧ w'.cell? ⟨q5, 6, none⟩ = some (.slice b6 m6 k6) ∧ w'.cell? ⟨q5, 7, none⟩ = some (.int .i64 j7)) ∧ w'.cell? ⟨sz, 0, none⟩ = some v0 ∧ w'.cell? ⟨sz, 1, none⟩ = some v1 ∧ w'.cell? ⟨sz, 2, none⟩ = some v2 ∧ w'.cell? ⟨sz, 3, none⟩ = some v3 ∧ w'.cell? ⟨sz, 4, none⟩ = some v4 ∧ w'.cell? ⟨sz, 5, none⟩ = some v5 ∧ w'.cell? ⟨sz, 6, none⟩ = some v6 ∧ w'.cell? ⟨sz, 7, none⟩ = some v7)
    (first | (with_reducible exact K2.out) | (with_reducible exact K1.out) | (with_reducible exact K0.out) | go_keep)
    (first
    | (go_at_call 6
       refine (dToMachine [v0, v1, v2, v3, v4, v5, v6, v7] cs _ INS7.out HS.out).mono ?_
       rintro e w8 ⟨hb8, ts, S8, rfl, hO8⟩
       have hb8' : Below w7.heap.size w7 w8 := (Below.refl w7.heap.size w7).drew.trans hb8
       have HB8 : Hid (Below w7.heap.size w7 w8) := hb8'
       have SA8 : Hid (AtL false w8 ts cs) := ⟨hO8.1, fun j v c hv hc => (hO8.at.2 j v c hv hc).loose⟩
       have K1 : Hid ((w8.cell? ⟨q5, 0, none⟩ = some (.slice b0 m0 k0) ∧ w8.cell? ⟨q5, 1, none⟩ = some (.slice b1 m1 k1) ∧ w8.cell? ⟨q5, 2, none⟩ = some (.slice b2 m2 k2) ∧ w8.cell? ⟨q5, 3, none⟩ = some (.int .i64 j3) ∧ w8.cell? ⟨q5, 4, none⟩ = some (.slice b4 m4 k4) ∧ w8.cell? ⟨q5, 5, none⟩ = some (.slice b5 m5 k5) ∧ w8.cell? ⟨q5, 6, none⟩ = some (.slice b6 m6 k6) ∧ w8.cell? ⟨q5, 7, none⟩ = some (.int .i64 j7)) ∧ w8.cell? ⟨sz, 0, none⟩ = some v0 ∧ w8.cell? ⟨sz, 1, none⟩ = some v1 ∧ w8.cell? ⟨sz, 2, none⟩ = some v2 ∧ w8.cell? ⟨sz, 3, none⟩ = some v3 ∧ w8.cell? ⟨sz, 4, none⟩ = some v4 ∧ w8.cell? ⟨sz, 5, none⟩ = some v5 ∧ w8.cell? ⟨sz, 6, none⟩ = some v6 ∧ w8.cell? ⟨sz, 7, none⟩ = some v7) := KS.out _ hb8'
       clear hb8 hb8' hO8)
    | (go_at_call 8
       refine (dEqMachine [(.slice b0 m0 k0), (.slice b1 m1 k1), (.slice b2 m2 k2), (.int .i64 j3), (.slice b4 m4 k4), (.slice b5 m5 k5), (.slice b6 m6 k6), (.int .i64 j7)] ts cs _ (UA7.out.on HB8.out (Nat.le_refl _)) SA8.out HS.out).mono ?_
       rintro e w9 ⟨rfl, hb9⟩
       have hb9' : Below w7.heap.size w7 w9 := HB8.out.trans (hb9.mono HB8.out.size)
       have HB9 : Hid (Below w7.heap.size w7 w9) := hb9'
       have K2 : Hid ((w9.cell? ⟨q5, 0, none⟩ = some (.slice b0 m0 k0) ∧ w9.cell? ⟨q5, 1, none⟩ = some (.slice b1 m1 k1) ∧ w9.cell? ⟨q5, 2, none⟩ = some (.slice b2 m2 k2) ∧ w9.cell? ⟨q5, 3, none⟩ = some (.int .i64 j3) ∧ w9.cell? ⟨q5, 4, none⟩ = some (.slice b4 m4 k4) ∧ w9.cell? ⟨q5, 5, none⟩ = some (.slice b5 m5 k5) ∧ w9.cell? ⟨q5, 6, none⟩ = some (.slice b6 m6 k6) ∧ w9.cell? ⟨q5, 7, none⟩ = some (.int .i64 j7)) ∧ w9.cell? ⟨sz, 0, none⟩ = some v0 ∧ w9.cell? ⟨sz, 1, none⟩ = some v1 ∧ w9.cell? ⟨sz, 2, none⟩ = some v2 ∧ w9.cell? ⟨sz, 3, none⟩ = some v3 ∧ w9.cell? ⟨sz, 4, none⟩ = some v4 ∧ w9.cell? ⟨sz, 5, none⟩ = some v5 ∧ w9.cell? ⟨sz, 6, none⟩ = some v6 ∧ w9.cell? ⟨sz, 7, none⟩ = some v7) := KS.out _ hb9'
       clear hb9 hb9'))
  have hall : Below sz w w9 := UP.out _ (HA7.out.trans (HB9.out.mono HA7.out.size))
  clear K0 K1 K2 KS SA8 HB8 HB9
  go_wp2
  go_ret
  exact ⟨rfl, by rw [HSZ.out]; exact hall⟩

/-- The heap that the door's own run leaves meets the row's condition on the tables. -/
theorem door_met (os : Os) (args : Array Value) : laidMetH Tryz.prog Rows.fnExactMachineTextRow.laid ((World.doorLaid Tryz.prog 200 os).forCall (fun _ _ => 0) ⟨#[], args, []⟩).memory :=
  laidMetH_of_parts3 (fuel := 8) (laidMet_of_run' 8 (by kernel_rfl) (by kernel_rfl)) (by kernel_rfl) (by kernel_rfl)
theorem of_laid {W : World} (h : laidMetH Tryz.prog Rows.fnExactMachineTextRow.laid W) : TabsM W := by
  rw [MakeChecks.laidMetH_plain _ _ _ (by kernel_rfl)] at h
  have h_wordNames : laidMet Tryz.prog [("loop.example/g00468/impl.wordNames", namesD), ("internal/strconv.uint64pow10", Rows.laid_internal_strconv_uint64pow10), ("math/bits.deBruijn32tab", Rows.laid_math_bits_deBruijn32tab), ("math/bits.deBruijn64tab", Rows.laid_math_bits_deBruijn64tab), ("loop.example/g00468/impl.opNames", Rows.laid_loop_example_g00468_impl_opNames), ("loop.example/g00468/impl.resNames", Rows.laid_loop_example_g00468_impl_resNames)] W := h
  have h_pow : laidMet Tryz.prog [("internal/strconv.uint64pow10", Rows.laid_internal_strconv_uint64pow10), ("math/bits.deBruijn32tab", Rows.laid_math_bits_deBruijn32tab), ("math/bits.deBruijn64tab", Rows.laid_math_bits_deBruijn64tab), ("loop.example/g00468/impl.opNames", Rows.laid_loop_example_g00468_impl_opNames), ("loop.example/g00468/impl.resNames", Rows.laid_loop_example_g00468_impl_resNames)] W := (laidMet.tail (h))
  have h_opNames : laidMet Tryz.prog [("loop.example/g00468/impl.opNames", Rows.laid_loop_example_g00468_impl_opNames), ("loop.example/g00468/impl.resNames", Rows.laid_loop_example_g00468_impl_resNames)] W := (laidMet.tail (laidMet.tail (laidMet.tail (laidMet.tail (h)))))
  have h_resNames : laidMet Tryz.prog [("loop.example/g00468/impl.resNames", Rows.laid_loop_example_g00468_impl_resNames)] W := (laidMet.tail (laidMet.tail (laidMet.tail (laidMet.tail (laidMet.tail (h))))))
  rw [tab_is] at h_pow
  exact ⟨names_of_laid_r h_wordNames, OpNames_of_laid h_opNames, ResNames_of_laid h_resNames, Lib.tabIs_of_head gTab tTab Tryz.underlying224 Tryz.underlying217 cU64 cTab h_pow⟩
set_option maxRecDepth 100000 in
theorem lifted (os : Os) (started : os.Started) (H : Type) (enc : TypeId × Value → H) :
    ReturnsInHanded {} Tryz.checked os 3 .any (fun w args => (Rows.fnExactMachineTextSpec.pre enc Tryz.prog Tryz.f3 [] false w args ∧ laidMetH Tryz.prog Rows.fnExactMachineTextRow.laid w) ∧ sizedMet enc Tryz.prog Tryz.f3 (OpenSpec.ofChange Rows.fnExactMachineTextSpec) false w args)
      (Rows.fnExactMachineTextSpec.post enc Tryz.prog Tryz.f3 false true false false) := by
  refine returnsInHanded_of_change_and (C := Tryz.checked) (X := fun w _ => laidMetH Tryz.prog Rows.fnExactMachineTextRow.laid w) (fun _ _ _ hh h => h.of_heap hh) own started (by kernel_rfl) Tryz.func3
    (ChangeSpec.witness_shaped (enc := enc) (C := Tryz.checked) (os := os) (X := fun w _ => laidMetH Tryz.prog Rows.fnExactMachineTextRow.laid w) false (World.doorLaid Tryz.prog 200 os) #[.agg #[.slice none 0 0, .slice none 0 0, .slice none 0 0, .int .i64 0, .slice none 0 0, .slice none 0 0, .slice none 0 0, .int .i64 0]] 8 rfl (World.shaped_of_RefB (by kernel_rfl) (by kernel_rfl)) (by kernel_rfl) (by kernel_rfl) (by kernel_rfl) (door_met os _)) ?_
  intro W base args ds gs before hval0 hW _ _ hL _
  have hval : ∀ (j : Nat) t v, Tryz.f3.params[j]? = some t → args[j]? = some v → Value.okWide Tryz.prog W .any base t v := hval0
  have hW' := hW
  obtain ⟨p, q, hA0, hV0, rfl, hfz, hnd⟩ := hW
  have hA : DataW.TrodAll enc Tryz.prog W 0 (fun _ => true) true Tryz.f3.params.toList args.toList ds p := hA0
  have hV : DataW.TrodVars enc Tryz.prog W (fun _ => true) ["loop.example/g00468/impl.wordNames", "loop.example/g00468/impl.opNames", "loop.example/g00468/impl.resNames"] gs q := hV0
  have hT := of_laid hL
  obtain ⟨rfl, rfl⟩ := hV.unique (names_three enc hT.1 hT.2.1 hT.2.2.1 _)
  rw [Tryz.params3] at hA hval
  obtain ⟨v0, d0, rfl, rfl, h0⟩ := trodAll_one hA
  have k0 := h0
  have lt0 : ∀ x ∈ p, x.block < W.heap.size := by obtain ⟨m, hm⟩ := k0; exact DataW.trod_lt m _ _ _ hm
  obtain ⟨vs, cs, rfl, hI, hH, hF⟩ := open_st Tryz.underlying32 flatMachine (hval 0 32 v0 rfl rfl) h0
  clear hA0 hV0 hval0
  refine (walk vs cs W hI hH hF hT).mono fun e W' ⟨he, bel⟩ => ?_
  subst he
  exact ⟨_, rfl, _, _, _, [], _, _, hW', trodAll_mk1 (shut_bool Tryz.underlying4 _), (trodAll_cons_mk (Below.trod laidOut (by kernel_rfl) (of_decide_eq_true (by kernel_rfl)) k0 bel lt0) trodAll_mk0), names_three enc (hT.below bel (Nat.le_refl _)).1 (hT.below bel (Nat.le_refl _)).2.1 (hT.below bel (Nat.le_refl _)).2.2.1 _, bel.frame _, fun h => by cases h⟩
theorem row_holds : Rows.FnExactMachineTextSaid :=
  OpenClaim.holds_of_wide 3 Tryz.f3 rfl rfl rfl rfl rfl rfl rfl ⟨rfl, rfl, rfl, rfl, rfl⟩ rfl rfl rfl rfl rfl (by kernel_rfl) Tryz.func3 (by kernel_rfl)
    (of_decide_eq_true (by kernel_rfl)) (by unfold Func.isWrapper; first | (rw [if_pos (by decide +kernel)]; kernel_rfl) | (rw [if_neg (by decide +kernel)]; exact ⟨rfl, rfl⟩))
    (fun os started H enc _ => lifted os started H enc)
end fnExactMachineText

theorem fnExactMachineText_holds : Rows.FnExactMachineTextCardSaid :=
  Claim7.holds_tied_plain_at .later [] [.data, .data, .data, .data, .data, .data] true Rows.fnExactMachineTextCard.stood.harness Rows.fnExactMachineTextCard.stood.looks
    fnExactMachineText.row_holds (fun _ h => by cases h) (by kernel_rfl) (fun _ h => by cases h) fnExactMachineText_row_tie rfl ⟨rfl, rfl⟩ (by kernel_rfl) rfl
    (fun f fn hf hfn => by
      obtain rfl : f = 3 := Option.some.inj ((show Tryz.prog.funcNamed Rows.fnExactMachineTextRow.func = some 3 by kernel_rfl).symm.trans hf) |>.symm
      obtain rfl : fn = Tryz.f3 := (Option.some.inj (Tryz.func3.symm.trans hfn)).symm
      exact ⟨by kernel_rfl, fun j t ht => by
        rw [Tryz.params3] at ht
        have hm : t ∈ [32] := by simpa using Array.mem_of_getElem? ht
        have hall : ([32].all fun u => !Tryz.prog.wantsStandIn u) = true := by kernel_rfl
        exact (show Tryz.prog.wantsStandIn t = false by simpa using List.all_eq_true.1 hall t hm)⟩)
    (by kernel_rfl)
#print axioms fnExactMachineText_holds
end Go.Proofs.YtkbodiggdajbeaaGreatDoor
