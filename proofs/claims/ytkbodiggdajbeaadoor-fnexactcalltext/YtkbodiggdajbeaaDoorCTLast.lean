/- FnExactCallText: of every call the program's CallText answers as the specification's, at every argument, and writes nothing that was there; the program's tables of names and of powers of ten are as its text lays them. -/
import Derived.Test.YtkbodiggdajbeaaDoorRows
import Derived.Test.YtkbodiggdajbeaaDoorTie
import Derived.Test.YtkbodiggdajbeaaDoorCards
import Derived.Test.YtkbodiggdajbeaaDoorCT03
import Derived.Test.YtkbodiggdajbeaaDoorCT05
import Derived.WalkKit
import Derived.ProofKit
import Derived.OpenShut
import Derived.ChangeOld
import Derived.Below
import Derived.LaidMore
import Derived.Stop.Joined
import Derived.Stop.LaidErr
import Derived.Lib.LaidTab
import Derived.Lib.SmallJoins
import Derived.MakeChecks
import Derived.SevenTiedAt
import Derived.Deep.RegionHeld3
import Derived.Deep.Cut
namespace Go.Proofs.YtkbodiggdajbeaaDoor
open Go.ChangeShapes Go.WideShapes Go.ChangeAt Go.RowKit Go.Joins

namespace fnExactCallText
theorem own : ownKnob Tryd.prog.godebug = none := by kernel_rfl
theorem laidOut : laidOutB Tryd.prog = true := by kernel_rfl
theorem names_two {H : Type} (enc : TypeId × Value → H) {W : World} (h1 : OpNamesIs W) (h2 : ResNamesIs W) (sp : Nat → Bool) :
    DataW.TrodVars enc Tryd.prog W sp ["loop.example/g00468/impl.opNames", "loop.example/g00468/impl.resNames"] [strD namesT, strD codesR] (MemPlace.row ⟨0, 0, none⟩ (namesT.map S).toArray.size ++ [] ++ (MemPlace.row ⟨1, 0, none⟩ (codesR.map S).toArray.size ++ [] ++ [])) :=
  ⟨0, 82, (namesT.map S).toArray, 4, [], _, gOpNames, tOpNames, h1, OpNames_reads enc W _ _ _, ⟨1, 91, (codesR.map S).toArray, 4, [], _, gResNames, tResNames, h2, ResNames_reads enc W _ _ _, rfl, rfl⟩, rfl⟩
theorem forms {q : Bool} {w : World} {us : List Value} {cs : List Cel} (h : AtL q w us cs) (hs : HasL cs tyCall) : ∃ j0 j1 j2 j3 j4 j5 j6 j7 b8 m8 k8, us = [.int .i64 j0, .int .i64 j1, .int .i64 j2, .int .i64 j3, .int .i64 j4, .int .i64 j5, .int .i64 j6, .int .i64 j7, .slice b8 m8 k8] := by
  obtain ⟨x0, r0, rfl, T0, hH0⟩ := hs.cons
  obtain ⟨x1, r1, rfl, T1, hH1⟩ := hH0.cons
  obtain ⟨x2, r2, rfl, T2, hH2⟩ := hH1.cons
  obtain ⟨x3, r3, rfl, T3, hH3⟩ := hH2.cons
  obtain ⟨x4, r4, rfl, T4, hH4⟩ := hH3.cons
  obtain ⟨x5, r5, rfl, T5, hH5⟩ := hH4.cons
  obtain ⟨x6, r6, rfl, T6, hH6⟩ := hH5.cons
  obtain ⟨x7, r7, rfl, T7, hH7⟩ := hH6.cons
  obtain ⟨x8, r8, rfl, T8, hH8⟩ := hH7.cons
  obtain rfl := hH8.nil
  obtain ⟨v0, vr0, rfl, A0, hA0⟩ := h.consE
  obtain ⟨v1, vr1, rfl, A1, hA1⟩ := hA0.consE
  obtain ⟨v2, vr2, rfl, A2, hA2⟩ := hA1.consE
  obtain ⟨v3, vr3, rfl, A3, hA3⟩ := hA2.consE
  obtain ⟨v4, vr4, rfl, A4, hA4⟩ := hA3.consE
  obtain ⟨v5, vr5, rfl, A5, hA5⟩ := hA4.consE
  obtain ⟨v6, vr6, rfl, A6, hA6⟩ := hA5.consE
  obtain ⟨v7, vr7, rfl, A7, hA7⟩ := hA6.consE
  obtain ⟨v8, vr8, rfl, A8, hA8⟩ := hA7.consE
  obtain rfl := hA8.nilE
  obtain ⟨y0, rfl⟩ := T0.int
  obtain rfl := A0.int
  obtain ⟨y1, rfl⟩ := T1.int
  obtain rfl := A1.int
  obtain ⟨y2, rfl⟩ := T2.int
  obtain rfl := A2.int
  obtain ⟨y3, rfl⟩ := T3.int
  obtain rfl := A3.int
  obtain ⟨y4, rfl⟩ := T4.int
  obtain rfl := A4.int
  obtain ⟨y5, rfl⟩ := T5.int
  obtain rfl := A5.int
  obtain ⟨y6, rfl⟩ := T6.int
  obtain rfl := A6.int
  obtain ⟨y7, rfl⟩ := T7.int
  obtain rfl := A7.int
  obtain ⟨n8, l8, rfl, e8⟩ := T8.list
  obtain ⟨a8, c8, rfl⟩ := A8.slice
  exact ⟨_, _, _, _, _, _, _, _, _, _, _, rfl⟩
theorem specC (us : List Value) (cs : List Cel) (w : World) (h : AtL true w us cs) (hs : HasL cs tyCall) (hb : bigL cs ≤ 1048576) (hw : WfL cs) :
    Calls Tryd.prog 6 #[.agg us.toArray] w fun e w' => TextSays e (callB (caD cs) (nums (listC (nthC cs 8)))) ∧ Below w.heap.size w w' := by
  obtain ⟨ra, rn, rc, he, hrn, hA⟩ := callT_of h hs hb
  rw [he]
  exact specCallText_any (caD cs) ra rn rc _ w hA (i64_nums (wf_list (wf_nth hw 8))) (i64_num (wf_nth hw 0)) hrn
theorem implC (us : List Value) (cs : List Cel) (w : World) (h : AtL true w us cs) (hs : HasL cs tyCall) (hb : bigL cs ≤ 1048576) (hw : WfL cs) (hT : Tabs15 w) :
    Calls Tryd.prog 8 #[.agg us.toArray] w fun e w' => TextSays e (callB (caD cs) (nums (listC (nthC cs 8)))) ∧ Below w.heap.size w w' := by
  obtain ⟨ra, rn, rc, he, hrn, hA⟩ := callT_of h hs hb
  rw [he]
  exact implCallText_any (caD cs) ra rn rc _ w hA (i64_nums (wf_list (wf_nth hw 8))) (i64_num (wf_nth hw 0)) hrn hT
set_option maxHeartbeats 16000000 in
set_option maxRecDepth 100000 in
theorem walk (vs : List Value) (cs : List Cel) (w : World) (h : InL w vs cs) (hs : HasL cs tyCall) (hw : WfL cs) (hE : Tabs15 w) :
    Calls Tryd.prog 3 #[.agg vs.toArray] w fun e w' => e = .returned (.bool true) ∧ Below w.heap.size w w' := by
  have hl8 : vs.length = 9 := by rw [h.1, hs.1]; rfl
  obtain ⟨v0, v1, v2, v3, v4, v5, v6, v7, v8, rfl⟩ : ∃ v0 v1 v2 v3 v4 v5 v6 v7 v8, vs = [v0, v1, v2, v3, v4, v5, v6, v7, v8] := by
    match vs, hl8 with
    | [a0, a1, a2, a3, a4, a5, a6, a7, a8], _ => exact ⟨_, _, _, _, _, _, _, _, _, rfl⟩
  have HIN : Hid (InL w [v0, v1, v2, v3, v4, v5, v6, v7, v8] cs) := h
  have HS : Hid (HasL cs tyCall) := hs
  have HWF : Hid (WfL cs) := hw
  have HEX : Hid (Tabs15 w) := hE
  obtain ⟨sz, hsz⟩ : ∃ sz, w.heap.size = sz := ⟨_, rfl⟩
  obtain ⟨W, hW⟩ : ∃ W, w.alloc (.cells #[v0, v1, v2, v3, v4, v5, v6, v7, v8] 28) = W := ⟨_, rfl⟩
  have hb0 : Below sz w W := by rw [← hW, ← hsz]; exact (Below.refl _ w).alloc (Nat.le_refl _) _
  have hWs : W.heap.size = sz + 1 := by rw [← hW, ← hsz]; simp
  have XA : Hid (Box W sz #[v0, v1, v2, v3, v4, v5, v6, v7, v8] 28) := by rw [← hW, ← hsz]; exact (box_of w _ _)
  have HW : Hid (w.alloc (.cells #[v0, v1, v2, v3, v4, v5, v6, v7, v8] 28) = W) := hW
  have HSZ : Hid (w.heap.size = sz) := hsz
  have HB0 : Hid (Below sz w W) := hb0
  have HWS : Hid (W.heap.size = sz + 1) := hWs
  have hsw : Hid (w.heap.size ≤ sz) := by rw [hsz]; exact Nat.le_refl _
  have CA : Hid (∀ y, Below W.heap.size W y → y.cell? ⟨sz, 0, none⟩ = some v0 ∧ y.cell? ⟨sz, 1, none⟩ = some v1 ∧ y.cell? ⟨sz, 2, none⟩ = some v2 ∧ y.cell? ⟨sz, 3, none⟩ = some v3 ∧ y.cell? ⟨sz, 4, none⟩ = some v4 ∧ y.cell? ⟨sz, 5, none⟩ = some v5 ∧ y.cell? ⟨sz, 6, none⟩ = some v6 ∧ y.cell? ⟨sz, 7, none⟩ = some v7 ∧ y.cell? ⟨sz, 8, none⟩ = some v8) := fun y hb => nine_of (XA.out.below hb XA.out.lt)
  have UP : Hid (∀ y, Below W.heap.size W y → Below sz w y) := fun y hb => HB0.out.trans (hb.mono (by have := HWS.out; omega))
  clear hW hb0 hWs hsz h hs hw hl8 hE
  show Calls Tryd.prog 3 #[.agg #[v0, v1, v2, v3, v4, v5, v6, v7, v8]] w fun e w' => e = .returned (.bool true) ∧ Below w.heap.size w w'
  go_enter Tryd.func3, Tryd.ntmps3
  go_wp2_with fail
  rw [HW.out]
  (try rw [HSZ.out])
  refine (dSzCall [v0, v1, v2, v3, v4, v5, v6, v7, v8] cs 1048576 W (HIN.out.on HB0.out hsw.out) HS.out (by omega) (by omega)).mono ?_
  rintro e w1 ⟨hb1, ⟨r, rfl, hr0, hr1⟩ | ⟨rfl, hbig⟩⟩
  case inr =>
    have hall : Below sz w w1 := UP.out _ hb1
    clear hb1 hbig
    go_wp2
    go_ret
    exact ⟨rfl, by rw [HSZ.out]; exact hall⟩
  have BIG : Hid (bigL cs ≤ 1048576) := by show _ ≤ _; omega
  have hr2 : ¬ r < 0 := by omega
  have hr3 : decide (r < 0) = false := decide_eq_false hr2
  have HB1 : Hid (Below W.heap.size W w1) := hb1
  have INS : Hid (∀ y, Below sz w y → AtL false y [v0, v1, v2, v3, v4, v5, v6, v7, v8] cs) := fun y hb => (HIN.out.on hb hsw.out).at (by have := BIG.out; omega)
  clear hb1 hr0 hr1
  obtain ⟨y0, y1, y2, y3, y4, y5, y6, y7, y8⟩ := CA.out _ HB1.out
  go_wp2_with fail
  refine (dToCall [v0, v1, v2, v3, v4, v5, v6, v7, v8] cs _ (INS.out _ (UP.out _ HB1.out)) HS.out).mono ?_
  rintro e w2 ⟨hb2, ss, S2, rfl, hO2⟩
  have HB2 : Hid (Below W.heap.size W w2) := HB1.out.trans (hb2.mono HB1.out.size)
  have SA : Hid (AtL true w2 ss cs) := hO2.at
  clear y0 y1 y2 y3 y4 y5 y6 y7 y8 hO2 hb2
  go_wp2_with fail
  refine (specC ss cs _ SA.out HS.out BIG.out HWF.out).mono ?_
  rintro e W4 ⟨⟨s4, rfl, hs4⟩, hb3⟩
  have HS4 : Hid (s4.data.toList = callB (caD cs) (nums (listC (nthC cs 8)))) := hs4
  have HA4 : Hid (Below W.heap.size W W4) := HB2.out.trans (hb3.mono HB2.out.size)
  clear hb3 SA hs4
  obtain ⟨y0, y1, y2, y3, y4, y5, y6, y7, y8⟩ := CA.out _ HA4.out
  go_wp2_with fail
  refine (dToCall [v0, v1, v2, v3, v4, v5, v6, v7, v8] cs _ (INS.out _ (UP.out _ HA4.out)) HS.out).mono ?_
  rintro e w5 ⟨hb5, us, S5, rfl, hO5⟩
  obtain ⟨j0, j1, j2, j3, j4, j5, j6, j7, b8, m8, k8, rfl⟩ := forms hO5.at HS.out
  obtain ⟨q5, hq5⟩ : ∃ q5, w5.heap.size = q5 := ⟨_, rfl⟩
  obtain ⟨W5, hW5⟩ : ∃ W5, w5.alloc (.cells #[(.int .i64 j0), (.int .i64 j1), (.int .i64 j2), (.int .i64 j3), (.int .i64 j4), (.int .i64 j5), (.int .i64 j6), (.int .i64 j7), (.slice b8 m8 k8)] 34) = W5 := ⟨_, rfl⟩
  have hxW5 : Below w5.heap.size w5 W5 := by rw [← hW5]; exact (Below.refl _ _).alloc (Nat.le_refl _) _
  have X5 : Hid (Box W5 q5 #[(.int .i64 j0), (.int .i64 j1), (.int .i64 j2), (.int .i64 j3), (.int .i64 j4), (.int .i64 j5), (.int .i64 j6), (.int .i64 j7), (.slice b8 m8 k8)] 34) := by rw [← hW5, ← hq5]; exact box_of w5 _ _
  have UA : Hid (AtL true W5 [(.int .i64 j0), (.int .i64 j1), (.int .i64 j2), (.int .i64 j3), (.int .i64 j4), (.int .i64 j5), (.int .i64 j6), (.int .i64 j7), (.slice b8 m8 k8)] cs) := hO5.at.on hxW5 (Nat.le_refl _)
  have HB45 : Hid (Below W4.heap.size W4 W5) := hb5.trans (hxW5.mono hb5.size)
  have HA5 : Hid (Below W.heap.size W W5) := HA4.out.trans (HB45.out.mono HA4.out.size)
  have HW5 : Hid (w5.alloc (.cells #[(.int .i64 j0), (.int .i64 j1), (.int .i64 j2), (.int .i64 j3), (.int .i64 j4), (.int .i64 j5), (.int .i64 j6), (.int .i64 j7), (.slice b8 m8 k8)] 34) = W5) := hW5
  have E5 : Hid (w5.heap.size = q5) := hq5
  clear hO5 hb5 hW5 hq5 hxW5 y0 y1 y2 y3 y4 y5 y6 y7 y8
  go_upto_region 7 with (fail)
  rw [HW5.out]
  (try rw [E5.out])
  clear HW5 E5
  obtain ⟨y0, y1, y2, y3, y4, y5, y6, y7, y8⟩ := nine_of X5.out
  go_wp2_with fail
  refine (implC [(.int .i64 j0), (.int .i64 j1), (.int .i64 j2), (.int .i64 j3), (.int .i64 j4), (.int .i64 j5), (.int .i64 j6), (.int .i64 j7), (.slice b8 m8 k8)] cs _ UA.out HS.out BIG.out HWF.out (HEX.out.below (UP.out _ HA5.out) hsw.out)).mono ?_
  rintro e w7 ⟨⟨s7, rfl, hs7⟩, hb7⟩
  obtain rfl : s4 = s7 := str_eq (HS4.out.trans hs7.symm)
  have HB57 : Hid (Below W5.heap.size W5 w7) := hb7
  clear hb7 hs7 y0 y1 y2 y3 y4 y5 y6 y7 y8
  have KS : Hid (∀ y, Below w7.heap.size w7 y → (y.cell? ⟨q5, 0, none⟩ = some (.int .i64 j0) ∧ y.cell? ⟨q5, 1, none⟩ = some (.int .i64 j1) ∧ y.cell? ⟨q5, 2, none⟩ = some (.int .i64 j2) ∧ y.cell? ⟨q5, 3, none⟩ = some (.int .i64 j3) ∧ y.cell? ⟨q5, 4, none⟩ = some (.int .i64 j4) ∧ y.cell? ⟨q5, 5, none⟩ = some (.int .i64 j5) ∧ y.cell? ⟨q5, 6, none⟩ = some (.int .i64 j6) ∧ y.cell? ⟨q5, 7, none⟩ = some (.int .i64 j7) ∧ y.cell? ⟨q5, 8, none⟩ = some (.slice b8 m8 k8)) ∧ y.cell? ⟨sz, 0, none⟩ = some v0 ∧ y.cell? ⟨sz, 1, none⟩ = some v1 ∧ y.cell? ⟨sz, 2, none⟩ = some v2 ∧ y.cell? ⟨sz, 3, none⟩ = some v3 ∧ y.cell? ⟨sz, 4, none⟩ = some v4 ∧ y.cell? ⟨sz, 5, none⟩ = some v5 ∧ y.cell? ⟨sz, 6, none⟩ = some v6 ∧ y.cell? ⟨sz, 7, none⟩ = some v7 ∧ y.cell? ⟨sz, 8, none⟩ = some v8) := fun y hb => by
    have hb' : Below W5.heap.size W5 y := HB57.out.trans (hb.mono HB57.out.size)
    exact ⟨nine_of (X5.out.below hb' X5.out.lt), CA.out y (HA5.out.trans (hb'.mono HA5.out.size))⟩
  have K0 : Hid ((w7.drew.cell? ⟨q5, 0, none⟩ = some (.int .i64 j0) ∧ w7.drew.cell? ⟨q5, 1, none⟩ = some (.int .i64 j1) ∧ w7.drew.cell? ⟨q5, 2, none⟩ = some (.int .i64 j2) ∧ w7.drew.cell? ⟨q5, 3, none⟩ = some (.int .i64 j3) ∧ w7.drew.cell? ⟨q5, 4, none⟩ = some (.int .i64 j4) ∧ w7.drew.cell? ⟨q5, 5, none⟩ = some (.int .i64 j5) ∧ w7.drew.cell? ⟨q5, 6, none⟩ = some (.int .i64 j6) ∧ w7.drew.cell? ⟨q5, 7, none⟩ = some (.int .i64 j7) ∧ w7.drew.cell? ⟨q5, 8, none⟩ = some (.slice b8 m8 k8)) ∧ w7.drew.cell? ⟨sz, 0, none⟩ = some v0 ∧ w7.drew.cell? ⟨sz, 1, none⟩ = some v1 ∧ w7.drew.cell? ⟨sz, 2, none⟩ = some v2 ∧ w7.drew.cell? ⟨sz, 3, none⟩ = some v3 ∧ w7.drew.cell? ⟨sz, 4, none⟩ = some v4 ∧ w7.drew.cell? ⟨sz, 5, none⟩ = some v5 ∧ w7.drew.cell? ⟨sz, 6, none⟩ = some v6 ∧ w7.drew.cell? ⟨sz, 7, none⟩ = some v7 ∧ w7.drew.cell? ⟨sz, 8, none⟩ = some v8) := KS.out _ (Below.refl _ _).drew
  have HA7 : Hid (Below W.heap.size W w7) := HA5.out.trans (HB57.out.mono HA5.out.size)
  have INS7 : Hid (AtL false w7.drew [v0, v1, v2, v3, v4, v5, v6, v7, v8] cs) := INS.out _ (UP.out _ HA7.out).drew
  have UA7 : Hid (AtL false w7 [(.int .i64 j0), (.int .i64 j1), (.int .i64 j2), (.int .i64 j3), (.int .i64 j4), (.int .i64 j5), (.int .i64 j6), (.int .i64 j7), (.slice b8 m8 k8)] cs) := ⟨UA.out.1, fun j v c hv hc => ((UA.out.2 j v c hv hc).on HB57.out (Nat.le_refl _)).loose⟩
  go_upto_region 10 with (fail)
  go_region_held3 (fun w' => (w'.cell? ⟨q5, 0, none⟩ = some (.int .i64 j0) ∧ w'.cell? ⟨q5, 1, none⟩ = some (.int .i64 j1) ∧ w'.cell? ⟨q5, 2, none⟩ = some (.int .i64 j2) ∧ w'.cell? ⟨q5, 3, none⟩ = some (.int .i64 j3) ∧ w'.cell? ⟨q5, 4, none⟩ = some (.int .i64 j4) ∧ w'.cell? ⟨q5, 5, none⟩ = some (.int .i64 j5) ∧ w'.cell? ⟨q5, 6, none⟩ = some (.int .i64 j6) ∧ w'.cell? ⟨q5, 7, none⟩ = some (.int .i64 j7) ∧ w'.cell? ⟨q5, 8, none⟩ = some (.slice b8 m8 k8)) ∧ w'.cell? ⟨sz, 0, none⟩ = some v0 ∧ w'.cell? ⟨sz, 1, none⟩ = some v1 ∧ w'.cell? ⟨sz, 2, none⟩ = some v2 ∧ w'.cell? ⟨sz, 3, none⟩ = some v3 ∧ w'.cell? ⟨sz, 4, none⟩ = some v4 ∧ w'.cell? ⟨sz, 5, none⟩ = some v5 ∧ w'.cell? ⟨sz, 6, none⟩ = some v6 ∧ w'.cell? ⟨sz, 7, none⟩ = some v7 ∧ w'.cell? ⟨sz, 8, none⟩ = some v8)
    (first | (with_reducible exact K2.out) | (with_reducible exact K1.out) | (with_reducible exact K0.out) | go_keep)
    (first
    | (go_at_call 7
       refine (dToCall [v0, v1, v2, v3, v4, v5, v6, v7, v8] cs _ INS7.out HS.out).mono ?_
       rintro e w8 ⟨hb8, ts, S8, rfl, hO8⟩
       have hb8' : Below w7.heap.size w7 w8 := (Below.refl w7.heap.size w7).drew.trans hb8
       have HB8 : Hid (Below w7.heap.size w7 w8) := hb8'
       have SA8 : Hid (AtL false w8 ts cs) := ⟨hO8.1, fun j v c hv hc => (hO8.at.2 j v c hv hc).loose⟩
       have K1 : Hid ((w8.cell? ⟨q5, 0, none⟩ = some (.int .i64 j0) ∧ w8.cell? ⟨q5, 1, none⟩ = some (.int .i64 j1) ∧ w8.cell? ⟨q5, 2, none⟩ = some (.int .i64 j2) ∧ w8.cell? ⟨q5, 3, none⟩ = some (.int .i64 j3) ∧ w8.cell? ⟨q5, 4, none⟩ = some (.int .i64 j4) ∧ w8.cell? ⟨q5, 5, none⟩ = some (.int .i64 j5) ∧ w8.cell? ⟨q5, 6, none⟩ = some (.int .i64 j6) ∧ w8.cell? ⟨q5, 7, none⟩ = some (.int .i64 j7) ∧ w8.cell? ⟨q5, 8, none⟩ = some (.slice b8 m8 k8)) ∧ w8.cell? ⟨sz, 0, none⟩ = some v0 ∧ w8.cell? ⟨sz, 1, none⟩ = some v1 ∧ w8.cell? ⟨sz, 2, none⟩ = some v2 ∧ w8.cell? ⟨sz, 3, none⟩ = some v3 ∧ w8.cell? ⟨sz, 4, none⟩ = some v4 ∧ w8.cell? ⟨sz, 5, none⟩ = some v5 ∧ w8.cell? ⟨sz, 6, none⟩ = some v6 ∧ w8.cell? ⟨sz, 7, none⟩ = some v7 ∧ w8.cell? ⟨sz, 8, none⟩ = some v8) := KS.out _ hb8'
       clear hb8 hb8' hO8)
    | (go_at_call 9
       refine (dEqCall [(.int .i64 j0), (.int .i64 j1), (.int .i64 j2), (.int .i64 j3), (.int .i64 j4), (.int .i64 j5), (.int .i64 j6), (.int .i64 j7), (.slice b8 m8 k8)] ts cs _ (UA7.out.on HB8.out (Nat.le_refl _)) SA8.out HS.out).mono ?_
       rintro e w9 ⟨rfl, hb9⟩
       have hb9' : Below w7.heap.size w7 w9 := HB8.out.trans (hb9.mono HB8.out.size)
       have HB9 : Hid (Below w7.heap.size w7 w9) := hb9'
       have K2 : Hid ((w9.cell? ⟨q5, 0, none⟩ = some (.int .i64 j0) ∧ w9.cell? ⟨q5, 1, none⟩ = some (.int .i64 j1) ∧ w9.cell? ⟨q5, 2, none⟩ = some (.int .i64 j2) ∧ w9.cell? ⟨q5, 3, none⟩ = some (.int .i64 j3) ∧ w9.cell? ⟨q5, 4, none⟩ = some (.int .i64 j4) ∧ w9.cell? ⟨q5, 5, none⟩ = some (.int .i64 j5) ∧ w9.cell? ⟨q5, 6, none⟩ = some (.int .i64 j6) ∧ w9.cell? ⟨q5, 7, none⟩ = some (.int .i64 j7) ∧ w9.cell? ⟨q5, 8, none⟩ = some (.slice b8 m8 k8)) ∧ w9.cell? ⟨sz, 0, none⟩ = some v0 ∧ w9.cell? ⟨sz, 1, none⟩ = some v1 ∧ w9.cell? ⟨sz, 2, none⟩ = some v2 ∧ w9.cell? ⟨sz, 3, none⟩ = some v3 ∧ w9.cell? ⟨sz, 4, none⟩ = some v4 ∧ w9.cell? ⟨sz, 5, none⟩ = some v5 ∧ w9.cell? ⟨sz, 6, none⟩ = some v6 ∧ w9.cell? ⟨sz, 7, none⟩ = some v7 ∧ w9.cell? ⟨sz, 8, none⟩ = some v8) := KS.out _ hb9'
       clear hb9 hb9'))
  have hall : Below sz w w9 := UP.out _ (HA7.out.trans (HB9.out.mono HA7.out.size))
  clear K0 K1 K2 KS SA8 HB8 HB9
  go_wp2
  go_ret
  exact ⟨rfl, by rw [HSZ.out]; exact hall⟩

/-- The heap that the door's own run leaves meets the row's condition on the tables. -/
theorem door_met (os : Os) (args : Array Value) : laidMetH Tryd.prog Rows.fnExactCallTextRow.laid ((World.doorLaid Tryd.prog 200 os).forCall (fun _ _ => 0) ⟨#[], args, []⟩).memory :=
  laidMetH_of_parts3 (fuel := 8) (laidMet_of_run' 8 (by kernel_rfl) (by kernel_rfl)) (by kernel_rfl) (by kernel_rfl)
theorem of_laid {W : World} (h : laidMetH Tryd.prog Rows.fnExactCallTextRow.laid W) : Tabs15 W := by
  rw [MakeChecks.laidMetH_plain _ _ _ (by kernel_rfl)] at h
  have h2 : laidMet Tryd.prog [("internal/strconv.uint64pow10", Rows.laid_internal_strconv_uint64pow10), ("loop.example/g00468/impl.opNames", Rows.laid_loop_example_g00468_impl_opNames), ("loop.example/g00468/impl.resNames", Rows.laid_loop_example_g00468_impl_resNames)] W := laidMet.tail (laidMet.tail h)
  have h3 : laidMet Tryd.prog [("loop.example/g00468/impl.opNames", Rows.laid_loop_example_g00468_impl_opNames), ("loop.example/g00468/impl.resNames", Rows.laid_loop_example_g00468_impl_resNames)] W := laidMet.tail h2
  have h4 : laidMet Tryd.prog [("loop.example/g00468/impl.resNames", Rows.laid_loop_example_g00468_impl_resNames)] W := laidMet.tail h3
  rw [tab_is] at h2
  exact ⟨OpNames_of_laid h3, ResNames_of_laid h4, Lib.tabIs_of_head gTab tTab Tryd.underlying116 Tryd.underlying109 cU64 cTab h2⟩
set_option maxRecDepth 100000 in
theorem lifted (os : Os) (started : os.Started) (H : Type) (enc : TypeId × Value → H) :
    ReturnsInHanded {} Tryd.checked os 3 .any (fun w args => (Rows.fnExactCallTextSpec.pre enc Tryd.prog Tryd.f3 [] false w args ∧ laidMetH Tryd.prog Rows.fnExactCallTextRow.laid w) ∧ sizedMet enc Tryd.prog Tryd.f3 (OpenSpec.ofChange Rows.fnExactCallTextSpec) false w args)
      (Rows.fnExactCallTextSpec.post enc Tryd.prog Tryd.f3 false true false false) := by
  refine returnsInHanded_of_change_and (C := Tryd.checked) (X := fun w _ => laidMetH Tryd.prog Rows.fnExactCallTextRow.laid w) (fun _ _ _ hh h => h.of_heap hh) own started (by kernel_rfl) Tryd.func3
    (ChangeSpec.witness_shaped (enc := enc) (C := Tryd.checked) (os := os) (X := fun w _ => laidMetH Tryd.prog Rows.fnExactCallTextRow.laid w) false (World.doorLaid Tryd.prog 200 os) #[.agg #[.int .i64 0, .int .i64 0, .int .i64 0, .int .i64 0, .int .i64 0, .int .i64 0, .int .i64 0, .int .i64 0, .slice none 0 0]] 8 rfl (World.shaped_of_RefB (by kernel_rfl) (by kernel_rfl)) (by kernel_rfl) (by kernel_rfl) (by kernel_rfl) (door_met os _)) ?_
  intro W base args ds gs before hval0 hW _ _ hL _
  have hval : ∀ (j : Nat) t v, Tryd.f3.params[j]? = some t → args[j]? = some v → Value.okWide Tryd.prog W .any base t v := hval0
  have hW' := hW
  obtain ⟨p, q, hA0, hV0, rfl, hfz, hnd⟩ := hW
  have hA : DataW.TrodAll enc Tryd.prog W 0 (fun _ => true) true Tryd.f3.params.toList args.toList ds p := hA0
  have hV : DataW.TrodVars enc Tryd.prog W (fun _ => true) ["loop.example/g00468/impl.opNames", "loop.example/g00468/impl.resNames"] gs q := hV0
  have hT := of_laid hL
  obtain ⟨rfl, rfl⟩ := hV.unique (names_two enc hT.1 hT.2.1 _)
  rw [Tryd.params3] at hA hval
  obtain ⟨v0, d0, rfl, rfl, h0⟩ := trodAll_one hA
  have k0 := h0
  have lt0 : ∀ x ∈ p, x.block < W.heap.size := by obtain ⟨m, hm⟩ := k0; exact DataW.trod_lt m _ _ _ hm
  obtain ⟨vs, cs, rfl, hI, hH, hF⟩ := open_st Tryd.underlying28 flatCall (hval 0 28 v0 rfl rfl) h0
  clear hA0 hV0 hval0
  refine (walk vs cs W hI hH hF hT).mono fun e W' ⟨he, bel⟩ => ?_
  subst he
  exact ⟨_, rfl, _, _, _, [], _, _, hW', trodAll_mk1 (shut_bool Tryd.underlying4 _), (trodAll_cons_mk (Below.trod laidOut (by kernel_rfl) (of_decide_eq_true (by kernel_rfl)) k0 bel lt0) trodAll_mk0), names_two enc (hT.below bel (Nat.le_refl _)).1 (hT.below bel (Nat.le_refl _)).2.1 _, bel.frame _, fun h => by cases h⟩
theorem row_holds : Rows.FnExactCallTextSaid :=
  OpenClaim.holds_of_wide 3 Tryd.f3 rfl rfl rfl rfl rfl rfl rfl ⟨rfl, rfl, rfl, rfl, rfl⟩ rfl rfl rfl rfl rfl (by kernel_rfl) Tryd.func3 (by kernel_rfl)
    (of_decide_eq_true (by kernel_rfl)) (by unfold Func.isWrapper; first | (rw [if_pos (by decide +kernel)]; kernel_rfl) | (rw [if_neg (by decide +kernel)]; exact ⟨rfl, rfl⟩))
    (fun os started H enc _ => lifted os started H enc)
end fnExactCallText

theorem fnExactCallText_holds : Rows.FnExactCallTextCardSaid :=
  Claim7.holds_tied_plain_at .later [] [.data, .data, .data, .data, .data] true Rows.fnExactCallTextCard.stood.harness Rows.fnExactCallTextCard.stood.looks
    fnExactCallText.row_holds (fun _ h => by cases h) (by kernel_rfl) (fun _ h => by cases h) fnExactCallText_row_tie rfl ⟨rfl, rfl⟩ (by kernel_rfl) rfl
    (fun f fn hf hfn => by
      obtain rfl : f = 3 := Option.some.inj ((show Tryd.prog.funcNamed Rows.fnExactCallTextRow.func = some 3 by kernel_rfl).symm.trans hf) |>.symm
      obtain rfl : fn = Tryd.f3 := (Option.some.inj (Tryd.func3.symm.trans hfn)).symm
      exact ⟨by kernel_rfl, fun j t ht => by
        rw [Tryd.params3] at ht
        have hm : t ∈ [28] := by simpa using Array.mem_of_getElem? ht
        have hall : ([28].all fun u => !Tryd.prog.wantsStandIn u) = true := by kernel_rfl
        exact (show Tryd.prog.wantsStandIn t = false by simpa using List.all_eq_true.1 hall t hm)⟩)
    (by kernel_rfl)
#print axioms fnExactCallText_holds
end Go.Proofs.YtkbodiggdajbeaaDoor
