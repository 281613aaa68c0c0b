/- ThreadDone of the program answers as the specification's ThreadDone at all threads, and leaves what it was handed as it was: the law FnExactThreadDone holds, with no condition. -/
import Derived.Test.YtemeklfkbjpnmarRows
import Derived.Test.YtemeklfkbjpnmarLawT
import Derived.Test.YtemeklfkbjpnmarImpl8
import Derived.Test.YtemeklfkbjpnmarSpec8
import Derived.OpenShut
import Derived.ChangeOld
import Derived.Below
import Derived.Lib.SmallJoins
import Derived.Deep.RegionHeld3
namespace Go.Proofs.Ytemeklfkbjpnmar
open Go.ChangeShapes Go.WideShapes Go.ChangeAt Go.RowKit Go.Joins

namespace fnExactThreadDone
theorem own : ownKnob Try.prog.godebug = none := by kernel_rfl
theorem laidOut : laidOutB Try.prog = true := by kernel_rfl
set_option maxHeartbeats 16000000 in
set_option maxRecDepth 100000 in
theorem walk (a0 a1 a2 : Option Addr) (n0 c0 n1 c1 n2 c2 : Nat) (fs gs hs : List Int) (pc : Int) (on : Bool) (w : World) (h0 : n0 ≤ 9223372036854775807) (h1 : n1 ≤ 9223372036854775807) (h2 : n2 ≤ 9223372036854775807) (k0 : n0 ≤ 1048576 → KAt 3 w a0 n0 fs) (k1 : n1 ≤ 1048576 → KAt 2 w a1 n1 gs) (k2 : n2 ≤ 1048576 → KAt 4 w a2 n2 hs) :
    Calls Try.prog 6 #[ThV (.slice a0 n0 c0) (.slice a1 n1 c1) (.slice a2 n2 c2) pc on] w fun e w' => e = .returned (.bool true) ∧ Below w.heap.size w w' := by
  obtain ⟨sz, hsz⟩ : ∃ sz, w.heap.size = sz := ⟨_, rfl⟩
  obtain ⟨W, hW⟩ : ∃ W, w.alloc (.cells #[.slice a0 n0 c0, .int .i64 pc, .bool on, .slice a1 n1 c1, .slice a2 n2 c2] 39) = W := ⟨_, rfl⟩
  have hb0 : Below sz w W := by rw [← hW, ← hsz]; exact (Below.refl _ w).alloc (Nat.le_refl _) _
  have hWs : W.heap.size = sz + 1 := by rw [← hW, ← hsz]; simp
  have XA : Hid (Box W sz #[.slice a0 n0 c0, .int .i64 pc, .bool on, .slice a1 n1 c1, .slice a2 n2 c2] 39) := by rw [← hW, ← hsz]; exact (box_of w _ _)
  have HW : Hid _ := hW
  have HSZ : Hid (w.heap.size = sz) := hsz
  have HB0 : Hid (Below sz w W) := hb0
  have HWS : Hid (W.heap.size = sz + 1) := hWs
  have HK : Hid ((n0 ≤ 1048576 → KAt 3 w a0 n0 fs) ∧ (n1 ≤ 1048576 → KAt 2 w a1 n1 gs) ∧ (n2 ≤ 1048576 → KAt 4 w a2 n2 hs)) := ⟨k0, k1, k2⟩
  clear hW hb0 hWs hsz k0 k1 k2
  go_enter Try.func6, Try.ntmps6
  go_wp2_with fail
  rw [HW.out]
  (try rw [HSZ.out])
  refine (szThread_any a0 a1 a2 n0 c0 n1 c1 n2 c2 pc on _ h0 h1 h2).mono ?_
  rintro e w1 ⟨hb1, rfl | ⟨r, rfl, hr0, hsum⟩⟩
  · have hall : Below sz w w1 := HB0.out.trans (hb1.mono (by have := HWS.out; omega))
    clear hb1
    go_wp2
    go_ret
    exact ⟨rfl, by rw [HSZ.out]; exact hall⟩
  have hr2 : ¬ r < 0 := by omega
  have HB1 : Hid (Below W.heap.size W w1) := hb1
  have IN0 : Hid (ThIn w a0 a1 a2 ⟨n0, fs, pc, on, n1, gs, n2, hs⟩) := ⟨HK.out.1 (by omega), HK.out.2.1 (by omega), HK.out.2.2 (by omega)⟩
  have SM : Hid (TD.Small ⟨n0, fs, pc, on, n1, gs, n2, hs⟩) := ⟨by show n0 ≤ _; omega, by show n1 ≤ _; omega, by show n2 ≤ _; omega⟩
  have hn2 : n2 ≤ 1048576 := by omega
  have hsw : w.heap.size ≤ sz := by rw [HSZ.out]; exact Nat.le_refl _
  have HBW1 : Hid (Below sz w w1) := HB0.out.trans (hb1.mono (by have := HWS.out; omega))
  have INS : Hid (∀ y, Below sz w y → ThIn y a0 a1 a2 ⟨n0, fs, pc, on, n1, gs, n2, hs⟩) := fun y hb => IN0.out.below hb hsw
  have CA : Hid (∀ y, Below W.heap.size W y → y.cell? ⟨sz, 0, none⟩ = some (.slice a0 n0 c0) ∧ y.cell? ⟨sz, 1, none⟩ = some (.int .i64 pc) ∧ y.cell? ⟨sz, 2, none⟩ = some (.bool on) ∧ y.cell? ⟨sz, 3, none⟩ = some (.slice a1 n1 c1) ∧ y.cell? ⟨sz, 4, none⟩ = some (.slice a2 n2 c2)) := fun y hb => by
    obtain ⟨y0, y1, y2, y3, y4, -⟩ := (XA.out.below hb XA.out.lt).five
    exact ⟨y0, y1, y2, y3, y4⟩
  clear hb1 HK
  obtain ⟨y0, y1, y2, y3, y4⟩ := CA.out _ HB1.out
  go_wp2_with fail
  refine (toThread_any a0 a1 a2 c0 c1 c2 ⟨n0, fs, pc, on, n1, gs, n2, hs⟩ _ (INS.out _ HBW1.out)).mono ?_
  rintro e w2 ⟨s0, s1, s2, rfl, sO, hb2⟩
  have HB2 : Hid (Below W.heap.size W w2) := HB1.out.trans (hb2.mono HB1.out.size)
  have SA : Hid (ThAt w2 s0 s1 s2 ⟨n0, fs, pc, on, n1, gs, n2, hs⟩) := sO.at SM.out
  clear y0 y1 y2 y3 y4 sO hb2
  obtain ⟨B, hB⟩ : ∃ B, decide (pc = (n0 : Int)) = B := ⟨_, rfl⟩
  have HBB : Hid (decide (pc = (n0 : Int)) = B) := hB
  have nb : (B != B) = false := by simp
  clear hB
  go_wp2_with fail
  refine (specDone_any s0 s1 s2 ⟨n0, fs, pc, on, n1, gs, n2, hs⟩ _ SA.out).mono ?_
  rintro e W4 ⟨rfl, hb3⟩
  rw [HBB.out]
  have HA4 : Hid (Below W.heap.size W W4) := HB2.out.trans (hb3.mono HB2.out.size)
  clear hb3 SA
  obtain ⟨y0, y1, y2, y3, y4⟩ := CA.out _ HA4.out
  go_wp2_with fail
  refine (toThread_any a0 a1 a2 c0 c1 c2 ⟨n0, fs, pc, on, n1, gs, n2, hs⟩ _ (INS.out _ (HB0.out.trans (HA4.out.mono (by have := HWS.out; omega))))).mono ?_
  rintro e w5 ⟨u0, u1, u2, rfl, uO, hb5⟩
  obtain ⟨up0, ud0, up1, ud1, up2, ud2, rfl, rfl, rfl⟩ := uO.forms
  obtain ⟨q5, hq5⟩ : ∃ q5, w5.heap.size = q5 := ⟨_, rfl⟩
  obtain ⟨W5, hW5⟩ : ∃ W5, w5.alloc (.cells #[Value.slice up0 n0 ud0, .int .i64 pc, .bool on, Value.slice up1 n1 ud1, Value.slice up2 n2 ud2] 46) = W5 := ⟨_, rfl⟩
  have hxW5 : Below w5.heap.size w5 W5 := by rw [← hW5]; exact (Below.refl _ _).alloc (Nat.le_refl _) _
  have hsW5 : W5.heap.size = w5.heap.size + 1 := by rw [← hW5]; simp
  have X5 : Hid (Box W5 q5 #[Value.slice up0 n0 ud0, .int .i64 pc, .bool on, Value.slice up1 n1 ud1, Value.slice up2 n2 ud2] 46) := by rw [← hW5, ← hq5]; exact box_of w5 _ _
  have UA : Hid (ThAt W5 (Value.slice up0 n0 ud0) (Value.slice up1 n1 ud1) (Value.slice up2 n2 ud2) ⟨n0, fs, pc, on, n1, gs, n2, hs⟩) := (uO.below hxW5 (Nat.le_refl _)).at SM.out
  have HB45 : Hid (Below W4.heap.size W4 W5) := hb5.trans (hxW5.mono hb5.size)
  have HA5 : Hid (Below W.heap.size W W5) := HA4.out.trans (HB45.out.mono HA4.out.size)
  have HW5 : Hid _ := hW5
  have E5 : Hid (w5.heap.size = q5) := hq5
  clear uO hb5 hW5 hq5 hsW5 hxW5 y0 y1 y2 y3 y4
  go_upto_region 7 with (fail)
  rw [HW5.out]
  (try rw [E5.out])
  clear HW5 E5
  obtain ⟨y0, y1, y2, y3, y4, -⟩ := X5.out.five
  go_wp2_with fail
  refine (implDone_any _ _ _ ⟨n0, fs, pc, on, n1, gs, n2, hs⟩ _ UA.out).mono ?_
  rintro e w7 ⟨rfl, hb7⟩
  rw [HBB.out]
  have HB57 : Hid (Below W5.heap.size W5 w7) := hb7
  clear hb7 y0 y1 y2 y3 y4
  have KS : Hid (∀ y, Below w7.heap.size w7 y → (y.cell? ⟨q5, 0, none⟩ = some (.slice up0 n0 ud0) ∧ y.cell? ⟨q5, 1, none⟩ = some (.int .i64 pc) ∧ y.cell? ⟨q5, 2, none⟩ = some (.bool on) ∧ y.cell? ⟨q5, 3, none⟩ = some (.slice up1 n1 ud1) ∧ y.cell? ⟨q5, 4, none⟩ = some (.slice up2 n2 ud2)) ∧ y.cell? ⟨sz, 0, none⟩ = some (.slice a0 n0 c0) ∧ y.cell? ⟨sz, 1, none⟩ = some (.int .i64 pc) ∧ y.cell? ⟨sz, 2, none⟩ = some (.bool on) ∧ y.cell? ⟨sz, 3, none⟩ = some (.slice a1 n1 c1) ∧ y.cell? ⟨sz, 4, none⟩ = some (.slice a2 n2 c2)) := fun y hb => by
    have hb' : Below W5.heap.size W5 y := HB57.out.trans (hb.mono HB57.out.size)
    obtain ⟨y0, y1, y2, y3, y4, -⟩ := (X5.out.below hb' X5.out.lt).five
    exact ⟨⟨y0, y1, y2, y3, y4⟩, CA.out y (HA5.out.trans (hb'.mono HA5.out.size))⟩
  have K0 : Hid ((w7.drew.cell? ⟨q5, 0, none⟩ = some (.slice up0 n0 ud0) ∧ w7.drew.cell? ⟨q5, 1, none⟩ = some (.int .i64 pc) ∧ w7.drew.cell? ⟨q5, 2, none⟩ = some (.bool on) ∧ w7.drew.cell? ⟨q5, 3, none⟩ = some (.slice up1 n1 ud1) ∧ w7.drew.cell? ⟨q5, 4, none⟩ = some (.slice up2 n2 ud2)) ∧ w7.drew.cell? ⟨sz, 0, none⟩ = some (.slice a0 n0 c0) ∧ w7.drew.cell? ⟨sz, 1, none⟩ = some (.int .i64 pc) ∧ w7.drew.cell? ⟨sz, 2, none⟩ = some (.bool on) ∧ w7.drew.cell? ⟨sz, 3, none⟩ = some (.slice a1 n1 c1) ∧ w7.drew.cell? ⟨sz, 4, none⟩ = some (.slice a2 n2 c2)) := KS.out _ (Below.refl _ _).drew
  have HA7 : Hid (Below W.heap.size W w7) := HA5.out.trans (HB57.out.mono HA5.out.size)
  have INS7 : Hid (ThIn w7.drew a0 a1 a2 ⟨n0, fs, pc, on, n1, gs, n2, hs⟩) := INS.out _ (HB0.out.trans (HA7.out.mono (by have := HWS.out; omega))).drew
  go_upto_region 10 with (fail)
  go_region_held3 (fun w' => (w'.cell? ⟨q5, 0, none⟩ = some (.slice up0 n0 ud0) ∧ w'.cell? ⟨q5, 1, none⟩ = some (.int .i64 pc) ∧ w'.cell? ⟨q5, 2, none⟩ = some (.bool on) ∧ w'.cell? ⟨q5, 3, none⟩ = some (.slice up1 n1 ud1) ∧ w'.cell? ⟨q5, 4, none⟩ = some (.slice up2 n2 ud2)) ∧ w'.cell? ⟨sz, 0, none⟩ = some (.slice a0 n0 c0) ∧ w'.cell? ⟨sz, 1, none⟩ = some (.int .i64 pc) ∧ w'.cell? ⟨sz, 2, none⟩ = some (.bool on) ∧ w'.cell? ⟨sz, 3, none⟩ = some (.slice a1 n1 c1) ∧ w'.cell? ⟨sz, 4, none⟩ = some (.slice a2 n2 c2))
    (first | (with_reducible exact K2.out) | (with_reducible exact K1.out) | (with_reducible exact K0.out) | go_keep)
    (first
    | (go_at_call 16
       refine (toThread_any a0 a1 a2 c0 c1 c2 ⟨n0, fs, pc, on, n1, gs, n2, hs⟩ _ INS7.out).mono ?_
       rintro e w8 ⟨s0, s1, s2, rfl, sO, hb8⟩
       have hb8' : Below w7.heap.size w7 w8 := (Below.refl w7.heap.size w7).drew.trans hb8
       have HB8 : Hid (Below w7.heap.size w7 w8) := hb8'
       have SA8 : Hid (ThAt w8 s0 s1 s2 ⟨n0, fs, pc, on, n1, gs, n2, hs⟩) := sO.at SM.out
       have K1 : Hid ((w8.cell? ⟨q5, 0, none⟩ = some (.slice up0 n0 ud0) ∧ w8.cell? ⟨q5, 1, none⟩ = some (.int .i64 pc) ∧ w8.cell? ⟨q5, 2, none⟩ = some (.bool on) ∧ w8.cell? ⟨q5, 3, none⟩ = some (.slice up1 n1 ud1) ∧ w8.cell? ⟨q5, 4, none⟩ = some (.slice up2 n2 ud2)) ∧ w8.cell? ⟨sz, 0, none⟩ = some (.slice a0 n0 c0) ∧ w8.cell? ⟨sz, 1, none⟩ = some (.int .i64 pc) ∧ w8.cell? ⟨sz, 2, none⟩ = some (.bool on) ∧ w8.cell? ⟨sz, 3, none⟩ = some (.slice a1 n1 c1) ∧ w8.cell? ⟨sz, 4, none⟩ = some (.slice a2 n2 c2)) := KS.out _ hb8'
       clear hb8 hb8' sO)
    | (go_at_call 18
       refine (eqThread_same _ _ _ s0 s1 s2 ⟨n0, fs, pc, on, n1, gs, n2, hs⟩ _ ((UA.out.below HB57.out (Nat.le_refl _)).below HB8.out (Nat.le_refl _)) SA8.out).mono ?_
       rintro e w9 ⟨rfl, hb9⟩
       have hb9' : Below w7.heap.size w7 w9 := HB8.out.trans (hb9.mono HB8.out.size)
       have HB9 : Hid (Below w7.heap.size w7 w9) := hb9'
       have K2 : Hid ((w9.cell? ⟨q5, 0, none⟩ = some (.slice up0 n0 ud0) ∧ w9.cell? ⟨q5, 1, none⟩ = some (.int .i64 pc) ∧ w9.cell? ⟨q5, 2, none⟩ = some (.bool on) ∧ w9.cell? ⟨q5, 3, none⟩ = some (.slice up1 n1 ud1) ∧ w9.cell? ⟨q5, 4, none⟩ = some (.slice up2 n2 ud2)) ∧ w9.cell? ⟨sz, 0, none⟩ = some (.slice a0 n0 c0) ∧ w9.cell? ⟨sz, 1, none⟩ = some (.int .i64 pc) ∧ w9.cell? ⟨sz, 2, none⟩ = some (.bool on) ∧ w9.cell? ⟨sz, 3, none⟩ = some (.slice a1 n1 c1) ∧ w9.cell? ⟨sz, 4, none⟩ = some (.slice a2 n2 c2)) := KS.out _ hb9'
       clear hb9 hb9'))
  have hall : Below sz w w9 := HB0.out.trans ((HA7.out.trans (HB9.out.mono HA7.out.size)).mono (by have := HWS.out; omega))
  clear K0 K1 K2 KS SA8 HB8 HB9
  go_wp2
  go_ret
  exact ⟨rfl, by rw [HSZ.out]; exact hall⟩

set_option maxRecDepth 100000 in
theorem lifted (os : Os) (started : os.Started) (H : Type) (enc : TypeId × Value → H) :
    ReturnsInHanded {} Try.checked os 6 .any (Rows.fnExactThreadDoneSpec.pre6 enc Try.prog Try.f6 Rows.fnExactThreadDoneRow.domain false) (Rows.fnExactThreadDoneSpec.post enc Try.prog Try.f6 false true false false) := by
  refine returnsInHanded_of_change (C := Try.checked) own started (by kernel_rfl) Try.func6
    (ChangeSpec.witness6 (enc := enc) (C := Try.checked) false ⟨#[], #[.agg #[.slice none 0 0, .int .i64 0, .bool false, .slice none 0 0, .slice none 0 0]], []⟩ 8 (by kernel_rfl) (by kernel_rfl) (by kernel_rfl) (by kernel_rfl)) ?_
  intro W base args ds gs before hval0 hW hcnd _
  have hval : ∀ (j : Nat) t v, Try.f6.params[j]? = some t → args[j]? = some v → Value.okWide Try.prog W .any base t v := hval0
  have hW' := hW
  obtain ⟨p, q, hA0, hV, rfl, hfz, hnd⟩ := hW
  have hA : DataW.TrodAll enc Try.prog W 0 (fun _ => true) true Try.f6.params.toList args.toList ds p := hA0
  rw [Try.params6] at hA hval
  obtain ⟨v0, d0, rfl, rfl, h0⟩ := trodAll_one hA
  obtain ⟨rfl, rfl⟩ := trodVars_none hV
  have k0 := h0
  have lt0 : ∀ x ∈ p, x.block < W.heap.size := by obtain ⟨m, hm⟩ := k0; exact DataW.trod_lt m _ _ _ hm
  obtain ⟨a0, a1, a2, n0, c0, n1, c1, n2, c2, fs, gs, hs, pc, on, rfl, m0, m1, m2, q0, q1, q2⟩ := open_thread (hval 0 39 v0 rfl rfl) h0
  refine (walk a0 a1 a2 n0 c0 n1 c1 n2 c2 fs gs hs pc on W m0 m1 m2 q0 q1 q2).mono fun e W' ⟨he, bel⟩ => ?_
  subst he
  exact ⟨_, rfl, _, _, _, [], _, [], hW', trodAll_mk1 (shut_bool Try.underlying4 _), (trodAll_cons_mk (Below.trod laidOut (by kernel_rfl) (of_decide_eq_true (by kernel_rfl)) k0 bel lt0) trodAll_mk0), rfl, bel.frame _, fun h => by cases h⟩
end fnExactThreadDone
theorem fnExactThreadDone_holds : Rows.FnExactThreadDoneSaid :=
  OpenClaim.holds_of_wide 6 Try.f6 rfl rfl rfl rfl rfl rfl rfl ⟨rfl, rfl, rfl, rfl, rfl⟩ rfl rfl rfl rfl rfl (by kernel_rfl) Try.func6 (by kernel_rfl)
    (of_decide_eq_true (by kernel_rfl)) (by unfold Func.isWrapper; first | (rw [if_pos (by decide +kernel)]; kernel_rfl) | (rw [if_neg (by decide +kernel)]; exact ⟨rfl, rfl⟩))
    (fun os started H enc _ => fnExactThreadDone.lifted os started H enc)
#print axioms fnExactThreadDone_holds
end Go.Proofs.Ytemeklfkbjpnmar
