/- The card FnExactValueText, walked from what the program's function is said to answer. -/
import Derived.Test.YtnjgeokjlfghcaaDoorRows
import Derived.Test.YtnjgeokjlfghcaaDoorTie
import Derived.Test.YtnjgeokjlfghcaaDoorCards
import Derived.Test.YtnjgeokjlfghcaaDoorValL
import Derived.Test.YtnjgeokjlfghcaaDoorSpecVx
import Derived.Test.YtnjgeokjlfghcaaDoorOpenVa
import Derived.Test.YtnjgeokjlfghcaaDoorPowT
import Derived.WalkKit
import Derived.ProofKit
import Derived.OpenShut
import Derived.ChangeOld
import Derived.Below
import Derived.LaidMore
import Derived.Stop.Joined
import Derived.Stop.LaidErr
import Derived.Lib.LaidTab
import Derived.Lib.SmallJoins
import Derived.MakeChecks
import Derived.SevenTiedAt
import Derived.Deep.RegionHeld3
import Derived.Deep.Cut
namespace Go.Proofs.YtnjgeokjlfghcaaDoor
open Go.ChangeShapes Go.WideShapes Go.ChangeAt Go.RowKit Go.Joins

namespace fnExactValueText
theorem own : ownKnob Tryd.prog.godebug = none := by kernel_rfl
theorem laidOut : laidOutB Tryd.prog = true := by kernel_rfl
/-- What the law asks of the program's function. -/
def Asked : Prop := ∀ (k n : Int) (s : ByteArray) (w : World), PowT w → Calls Tryd.prog 16 #[VaV k n s] w fun e w' => TextSays e (valB k n s) ∧ Below w.heap.size w w'
set_option maxHeartbeats 4000000 in
set_option maxRecDepth 100000 in
theorem walk (k n : Int) (s : ByteArray) (w : World) (hs : s.size ≤ 9223372036854775807) (hT : PowT w) (implC : Asked) :
    Calls Tryd.prog 4 #[VaV k n s] w fun e w' => e = .returned (.bool true) ∧ Below w.heap.size w w' := by
  have HC : Hid (∀ (k n : Int) (s : ByteArray) (w : World), PowT w → Calls Tryd.prog 16 #[VaV k n s] w fun e w' => TextSays e (valB k n s) ∧ Below w.heap.size w w') := implC
  have HT : Hid (PowT w) := hT
  obtain ⟨W, hW⟩ : ∃ W, w.alloc (.cells #[.int .i64 k, .int .i64 n, .string s] 32) = W := ⟨_, rfl⟩
  have B0 : Hid (Below w.heap.size w W) := by rw [← hW]; exact (Below.refl _ w).alloc (Nat.le_refl _) _
  have X0 : Hid (Box W w.heap.size #[.int .i64 k, .int .i64 n, .string s] 32) := by rw [← hW]; exact box_of w _ _
  have HW : Hid (w.alloc (.cells #[.int .i64 k, .int .i64 n, .string s] 32) = W) := hW
  have BX : Hid (∀ y, Below W.heap.size W y → y.cell? ⟨w.heap.size, 0, none⟩ = some (.int .i64 k) ∧ y.cell? ⟨w.heap.size, 1, none⟩ = some (.int .i64 n) ∧ y.cell? ⟨w.heap.size, 2, none⟩ = some (.string s)) := fun y hb => (X0.out.below hb X0.out.lt).triV
  clear hW implC hT
  go_enter Tryd.func4, Tryd.ntmps4
  go_upto_region 1 with (fail)
  rw [HW.out]
  obtain ⟨c0, c1, c2⟩ := BX.out _ (Below.refl _ _)
  go_wp2_with fail
  refine (szValue_any k n s 1048576 hs (by omega) (by omega) _).mono ?_
  rintro e w1 ⟨rfl, hb1⟩
  have HB1 : Hid (Below W.heap.size W w1) := hb1
  clear hb1 c0 c1 c2
  by_cases hl : (s.size : Int) ≤ 1048576
  rotate_left
  · have HL : Hid (leftV s 1048576 = -1) := if_neg hl
    rw [HL.out]
    go_wp2
    go_ret
    exact ⟨rfl, B0.out.trans (HB1.out.mono B0.out.size)⟩
  have HL : Hid (leftV s 1048576 = 1048576 - s.size) := if_pos hl
  rw [HL.out]
  have h2 : ¬ (1048576 - (s.size : Int) < 0) := by omega
  obtain ⟨c0, c1, c2⟩ := BX.out _ HB1.out
  go_wp2_with fail
  refine (toValue_any k n s _).mono ?_
  rintro e w2 ⟨rfl, hb2⟩
  have HB2 : Hid (Below W.heap.size W w2) := HB1.out.trans (hb2.mono HB1.out.size)
  clear hb2 c0 c1 c2
  go_wp2_with fail
  refine (specValueText_any k n s _).mono ?_
  rintro e w3 ⟨⟨s3, rfl, hs3⟩, hb3⟩
  have HS3 : Hid (s3.data.toList = valB k n s) := hs3
  have HB3 : Hid (Below W.heap.size W w3) := HB2.out.trans (hb3.mono HB2.out.size)
  clear hb3 hs3
  obtain ⟨c0, c1, c2⟩ := BX.out _ HB3.out
  go_wp2_with fail
  refine (toValue_any k n s _).mono ?_
  rintro e w4 ⟨rfl, hb4⟩
  have HB4 : Hid (Below W.heap.size W w4) := HB3.out.trans (hb4.mono HB3.out.size)
  clear hb4 c0 c1 c2
  go_wp2_with fail
  refine (HC.out k n s _ (HT.out.below (B0.out.trans (HB4.out.mono B0.out.size)) (Nat.le_refl _))).mono ?_
  rintro e w5 ⟨⟨s5, rfl, hs5⟩, hb5⟩
  obtain rfl : s3 = s5 := str_eq (HS3.out.trans hs5.symm)
  have HB5 : Hid (Below W.heap.size W w5) := HB4.out.trans (hb5.mono HB4.out.size)
  clear hb5 hs5
  go_wp2
  go_ret
  exact ⟨rfl, B0.out.trans (HB5.out.mono B0.out.size)⟩
/-- The heap that the door's own run leaves meets the row's condition on the tables. -/
theorem door_met (os : Os) (args : Array Value) : laidMetH Tryd.prog Rows.fnExactValueTextRow.laid ((World.doorLaid Tryd.prog 200 os).forCall (fun _ _ => 0) ⟨#[], args, []⟩).memory :=
  laidMetH_of_parts3 (fuel := 8) (laidMet_of_run' 8 (by kernel_rfl) (by kernel_rfl)) (by kernel_rfl) (by kernel_rfl)
theorem of_laid {W : World} (h : laidMetH Tryd.prog Rows.fnExactValueTextRow.laid W) : PowT W := by
  rw [MakeChecks.laidMetH_plain _ _ _ (by kernel_rfl)] at h
  have h2 : laidMet Tryd.prog [("internal/strconv.uint64pow10", Rows.laid_internal_strconv_uint64pow10)] W := laidMet.tail (laidMet.tail h)
  rw [tab_is] at h2
  exact ⟨Lib.tabIs_of_head gTab tTab Tryd.underlying76 Tryd.underlying69 cU64 cTab h2⟩
set_option maxRecDepth 100000 in
theorem lifted (implC : Asked) (os : Os) (started : os.Started) (H : Type) (enc : TypeId × Value → H) :
    ReturnsInHanded {} Tryd.checked os 4 .any (fun w args => (Rows.fnExactValueTextSpec.pre enc Tryd.prog Tryd.f4 [] false w args ∧ laidMetH Tryd.prog Rows.fnExactValueTextRow.laid w) ∧ sizedMet enc Tryd.prog Tryd.f4 (OpenSpec.ofChange Rows.fnExactValueTextSpec) false w args)
      (Rows.fnExactValueTextSpec.post enc Tryd.prog Tryd.f4 false true false false) := by
  refine returnsInHanded_of_change_and (C := Tryd.checked) (X := fun w _ => laidMetH Tryd.prog Rows.fnExactValueTextRow.laid w) (fun _ _ _ hh h => h.of_heap hh) own started (by kernel_rfl) Tryd.func4
    (ChangeSpec.witness_shaped (enc := enc) (C := Tryd.checked) (os := os) (X := fun w _ => laidMetH Tryd.prog Rows.fnExactValueTextRow.laid w) false (World.doorLaid Tryd.prog 200 os) #[.agg #[.int .i64 0, .int .i64 0, .string ⟨#[]⟩]] 8 rfl (World.shaped_of_RefB (by kernel_rfl) (by kernel_rfl)) (by kernel_rfl) (by kernel_rfl) (by kernel_rfl) (door_met os _)) ?_
  intro W base args ds gs before hval0 hW _ _ hL _
  have hval : ∀ (j : Nat) t v, Tryd.f4.params[j]? = some t → args[j]? = some v → Value.okWide Tryd.prog W .any base t v := hval0
  have hW' := hW
  obtain ⟨p, q, hA0, hV0, rfl, hfz, hnd⟩ := hW
  have hA : DataW.TrodAll enc Tryd.prog W 0 (fun _ => true) true Tryd.f4.params.toList args.toList ds p := hA0
  have hT := of_laid hL
  obtain ⟨rfl, rfl⟩ := trodVars_none hV0
  rw [Tryd.params4] at hA hval
  obtain ⟨v0, d0, rfl, rfl, h0⟩ := trodAll_one hA
  have k0 := h0
  have lt0 : ∀ x ∈ p, x.block < W.heap.size := by obtain ⟨m, hm⟩ := k0; exact DataW.trod_lt m _ _ _ hm
  obtain ⟨k, n, s, rfl, hs, _, _⟩ := open_va (hval 0 32 v0 rfl rfl) h0
  refine (walk k n s W hs hT implC).mono fun e W' ⟨he, bel⟩ => ?_
  subst he
  exact ⟨_, rfl, _, _, _, [], _, _, hW', trodAll_mk1 (shut_bool Tryd.underlying4 _), (trodAll_cons_mk (Below.trod laidOut (by kernel_rfl) (of_decide_eq_true (by kernel_rfl)) k0 bel lt0) trodAll_mk0), rfl, bel.frame _, fun h => by cases h⟩
theorem row_holds (implC : Asked) : Rows.FnExactValueTextSaid :=
  OpenClaim.holds_of_wide 4 Tryd.f4 rfl rfl rfl rfl rfl rfl rfl ⟨rfl, rfl, rfl, rfl, rfl⟩ rfl rfl rfl rfl rfl (by kernel_rfl) Tryd.func4 (by kernel_rfl)
    (of_decide_eq_true (by kernel_rfl)) (by unfold Func.isWrapper; first | (rw [if_pos (by decide +kernel)]; kernel_rfl) | (rw [if_neg (by decide +kernel)]; exact ⟨rfl, rfl⟩))
    (fun os started H enc _ => lifted implC os started H enc)
end fnExactValueText
theorem fnExactValueText_over (implC : fnExactValueText.Asked) : Rows.FnExactValueTextCardSaid :=
  Claim7.holds_tied_plain_at .later [] [.data, .data, .data] true Rows.fnExactValueTextCard.stood.harness Rows.fnExactValueTextCard.stood.looks
    (fnExactValueText.row_holds implC) (fun _ h => by cases h) (by kernel_rfl) (fun _ h => by cases h) fnExactValueText_row_tie rfl ⟨rfl, rfl⟩ (by kernel_rfl) rfl
    (fun f fn hf hfn => by
      obtain rfl : f = 4 := Option.some.inj ((show Tryd.prog.funcNamed Rows.fnExactValueTextRow.func = some 4 by kernel_rfl).symm.trans hf) |>.symm
      obtain rfl : fn = Tryd.f4 := (Option.some.inj (Tryd.func4.symm.trans hfn)).symm
      exact ⟨by kernel_rfl, fun j t ht => by
        rw [Tryd.params4] at ht
        have hm : t ∈ [32] := by simpa using Array.mem_of_getElem? ht
        have hall : ([32].all fun u => !Tryd.prog.wantsStandIn u) = true := by kernel_rfl
        exact (show Tryd.prog.wantsStandIn t = false by simpa using List.all_eq_true.1 hall t hm)⟩)
    (by kernel_rfl)
end Go.Proofs.YtnjgeokjlfghcaaDoor
