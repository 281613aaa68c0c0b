/- The card FnExactTupleText, walked from what the program's function is said to answer. -/
import Derived.Test.YtgibeakclknhnabDoorRows
import Derived.Test.YtgibeakclknhnabDoorTie
import Derived.Test.YtgibeakclknhnabDoorCards
import Derived.Test.YtgibeakclknhnabDoorVasC
import Derived.Test.YtgibeakclknhnabDoorSp18y
import Derived.Test.YtgibeakclknhnabDoorDatVs
import Derived.Test.YtgibeakclknhnabDoorDatVt
import Derived.Test.YtgibeakclknhnabDoorPowT
import Derived.WalkKit
import Derived.ProofKit
import Derived.OpenShut
import Derived.ChangeOld
import Derived.Below
import Derived.LaidMore
import Derived.Stop.Joined
import Derived.Stop.LaidErr
import Derived.Lib.LaidTab
import Derived.Lib.SmallJoins
import Derived.MakeChecks
import Derived.SevenTiedAt
import Derived.Deep.RegionHeld3
import Derived.Deep.Cut
namespace Go.Proofs.YtgibeakclknhnabDoor
open Go.ChangeShapes Go.WideShapes Go.ChangeAt Go.RowKit Go.Joins

namespace fnExactTupleText
theorem own : ownKnob Tryd.prog.godebug = none := by kernel_rfl
theorem laidOut : laidOutB Tryd.prog = true := by kernel_rfl
/-- What the law asks of the program's function. -/
def Asked : Prop := ∀ (a : Option Addr) (n c : Nat) (L : List Va3) (w : World), PowT w → VasAt w a n L → n ≤ c → Calls Tryd.prog 16 #[.slice a n c] w fun e w' => TextSays e (txtsB L) ∧ Below w.heap.size w w'
set_option maxHeartbeats 8000000 in
set_option maxRecDepth 100000 in
theorem walk (v : Value) (n : Nat) (cs : List Cel) (w : World) (h : In w v (.l 38 3 n cs)) (hs : Has (.l 38 3 n cs) (.l 38 3 tyValue)) (hT : PowT w) (implC : Asked) :
    Calls Tryd.prog 4 #[v] w fun e w' => e = .returned (.bool true) ∧ Below w.heap.size w w' := by
  have HIN : Hid (In w v (.l 38 3 n cs)) := h
  have HS : Hid (Has (.l 38 3 n cs) (.l 38 3 tyValue)) := hs
  have HC : Hid (∀ (a : Option Addr) (n c : Nat) (L : List Va3) (w : World), PowT w → VasAt w a n L → n ≤ c → Calls Tryd.prog 16 #[.slice a n c] w fun e w' => TextSays e (txtsB L) ∧ Below w.heap.size w w') := implC
  have HT : Hid (PowT w) := hT
  clear h hs implC hT
  go_enter Tryd.func4, Tryd.ntmps4
  go_wp2_with fail
  refine (dSzValueS v n cs 1048576 w HIN.out HS.out (by omega) (by omega)).mono ?_
  rintro e w1 ⟨hb1, ⟨r, rfl, hr0, hr1⟩ | ⟨rfl, hbig⟩⟩
  case inr =>
    go_wp2
    go_ret
    exact ⟨rfl, hb1⟩
  have BIG : Hid (n + bigL cs ≤ 1048576) := by show _ ≤ _; omega
  have hr2 : ¬ r < 0 := by omega
  have HB1 : Hid (Below w.heap.size w w1) := hb1
  have INS : Hid (∀ y, Below w.heap.size w y → At false y v (.l 38 3 n cs)) := fun y hb => (HIN.out.on hb (Nat.le_refl _)).at (by have := BIG.out; simp only [Cel.big]; omega)
  clear hb1 hr0 hr1
  go_wp2_with fail
  refine (dToValueS v n cs _ (INS.out _ HB1.out) HS.out).mono ?_
  rintro e w2 ⟨hb2, u2, S2, rfl, hO2⟩
  obtain ⟨a2, c2, rfl, hv2, -⟩ := vas_of hO2.at HS.out
  have HB2 : Hid (Below w.heap.size w w2) := HB1.out.trans (hb2.mono HB1.out.size)
  have HV2 : Hid (VasAt w2 a2 n (vasD cs n)) := hv2
  clear hb2 hO2 hv2
  go_wp2_with fail
  refine (specTupleText_any a2 n c2 (vasD cs n) _ HV2.out).mono ?_
  rintro e w3 ⟨⟨s3, rfl, hs3⟩, hb3⟩
  have HS3 : Hid (s3.data.toList = txtsB (vasD cs n)) := hs3
  have HB3 : Hid (Below w.heap.size w w3) := HB2.out.trans (hb3.mono HB2.out.size)
  clear hb3 hs3
  go_wp2_with fail
  refine (dToValueS v n cs _ (INS.out _ HB3.out) HS.out).mono ?_
  rintro e w4 ⟨hb4, u4, S4, rfl, hO4⟩
  obtain ⟨a4, c4, rfl, hv4, hc4⟩ := vas_of hO4.at HS.out
  have HB4 : Hid (Below w.heap.size w w4) := HB3.out.trans (hb4.mono HB3.out.size)
  have HV4 : Hid (VasAt w4 a4 n (vasD cs n)) := hv4
  have HC4 : Hid (n ≤ c4) := hc4 rfl
  have UA4 : Hid (At false w4 (.slice a4 n c4) (.l 38 3 n cs)) := hO4.at.loose
  clear hb4 hO4 hv4 hc4
  go_wp2_with fail
  refine (HC.out a4 n c4 (vasD cs n) _ (HT.out.below HB4.out (Nat.le_refl _)) HV4.out HC4.out).mono ?_
  rintro e w5 ⟨⟨s5, rfl, hs5⟩, hb5⟩
  obtain rfl : s3 = s5 := str_eq (HS3.out.trans hs5.symm)
  have HB45 : Hid (Below w4.heap.size w4 w5) := hb5
  have HB5 : Hid (Below w.heap.size w w5) := HB4.out.trans (hb5.mono HB4.out.size)
  clear hb5 hs5
  go_wp2_with fail
  refine (dToValueS v n cs _ (INS.out _ HB5.out) HS.out).mono ?_
  rintro e w6 ⟨hb6, u6, S6, rfl, hO6⟩
  have HB46 : Hid (Below w4.heap.size w4 w6) := HB45.out.trans (hb6.mono HB45.out.size)
  have HB6 : Hid (Below w.heap.size w w6) := HB5.out.trans (hb6.mono HB5.out.size)
  have SA6 : Hid (At false w6 u6 (.l 38 3 n cs)) := hO6.at.loose
  clear hb6 hO6
  go_wp2_with fail
  refine (dEqValueS (.slice a4 n c4) u6 n cs _ (UA4.out.on HB46.out (Nat.le_refl _)) SA6.out HS.out).mono ?_
  rintro e w7 ⟨rfl, hb7⟩
  have HB7 : Hid (Below w.heap.size w w7) := HB6.out.trans (hb7.mono HB6.out.size)
  clear hb7
  go_wp2
  go_ret
  exact ⟨rfl, HB7.out⟩
/-- The heap that the door's own run leaves meets the row's condition on the tables. -/
theorem door_met (os : Os) (args : Array Value) : laidMetH Tryd.prog Rows.fnExactTupleTextRow.laid ((World.doorLaid Tryd.prog 200 os).forCall (fun _ _ => 0) ⟨#[], args, []⟩).memory :=
  laidMetH_of_parts3 (fuel := 8) (laidMet_of_run' 8 (by kernel_rfl) (by kernel_rfl)) (by kernel_rfl) (by kernel_rfl)
theorem of_laid {W : World} (h : laidMetH Tryd.prog Rows.fnExactTupleTextRow.laid W) : PowT W := by
  rw [MakeChecks.laidMetH_plain _ _ _ (by kernel_rfl)] at h
  have h2 : laidMet Tryd.prog [("internal/strconv.uint64pow10", Rows.laid_internal_strconv_uint64pow10)] W := laidMet.tail (laidMet.tail h)
  rw [tab_is] at h2
  exact ⟨Lib.tabIs_of_head gTab tTab Tryd.underlying123 Tryd.underlying116 cU64 cTab h2⟩
set_option maxRecDepth 100000 in
theorem lifted (implC : Asked) (os : Os) (started : os.Started) (H : Type) (enc : TypeId × Value → H) :
    ReturnsInHanded {} Tryd.checked os 4 .any (fun w args => (Rows.fnExactTupleTextSpec.pre enc Tryd.prog Tryd.f4 [] false w args ∧ laidMetH Tryd.prog Rows.fnExactTupleTextRow.laid w) ∧ sizedMet enc Tryd.prog Tryd.f4 (OpenSpec.ofChange Rows.fnExactTupleTextSpec) false w args)
      (Rows.fnExactTupleTextSpec.post enc Tryd.prog Tryd.f4 false true false false) := by
  refine returnsInHanded_of_change_and (C := Tryd.checked) (X := fun w _ => laidMetH Tryd.prog Rows.fnExactTupleTextRow.laid w) (fun _ _ _ hh h => h.of_heap hh) own started (by kernel_rfl) Tryd.func4
    (ChangeSpec.witness_shaped (enc := enc) (C := Tryd.checked) (os := os) (X := fun w _ => laidMetH Tryd.prog Rows.fnExactTupleTextRow.laid w) false (World.doorLaid Tryd.prog 200 os) #[.slice none 0 0] 8 rfl (World.shaped_of_RefB (by kernel_rfl) (by kernel_rfl)) (by kernel_rfl) (by kernel_rfl) (by kernel_rfl) (door_met os _)) ?_
  intro W base args ds gs before hval0 hW _ _ hL _
  have hval : ∀ (j : Nat) t v, Tryd.f4.params[j]? = some t → args[j]? = some v → Value.okWide Tryd.prog W .any base t v := hval0
  have hW' := hW
  obtain ⟨p, q, hA0, hV0, rfl, hfz, hnd⟩ := hW
  have hA : DataW.TrodAll enc Tryd.prog W 0 (fun _ => true) true Tryd.f4.params.toList args.toList ds p := hA0
  have hT := of_laid hL
  obtain ⟨rfl, rfl⟩ := trodVars_none hV0
  rw [Tryd.params4] at hA hval
  obtain ⟨v0, d0, rfl, rfl, h0⟩ := trodAll_one hA
  have k0 := h0
  have lt0 : ∀ x ∈ p, x.block < W.heap.size := by obtain ⟨m, hm⟩ := k0; exact DataW.trod_lt m _ _ _ hm
  obtain ⟨la, ln, lc, rfl⟩ := okWide_slice Tryd.underlying32 (hval 0 32 v0 rfl rfl)
  obtain ⟨nl, cl, hI, hH, hF⟩ := open_vas h0
  refine (walk (.slice la ln lc) nl cl W hI hH hT implC).mono fun e W' ⟨he, bel⟩ => ?_
  subst he
  exact ⟨_, rfl, _, _, _, [], _, _, hW', trodAll_mk1 (shut_bool Tryd.underlying4 _), (trodAll_cons_mk (Below.trod laidOut (by kernel_rfl) (of_decide_eq_true (by kernel_rfl)) k0 bel lt0) trodAll_mk0), rfl, bel.frame _, fun h => by cases h⟩
theorem row_holds (implC : Asked) : Rows.FnExactTupleTextSaid :=
  OpenClaim.holds_of_wide 4 Tryd.f4 rfl rfl rfl rfl rfl rfl rfl ⟨rfl, rfl, rfl, rfl, rfl⟩ rfl rfl rfl rfl rfl (by kernel_rfl) Tryd.func4 (by kernel_rfl)
    (of_decide_eq_true (by kernel_rfl)) (by unfold Func.isWrapper; first | (rw [if_pos (by decide +kernel)]; kernel_rfl) | (rw [if_neg (by decide +kernel)]; exact ⟨rfl, rfl⟩))
    (fun os started H enc _ => lifted implC os started H enc)
end fnExactTupleText
theorem fnExactTupleText_over (implC : fnExactTupleText.Asked) : Rows.FnExactTupleTextCardSaid :=
  Claim7.holds_tied_plain_at .later [] [.data, .data, .data] true Rows.fnExactTupleTextCard.stood.harness Rows.fnExactTupleTextCard.stood.looks
    (fnExactTupleText.row_holds implC) (fun _ h => by cases h) (by kernel_rfl) (fun _ h => by cases h) fnExactTupleText_row_tie rfl ⟨rfl, rfl⟩ (by kernel_rfl) rfl
    (fun f fn hf hfn => by
      obtain rfl : f = 4 := Option.some.inj ((show Tryd.prog.funcNamed Rows.fnExactTupleTextRow.func = some 4 by kernel_rfl).symm.trans hf) |>.symm
      obtain rfl : fn = Tryd.f4 := (Option.some.inj (Tryd.func4.symm.trans hfn)).symm
      exact ⟨by kernel_rfl, fun j t ht => by
        rw [Tryd.params4] at ht
        have hm : t ∈ [32] := by simpa using Array.mem_of_getElem? ht
        have hall : ([32].all fun u => !Tryd.prog.wantsStandIn u) = true := by kernel_rfl
        exact (show Tryd.prog.wantsStandIn t = false by simpa using List.all_eq_true.1 hall t hm)⟩)
    (by kernel_rfl)
end Go.Proofs.YtgibeakclknhnabDoor
