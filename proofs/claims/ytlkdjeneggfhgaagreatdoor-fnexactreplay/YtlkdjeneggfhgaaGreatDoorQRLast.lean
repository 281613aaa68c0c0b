/- Replay of the program answers as the specification's Replay at all machines, with memory of its own, and leaves what it was handed as it was: the card of the law FnExactReplay holds, with no condition beyond the program's own errors as its text lays them. -/
import Derived.Test.YtlkdjeneggfhgaaGreatDoorRows
import Derived.Test.YtlkdjeneggfhgaaGreatDoorQR43
import Derived.Test.YtlkdjeneggfhgaaGreatDoorTie
import Derived.Test.YtlkdjeneggfhgaaGreatDoorCards
import Derived.Test.YtlkdjeneggfhgaaGreatDoorQR15
import Derived.Test.YtlkdjeneggfhgaaGreatDoorQR16
import Derived.Test.YtlkdjeneggfhgaaGreatDoorQR08
import Derived.Test.YtlkdjeneggfhgaaGreatDoorQR23
import Derived.Test.YtlkdjeneggfhgaaGreatDoorQR35
import Derived.Test.YtlkdjeneggfhgaaGreatDoorQR38
import Derived.Test.YtlkdjeneggfhgaaGreatDoorQR40
import Derived.Test.YtlkdjeneggfhgaaGreatDoorQR44
import Derived.WalkKit
import Derived.ProofKit
import Derived.OpenShut
import Derived.LaidMore
import Derived.Stop.Joined
import Derived.Stop.LaidErr
import Derived.MakeChecks
import Derived.SevenTiedAt
import Derived.ChangeOld
import Derived.Below
import Derived.Lib.SmallJoins
import Derived.Deep.RegionHeld3
import Derived.Deep.Cut
namespace Go.Proofs.YtlkdjeneggfhgaaGreatDoor
open Go.ChangeShapes Go.WideShapes Go.ChangeAt Go.RowKit Go.Joins
namespace fnExactReplay
theorem own : ownKnob Tryz.prog.godebug = none := by kernel_rfl
theorem laidOut : laidOutB Tryz.prog = true := by kernel_rfl
theorem vars_at {H : Type} (enc : TypeId × Value → H) {W : World} {a0 a1 : Addr} (h_errNoMachine : VarE W "loop.example/g00468/impl.errNoMachine" a0) (h_errNotSo : VarE W "loop.example/g00468/impl.errNotSo" a1) (sp : Nat → Bool) :
   DataW.TrodVars enc Tryz.prog W sp ["loop.example/g00468/impl.errNoMachine", "loop.example/g00468/impl.errNotSo"] [tok enc (.iface 269 (.pointer (some a0))), tok enc (.iface 269 (.pointer (some a1)))] (MemPlace.row ⟨0, 0, none⟩ 1 ++ [] ++ (MemPlace.row ⟨1, 0, none⟩ 1 ++ [] ++ [])) :=
 ⟨0, 72, #[.iface 269 (.pointer (some a0))], 1, [], _, gE_errNoMachine, tE_errNoMachine, h_errNoMachine, trod_held (v := .iface 269 (.pointer (some a0))) Tryz.underlying72 trivial 0, ⟨1, 72, #[.iface 269 (.pointer (some a1))], 1, [], _, gE_errNotSo, tE_errNotSo, h_errNotSo, trod_held (v := .iface 269 (.pointer (some a1))) Tryz.underlying72 trivial 0, rfl, rfl⟩, rfl⟩
/-- The heap that the door's own run leaves meets the row's condition on its variables. -/
theorem door_met (os : Os) (args : Array Value) : laidMetH Tryz.prog Rows.fnExactReplayRow.laid ((World.doorLaid Tryz.prog 200 os).forCall (fun _ _ => 0) ⟨#[], args, []⟩).memory :=
 laidMetH_of_parts3 (fuel := 8) (laidMet_of_run' 8 (by kernel_rfl) (by kernel_rfl)) (by kernel_rfl) (by kernel_rfl)
set_option maxRecDepth 100000 in
theorem lifted (os : Os) (started : os.Started) (H : Type) (enc : TypeId × Value → H) :
   ReturnsInHanded {} Tryz.checked os 3 .any (fun w args => (Rows.fnExactReplaySpec.pre enc Tryz.prog Tryz.f3 [] false w args ∧ laidMetH Tryz.prog Rows.fnExactReplayRow.laid w) ∧ sizedMet enc Tryz.prog Tryz.f3 (OpenSpec.ofChange Rows.fnExactReplaySpec) false w args)
     (Rows.fnExactReplaySpec.post enc Tryz.prog Tryz.f3 false true false false) := by
 refine returnsInHanded_of_change_and (C := Tryz.checked) (X := fun w _ => laidMetH Tryz.prog Rows.fnExactReplayRow.laid w) (fun _ _ _ hh h => h.of_heap hh) own started (by kernel_rfl) Tryz.func3
   (ChangeSpec.witness_shaped (enc := enc) (C := Tryz.checked) (os := os) (X := fun w _ => laidMetH Tryz.prog Rows.fnExactReplayRow.laid w) false (World.doorLaid Tryz.prog 200 os) #[.agg #[.slice none 0 0, .slice none 0 0, .slice none 0 0, .int .i64 0, .slice none 0 0, .slice none 0 0, .slice none 0 0, .int .i64 0]] 8 rfl (World.shaped_of_RefB (by kernel_rfl) (by kernel_rfl)) (by kernel_rfl) (by kernel_rfl) (by kernel_rfl) (door_met os _)) ?_
 intro W base args ds gs before hval0 hW _ _ hL _
 have hval : ∀ (j : Nat) t v, Tryz.f3.params[j]? = some t → args[j]? = some v → Value.okWide Tryz.prog W .any base t v := hval0
 have hW' := hW
 obtain ⟨p, q, hA0, hV0, rfl, hfz, hnd⟩ := hW
 have hA : DataW.TrodAll enc Tryz.prog W 0 (fun _ => true) true Tryz.f3.params.toList args.toList ds p := hA0
 have hV : DataW.TrodVars enc Tryz.prog W (fun _ => true) ["loop.example/g00468/impl.errNoMachine", "loop.example/g00468/impl.errNotSo"] gs q := hV0
 have hL' : laidMet Tryz.prog Rows.fnExactReplayRow.laid W := by rw [← MakeChecks.laidMetH_plain _ _ _ (by kernel_rfl)]; exact hL
 obtain ⟨a0, a1, h_errNoMachine, h_errNotSo, hne, hb0, hb1⟩ := sent_two hL'
 obtain ⟨rfl, rfl⟩ := hV.unique (vars_at enc h_errNoMachine h_errNotSo _)
 have hE : ErrR W := ⟨a0, a1, h_errNoMachine.cell gE_errNoMachine, h_errNotSo.cell gE_errNotSo, hne, hb0, hb1⟩
 rw [Tryz.params3] at hA hval
 obtain ⟨v0, d0, rfl, rfl, h0⟩ := trodAll_one hA
 have k0 := h0
 have lt0 : ∀ x ∈ p, x.block < W.heap.size := by obtain ⟨m, hm⟩ := k0; exact DataW.trod_lt m _ _ _ hm
 obtain ⟨vs, cs, rfl, hI, hH, hF⟩ := open_st Tryz.underlying32 flatMachine (hval 0 32 v0 rfl rfl) h0
 clear hA0 hV0 hval0
 refine (walk vs cs W hI hH hF hE).mono fun e W' ⟨he, bel⟩ => ?_
 subst he
 exact ⟨_, rfl, _, _, _, [], _, _, hW', trodAll_mk1 (shut_bool Tryz.underlying4 _), (trodAll_cons_mk (Below.trod laidOut (by kernel_rfl) (of_decide_eq_true (by kernel_rfl)) k0 bel lt0) trodAll_mk0), vars_at enc (h_errNoMachine.below gE_errNoMachine bel) (h_errNotSo.below gE_errNotSo bel) _, bel.frame _, fun h => by cases h⟩
theorem row_holds : Rows.FnExactReplaySaid :=
 OpenClaim.holds_of_wide 3 Tryz.f3 rfl rfl rfl rfl rfl rfl rfl ⟨rfl, rfl, rfl, rfl, rfl⟩ rfl rfl rfl rfl rfl (by kernel_rfl) Tryz.func3 (by kernel_rfl)
   (of_decide_eq_true (by kernel_rfl)) (by unfold Func.isWrapper; first | (rw [if_pos (by decide +kernel)]; kernel_rfl) | (rw [if_neg (by decide +kernel)]; exact ⟨rfl, rfl⟩))
   (fun os started H enc _ => lifted os started H enc)
end fnExactReplay
theorem fnExactReplay_holds : Rows.FnExactReplayCardSaid :=
 Claim7.holds_tied_plain_at .later [] [.sentinel, .sentinel] true Rows.fnExactReplayCard.stood.harness Rows.fnExactReplayCard.stood.looks
   fnExactReplay.row_holds (fun _ h => by cases h) (by kernel_rfl) (fun _ h => by cases h) fnExactReplay_row_tie rfl ⟨rfl, rfl⟩ (by kernel_rfl) rfl
   (fun f fn hf hfn => by
     obtain rfl : f = 3 := Option.some.inj ((show Tryz.prog.funcNamed Rows.fnExactReplayRow.func = some 3 by kernel_rfl).symm.trans hf) |>.symm
     obtain rfl : fn = Tryz.f3 := (Option.some.inj (Tryz.func3.symm.trans hfn)).symm
     exact ⟨by kernel_rfl, fun j t ht => by
       rw [Tryz.params3] at ht
       have hm : t ∈ [32] := by simpa using Array.mem_of_getElem? ht
       have hall : ([32].all fun u => !Tryz.prog.wantsStandIn u) = true := by kernel_rfl
       exact (show Tryz.prog.wantsStandIn t = false by simpa using List.all_eq_true.1 hall t hm)⟩)
   (by kernel_rfl)
#print axioms fnExactReplay_holds
end Go.Proofs.YtlkdjeneggfhgaaGreatDoor
