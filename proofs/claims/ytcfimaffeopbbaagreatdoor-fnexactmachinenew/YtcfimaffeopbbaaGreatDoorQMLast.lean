/- MachineNew of the program answers as the specification's MachineNew at all rows and lists of ops, with memory of its own, and leaves what it was handed as it was: the card of the law FnExactMachineNew holds, with no condition beyond the program's own table of names as its text lays it. -/
import Derived.Test.YtcfimaffeopbbaaGreatDoorRows
import Derived.Test.YtcfimaffeopbbaaGreatDoorTie
import Derived.Test.YtcfimaffeopbbaaGreatDoorCards
import Derived.Test.YtcfimaffeopbbaaGreatDoorQM37
import Derived.Test.YtcfimaffeopbbaaGreatDoorQM03
import Derived.WalkKit
import Derived.ProofKit
import Derived.OpenShut
import Derived.ChangeOld
import Derived.Below
import Derived.LaidMore
import Derived.Stop.Joined
import Derived.Stop.LaidErr
import Derived.MakeChecks
import Derived.SevenTiedAt
import Derived.Lib.SmallJoins
namespace Go.Proofs.YtcfimaffeopbbaaGreatDoor
open Go.ChangeShapes Go.WideShapes Go.ChangeAt Go.RowKit Go.Joins
namespace fnExactMachineNew
theorem own : ownKnob Tryz.prog.godebug = none := by kernel_rfl
theorem laidOut : laidOutB Tryz.prog = true := by kernel_rfl
theorem flatOpSS : Flat Tryz.prog 25 [.l 55 1 tyOpS] :=
 Flat.l _ _ 55 1 _ Tryz.underlying25 rfl (by decide) (by kernel_rfl) (Flat.l _ _ 82 3 _ Tryz.underlying51 rfl (by decide) (by kernel_rfl) flatOp)
theorem open_opss {H : Type} {enc : TypeId × Value → H} {W : World} {base : Nat} {held : Bool} {a : Option Addr} {n c : Nat} {d : DataW H} {p : List MemPlace} (h : DataW.Trod enc Tryz.prog W base (fun _ => true) held 25 (.slice a n c) d p) :
   ∃ n' cl, In W (.slice a n c) (.l 55 1 n' cl) ∧ Has (.l 55 1 n' cl) (.l 55 1 tyOpS) := by
 obtain ⟨fuel, hx⟩ := h
 obtain ⟨ds, h1, h2, -⟩ := open_flat flatOpSS hx
 have h1' : InL W [.slice a n c] ds := by simpa [Value.cells] using h1
 obtain ⟨x, rfl, T⟩ := h2.c1
 obtain ⟨n', cl, rfl, -⟩ := T.list
 exact ⟨n', cl, h1'.2 0 _ _ rfl rfl, T⟩
/-- The heap that the door's own run leaves meets the row's condition on the table. -/
theorem door_met (os : Os) (args : Array Value) : laidMetH Tryz.prog Rows.fnExactMachineNewRow.laid ((World.doorLaid Tryz.prog 64 os).forCall (fun _ _ => 0) ⟨#[], args, []⟩).memory :=
 laidMetH_of_parts3 (fuel := 8) (laidMet_of_run' 8 (by kernel_rfl) (by kernel_rfl)) (by kernel_rfl) (by kernel_rfl)
theorem of_laid {W : World} (h : laidMetH Tryz.prog Rows.fnExactMachineNewRow.laid W) : Names W := by
 rw [MakeChecks.laidMetH_plain _ _ _ (by kernel_rfl)] at h
 exact names_of_laid h
set_option maxRecDepth 100000 in
theorem lifted (os : Os) (started : os.Started) (H : Type) (enc : TypeId × Value → H) :
   ReturnsInHanded {} Tryz.checked os 3 .any (fun w args => (Rows.fnExactMachineNewSpec.pre enc Tryz.prog Tryz.f3 [] false w args ∧ laidMetH Tryz.prog Rows.fnExactMachineNewRow.laid w) ∧ sizedMet enc Tryz.prog Tryz.f3 (OpenSpec.ofChange Rows.fnExactMachineNewSpec) false w args)
     (Rows.fnExactMachineNewSpec.post enc Tryz.prog Tryz.f3 false true false false) := by
 refine returnsInHanded_of_change_and (C := Tryz.checked) (X := fun w _ => laidMetH Tryz.prog Rows.fnExactMachineNewRow.laid w) (fun _ _ _ hh h => h.of_heap hh) own started (by kernel_rfl) Tryz.func3
   (ChangeSpec.witness_shaped (enc := enc) (C := Tryz.checked) (os := os) (X := fun w _ => laidMetH Tryz.prog Rows.fnExactMachineNewRow.laid w) false (World.doorLaid Tryz.prog 64 os) #[.agg #[.slice none 0 0, .int .i64 0], .slice none 0 0] 8 rfl (World.shaped_of_RefB (by kernel_rfl) (by kernel_rfl)) (by kernel_rfl) (by kernel_rfl) (by kernel_rfl) (door_met os _)) ?_
 intro W base args ds gs before hval0 hW _ _ hL _
 have hval : ∀ (j : Nat) t v, Tryz.f3.params[j]? = some t → args[j]? = some v → Value.okWide Tryz.prog W .any base t v := hval0
 have hW' := hW
 obtain ⟨p, q, hA0, hV0, rfl, hfz, hnd⟩ := hW
 have hA : DataW.TrodAll enc Tryz.prog W 0 (fun _ => true) true Tryz.f3.params.toList args.toList ds p := hA0
 have hV : DataW.TrodVars enc Tryz.prog W (fun _ => true) ["loop.example/g00468/impl.wordNames"] gs q := hV0
 have hN := of_laid hL
 obtain rfl := vars_open hN hV
 rw [Tryz.params3] at hA hval
 obtain ⟨v0, v1, d0, d1, p0, p1, rfl, rfl, rfl, h0, h1⟩ := trodAll_two hA
 have k0 := h0
 have k1 := h1
 have lt0 : ∀ x ∈ p0, x.block < W.heap.size := by obtain ⟨m, hm⟩ := k0; exact DataW.trod_lt m _ _ _ hm
 have lt1 : ∀ x ∈ p1, x.block < W.heap.size := by obtain ⟨m, hm⟩ := k1; exact DataW.trod_lt m _ _ _ hm
 obtain ⟨a0, n, c, st, xs, rfl, hm, hi, hA1⟩ := open_rows (hval 0 24 v0 rfl rfl) h0
 obtain ⟨la, ln, lc, rfl⟩ := okWide_slice Tryz.underlying25 (hval 1 25 v1 rfl rfl)
 obtain ⟨nl, cl, hV1, hH1⟩ := open_opss h1
 clear hA0 hV0 hval0
 refine (walk a0 n c st xs (.slice la ln lc) nl cl W hA1 hm hi hV1 hH1 hN).mono fun e W' ⟨he, bel⟩ => ?_
 subst he
 exact ⟨_, rfl, _, _, _, [], _, _, hW', trodAll_mk1 (shut_bool Tryz.underlying4 _), (trodAll_cons_mk (Below.trod laidOut (by kernel_rfl) (of_decide_eq_true (by kernel_rfl)) k0 bel lt0) (trodAll_cons_mk (Below.trod laidOut (by kernel_rfl) (of_decide_eq_true (by kernel_rfl)) k1 bel lt1) trodAll_mk0)), vars_shut _ (hN.below bel hN.lt), bel.frame _, fun h => by cases h⟩
theorem row_holds : Rows.FnExactMachineNewSaid :=
 OpenClaim.holds_of_wide 3 Tryz.f3 rfl rfl rfl rfl rfl rfl rfl ⟨rfl, rfl, rfl, rfl, rfl⟩ rfl rfl rfl rfl rfl (by kernel_rfl) Tryz.func3 (by kernel_rfl)
   (of_decide_eq_true (by kernel_rfl)) (by unfold Func.isWrapper; first | (rw [if_pos (by decide +kernel)]; kernel_rfl) | (rw [if_neg (by decide +kernel)]; exact ⟨rfl, rfl⟩))
   (fun os started H enc _ => lifted os started H enc)
end fnExactMachineNew
theorem fnExactMachineNew_holds : Rows.FnExactMachineNewCardSaid :=
 Claim7.holds_tied_plain_at .later [] [.data] true Rows.fnExactMachineNewCard.stood.harness false
   fnExactMachineNew.row_holds (fun _ h => by cases h) (by kernel_rfl) (fun _ h => by cases h) fnExactMachineNew_row_tie rfl ⟨rfl, rfl⟩ (by kernel_rfl) rfl
   (fun f fn hf hfn => by
     obtain rfl : f = 3 := Option.some.inj ((show Tryz.prog.funcNamed Rows.fnExactMachineNewRow.func = some 3 by kernel_rfl).symm.trans hf) |>.symm
     obtain rfl : fn = Tryz.f3 := (Option.some.inj (Tryz.func3.symm.trans hfn)).symm
     exact ⟨by kernel_rfl, fun j t ht => by
       rw [Tryz.params3] at ht
       have hm : t ∈ [24, 25] := by simpa using Array.mem_of_getElem? ht
       have hall : ([24, 25].all fun u => !Tryz.prog.wantsStandIn u) = true := by kernel_rfl
       exact (show Tryz.prog.wantsStandIn t = false by simpa using List.all_eq_true.1 hall t hm)⟩)
   (by kernel_rfl)
#print axioms fnExactMachineNew_holds
end Go.Proofs.YtcfimaffeopbbaaGreatDoor
