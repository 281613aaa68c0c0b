/- Find of the program answers as the specification's Find at all words, and leaves them as they were: the card of the law FnExactFind holds, with no condition beyond the program's own table of names as its text lays it. -/
import Derived.Test.YtkifebhkgldefaaDoorRows
import Derived.Test.YtkifebhkgldefaaDoorTie
import Derived.Test.YtkifebhkgldefaaDoorCards
import Derived.Test.YtkifebhkgldefaaDoorOpen13
import Derived.Test.YtkifebhkgldefaaDoorSpecFi
import Derived.Test.YtkifebhkgldefaaDoorImplFi
namespace Go.Proofs.YtkifebhkgldefaaDoor
open Go.ChangeShapes Go.WideShapes Go.ChangeAt Go.RowKit Go.Joins

namespace fnExactFind
theorem own : ownKnob Tryd.prog.godebug = none := by kernel_rfl
theorem laidOut : laidOutB Tryd.prog = true := by kernel_rfl

set_option maxHeartbeats 4000000 in
set_option maxRecDepth 100000 in
theorem walk (a : Option Addr) (n c : Nat) (xs : List Int) (v : Int) (w : World) (hA : n ≤ 1099511627776 → IntAt w a n xs) (hi : ∀ x ∈ xs, (Lit.int .i64 x).wf = true) (hN : Names w) :
    Calls Tryd.prog 6 #[.slice a n c, .int .i64 v] w fun e w' => e = .returned (.bool true) ∧ Below w.heap.size w w' := by
  by_cases hn : n ≤ 1048576
  case neg =>
    have hd : (1048576 : Int) < (n : Int) := by omega
    go_enter Tryd.func6, Tryd.ntmps6
    go_wp2
    go_ret
    exact ⟨rfl, Below.refl _ _⟩
  have hA0 : Hid (IntAt w a n xs) := hA (by omega)
  have HI : Hid (∀ x ∈ xs, (Lit.int .i64 x).wf = true) := hi
  have HN : Hid (Names w) := hN
  have hd : ¬ (1048576 : Int) < (n : Int) := by omega
  clear hA hi hN
  go_enter Tryd.func6, Tryd.ntmps6
  go_wp2_with (fail)
  refine (toIntS_any a n c xs w hA0.out).mono ?_
  rintro e w1 ⟨rfl, own1, hb1⟩
  have O1 : Hid (IntAt w1 (some ⟨w.heap.size, 0, none⟩) n xs) := own_intAt own1 (by omega)
  have B1 : Hid (Below w.heap.size w w1) := hb1
  clear own1 hb1
  go_wp2_with (fail)
  refine (specFind_any (some ⟨w.heap.size, 0, none⟩) n n xs v _ O1.out (Nat.le_refl _)).mono ?_
  rintro e w2 ⟨⟨kk, ok, rfl, hok⟩, hb2⟩
  have HK : Hid (KeyM xs (placeN 2 v) kk ok) := hok
  have B2 : Hid (Below w.heap.size w w2) := B1.out.trans (hb2.mono B1.out.size)
  clear hb2 hok O1 B1
  go_wp2_with (fail)
  refine (toIntS_any a n c xs _ (hA0.out.below B2.out (Nat.le_refl _))).mono ?_
  rintro e w3 ⟨rfl, own3, hb3⟩
  have O3 : Hid (IntAt w3 (some ⟨w2.heap.size, 0, none⟩) n xs) := own_intAt own3 (by omega)
  have B3 : Hid (Below w.heap.size w w3) := B2.out.trans (hb3.mono B2.out.size)
  clear own3 hb3
  go_wp2_with (fail)
  refine (implFind_any (some ⟨w2.heap.size, 0, none⟩) n n xs v _ O3.out (Nat.le_refl _) HI.out (HN.out.below B3.out HN.out.lt)).mono ?_
  rintro e w4 ⟨⟨kk', ok', rfl, hok'⟩, hb4⟩
  obtain ⟨rfl, rfl⟩ : kk = kk' ∧ ok = ok' := HK.out.one hok'
  have O4 : Hid (IntAt w4 (some ⟨w2.heap.size, 0, none⟩) n xs) := O3.out.below hb4 (Nat.le_refl _)
  have B4 : Hid (Below w.heap.size w w4) := B3.out.trans (hb4.mono B3.out.size)
  clear hb4 hok' O3 B3 HK
  have hne : (ok != ok) = false := by simp
  go_wp2_with (fail)
  refine (toIntS_any a n c xs _ (hA0.out.below B4.out (Nat.le_refl _))).mono ?_
  rintro e w5 ⟨rfl, own5, hb5⟩
  have O5 : Hid (IntAt w5 (some ⟨w4.heap.size, 0, none⟩) n xs) := own_intAt own5 (by omega)
  have P5 : Hid (IntAt w5 (some ⟨w2.heap.size, 0, none⟩) n xs) := O4.out.below hb5 (Nat.le_refl _)
  have B5 : Hid (Below w.heap.size w w5) := B4.out.trans (hb5.mono B4.out.size)
  clear own5 hb5 O4
  go_wp2_with (fail)
  refine (eqI_same _ _ n n n n xs _ P5.out O5.out).mono ?_
  rintro e w6 ⟨rfl, hb6⟩
  have B6 : Hid (Below w.heap.size w w6) := B5.out.trans (hb6.mono B5.out.size)
  clear hb6
  go_wp2
  go_ret
  exact ⟨rfl, B6.out⟩

/-- The heap that the door's own run leaves meets the row's condition on the table. -/
theorem door_met (os : Os) (args : Array Value) : laidMetH Tryd.prog Rows.fnExactFindRow.laid ((World.doorLaid Tryd.prog 64 os).forCall (fun _ _ => 0) ⟨#[], args, []⟩).memory :=
  laidMetH_of_parts3 (fuel := 8) (laidMet_of_run' 8 (by kernel_rfl) (by kernel_rfl)) (by kernel_rfl) (by kernel_rfl)

theorem of_laid {W : World} (h : laidMetH Tryd.prog Rows.fnExactFindRow.laid W) : Names W := by
  rw [MakeChecks.laidMetH_plain _ _ _ (by kernel_rfl)] at h
  exact names_of_laid h

set_option maxRecDepth 100000 in
theorem lifted (os : Os) (started : os.Started) (H : Type) (enc : TypeId × Value → H) :
    ReturnsInHanded {} Tryd.checked os 6 .any (fun w args => (Rows.fnExactFindSpec.pre enc Tryd.prog Tryd.f6 [] false w args ∧ laidMetH Tryd.prog Rows.fnExactFindRow.laid w) ∧ sizedMet enc Tryd.prog Tryd.f6 (OpenSpec.ofChange Rows.fnExactFindSpec) false w args)
      (Rows.fnExactFindSpec.post enc Tryd.prog Tryd.f6 false true false false) := by
  refine returnsInHanded_of_change_and (C := Tryd.checked) (X := fun w _ => laidMetH Tryd.prog Rows.fnExactFindRow.laid w) (fun _ _ _ hh h => h.of_heap hh) own started (by kernel_rfl) Tryd.func6
    (ChangeSpec.witness_shaped (enc := enc) (C := Tryd.checked) (os := os) (X := fun w _ => laidMetH Tryd.prog Rows.fnExactFindRow.laid w) false (World.doorLaid Tryd.prog 64 os) #[.slice none 0 0, .int .i64 0] 8 rfl (World.shaped_of_RefB (by kernel_rfl) (by kernel_rfl)) (by kernel_rfl) (by kernel_rfl) (by kernel_rfl) (door_met os _)) ?_
  intro W base args ds gs before hval0 hW _ _ hL _
  have hval : ∀ (j : Nat) t v, Tryd.f6.params[j]? = some t → args[j]? = some v → Value.okWide Tryd.prog W .any base t v := hval0
  have hW' := hW
  obtain ⟨p, q, hA0, hV0, rfl, hfz, hnd⟩ := hW
  have hA : DataW.TrodAll enc Tryd.prog W 0 (fun _ => true) true Tryd.f6.params.toList args.toList ds p := hA0
  have hV : DataW.TrodVars enc Tryd.prog W (fun _ => true) ["loop.example/g00468/impl.wordNames"] gs q := hV0
  have hN := of_laid hL
  obtain rfl := vars_open hN hV
  rw [Tryd.params6] at hA hval
  obtain ⟨v0, v1, d0, d1, p0, p1, rfl, rfl, rfl, h0, h1⟩ := trodAll_two hA
  have k0 := h0
  have k1 := h1
  have lt0 : ∀ x ∈ p0, x.block < W.heap.size := by obtain ⟨m, hm⟩ := k0; exact DataW.trod_lt m _ _ _ hm
  have lt1 : ∀ x ∈ p1, x.block < W.heap.size := by obtain ⟨m, hm⟩ := k1; exact DataW.trod_lt m _ _ _ hm
  obtain ⟨a0, n, c, xs, rfl, hi, hA1⟩ := open_list (hval 0 22 v0 rfl rfl) h0
  obtain ⟨tn, rfl⟩ := okWide_int Tryd.underlying3 (hval 1 3 v1 rfl rfl)
  clear hA0 hV0 hval0
  refine (walk a0 n c xs tn W hA1 hi hN).mono fun e W' ⟨he, bel⟩ => ?_
  subst he
  exact ⟨_, rfl, _, _, _, [], _, _, hW', trodAll_mk1 (shut_bool Tryd.underlying4 _), (trodAll_cons_mk (Below.trod laidOut (by kernel_rfl) (of_decide_eq_true (by kernel_rfl)) k0 bel lt0) (trodAll_cons_mk (Below.trod laidOut (by kernel_rfl) (of_decide_eq_true (by kernel_rfl)) k1 bel lt1) trodAll_mk0)), vars_shut _ (hN.below bel hN.lt), bel.frame _, fun h => by cases h⟩

theorem row_holds : Rows.FnExactFindSaid :=
  OpenClaim.holds_of_wide 6 Tryd.f6 rfl rfl rfl rfl rfl rfl rfl ⟨rfl, rfl, rfl, rfl, rfl⟩ rfl rfl rfl rfl rfl (by kernel_rfl) Tryd.func6 (by kernel_rfl)
    (of_decide_eq_true (by kernel_rfl)) (by unfold Func.isWrapper; first | (rw [if_pos (by decide +kernel)]; kernel_rfl) | (rw [if_neg (by decide +kernel)]; exact ⟨rfl, rfl⟩))
    (fun os started H enc _ => lifted os started H enc)
end fnExactFind

theorem fnExactFind_holds : Rows.FnExactFindCardSaid :=
  Claim7.holds_tied_plain_at .later [] [.data] true Rows.fnExactFindCard.stood.harness false
    fnExactFind.row_holds (fun _ h => by cases h) (by kernel_rfl) (fun _ h => by cases h) fnExactFind_row_tie rfl ⟨rfl, rfl⟩ (by kernel_rfl) rfl
    (fun f fn hf hfn => by
      obtain rfl : f = 6 := Option.some.inj ((show Tryd.prog.funcNamed Rows.fnExactFindRow.func = some 6 by kernel_rfl).symm.trans hf) |>.symm
      obtain rfl : fn = Tryd.f6 := (Option.some.inj (Tryd.func6.symm.trans hfn)).symm
      exact ⟨by kernel_rfl, fun j t ht => by
        rw [Tryd.params6] at ht
        have hm : t ∈ [22, 3] := by simpa using Array.mem_of_getElem? ht
        have hall : ([22, 3].all fun u => !Tryd.prog.wantsStandIn u) = true := by kernel_rfl
        exact (show Tryd.prog.wantsStandIn t = false by simpa using List.all_eq_true.1 hall t hm)⟩)
    (by kernel_rfl)
#print axioms fnExactFind_holds
end Go.Proofs.YtkifebhkgldefaaDoor
