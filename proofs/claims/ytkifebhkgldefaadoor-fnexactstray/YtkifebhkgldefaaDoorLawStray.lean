/- Stray of the program answers as the specification's Stray at all words, and leaves them as they were: the card of the law FnExactStray holds, with no condition beyond the program's own table of names as its text lays it. -/
import Derived.Test.YtkifebhkgldefaaDoorRows
import Derived.Test.YtkifebhkgldefaaDoorTie
import Derived.Test.YtkifebhkgldefaaDoorCards
import Derived.Test.YtkifebhkgldefaaDoorOpen13
import Derived.Test.YtkifebhkgldefaaDoorSpecSt
import Derived.Test.YtkifebhkgldefaaDoorImplSt
import Derived.Deep.Cut
namespace Go.Proofs.YtkifebhkgldefaaDoor
open Go.ChangeShapes Go.WideShapes Go.ChangeAt Go.RowKit Go.Joins

namespace fnExactStray
theorem own : ownKnob Tryd.prog.godebug = none := by kernel_rfl
theorem laidOut : laidOutB Tryd.prog = true := by kernel_rfl

set_option maxHeartbeats 4000000 in
set_option maxRecDepth 100000 in
theorem walk (a : Option Addr) (n c : Nat) (xs : List Int) (w : World) (hA : n ≤ 1099511627776 → IntAt w a n xs) (hi : ∀ x ∈ xs, (Lit.int .i64 x).wf = true) (hN : Names w) :
    Calls Tryd.prog 5 #[.slice a n c] w fun e w' => e = .returned (.bool true) ∧ Below w.heap.size w w' := by
  by_cases hn : n ≤ 1048576
  case neg =>
    have hd : (1048576 : Int) < (n : Int) := by omega
    go_enter Tryd.func5, Tryd.ntmps5
    go_wp2
    go_ret
    exact ⟨rfl, Below.refl _ _⟩
  have hA0 : Hid (IntAt w a n xs) := hA (by omega)
  have HI : Hid (∀ x ∈ xs, (Lit.int .i64 x).wf = true) := hi
  have HN : Hid (Names w) := hN
  have hd : ¬ (1048576 : Int) < (n : Int) := by omega
  obtain ⟨L, hL⟩ := tellsL (inX xs) (inS xs)
  obtain ⟨X, hX⟩ : ∃ X, strayL xs L L.length = X := ⟨_, rfl⟩
  obtain ⟨m, hm⟩ : ∃ m, X.length = m := ⟨_, rfl⟩
  have hm4 : m ≤ 20 := by have h1 := strayL_len xs L L.length; have h2 := hL.len; rw [hX, hm] at h1; omega
  have HL : Hid (TellsL (inX xs) (inS xs) L) := hL
  have HX : Hid (strayL xs L L.length = X ∧ X.length = m) := ⟨hX, hm⟩
  clear hL hX hm
  clear hA hi hN
  go_enter Tryd.func5, Tryd.ntmps5
  go_wp2_with (fail)
  refine (toIntS_any a n c xs w hA0.out).mono ?_
  rintro e w1 ⟨rfl, own1, hb1⟩
  have O1 : Hid (IntAt w1 (some ⟨w.heap.size, 0, none⟩) n xs) := own_intAt own1 (by omega)
  have B1 : Hid (Below w.heap.size w w1) := hb1
  clear own1 hb1
  go_wp2_with (fail)
  refine (specStray_any (some ⟨w.heap.size, 0, none⟩) n n xs L _ O1.out (Nat.le_refl _) HL.out).mono ?_
  rintro e W2 ⟨⟨v2, rfl, own2⟩, hb2⟩
  rw [HX.out.1, HX.out.2] at own2
  obtain ⟨a3, c3, rfl, S2'⟩ := own_at own2 (by omega)
  have B2 : Hid (Below w.heap.size w W2) := B1.out.trans (hb2.mono B1.out.size)
  have S2 : Hid (IntAt W2 a3 m X) := S2'
  clear hb2 own2 S2' O1 B1
  go_wp2_with (fail)
  refine (toIntS_any a n c xs _ (hA0.out.below B2.out (Nat.le_refl _))).mono ?_
  rintro e w3 ⟨rfl, own3, hb3⟩
  have O3 : Hid (w3.ownsRow W2.heap.size 3 1 (.slice (some ⟨W2.heap.size, 0, none⟩) n n) n (xs.map I)) := own3
  have B3 : Hid (Below W2.heap.size W2 w3) := hb3
  have lt3 : W2.heap.size < w3.heap.size := (own_base own3).2
  clear own3 hb3
  go_wp2_with (fail)
  refine (implStray_any (some ⟨W2.heap.size, 0, none⟩) n n xs L _ (own_intAt O3.out (by omega)) (Nat.le_refl _) HI.out (HN.out.below (B2.out.trans (B3.out.mono B2.out.size)) HN.out.lt) HL.out).mono ?_
  rintro e W4 ⟨⟨v4, rfl, own4⟩, hb4⟩
  rw [HX.out.1, HX.out.2] at own4
  obtain ⟨ga, gc, rfl, _⟩ := own_at own4 (by omega)
  have G4 : Hid (GSt W2 w3.heap.size ga m gc X W4) := ⟨B3.out.trans (hb4.mono B3.out.size), own4, lt3⟩
  have P4 : Hid (W4.ownsRow W2.heap.size 3 1 (.slice (some ⟨W2.heap.size, 0, none⟩) n n) n (xs.map I)) := owns_below O3.out hb4 (Nat.le_refl _)
  clear hb4 own4 O3 B3
  go_wp2_with (fail)
  refine (eqI_same ga a3 m m gc c3 X _ (own_int G4.out.own (by omega)) (S2.out.below G4.out.b (Nat.le_refl _))).mono ?_
  rintro e w5 ⟨rfl, hb5⟩
  have G5 : Hid (GSt W2 w3.heap.size ga m gc X w5) := G4.out.below hb5
  have P5 : Hid (w5.ownsRow W2.heap.size 3 1 (.slice (some ⟨W2.heap.size, 0, none⟩) n n) n (xs.map I)) := owns_below P4.out hb5 (Nat.le_refl _)
  clear hb5 G4 P4
  go_wp2_with (fail)
  refine (toIntS_any a n c xs _ (hA0.out.below (B2.out.trans (G5.out.b.mono B2.out.size)) (Nat.le_refl _))).mono ?_
  rintro e w6 ⟨rfl, own6, hb6⟩
  have Q6 : Hid (IntAt w6 (some ⟨w5.heap.size, 0, none⟩) n xs) := own_intAt own6 (by omega)
  have G6 : Hid (GSt W2 w3.heap.size ga m gc X w6) := G5.out.below hb6
  have P6 : Hid (w6.ownsRow W2.heap.size 3 1 (.slice (some ⟨W2.heap.size, 0, none⟩) n n) n (xs.map I)) := owns_below P5.out hb6 (Nat.le_refl _)
  clear hb6 own6 G5 P5
  go_wp2_with (fail)
  refine (eqI_same _ _ n n n n xs _ (own_intAt P6.out (by omega)) Q6.out).mono ?_
  rintro e w7 ⟨rfl, hb7⟩
  have G7 : Hid (GSt W2 w3.heap.size ga m gc X w7) := G6.out.below hb7
  have P7 : Hid (w7.ownsRow W2.heap.size 3 1 (.slice (some ⟨W2.heap.size, 0, none⟩) n n) n (xs.map I)) := owns_below P6.out hb7 (Nat.le_refl _)
  clear hb7 G6 P6 Q6
  go_wp2_with (fail)
  refine (markI_row W2.heap.size _ n n xs _ hA0.out.1 (by omega) P7.out).mono ?_
  rintro e w8 ⟨rfl, _, hg8⟩
  have G8 : Hid (GSt W2 w3.heap.size ga m gc X w8) := G7.out.markX hg8
  have hk8 : ¬ ((n : Int) + 1 < 0) := by omega
  clear hg8 G7 P7
  go_wp2_with (fail)
  refine (eqI_same ga a3 m m gc c3 X _ (own_int G8.out.own (by omega)) (S2.out.below G8.out.b (Nat.le_refl _))).mono ?_
  rintro e w9 ⟨rfl, hb9⟩
  have G9 : Hid (GSt W2 w3.heap.size ga m gc X w9) := G8.out.below hb9
  clear hb9 G8
  go_wp2_with (fail)
  refine (markI_row w3.heap.size ga m gc X _ (own_len G9.out.own) (by omega) G9.out.own).mono ?_
  rintro e w10 ⟨rfl, own10, hg10⟩
  have G10 : Hid (GSt W2 w3.heap.size ga m gc (marksI m) w10) := G9.out.markG hg10 own10
  have hm0 : ¬ ((m : Int) + 1 < 0) := by omega
  clear own10 hg10 G9
  go_wp2_with (fail)
  refine (heldI_row ga m gc _ (own_int G10.out.own (by omega))).mono ?_
  rintro e w11 ⟨rfl, hb11⟩
  have G11 : Hid (GSt W2 w3.heap.size ga m gc (marksI m) w11) := G10.out.below hb11
  clear hb11 G10
  go_wp2_with (fail)
  refine (toIntS_any a n c xs _ (hA0.out.below (B2.out.trans (G11.out.b.mono B2.out.size)) (Nat.le_refl _))).mono ?_
  rintro e w12 ⟨rfl, own12, hb12⟩
  have Q12 : Hid (IntAt w12 (some ⟨w11.heap.size, 0, none⟩) n xs) := own_intAt own12 (by omega)
  have G12 : Hid (GSt W2 w3.heap.size ga m gc (marksI m) w12) := G11.out.below hb12
  clear hb12 own12 G11
  go_wp2_with (fail)
  refine (implStray_any (some ⟨w11.heap.size, 0, none⟩) n n xs L _ Q12.out (Nat.le_refl _) HI.out (HN.out.below (B2.out.trans (G12.out.b.mono B2.out.size)) HN.out.lt) HL.out).mono ?_
  rintro e W13 ⟨⟨v13, rfl, own13⟩, hb13⟩
  rw [HX.out.1, HX.out.2] at own13
  obtain ⟨ha, hc, rfl, R13'⟩ := own_at own13 (by omega)
  have G13 : Hid (GSt W2 w3.heap.size ga m gc (marksI m) W13) := G12.out.below hb13
  have R13 : Hid (IntAt W13 ha m X) := R13'
  clear hb13 own13 G12 Q12 R13'
  go_wp2_with (fail)
  refine (eqI_same ha a3 m m hc c3 X _ R13.out (S2.out.below G13.out.b (Nat.le_refl _))).mono ?_
  rintro e w14 ⟨rfl, hb14⟩
  have G14 : Hid (GSt W2 w3.heap.size ga m gc (marksI m) w14) := G13.out.below hb14
  clear hb14 G13 R13
  go_wp2_with (fail)
  refine (heldI_row ga m gc _ (own_int G14.out.own (by omega))).mono ?_
  rintro e w15 ⟨rfl, hb15⟩
  have B15 : Hid (Below w.heap.size w w15) := B2.out.trans (((G14.out.below hb15).b).mono B2.out.size)
  clear hb15 G14
  go_wp2
  go_ret
  exact ⟨rfl, B15.out⟩

/-- The heap that the door's own run leaves meets the row's condition on the table. -/
theorem door_met (os : Os) (args : Array Value) : laidMetH Tryd.prog Rows.fnExactStrayRow.laid ((World.doorLaid Tryd.prog 64 os).forCall (fun _ _ => 0) ⟨#[], args, []⟩).memory :=
  laidMetH_of_parts3 (fuel := 8) (laidMet_of_run' 8 (by kernel_rfl) (by kernel_rfl)) (by kernel_rfl) (by kernel_rfl)

theorem of_laid {W : World} (h : laidMetH Tryd.prog Rows.fnExactStrayRow.laid W) : Names W := by
  rw [MakeChecks.laidMetH_plain _ _ _ (by kernel_rfl)] at h
  exact names_of_laid h

set_option maxRecDepth 100000 in
theorem lifted (os : Os) (started : os.Started) (H : Type) (enc : TypeId × Value → H) :
    ReturnsInHanded {} Tryd.checked os 5 .any (fun w args => (Rows.fnExactStraySpec.pre enc Tryd.prog Tryd.f5 [] false w args ∧ laidMetH Tryd.prog Rows.fnExactStrayRow.laid w) ∧ sizedMet enc Tryd.prog Tryd.f5 (OpenSpec.ofChange Rows.fnExactStraySpec) false w args)
      (Rows.fnExactStraySpec.post enc Tryd.prog Tryd.f5 false true false false) := by
  refine returnsInHanded_of_change_and (C := Tryd.checked) (X := fun w _ => laidMetH Tryd.prog Rows.fnExactStrayRow.laid w) (fun _ _ _ hh h => h.of_heap hh) own started (by kernel_rfl) Tryd.func5
    (ChangeSpec.witness_shaped (enc := enc) (C := Tryd.checked) (os := os) (X := fun w _ => laidMetH Tryd.prog Rows.fnExactStrayRow.laid w) false (World.doorLaid Tryd.prog 64 os) #[.slice none 0 0] 8 rfl (World.shaped_of_RefB (by kernel_rfl) (by kernel_rfl)) (by kernel_rfl) (by kernel_rfl) (by kernel_rfl) (door_met os _)) ?_
  intro W base args ds gs before hval0 hW _ _ hL _
  have hval : ∀ (j : Nat) t v, Tryd.f5.params[j]? = some t → args[j]? = some v → Value.okWide Tryd.prog W .any base t v := hval0
  have hW' := hW
  obtain ⟨p, q, hA0, hV0, rfl, hfz, hnd⟩ := hW
  have hA : DataW.TrodAll enc Tryd.prog W 0 (fun _ => true) true Tryd.f5.params.toList args.toList ds p := hA0
  have hV : DataW.TrodVars enc Tryd.prog W (fun _ => true) ["loop.example/g00468/impl.wordNames"] gs q := hV0
  have hN := of_laid hL
  obtain rfl := vars_open hN hV
  rw [Tryd.params5] at hA hval
  obtain ⟨v0, d0, rfl, rfl, h0⟩ := trodAll_one hA
  have k0 := h0
  have lt0 : ∀ x ∈ p, x.block < W.heap.size := by obtain ⟨m, hm⟩ := k0; exact DataW.trod_lt m _ _ _ hm
  obtain ⟨a0, n, c, xs, rfl, hi, hA1⟩ := open_list (hval 0 22 v0 rfl rfl) h0
  clear hA0 hV0 hval0
  refine (walk a0 n c xs W hA1 hi hN).mono fun e W' ⟨he, bel⟩ => ?_
  subst he
  exact ⟨_, rfl, _, _, _, [], _, _, hW', trodAll_mk1 (shut_bool Tryd.underlying4 _), (trodAll_cons_mk (Below.trod laidOut (by kernel_rfl) (of_decide_eq_true (by kernel_rfl)) k0 bel lt0) trodAll_mk0), vars_shut _ (hN.below bel hN.lt), bel.frame _, fun h => by cases h⟩

theorem row_holds : Rows.FnExactStraySaid :=
  OpenClaim.holds_of_wide 5 Tryd.f5 rfl rfl rfl rfl rfl rfl rfl ⟨rfl, rfl, rfl, rfl, rfl⟩ rfl rfl rfl rfl rfl (by kernel_rfl) Tryd.func5 (by kernel_rfl)
    (of_decide_eq_true (by kernel_rfl)) (by unfold Func.isWrapper; first | (rw [if_pos (by decide +kernel)]; kernel_rfl) | (rw [if_neg (by decide +kernel)]; exact ⟨rfl, rfl⟩))
    (fun os started H enc _ => lifted os started H enc)
end fnExactStray

theorem fnExactStray_holds : Rows.FnExactStrayCardSaid :=
  Claim7.holds_tied_plain_at .later [] [.data] true Rows.fnExactStrayCard.stood.harness false
    fnExactStray.row_holds (fun _ h => by cases h) (by kernel_rfl) (fun _ h => by cases h) fnExactStray_row_tie rfl ⟨rfl, rfl⟩ (by kernel_rfl) rfl
    (fun f fn hf hfn => by
      obtain rfl : f = 5 := Option.some.inj ((show Tryd.prog.funcNamed Rows.fnExactStrayRow.func = some 5 by kernel_rfl).symm.trans hf) |>.symm
      obtain rfl : fn = Tryd.f5 := (Option.some.inj (Tryd.func5.symm.trans hfn)).symm
      exact ⟨by kernel_rfl, fun j t ht => by
        rw [Tryd.params5] at ht
        have hm : t ∈ [22] := by simpa using Array.mem_of_getElem? ht
        have hall : ([22].all fun u => !Tryd.prog.wantsStandIn u) = true := by kernel_rfl
        exact (show Tryd.prog.wantsStandIn t = false by simpa using List.all_eq_true.1 hall t hm)⟩)
    (by kernel_rfl)
#print axioms fnExactStray_holds
end Go.Proofs.YtkifebhkgldefaaDoor
