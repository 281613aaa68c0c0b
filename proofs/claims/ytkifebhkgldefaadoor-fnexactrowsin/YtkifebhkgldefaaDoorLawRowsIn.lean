/- RowsIn of the program answers as the specification's RowsIn at all words, and leaves them as they were: the card of the law FnExactRowsIn holds, with no condition beyond the program's own table of names as its text lays it. -/
import Derived.Test.YtkifebhkgldefaaDoorRows
import Derived.Test.YtkifebhkgldefaaDoorTie
import Derived.Test.YtkifebhkgldefaaDoorCards
import Derived.Test.YtkifebhkgldefaaDoorOpen13
import Derived.Test.YtkifebhkgldefaaDoorSpecIn
import Derived.Test.YtkifebhkgldefaaDoorImplIn
import Derived.Test.YtkifebhkgldefaaDoorMarkR
import Derived.Test.YtkifebhkgldefaaDoorHeldRows
import Derived.Deep.Cut
namespace Go.Proofs.YtkifebhkgldefaaDoor
open Go.ChangeShapes Go.WideShapes Go.ChangeAt Go.RowKit Go.Joins

namespace fnExactRowsIn
theorem own : ownKnob Tryd.prog.godebug = none := by kernel_rfl
theorem laidOut : laidOutB Tryd.prog = true := by kernel_rfl

set_option maxHeartbeats 4000000 in
set_option maxRecDepth 100000 in
theorem walk (a : Option Addr) (n c : Nat) (xs : List Int) (w : World) (hA : n ≤ 1099511627776 → IntAt w a n xs) (hi : ∀ x ∈ xs, (Lit.int .i64 x).wf = true) (hN : Names w) :
    Calls Tryd.prog 3 #[.slice a n c] w fun e w' => e = .returned (.bool true) ∧ Below w.heap.size w w' := by
  by_cases hn : n ≤ 1048576
  case neg =>
    have hd : (1048576 : Int) < (n : Int) := by omega
    go_enter Tryd.func3, Tryd.ntmps3
    go_wp2
    go_ret
    exact ⟨rfl, Below.refl _ _⟩
  have hA0 : Hid (IntAt w a n xs) := hA (by omega)
  have HI : Hid (∀ x ∈ xs, (Lit.int .i64 x).wf = true) := hi
  have HN : Hid (Names w) := hN
  have hd : ¬ (1048576 : Int) < (n : Int) := by omega
  obtain ⟨X, hX⟩ : ∃ X, inX xs = X := ⟨_, rfl⟩
  obtain ⟨st, hst⟩ : ∃ st, inS xs = st := ⟨_, rfl⟩
  obtain ⟨m, hm⟩ : ∃ m, X.length = m := ⟨_, rfl⟩
  have hm4 : m ≤ 20 := by have := inX_len (ws := xs); rw [hX, hm] at this; omega
  have HX : Hid (inX xs = X ∧ inS xs = st ∧ X.length = m) := ⟨hX, hst, hm⟩
  clear hX hst hm
  clear hA hi hN
  go_enter Tryd.func3, Tryd.ntmps3
  go_wp2_with (fail)
  refine (toIntS_any a n c xs w hA0.out).mono ?_
  rintro e w1 ⟨rfl, own1, hb1⟩
  have O1 : Hid (IntAt w1 (some ⟨w.heap.size, 0, none⟩) n xs) := own_intAt own1 (by omega)
  have B1 : Hid (Below w.heap.size w w1) := hb1
  clear own1 hb1
  go_wp2_with (fail)
  refine (specRowsIn_any (some ⟨w.heap.size, 0, none⟩) n n xs _ O1.out (Nat.le_refl _)).mono ?_
  rintro e w2 ⟨⟨a3, c3, rfl, _, own2⟩, hb2⟩
  rw [HX.out.1, HX.out.2.2] at own2
  rw [HX.out.1, HX.out.2.1, HX.out.2.2]
  obtain ⟨W2, hW2⟩ : ∃ W2, w2.alloc (.cells #[.slice a3 m c3, .int .i64 st] 24) = W2 := ⟨_, rfl⟩
  have hbx : Below w2.heap.size w2 W2 := by rw [← hW2]; exact (Below.refl _ w2).alloc (Nat.le_refl _) _
  have B2 : Hid (Below w.heap.size w W2) := B1.out.trans ((hb2.trans (hbx.mono hb2.size)).mono B1.out.size)
  have X2 : Hid (Box W2 w2.heap.size #[.slice a3 m c3, .int .i64 st] 24) := by rw [← hW2]; exact box_of w2 _ _
  have S2 : Hid (IntAt W2 a3 m X) := (own_int own2 (by omega)).below hbx (Nat.le_refl _)
  have HW2 : Hid (w2.alloc (.cells #[.slice a3 m c3, .int .i64 st] 24) = W2) := hW2
  clear hb2 own2 hbx hW2 O1 B1
  go_upto_region 4 with (fail)
  rw [HW2.out]
  go_wp2_with (fail)
  refine (toIntS_any a n c xs _ (hA0.out.below B2.out (Nat.le_refl _))).mono ?_
  rintro e w3 ⟨rfl, own3, hb3⟩
  have O3 : Hid (w3.ownsRow W2.heap.size 3 1 (.slice (some ⟨W2.heap.size, 0, none⟩) n n) n (xs.map I)) := own3
  have B3 : Hid (Below W2.heap.size W2 w3) := hb3
  have lt3 : W2.heap.size < w3.heap.size := (own_base own3).2
  clear own3 hb3
  go_wp2_with (fail)
  refine (implRowsIn_any (some ⟨W2.heap.size, 0, none⟩) n n xs _ (own_intAt O3.out (by omega)) (Nat.le_refl _) (HN.out.below (B2.out.trans (B3.out.mono B2.out.size)) HN.out.lt)).mono ?_
  rintro e w4 ⟨⟨ga, gc, rfl, _, own4⟩, hb4⟩
  rw [HX.out.1, HX.out.2.2] at own4
  rw [HX.out.1, HX.out.2.1, HX.out.2.2]
  obtain ⟨W4, hW4⟩ : ∃ W4, w4.alloc (.cells #[.slice ga m gc, .int .i64 st] 24) = W4 := ⟨_, rfl⟩
  have hbx : Below w4.heap.size w4 W4 := by rw [← hW4]; exact (Below.refl _ w4).alloc (Nat.le_refl _) _
  have hb34 : Below w3.heap.size w3 W4 := hb4.trans (hbx.mono hb4.size)
  have G4 : Hid (GSt W2 w3.heap.size ga m gc X W4) := ⟨B3.out.trans (hb34.mono B3.out.size), owns_below own4 hbx (Nat.le_refl _), lt3⟩
  have Y4 : Hid (Box W4 w4.heap.size #[.slice ga m gc, .int .i64 st] 24) := by rw [← hW4]; exact box_of w4 _ _
  have ge4 : w3.heap.size ≤ w4.heap.size := hb4.size
  have ap4 : Hid ((Value.slice ga m gc).ownBlock ≠ some w4.heap.size) := fun e => by have := (own4.lt _ e).2; omega
  have P4 : Hid (W4.ownsRow W2.heap.size 3 1 (.slice (some ⟨W2.heap.size, 0, none⟩) n n) n (xs.map I)) := owns_below O3.out hb34 (Nat.le_refl _)
  have HW4 : Hid (w4.alloc (.cells #[.slice ga m gc, .int .i64 st] 24) = W4) := hW4
  clear hb4 hbx hb34 own4 hW4 O3 B3
  go_upto_region 6 with (fail)
  rw [HW4.out]
  obtain ⟨p0, p1, _, _⟩ := (X2.out.below G4.out.b X2.out.lt).two
  obtain ⟨q0, q1, _, _⟩ := Y4.out.two
  go_wp2_with (fail)
  refine (eqRows_same ga a3 m m gc c3 st X _ (own_int G4.out.own (by omega)) (S2.out.below G4.out.b (Nat.le_refl _))).mono ?_
  rintro e w5 ⟨rfl, hb5⟩
  have G5 : Hid (GSt W2 w3.heap.size ga m gc X w5) := G4.out.below hb5
  have Y5 : Hid (Box w5 w4.heap.size #[.slice ga m gc, .int .i64 st] 24) := Y4.out.below hb5 Y4.out.lt
  have P5 : Hid (w5.ownsRow W2.heap.size 3 1 (.slice (some ⟨W2.heap.size, 0, none⟩) n n) n (xs.map I)) := owns_below P4.out hb5 (Nat.le_refl _)
  clear hb5 G4 P4 Y4
  clear p0 p1 q0 q1
  go_wp2_with (fail)
  refine (toIntS_any a n c xs _ (hA0.out.below (B2.out.trans (G5.out.b.mono B2.out.size)) (Nat.le_refl _))).mono ?_
  rintro e w6 ⟨rfl, own6, hb6⟩
  have Q6 : Hid (IntAt w6 (some ⟨w5.heap.size, 0, none⟩) n xs) := own_intAt own6 (by omega)
  have G6 : Hid (GSt W2 w3.heap.size ga m gc X w6) := G5.out.below hb6
  have Y6 : Hid (Box w6 w4.heap.size #[.slice ga m gc, .int .i64 st] 24) := Y5.out.below hb6 Y5.out.lt
  have P6 : Hid (w6.ownsRow W2.heap.size 3 1 (.slice (some ⟨W2.heap.size, 0, none⟩) n n) n (xs.map I)) := owns_below P5.out hb6 (Nat.le_refl _)
  clear hb6 own6 G5 P5 Y5
  go_wp2_with (fail)
  refine (eqI_same _ _ n n n n xs _ (own_intAt P6.out (by omega)) Q6.out).mono ?_
  rintro e w7 ⟨rfl, hb7⟩
  have G7 : Hid (GSt W2 w3.heap.size ga m gc X w7) := G6.out.below hb7
  have Y7 : Hid (Box w7 w4.heap.size #[.slice ga m gc, .int .i64 st] 24) := Y6.out.below hb7 Y6.out.lt
  have P7 : Hid (w7.ownsRow W2.heap.size 3 1 (.slice (some ⟨W2.heap.size, 0, none⟩) n n) n (xs.map I)) := owns_below P6.out hb7 (Nat.le_refl _)
  clear hb7 G6 P6 Q6 Y6
  go_wp2_with (fail)
  refine (markI_row W2.heap.size _ n n xs _ hA0.out.1 (by omega) P7.out).mono ?_
  rintro e w8 ⟨rfl, _, hg8⟩
  have G8 : Hid (GSt W2 w3.heap.size ga m gc X w8) := G7.out.markX hg8
  have Y8 : Hid (Box w8 w4.heap.size #[.slice ga m gc, .int .i64 st] 24) := (hg8.block w4.heap.size Y7.out.lt (fun e => by have h1 : w4.heap.size = W2.heap.size := Option.some.inj e; omega)).trans Y7.out
  have hk8 : ¬ ((n : Int) + 1 < 0) := by omega
  clear hg8 G7 P7 Y7
  obtain ⟨p0, p1, _, _⟩ := (X2.out.below G8.out.b X2.out.lt).two
  obtain ⟨q0, q1, _, _⟩ := Y8.out.two
  go_wp2_with (fail)
  refine (eqRows_same ga a3 m m gc c3 st X _ (own_int G8.out.own (by omega)) (S2.out.below G8.out.b (Nat.le_refl _))).mono ?_
  rintro e w9 ⟨rfl, hb9⟩
  have G9 : Hid (GSt W2 w3.heap.size ga m gc X w9) := G8.out.below hb9
  have Y9 : Hid (Box w9 w4.heap.size #[.slice ga m gc, .int .i64 st] 24) := Y8.out.below hb9 Y8.out.lt
  clear hb9 G8 Y8
  clear p0 p1 q0 q1
  obtain ⟨p0, p1, _, _⟩ := (X2.out.below G9.out.b X2.out.lt).two
  obtain ⟨q0, q1, _, _⟩ := Y9.out.two
  go_wp2_with (fail)
  refine (markRows_row w3.heap.size ga m gc st X _ (own_len G9.out.own) (by omega) G9.out.own).mono ?_
  rintro e w10 ⟨rfl, own10, hg10⟩
  have G10 : Hid (GSt W2 w3.heap.size ga m gc (marksI m) w10) := G9.out.markG hg10 own10
  have Y10 : Hid (Box w10 w4.heap.size #[.slice ga m gc, .int .i64 st] 24) := (hg10.block w4.heap.size Y9.out.lt (fun e => ap4.out e.symm)).trans Y9.out
  have hm0 : ¬ ((m : Int) + 1 < 0) := by omega
  clear own10 hg10 G9 Y9
  clear p0 p1 q0 q1
  obtain ⟨p0, p1, _, _⟩ := (X2.out.below G10.out.b X2.out.lt).two
  obtain ⟨q0, q1, _, _⟩ := Y10.out.two
  go_wp2_with (fail)
  refine (heldRows_any ga m gc st _ (own_int G10.out.own (by omega))).mono ?_
  rintro e w11 ⟨rfl, hb11⟩
  have G11 : Hid (GSt W2 w3.heap.size ga m gc (marksI m) w11) := G10.out.below hb11
  have Y11 : Hid (Box w11 w4.heap.size #[.slice ga m gc, .int .i64 st] 24) := Y10.out.below hb11 Y10.out.lt
  clear hb11 G10 Y10
  clear p0 p1 q0 q1
  go_wp2_with (fail)
  refine (toIntS_any a n c xs _ (hA0.out.below (B2.out.trans (G11.out.b.mono B2.out.size)) (Nat.le_refl _))).mono ?_
  rintro e w12 ⟨rfl, own12, hb12⟩
  have Q12 : Hid (IntAt w12 (some ⟨w11.heap.size, 0, none⟩) n xs) := own_intAt own12 (by omega)
  have G12 : Hid (GSt W2 w3.heap.size ga m gc (marksI m) w12) := G11.out.below hb12
  have Y12 : Hid (Box w12 w4.heap.size #[.slice ga m gc, .int .i64 st] 24) := Y11.out.below hb12 Y11.out.lt
  clear hb12 own12 G11 Y11
  go_wp2_with (fail)
  refine (implRowsIn_any (some ⟨w11.heap.size, 0, none⟩) n n xs _ Q12.out (Nat.le_refl _) (HN.out.below (B2.out.trans (G12.out.b.mono B2.out.size)) HN.out.lt)).mono ?_
  rintro e w13 ⟨⟨ha, hc, rfl, _, own13⟩, hb13⟩
  rw [HX.out.1, HX.out.2.2] at own13
  rw [HX.out.1, HX.out.2.1, HX.out.2.2]
  obtain ⟨W13, hW13⟩ : ∃ W13, w13.alloc (.cells #[.slice ha m hc, .int .i64 st] 24) = W13 := ⟨_, rfl⟩
  have hbx : Below w13.heap.size w13 W13 := by rw [← hW13]; exact (Below.refl _ w13).alloc (Nat.le_refl _) _
  have G13 : Hid (GSt W2 w3.heap.size ga m gc (marksI m) W13) := (G12.out.below hb13).below hbx
  have Y13 : Hid (Box W13 w4.heap.size #[.slice ga m gc, .int .i64 st] 24) := (Y12.out.below hb13 Y12.out.lt).below hbx (Nat.lt_of_lt_of_le Y12.out.lt hb13.size)
  have Z13 : Hid (Box W13 w13.heap.size #[.slice ha m hc, .int .i64 st] 24) := by rw [← hW13]; exact box_of w13 _ _
  have R13 : Hid (IntAt W13 ha m X) := (own_int own13 (by omega)).below hbx (Nat.le_refl _)
  have HW13 : Hid (w13.alloc (.cells #[.slice ha m hc, .int .i64 st] 24) = W13) := hW13
  clear hb13 hbx own13 hW13 G12 Y12 Q12
  go_upto_region 23 with (fail)
  rw [HW13.out]
  obtain ⟨p0, p1, _, _⟩ := (X2.out.below G13.out.b X2.out.lt).two
  obtain ⟨q0, q1, _, _⟩ := Z13.out.two
  go_wp2_with (fail)
  refine (eqRows_same ha a3 m m hc c3 st X _ R13.out (S2.out.below G13.out.b (Nat.le_refl _))).mono ?_
  rintro e w14 ⟨rfl, hb14⟩
  have G14 : Hid (GSt W2 w3.heap.size ga m gc (marksI m) w14) := G13.out.below hb14
  have Y14 : Hid (Box w14 w4.heap.size #[.slice ga m gc, .int .i64 st] 24) := Y13.out.below hb14 Y13.out.lt
  clear hb14 G13 R13 Y13
  clear p0 p1 q0 q1
  obtain ⟨p0, p1, _, _⟩ := (X2.out.below G14.out.b X2.out.lt).two
  obtain ⟨q0, q1, _, _⟩ := Y14.out.two
  go_wp2_with (fail)
  refine (heldRows_any ga m gc st _ (own_int G14.out.own (by omega))).mono ?_
  rintro e w15 ⟨rfl, hb15⟩
  have B15 : Hid (Below w.heap.size w w15) := B2.out.trans (((G14.out.below hb15).b).mono B2.out.size)
  clear hb15 G14
  clear p0 p1 q0 q1
  go_wp2
  go_ret
  exact ⟨rfl, B15.out⟩

/-- The heap that the door's own run leaves meets the row's condition on the table. -/
theorem door_met (os : Os) (args : Array Value) : laidMetH Tryd.prog Rows.fnExactRowsInRow.laid ((World.doorLaid Tryd.prog 64 os).forCall (fun _ _ => 0) ⟨#[], args, []⟩).memory :=
  laidMetH_of_parts3 (fuel := 8) (laidMet_of_run' 8 (by kernel_rfl) (by kernel_rfl)) (by kernel_rfl) (by kernel_rfl)

theorem of_laid {W : World} (h : laidMetH Tryd.prog Rows.fnExactRowsInRow.laid W) : Names W := by
  rw [MakeChecks.laidMetH_plain _ _ _ (by kernel_rfl)] at h
  exact names_of_laid h

set_option maxRecDepth 100000 in
theorem lifted (os : Os) (started : os.Started) (H : Type) (enc : TypeId × Value → H) :
    ReturnsInHanded {} Tryd.checked os 3 .any (fun w args => (Rows.fnExactRowsInSpec.pre enc Tryd.prog Tryd.f3 [] false w args ∧ laidMetH Tryd.prog Rows.fnExactRowsInRow.laid w) ∧ sizedMet enc Tryd.prog Tryd.f3 (OpenSpec.ofChange Rows.fnExactRowsInSpec) false w args)
      (Rows.fnExactRowsInSpec.post enc Tryd.prog Tryd.f3 false true false false) := by
  refine returnsInHanded_of_change_and (C := Tryd.checked) (X := fun w _ => laidMetH Tryd.prog Rows.fnExactRowsInRow.laid w) (fun _ _ _ hh h => h.of_heap hh) own started (by kernel_rfl) Tryd.func3
    (ChangeSpec.witness_shaped (enc := enc) (C := Tryd.checked) (os := os) (X := fun w _ => laidMetH Tryd.prog Rows.fnExactRowsInRow.laid w) false (World.doorLaid Tryd.prog 64 os) #[.slice none 0 0] 8 rfl (World.shaped_of_RefB (by kernel_rfl) (by kernel_rfl)) (by kernel_rfl) (by kernel_rfl) (by kernel_rfl) (door_met os _)) ?_
  intro W base args ds gs before hval0 hW _ _ hL _
  have hval : ∀ (j : Nat) t v, Tryd.f3.params[j]? = some t → args[j]? = some v → Value.okWide Tryd.prog W .any base t v := hval0
  have hW' := hW
  obtain ⟨p, q, hA0, hV0, rfl, hfz, hnd⟩ := hW
  have hA : DataW.TrodAll enc Tryd.prog W 0 (fun _ => true) true Tryd.f3.params.toList args.toList ds p := hA0
  have hV : DataW.TrodVars enc Tryd.prog W (fun _ => true) ["loop.example/g00468/impl.wordNames"] gs q := hV0
  have hN := of_laid hL
  obtain rfl := vars_open hN hV
  rw [Tryd.params3] at hA hval
  obtain ⟨v0, d0, rfl, rfl, h0⟩ := trodAll_one hA
  have k0 := h0
  have lt0 : ∀ x ∈ p, x.block < W.heap.size := by obtain ⟨m, hm⟩ := k0; exact DataW.trod_lt m _ _ _ hm
  obtain ⟨a0, n, c, xs, rfl, hi, hA1⟩ := open_list (hval 0 22 v0 rfl rfl) h0
  clear hA0 hV0 hval0
  refine (walk a0 n c xs W hA1 hi hN).mono fun e W' ⟨he, bel⟩ => ?_
  subst he
  exact ⟨_, rfl, _, _, _, [], _, _, hW', trodAll_mk1 (shut_bool Tryd.underlying4 _), (trodAll_cons_mk (Below.trod laidOut (by kernel_rfl) (of_decide_eq_true (by kernel_rfl)) k0 bel lt0) trodAll_mk0), vars_shut _ (hN.below bel hN.lt), bel.frame _, fun h => by cases h⟩

theorem row_holds : Rows.FnExactRowsInSaid :=
  OpenClaim.holds_of_wide 3 Tryd.f3 rfl rfl rfl rfl rfl rfl rfl ⟨rfl, rfl, rfl, rfl, rfl⟩ rfl rfl rfl rfl rfl (by kernel_rfl) Tryd.func3 (by kernel_rfl)
    (of_decide_eq_true (by kernel_rfl)) (by unfold Func.isWrapper; first | (rw [if_pos (by decide +kernel)]; kernel_rfl) | (rw [if_neg (by decide +kernel)]; exact ⟨rfl, rfl⟩))
    (fun os started H enc _ => lifted os started H enc)
end fnExactRowsIn

theorem fnExactRowsIn_holds : Rows.FnExactRowsInCardSaid :=
  Claim7.holds_tied_plain_at .later [] [.data] true Rows.fnExactRowsInCard.stood.harness false
    fnExactRowsIn.row_holds (fun _ h => by cases h) (by kernel_rfl) (fun _ h => by cases h) fnExactRowsIn_row_tie rfl ⟨rfl, rfl⟩ (by kernel_rfl) rfl
    (fun f fn hf hfn => by
      obtain rfl : f = 3 := Option.some.inj ((show Tryd.prog.funcNamed Rows.fnExactRowsInRow.func = some 3 by kernel_rfl).symm.trans hf) |>.symm
      obtain rfl : fn = Tryd.f3 := (Option.some.inj (Tryd.func3.symm.trans hfn)).symm
      exact ⟨by kernel_rfl, fun j t ht => by
        rw [Tryd.params3] at ht
        have hm : t ∈ [22] := by simpa using Array.mem_of_getElem? ht
        have hall : ([22].all fun u => !Tryd.prog.wantsStandIn u) = true := by kernel_rfl
        exact (show Tryd.prog.wantsStandIn t = false by simpa using List.all_eq_true.1 hall t hm)⟩)
    (by kernel_rfl)
#print axioms fnExactRowsIn_holds
end Go.Proofs.YtkifebhkgldefaaDoor
