/- The statement of the law FnExactEntries holds: of every Desc and every place the program's Entries answers as the specification's does. -/
import Derived.Test.YtenlapppaimkkapRows
import Derived.Test.YtenlapppaimkkapOpenDesc
import Derived.Test.YtenlapppaimkkapImplEntries
import Derived.Deep.RegionHeld3
namespace Go.Proofs.Ytenlapppaimkkap.fnExactEntries
open Go.ChangeShapes Go.WideShapes Go.ChangeAt Go.RowKit Go.Joins

theorem own : ownKnob Try.prog.godebug = none := by kernel_rfl
theorem laidOut : laidOutB Try.prog = true := by kernel_rfl
set_option maxHeartbeats 4000000 in
set_option maxRecDepth 100000 in
theorem walk (sq st : Int) (ea : Option Addr) (en ec : Nat) (es : List Int) (cd : Int) (ra : Option Addr) (rn rc : Nat) (rs : List Int) (at_ : Int) (w : World) (hin : DescIn w sq st ea en es cd ra rn rs) :
    Calls Try.prog 6 #[DescV sq st ea en ec cd ra rn rc, .int .i64 at_] w fun e w' => e = .returned (.bool true) ∧ Below w.heap.size w w' := by
  obtain ⟨we, wrn, hE, hR⟩ := hin
  by_cases hfit : (en : Int) + (rn : Int) ≤ 1048576
  case neg =>
    clear hE hR
    go_enter Try.func6, Try.ntmps6
    go_wp2_with fail
    refine (szDesc_big sq st cd 1048576 ea ra en ec rn rc _ (by omega) (by omega) (by omega) we wrn).mono ?_
    rintro e w1 ⟨rfl, hb1⟩
    have hb : Below w.heap.size w w1 := ((Below.refl _ w).alloc (Nat.le_refl _) _).trans (hb1.mono (by simp))
    clear hb1
    go_wp2
    go_ret
    exact ⟨rfl, hb⟩
  have HE : Hid (TripAt w ea en es) := hE (by omega)
  have HR : Hid (IntAt w ra rn rs) := hR (by omega)
  clear hE hR we wrn
  obtain ⟨r, hr⟩ : ∃ r, entM es en at_ = r := ⟨_, rfl⟩
  have HM : Hid (entM es en at_ = r) := hr
  clear hr
  obtain ⟨rx, ry, rz, rb⟩ := r
  have HB0 : Hid (Below w.heap.size w (w.alloc (.cells (DescC sq st ea en ec cd ra rn rc) 41))) := (Below.refl _ w).alloc (Nat.le_refl _) _
  go_enter Try.func6, Try.ntmps6
  go_wp2_with fail
  refine (szDesc_fits sq st cd 1048576 ea ra en ec rn rc _ (by omega) (by omega) hfit).mono ?_
  rintro e w1 ⟨rfl, hb1⟩
  have h0 : ¬ (1048576 - (en : Int) - (rn : Int) < 0) := by omega
  have X1 : Hid (Box w1 w.heap.size (DescC sq st ea en ec cd ra rn rc) 41) := (box_of w _ _).below hb1 (by simp)
  have HB1 : Hid (Below w.heap.size w w1) := HB0.out.trans (hb1.mono (by simp))
  obtain ⟨x0, x1, x2, x3, x4, _, _, _, _, _⟩ := X1.out.desc
  clear hb1 HB0
  go_wp2_with fail
  refine (toDesc_any sq st ea en ec es cd ra rn rc rs _ (HE.out.below HB1.out (Nat.le_refl _)) (HR.out.below HB1.out (Nat.le_refl _))).mono ?_
  rintro e w2 ⟨g2, h2, rfl, hg2, hh2, o2, p2, hb2⟩
  have HB2 : Hid (Below w.heap.size w w2) := HB1.out.trans (hb2.mono HB1.out.size)
  have X2 : Hid (Box w2 w.heap.size (DescC sq st ea en ec cd ra rn rc) 41) := X1.out.below hb2 X1.out.lt
  have T2 : Hid (TripAt w2 (some ⟨g2, 0, none⟩) en es) := own_tripAt o2 (by omega)
  clear hb2 o2 p2 x0 x1 x2 x3 x4 X1 HB1 hg2 hh2
  go_wp2_with fail
  refine (specEntries_any sq st _ en en es cd _ rn rn at_ _ T2.out).mono ?_
  rintro e w3 ⟨rfl, hb3⟩
  rw [HM.out]
  dsimp only
  have hb3' : Below w2.heap.size w2 (w3.alloc (.cells #[.int .i64 rx, .int .i64 ry, .int .i64 rz] 52)) := hb3.alloc hb3.size _
  have HB3 : Hid (Below w.heap.size w (w3.alloc (.cells #[.int .i64 rx, .int .i64 ry, .int .i64 rz] 52))) := HB2.out.trans (hb3'.mono HB2.out.size)
  have X3 : Hid (Box (w3.alloc (.cells #[.int .i64 rx, .int .i64 ry, .int .i64 rz] 52)) w.heap.size (DescC sq st ea en ec cd ra rn rc) 41) := X2.out.below hb3' X2.out.lt
  have Z3 : Hid (Box (w3.alloc (.cells #[.int .i64 rx, .int .i64 ry, .int .i64 rz] 52)) w3.heap.size #[.int .i64 rx, .int .i64 ry, .int .i64 rz] 52) := box_of w3 _ _
  have x3' : w.heap.size < w3.heap.size := (X2.out.below hb3 X2.out.lt).lt
  obtain ⟨x0, x1, x2, x3, x4, _, _, _, _, _⟩ := (X2.out.below hb3 X2.out.lt).desc
  clear hb3 hb3' X2 T2 HB2
  go_wp2_with fail
  refine (toDesc_any sq st ea en ec es cd ra rn rc rs _ (HE.out.below HB3.out (Nat.le_refl _)) (HR.out.below HB3.out (Nat.le_refl _))).mono ?_
  rintro e w4 ⟨g4, h4, rfl, hg4, hh4, o4, p4, hb4⟩
  have HB4 : Hid (Below w.heap.size w (w4.alloc (.cells (DescC sq st (some ⟨g4, 0, none⟩) en en cd (some ⟨h4, 0, none⟩) rn rn) 47))) := (HB3.out.trans (hb4.mono HB3.out.size)).alloc (Nat.le_trans HB3.out.size hb4.size) _
  have X4 : Hid (Box (w4.alloc (.cells (DescC sq st (some ⟨g4, 0, none⟩) en en cd (some ⟨h4, 0, none⟩) rn rn) 47)) w.heap.size (DescC sq st ea en ec cd ra rn rc) 41) := (X3.out.below hb4 X3.out.lt).alloc _
  have Z4 : Hid (Box (w4.alloc (.cells (DescC sq st (some ⟨g4, 0, none⟩) en en cd (some ⟨h4, 0, none⟩) rn rn) 47)) w3.heap.size #[.int .i64 rx, .int .i64 ry, .int .i64 rz] 52) := (Z3.out.below hb4 Z3.out.lt).alloc _
  have T4 : Hid (TripAt (w4.alloc (.cells (DescC sq st (some ⟨g4, 0, none⟩) en en cd (some ⟨h4, 0, none⟩) rn rn) 47)) (some ⟨g4, 0, none⟩) en es) := own_tripAt (o4.alloc _) (by omega)
  have I4 : Hid (IntAt (w4.alloc (.cells (DescC sq st (some ⟨g4, 0, none⟩) en en cd (some ⟨h4, 0, none⟩) rn rn) 47)) (some ⟨h4, 0, none⟩) rn rs) := own_intAt (p4.alloc _) (by omega)
  have Y4 : Hid (Box (w4.alloc (.cells (DescC sq st (some ⟨g4, 0, none⟩) en en cd (some ⟨h4, 0, none⟩) rn rn) 47)) w4.heap.size (DescC sq st (some ⟨g4, 0, none⟩) en en cd (some ⟨h4, 0, none⟩) rn rn) 47) := box_of w4 _ _
  clear hb4 o4 p4 x0 x1 x2 x3 x4 X3 Z3 HB3 hg4 hh4
  go_wp2_with fail
  refine (implEntries_any sq st _ en en es cd _ rn rn at_ _ T4.out (Nat.le_refl _)).mono ?_
  rintro e w5' ⟨rfl, hb5'⟩
  rw [HM.out]
  dsimp only
  have z3 : w3.heap.size < w5'.heap.size := (Z4.out.below hb5' Z4.out.lt).lt
  obtain ⟨z0, z1, z2, _, _, _⟩ := (Z4.out.below hb5' Z4.out.lt).three
  go_wp2_with fail
  refine (eqEntry_any rx ry rz rx ry rz _).mono ?_
  rintro e w5 ⟨rfl, hb5''⟩
  rw [show decide (rx = rx ∧ ry = ry ∧ rz = rz) = true from decide_eq_true ⟨rfl, rfl, rfl⟩]
  have hb5 : Below (w4.alloc (.cells (DescC sq st (some ⟨g4, 0, none⟩) en en cd (some ⟨h4, 0, none⟩) rn rn) 47)).heap.size (w4.alloc (.cells (DescC sq st (some ⟨g4, 0, none⟩) en en cd (some ⟨h4, 0, none⟩) rn rn) 47)) w5 := (hb5'.alloc hb5'.size _).trans (hb5''.mono (Nat.le_trans hb5'.size (by simp)))
  have HB5 : Hid (Below w.heap.size w w5) := HB4.out.trans (hb5.mono HB4.out.size)
  have X5 : Hid (Box w5 w.heap.size (DescC sq st ea en ec cd ra rn rc) 41) := X4.out.below hb5 X4.out.lt
  have Y5 : Hid (Box w5 w4.heap.size (DescC sq st (some ⟨g4, 0, none⟩) en en cd (some ⟨h4, 0, none⟩) rn rn) 47) := Y4.out.below hb5 Y4.out.lt
  have T5 : Hid (TripAt w5 (some ⟨g4, 0, none⟩) en es) := T4.out.below hb5 (Nat.le_refl _)
  have I5 : Hid (IntAt w5 (some ⟨h4, 0, none⟩) rn rs) := I4.out.below hb5 (Nat.le_refl _)
  clear hb5' hb5'' Z4 HM z0 z1 z2 z3
  obtain ⟨b5, hb5'⟩ : ∃ b, w4.heap.size = b := ⟨_, rfl⟩
  rw [hb5'] at Y5 ⊢
  have hsx : w.heap.size < w5.heap.size := X5.out.lt
  have hsy : b5 < w5.heap.size := Y5.out.lt
  obtain ⟨x0, x1, x2, x3, x4, _, _, _, _, _⟩ := X5.out.desc
  obtain ⟨y0, y1, y2, y3, y4, _, _, _, _, _⟩ := Y5.out.desc
  clear hb5 X4 Y4 T4 I4 HB4 hb5'
  have K0 : Hid ((w5.cell? ⟨w.heap.size, 0, none⟩ = some (.int .i64 sq) ∧ w5.cell? ⟨w.heap.size, 1, none⟩ = some (.int .i64 st) ∧ w5.cell? ⟨w.heap.size, 2, none⟩ = some (.slice ea en ec) ∧ w5.cell? ⟨w.heap.size, 3, none⟩ = some (.int .i64 cd) ∧ w5.cell? ⟨w.heap.size, 4, none⟩ = some (.slice ra rn rc)) ∧ (w5.cell? ⟨b5, 0, none⟩ = some (.int .i64 sq) ∧ w5.cell? ⟨b5, 1, none⟩ = some (.int .i64 st) ∧ w5.cell? ⟨b5, 2, none⟩ = some (.slice (some ⟨g4, 0, none⟩) en en) ∧ w5.cell? ⟨b5, 3, none⟩ = some (.int .i64 cd) ∧ w5.cell? ⟨b5, 4, none⟩ = some (.slice (some ⟨h4, 0, none⟩) rn rn))) := ⟨⟨x0, x1, x2, x3, x4⟩, y0, y1, y2, y3, y4⟩
  cases rb
  all_goals
    go_wp2_with fail
    go_region_held3 (fun w' => (w'.cell? ⟨w.heap.size, 0, none⟩ = some (.int .i64 sq) ∧ w'.cell? ⟨w.heap.size, 1, none⟩ = some (.int .i64 st) ∧ w'.cell? ⟨w.heap.size, 2, none⟩ = some (.slice ea en ec) ∧ w'.cell? ⟨w.heap.size, 3, none⟩ = some (.int .i64 cd) ∧ w'.cell? ⟨w.heap.size, 4, none⟩ = some (.slice ra rn rc)) ∧ (w'.cell? ⟨b5, 0, none⟩ = some (.int .i64 sq) ∧ w'.cell? ⟨b5, 1, none⟩ = some (.int .i64 st) ∧ w'.cell? ⟨b5, 2, none⟩ = some (.slice (some ⟨g4, 0, none⟩) en en) ∧ w'.cell? ⟨b5, 3, none⟩ = some (.int .i64 cd) ∧ w'.cell? ⟨b5, 4, none⟩ = some (.slice (some ⟨h4, 0, none⟩) rn rn)))
      (first | (with_reducible exact K2.out) | (with_reducible exact K1.out) | (with_reducible exact K0.out) | go_keep)
      (first
      | (go_at_call 17
         refine (toDesc_any sq st ea en ec es cd ra rn rc rs _ (HE.out.below (HB5.out.drew) (Nat.le_refl _)) (HR.out.below (HB5.out.drew) (Nat.le_refl _))).mono ?_
         rintro e w6 ⟨g6, h6, rfl, hg6, hh6, o6, p6, hb6⟩
         have hb6' : Below w5.heap.size w5 w6 := (Below.refl _ w5).drew.trans hb6
         have HB6 : Hid (Below w.heap.size w w6) := HB5.out.trans (hb6'.mono HB5.out.size)
         have T6 : Hid (TripAt w6 (some ⟨g6, 0, none⟩) en es) := own_tripAt o6 (by omega)
         have I6 : Hid (IntAt w6 (some ⟨h6, 0, none⟩) rn rs) := own_intAt p6 (by omega)
         have T6' : Hid (TripAt w6 (some ⟨g4, 0, none⟩) en es) := T5.out.below hb6' (Nat.le_refl _)
         have I6' : Hid (IntAt w6 (some ⟨h4, 0, none⟩) rn rs) := I5.out.below hb6' (Nat.le_refl _)
         have K1 : Hid ((w6.cell? ⟨w.heap.size, 0, none⟩ = some (.int .i64 sq) ∧ w6.cell? ⟨w.heap.size, 1, none⟩ = some (.int .i64 st) ∧ w6.cell? ⟨w.heap.size, 2, none⟩ = some (.slice ea en ec) ∧ w6.cell? ⟨w.heap.size, 3, none⟩ = some (.int .i64 cd) ∧ w6.cell? ⟨w.heap.size, 4, none⟩ = some (.slice ra rn rc)) ∧ (w6.cell? ⟨b5, 0, none⟩ = some (.int .i64 sq) ∧ w6.cell? ⟨b5, 1, none⟩ = some (.int .i64 st) ∧ w6.cell? ⟨b5, 2, none⟩ = some (.slice (some ⟨g4, 0, none⟩) en en) ∧ w6.cell? ⟨b5, 3, none⟩ = some (.int .i64 cd) ∧ w6.cell? ⟨b5, 4, none⟩ = some (.slice (some ⟨h4, 0, none⟩) rn rn))) :=
           ⟨⟨(hb6'.cell hsx).trans x0, (hb6'.cell hsx).trans x1, (hb6'.cell hsx).trans x2, (hb6'.cell hsx).trans x3, (hb6'.cell hsx).trans x4⟩, (hb6'.cell hsy).trans y0, (hb6'.cell hsy).trans y1, (hb6'.cell hsy).trans y2, (hb6'.cell hsy).trans y3, (hb6'.cell hsy).trans y4⟩
         clear hb6 o6 p6 hg6 hh6)
      | (go_at_call 19
         refine (eqDesc_same sq st cd _ _ _ _ en en en en rn rn rn rn es rs _ T6'.out T6.out I6'.out I6.out).mono ?_
         rintro e w7 ⟨rfl, hb7⟩
         have hs6 := hb6'.size
         have HB7 : Hid (Below w.heap.size w w7) := HB6.out.trans (hb7.mono HB6.out.size)
         have K2 : Hid ((w7.cell? ⟨w.heap.size, 0, none⟩ = some (.int .i64 sq) ∧ w7.cell? ⟨w.heap.size, 1, none⟩ = some (.int .i64 st) ∧ w7.cell? ⟨w.heap.size, 2, none⟩ = some (.slice ea en ec) ∧ w7.cell? ⟨w.heap.size, 3, none⟩ = some (.int .i64 cd) ∧ w7.cell? ⟨w.heap.size, 4, none⟩ = some (.slice ra rn rc)) ∧ (w7.cell? ⟨b5, 0, none⟩ = some (.int .i64 sq) ∧ w7.cell? ⟨b5, 1, none⟩ = some (.int .i64 st) ∧ w7.cell? ⟨b5, 2, none⟩ = some (.slice (some ⟨g4, 0, none⟩) en en) ∧ w7.cell? ⟨b5, 3, none⟩ = some (.int .i64 cd) ∧ w7.cell? ⟨b5, 4, none⟩ = some (.slice (some ⟨h4, 0, none⟩) rn rn))) :=
           ⟨⟨(hb7.cell (Nat.lt_of_lt_of_le hsx hs6)).trans K1.out.1.1, (hb7.cell (Nat.lt_of_lt_of_le hsx hs6)).trans K1.out.1.2.1, (hb7.cell (Nat.lt_of_lt_of_le hsx hs6)).trans K1.out.1.2.2.1, (hb7.cell (Nat.lt_of_lt_of_le hsx hs6)).trans K1.out.1.2.2.2.1, (hb7.cell (Nat.lt_of_lt_of_le hsx hs6)).trans K1.out.1.2.2.2.2⟩, (hb7.cell (Nat.lt_of_lt_of_le hsy hs6)).trans K1.out.2.1, (hb7.cell (Nat.lt_of_lt_of_le hsy hs6)).trans K1.out.2.2.1, (hb7.cell (Nat.lt_of_lt_of_le hsy hs6)).trans K1.out.2.2.2.1, (hb7.cell (Nat.lt_of_lt_of_le hsy hs6)).trans K1.out.2.2.2.2.1, (hb7.cell (Nat.lt_of_lt_of_le hsy hs6)).trans K1.out.2.2.2.2.2⟩
         clear hb7 hs6))
    clear K0 K1 K2 x0 x1 x2 x3 x4 y0 y1 y2 y3 y4
    go_wp2
    go_ret
    exact ⟨rfl, HB7.out⟩

set_option maxRecDepth 100000 in
theorem lifted (os : Os) (started : os.Started) (H : Type) (enc : TypeId × Value → H) :
    ReturnsInHanded {} Try.checked os 6 .any (Rows.fnExactEntriesSpec.pre6 enc Try.prog Try.f6 Rows.fnExactEntriesRow.domain false) (Rows.fnExactEntriesSpec.post enc Try.prog Try.f6 false true false false) := by
  refine returnsInHanded_of_change (C := Try.checked) own started (by kernel_rfl) Try.func6
    (ChangeSpec.witness6 (enc := enc) (C := Try.checked) false ⟨#[], #[.agg #[.int .i64 0, .int .i64 0, .slice none 0 0, .int .i64 0, .slice none 0 0], .int .i64 0], []⟩ 8 (by kernel_rfl) (by kernel_rfl) (by kernel_rfl) (by kernel_rfl)) ?_
  intro W base args ds gs before hval0 hW hcnd _
  have hval : ∀ (j : Nat) t v, Try.f6.params[j]? = some t → args[j]? = some v → Value.okWide Try.prog W .any base t v := hval0
  have hW' := hW
  obtain ⟨p, q, hA0, hV, rfl, hfz, hnd⟩ := hW
  have hA : DataW.TrodAll enc Try.prog W 0 (fun _ => true) true Try.f6.params.toList args.toList ds p := hA0
  rw [Try.params6] at hA hval
  obtain ⟨v0, v1, d0, d1, p0, p1, rfl, rfl, rfl, h0, h1⟩ := trodAll_two hA
  obtain ⟨rfl, rfl⟩ := trodVars_none hV
  have k0 := h0
  have k1 := h1
  have lt0 : ∀ x ∈ p0, x.block < W.heap.size := by obtain ⟨m, hm⟩ := k0; exact DataW.trod_lt m _ _ _ hm
  have lt1 : ∀ x ∈ p1, x.block < W.heap.size := by obtain ⟨m, hm⟩ := k1; exact DataW.trod_lt m _ _ _ hm
  obtain ⟨sq, st, ea, en, ec, es, cd, ra, rn, rc, rs, rfl, hin⟩ := open_desc (hval 0 41 v0 rfl rfl) h0
  obtain ⟨at_, rfl⟩ := okWide_int Try.underlying3 (hval 1 3 v1 rfl rfl)
  refine (walk sq st ea en ec es cd ra rn rc rs at_ W hin).mono fun e W' ⟨he, bel⟩ => ?_
  subst he
  exact ⟨_, rfl, _, _, _, [], _, [], hW', trodAll_mk1 (shut_bool Try.underlying4 _), (trodAll_cons_mk (Below.trod laidOut (by kernel_rfl) (of_decide_eq_true (by kernel_rfl)) k0 bel lt0) (trodAll_cons_mk (Below.trod laidOut (by kernel_rfl) (of_decide_eq_true (by kernel_rfl)) k1 bel lt1) trodAll_mk0)), rfl, bel.frame _, fun h => by cases h⟩
end Go.Proofs.Ytenlapppaimkkap.fnExactEntries
namespace Go.Proofs.Ytenlapppaimkkap
theorem fnExactEntries_holds : Rows.FnExactEntriesSaid :=
  OpenClaim.holds_of_wide 6 Try.f6 rfl rfl rfl rfl rfl rfl rfl ⟨rfl, rfl, rfl, rfl, rfl⟩ rfl rfl rfl rfl rfl (by kernel_rfl) Try.func6 (by kernel_rfl)
    (of_decide_eq_true (by kernel_rfl)) (by unfold Func.isWrapper; first | (rw [if_pos (by decide +kernel)]; kernel_rfl) | (rw [if_neg (by decide +kernel)]; exact ⟨rfl, rfl⟩))
    (fun os started H enc _ => fnExactEntries.lifted os started H enc)
#print axioms fnExactEntries_holds
end Go.Proofs.Ytenlapppaimkkap
