/- Texts joined: Merge, SpecPlanA, SpecPlanB, SpecPlanOk, BoxN, RowsRoom, KeyRoom. -/
import Derived.Test.YtenlapppaimkkaeGreatDoorAL13
import Derived.Test.YtenlapppaimkkaeGreatDoorAL16
import Derived.Test.YtenlapppaimkkaeGreatDoorAL02
import Derived.Deep.RegionHeld3
import Derived.Test.YtenlapppaimkkaeGreatDoorAL01
import Derived.Test.YtenlapppaimkkaeGreatDoorAL17
import Derived.Test.YtenlapppaimkkaeGreatDoorAL18
import Derived.Below
import Derived.Test.YtenlapppaimkkaeGreatDoorAL14
import Derived.Test.YtenlapppaimkkaeGreatDoorAL15
/- Walking once what is behind a region that ends in several ways with the same frame. -/
namespace Go.Proofs.YtenlapppaimkkaeGreatDoor
open Go.ChangeShapes Go.WideShapes Go.ChangeAt Go.RowKit

/-- A region that ends in several ways with the same frame: what is behind it is walked once. -/
theorem wp_merge {P : Program} {code : Code} {Q : Exit → Act → World → Prop} {a : Act} {w : World} (A : World → Option Addr → Nat → Option Addr → Nat → Act) (W : World → Option Addr → Nat → Option Addr → Nat → World) (F : World → Option Addr → Nat → Option Addr → Nat → Prop)
    (hreg : code.wp P (Exit.then (fun a' w' => ∃ x1 x2 x3 x4 x5, a' = A x1 x2 x3 x4 x5 ∧ w' = W x1 x2 x3 x4 x5 ∧ F x1 x2 x3 x4 x5) (fun _ _ _ => False)) a w)
    (hrest : ∀ x1 x2 x3 x4 x5, F x1 x2 x3 x4 x5 → Q .normal (A x1 x2 x3 x4 x5) (W x1 x2 x3 x4 x5)) : code.wp P Q a w := by
  refine Code.wp_mono (fun e a' w' h => ?_) hreg
  cases e with
  | normal =>
    obtain ⟨x1, x2, x3, x4, x5, rfl, rfl, hF⟩ := h
    exact hrest x1 x2 x3 x4 x5 hF
  | _ => exact h.elim
end Go.Proofs.YtenlapppaimkkaeGreatDoor

/- spec.PlanOf of a via that does not come at once. -/
namespace Go.Proofs.YtenlapppaimkkaeGreatDoor
open Go.ChangeShapes Go.WideShapes Go.ChangeAt Go.RowKit


set_option maxRecDepth 100000 in
set_option maxHeartbeats 8000000 in
theorem plan_10a (pa : Option Addr) (m pc : Nat) (fs : List Int) (kind k v : Int) (w : World) (hP : PairAt w pa m fs) (hg : OpGood kind k v) (hn : nextM fs m kind k v = -1) (hz : (nowR fs m kind k v).1 = -1 ∧ kind = 10) (hv : (readF fs (placeN 5 v) m).1 = 0) :
    Calls Tryz.prog 7 #[OpV kind k v, .slice pa m pc] w fun e w' => (∃ v', e = .returned (.tuple #[.agg #[.bool false, .int .i64 3, .slice none 0 0, v'], .bool true]) ∧ ∃ B, ListE B w' v' (addL (addL (([], 0) : List Int × Nat) fs m 13 (readF fs 13 m).1) fs m (placeN 5 v) (readF fs (placeN 5 v) m).1)) ∧ Below w.heap.size w w' := by
  have HP : Hid (PairAt w pa m fs) := hP
  have HG : Hid (OpGood kind k v) := hg
  have HN : Hid (nextM fs m kind k v = -1) := hn
  have HZ : Hid ((nowR fs m kind k v).1 = -1 ∧ kind = 10) := hz
  clear hz
  clear hP hg hn
  obtain ⟨W1, hW1⟩ : ∃ W1, (w.alloc (.cells #[.int .i64 kind, .int .i64 k, .int .i64 v] 28)).alloc (.cells #[.bool false, .int .i64 0, .slice none 0 0, .slice none 0 0] 36) = W1 := ⟨_, rfl⟩
  have b1 : Below w.heap.size w W1 := by rw [← hW1]; exact ((Below.refl _ _).alloc (Nat.le_refl _) _).alloc (by simp) _
  have x0 : W1.heap[w.heap.size]? = some (.cells #[.int .i64 kind, .int .i64 k, .int .i64 v] 28 (0, 0)) := by rw [← hW1]; exact (Below.heap_alloc _ _ _ (by simp)).trans (by show (w.heap.push _)[w.heap.size]? = _; simp)
  have x1 : W1.heap[w.heap.size + 1]? = some (.cells #[.bool false, .int .i64 0, .slice none 0 0, .slice none 0 0] 36 (0, 0)) := by rw [← hW1]; show ((w.heap.push _).push _)[w.heap.size + 1]? = _; rw [Array.getElem?_push]; simp
  have HX : Hid (Below w.heap.size w W1 ∧ W1.heap[w.heap.size]? = some (.cells #[.int .i64 kind, .int .i64 k, .int .i64 v] 28 (0, 0)) ∧ W1.heap[w.heap.size + 1]? = some (.cells #[.bool false, .int .i64 0, .slice none 0 0, .slice none 0 0] 36 (0, 0)) ∧ w.heap.size + 1 < W1.heap.size) := ⟨b1, x0, x1, (Array.getElem?_eq_some_iff.1 x1).1⟩
  have CE : Hid (∀ {w' : World}, Below W1.heap.size W1 w' → (w'.cell? ⟨w.heap.size, 0, none⟩ = some (.int .i64 kind) ∧ w'.cell? ⟨w.heap.size, 1, none⟩ = some (.int .i64 k) ∧ w'.cell? ⟨w.heap.size, 2, none⟩ = some (.int .i64 v)) ∧ w'.heap[w.heap.size + 1]? = some (.cells #[.bool false, .int .i64 0, .slice none 0 0, .slice none 0 0] 36 (0, 0))) := fun hb => by
    have h0 := (hb.block _ (Nat.lt_of_succ_lt HX.out.2.2.2)).trans HX.out.2.1
    exact ⟨⟨by simp [World.cell?, h0], by simp [World.cell?, h0], by simp [World.cell?, h0]⟩, (hb.block _ HX.out.2.2.2).trans HX.out.2.2.1⟩
  clear b1 x0 x1
  obtain ⟨c0, c1, c2⟩ := (CE.out (Below.refl _ W1)).1
  go_enter Tryz.func7, Tryz.ntmps7
  go_wp2_with fail
  refine (specOpOk_any kind k v _).mono ?_
  rintro e w1 ⟨rfl, hb⟩
  rw [decide_eq_true HG.out]
  have B1 : Hid (Below W1.heap.size W1 w1) := (by first | exact hb | exact hW1 ▸ hb)
  clear hb c0 c1 c2
  obtain ⟨⟨c0, c1, c2⟩, _⟩ := CE.out B1.out
  have LO : Hid (∀ {w' : World}, Below W1.heap.size W1 w' → Below w.heap.size w w') := fun hb => HX.out.1.trans (hb.mono (Nat.le_of_lt (Nat.lt_of_succ_lt HX.out.2.2.2)))
  go_wp2_with fail
  refine (specNext_any pa m pc kind k v fs _ (HP.out.below (LO.out B1.out) (Nat.le_refl _))).mono ?_
  rintro e w2 ⟨rfl, hb⟩
  rw [HN.out]
  have B2 : Hid (Below W1.heap.size W1 w2) := B1.out.trans (hb.mono B1.out.size)
  clear hb c0 c1 c2
  obtain ⟨⟨c0, c1, c2⟩, _⟩ := CE.out B2.out
  go_wp2_with fail
  refine (l5Now_any pa m pc fs kind k v _ (HP.out.below (LO.out B2.out) (Nat.le_refl _)) HG.out.1).mono ?_
  rintro e w3 ⟨⟨a, c, rfl, hI, hfr⟩, hb⟩
  rw [show decide (0 ≤ (nowR fs m kind k v).1) = false by rw [HZ.out.1]; rfl]
  have B3 : Hid (Below W1.heap.size W1 w3) := B2.out.trans (hb.mono B2.out.size)
  obtain ⟨⟨code, lst⟩, hR⟩ : ∃ R, nowR fs m kind k v = R := ⟨_, rfl⟩
  have HR : Hid (nowR fs m kind k v = (code, lst)) := hR
  rw [hR] at hI
  rw [hR]
  dsimp only at hI ⊢
  have HI : Hid (IntAt w3 a lst.length lst ∧ ∀ q, a = some q → w.heap.size + 1 < q.block) := ⟨hI, fun q e => by have h1 := hfr q e; have h2 := HX.out.2.2.2; have h3 := B2.out.size; omega⟩
  clear hb c0 c1 c2 hI hR hfr
  obtain ⟨W4, hW4⟩ : ∃ W4, w3.alloc (.cells #[.bool true, .int .i64 code, .slice a lst.length c, .slice none 0 0] 36) = W4 := ⟨_, rfl⟩
  have hb4 : Below w3.heap.size w3 W4 := by rw [← hW4]; exact (Below.refl _ _).alloc (Nat.le_refl _) _
  have y4 : W4.heap[w3.heap.size]? = some (.cells #[.bool true, .int .i64 code, .slice a lst.length c, .slice none 0 0] 36 (0, 0)) := by rw [← hW4]; show (w3.heap.push _)[w3.heap.size]? = _; simp
  have B4 : Hid (Below W1.heap.size W1 W4) := B3.out.trans (hb4.mono B3.out.size)
  have HI4 : Hid (IntAt W4 a lst.length lst) := HI.out.1.below hb4 (Nat.le_refl _)
  clear hb4
  obtain ⟨⟨c0, c1, c2⟩, x3⟩ := CE.out B4.out
  have s0 : W4.cell? ⟨w3.heap.size, 0, none⟩ = some (.bool true) := by simp [World.cell?, y4]
  have s1 : W4.cell? ⟨w3.heap.size, 1, none⟩ = some (.int .i64 code) := by simp [World.cell?, y4]
  have s2 : W4.cell? ⟨w3.heap.size, 2, none⟩ = some (.slice a lst.length c) := by simp [World.cell?, y4]
  have s3 : W4.cell? ⟨w3.heap.size, 3, none⟩ = some (.slice none 0 0) := by simp [World.cell?, y4]
  have p0 : W4.cell? ⟨w.heap.size + 1, 0, none⟩ = some (.bool false) := by simp [World.cell?, x3]
  have p1 : W4.cell? ⟨w.heap.size + 1, 1, none⟩ = some (.int .i64 0) := by simp [World.cell?, x3]
  have p2 : W4.cell? ⟨w.heap.size + 1, 2, none⟩ = some (.slice none 0 0) := by simp [World.cell?, x3]
  have p3 : W4.cell? ⟨w.heap.size + 1, 3, none⟩ = some (.slice none 0 0) := by simp [World.cell?, x3]
  have q0 : W4.frozen? ⟨w.heap.size + 1, 0, none⟩ = false := by simp [World.frozen?, x3]
  have q1 : W4.frozen? ⟨w.heap.size + 1, 1, none⟩ = false := by simp [World.frozen?, x3]
  have q2 : W4.frozen? ⟨w.heap.size + 1, 2, none⟩ = false := by simp [World.frozen?, x3]
  have q3 : W4.frozen? ⟨w.heap.size + 1, 3, none⟩ = false := by simp [World.frozen?, x3]
  clear x3 y4
  have hlo := LO.out B4.out
  have HLO : Hid (Below w.heap.size w W4) := hlo
  clear hlo
  subst hW4
  obtain ⟨W5, hW5⟩ : ∃ W5, (w3.alloc (.cells #[.bool true, .int .i64 code, .slice a lst.length c, .slice none 0 0] 36)).alloc (.cells #[.bool false, .int .i64 0, .slice none 0 0, .slice none 0 0] 36) = W5 := ⟨_, rfl⟩
  have hb5 : Below (w3.alloc (.cells #[.bool true, .int .i64 code, .slice a lst.length c, .slice none 0 0] 36)).heap.size (w3.alloc (.cells #[.bool true, .int .i64 code, .slice a lst.length c, .slice none 0 0] 36)) W5 := by rw [← hW5]; exact (Below.refl _ _).alloc (Nat.le_refl _) _
  have y5 : W5.heap[w3.heap.size + 1]? = some (.cells #[.bool false, .int .i64 0, .slice none 0 0, .slice none 0 0] 36 (0, 0)) := by rw [← hW5]; show ((w3.heap.push _).push _)[w3.heap.size + 1]? = _; rw [Array.getElem?_push]; simp
  have B5 : Hid (Below W1.heap.size W1 W5) := B4.out.trans (hb5.mono B4.out.size)
  have Y5 : Hid (W5.heap[w3.heap.size + 1]? = some (.cells #[.bool false, .int .i64 0, .slice none 0 0, .slice none 0 0] 36 (0, 0)) ∧ w.heap.size + 1 < w3.heap.size + 1) := ⟨y5, by have h1 := HX.out.2.2.2; have h2 := B3.out.size; omega⟩
  clear hb5 y5 s0 s1 s2 s3 p0 p1 p2 p3 q0 q1 q2 q3 c0 c1 c2
  obtain ⟨⟨c0, c1, c2⟩, _⟩ := CE.out B5.out
  subst hW5
  go_wp2_with fail
  refine (specStateAt_any _).mono ?_
  rintro e wp ⟨rfl, hwp⟩
  rw [hwp]
  clear hwp
  go_wp2_with fail
  refine (specRead_any pa m pc 13 fs _ (HP.out.below (LO.out B5.out) (Nat.le_refl _))).mono ?_
  rintro e w6 ⟨rfl, hb⟩
  have hb' := hb
  have B6 : Hid (Below W1.heap.size W1 w6) := B5.out.trans (hb'.mono B5.out.size)
  have Y6 : Hid (w6.heap[w3.heap.size + 1]? = some (.cells #[.bool false, .int .i64 0, .slice none 0 0, .slice none 0 0] 36 (0, 0))) := (hb'.block _ (Array.getElem?_eq_some_iff.1 Y5.out.1).1).trans Y5.out.1
  clear hb hb' c0 c1 c2
  obtain ⟨⟨c0, c1, c2⟩, _⟩ := CE.out B6.out
  have k7 : (kind == 7) = false := by have := HZ.out.2; simp; omega
  have k8 : (kind == 8) = false := by have := HZ.out.2; simp; omega
  have k9 : (kind == 9) = false := by have := HZ.out.2; simp; omega
  have k10 : (kind == 10) = true := by have := HZ.out.2; simp; omega
  have hne : w.heap.size + 1 ≠ w3.heap.size + 1 := by have := Y5.out.2; omega
  have hne' : w3.heap.size + 1 ≠ w.heap.size := by have := Y5.out.2; omega
  have hne2 : w3.heap.size ≠ w.heap.size := by have := Y5.out.2; omega
  have HW : Hid (W1.heap.size ≤ w3.heap.size + 1) := Nat.le_succ_of_le B3.out.size
  have HS6 : Hid (PlanSt w3 W1 w6 #[.bool false, .int .i64 0, .slice none 0 0, .slice none 0 0]) := ⟨B6.out, Y6.out⟩
  have HL6 : Hid (ListE (w3.heap.size + 1 + 1) w6 (.slice none 0 0) ([], 0)) := listE_nil _ _
  clear c0 c1 c2
  have HLN6 : Hid ((([], 0) : List Int × Nat).2 < 1048576) := (by decide : (0 : Nat) < 1048576)
  have HLM6 : Hid ((([], 0) : List Int × Nat).2 < 1) := Nat.lt_succ_self 0
  have HV : Hid ((readF fs (placeN 5 v) m).1 = 0) := hv
  clear hv
  have y := HS6.out.box
  obtain ⟨⟨c0, c1, c2⟩, _⟩ := CE.out HS6.out.low
  have t0 : w6.cell? ⟨w3.heap.size + 1, 0, none⟩ = some (.bool false) := by simp [World.cell?, y]
  have u0 : w6.frozen? ⟨w3.heap.size + 1, 0, none⟩ = false := by simp [World.frozen?, y]
  have t1 : w6.cell? ⟨w3.heap.size + 1, 1, none⟩ = some (.int .i64 0) := by simp [World.cell?, y]
  have u1 : w6.frozen? ⟨w3.heap.size + 1, 1, none⟩ = false := by simp [World.frozen?, y]
  have t2 : w6.cell? ⟨w3.heap.size + 1, 2, none⟩ = some (.slice none 0 0) := by simp [World.cell?, y]
  have u2 : w6.frozen? ⟨w3.heap.size + 1, 2, none⟩ = false := by simp [World.frozen?, y]
  have t3 : w6.cell? ⟨w3.heap.size + 1, 3, none⟩ = some (.slice none 0 0) := by simp [World.cell?, y]
  have u3 : w6.frozen? ⟨w3.heap.size + 1, 3, none⟩ = false := by simp [World.frozen?, y]
  clear y
  have K6 : Hid (w6.drew.cell? ⟨w.heap.size, 2, none⟩ = some (.int .i64 v)) := c2
  go_wp2_with fail
  refine wp_region_held_drew (S := fun w' => w'.cell? ⟨w.heap.size, 2, none⟩ = some (.int .i64 v)) (by kernel_rfl) (by exact K6.out) (fun hHeld => ?_)
  refine wpAnyH_take (i := 0) (oi := _) (v := .pointer (some ⟨w3.heap.size + 1, 3, none⟩)) (by rw [List.getElem?_toArray]; exact rfl) (by kernel_rfl) (by kernel_rfl) (by kernel_rfl) (by intro _ _ _ h; exact h) (Or.inl ⟨by kernel_rfl, ?_⟩) hHeld ?_
  · intro w hSw; go_simp
  simp only [Act.put, List.setIfInBounds_toArray, List.set_cons_zero, List.set_cons_succ]
  refine wpAnyH_take (i := 2) (oi := _) (v := .slice pa m pc) (by rw [List.getElem?_toArray]; exact rfl) (by kernel_rfl) (by kernel_rfl) (by kernel_rfl) (by intro _ _ _ h; exact h) (Or.inl ⟨by kernel_rfl, ?_⟩) hHeld ?_
  · intro w hSw; go_simp
  simp only [Act.put, List.setIfInBounds_toArray, List.set_cons_zero, List.set_cons_succ]
  refine wpAnyH_take (i := 5) (oi := _) (v := .slice pa m pc) (by rw [List.getElem?_toArray]; exact rfl) (by kernel_rfl) (by kernel_rfl) (by kernel_rfl) (by intro _ _ _ h; exact h) (Or.inl ⟨by kernel_rfl, ?_⟩) hHeld ?_
  · intro w hSw; go_simp
  simp only [Act.put, List.setIfInBounds_toArray, List.set_cons_zero, List.set_cons_succ]
  refine wpAnyH_take (i := 6) (oi := _) (v := .pointer (some ⟨w.heap.size, 2, none⟩)) (by rw [List.getElem?_toArray]; exact rfl) (by kernel_rfl) (by kernel_rfl) (by kernel_rfl) (by intro _ _ _ h; exact h) (Or.inl ⟨by kernel_rfl, ?_⟩) hHeld ?_
  · intro w hSw; go_simp
  simp only [Act.put, List.setIfInBounds_toArray, List.set_cons_zero, List.set_cons_succ]
  refine wpAnyH_take (i := 7) (oi := _) (v := .int .i64 v) (by rw [List.getElem?_toArray]; exact rfl) (by kernel_rfl) (by kernel_rfl) (by kernel_rfl) (by intro _ _ _ h; exact h) (Or.inl ⟨by kernel_rfl, ?_⟩) hHeld ?_
  · intro w hSw; go_simp
  simp only [Act.put, List.setIfInBounds_toArray, List.set_cons_zero, List.set_cons_succ]
  refine wpAnyH_ready (rs := [1, 3]) (by kernel_rfl) (by simp) ?_
  refine AllReadyH.cons (o := _) (by rw [List.getElem?_toArray]; exact rfl) (fun K hK => ?_) (AllReadyH.cons (o := _) (by rw [List.getElem?_toArray]; exact rfl) (fun K hK => ?_) AllReadyH.nil)
  all_goals first
    | (rw [if_pos (by kernel_rfl)]
       go_simp
       refine hK.out _ _ ?_ (fun hHeld => ?_)
       · exact K6.out
       clear hK K
       (try simp only [Act.put, List.setIfInBounds_toArray, List.set_cons_zero, List.set_cons_succ])
       refine wpAnyH_ready (rs := [3]) (by kernel_rfl) (by simp) ?_
       refine AllReadyH.cons (o := _) (by rw [List.getElem?_toArray]; exact rfl) (fun K hK => ?_) AllReadyH.nil
       rw [if_pos (by kernel_rfl)]
       go_simp
       refine (specStateAt_any _).mono ?_
       rintro e wp ⟨rfl, rfl⟩
       refine hK.out _ _ ?_ (fun hHeld => ?_)
       · exact K6.out
       clear hK K
       (try simp only [Act.put, List.setIfInBounds_toArray, List.set_cons_zero, List.set_cons_succ]))
    | (rw [if_pos (by kernel_rfl)]
       go_simp
       refine (specStateAt_any _).mono ?_
       rintro e wp ⟨rfl, rfl⟩
       refine hK.out _ _ ?_ (fun hHeld => ?_)
       · exact K6.out
       clear hK K
       (try simp only [Act.put, List.setIfInBounds_toArray, List.set_cons_zero, List.set_cons_succ])
       refine wpAnyH_ready (rs := [1]) (by kernel_rfl) (by simp) ?_
       refine AllReadyH.cons (o := _) (by rw [List.getElem?_toArray]; exact rfl) (fun K hK => ?_) AllReadyH.nil
       rw [if_pos (by kernel_rfl)]
       go_simp
       refine hK.out _ _ ?_ (fun hHeld => ?_)
       · exact K6.out
       clear hK K
       (try simp only [Act.put, List.setIfInBounds_toArray, List.set_cons_zero, List.set_cons_succ]))
  all_goals
    refine wpAnyH_ready (rs := [4]) (by kernel_rfl) (by simp) ?_
    refine AllReadyH.cons (o := _) (by rw [List.getElem?_toArray]; exact rfl) (fun K hK => ?_) AllReadyH.nil
    rw [if_pos (by kernel_rfl)]
    go_simp
    refine (l5Same_L (.slice none 0 0) (([], 0) : List Int × Nat) pa m pc fs 13 w6.drew (w3.heap.size + 1 + 1) (HL6.out.below (Below.refl _ _).drew (Nat.le_refl _)) (((HP.out.below (LO.out HS6.out.low) (Nat.le_refl _))).below (Below.refl _ _).drew (Nat.le_refl _)) (by decide) HS6.out.lt).mono ?_
    rintro e w7 ⟨v', rfl, hL, hb⟩
    have hb' : Below w6.heap.size w6 w7 := ⟨hb.os, hb.tape, hb.output, hb.size, hb.block⟩
    obtain ⟨a7, d7, rfl⟩ := hL.form
    have HL7 : Hid (ListE (w3.heap.size + 1 + 1) w7 (.slice a7 (addL (([], 0) : List Int × Nat) fs m 13 (readF fs 13 m).1).2 d7) (addL (([], 0) : List Int × Nat) fs m 13 (readF fs 13 m).1)) := hL
    have HS7 : Hid (PlanSt w3 W1 w7 #[.bool false, .int .i64 0, .slice none 0 0, .slice none 0 0]) := HS6.out.on hb'
    have K7 : Hid (w7.cell? ⟨w.heap.size, 2, none⟩ = some (.int .i64 v)) := (CE.out HS7.out.low).1.2.2
    clear hb hb' hL
    refine hK.out _ _ ?_ (fun hHeld => ?_)
    · exact K7.out
    clear hK K
    (try simp only [Act.put, List.setIfInBounds_toArray, List.set_cons_zero, List.set_cons_succ])
    refine wpAnyH_ready (rs := [8]) (by kernel_rfl) (by simp) ?_
    refine AllReadyH.cons (o := _) (by rw [List.getElem?_toArray]; exact rfl) (fun K hK => ?_) AllReadyH.nil
    rw [if_pos (by kernel_rfl)]
    go_simp
    refine (specViaAt_any v _).mono ?_
    rintro e wp ⟨rfl, hwp⟩
    have hwq : w7 = wp := hwp.symm
    clear hwp
    subst hwq
    refine hK.out _ _ ?_ (fun hHeld => ?_)
    · exact K7.out
    clear hK K
    (try simp only [Act.put, List.setIfInBounds_toArray, List.set_cons_zero, List.set_cons_succ])
    refine wpAnyH_ready (rs := [9]) (by kernel_rfl) (by simp) ?_
    refine AllReadyH.cons (o := _) (by rw [List.getElem?_toArray]; exact rfl) (fun K hK => ?_) AllReadyH.nil
    rw [if_pos (by kernel_rfl)]
    go_simp
    refine (l5Same_L (.slice a7 (addL (([], 0) : List Int × Nat) fs m 13 (readF fs 13 m).1).2 d7) (addL (([], 0) : List Int × Nat) fs m 13 (readF fs 13 m).1) pa m pc fs (placeN 5 v) w7 (w3.heap.size + 1 + 1) HL7.out ((HP.out.below (LO.out HS7.out.low) (Nat.le_refl _))) (Nat.lt_of_le_of_lt (addL_le _ _ _ _ _) (by decide)) HS7.out.lt).mono ?_
    rintro e w8 ⟨v', rfl, hL, hb⟩
    obtain ⟨a8, d8, rfl⟩ := hL.form
    have HL8 : Hid (ListE (w3.heap.size + 1 + 1) w8 (.slice a8 (addL (addL (([], 0) : List Int × Nat) fs m 13 (readF fs 13 m).1) fs m (placeN 5 v) (readF fs (placeN 5 v) m).1).2 d8) (addL (addL (([], 0) : List Int × Nat) fs m 13 (readF fs 13 m).1) fs m (placeN 5 v) (readF fs (placeN 5 v) m).1)) := hL
    have HS8 : Hid (PlanSt w3 W1 w8 #[.bool false, .int .i64 0, .slice none 0 0, .slice none 0 0]) := HS7.out.on hb
    have z8 := HS8.out.box
    have s8 : w8.cell? ⟨w3.heap.size + 1, 3, none⟩ = some (.slice none 0 0) := by simp [World.cell?, z8]
    have f8 : w8.frozen? ⟨w3.heap.size + 1, 3, none⟩ = false := by simp [World.frozen?, z8]
    have K8 : Hid (w8.cell? ⟨w.heap.size, 2, none⟩ = some (.int .i64 v)) := (CE.out HS8.out.low).1.2.2
    have K9 : Hid ((w8.setCell ⟨w3.heap.size + 1, 3, none⟩ (.slice a8 (addL (addL (([], 0) : List Int × Nat) fs m 13 (readF fs 13 m).1) fs m (placeN 5 v) (readF fs (placeN 5 v) m).1).2 d8)).cell? ⟨w.heap.size, 2, none⟩ = some (.int .i64 v)) := (World.cell?_setCell_far w8 ⟨w3.heap.size + 1, 3, none⟩ ⟨w.heap.size, 2, none⟩ _ hne').trans K8.out
    clear hb hL z8
    refine hK.out _ _ ?_ (fun hHeld => ?_)
    · exact K8.out
    clear hK K
    (try simp only [Act.put, List.setIfInBounds_toArray, List.set_cons_zero, List.set_cons_succ])
    refine wpAnyH_take (i := 10) (oi := _) (v := .pointer (some ⟨w3.heap.size + 1, 3, none⟩)) (by rw [List.getElem?_toArray]; exact rfl) (by kernel_rfl) (by kernel_rfl) (by kernel_rfl) (by intro _ _ _ h; exact h) (Or.inl ⟨by kernel_rfl, ?_⟩) hHeld ?_
    · intro w hSw; go_simp
    simp only [Act.put, List.setIfInBounds_toArray, List.set_cons_zero, List.set_cons_succ]
    refine wpAnyH_ready (rs := [11]) (by kernel_rfl) (by simp) ?_
    refine AllReadyH.cons (o := _) (by rw [List.getElem?_toArray]; exact rfl) (fun K hK => ?_) AllReadyH.nil
    rw [if_pos (by kernel_rfl)]
    go_simp
    refine hK.out _ _ ?_ (fun hHeld => ?_)
    · exact K9.out
    clear hK K
    (try simp only [Act.put, List.setIfInBounds_toArray, List.set_cons_zero, List.set_cons_succ])
    refine wpAnyH_done (by kernel_rfl) ?_ _
    have HS9 : Hid (PlanSt w3 W1 (w8.setCell ⟨w3.heap.size + 1, 3, none⟩ (.slice a8 (addL (addL (([], 0) : List Int × Nat) fs m 13 (readF fs 13 m).1) fs m (placeN 5 v) (readF fs (placeN 5 v) m).1).2 d8)) #[.bool false, .int .i64 0, .slice none 0 0, .slice a8 (addL (addL (([], 0) : List Int × Nat) fs m 13 (readF fs 13 m).1) fs m (placeN 5 v) (readF fs (placeN 5 v) m).1).2 d8]) := HS8.out.set HW.out 3 (.slice a8 (addL (addL (([], 0) : List Int × Nat) fs m 13 (readF fs 13 m).1) fs m (placeN 5 v) (readF fs (placeN 5 v) m).1).2 d8)
    have HL9 : Hid (ListE (w3.heap.size + 1 + 1) (w8.setCell ⟨w3.heap.size + 1, 3, none⟩ (.slice a8 (addL (addL (([], 0) : List Int × Nat) fs m 13 (readF fs 13 m).1) fs m (placeN 5 v) (readF fs (placeN 5 v) m).1).2 d8)) (.slice a8 (addL (addL (([], 0) : List Int × Nat) fs m 13 (readF fs 13 m).1) fs m (placeN 5 v) (readF fs (placeN 5 v) m).1).2 d8) (addL (addL (([], 0) : List Int × Nat) fs m 13 (readF fs 13 m).1) fs m (placeN 5 v) (readF fs (placeN 5 v) m).1)) := HL8.out.set (by omega) 3 _
    clear c0 c1 c2 t0 t1 t2 t3 u0 u1 u2 u3
    generalize hwz : w8.setCell ⟨w3.heap.size + 1, 3, none⟩ (.slice a8 (addL (addL (([], 0) : List Int × Nat) fs m 13 (readF fs 13 m).1) fs m (placeN 5 v) (readF fs (placeN 5 v) m).1).2 d8) = w9 at HS9 HL9 ⊢
    clear hwz
    have HLN9 : Hid ((addL (addL (([], 0) : List Int × Nat) fs m 13 (readF fs 13 m).1) fs m (placeN 5 v) (readF fs (placeN 5 v) m).1).2 < 1048576) := Nat.lt_of_le_of_lt (Nat.le_trans (addL_le _ _ _ _ _) (Nat.succ_le_succ (addL_le _ _ _ _ _))) (by decide)
    have HLM9 : Hid ((addL (addL (([], 0) : List Int × Nat) fs m 13 (readF fs 13 m).1) fs m (placeN 5 v) (readF fs (placeN 5 v) m).1).2 < 3) := Nat.lt_of_le_of_lt (Nat.le_trans (addL_le _ _ _ _ _) (Nat.succ_le_succ (addL_le _ _ _ _ _))) (by decide)
    have y := HS9.out.box
    obtain ⟨⟨c0, c1, c2⟩, _⟩ := CE.out HS9.out.low
    have t0 : w9.cell? ⟨w3.heap.size + 1, 0, none⟩ = some (.bool false) := by simp [World.cell?, y]
    have u0 : w9.frozen? ⟨w3.heap.size + 1, 0, none⟩ = false := by simp [World.frozen?, y]
    have t1 : w9.cell? ⟨w3.heap.size + 1, 1, none⟩ = some (.int .i64 0) := by simp [World.cell?, y]
    have u1 : w9.frozen? ⟨w3.heap.size + 1, 1, none⟩ = false := by simp [World.frozen?, y]
    have t2 : w9.cell? ⟨w3.heap.size + 1, 2, none⟩ = some (.slice none 0 0) := by simp [World.cell?, y]
    have u2 : w9.frozen? ⟨w3.heap.size + 1, 2, none⟩ = false := by simp [World.frozen?, y]
    have t3 : w9.cell? ⟨w3.heap.size + 1, 3, none⟩ = some (.slice a8 (addL (addL (([], 0) : List Int × Nat) fs m 13 (readF fs 13 m).1) fs m (placeN 5 v) (readF fs (placeN 5 v) m).1).2 d8) := by simp [World.cell?, y]
    have u3 : w9.frozen? ⟨w3.heap.size + 1, 3, none⟩ = false := by simp [World.frozen?, y]
    clear y
    go_wp2_with fail
    (try simp only [wrapEq])
    refine (specViaAt_any v _).mono ?_
    rintro e wp ⟨rfl, hwp⟩
    rw [hwp]
    clear hwp
    go_wp2_with fail
    (try simp only [wrapEq])
    refine (specRead_any pa m pc (placeN 5 v) fs _ (HP.out.below (LO.out HS9.out.low) (Nat.le_refl _))).mono ?_
    rintro e w10 ⟨rfl, hb⟩
    have HS10 : Hid (PlanSt w3 W1 w10 #[.bool false, .int .i64 0, .slice none 0 0, .slice a8 (addL (addL (([], 0) : List Int × Nat) fs m 13 (readF fs 13 m).1) fs m (placeN 5 v) (readF fs (placeN 5 v) m).1).2 d8]) := HS9.out.on hb
    have HL10 : Hid (ListE (w3.heap.size + 1 + 1) w10 (.slice a8 (addL (addL (([], 0) : List Int × Nat) fs m 13 (readF fs 13 m).1) fs m (placeN 5 v) (readF fs (placeN 5 v) m).1).2 d8) (addL (addL (([], 0) : List Int × Nat) fs m 13 (readF fs 13 m).1) fs m (placeN 5 v) (readF fs (placeN 5 v) m).1)) := HL9.out.below hb (Nat.le_refl _)
    have HLN10 : Hid ((addL (addL (([], 0) : List Int × Nat) fs m 13 (readF fs 13 m).1) fs m (placeN 5 v) (readF fs (placeN 5 v) m).1).2 < 1048576) := HLN9.out
    have HLM10 : Hid ((addL (addL (([], 0) : List Int × Nat) fs m 13 (readF fs 13 m).1) fs m (placeN 5 v) (readF fs (placeN 5 v) m).1).2 < 3) := HLM9.out
    clear hb
    clear c0 c1 c2 t0 t1 t2 t3 u0 u1 u2 u3
    rw [show (readF fs (placeN 5 v) m).1 = 0 from HV.out]
    have y := HS10.out.box
    obtain ⟨⟨c0, c1, c2⟩, _⟩ := CE.out HS10.out.low
    have t0 : w10.cell? ⟨w3.heap.size + 1, 0, none⟩ = some (.bool false) := by simp [World.cell?, y]
    have u0 : w10.frozen? ⟨w3.heap.size + 1, 0, none⟩ = false := by simp [World.frozen?, y]
    have t1 : w10.cell? ⟨w3.heap.size + 1, 1, none⟩ = some (.int .i64 0) := by simp [World.cell?, y]
    have u1 : w10.frozen? ⟨w3.heap.size + 1, 1, none⟩ = false := by simp [World.frozen?, y]
    have t2 : w10.cell? ⟨w3.heap.size + 1, 2, none⟩ = some (.slice none 0 0) := by simp [World.cell?, y]
    have u2 : w10.frozen? ⟨w3.heap.size + 1, 2, none⟩ = false := by simp [World.frozen?, y]
    have t3 : w10.cell? ⟨w3.heap.size + 1, 3, none⟩ = some (.slice a8 (addL (addL (([], 0) : List Int × Nat) fs m 13 (readF fs 13 m).1) fs m (placeN 5 v) (readF fs (placeN 5 v) m).1).2 d8) := by simp [World.cell?, y]
    have u3 : w10.frozen? ⟨w3.heap.size + 1, 3, none⟩ = false := by simp [World.frozen?, y]
    clear y
    have HX : Hid (PlanSt w3 W1 w10 #[.bool false, .int .i64 0, .slice none 0 0, .slice a8 (addL (addL (([], 0) : List Int × Nat) fs m 13 (readF fs 13 m).1) fs m (placeN 5 v) (readF fs (placeN 5 v) m).1).2 d8] ∧ ListE (w3.heap.size + 1 + 1) w10 (.slice a8 (addL (addL (([], 0) : List Int × Nat) fs m 13 (readF fs 13 m).1) fs m (placeN 5 v) (readF fs (placeN 5 v) m).1).2 d8) (addL (addL (([], 0) : List Int × Nat) fs m 13 (readF fs 13 m).1) fs m (placeN 5 v) (readF fs (placeN 5 v) m).1)) := ⟨HS10.out, HL10.out⟩
    have x7 := (CE.out HS10.out.low).2
    have p0 : w10.cell? ⟨w.heap.size + 1, 0, none⟩ = some (.bool false) := by simp [World.cell?, x7]
    have q0 : w10.frozen? ⟨w.heap.size + 1, 0, none⟩ = false := by simp [World.frozen?, x7]
    have p1 : w10.cell? ⟨w.heap.size + 1, 1, none⟩ = some (.int .i64 0) := by simp [World.cell?, x7]
    have q1 : w10.frozen? ⟨w.heap.size + 1, 1, none⟩ = false := by simp [World.frozen?, x7]
    have p2 : w10.cell? ⟨w.heap.size + 1, 2, none⟩ = some (.slice none 0 0) := by simp [World.cell?, x7]
    have q2 : w10.frozen? ⟨w.heap.size + 1, 2, none⟩ = false := by simp [World.frozen?, x7]
    have p3 : w10.cell? ⟨w.heap.size + 1, 3, none⟩ = some (.slice none 0 0) := by simp [World.cell?, x7]
    have q3 : w10.frozen? ⟨w.heap.size + 1, 3, none⟩ = false := by simp [World.frozen?, x7]
    clear x7
    have hlo := LO.out HS10.out.low
    have HLO : Hid (Below w.heap.size w w10) := hlo
    clear hlo
    go_wp2
    (try simp only [Exit.inBlock, Exit.then])
    refine bodyPost_ret (by simp [results, Tryz.results7, go_sem, p0, p1, p2, p3]; try rfl) rfl ?_
    have hy := Y5.out.2
    have hz := HW.out
    have hz1 := HX.out.1.lt
    exact ⟨⟨_, rfl, _, (((((HL10.out.set (b := w3.heap.size + 1) (by omega) 1 _).set (b := w.heap.size + 1) (by omega) 0 _).set (b := w.heap.size + 1) (by omega) 1 _).set (b := w.heap.size + 1) (by omega) 2 _).set (b := w.heap.size + 1) (by omega) 3 _)⟩, ((((HLO.out.setCell (p := ⟨w3.heap.size + 1, 1, none⟩) (by simp; omega) _).setCell (p := ⟨w.heap.size + 1, 0, none⟩) (by simp) _).setCell (p := ⟨w.heap.size + 1, 1, none⟩) (by simp) _).setCell (p := ⟨w.heap.size + 1, 2, none⟩) (by simp) _).setCell (p := ⟨w.heap.size + 1, 3, none⟩) (by simp) _⟩
end Go.Proofs.YtenlapppaimkkaeGreatDoor

/- spec.PlanOf of a via that does not come at once. -/
namespace Go.Proofs.YtenlapppaimkkaeGreatDoor
open Go.ChangeShapes Go.WideShapes Go.ChangeAt Go.RowKit



set_option maxRecDepth 100000 in
set_option maxHeartbeats 8000000 in
theorem plan_10b (pa : Option Addr) (m pc : Nat) (fs : List Int) (kind k v : Int) (w : World) (hP : PairAt w pa m fs) (hg : OpGood kind k v) (hn : nextM fs m kind k v = -1) (hz : (nowR fs m kind k v).1 = -1 ∧ kind = 10) (hv : ¬ (readF fs (placeN 5 v) m).1 = 0) :
    Calls Tryz.prog 7 #[OpV kind k v, .slice pa m pc] w fun e w' => (∃ v' a c, e = .returned (.tuple #[.agg #[.bool false, .int .i64 0, .slice a 1 c, v'], .bool true]) ∧ IntAt w' a 1 [wrap64 ((readF fs (placeN 5 v) m).1 - 1)] ∧ ∃ B, ListE B w' v' (addL (addL (([], 0) : List Int × Nat) fs m 13 (readF fs 13 m).1) fs m (placeN 5 v) (readF fs (placeN 5 v) m).1)) ∧ Below w.heap.size w w' := by
  have HP : Hid (PairAt w pa m fs) := hP
  have HG : Hid (OpGood kind k v) := hg
  have HN : Hid (nextM fs m kind k v = -1) := hn
  have HZ : Hid ((nowR fs m kind k v).1 = -1 ∧ kind = 10) := hz
  clear hz
  clear hP hg hn
  obtain ⟨W1, hW1⟩ : ∃ W1, (w.alloc (.cells #[.int .i64 kind, .int .i64 k, .int .i64 v] 28)).alloc (.cells #[.bool false, .int .i64 0, .slice none 0 0, .slice none 0 0] 36) = W1 := ⟨_, rfl⟩
  have b1 : Below w.heap.size w W1 := by rw [← hW1]; exact ((Below.refl _ _).alloc (Nat.le_refl _) _).alloc (by simp) _
  have x0 : W1.heap[w.heap.size]? = some (.cells #[.int .i64 kind, .int .i64 k, .int .i64 v] 28 (0, 0)) := by rw [← hW1]; exact (Below.heap_alloc _ _ _ (by simp)).trans (by show (w.heap.push _)[w.heap.size]? = _; simp)
  have x1 : W1.heap[w.heap.size + 1]? = some (.cells #[.bool false, .int .i64 0, .slice none 0 0, .slice none 0 0] 36 (0, 0)) := by rw [← hW1]; show ((w.heap.push _).push _)[w.heap.size + 1]? = _; rw [Array.getElem?_push]; simp
  have HX : Hid (Below w.heap.size w W1 ∧ W1.heap[w.heap.size]? = some (.cells #[.int .i64 kind, .int .i64 k, .int .i64 v] 28 (0, 0)) ∧ W1.heap[w.heap.size + 1]? = some (.cells #[.bool false, .int .i64 0, .slice none 0 0, .slice none 0 0] 36 (0, 0)) ∧ w.heap.size + 1 < W1.heap.size) := ⟨b1, x0, x1, (Array.getElem?_eq_some_iff.1 x1).1⟩
  have CE : Hid (∀ {w' : World}, Below W1.heap.size W1 w' → (w'.cell? ⟨w.heap.size, 0, none⟩ = some (.int .i64 kind) ∧ w'.cell? ⟨w.heap.size, 1, none⟩ = some (.int .i64 k) ∧ w'.cell? ⟨w.heap.size, 2, none⟩ = some (.int .i64 v)) ∧ w'.heap[w.heap.size + 1]? = some (.cells #[.bool false, .int .i64 0, .slice none 0 0, .slice none 0 0] 36 (0, 0))) := fun hb => by
    have h0 := (hb.block _ (Nat.lt_of_succ_lt HX.out.2.2.2)).trans HX.out.2.1
    exact ⟨⟨by simp [World.cell?, h0], by simp [World.cell?, h0], by simp [World.cell?, h0]⟩, (hb.block _ HX.out.2.2.2).trans HX.out.2.2.1⟩
  clear b1 x0 x1
  obtain ⟨c0, c1, c2⟩ := (CE.out (Below.refl _ W1)).1
  go_enter Tryz.func7, Tryz.ntmps7
  go_wp2_with fail
  refine (specOpOk_any kind k v _).mono ?_
  rintro e w1 ⟨rfl, hb⟩
  rw [decide_eq_true HG.out]
  have B1 : Hid (Below W1.heap.size W1 w1) := (by first | exact hb | exact hW1 ▸ hb)
  clear hb c0 c1 c2
  obtain ⟨⟨c0, c1, c2⟩, _⟩ := CE.out B1.out
  have LO : Hid (∀ {w' : World}, Below W1.heap.size W1 w' → Below w.heap.size w w') := fun hb => HX.out.1.trans (hb.mono (Nat.le_of_lt (Nat.lt_of_succ_lt HX.out.2.2.2)))
  go_wp2_with fail
  refine (specNext_any pa m pc kind k v fs _ (HP.out.below (LO.out B1.out) (Nat.le_refl _))).mono ?_
  rintro e w2 ⟨rfl, hb⟩
  rw [HN.out]
  have B2 : Hid (Below W1.heap.size W1 w2) := B1.out.trans (hb.mono B1.out.size)
  clear hb c0 c1 c2
  obtain ⟨⟨c0, c1, c2⟩, _⟩ := CE.out B2.out
  go_wp2_with fail
  refine (l5Now_any pa m pc fs kind k v _ (HP.out.below (LO.out B2.out) (Nat.le_refl _)) HG.out.1).mono ?_
  rintro e w3 ⟨⟨a, c, rfl, hI, hfr⟩, hb⟩
  rw [show decide (0 ≤ (nowR fs m kind k v).1) = false by rw [HZ.out.1]; rfl]
  have B3 : Hid (Below W1.heap.size W1 w3) := B2.out.trans (hb.mono B2.out.size)
  obtain ⟨⟨code, lst⟩, hR⟩ : ∃ R, nowR fs m kind k v = R := ⟨_, rfl⟩
  have HR : Hid (nowR fs m kind k v = (code, lst)) := hR
  rw [hR] at hI
  rw [hR]
  dsimp only at hI ⊢
  have HI : Hid (IntAt w3 a lst.length lst ∧ ∀ q, a = some q → w.heap.size + 1 < q.block) := ⟨hI, fun q e => by have h1 := hfr q e; have h2 := HX.out.2.2.2; have h3 := B2.out.size; omega⟩
  clear hb c0 c1 c2 hI hR hfr
  obtain ⟨W4, hW4⟩ : ∃ W4, w3.alloc (.cells #[.bool true, .int .i64 code, .slice a lst.length c, .slice none 0 0] 36) = W4 := ⟨_, rfl⟩
  have hb4 : Below w3.heap.size w3 W4 := by rw [← hW4]; exact (Below.refl _ _).alloc (Nat.le_refl _) _
  have y4 : W4.heap[w3.heap.size]? = some (.cells #[.bool true, .int .i64 code, .slice a lst.length c, .slice none 0 0] 36 (0, 0)) := by rw [← hW4]; show (w3.heap.push _)[w3.heap.size]? = _; simp
  have B4 : Hid (Below W1.heap.size W1 W4) := B3.out.trans (hb4.mono B3.out.size)
  have HI4 : Hid (IntAt W4 a lst.length lst) := HI.out.1.below hb4 (Nat.le_refl _)
  clear hb4
  obtain ⟨⟨c0, c1, c2⟩, x3⟩ := CE.out B4.out
  have s0 : W4.cell? ⟨w3.heap.size, 0, none⟩ = some (.bool true) := by simp [World.cell?, y4]
  have s1 : W4.cell? ⟨w3.heap.size, 1, none⟩ = some (.int .i64 code) := by simp [World.cell?, y4]
  have s2 : W4.cell? ⟨w3.heap.size, 2, none⟩ = some (.slice a lst.length c) := by simp [World.cell?, y4]
  have s3 : W4.cell? ⟨w3.heap.size, 3, none⟩ = some (.slice none 0 0) := by simp [World.cell?, y4]
  have p0 : W4.cell? ⟨w.heap.size + 1, 0, none⟩ = some (.bool false) := by simp [World.cell?, x3]
  have p1 : W4.cell? ⟨w.heap.size + 1, 1, none⟩ = some (.int .i64 0) := by simp [World.cell?, x3]
  have p2 : W4.cell? ⟨w.heap.size + 1, 2, none⟩ = some (.slice none 0 0) := by simp [World.cell?, x3]
  have p3 : W4.cell? ⟨w.heap.size + 1, 3, none⟩ = some (.slice none 0 0) := by simp [World.cell?, x3]
  have q0 : W4.frozen? ⟨w.heap.size + 1, 0, none⟩ = false := by simp [World.frozen?, x3]
  have q1 : W4.frozen? ⟨w.heap.size + 1, 1, none⟩ = false := by simp [World.frozen?, x3]
  have q2 : W4.frozen? ⟨w.heap.size + 1, 2, none⟩ = false := by simp [World.frozen?, x3]
  have q3 : W4.frozen? ⟨w.heap.size + 1, 3, none⟩ = false := by simp [World.frozen?, x3]
  clear x3 y4
  have hlo := LO.out B4.out
  have HLO : Hid (Below w.heap.size w W4) := hlo
  clear hlo
  subst hW4
  obtain ⟨W5, hW5⟩ : ∃ W5, (w3.alloc (.cells #[.bool true, .int .i64 code, .slice a lst.length c, .slice none 0 0] 36)).alloc (.cells #[.bool false, .int .i64 0, .slice none 0 0, .slice none 0 0] 36) = W5 := ⟨_, rfl⟩
  have hb5 : Below (w3.alloc (.cells #[.bool true, .int .i64 code, .slice a lst.length c, .slice none 0 0] 36)).heap.size (w3.alloc (.cells #[.bool true, .int .i64 code, .slice a lst.length c, .slice none 0 0] 36)) W5 := by rw [← hW5]; exact (Below.refl _ _).alloc (Nat.le_refl _) _
  have y5 : W5.heap[w3.heap.size + 1]? = some (.cells #[.bool false, .int .i64 0, .slice none 0 0, .slice none 0 0] 36 (0, 0)) := by rw [← hW5]; show ((w3.heap.push _).push _)[w3.heap.size + 1]? = _; rw [Array.getElem?_push]; simp
  have B5 : Hid (Below W1.heap.size W1 W5) := B4.out.trans (hb5.mono B4.out.size)
  have Y5 : Hid (W5.heap[w3.heap.size + 1]? = some (.cells #[.bool false, .int .i64 0, .slice none 0 0, .slice none 0 0] 36 (0, 0)) ∧ w.heap.size + 1 < w3.heap.size + 1) := ⟨y5, by have h1 := HX.out.2.2.2; have h2 := B3.out.size; omega⟩
  clear hb5 y5 s0 s1 s2 s3 p0 p1 p2 p3 q0 q1 q2 q3 c0 c1 c2
  obtain ⟨⟨c0, c1, c2⟩, _⟩ := CE.out B5.out
  subst hW5
  go_wp2_with fail
  refine (specStateAt_any _).mono ?_
  rintro e wp ⟨rfl, hwp⟩
  rw [hwp]
  clear hwp
  go_wp2_with fail
  refine (specRead_any pa m pc 13 fs _ (HP.out.below (LO.out B5.out) (Nat.le_refl _))).mono ?_
  rintro e w6 ⟨rfl, hb⟩
  have hb' := hb
  have B6 : Hid (Below W1.heap.size W1 w6) := B5.out.trans (hb'.mono B5.out.size)
  have Y6 : Hid (w6.heap[w3.heap.size + 1]? = some (.cells #[.bool false, .int .i64 0, .slice none 0 0, .slice none 0 0] 36 (0, 0))) := (hb'.block _ (Array.getElem?_eq_some_iff.1 Y5.out.1).1).trans Y5.out.1
  clear hb hb' c0 c1 c2
  obtain ⟨⟨c0, c1, c2⟩, _⟩ := CE.out B6.out
  have k7 : (kind == 7) = false := by have := HZ.out.2; simp; omega
  have k8 : (kind == 8) = false := by have := HZ.out.2; simp; omega
  have k9 : (kind == 9) = false := by have := HZ.out.2; simp; omega
  have k10 : (kind == 10) = true := by have := HZ.out.2; simp; omega
  have hne : w.heap.size + 1 ≠ w3.heap.size + 1 := by have := Y5.out.2; omega
  have hne' : w3.heap.size + 1 ≠ w.heap.size := by have := Y5.out.2; omega
  have hne2 : w3.heap.size ≠ w.heap.size := by have := Y5.out.2; omega
  have HW : Hid (W1.heap.size ≤ w3.heap.size + 1) := Nat.le_succ_of_le B3.out.size
  have HS6 : Hid (PlanSt w3 W1 w6 #[.bool false, .int .i64 0, .slice none 0 0, .slice none 0 0]) := ⟨B6.out, Y6.out⟩
  have HL6 : Hid (ListE (w3.heap.size + 1 + 1) w6 (.slice none 0 0) ([], 0)) := listE_nil _ _
  clear c0 c1 c2
  have HLN6 : Hid ((([], 0) : List Int × Nat).2 < 1048576) := (by decide : (0 : Nat) < 1048576)
  have HLM6 : Hid ((([], 0) : List Int × Nat).2 < 1) := Nat.lt_succ_self 0
  have HV : Hid (¬ (readF fs (placeN 5 v) m).1 = 0) := hv
  clear hv
  have y := HS6.out.box
  obtain ⟨⟨c0, c1, c2⟩, _⟩ := CE.out HS6.out.low
  have t0 : w6.cell? ⟨w3.heap.size + 1, 0, none⟩ = some (.bool false) := by simp [World.cell?, y]
  have u0 : w6.frozen? ⟨w3.heap.size + 1, 0, none⟩ = false := by simp [World.frozen?, y]
  have t1 : w6.cell? ⟨w3.heap.size + 1, 1, none⟩ = some (.int .i64 0) := by simp [World.cell?, y]
  have u1 : w6.frozen? ⟨w3.heap.size + 1, 1, none⟩ = false := by simp [World.frozen?, y]
  have t2 : w6.cell? ⟨w3.heap.size + 1, 2, none⟩ = some (.slice none 0 0) := by simp [World.cell?, y]
  have u2 : w6.frozen? ⟨w3.heap.size + 1, 2, none⟩ = false := by simp [World.frozen?, y]
  have t3 : w6.cell? ⟨w3.heap.size + 1, 3, none⟩ = some (.slice none 0 0) := by simp [World.cell?, y]
  have u3 : w6.frozen? ⟨w3.heap.size + 1, 3, none⟩ = false := by simp [World.frozen?, y]
  clear y
  have K6 : Hid (w6.drew.cell? ⟨w.heap.size, 2, none⟩ = some (.int .i64 v)) := c2
  go_wp2_with fail
  refine wp_region_held_drew (S := fun w' => w'.cell? ⟨w.heap.size, 2, none⟩ = some (.int .i64 v)) (by kernel_rfl) (by exact K6.out) (fun hHeld => ?_)
  refine wpAnyH_take (i := 0) (oi := _) (v := .pointer (some ⟨w3.heap.size + 1, 3, none⟩)) (by rw [List.getElem?_toArray]; exact rfl) (by kernel_rfl) (by kernel_rfl) (by kernel_rfl) (by intro _ _ _ h; exact h) (Or.inl ⟨by kernel_rfl, ?_⟩) hHeld ?_
  · intro w hSw; go_simp
  simp only [Act.put, List.setIfInBounds_toArray, List.set_cons_zero, List.set_cons_succ]
  refine wpAnyH_take (i := 2) (oi := _) (v := .slice pa m pc) (by rw [List.getElem?_toArray]; exact rfl) (by kernel_rfl) (by kernel_rfl) (by kernel_rfl) (by intro _ _ _ h; exact h) (Or.inl ⟨by kernel_rfl, ?_⟩) hHeld ?_
  · intro w hSw; go_simp
  simp only [Act.put, List.setIfInBounds_toArray, List.set_cons_zero, List.set_cons_succ]
  refine wpAnyH_take (i := 5) (oi := _) (v := .slice pa m pc) (by rw [List.getElem?_toArray]; exact rfl) (by kernel_rfl) (by kernel_rfl) (by kernel_rfl) (by intro _ _ _ h; exact h) (Or.inl ⟨by kernel_rfl, ?_⟩) hHeld ?_
  · intro w hSw; go_simp
  simp only [Act.put, List.setIfInBounds_toArray, List.set_cons_zero, List.set_cons_succ]
  refine wpAnyH_take (i := 6) (oi := _) (v := .pointer (some ⟨w.heap.size, 2, none⟩)) (by rw [List.getElem?_toArray]; exact rfl) (by kernel_rfl) (by kernel_rfl) (by kernel_rfl) (by intro _ _ _ h; exact h) (Or.inl ⟨by kernel_rfl, ?_⟩) hHeld ?_
  · intro w hSw; go_simp
  simp only [Act.put, List.setIfInBounds_toArray, List.set_cons_zero, List.set_cons_succ]
  refine wpAnyH_take (i := 7) (oi := _) (v := .int .i64 v) (by rw [List.getElem?_toArray]; exact rfl) (by kernel_rfl) (by kernel_rfl) (by kernel_rfl) (by intro _ _ _ h; exact h) (Or.inl ⟨by kernel_rfl, ?_⟩) hHeld ?_
  · intro w hSw; go_simp
  simp only [Act.put, List.setIfInBounds_toArray, List.set_cons_zero, List.set_cons_succ]
  refine wpAnyH_ready (rs := [1, 3]) (by kernel_rfl) (by simp) ?_
  refine AllReadyH.cons (o := _) (by rw [List.getElem?_toArray]; exact rfl) (fun K hK => ?_) (AllReadyH.cons (o := _) (by rw [List.getElem?_toArray]; exact rfl) (fun K hK => ?_) AllReadyH.nil)
  all_goals first
    | (rw [if_pos (by kernel_rfl)]
       go_simp
       refine hK.out _ _ ?_ (fun hHeld => ?_)
       · exact K6.out
       clear hK K
       (try simp only [Act.put, List.setIfInBounds_toArray, List.set_cons_zero, List.set_cons_succ])
       refine wpAnyH_ready (rs := [3]) (by kernel_rfl) (by simp) ?_
       refine AllReadyH.cons (o := _) (by rw [List.getElem?_toArray]; exact rfl) (fun K hK => ?_) AllReadyH.nil
       rw [if_pos (by kernel_rfl)]
       go_simp
       refine (specStateAt_any _).mono ?_
       rintro e wp ⟨rfl, rfl⟩
       refine hK.out _ _ ?_ (fun hHeld => ?_)
       · exact K6.out
       clear hK K
       (try simp only [Act.put, List.setIfInBounds_toArray, List.set_cons_zero, List.set_cons_succ]))
    | (rw [if_pos (by kernel_rfl)]
       go_simp
       refine (specStateAt_any _).mono ?_
       rintro e wp ⟨rfl, rfl⟩
       refine hK.out _ _ ?_ (fun hHeld => ?_)
       · exact K6.out
       clear hK K
       (try simp only [Act.put, List.setIfInBounds_toArray, List.set_cons_zero, List.set_cons_succ])
       refine wpAnyH_ready (rs := [1]) (by kernel_rfl) (by simp) ?_
       refine AllReadyH.cons (o := _) (by rw [List.getElem?_toArray]; exact rfl) (fun K hK => ?_) AllReadyH.nil
       rw [if_pos (by kernel_rfl)]
       go_simp
       refine hK.out _ _ ?_ (fun hHeld => ?_)
       · exact K6.out
       clear hK K
       (try simp only [Act.put, List.setIfInBounds_toArray, List.set_cons_zero, List.set_cons_succ]))
  all_goals
    refine wpAnyH_ready (rs := [4]) (by kernel_rfl) (by simp) ?_
    refine AllReadyH.cons (o := _) (by rw [List.getElem?_toArray]; exact rfl) (fun K hK => ?_) AllReadyH.nil
    rw [if_pos (by kernel_rfl)]
    go_simp
    refine (l5Same_L (.slice none 0 0) (([], 0) : List Int × Nat) pa m pc fs 13 w6.drew (w3.heap.size + 1 + 1) (HL6.out.below (Below.refl _ _).drew (Nat.le_refl _)) (((HP.out.below (LO.out HS6.out.low) (Nat.le_refl _))).below (Below.refl _ _).drew (Nat.le_refl _)) (by decide) HS6.out.lt).mono ?_
    rintro e w7 ⟨v', rfl, hL, hb⟩
    have hb' : Below w6.heap.size w6 w7 := ⟨hb.os, hb.tape, hb.output, hb.size, hb.block⟩
    obtain ⟨a7, d7, rfl⟩ := hL.form
    have HL7 : Hid (ListE (w3.heap.size + 1 + 1) w7 (.slice a7 (addL (([], 0) : List Int × Nat) fs m 13 (readF fs 13 m).1).2 d7) (addL (([], 0) : List Int × Nat) fs m 13 (readF fs 13 m).1)) := hL
    have HS7 : Hid (PlanSt w3 W1 w7 #[.bool false, .int .i64 0, .slice none 0 0, .slice none 0 0]) := HS6.out.on hb'
    have K7 : Hid (w7.cell? ⟨w.heap.size, 2, none⟩ = some (.int .i64 v)) := (CE.out HS7.out.low).1.2.2
    clear hb hb' hL
    refine hK.out _ _ ?_ (fun hHeld => ?_)
    · exact K7.out
    clear hK K
    (try simp only [Act.put, List.setIfInBounds_toArray, List.set_cons_zero, List.set_cons_succ])
    refine wpAnyH_ready (rs := [8]) (by kernel_rfl) (by simp) ?_
    refine AllReadyH.cons (o := _) (by rw [List.getElem?_toArray]; exact rfl) (fun K hK => ?_) AllReadyH.nil
    rw [if_pos (by kernel_rfl)]
    go_simp
    refine (specViaAt_any v _).mono ?_
    rintro e wp ⟨rfl, hwp⟩
    have hwq : w7 = wp := hwp.symm
    clear hwp
    subst hwq
    refine hK.out _ _ ?_ (fun hHeld => ?_)
    · exact K7.out
    clear hK K
    (try simp only [Act.put, List.setIfInBounds_toArray, List.set_cons_zero, List.set_cons_succ])
    refine wpAnyH_ready (rs := [9]) (by kernel_rfl) (by simp) ?_
    refine AllReadyH.cons (o := _) (by rw [List.getElem?_toArray]; exact rfl) (fun K hK => ?_) AllReadyH.nil
    rw [if_pos (by kernel_rfl)]
    go_simp
    refine (l5Same_L (.slice a7 (addL (([], 0) : List Int × Nat) fs m 13 (readF fs 13 m).1).2 d7) (addL (([], 0) : List Int × Nat) fs m 13 (readF fs 13 m).1) pa m pc fs (placeN 5 v) w7 (w3.heap.size + 1 + 1) HL7.out ((HP.out.below (LO.out HS7.out.low) (Nat.le_refl _))) (Nat.lt_of_le_of_lt (addL_le _ _ _ _ _) (by decide)) HS7.out.lt).mono ?_
    rintro e w8 ⟨v', rfl, hL, hb⟩
    obtain ⟨a8, d8, rfl⟩ := hL.form
    have HL8 : Hid (ListE (w3.heap.size + 1 + 1) w8 (.slice a8 (addL (addL (([], 0) : List Int × Nat) fs m 13 (readF fs 13 m).1) fs m (placeN 5 v) (readF fs (placeN 5 v) m).1).2 d8) (addL (addL (([], 0) : List Int × Nat) fs m 13 (readF fs 13 m).1) fs m (placeN 5 v) (readF fs (placeN 5 v) m).1)) := hL
    have HS8 : Hid (PlanSt w3 W1 w8 #[.bool false, .int .i64 0, .slice none 0 0, .slice none 0 0]) := HS7.out.on hb
    have z8 := HS8.out.box
    have s8 : w8.cell? ⟨w3.heap.size + 1, 3, none⟩ = some (.slice none 0 0) := by simp [World.cell?, z8]
    have f8 : w8.frozen? ⟨w3.heap.size + 1, 3, none⟩ = false := by simp [World.frozen?, z8]
    have K8 : Hid (w8.cell? ⟨w.heap.size, 2, none⟩ = some (.int .i64 v)) := (CE.out HS8.out.low).1.2.2
    have K9 : Hid ((w8.setCell ⟨w3.heap.size + 1, 3, none⟩ (.slice a8 (addL (addL (([], 0) : List Int × Nat) fs m 13 (readF fs 13 m).1) fs m (placeN 5 v) (readF fs (placeN 5 v) m).1).2 d8)).cell? ⟨w.heap.size, 2, none⟩ = some (.int .i64 v)) := (World.cell?_setCell_far w8 ⟨w3.heap.size + 1, 3, none⟩ ⟨w.heap.size, 2, none⟩ _ hne').trans K8.out
    clear hb hL z8
    refine hK.out _ _ ?_ (fun hHeld => ?_)
    · exact K8.out
    clear hK K
    (try simp only [Act.put, List.setIfInBounds_toArray, List.set_cons_zero, List.set_cons_succ])
    refine wpAnyH_take (i := 10) (oi := _) (v := .pointer (some ⟨w3.heap.size + 1, 3, none⟩)) (by rw [List.getElem?_toArray]; exact rfl) (by kernel_rfl) (by kernel_rfl) (by kernel_rfl) (by intro _ _ _ h; exact h) (Or.inl ⟨by kernel_rfl, ?_⟩) hHeld ?_
    · intro w hSw; go_simp
    simp only [Act.put, List.setIfInBounds_toArray, List.set_cons_zero, List.set_cons_succ]
    refine wpAnyH_ready (rs := [11]) (by kernel_rfl) (by simp) ?_
    refine AllReadyH.cons (o := _) (by rw [List.getElem?_toArray]; exact rfl) (fun K hK => ?_) AllReadyH.nil
    rw [if_pos (by kernel_rfl)]
    go_simp
    refine hK.out _ _ ?_ (fun hHeld => ?_)
    · exact K9.out
    clear hK K
    (try simp only [Act.put, List.setIfInBounds_toArray, List.set_cons_zero, List.set_cons_succ])
    refine wpAnyH_done (by kernel_rfl) ?_ _
    have HS9 : Hid (PlanSt w3 W1 (w8.setCell ⟨w3.heap.size + 1, 3, none⟩ (.slice a8 (addL (addL (([], 0) : List Int × Nat) fs m 13 (readF fs 13 m).1) fs m (placeN 5 v) (readF fs (placeN 5 v) m).1).2 d8)) #[.bool false, .int .i64 0, .slice none 0 0, .slice a8 (addL (addL (([], 0) : List Int × Nat) fs m 13 (readF fs 13 m).1) fs m (placeN 5 v) (readF fs (placeN 5 v) m).1).2 d8]) := HS8.out.set HW.out 3 (.slice a8 (addL (addL (([], 0) : List Int × Nat) fs m 13 (readF fs 13 m).1) fs m (placeN 5 v) (readF fs (placeN 5 v) m).1).2 d8)
    have HL9 : Hid (ListE (w3.heap.size + 1 + 1) (w8.setCell ⟨w3.heap.size + 1, 3, none⟩ (.slice a8 (addL (addL (([], 0) : List Int × Nat) fs m 13 (readF fs 13 m).1) fs m (placeN 5 v) (readF fs (placeN 5 v) m).1).2 d8)) (.slice a8 (addL (addL (([], 0) : List Int × Nat) fs m 13 (readF fs 13 m).1) fs m (placeN 5 v) (readF fs (placeN 5 v) m).1).2 d8) (addL (addL (([], 0) : List Int × Nat) fs m 13 (readF fs 13 m).1) fs m (placeN 5 v) (readF fs (placeN 5 v) m).1)) := HL8.out.set (by omega) 3 _
    clear c0 c1 c2 t0 t1 t2 t3 u0 u1 u2 u3
    generalize hwz : w8.setCell ⟨w3.heap.size + 1, 3, none⟩ (.slice a8 (addL (addL (([], 0) : List Int × Nat) fs m 13 (readF fs 13 m).1) fs m (placeN 5 v) (readF fs (placeN 5 v) m).1).2 d8) = w9 at HS9 HL9 ⊢
    clear hwz
    have HLN9 : Hid ((addL (addL (([], 0) : List Int × Nat) fs m 13 (readF fs 13 m).1) fs m (placeN 5 v) (readF fs (placeN 5 v) m).1).2 < 1048576) := Nat.lt_of_le_of_lt (Nat.le_trans (addL_le _ _ _ _ _) (Nat.succ_le_succ (addL_le _ _ _ _ _))) (by decide)
    have HLM9 : Hid ((addL (addL (([], 0) : List Int × Nat) fs m 13 (readF fs 13 m).1) fs m (placeN 5 v) (readF fs (placeN 5 v) m).1).2 < 3) := Nat.lt_of_le_of_lt (Nat.le_trans (addL_le _ _ _ _ _) (Nat.succ_le_succ (addL_le _ _ _ _ _))) (by decide)
    have y := HS9.out.box
    obtain ⟨⟨c0, c1, c2⟩, _⟩ := CE.out HS9.out.low
    have t0 : w9.cell? ⟨w3.heap.size + 1, 0, none⟩ = some (.bool false) := by simp [World.cell?, y]
    have u0 : w9.frozen? ⟨w3.heap.size + 1, 0, none⟩ = false := by simp [World.frozen?, y]
    have t1 : w9.cell? ⟨w3.heap.size + 1, 1, none⟩ = some (.int .i64 0) := by simp [World.cell?, y]
    have u1 : w9.frozen? ⟨w3.heap.size + 1, 1, none⟩ = false := by simp [World.frozen?, y]
    have t2 : w9.cell? ⟨w3.heap.size + 1, 2, none⟩ = some (.slice none 0 0) := by simp [World.cell?, y]
    have u2 : w9.frozen? ⟨w3.heap.size + 1, 2, none⟩ = false := by simp [World.frozen?, y]
    have t3 : w9.cell? ⟨w3.heap.size + 1, 3, none⟩ = some (.slice a8 (addL (addL (([], 0) : List Int × Nat) fs m 13 (readF fs 13 m).1) fs m (placeN 5 v) (readF fs (placeN 5 v) m).1).2 d8) := by simp [World.cell?, y]
    have u3 : w9.frozen? ⟨w3.heap.size + 1, 3, none⟩ = false := by simp [World.frozen?, y]
    clear y
    go_wp2_with fail
    (try simp only [wrapEq])
    refine (specViaAt_any v _).mono ?_
    rintro e wp ⟨rfl, hwp⟩
    rw [hwp]
    clear hwp
    go_wp2_with fail
    (try simp only [wrapEq])
    refine (specRead_any pa m pc (placeN 5 v) fs _ (HP.out.below (LO.out HS9.out.low) (Nat.le_refl _))).mono ?_
    rintro e w10 ⟨rfl, hb⟩
    have HS10 : Hid (PlanSt w3 W1 w10 #[.bool false, .int .i64 0, .slice none 0 0, .slice a8 (addL (addL (([], 0) : List Int × Nat) fs m 13 (readF fs 13 m).1) fs m (placeN 5 v) (readF fs (placeN 5 v) m).1).2 d8]) := HS9.out.on hb
    have HL10 : Hid (ListE (w3.heap.size + 1 + 1) w10 (.slice a8 (addL (addL (([], 0) : List Int × Nat) fs m 13 (readF fs 13 m).1) fs m (placeN 5 v) (readF fs (placeN 5 v) m).1).2 d8) (addL (addL (([], 0) : List Int × Nat) fs m 13 (readF fs 13 m).1) fs m (placeN 5 v) (readF fs (placeN 5 v) m).1)) := HL9.out.below hb (Nat.le_refl _)
    have HLN10 : Hid ((addL (addL (([], 0) : List Int × Nat) fs m 13 (readF fs 13 m).1) fs m (placeN 5 v) (readF fs (placeN 5 v) m).1).2 < 1048576) := HLN9.out
    have HLM10 : Hid ((addL (addL (([], 0) : List Int × Nat) fs m 13 (readF fs 13 m).1) fs m (placeN 5 v) (readF fs (placeN 5 v) m).1).2 < 3) := HLM9.out
    clear hb
    clear c0 c1 c2 t0 t1 t2 t3 u0 u1 u2 u3
    have hz : ((readF fs (placeN 5 v) m).1 == 0) = false := by simpa using HV.out
    have HA : Hid (PlanSt w3 W1 (w10.alloc (.cells #[.int .i64 (wrap64 ((readF fs (placeN 5 v) m).1 - 1))] 3)) #[.bool false, .int .i64 0, .slice none 0 0, .slice a8 (addL (addL (([], 0) : List Int × Nat) fs m 13 (readF fs 13 m).1) fs m (placeN 5 v) (readF fs (placeN 5 v) m).1).2 d8] ∧ ListE (w3.heap.size + 1 + 1) (w10.alloc (.cells #[.int .i64 (wrap64 ((readF fs (placeN 5 v) m).1 - 1))] 3)) (.slice a8 (addL (addL (([], 0) : List Int × Nat) fs m 13 (readF fs 13 m).1) fs m (placeN 5 v) (readF fs (placeN 5 v) m).1).2 d8) (addL (addL (([], 0) : List Int × Nat) fs m 13 (readF fs 13 m).1) fs m (placeN 5 v) (readF fs (placeN 5 v) m).1) ∧ w3.heap.size + 1 + 1 ≤ w10.heap.size) := ⟨HS10.out.on ((Below.refl _ _).alloc (Nat.le_refl _) _), HL10.out.below ((Below.refl _ _).alloc (Nat.le_refl _) _) (Nat.le_refl _), HS10.out.lt⟩
    have y := HA.out.1.box
    have x7 := (CE.out HA.out.1.low).2
    obtain ⟨⟨c0, c1, c2⟩, _⟩ := CE.out HS10.out.low
    have t0 : (w10.alloc (.cells #[.int .i64 (wrap64 ((readF fs (placeN 5 v) m).1 - 1))] 3)).cell? ⟨w3.heap.size + 1, 0, none⟩ = some (.bool false) := by simp only [World.cell?, y]; rfl
    have u0 : (w10.alloc (.cells #[.int .i64 (wrap64 ((readF fs (placeN 5 v) m).1 - 1))] 3)).frozen? ⟨w3.heap.size + 1, 0, none⟩ = false := by simp only [World.frozen?, y]; rfl
    have t1 : (w10.alloc (.cells #[.int .i64 (wrap64 ((readF fs (placeN 5 v) m).1 - 1))] 3)).cell? ⟨w3.heap.size + 1, 1, none⟩ = some (.int .i64 0) := by simp only [World.cell?, y]; rfl
    have u1 : (w10.alloc (.cells #[.int .i64 (wrap64 ((readF fs (placeN 5 v) m).1 - 1))] 3)).frozen? ⟨w3.heap.size + 1, 1, none⟩ = false := by simp only [World.frozen?, y]; rfl
    have t2 : (w10.alloc (.cells #[.int .i64 (wrap64 ((readF fs (placeN 5 v) m).1 - 1))] 3)).cell? ⟨w3.heap.size + 1, 2, none⟩ = some (.slice none 0 0) := by simp only [World.cell?, y]; rfl
    have u2 : (w10.alloc (.cells #[.int .i64 (wrap64 ((readF fs (placeN 5 v) m).1 - 1))] 3)).frozen? ⟨w3.heap.size + 1, 2, none⟩ = false := by simp only [World.frozen?, y]; rfl
    have t3 : (w10.alloc (.cells #[.int .i64 (wrap64 ((readF fs (placeN 5 v) m).1 - 1))] 3)).cell? ⟨w3.heap.size + 1, 3, none⟩ = some (.slice a8 (addL (addL (([], 0) : List Int × Nat) fs m 13 (readF fs 13 m).1) fs m (placeN 5 v) (readF fs (placeN 5 v) m).1).2 d8) := by simp only [World.cell?, y]; rfl
    have u3 : (w10.alloc (.cells #[.int .i64 (wrap64 ((readF fs (placeN 5 v) m).1 - 1))] 3)).frozen? ⟨w3.heap.size + 1, 3, none⟩ = false := by simp only [World.frozen?, y]; rfl
    have p0 : (w10.alloc (.cells #[.int .i64 (wrap64 ((readF fs (placeN 5 v) m).1 - 1))] 3)).cell? ⟨w.heap.size + 1, 0, none⟩ = some (.bool false) := by simp only [World.cell?, x7]; rfl
    have q0 : (w10.alloc (.cells #[.int .i64 (wrap64 ((readF fs (placeN 5 v) m).1 - 1))] 3)).frozen? ⟨w.heap.size + 1, 0, none⟩ = false := by simp only [World.frozen?, x7]; rfl
    have p1 : (w10.alloc (.cells #[.int .i64 (wrap64 ((readF fs (placeN 5 v) m).1 - 1))] 3)).cell? ⟨w.heap.size + 1, 1, none⟩ = some (.int .i64 0) := by simp only [World.cell?, x7]; rfl
    have q1 : (w10.alloc (.cells #[.int .i64 (wrap64 ((readF fs (placeN 5 v) m).1 - 1))] 3)).frozen? ⟨w.heap.size + 1, 1, none⟩ = false := by simp only [World.frozen?, x7]; rfl
    have p2 : (w10.alloc (.cells #[.int .i64 (wrap64 ((readF fs (placeN 5 v) m).1 - 1))] 3)).cell? ⟨w.heap.size + 1, 2, none⟩ = some (.slice none 0 0) := by simp only [World.cell?, x7]; rfl
    have q2 : (w10.alloc (.cells #[.int .i64 (wrap64 ((readF fs (placeN 5 v) m).1 - 1))] 3)).frozen? ⟨w.heap.size + 1, 2, none⟩ = false := by simp only [World.frozen?, x7]; rfl
    have p3 : (w10.alloc (.cells #[.int .i64 (wrap64 ((readF fs (placeN 5 v) m).1 - 1))] 3)).cell? ⟨w.heap.size + 1, 3, none⟩ = some (.slice none 0 0) := by simp only [World.cell?, x7]; rfl
    have q3 : (w10.alloc (.cells #[.int .i64 (wrap64 ((readF fs (placeN 5 v) m).1 - 1))] 3)).frozen? ⟨w.heap.size + 1, 3, none⟩ = false := by simp only [World.frozen?, x7]; rfl
    clear y x7
    have HLO : Hid (Below w.heap.size w (w10.alloc (.cells #[.int .i64 (wrap64 ((readF fs (placeN 5 v) m).1 - 1))] 3))) := LO.out HA.out.1.low
    have HI : Hid (IntAt (w10.alloc (.cells #[.int .i64 (wrap64 ((readF fs (placeN 5 v) m).1 - 1))] 3)) (some ⟨w10.heap.size, 0, none⟩) 1 [wrap64 ((readF fs (placeN 5 v) m).1 - 1)]) := one_at (by simp)
    go_wp2
    (try simp only [wrapEq])
    (try simp only [Exit.inBlock, Exit.then])
    refine bodyPost_ret (by simp [results, Tryz.results7, go_sem, p0, p1, p2, p3]; try rfl) rfl ?_
    have hy := Y5.out.2
    have hw := HW.out
    have hz1 := HA.out.2.2
    have fr : ∀ q, some (⟨w10.heap.size, 0, none⟩ : Addr) = some q → q.block ≠ w.heap.size + 1 := fun q e => by cases e; simp only; omega
    have fr2 : ∀ q, some (⟨w10.heap.size, 0, none⟩ : Addr) = some q → q.block ≠ w3.heap.size + 1 := fun q e => by cases e; simp only; omega
    refine ⟨⟨_, some ⟨w10.heap.size, 0, none⟩, 1, rfl, ?_, _, (((((HA.out.2.1.set (b := w3.heap.size + 1) (by omega) 2 _).set (b := w.heap.size + 1) (by omega) 0 _).set (b := w.heap.size + 1) (by omega) 1 _).set (b := w.heap.size + 1) (by omega) 2 _).set (b := w.heap.size + 1) (by omega) 3 _)⟩, ((((HLO.out.setCell (p := ⟨w3.heap.size + 1, 2, none⟩) (by simp; omega) _).setCell (p := ⟨w.heap.size + 1, 0, none⟩) (by simp) _).setCell (p := ⟨w.heap.size + 1, 1, none⟩) (by simp) _).setCell (p := ⟨w.heap.size + 1, 2, none⟩) (by simp) _).setCell (p := ⟨w.heap.size + 1, 3, none⟩) (by simp) _⟩
    exact int_far (int_far (int_far (int_far (int_far HI.out (p := ⟨w3.heap.size + 1, 2, none⟩) fr2 _) (p := ⟨w.heap.size + 1, 0, none⟩) fr _) (p := ⟨w.heap.size + 1, 1, none⟩) fr _) (p := ⟨w.heap.size + 1, 2, none⟩) fr _) (p := ⟨w.heap.size + 1, 3, none⟩) fr _
end Go.Proofs.YtenlapppaimkkaeGreatDoor

/- spec.PlanOf of every op of which nothing more must be known: it answers a plan. -/
namespace Go.Proofs.YtenlapppaimkkaeGreatDoor
open Go.ChangeShapes Go.WideShapes Go.ChangeAt Go.RowKit

theorem nowR_cases (fs : List Int) (m : Nat) (kind k v : Int) (h : 1 ≤ kind ∧ kind ≤ 10) : 0 ≤ (nowR fs m kind k v).1 ∨ ((nowR fs m kind k v).1 = -1 ∧ ¬ (kind = 4 ∨ kind = 5 ∨ kind = 6)) := by
  unfold nowR nowC
  rcases kinds h with rfl | rfl | rfl | rfl | rfl | rfl | rfl | rfl | rfl | rfl
  all_goals simp only [Int.reduceEq, if_true, if_false]
  all_goals (repeat' split) <;> simp
theorem specPlan_ok (pa : Option Addr) (m pc : Nat) (fs : List Int) (kind k v : Int) (w : World) (hP : PairAt w pa m fs) (hg : OpGood kind k v) (hn : nextM fs m kind k v = -1) :
    Calls Tryz.prog 7 #[OpV kind k v, .slice pa m pc] w fun e w' => (∃ x0 x1 x2 x3 y2 y3 z2 z3, e = .returned (.tuple #[.agg #[.bool x0, .int .i64 x1, .slice x2 y2 z2, .slice x3 y3 z3], .bool true])) ∧ Below w.heap.size w w' := by
  rcases nowR_cases fs m kind k v hg.1 with hz | ⟨hz, hk⟩
  · refine (plan_now pa m pc fs kind k v w hP hg hn hz).mono ?_
    rintro e w' ⟨⟨a, c, rfl, _⟩, hb⟩
    exact ⟨⟨_, _, _, _, _, _, _, _, rfl⟩, hb⟩
  · by_cases h3 : kind ≤ 3
    · refine (plan_change pa m pc fs kind k v w hP hg hn ⟨hz, h3⟩).mono ?_
      rintro e w' ⟨⟨v', rfl, a, c, rfl, _⟩, hb⟩
      exact ⟨⟨_, _, _, _, _, _, _, _, rfl⟩, hb⟩
    · have hk' : kind = 7 ∨ kind = 8 ∨ kind = 9 ∨ kind = 10 := by have := hg.1; omega
      rcases hk' with h | h | h | h
      · refine (plan_7 pa m pc fs kind k v w hP hg hn ⟨hz, h⟩).mono ?_
        rintro e w' ⟨⟨v', a, c, rfl, _, B, a', c', rfl, _⟩, hb⟩
        exact ⟨⟨_, _, _, _, _, _, _, _, rfl⟩, hb⟩
      · refine (plan_8 pa m pc fs kind k v w hP hg hn ⟨hz, h⟩).mono ?_
        rintro e w' ⟨⟨v', rfl, B, a', c', rfl, _⟩, hb⟩
        exact ⟨⟨_, _, _, _, _, _, _, _, rfl⟩, hb⟩
      · refine (plan_9 pa m pc fs kind k v w hP hg hn ⟨hz, h⟩).mono ?_
        rintro e w' ⟨⟨v', rfl, B, a', c', rfl, _⟩, hb⟩
        exact ⟨⟨_, _, _, _, _, _, _, _, rfl⟩, hb⟩
      · by_cases hv : (readF fs (placeN 5 v) m).1 = 0
        · refine (plan_10a pa m pc fs kind k v w hP hg hn ⟨hz, h⟩ hv).mono ?_
          rintro e w' ⟨⟨v', rfl, B, a', c', rfl, _⟩, hb⟩
          exact ⟨⟨_, _, _, _, _, _, _, _, rfl⟩, hb⟩
        · refine (plan_10b pa m pc fs kind k v w hP hg hn ⟨hz, h⟩ hv).mono ?_
          rintro e w' ⟨⟨v', a, c, rfl, _, B, a', c', rfl, _⟩, hb⟩
          exact ⟨⟨_, _, _, _, _, _, _, _, rfl⟩, hb⟩
end Go.Proofs.YtenlapppaimkkaeGreatDoor

/- A block of cells that may all be written, as one fact: what it reads as, what keeps it, what a store into it makes of it; of no program. -/
namespace Go.Proofs.YtenlapppaimkkaeGreatDoor
open Go.RowKit

def Box (w : World) (b : Nat) (cs : Array Value) (T : TypeId) : Prop := w.heap[b]? = some (.cells cs T)
section
variable {w w' : World} {b : Nat} {cs : Array Value} {T : TypeId}
theorem Box.lt (h : Box w b cs T) : b < w.heap.size := (Array.getElem?_eq_some_iff.1 h).1
theorem Box.cell (h : Box w b cs T) (i : Nat) : w.cell? ⟨b, i, none⟩ = cs[i]? := by unfold Box at h; simp [World.cell?, h]
theorem Box.frozen (h : Box w b cs T) (i : Nat) : w.frozen? ⟨b, i, none⟩ = false := by unfold Box at h; simp [World.frozen?, h]
theorem Box.below (h : Box w b cs T) {B : Nat} (hb : Below B w w') (hB : b < B) : Box w' b cs T := by
  unfold Box at h ⊢
  rw [hb.block b hB]
  exact h
theorem Box.set (h : Box w b cs T) {q : Addr} (hq : b ≠ q.block) (v : Value) : Box (w.setCell q v) b cs T := by
  unfold Box at h ⊢
  rw [Below.heap_setCell _ _ _ _ hq]
  exact h
theorem Box.put (h : Box w b cs T) (i : Nat) (v : Value) : Box (w.setCell ⟨b, i, none⟩ v) b (cs.setIfInBounds i v) T := by
  unfold Box at h ⊢
  obtain ⟨hlt, h'⟩ := Array.getElem?_eq_some_iff.1 h
  show (w.heap.modify b _)[b]? = _
  rw [Array.getElem?_eq_getElem (by simpa using hlt), Array.getElem_modify_self, h']
  rfl
theorem Box.alloc (h : Box w b cs T) (o : Obj) : Box (w.alloc o) b cs T := h.below ((Below.refl w.heap.size w).alloc (Nat.le_refl _) o) h.lt
theorem box_of (w : World) (cs : Array Value) (T : TypeId) : Box (w.alloc (.cells cs T)) w.heap.size cs T := by
  show (w.heap.push _)[w.heap.size]? = _
  simp
theorem Box.drew (h : Box w b cs T) : Box w.drew b cs T := h
end
theorem size_setCell (w : World) (a : Addr) (v : Value) : (w.setCell a v).heap.size = w.heap.size := by simp [World.setCell]
end Go.Proofs.YtenlapppaimkkaeGreatDoor

/- impl.holdersOf and impl.RowsOk at lists that have more room than they are long, walked. -/
namespace Go.Proofs.YtenlapppaimkkaeGreatDoor
open Go.ChangeShapes Go.WideShapes Go.ChangeAt Go.RowKit Go.Maps

set_option maxHeartbeats 1000000 in
set_option maxRecDepth 100000 in
theorem holdersOf_cap (H : Type) (a : Option Addr) (cp : Nat) (hcp : 4 ≤ cp) (st : Int) (xs : List Int) (w : World) (hA : IntAt w a 4 xs) (hi : ∀ x ∈ xs, (Lit.int .i64 x).wf = true) :
    Calls Tryz.prog 40 #[.agg #[.slice a 4 cp, .int .i64 st]] w fun e w' =>
      e = .returned (.map (some (w.heap.size + 1))) ∧ Below w.heap.size w w' ∧ ∃ (R : Value → Option (DataW H × List MemPlace)) (D : DataW H), w'.ownsMap Tryz.prog 3 R (w.heap.size + 1) 4 D ∧ RowsIn R w' (w.heap.size + 2) ∧ HD xs D := by
  obtain ⟨hl, _, h0 | ⟨b, o, rfl, hc⟩⟩ := hA
  · omega
  have hmm := @run_makeMap Tryz.prog
  have HC : Hid (∀ i, i < 4 → w.cell? ⟨b, o + i, none⟩ = some (I (xs.getD i 0))) := hc
  have HI : Hid (∀ x ∈ xs, (Lit.int .i64 x).wf = true) := hi
  have HL : Hid (xs.length = 4) := hl
  have hblt : b < w.heap.size := World.block_lt_of_cell? w _ (hc 0 (by omega))
  clear hc hi hl
  have hcp1 : (4 : Int) ≤ (cp : Int) := by omega
  obtain ⟨i0, hin, hz0, hz1, hz2⟩ := info_parts infoInt
  go_enter Tryz.func40, Tryz.ntmps40
  go_wp2
  go_loopw [15] (fun i wr => ∃ k : Nat, k ≤ 4 ∧ i = .int .i64 (k : Int) ∧ ∃ D : DataW H, wr.ownsGroups Tryz.prog 3 (w.heap.size + 2) 3 .i64 (w.heap.size + 1) k D ∧ GD xs k D ∧ Below w.heap.size w wr ∧ w.heap.size + 2 ≤ wr.heap.size)
    (fun i _ => 4 - (intOf i).toNat)
  case atStart =>
    refine ⟨0, Nat.zero_le _, rfl, .map [], ?_, GD_zero _, ((Below.refl _ _).alloc (Nat.le_refl _) _).alloc (by simp) _, by simp⟩
    have := World.ownsGroups_made (H := H) (w.alloc (Obj.cells #[Value.slice (some { block := b, off := o }) 4 cp, Value.int IntKind.i64 st] 26)) Tryz.prog 3 3 .i64
    simpa using this
  case round =>
    obtain ⟨k, hk, rfl, D, hown, hgd, hnx, hws⟩ := hrel
    obtain ⟨x, hx⟩ : ∃ x, xs.getD k 0 = x := ⟨_, rfl⟩
    have HX : Hid (xs.getD k 0 = x) := hx
    have HGD : Hid (GD xs k D) := hgd
    by_cases hlt : k < 4
    · have hcx : wr.cell? ⟨b, o + k, none⟩ = some (I x) := by rw [← hx]; exact (hnx.cell (by exact hblt)).trans (HC.out k hlt)
      have hwx : (Lit.int .i64 x).wf = true := HI.out x (by
        have hk4 : k < xs.length := by have := HL.out; omega
        rw [← hx, show xs.getD k 0 = xs[k] by simp [List.getD, hk4]]
        exact List.getElem_mem _)
      have hkey := keyOf_int_mk Tryz.underlying3 hwx
      clear hx hgd
      go_wp2_with (first
        | (at_lookup; refine wpList_lookup_groups _ rfl _ _ 78 rfl 3 24 3 .i64 mapLaw Tryz.underlying78 (zeroInts _) (w.heap.size + 2) (w.heap.size + 1) k _ rfl hown (by unfold maxLen; omega) _ _ rfl hkey ?_; intro v zs hat hoi hzl hback)
        | (at_builtin; refine wpList_append_own_at _ rfl _ _ 24 rfl (w.heap.size + 2) 3 i0 (.int .i64 0) 1 8 Tryz.underlying24 hin hz0 hz1 hz2 rfl (by decide) _ _ _ rfl (hoi.1.alloc _) ⟨wr.heap.size, 0, none⟩ 1 1 [.int .i64 k] rfl rfl (cell_one_new _ _ _) (ints_oneCell .i64 [(k : Int)]) (by unfold maxLen; omega) (by omega) (by simp; omega) ?_; intro v' w1 hown' hgrow hnil hloc)
        | (at_mapUpdate; refine wpList_mapUpdate_back _ rfl _ _ _ 78 rfl hback rfl rfl rfl ((World.grownBy_alloc _ _ _).trans hgrow) (hoi.appended hown' (WalkArith.wf_i64 (by omega))) (by simp; omega) (hloc.imp id (fun h => ⟨_, h, by simp⟩)) ?_; intro w2 hown2 hgrow2)
        | go_in)
      have hall := (World.grownBy_alloc wr _ _).trans hgrow
      go_roundw
      case rel =>
        refine ⟨k + 1, by omega, by go_num, _, hown2, ?_, hnx.groups hoi hall hgrow2 hnx.size (by omega) (by omega), Nat.le_trans hws (Nat.le_trans hall.size hgrow2.size)⟩
        show GD xs (k + 1) (D.put (.int .i64 x) (rowDatum .i64 v' (zs ++ [(k : Int)])))
        rw [(hoi.appended hown' (WalkArith.wf_i64 (by omega))).datum_pos (by simp), GD_zs HGD.out hat hoi]
        exact GD_step HGD.out HX.out hwx
      case measure => simp [intOf]; omega
    · obtain rfl : k = 4 := by omega
      have hkey0 : keyOf Tryz.prog 3 (.int .i64 0) = some (.int .i64 0) := keyOf_int_mk Tryz.underlying3 (by decide)
      go_wp2_with (first
        | (at_delete; refine wpList_delete_own _ rfl _ _ 78 3 rfl 24 mapLaw Tryz.underlying78 _ (w.heap.size + 1) 4 D rfl (groups_map hown) _ _ rfl hkey0 ?_; intro w1 hown1 hturn1)
        | go_in)
      go_ret
      have hg1 := hturn1.grown
      refine ⟨rfl, hnx.grown hg1 hnx.size (fun j hj => by cases hj; omega), _, _, hown1, ?_, ?_⟩
      · intro v y hy
        obtain ⟨zs, ho, rfl⟩ := rowElem_inv hy
        refine ⟨zs, ho.kept hg1 ?_, rfl⟩
        cases hv : v.ownBlock with
        | none => exact .inl rfl
        | some g =>
          refine .inr fun e1 => ?_
          have := (ho.1.lt g hv).1
          cases e1
          omega
      · intro x
        have hg := HGD.out.2 x
        by_cases h0 : x = 0
        · subst h0
          refine ⟨by rw [has_del_same]; simp, fun h => absurd rfl h⟩
        · have hne : Lit.int .i64 x ≠ .int .i64 0 := fun e => h0 (by cases e; rfl)
          rw [has_del_other hne, hg.1]
          refine ⟨by simp [h0], fun _ zd hp => ?_⟩
          rw [atKey_del_other hne, atKey_has (by rw [hg.1]; simpa using hp) zd .nil, hg.2, rowOf_pos hp]

set_option maxHeartbeats 1000000 in
set_option maxRecDepth 100000 in
theorem implRowsOk_room (a : Option Addr) (n cp : Nat) (hcp : n ≤ cp) (st : Int) (xs : List Int) (w : World) (hA : IntAt w a n xs) (hi : ∀ x ∈ xs, (Lit.int .i64 x).wf = true) :
    Calls Tryz.prog 34 #[.agg #[.slice a n cp, .int .i64 st]] w fun e w' => Says e (OkRows xs st) ∧ Below w.heap.size w w' := by
  have hl := hA.1
  by_cases hn : n = 4
  · subst hn
    by_cases hs0 : st < 0
    · have h1 : Hid (¬ OkRows xs st) := fun h => by have := h.2.1; omega
      go_enter Tryz.func34, Tryz.ntmps34
      go_wp2
      go_ret
      exact ⟨⟨false, rfl, by simp [h1.out]⟩, (Below.refl _ _).alloc (Nat.le_refl _) _⟩
    by_cases hs1 : 5 < st
    · have h1 : Hid (¬ OkRows xs st) := fun h => by have := h.2.2.1; omega
      go_enter Tryz.func34, Tryz.ntmps34
      go_wp2
      go_ret
      exact ⟨⟨false, rfl, by simp [h1.out]⟩, (Below.refl _ _).alloc (Nat.le_refl _) _⟩
    have HA : Hid (IntAt w a 4 xs) := hA
    have HI : Hid (∀ x ∈ xs, (Lit.int .i64 x).wf = true) := hi
    have HL : Hid (xs.length = 4) := hl
    clear hA hi hl
    go_enter Tryz.func34, Tryz.ntmps34
    go_wp2_with fail
    refine (holdersOf_cap Unit a cp hcp st xs _ (HA.out.below ((Below.refl _ w).alloc (Nat.le_refl _) _) (Nat.le_refl _)) HI.out).mono ?_
    rintro e w1 ⟨rfl, hb1, R, D, hown, hR, hD⟩
    have hbw : Below w.heap.size w w1 := ((Below.refl _ w).alloc (Nat.le_refl _) _).trans (hb1.mono (by simp))
    have hsz1 := hown.lt
    simp only [World.size_alloc] at hown hR hsz1
    have HR : Hid (RowsIn R w1 (w.heap.size + 1 + 2)) := hR
    have HD1 : Hid (HD xs D) := hD
    clear hb1 hR hD
    go_wp2_with (first | (at_range; refine wpList_range_own _ rfl _ 78 rfl 3 24 mapLaw Tryz.underlying78 R (w.heap.size + 1 + 1) 4 D rfl hown ?_; intro w2 hrg0 hg0 hs2) | fail)
    go_frame
    have hb2 : Below w1.heap.size w1 w2 := (Below.refl _ _).grown hg0 (Nat.le_refl _) (fun k e => by cases e)
    clear hown hg0
    go_loopw [3] (fun _ wr => ∃ left cnt, wr.ranges Tryz.prog 3 R (w.heap.size + 1 + 1) w1.heap.size 4 D left cnt ∧ Below w1.heap.size w1 wr ∧ ∀ x : Int, x ≠ 0 → posK xs 4 x ≠ [] → left (.int .i64 x) = false → Good xs x) (fun _ wr => wr.rangeLeft (w.heap.size + 1 + 1) w1.heap.size)
    case atStart =>
      refine ⟨_, _, hrg0, hb2, fun x h0 hp hf => ?_⟩
      rw [(HD1.out x).1] at hf
      exact absurd ⟨h0, hp⟩ (of_decide_eq_false hf)
    case round =>
      obtain ⟨left, cnt, hrg, hbr, hgood⟩ := hrel
      have HG : Hid (∀ x : Int, x ≠ 0 → posK xs 4 x ≠ [] → left (.int .i64 x) = false → Good xs x) := hgood
      clear hgood hrg0 hb2
      go_wp2_with (first | (at_next; refine wpList_next_rows _ rfl _ rfl R HR.out (w.heap.size + 1 + 1) w1.heap.size 4 D HD1.out left cnt rfl hrg ?_ ?_) | fail)
      · intro _ hl0
        go_wp2
        go_ret
        exact ⟨⟨true, rfl, by simpa using ⟨HL.out, hs0, hs1, fun x h0 hp => HG.out x h0 hp (hl0 _)⟩⟩, hbw.trans (hbr.mono hbw.size)⟩
      · intro x p l c w3 cnt3 hlx hx0 hpx hrow hrg3 hlt hg3 hs3 hen
        have hb3 : Below w1.heap.size w1 w3 := hbr.grown hg3 hbr.size (fun k e => by cases e; exact Nat.le_refl _)
        have hb03 := hbw.trans (hb3.mono hbw.size)
        obtain rfl := row_len hrow
        have HP : Hid (posK xs 4 x ≠ []) := hpx
        clear hrow hg3 hpx
        go_wp2_with fail
        refine (implValOk_any x _).mono ?_
        rintro e w4 ⟨rfl, rfl⟩
        by_cases hv : 1 ≤ x ∧ x ≤ 6
        · rw [show decide (1 ≤ x ∧ x ≤ 6) = true from decide_eq_true hv]
          by_cases hln : 1 < (posK xs 4 x).length
          · have h1 : Hid (¬ OkRows xs st) := fun h => by have := (h.2.2.2 x hx0 HP.out).2; omega
            go_wp2
            go_ret
            exact ⟨⟨false, rfl, by simp [h1.out]⟩, hb03⟩
          · have hG : Hid (Good xs x) := ⟨hv, by omega⟩
            go_wp2
            refine ⟨⟨_, _, hrg3, hb3, fun y h0 hp hf => ?_⟩, by rw [hrg3.left_eq, hrg.left_eq]; omega⟩
            rw [sameKey_int] at hf
            by_cases hy : y = x
            · subst hy
              exact hG.out
            · exact HG.out y h0 hp (by simpa [hy] using hf)
        · rw [show decide (1 ≤ x ∧ x ≤ 6) = false from decide_eq_false hv]
          have h1 : Hid (¬ OkRows xs st) := fun h => hv (h.2.2.2 x hx0 HP.out).1
          go_wp2
          go_ret
          exact ⟨⟨false, rfl, by simp [h1.out]⟩, hb03⟩
  · have h1 : Hid (¬ OkRows xs st) := fun h => by have := h.1; omega
    have h2 : ((n : Int) != 4) = true := by simp; omega
    go_enter Tryz.func34, Tryz.ntmps34
    go_wp2
    go_ret
    exact ⟨⟨false, rfl, by simp [h1.out]⟩, (Below.refl _ _).alloc (Nat.le_refl _) _⟩
end Go.Proofs.YtenlapppaimkkaeGreatDoor

/- impl.KeyOf at a list that has more room than it is long, walked. -/
namespace Go.Proofs.YtenlapppaimkkaeGreatDoor
open Go.ChangeShapes Go.WideShapes Go.ChangeAt Go.RowKit Go.Maps

set_option maxHeartbeats 1000000 in
set_option maxRecDepth 100000 in
theorem implKeyOf_room (a : Option Addr) (cp : Nat) (hcp : 4 ≤ cp) (st v : Int) (xs : List Int) (w : World) (hA : IntAt w a 4 xs) (hi : ∀ x ∈ xs, (Lit.int .i64 x).wf = true) (hv : 1 ≤ v ∧ v ≤ 6) :
    Calls Tryz.prog 11 #[.agg #[.slice a 4 cp, .int .i64 st], .int .i64 v] w fun e w' => e = .returned (.int .i64 (keyN xs v)) ∧ Below w.heap.size w w' := by
  have HA : Hid (IntAt w a 4 xs) := hA
  have HI : Hid (∀ x ∈ xs, (Lit.int .i64 x).wf = true) := hi
  obtain ⟨B, hB⟩ : ∃ B, keyN xs v = B := ⟨_, rfl⟩
  rw [hB]
  have HB : Hid (keyN xs v = B) := hB
  clear hA hi hB
  go_enter Tryz.func11, Tryz.ntmps11
  go_wp2_with fail
  refine (holdersOf_cap Unit a cp hcp st xs _ (HA.out.below ((Below.refl _ w).alloc (Nat.le_refl _) _) (Nat.le_refl _)) HI.out).mono ?_
  rintro e w1 ⟨rfl, hb0, R, D, hown, hR, hD⟩
  have hb1 : Below w.heap.size w w1 := ((Below.refl _ w).alloc (Nat.le_refl _) _).trans (hb0.mono (by simp))
  clear hb0
  simp only [World.size_alloc] at hown hR
  obtain ⟨p, l, c, hrun, hc⟩ := look_row hown hR hD v (by omega) (WalkArith.wf_i64 (by omega))
  clear hown hR hD
  rcases hc with ⟨hp, rfl⟩ | ⟨hp, ho⟩
  · have HP : Hid (posK xs 4 v = []) := hp
    clear hp
    go_wp2
    go_ret
    exact ⟨by rw [← HB.out, keyN_none HP.out]; rfl, hb1⟩
  · obtain rfl := row_len ho
    obtain ⟨g, rfl, hg, _⟩ := row_intAt ho hp (posK_le xs v)
    rw [keyN_some hp, HB.out] at hg
    have h4 := posK_le xs v
    have h5 : 0 < (posK xs 4 v).length := List.length_pos_iff.2 hp
    obtain ⟨q, hq⟩ : ∃ q, (posK xs 4 v).length = q := ⟨_, rfl⟩
    rw [hq] at hrun h4 h5
    clear hp ho hq
    by_cases h1 : q = 1
    · subst h1
      go_wp2
      go_ret
      exact ⟨rfl, hb1⟩
    · have h6 : ((q : Int) == 1) = false := by simp; omega
      have h7 : 1 < q := by omega
      go_wp2_with fail
      refine (implValOk_any v _).mono ?_
      rintro e w2 ⟨rfl, rfl⟩
      rw [show decide (1 ≤ v ∧ v ≤ 6) = true from decide_eq_true hv]
      go_wp2
      go_ret
      exact ⟨rfl, hb1⟩
theorem own_room {w : World} {base : Nat} {a : Option Addr} {c : Nat} {xs : List Value} (h : w.ownsRow base 3 1 (.slice a 4 c) 4 xs) : 4 ≤ c ∧ ∃ g, a = some ⟨g, 0, none⟩ := by
  rcases h.2 with ⟨_, h0⟩ | ⟨g, cap, cur, hv, _, _, hle, _⟩
  · omega
  · cases hv
    exact ⟨hle, _, rfl⟩
end Go.Proofs.YtenlapppaimkkaeGreatDoor
