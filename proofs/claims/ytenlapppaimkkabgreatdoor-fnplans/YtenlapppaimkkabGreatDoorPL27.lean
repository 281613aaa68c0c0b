/- Texts joined: SpecPlan9. -/
import Derived.Test.YtenlapppaimkkabGreatDoorPL25
import Derived.Test.YtenlapppaimkkabGreatDoorPL04
import Derived.Deep.RegionWith
set_option maxHeartbeats 8000000
set_option maxRecDepth 100000
namespace Go.Proofs.YtenlapppaimkkabGreatDoor
section
open Go.ChangeShapes Go.WideShapes Go.ChangeAt Go.RowKit
theorem plan_9 (pa : Option Addr) (m pc : Nat) (fs : List Int) (kind k v : Int) (w : World) (hP : PairAt w pa m fs) (hg : OpGood kind k v) (hn : nextM fs m kind k v = -1) (hz : (nowR fs m kind k v).1 = -1 ∧ kind = 9) :
    Calls Tryz.prog 8 #[OpV kind k v, .slice pa m pc] w fun e w' => (∃ v', e = .returned (.tuple #[.agg #[.bool false, .int .i64 0, .slice none 0 0, v'], .bool true]) ∧ ∃ B, ListE B w' v' (addL (addL (addL ([], 0) fs m 13 (wrap64 ((readF fs 13 m).1 + 1))) fs m (placeN 1 (wrap64 ((readF fs 13 m).1 - 1))) (readF fs (placeN 1 (wrap64 ((readF fs 13 m).1 - 1))) m).1) fs m (placeN 5 (readF fs (placeN 1 (wrap64 ((readF fs 13 m).1 - 1))) m).1) (readF fs 13 m).1)) ∧ Below w.heap.size w w' := by
  have HP : Hid (PairAt w pa m fs) := hP
  have HG : Hid (OpGood kind k v) := hg
  have HN : Hid (nextM fs m kind k v = -1) := hn
  have HZ : Hid ((nowR fs m kind k v).1 = -1 ∧ kind = 9) := hz
  clear hz
  clear hP hg hn
  obtain ⟨W1, hW1⟩ : ∃ W1, (w.alloc (.cells #[.int .i64 kind, .int .i64 k, .int .i64 v] 28)).alloc (.cells #[.bool false, .int .i64 0, .slice none 0 0, .slice none 0 0] 36) = W1 := ⟨_, rfl⟩
  have b1 : Below w.heap.size w W1 := by rw [← hW1]; exact ((Below.refl _ _).alloc (Nat.le_refl _) _).alloc (by simp) _
  have x0 : W1.heap[w.heap.size]? = some (.cells #[.int .i64 kind, .int .i64 k, .int .i64 v] 28 (0, 0)) := by rw [← hW1]; exact (Below.heap_alloc _ _ _ (by simp)).trans (by show (w.heap.push _)[w.heap.size]? = _; simp)
  have x1 : W1.heap[w.heap.size + 1]? = some (.cells #[.bool false, .int .i64 0, .slice none 0 0, .slice none 0 0] 36 (0, 0)) := by rw [← hW1]; show ((w.heap.push _).push _)[w.heap.size + 1]? = _; rw [Array.getElem?_push]; simp
  have HX : Hid (Below w.heap.size w W1 ∧ W1.heap[w.heap.size]? = some (.cells #[.int .i64 kind, .int .i64 k, .int .i64 v] 28 (0, 0)) ∧ W1.heap[w.heap.size + 1]? = some (.cells #[.bool false, .int .i64 0, .slice none 0 0, .slice none 0 0] 36 (0, 0)) ∧ w.heap.size + 1 < W1.heap.size) := ⟨b1, x0, x1, (Array.getElem?_eq_some_iff.1 x1).1⟩
  have CE : Hid (∀ {w' : World}, Below W1.heap.size W1 w' → (w'.cell? ⟨w.heap.size, 0, none⟩ = some (.int .i64 kind) ∧ w'.cell? ⟨w.heap.size, 1, none⟩ = some (.int .i64 k) ∧ w'.cell? ⟨w.heap.size, 2, none⟩ = some (.int .i64 v)) ∧ w'.heap[w.heap.size + 1]? = some (.cells #[.bool false, .int .i64 0, .slice none 0 0, .slice none 0 0] 36 (0, 0))) := fun hb => by
    have h0 := (hb.block _ (Nat.lt_of_succ_lt HX.out.2.2.2)).trans HX.out.2.1
    exact ⟨⟨by simp [World.cell?, h0], by simp [World.cell?, h0], by simp [World.cell?, h0]⟩, (hb.block _ HX.out.2.2.2).trans HX.out.2.2.1⟩
  clear b1 x0 x1
  obtain ⟨c0, c1, c2⟩ := (CE.out (Below.refl _ W1)).1
  go_enter Tryz.func8, Tryz.ntmps8
  go_wp2_with fail
  refine (specOpOk_any kind k v _).mono ?_
  rintro e w1 ⟨rfl, hb⟩
  rw [decide_eq_true HG.out]
  have B1 : Hid (Below W1.heap.size W1 w1) := (by first | exact hb | exact hW1 ▸ hb)
  clear hb c0 c1 c2
  obtain ⟨⟨c0, c1, c2⟩, _⟩ := CE.out B1.out
  have LO : Hid (∀ {w' : World}, Below W1.heap.size W1 w' → Below w.heap.size w w') := fun hb => HX.out.1.trans (hb.mono (Nat.le_of_lt (Nat.lt_of_succ_lt HX.out.2.2.2)))
  go_wp2_with fail
  refine (specNext_any pa m pc kind k v fs _ (HP.out.below (LO.out B1.out) (Nat.le_refl _))).mono ?_
  rintro e w2 ⟨rfl, hb⟩
  rw [HN.out]
  have B2 : Hid (Below W1.heap.size W1 w2) := B1.out.trans (hb.mono B1.out.size)
  clear hb c0 c1 c2
  obtain ⟨⟨c0, c1, c2⟩, _⟩ := CE.out B2.out
  go_wp2_with fail
  refine (l5Now_any pa m pc fs kind k v _ (HP.out.below (LO.out B2.out) (Nat.le_refl _)) HG.out.1).mono ?_
  rintro e w3 ⟨⟨a, c, rfl, hI, hfr⟩, hb⟩
  rw [show decide (0 ≤ (nowR fs m kind k v).1) = false by rw [HZ.out.1]; rfl]
  have B3 : Hid (Below W1.heap.size W1 w3) := B2.out.trans (hb.mono B2.out.size)
  obtain ⟨⟨code, lst⟩, hR⟩ : ∃ R, nowR fs m kind k v = R := ⟨_, rfl⟩
  have HR : Hid (nowR fs m kind k v = (code, lst)) := hR
  rw [hR] at hI
  rw [hR]
  dsimp only at hI ⊢
  have HI : Hid (IntAt w3 a lst.length lst ∧ ∀ q, a = some q → w.heap.size + 1 < q.block) := ⟨hI, fun q e => by have h1 := hfr q e; have h2 := HX.out.2.2.2; have h3 := B2.out.size; omega⟩
  clear hb c0 c1 c2 hI hR hfr
  obtain ⟨W4, hW4⟩ : ∃ W4, w3.alloc (.cells #[.bool true, .int .i64 code, .slice a lst.length c, .slice none 0 0] 36) = W4 := ⟨_, rfl⟩
  have hb4 : Below w3.heap.size w3 W4 := by rw [← hW4]; exact (Below.refl _ _).alloc (Nat.le_refl _) _
  have y4 : W4.heap[w3.heap.size]? = some (.cells #[.bool true, .int .i64 code, .slice a lst.length c, .slice none 0 0] 36 (0, 0)) := by rw [← hW4]; show (w3.heap.push _)[w3.heap.size]? = _; simp
  have B4 : Hid (Below W1.heap.size W1 W4) := B3.out.trans (hb4.mono B3.out.size)
  have HI4 : Hid (IntAt W4 a lst.length lst) := HI.out.1.below hb4 (Nat.le_refl _)
  clear hb4
  obtain ⟨⟨c0, c1, c2⟩, x3⟩ := CE.out B4.out
  have s0 : W4.cell? ⟨w3.heap.size, 0, none⟩ = some (.bool true) := by simp [World.cell?, y4]
  have s1 : W4.cell? ⟨w3.heap.size, 1, none⟩ = some (.int .i64 code) := by simp [World.cell?, y4]
  have s2 : W4.cell? ⟨w3.heap.size, 2, none⟩ = some (.slice a lst.length c) := by simp [World.cell?, y4]
  have s3 : W4.cell? ⟨w3.heap.size, 3, none⟩ = some (.slice none 0 0) := by simp [World.cell?, y4]
  have p0 : W4.cell? ⟨w.heap.size + 1, 0, none⟩ = some (.bool false) := by simp [World.cell?, x3]
  have p1 : W4.cell? ⟨w.heap.size + 1, 1, none⟩ = some (.int .i64 0) := by simp [World.cell?, x3]
  have p2 : W4.cell? ⟨w.heap.size + 1, 2, none⟩ = some (.slice none 0 0) := by simp [World.cell?, x3]
  have p3 : W4.cell? ⟨w.heap.size + 1, 3, none⟩ = some (.slice none 0 0) := by simp [World.cell?, x3]
  have q0 : W4.frozen? ⟨w.heap.size + 1, 0, none⟩ = false := by simp [World.frozen?, x3]
  have q1 : W4.frozen? ⟨w.heap.size + 1, 1, none⟩ = false := by simp [World.frozen?, x3]
  have q2 : W4.frozen? ⟨w.heap.size + 1, 2, none⟩ = false := by simp [World.frozen?, x3]
  have q3 : W4.frozen? ⟨w.heap.size + 1, 3, none⟩ = false := by simp [World.frozen?, x3]
  clear x3 y4
  have hlo := LO.out B4.out
  have HLO : Hid (Below w.heap.size w W4) := hlo
  clear hlo
  subst hW4
  obtain ⟨W5, hW5⟩ : ∃ W5, (w3.alloc (.cells #[.bool true, .int .i64 code, .slice a lst.length c, .slice none 0 0] 36)).alloc (.cells #[.bool false, .int .i64 0, .slice none 0 0, .slice none 0 0] 36) = W5 := ⟨_, rfl⟩
  have hb5 : Below (w3.alloc (.cells #[.bool true, .int .i64 code, .slice a lst.length c, .slice none 0 0] 36)).heap.size (w3.alloc (.cells #[.bool true, .int .i64 code, .slice a lst.length c, .slice none 0 0] 36)) W5 := by rw [← hW5]; exact (Below.refl _ _).alloc (Nat.le_refl _) _
  have y5 : W5.heap[w3.heap.size + 1]? = some (.cells #[.bool false, .int .i64 0, .slice none 0 0, .slice none 0 0] 36 (0, 0)) := by rw [← hW5]; show ((w3.heap.push _).push _)[w3.heap.size + 1]? = _; rw [Array.getElem?_push]; simp
  have B5 : Hid (Below W1.heap.size W1 W5) := B4.out.trans (hb5.mono B4.out.size)
  have Y5 : Hid (W5.heap[w3.heap.size + 1]? = some (.cells #[.bool false, .int .i64 0, .slice none 0 0, .slice none 0 0] 36 (0, 0)) ∧ w.heap.size + 1 < w3.heap.size + 1) := ⟨y5, by have h1 := HX.out.2.2.2; have h2 := B3.out.size; omega⟩
  clear hb5 y5 s0 s1 s2 s3 p0 p1 p2 p3 q0 q1 q2 q3 c0 c1 c2
  obtain ⟨⟨c0, c1, c2⟩, _⟩ := CE.out B5.out
  subst hW5
  go_wp2_with fail
  refine (specStateAt_any _).mono ?_
  rintro e wp ⟨rfl, hwp⟩
  rw [hwp]
  clear hwp
  go_wp2_with fail
  refine (specRead_any pa m pc 13 fs _ (HP.out.below (LO.out B5.out) (Nat.le_refl _))).mono ?_
  rintro e w6 ⟨rfl, hb⟩
  have hb' := hb
  have B6 : Hid (Below W1.heap.size W1 w6) := B5.out.trans (hb'.mono B5.out.size)
  have Y6 : Hid (w6.heap[w3.heap.size + 1]? = some (.cells #[.bool false, .int .i64 0, .slice none 0 0, .slice none 0 0] 36 (0, 0))) := (hb'.block _ (Array.getElem?_eq_some_iff.1 Y5.out.1).1).trans Y5.out.1
  clear hb hb' c0 c1 c2
  obtain ⟨⟨st, sb⟩, hst⟩ : ∃ x, readF fs 13 m = x := ⟨_, rfl⟩
  rw [hst]
  have HST : Hid (readF fs 13 m = (st, sb)) := hst
  clear hst
  obtain ⟨⟨c0, c1, c2⟩, _⟩ := CE.out B6.out
  have k7 : (kind == 7) = false := by have := HZ.out.2; simp; omega
  have k8 : (kind == 8) = false := by have := HZ.out.2; simp; omega
  have k9 : (kind == 9) = true := by have := HZ.out.2; simp; omega
  have k10 : (kind == 10) = false := by have := HZ.out.2; simp; omega
  have hne : w.heap.size + 1 ≠ w3.heap.size + 1 := by have := Y5.out.2; omega
  have hne' : w3.heap.size + 1 ≠ w.heap.size := by have := Y5.out.2; omega
  have hne2 : w3.heap.size ≠ w.heap.size := by have := Y5.out.2; omega
  have HW : Hid (W1.heap.size ≤ w3.heap.size + 1) := Nat.le_succ_of_le B3.out.size
  have HS6 : Hid (PlanSt w3 W1 w6 #[.bool false, .int .i64 0, .slice none 0 0, .slice none 0 0]) := ⟨B6.out, Y6.out⟩
  have HL6 : Hid (ListE (w3.heap.size + 1 + 1) w6 (.slice none 0 0) ([], 0)) := listE_nil _ _
  clear c0 c1 c2
  have HLN6 : Hid ((([], 0) : List Int × Nat).2 < 1048576) := (by decide : (0 : Nat) < 1048576)
  have HLM6 : Hid ((([], 0) : List Int × Nat).2 < 1) := Nat.lt_succ_self 0
  have y := HS6.out.box
  obtain ⟨⟨c0, c1, c2⟩, _⟩ := CE.out HS6.out.low
  have t0 : w6.cell? ⟨w3.heap.size + 1, 0, none⟩ = some (.bool false) := by simp [World.cell?, y]
  have u0 : w6.frozen? ⟨w3.heap.size + 1, 0, none⟩ = false := by simp [World.frozen?, y]
  have t1 : w6.cell? ⟨w3.heap.size + 1, 1, none⟩ = some (.int .i64 0) := by simp [World.cell?, y]
  have u1 : w6.frozen? ⟨w3.heap.size + 1, 1, none⟩ = false := by simp [World.frozen?, y]
  have t2 : w6.cell? ⟨w3.heap.size + 1, 2, none⟩ = some (.slice none 0 0) := by simp [World.cell?, y]
  have u2 : w6.frozen? ⟨w3.heap.size + 1, 2, none⟩ = false := by simp [World.frozen?, y]
  have t3 : w6.cell? ⟨w3.heap.size + 1, 3, none⟩ = some (.slice none 0 0) := by simp [World.cell?, y]
  have u3 : w6.frozen? ⟨w3.heap.size + 1, 3, none⟩ = false := by simp [World.frozen?, y]
  clear y
  go_wp2_with fail
  (try simp only [wrapEq])
  refine (specRowAt_any (wrap64 (st - 1)) _).mono ?_
  rintro e wp ⟨rfl, hwp⟩
  rw [hwp]
  clear hwp
  clear c0 c1 c2 t0 t1 t2 t3 u0 u1 u2 u3
  have hrow : True := trivial
  clear hrow
  have y := HS6.out.box
  obtain ⟨⟨c0, c1, c2⟩, _⟩ := CE.out HS6.out.low
  have t0 : w6.cell? ⟨w3.heap.size + 1, 0, none⟩ = some (.bool false) := by simp [World.cell?, y]
  have u0 : w6.frozen? ⟨w3.heap.size + 1, 0, none⟩ = false := by simp [World.frozen?, y]
  have t1 : w6.cell? ⟨w3.heap.size + 1, 1, none⟩ = some (.int .i64 0) := by simp [World.cell?, y]
  have u1 : w6.frozen? ⟨w3.heap.size + 1, 1, none⟩ = false := by simp [World.frozen?, y]
  have t2 : w6.cell? ⟨w3.heap.size + 1, 2, none⟩ = some (.slice none 0 0) := by simp [World.cell?, y]
  have u2 : w6.frozen? ⟨w3.heap.size + 1, 2, none⟩ = false := by simp [World.frozen?, y]
  have t3 : w6.cell? ⟨w3.heap.size + 1, 3, none⟩ = some (.slice none 0 0) := by simp [World.cell?, y]
  have u3 : w6.frozen? ⟨w3.heap.size + 1, 3, none⟩ = false := by simp [World.frozen?, y]
  clear y
  go_wp2_with fail
  (try simp only [wrapEq])
  refine (specRead_any pa m pc (placeN 1 (wrap64 (st - 1))) fs _ (HP.out.below (LO.out HS6.out.low) (Nat.le_refl _))).mono ?_
  rintro e w7 ⟨rfl, hb⟩
  have HS7 : Hid (PlanSt w3 W1 w7 #[.bool false, .int .i64 0, .slice none 0 0, .slice none 0 0]) := HS6.out.on hb
  have HL7 : Hid (ListE (w3.heap.size + 1 + 1) w7 (.slice none 0 0) (([], 0) : List Int × Nat)) := HL6.out.below hb (Nat.le_refl _)
  have HLN7 : Hid ((([], 0) : List Int × Nat).2 < 1048576) := HLN6.out
  have HLM7 : Hid ((([], 0) : List Int × Nat).2 < 1) := HLM6.out
  clear hb
  clear c0 c1 c2 t0 t1 t2 t3 u0 u1 u2 u3
  have y := HS7.out.box
  obtain ⟨⟨c0, c1, c2⟩, _⟩ := CE.out HS7.out.low
  have t0 : w7.cell? ⟨w3.heap.size + 1, 0, none⟩ = some (.bool false) := by simp [World.cell?, y]
  have u0 : w7.frozen? ⟨w3.heap.size + 1, 0, none⟩ = false := by simp [World.frozen?, y]
  have t1 : w7.cell? ⟨w3.heap.size + 1, 1, none⟩ = some (.int .i64 0) := by simp [World.cell?, y]
  have u1 : w7.frozen? ⟨w3.heap.size + 1, 1, none⟩ = false := by simp [World.frozen?, y]
  have t2 : w7.cell? ⟨w3.heap.size + 1, 2, none⟩ = some (.slice none 0 0) := by simp [World.cell?, y]
  have u2 : w7.frozen? ⟨w3.heap.size + 1, 2, none⟩ = false := by simp [World.frozen?, y]
  have t3 : w7.cell? ⟨w3.heap.size + 1, 3, none⟩ = some (.slice none 0 0) := by simp [World.cell?, y]
  have u3 : w7.frozen? ⟨w3.heap.size + 1, 3, none⟩ = false := by simp [World.frozen?, y]
  clear y
  go_wp2_with fail
  go_region_with (first
    | (go_at_call 31
       (try simp only [wrapEq])
       refine (specStateAt_any _).mono ?_
       rintro e wp ⟨rfl, rfl⟩)
    | (go_at_call 34
       (try simp only [wrapEq])
       refine (l5Add_L (.slice none 0 0) (([], 0) : List Int × Nat) pa m pc fs (13) (wrap64 (st + 1)) w7.drew (w3.heap.size + 1 + 1) (HL7.out.below (Below.refl _ _).drew (Nat.le_refl _)) ((HP.out.below (LO.out HS7.out.low) (Nat.le_refl _)).below (Below.refl _ _).drew (Nat.le_refl _)) (HLN7.out) HS7.out.lt).mono ?_
       rintro e w8 ⟨v', rfl, hL, hb⟩
       have hb' : Below w7.heap.size w7 w8 := ⟨hb.os, hb.tape, hb.output, hb.size, hb.block⟩
       obtain ⟨a8, d8, rfl⟩ := hL.form
       have HL8 : Hid (ListE (w3.heap.size + 1 + 1) w8 (.slice a8 (addL (([], 0) : List Int × Nat) fs m (13) (wrap64 (st + 1))).2 d8) (addL (([], 0) : List Int × Nat) fs m (13) (wrap64 (st + 1)))) := hL
       have HS8 : Hid (PlanSt w3 W1 w8 #[.bool false, .int .i64 0, .slice none 0 0, .slice none 0 0]) := HS7.out.on hb'
       have z8 := HS8.out.box
       have s8 : w8.cell? ⟨w3.heap.size + 1, 3, none⟩ = some (.slice none 0 0) := by simp [World.cell?, z8]
       have f8 : w8.frozen? ⟨w3.heap.size + 1, 3, none⟩ = false := by simp [World.frozen?, z8]
       clear hb hb' hL z8))
  all_goals
    have HS9 : Hid (PlanSt w3 W1 (w8.setCell ⟨w3.heap.size + 1, 3, none⟩ (.slice a8 (addL (([], 0) : List Int × Nat) fs m (13) (wrap64 (st + 1))).2 d8)) #[.bool false, .int .i64 0, .slice none 0 0, .slice a8 (addL (([], 0) : List Int × Nat) fs m (13) (wrap64 (st + 1))).2 d8]) := HS8.out.set HW.out 3 (.slice a8 (addL (([], 0) : List Int × Nat) fs m (13) (wrap64 (st + 1))).2 d8)
    have HL9 : Hid (ListE (w3.heap.size + 1 + 1) (w8.setCell ⟨w3.heap.size + 1, 3, none⟩ (.slice a8 (addL (([], 0) : List Int × Nat) fs m (13) (wrap64 (st + 1))).2 d8)) (.slice a8 (addL (([], 0) : List Int × Nat) fs m (13) (wrap64 (st + 1))).2 d8) (addL (([], 0) : List Int × Nat) fs m (13) (wrap64 (st + 1)))) := HL8.out.set (by omega) 3 _
    have HLN9 : Hid ((addL (([], 0) : List Int × Nat) fs m (13) (wrap64 (st + 1))).2 < 1048576) := Nat.lt_of_le_of_lt (Nat.le_trans (addL_le _ _ _ _ _) (Nat.succ_le_of_lt HLM7.out)) (by decide)
    have HLM9 : Hid ((addL (([], 0) : List Int × Nat) fs m (13) (wrap64 (st + 1))).2 < 2) := Nat.lt_of_le_of_lt (addL_le _ _ _ _ _) (Nat.succ_lt_succ HLM7.out)
    clear c0 c1 c2 t0 t1 t2 t3 u0 u1 u2 u3
    clear s8 f8
    generalize hwz : w8.setCell ⟨w3.heap.size + 1, 3, none⟩ (.slice a8 (addL (([], 0) : List Int × Nat) fs m (13) (wrap64 (st + 1))).2 d8) = w9 at HS9 HL9 ⊢
    clear hwz
    have y := HS9.out.box
    obtain ⟨⟨c0, c1, c2⟩, _⟩ := CE.out HS9.out.low
    have t0 : w9.cell? ⟨w3.heap.size + 1, 0, none⟩ = some (.bool false) := by simp [World.cell?, y]
    have u0 : w9.frozen? ⟨w3.heap.size + 1, 0, none⟩ = false := by simp [World.frozen?, y]
    have t1 : w9.cell? ⟨w3.heap.size + 1, 1, none⟩ = some (.int .i64 0) := by simp [World.cell?, y]
    have u1 : w9.frozen? ⟨w3.heap.size + 1, 1, none⟩ = false := by simp [World.frozen?, y]
    have t2 : w9.cell? ⟨w3.heap.size + 1, 2, none⟩ = some (.slice none 0 0) := by simp [World.cell?, y]
    have u2 : w9.frozen? ⟨w3.heap.size + 1, 2, none⟩ = false := by simp [World.frozen?, y]
    have t3 : w9.cell? ⟨w3.heap.size + 1, 3, none⟩ = some (.slice a8 (addL (([], 0) : List Int × Nat) fs m (13) (wrap64 (st + 1))).2 d8) := by simp [World.cell?, y]
    have u3 : w9.frozen? ⟨w3.heap.size + 1, 3, none⟩ = false := by simp [World.frozen?, y]
    clear y
    go_wp2_with fail
    go_region_with (first
      | (go_at_call 33
         (try simp only [wrapEq])
         refine (specRowAt_any (wrap64 (st - 1)) _).mono ?_
         rintro e wp ⟨rfl, rfl⟩)
      | (go_at_call 32
         (try simp only [wrapEq])
         refine (l5Same_L (.slice a8 (addL (([], 0) : List Int × Nat) fs m (13) (wrap64 (st + 1))).2 d8) (addL (([], 0) : List Int × Nat) fs m (13) (wrap64 (st + 1))) pa m pc fs (placeN 1 (wrap64 (st - 1))) w9.drew (w3.heap.size + 1 + 1) (HL9.out.below (Below.refl _ _).drew (Nat.le_refl _)) ((HP.out.below (LO.out HS9.out.low) (Nat.le_refl _)).below (Below.refl _ _).drew (Nat.le_refl _)) (HLN9.out) HS9.out.lt).mono ?_
         rintro e w10 ⟨v', rfl, hL, hb⟩
         have hb' : Below w9.heap.size w9 w10 := ⟨hb.os, hb.tape, hb.output, hb.size, hb.block⟩
         obtain ⟨a10, d10, rfl⟩ := hL.form
         have HL10 : Hid (ListE (w3.heap.size + 1 + 1) w10 (.slice a10 (addL (addL (([], 0) : List Int × Nat) fs m (13) (wrap64 (st + 1))) fs m (placeN 1 (wrap64 (st - 1))) ((readF fs (placeN 1 (wrap64 (st - 1))) m).1)).2 d10) (addL (addL (([], 0) : List Int × Nat) fs m (13) (wrap64 (st + 1))) fs m (placeN 1 (wrap64 (st - 1))) ((readF fs (placeN 1 (wrap64 (st - 1))) m).1))) := hL
         have HS10 : Hid (PlanSt w3 W1 w10 #[.bool false, .int .i64 0, .slice none 0 0, .slice a8 (addL (([], 0) : List Int × Nat) fs m (13) (wrap64 (st + 1))).2 d8]) := HS9.out.on hb'
         have z10 := HS10.out.box
         have s10 : w10.cell? ⟨w3.heap.size + 1, 3, none⟩ = some (.slice a8 (addL (([], 0) : List Int × Nat) fs m (13) (wrap64 (st + 1))).2 d8) := by simp [World.cell?, z10]
         have f10 : w10.frozen? ⟨w3.heap.size + 1, 3, none⟩ = false := by simp [World.frozen?, z10]
         clear hb hb' hL z10))
    all_goals
      have HS11 : Hid (PlanSt w3 W1 (w10.setCell ⟨w3.heap.size + 1, 3, none⟩ (.slice a10 (addL (addL (([], 0) : List Int × Nat) fs m (13) (wrap64 (st + 1))) fs m (placeN 1 (wrap64 (st - 1))) ((readF fs (placeN 1 (wrap64 (st - 1))) m).1)).2 d10)) #[.bool false, .int .i64 0, .slice none 0 0, .slice a10 (addL (addL (([], 0) : List Int × Nat) fs m (13) (wrap64 (st + 1))) fs m (placeN 1 (wrap64 (st - 1))) ((readF fs (placeN 1 (wrap64 (st - 1))) m).1)).2 d10]) := HS10.out.set HW.out 3 (.slice a10 (addL (addL (([], 0) : List Int × Nat) fs m (13) (wrap64 (st + 1))) fs m (placeN 1 (wrap64 (st - 1))) ((readF fs (placeN 1 (wrap64 (st - 1))) m).1)).2 d10)
      have HL11 : Hid (ListE (w3.heap.size + 1 + 1) (w10.setCell ⟨w3.heap.size + 1, 3, none⟩ (.slice a10 (addL (addL (([], 0) : List Int × Nat) fs m (13) (wrap64 (st + 1))) fs m (placeN 1 (wrap64 (st - 1))) ((readF fs (placeN 1 (wrap64 (st - 1))) m).1)).2 d10)) (.slice a10 (addL (addL (([], 0) : List Int × Nat) fs m (13) (wrap64 (st + 1))) fs m (placeN 1 (wrap64 (st - 1))) ((readF fs (placeN 1 (wrap64 (st - 1))) m).1)).2 d10) (addL (addL (([], 0) : List Int × Nat) fs m (13) (wrap64 (st + 1))) fs m (placeN 1 (wrap64 (st - 1))) ((readF fs (placeN 1 (wrap64 (st - 1))) m).1))) := HL10.out.set (by omega) 3 _
      have HLN11 : Hid ((addL (addL (([], 0) : List Int × Nat) fs m (13) (wrap64 (st + 1))) fs m (placeN 1 (wrap64 (st - 1))) ((readF fs (placeN 1 (wrap64 (st - 1))) m).1)).2 < 1048576) := Nat.lt_of_le_of_lt (Nat.le_trans (addL_le _ _ _ _ _) (Nat.succ_le_of_lt HLM9.out)) (by decide)
      have HLM11 : Hid ((addL (addL (([], 0) : List Int × Nat) fs m (13) (wrap64 (st + 1))) fs m (placeN 1 (wrap64 (st - 1))) ((readF fs (placeN 1 (wrap64 (st - 1))) m).1)).2 < 3) := Nat.lt_of_le_of_lt (addL_le _ _ _ _ _) (Nat.succ_lt_succ HLM9.out)
      clear c0 c1 c2 t0 t1 t2 t3 u0 u1 u2 u3
      clear s10 f10
      generalize hwz : w10.setCell ⟨w3.heap.size + 1, 3, none⟩ (.slice a10 (addL (addL (([], 0) : List Int × Nat) fs m (13) (wrap64 (st + 1))) fs m (placeN 1 (wrap64 (st - 1))) ((readF fs (placeN 1 (wrap64 (st - 1))) m).1)).2 d10) = w11 at HS11 HL11 ⊢
      clear hwz
      have y := HS11.out.box
      obtain ⟨⟨c0, c1, c2⟩, _⟩ := CE.out HS11.out.low
      have t0 : w11.cell? ⟨w3.heap.size + 1, 0, none⟩ = some (.bool false) := by simp [World.cell?, y]
      have u0 : w11.frozen? ⟨w3.heap.size + 1, 0, none⟩ = false := by simp [World.frozen?, y]
      have t1 : w11.cell? ⟨w3.heap.size + 1, 1, none⟩ = some (.int .i64 0) := by simp [World.cell?, y]
      have u1 : w11.frozen? ⟨w3.heap.size + 1, 1, none⟩ = false := by simp [World.frozen?, y]
      have t2 : w11.cell? ⟨w3.heap.size + 1, 2, none⟩ = some (.slice none 0 0) := by simp [World.cell?, y]
      have u2 : w11.frozen? ⟨w3.heap.size + 1, 2, none⟩ = false := by simp [World.frozen?, y]
      have t3 : w11.cell? ⟨w3.heap.size + 1, 3, none⟩ = some (.slice a10 (addL (addL (([], 0) : List Int × Nat) fs m (13) (wrap64 (st + 1))) fs m (placeN 1 (wrap64 (st - 1))) ((readF fs (placeN 1 (wrap64 (st - 1))) m).1)).2 d10) := by simp [World.cell?, y]
      have u3 : w11.frozen? ⟨w3.heap.size + 1, 3, none⟩ = false := by simp [World.frozen?, y]
      clear y
      go_wp2_with fail
      go_region_with (first
        | (go_at_call 35
           (try simp only [wrapEq])
           refine (specViaAt_any _ _).mono ?_
           rintro e wp ⟨rfl, rfl⟩)
        | (go_at_call 34
           (try simp only [wrapEq])
           refine (l5Add_L (.slice a10 (addL (addL (([], 0) : List Int × Nat) fs m (13) (wrap64 (st + 1))) fs m (placeN 1 (wrap64 (st - 1))) ((readF fs (placeN 1 (wrap64 (st - 1))) m).1)).2 d10) (addL (addL (([], 0) : List Int × Nat) fs m (13) (wrap64 (st + 1))) fs m (placeN 1 (wrap64 (st - 1))) ((readF fs (placeN 1 (wrap64 (st - 1))) m).1)) pa m pc fs (placeN 5 (readF fs (placeN 1 (wrap64 (st - 1))) m).1) (st) w11.drew (w3.heap.size + 1 + 1) (HL11.out.below (Below.refl _ _).drew (Nat.le_refl _)) ((HP.out.below (LO.out HS11.out.low) (Nat.le_refl _)).below (Below.refl _ _).drew (Nat.le_refl _)) (HLN11.out) HS11.out.lt).mono ?_
           rintro e w12 ⟨v', rfl, hL, hb⟩
           have hb' : Below w11.heap.size w11 w12 := ⟨hb.os, hb.tape, hb.output, hb.size, hb.block⟩
           obtain ⟨a12, d12, rfl⟩ := hL.form
           have HL12 : Hid (ListE (w3.heap.size + 1 + 1) w12 (.slice a12 (addL (addL (addL (([], 0) : List Int × Nat) fs m (13) (wrap64 (st + 1))) fs m (placeN 1 (wrap64 (st - 1))) ((readF fs (placeN 1 (wrap64 (st - 1))) m).1)) fs m (placeN 5 (readF fs (placeN 1 (wrap64 (st - 1))) m).1) (st)).2 d12) (addL (addL (addL (([], 0) : List Int × Nat) fs m (13) (wrap64 (st + 1))) fs m (placeN 1 (wrap64 (st - 1))) ((readF fs (placeN 1 (wrap64 (st - 1))) m).1)) fs m (placeN 5 (readF fs (placeN 1 (wrap64 (st - 1))) m).1) (st))) := hL
           have HS12 : Hid (PlanSt w3 W1 w12 #[.bool false, .int .i64 0, .slice none 0 0, .slice a10 (addL (addL (([], 0) : List Int × Nat) fs m (13) (wrap64 (st + 1))) fs m (placeN 1 (wrap64 (st - 1))) ((readF fs (placeN 1 (wrap64 (st - 1))) m).1)).2 d10]) := HS11.out.on hb'
           have z12 := HS12.out.box
           have s12 : w12.cell? ⟨w3.heap.size + 1, 3, none⟩ = some (.slice a10 (addL (addL (([], 0) : List Int × Nat) fs m (13) (wrap64 (st + 1))) fs m (placeN 1 (wrap64 (st - 1))) ((readF fs (placeN 1 (wrap64 (st - 1))) m).1)).2 d10) := by simp [World.cell?, z12]
           have f12 : w12.frozen? ⟨w3.heap.size + 1, 3, none⟩ = false := by simp [World.frozen?, z12]
           clear hb hb' hL z12))
      all_goals
        have HS13 : Hid (PlanSt w3 W1 (w12.setCell ⟨w3.heap.size + 1, 3, none⟩ (.slice a12 (addL (addL (addL (([], 0) : List Int × Nat) fs m (13) (wrap64 (st + 1))) fs m (placeN 1 (wrap64 (st - 1))) ((readF fs (placeN 1 (wrap64 (st - 1))) m).1)) fs m (placeN 5 (readF fs (placeN 1 (wrap64 (st - 1))) m).1) (st)).2 d12)) #[.bool false, .int .i64 0, .slice none 0 0, .slice a12 (addL (addL (addL (([], 0) : List Int × Nat) fs m (13) (wrap64 (st + 1))) fs m (placeN 1 (wrap64 (st - 1))) ((readF fs (placeN 1 (wrap64 (st - 1))) m).1)) fs m (placeN 5 (readF fs (placeN 1 (wrap64 (st - 1))) m).1) (st)).2 d12]) := HS12.out.set HW.out 3 (.slice a12 (addL (addL (addL (([], 0) : List Int × Nat) fs m (13) (wrap64 (st + 1))) fs m (placeN 1 (wrap64 (st - 1))) ((readF fs (placeN 1 (wrap64 (st - 1))) m).1)) fs m (placeN 5 (readF fs (placeN 1 (wrap64 (st - 1))) m).1) (st)).2 d12)
        have HL13 : Hid (ListE (w3.heap.size + 1 + 1) (w12.setCell ⟨w3.heap.size + 1, 3, none⟩ (.slice a12 (addL (addL (addL (([], 0) : List Int × Nat) fs m (13) (wrap64 (st + 1))) fs m (placeN 1 (wrap64 (st - 1))) ((readF fs (placeN 1 (wrap64 (st - 1))) m).1)) fs m (placeN 5 (readF fs (placeN 1 (wrap64 (st - 1))) m).1) (st)).2 d12)) (.slice a12 (addL (addL (addL (([], 0) : List Int × Nat) fs m (13) (wrap64 (st + 1))) fs m (placeN 1 (wrap64 (st - 1))) ((readF fs (placeN 1 (wrap64 (st - 1))) m).1)) fs m (placeN 5 (readF fs (placeN 1 (wrap64 (st - 1))) m).1) (st)).2 d12) (addL (addL (addL (([], 0) : List Int × Nat) fs m (13) (wrap64 (st + 1))) fs m (placeN 1 (wrap64 (st - 1))) ((readF fs (placeN 1 (wrap64 (st - 1))) m).1)) fs m (placeN 5 (readF fs (placeN 1 (wrap64 (st - 1))) m).1) (st))) := HL12.out.set (by omega) 3 _
        have HLN13 : Hid ((addL (addL (addL (([], 0) : List Int × Nat) fs m (13) (wrap64 (st + 1))) fs m (placeN 1 (wrap64 (st - 1))) ((readF fs (placeN 1 (wrap64 (st - 1))) m).1)) fs m (placeN 5 (readF fs (placeN 1 (wrap64 (st - 1))) m).1) (st)).2 < 1048576) := Nat.lt_of_le_of_lt (Nat.le_trans (addL_le _ _ _ _ _) (Nat.succ_le_of_lt HLM11.out)) (by decide)
        have HLM13 : Hid ((addL (addL (addL (([], 0) : List Int × Nat) fs m (13) (wrap64 (st + 1))) fs m (placeN 1 (wrap64 (st - 1))) ((readF fs (placeN 1 (wrap64 (st - 1))) m).1)) fs m (placeN 5 (readF fs (placeN 1 (wrap64 (st - 1))) m).1) (st)).2 < 4) := Nat.lt_of_le_of_lt (addL_le _ _ _ _ _) (Nat.succ_lt_succ HLM11.out)
        clear c0 c1 c2 t0 t1 t2 t3 u0 u1 u2 u3
        clear s12 f12
        generalize hwz : w12.setCell ⟨w3.heap.size + 1, 3, none⟩ (.slice a12 (addL (addL (addL (([], 0) : List Int × Nat) fs m (13) (wrap64 (st + 1))) fs m (placeN 1 (wrap64 (st - 1))) ((readF fs (placeN 1 (wrap64 (st - 1))) m).1)) fs m (placeN 5 (readF fs (placeN 1 (wrap64 (st - 1))) m).1) (st)).2 d12) = w13 at HS13 HL13 ⊢
        clear hwz
        have y := HS13.out.box
        obtain ⟨⟨c0, c1, c2⟩, _⟩ := CE.out HS13.out.low
        have t0 : w13.cell? ⟨w3.heap.size + 1, 0, none⟩ = some (.bool false) := by simp [World.cell?, y]
        have u0 : w13.frozen? ⟨w3.heap.size + 1, 0, none⟩ = false := by simp [World.frozen?, y]
        have t1 : w13.cell? ⟨w3.heap.size + 1, 1, none⟩ = some (.int .i64 0) := by simp [World.cell?, y]
        have u1 : w13.frozen? ⟨w3.heap.size + 1, 1, none⟩ = false := by simp [World.frozen?, y]
        have t2 : w13.cell? ⟨w3.heap.size + 1, 2, none⟩ = some (.slice none 0 0) := by simp [World.cell?, y]
        have u2 : w13.frozen? ⟨w3.heap.size + 1, 2, none⟩ = false := by simp [World.frozen?, y]
        have t3 : w13.cell? ⟨w3.heap.size + 1, 3, none⟩ = some (.slice a12 (addL (addL (addL (([], 0) : List Int × Nat) fs m (13) (wrap64 (st + 1))) fs m (placeN 1 (wrap64 (st - 1))) ((readF fs (placeN 1 (wrap64 (st - 1))) m).1)) fs m (placeN 5 (readF fs (placeN 1 (wrap64 (st - 1))) m).1) (st)).2 d12) := by simp [World.cell?, y]
        have u3 : w13.frozen? ⟨w3.heap.size + 1, 3, none⟩ = false := by simp [World.frozen?, y]
        clear y
        have x7 := (CE.out HS13.out.low).2
        have p0 : w13.cell? ⟨w.heap.size + 1, 0, none⟩ = some (.bool false) := by simp [World.cell?, x7]
        have q0 : w13.frozen? ⟨w.heap.size + 1, 0, none⟩ = false := by simp [World.frozen?, x7]
        have p1 : w13.cell? ⟨w.heap.size + 1, 1, none⟩ = some (.int .i64 0) := by simp [World.cell?, x7]
        have q1 : w13.frozen? ⟨w.heap.size + 1, 1, none⟩ = false := by simp [World.frozen?, x7]
        have p2 : w13.cell? ⟨w.heap.size + 1, 2, none⟩ = some (.slice none 0 0) := by simp [World.cell?, x7]
        have q2 : w13.frozen? ⟨w.heap.size + 1, 2, none⟩ = false := by simp [World.frozen?, x7]
        have p3 : w13.cell? ⟨w.heap.size + 1, 3, none⟩ = some (.slice none 0 0) := by simp [World.cell?, x7]
        have q3 : w13.frozen? ⟨w.heap.size + 1, 3, none⟩ = false := by simp [World.frozen?, x7]
        clear x7
        have hlo := LO.out HS13.out.low
        have HLO : Hid (Below w.heap.size w w13) := hlo
        clear hlo
        go_wp2
        (try simp only [Exit.inBlock, Exit.then])
        refine bodyPost_ret (by simp [results, Tryz.results8, go_sem, p0, p1, p2, p3]; try rfl) rfl ?_
        have hy := Y5.out.2
        rw [HST.out]
        exact ⟨⟨_, rfl, _, ((((HL13.out.set (b := w.heap.size + 1) (by omega) 0 _).set (b := w.heap.size + 1) (by omega) 1 _).set (b := w.heap.size + 1) (by omega) 2 _).set (b := w.heap.size + 1) (by omega) 3 _)⟩, (((HLO.out.setCell (p := ⟨w.heap.size + 1, 0, none⟩) (by simp) _).setCell (p := ⟨w.heap.size + 1, 1, none⟩) (by simp) _).setCell (p := ⟨w.heap.size + 1, 2, none⟩) (by simp) _).setCell (p := ⟨w.heap.size + 1, 3, none⟩) (by simp) _⟩
end
end Go.Proofs.YtenlapppaimkkabGreatDoor
