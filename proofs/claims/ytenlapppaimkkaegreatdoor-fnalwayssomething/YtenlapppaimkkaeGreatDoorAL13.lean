/- Texts joined: SpecPlan, ImplPlan, KnowM. -/
import Derived.Test.YtenlapppaimkkaeGreatDoorAL12
import Derived.Test.YtenlapppaimkkaeGreatDoorAL03
import Derived.Test.YtenlapppaimkkaeGreatDoorAL08
import Derived.Deep.RegionWith
import Derived.Test.YtenlapppaimkkaeGreatDoorAL07
/- spec.PlanOf of what is known: what comes at once; what a change makes. -/
namespace Go.Proofs.YtenlapppaimkkaeGreatDoor
open Go.ChangeShapes Go.WideShapes Go.ChangeAt Go.RowKit

/-- A store into another block leaves a list as it lay. -/
theorem int_far {w : World} {a : Option Addr} {n : Nat} {xs : List Int} (h : IntAt w a n xs) {p : Addr} (hp : ∀ q, a = some q → q.block ≠ p.block) (u : Value) : IntAt (w.setCell p u) a n xs := by
  obtain ⟨h1, h2, h3 | ⟨b, o, e, g⟩⟩ := h
  · exact ⟨h1, h2, .inl h3⟩
  · refine ⟨h1, h2, .inr ⟨b, o, e, fun i hi => ?_⟩⟩
    rw [World.cell?_setCell_other _ _ _ _ (fun e' => hp _ e (by rw [e']))]
    exact g i hi
theorem ent_far {w : World} {a : Option Addr} {n : Nat} {gs : List Int} (h : EntAt w a n gs) {p : Addr} (hp : ∀ q, a = some q → q.block ≠ p.block) (u : Value) : EntAt (w.setCell p u) a n gs := by
  obtain ⟨h1, h2, h3 | ⟨b, o, e, g⟩⟩ := h
  · exact ⟨h1, h2, .inl h3⟩
  · refine ⟨h1, h2, .inr ⟨b, o, e, fun i hi => ?_⟩⟩
    rw [World.cell?_setCell_other _ _ _ _ (fun e' => hp _ e (by rw [e']))]
    exact g i hi

set_option maxRecDepth 100000 in
set_option maxHeartbeats 8000000 in
theorem plan_now (pa : Option Addr) (m pc : Nat) (fs : List Int) (kind k v : Int) (w : World) (hP : PairAt w pa m fs) (hg : OpGood kind k v) (hn : nextM fs m kind k v = -1) (hz : 0 ≤ (nowR fs m kind k v).1) :
    Calls Tryz.prog 7 #[OpV kind k v, .slice pa m pc] w fun e w' => (∃ a c, e = .returned (.tuple #[.agg #[.bool true, .int .i64 (nowR fs m kind k v).1, .slice a (nowR fs m kind k v).2.length c, .slice none 0 0], .bool true]) ∧ IntAt w' a (nowR fs m kind k v).2.length (nowR fs m kind k v).2) ∧ Below w.heap.size w w' := by
  have HP : Hid (PairAt w pa m fs) := hP
  have HG : Hid (OpGood kind k v) := hg
  have HN : Hid (nextM fs m kind k v = -1) := hn
  have HZ : Hid (0 ≤ (nowR fs m kind k v).1) := hz
  clear hz
  clear hP hg hn
  obtain ⟨W1, hW1⟩ : ∃ W1, (w.alloc (.cells #[.int .i64 kind, .int .i64 k, .int .i64 v] 28)).alloc (.cells #[.bool false, .int .i64 0, .slice none 0 0, .slice none 0 0] 36) = W1 := ⟨_, rfl⟩
  have b1 : Below w.heap.size w W1 := by rw [← hW1]; exact ((Below.refl _ _).alloc (Nat.le_refl _) _).alloc (by simp) _
  have x0 : W1.heap[w.heap.size]? = some (.cells #[.int .i64 kind, .int .i64 k, .int .i64 v] 28 (0, 0)) := by rw [← hW1]; exact (Below.heap_alloc _ _ _ (by simp)).trans (by show (w.heap.push _)[w.heap.size]? = _; simp)
  have x1 : W1.heap[w.heap.size + 1]? = some (.cells #[.bool false, .int .i64 0, .slice none 0 0, .slice none 0 0] 36 (0, 0)) := by rw [← hW1]; show ((w.heap.push _).push _)[w.heap.size + 1]? = _; rw [Array.getElem?_push]; simp
  have HX : Hid (Below w.heap.size w W1 ∧ W1.heap[w.heap.size]? = some (.cells #[.int .i64 kind, .int .i64 k, .int .i64 v] 28 (0, 0)) ∧ W1.heap[w.heap.size + 1]? = some (.cells #[.bool false, .int .i64 0, .slice none 0 0, .slice none 0 0] 36 (0, 0)) ∧ w.heap.size + 1 < W1.heap.size) := ⟨b1, x0, x1, (Array.getElem?_eq_some_iff.1 x1).1⟩
  have CE : Hid (∀ {w' : World}, Below W1.heap.size W1 w' → (w'.cell? ⟨w.heap.size, 0, none⟩ = some (.int .i64 kind) ∧ w'.cell? ⟨w.heap.size, 1, none⟩ = some (.int .i64 k) ∧ w'.cell? ⟨w.heap.size, 2, none⟩ = some (.int .i64 v)) ∧ w'.heap[w.heap.size + 1]? = some (.cells #[.bool false, .int .i64 0, .slice none 0 0, .slice none 0 0] 36 (0, 0))) := fun hb => by
    have h0 := (hb.block _ (Nat.lt_of_succ_lt HX.out.2.2.2)).trans HX.out.2.1
    exact ⟨⟨by simp [World.cell?, h0], by simp [World.cell?, h0], by simp [World.cell?, h0]⟩, (hb.block _ HX.out.2.2.2).trans HX.out.2.2.1⟩
  clear b1 x0 x1
  obtain ⟨c0, c1, c2⟩ := (CE.out (Below.refl _ W1)).1
  go_enter Tryz.func7, Tryz.ntmps7
  go_wp2_with fail
  refine (specOpOk_any kind k v _).mono ?_
  rintro e w1 ⟨rfl, hb⟩
  rw [decide_eq_true HG.out]
  have B1 : Hid (Below W1.heap.size W1 w1) := (by first | exact hb | exact hW1 ▸ hb)
  clear hb c0 c1 c2
  obtain ⟨⟨c0, c1, c2⟩, _⟩ := CE.out B1.out
  have LO : Hid (∀ {w' : World}, Below W1.heap.size W1 w' → Below w.heap.size w w') := fun hb => HX.out.1.trans (hb.mono (Nat.le_of_lt (Nat.lt_of_succ_lt HX.out.2.2.2)))
  go_wp2_with fail
  refine (specNext_any pa m pc kind k v fs _ (HP.out.below (LO.out B1.out) (Nat.le_refl _))).mono ?_
  rintro e w2 ⟨rfl, hb⟩
  rw [HN.out]
  have B2 : Hid (Below W1.heap.size W1 w2) := B1.out.trans (hb.mono B1.out.size)
  clear hb c0 c1 c2
  obtain ⟨⟨c0, c1, c2⟩, _⟩ := CE.out B2.out
  go_wp2_with fail
  refine (l5Now_any pa m pc fs kind k v _ (HP.out.below (LO.out B2.out) (Nat.le_refl _)) HG.out.1).mono ?_
  rintro e w3 ⟨⟨a, c, rfl, hI, hfr⟩, hb⟩
  rw [decide_eq_true HZ.out]
  have B3 : Hid (Below W1.heap.size W1 w3) := B2.out.trans (hb.mono B2.out.size)
  obtain ⟨⟨code, lst⟩, hR⟩ : ∃ R, nowR fs m kind k v = R := ⟨_, rfl⟩
  have HR : Hid (nowR fs m kind k v = (code, lst)) := hR
  rw [hR] at hI
  rw [hR]
  dsimp only at hI ⊢
  have HI : Hid (IntAt w3 a lst.length lst ∧ ∀ q, a = some q → w.heap.size + 1 < q.block) := ⟨hI, fun q e => by have h1 := hfr q e; have h2 := HX.out.2.2.2; have h3 := B2.out.size; omega⟩
  clear hb c0 c1 c2 hI hR hfr
  obtain ⟨W4, hW4⟩ : ∃ W4, w3.alloc (.cells #[.bool true, .int .i64 code, .slice a lst.length c, .slice none 0 0] 36) = W4 := ⟨_, rfl⟩
  have hb4 : Below w3.heap.size w3 W4 := by rw [← hW4]; exact (Below.refl _ _).alloc (Nat.le_refl _) _
  have y4 : W4.heap[w3.heap.size]? = some (.cells #[.bool true, .int .i64 code, .slice a lst.length c, .slice none 0 0] 36 (0, 0)) := by rw [← hW4]; show (w3.heap.push _)[w3.heap.size]? = _; simp
  have B4 : Hid (Below W1.heap.size W1 W4) := B3.out.trans (hb4.mono B3.out.size)
  have HI4 : Hid (IntAt W4 a lst.length lst) := HI.out.1.below hb4 (Nat.le_refl _)
  clear hb4
  obtain ⟨⟨c0, c1, c2⟩, x3⟩ := CE.out B4.out
  have s0 : W4.cell? ⟨w3.heap.size, 0, none⟩ = some (.bool true) := by simp [World.cell?, y4]
  have s1 : W4.cell? ⟨w3.heap.size, 1, none⟩ = some (.int .i64 code) := by simp [World.cell?, y4]
  have s2 : W4.cell? ⟨w3.heap.size, 2, none⟩ = some (.slice a lst.length c) := by simp [World.cell?, y4]
  have s3 : W4.cell? ⟨w3.heap.size, 3, none⟩ = some (.slice none 0 0) := by simp [World.cell?, y4]
  have p0 : W4.cell? ⟨w.heap.size + 1, 0, none⟩ = some (.bool false) := by simp [World.cell?, x3]
  have p1 : W4.cell? ⟨w.heap.size + 1, 1, none⟩ = some (.int .i64 0) := by simp [World.cell?, x3]
  have p2 : W4.cell? ⟨w.heap.size + 1, 2, none⟩ = some (.slice none 0 0) := by simp [World.cell?, x3]
  have p3 : W4.cell? ⟨w.heap.size + 1, 3, none⟩ = some (.slice none 0 0) := by simp [World.cell?, x3]
  have q0 : W4.frozen? ⟨w.heap.size + 1, 0, none⟩ = false := by simp [World.frozen?, x3]
  have q1 : W4.frozen? ⟨w.heap.size + 1, 1, none⟩ = false := by simp [World.frozen?, x3]
  have q2 : W4.frozen? ⟨w.heap.size + 1, 2, none⟩ = false := by simp [World.frozen?, x3]
  have q3 : W4.frozen? ⟨w.heap.size + 1, 3, none⟩ = false := by simp [World.frozen?, x3]
  clear x3 y4
  have hlo := LO.out B4.out
  have HLO : Hid (Below w.heap.size w W4) := hlo
  clear hlo
  subst hW4
  go_wp2
  (try simp only [Exit.inBlock, Exit.then])
  refine bodyPost_ret (by simp [results, Tryz.results7, go_sem, p0, p1, p2, p3]; try rfl) rfl ?_
  have hlo := HLO.out
  rw [HR.out]
  refine ⟨⟨a, c, rfl, ?_⟩, (((hlo.setCell (p := ⟨w.heap.size + 1, 0, none⟩) (by simp) _).setCell (p := ⟨w.heap.size + 1, 1, none⟩) (by simp) _).setCell (p := ⟨w.heap.size + 1, 2, none⟩) (by simp) _).setCell (p := ⟨w.heap.size + 1, 3, none⟩) (by simp) _⟩
  exact int_far (int_far (int_far (int_far HI4.out (fun q e => by have h1 := HI.out.2 q e; simp; omega) _) (fun q e => by have h1 := HI.out.2 q e; simp; omega) _) (fun q e => by have h1 := HI.out.2 q e; simp; omega) _) (fun q e => by have h1 := HI.out.2 q e; simp; omega) _
set_option maxRecDepth 100000 in
set_option maxHeartbeats 8000000 in
theorem plan_change (pa : Option Addr) (m pc : Nat) (fs : List Int) (kind k v : Int) (w : World) (hP : PairAt w pa m fs) (hg : OpGood kind k v) (hn : nextM fs m kind k v = -1) (hz : (nowR fs m kind k v).1 = -1 ∧ kind ≤ 3) :
    Calls Tryz.prog 7 #[OpV kind k v, .slice pa m pc] w fun e w' => (∃ v', e = .returned (.tuple #[.agg #[.bool false, .int .i64 0, .slice none 0 0, v'], .bool true]) ∧ ListE (w.heap.size + 1 + 1) w' v' (changeL fs m kind k v)) ∧ Below w.heap.size w w' := by
  have HP : Hid (PairAt w pa m fs) := hP
  have HG : Hid (OpGood kind k v) := hg
  have HN : Hid (nextM fs m kind k v = -1) := hn
  have HZ : Hid ((nowR fs m kind k v).1 = -1 ∧ kind ≤ 3) := hz
  clear hz
  clear hP hg hn
  obtain ⟨W1, hW1⟩ : ∃ W1, (w.alloc (.cells #[.int .i64 kind, .int .i64 k, .int .i64 v] 28)).alloc (.cells #[.bool false, .int .i64 0, .slice none 0 0, .slice none 0 0] 36) = W1 := ⟨_, rfl⟩
  have b1 : Below w.heap.size w W1 := by rw [← hW1]; exact ((Below.refl _ _).alloc (Nat.le_refl _) _).alloc (by simp) _
  have x0 : W1.heap[w.heap.size]? = some (.cells #[.int .i64 kind, .int .i64 k, .int .i64 v] 28 (0, 0)) := by rw [← hW1]; exact (Below.heap_alloc _ _ _ (by simp)).trans (by show (w.heap.push _)[w.heap.size]? = _; simp)
  have x1 : W1.heap[w.heap.size + 1]? = some (.cells #[.bool false, .int .i64 0, .slice none 0 0, .slice none 0 0] 36 (0, 0)) := by rw [← hW1]; show ((w.heap.push _).push _)[w.heap.size + 1]? = _; rw [Array.getElem?_push]; simp
  have HX : Hid (Below w.heap.size w W1 ∧ W1.heap[w.heap.size]? = some (.cells #[.int .i64 kind, .int .i64 k, .int .i64 v] 28 (0, 0)) ∧ W1.heap[w.heap.size + 1]? = some (.cells #[.bool false, .int .i64 0, .slice none 0 0, .slice none 0 0] 36 (0, 0)) ∧ w.heap.size + 1 < W1.heap.size) := ⟨b1, x0, x1, (Array.getElem?_eq_some_iff.1 x1).1⟩
  have CE : Hid (∀ {w' : World}, Below W1.heap.size W1 w' → (w'.cell? ⟨w.heap.size, 0, none⟩ = some (.int .i64 kind) ∧ w'.cell? ⟨w.heap.size, 1, none⟩ = some (.int .i64 k) ∧ w'.cell? ⟨w.heap.size, 2, none⟩ = some (.int .i64 v)) ∧ w'.heap[w.heap.size + 1]? = some (.cells #[.bool false, .int .i64 0, .slice none 0 0, .slice none 0 0] 36 (0, 0))) := fun hb => by
    have h0 := (hb.block _ (Nat.lt_of_succ_lt HX.out.2.2.2)).trans HX.out.2.1
    exact ⟨⟨by simp [World.cell?, h0], by simp [World.cell?, h0], by simp [World.cell?, h0]⟩, (hb.block _ HX.out.2.2.2).trans HX.out.2.2.1⟩
  clear b1 x0 x1
  obtain ⟨c0, c1, c2⟩ := (CE.out (Below.refl _ W1)).1
  go_enter Tryz.func7, Tryz.ntmps7
  go_wp2_with fail
  refine (specOpOk_any kind k v _).mono ?_
  rintro e w1 ⟨rfl, hb⟩
  rw [decide_eq_true HG.out]
  have B1 : Hid (Below W1.heap.size W1 w1) := (by first | exact hb | exact hW1 ▸ hb)
  clear hb c0 c1 c2
  obtain ⟨⟨c0, c1, c2⟩, _⟩ := CE.out B1.out
  have LO : Hid (∀ {w' : World}, Below W1.heap.size W1 w' → Below w.heap.size w w') := fun hb => HX.out.1.trans (hb.mono (Nat.le_of_lt (Nat.lt_of_succ_lt HX.out.2.2.2)))
  go_wp2_with fail
  refine (specNext_any pa m pc kind k v fs _ (HP.out.below (LO.out B1.out) (Nat.le_refl _))).mono ?_
  rintro e w2 ⟨rfl, hb⟩
  rw [HN.out]
  have B2 : Hid (Below W1.heap.size W1 w2) := B1.out.trans (hb.mono B1.out.size)
  clear hb c0 c1 c2
  obtain ⟨⟨c0, c1, c2⟩, _⟩ := CE.out B2.out
  go_wp2_with fail
  refine (l5Now_any pa m pc fs kind k v _ (HP.out.below (LO.out B2.out) (Nat.le_refl _)) HG.out.1).mono ?_
  rintro e w3 ⟨⟨a, c, rfl, hI, hfr⟩, hb⟩
  rw [show decide (0 ≤ (nowR fs m kind k v).1) = false by rw [HZ.out.1]; rfl]
  have B3 : Hid (Below W1.heap.size W1 w3) := B2.out.trans (hb.mono B2.out.size)
  obtain ⟨⟨code, lst⟩, hR⟩ : ∃ R, nowR fs m kind k v = R := ⟨_, rfl⟩
  have HR : Hid (nowR fs m kind k v = (code, lst)) := hR
  rw [hR] at hI
  rw [hR]
  dsimp only at hI ⊢
  have HI : Hid (IntAt w3 a lst.length lst ∧ ∀ q, a = some q → w.heap.size + 1 < q.block) := ⟨hI, fun q e => by have h1 := hfr q e; have h2 := HX.out.2.2.2; have h3 := B2.out.size; omega⟩
  clear hb c0 c1 c2 hI hR hfr
  obtain ⟨W4, hW4⟩ : ∃ W4, w3.alloc (.cells #[.bool true, .int .i64 code, .slice a lst.length c, .slice none 0 0] 36) = W4 := ⟨_, rfl⟩
  have hb4 : Below w3.heap.size w3 W4 := by rw [← hW4]; exact (Below.refl _ _).alloc (Nat.le_refl _) _
  have y4 : W4.heap[w3.heap.size]? = some (.cells #[.bool true, .int .i64 code, .slice a lst.length c, .slice none 0 0] 36 (0, 0)) := by rw [← hW4]; show (w3.heap.push _)[w3.heap.size]? = _; simp
  have B4 : Hid (Below W1.heap.size W1 W4) := B3.out.trans (hb4.mono B3.out.size)
  have HI4 : Hid (IntAt W4 a lst.length lst) := HI.out.1.below hb4 (Nat.le_refl _)
  clear hb4
  obtain ⟨⟨c0, c1, c2⟩, x3⟩ := CE.out B4.out
  have s0 : W4.cell? ⟨w3.heap.size, 0, none⟩ = some (.bool true) := by simp [World.cell?, y4]
  have s1 : W4.cell? ⟨w3.heap.size, 1, none⟩ = some (.int .i64 code) := by simp [World.cell?, y4]
  have s2 : W4.cell? ⟨w3.heap.size, 2, none⟩ = some (.slice a lst.length c) := by simp [World.cell?, y4]
  have s3 : W4.cell? ⟨w3.heap.size, 3, none⟩ = some (.slice none 0 0) := by simp [World.cell?, y4]
  have p0 : W4.cell? ⟨w.heap.size + 1, 0, none⟩ = some (.bool false) := by simp [World.cell?, x3]
  have p1 : W4.cell? ⟨w.heap.size + 1, 1, none⟩ = some (.int .i64 0) := by simp [World.cell?, x3]
  have p2 : W4.cell? ⟨w.heap.size + 1, 2, none⟩ = some (.slice none 0 0) := by simp [World.cell?, x3]
  have p3 : W4.cell? ⟨w.heap.size + 1, 3, none⟩ = some (.slice none 0 0) := by simp [World.cell?, x3]
  have q0 : W4.frozen? ⟨w.heap.size + 1, 0, none⟩ = false := by simp [World.frozen?, x3]
  have q1 : W4.frozen? ⟨w.heap.size + 1, 1, none⟩ = false := by simp [World.frozen?, x3]
  have q2 : W4.frozen? ⟨w.heap.size + 1, 2, none⟩ = false := by simp [World.frozen?, x3]
  have q3 : W4.frozen? ⟨w.heap.size + 1, 3, none⟩ = false := by simp [World.frozen?, x3]
  clear x3 y4
  have hlo := LO.out B4.out
  have HLO : Hid (Below w.heap.size w W4) := hlo
  clear hlo
  subst hW4
  obtain ⟨W5, hW5⟩ : ∃ W5, (w3.alloc (.cells #[.bool true, .int .i64 code, .slice a lst.length c, .slice none 0 0] 36)).alloc (.cells #[.bool false, .int .i64 0, .slice none 0 0, .slice none 0 0] 36) = W5 := ⟨_, rfl⟩
  have hb5 : Below (w3.alloc (.cells #[.bool true, .int .i64 code, .slice a lst.length c, .slice none 0 0] 36)).heap.size (w3.alloc (.cells #[.bool true, .int .i64 code, .slice a lst.length c, .slice none 0 0] 36)) W5 := by rw [← hW5]; exact (Below.refl _ _).alloc (Nat.le_refl _) _
  have y5 : W5.heap[w3.heap.size + 1]? = some (.cells #[.bool false, .int .i64 0, .slice none 0 0, .slice none 0 0] 36 (0, 0)) := by rw [← hW5]; show ((w3.heap.push _).push _)[w3.heap.size + 1]? = _; rw [Array.getElem?_push]; simp
  have B5 : Hid (Below W1.heap.size W1 W5) := B4.out.trans (hb5.mono B4.out.size)
  have Y5 : Hid (W5.heap[w3.heap.size + 1]? = some (.cells #[.bool false, .int .i64 0, .slice none 0 0, .slice none 0 0] 36 (0, 0)) ∧ w.heap.size + 1 < w3.heap.size + 1) := ⟨y5, by have h1 := HX.out.2.2.2; have h2 := B3.out.size; omega⟩
  clear hb5 y5 s0 s1 s2 s3 p0 p1 p2 p3 q0 q1 q2 q3 c0 c1 c2
  obtain ⟨⟨c0, c1, c2⟩, _⟩ := CE.out B5.out
  subst hW5
  go_wp2_with fail
  refine (specStateAt_any _).mono ?_
  rintro e wp ⟨rfl, hwp⟩
  rw [hwp]
  clear hwp
  go_wp2_with fail
  refine (specRead_any pa m pc 13 fs _ (HP.out.below (LO.out B5.out) (Nat.le_refl _))).mono ?_
  rintro e w6 ⟨rfl, hb⟩
  have hb' := hb
  have B6 : Hid (Below W1.heap.size W1 w6) := B5.out.trans (hb'.mono B5.out.size)
  have Y6 : Hid (w6.heap[w3.heap.size + 1]? = some (.cells #[.bool false, .int .i64 0, .slice none 0 0, .slice none 0 0] 36 (0, 0))) := (hb'.block _ (Array.getElem?_eq_some_iff.1 Y5.out.1).1).trans Y5.out.1
  clear hb hb' c0 c1 c2
  obtain ⟨⟨st, sb⟩, hst⟩ : ∃ x, readF fs 13 m = x := ⟨_, rfl⟩
  rw [hst]
  clear hst
  obtain ⟨⟨c0, c1, c2⟩, _⟩ := CE.out B6.out
  have k7 : (kind == 7) = false := by have := HZ.out.2; simp; omega
  have k8 : (kind == 8) = false := by have := HZ.out.2; simp; omega
  have k9 : (kind == 9) = false := by have := HZ.out.2; simp; omega
  have k10 : (kind == 10) = false := by have := HZ.out.2; simp; omega
  go_wp2_with fail
  refine (l5Change_any pa m pc fs kind k v _ (HP.out.below (LO.out B6.out) (Nat.le_refl _)) (by have h1 := HG.out; have h2 := HZ.out.2; unfold OpGood KeyGood at h1; omega)).mono ?_
  rintro e w7 ⟨v7, rfl, hL, hb⟩
  obtain ⟨a7, c7, rfl, g1, g2, g3, g4⟩ := hL
  obtain ⟨⟨es, en⟩, hes⟩ : ∃ x, changeL fs m kind k v = x := ⟨_, rfl⟩
  have HES : Hid (changeL fs m kind k v = (es, en)) := hes
  rw [hes] at g1 g3
  rw [hes]
  dsimp only at g1 g3 ⊢
  have B7 : Hid (Below W1.heap.size W1 w7) := B6.out.trans (hb.mono B6.out.size)
  have Y7 : Hid (w7.heap[w3.heap.size + 1]? = some (.cells #[.bool false, .int .i64 0, .slice none 0 0, .slice none 0 0] 36 (0, 0))) := (hb.block _ (Array.getElem?_eq_some_iff.1 Y6.out).1).trans Y6.out
  have G7 : Hid (EntAt w7 a7 en es ∧ (a7 = none → c7 = 0) ∧ en ≤ c7 ∧ ∀ q, a7 = some q → w.heap.size + 1 < q.block ∧ q.block ≠ w3.heap.size + 1) := ⟨g1, g2, g3, fun q e => by have h1 := g4 q e; have h2 := (Array.getElem?_eq_some_iff.1 Y6.out).1; have h3 := Y5.out.2; omega⟩
  clear hb c0 c1 c2 g1 g2 g3 g4 hes k7 k8 k9 k10
  have y7 := Y7.out
  have x7 := (CE.out B7.out).2
  have t0 : w7.cell? ⟨w3.heap.size + 1, 0, none⟩ = some (.bool false) := by simp [World.cell?, y7]
  have t1 : w7.cell? ⟨w3.heap.size + 1, 1, none⟩ = some (.int .i64 0) := by simp [World.cell?, y7]
  have t2 : w7.cell? ⟨w3.heap.size + 1, 2, none⟩ = some (.slice none 0 0) := by simp [World.cell?, y7]
  have t3 : w7.cell? ⟨w3.heap.size + 1, 3, none⟩ = some (.slice none 0 0) := by simp [World.cell?, y7]
  have u3 : w7.frozen? ⟨w3.heap.size + 1, 3, none⟩ = false := by simp [World.frozen?, y7]
  have p0 : w7.cell? ⟨w.heap.size + 1, 0, none⟩ = some (.bool false) := by simp [World.cell?, x7]
  have p1 : w7.cell? ⟨w.heap.size + 1, 1, none⟩ = some (.int .i64 0) := by simp [World.cell?, x7]
  have p2 : w7.cell? ⟨w.heap.size + 1, 2, none⟩ = some (.slice none 0 0) := by simp [World.cell?, x7]
  have p3 : w7.cell? ⟨w.heap.size + 1, 3, none⟩ = some (.slice none 0 0) := by simp [World.cell?, x7]
  have q0 : w7.frozen? ⟨w.heap.size + 1, 0, none⟩ = false := by simp [World.frozen?, x7]
  have q1 : w7.frozen? ⟨w.heap.size + 1, 1, none⟩ = false := by simp [World.frozen?, x7]
  have q2 : w7.frozen? ⟨w.heap.size + 1, 2, none⟩ = false := by simp [World.frozen?, x7]
  have q3 : w7.frozen? ⟨w.heap.size + 1, 3, none⟩ = false := by simp [World.frozen?, x7]
  have hne : w.heap.size + 1 ≠ w3.heap.size + 1 := by have := Y5.out.2; omega
  have hne' : w3.heap.size ≠ w.heap.size := by have := Y5.out.2; omega
  clear y7 x7
  go_wp2
  (try simp only [Exit.inBlock, Exit.then])
  refine bodyPost_ret (by simp [results, Tryz.results7, go_sem, p0, p1, p2, p3]; try rfl) rfl ?_
  have hlo := LO.out B7.out
  have hy := Y5.out.2
  rw [HES.out]
  refine ⟨⟨_, rfl, a7, c7, rfl, ?_, G7.out.2.1, G7.out.2.2.1, fun q e => by have h1 := (G7.out.2.2.2 q e).1; omega⟩, ((((hlo.setCell (p := ⟨w3.heap.size + 1, 3, none⟩) (by simp; omega) _).setCell (p := ⟨w.heap.size + 1, 0, none⟩) (by simp) _).setCell (p := ⟨w.heap.size + 1, 1, none⟩) (by simp) _).setCell (p := ⟨w.heap.size + 1, 2, none⟩) (by simp) _).setCell (p := ⟨w.heap.size + 1, 3, none⟩) (by simp) _⟩
  have far : ∀ q, a7 = some q → q.block ≠ w.heap.size + 1 := fun q e => by have h1 := (G7.out.2.2.2 q e).1; omega
  exact ent_far (ent_far (ent_far (ent_far (ent_far G7.out.1 (p := ⟨w3.heap.size + 1, 3, none⟩) (fun q e => (G7.out.2.2.2 q e).2) _) (p := ⟨w.heap.size + 1, 0, none⟩) far _) (p := ⟨w.heap.size + 1, 1, none⟩) far _) (p := ⟨w.heap.size + 1, 2, none⟩) far _) (p := ⟨w.heap.size + 1, 3, none⟩) far _
end Go.Proofs.YtenlapppaimkkaeGreatDoor

/- The program's PlanOf: what comes at once, or what comes of it and the words that were read. -/
namespace Go.Proofs.YtenlapppaimkkaeGreatDoor
open Go.ChangeShapes Go.WideShapes Go.ChangeAt Go.RowKit

/-- The words of an op that were read. -/
def gotL (fs : List Int) (n : Nat) (kind k v : Int) : List Ent := (wordsT true (stepsT true fs n kind k v)).filter (goR fs n)
theorem implNow_any (a : Option Addr) (n c : Nat) (kind k v : Int) (fs : List Int) (w : World) (hB : Base w a n fs) (hg : OpGood kind k v) :
    Calls Tryz.prog 20 #[.iface (deedT kind) (OpV kind k v), .slice a n c] w fun e w' => ComNew e w w' (nowL fs n kind k v) ∧ Below w.heap.size w w' := by
  rcases kinds hg.1 with rfl | rfl | rfl | rfl | rfl | rfl | rfl | rfl | rfl | rfl
  · exact implNow_1 a n c k v fs w hB
  · exact implNow_2 a n c k v fs w hB
  · exact implNow_3 a n c k v fs w hB
  · exact implNow_4 a n c k v fs w hB
  · exact implNow_5 a n c k v fs w hB
  · exact implNow_6 a n c k v fs w hB
  · exact implNow_7 a n c k v fs w hB
  · exact implNow_8 a n c k v fs w hB
  · by_cases h : rd fs n 13 = 0
    · exact implNow_9a a n c k v fs w hB h
    · exact implNow_9b a n c k v fs w hB h
  · exact implNow_10 a n c k v fs w hB
theorem now_some (fs : List Int) (n : Nat) (kind k v : Int) (h : kind = 4 ∨ kind = 5 ∨ kind = 6) : nowL fs n kind k v ≠ [] := by
  rcases h with rfl | rfl | rfl
  · rw [nowL_4]; simp
  · rw [nowL_5]; simp
  · rw [nowL_6]; simp
theorem implThen_any (a : Option Addr) (n c : Nat) (kind k v : Int) (fs : List Int) (w : World) (hB : Base w a n fs) (hg : OpGood kind k v) (hn : nowL fs n kind k v = []) :
    Calls Tryz.prog 21 #[.iface (deedT kind) (OpV kind k v), .slice a n c] w fun e w' => ComNew e w w' (thenL fs n kind v) ∧ Below w.heap.size w w' := by
  rcases kinds hg.1 with rfl | rfl | rfl | rfl | rfl | rfl | rfl | rfl | rfl | rfl
  · exact implThen_1 a n c k v fs w hB
  · exact implThen_2 a n c k v fs w hB
  · exact implThen_3 a n c k v fs w hB
  · exact absurd hn (now_some fs n 4 k v (by omega))
  · exact absurd hn (now_some fs n 5 k v (by omega))
  · exact absurd hn (now_some fs n 6 k v (by omega))
  · exact implThen_7 a n c k v fs w hB
  · exact implThen_8 a n c k v fs w hB
  · exact implThen_9 a n c k v fs w hB
  · exact implThen_10 a n c k v fs w hB
/-- The first of what may come, as it lies there. -/
theorem com_first {e : Ending} {w w' : World} {x : Int × List Int} {LL : List (Int × List Int)} (h : ComNew e w w' (x :: LL)) :
    ∃ g l cap a m c, e = .returned (.slice (some ⟨g, 0, none⟩) (l + 1) cap) ∧ w.heap.size ≤ g ∧ w'.cell? ⟨g, 0, none⟩ = some (.int .i64 x.1) ∧ w'.cell? ⟨g, 1, none⟩ = some (.slice a m c) ∧ IntAt w' a m x.2 ∧ ∀ q, a = some q → w.heap.size ≤ q.block := by
  obtain ⟨v, L, rfl, hc, ht, hnw⟩ := h
  match L, ht with
  | r :: L', ht =>
    obtain ⟨⟨h1, a, m, c, h2, h3⟩, _⟩ := ht
    rcases hc.2 with ⟨_, h⟩ | ⟨g, cap, cur, rfl, hb, _⟩
    · simp at h
    · have e0 := hc.cellAt 0 (by simp)
      have e1 := hc.cellAt 1 (by simp only [List.length_cons]; omega)
      refine ⟨g, L'.length, cap, a, m, c, rfl, hb, ?_, ?_, h3, fun q e => hnw r (List.mem_cons_self ..) q m c (by rw [h2, e])⟩
      · rw [e0]; simp [cellsC, h1]
      · rw [e1]; simp [cellsC, h2]
theorem com_none {e : Ending} {w w' : World} (h : ComNew e w w' []) : ∃ v, e = .returned v ∧ (v = .slice none 0 0 ∨ ∃ g cap, v = .slice (some ⟨g, 0, none⟩) 0 cap) := by
  obtain ⟨v, L, rfl, hc, ht, _⟩ := h
  match L, ht with
  | [], _ =>
    rcases hc.2 with ⟨rfl, _⟩ | ⟨g, cap, cur, rfl, _⟩
    · exact ⟨_, rfl, .inl rfl⟩
    · exact ⟨_, rfl, .inr ⟨g, cap, rfl⟩⟩
/-- A plan, as it lies there. -/
def PlanSays (e : Ending) (w' : World) (nw : Bool) (x : Int × List Int) (E : List Ent) : Prop :=
  ∃ a m c b d, e = .returned (.tuple #[.agg #[.bool nw, .int .i64 x.1, .slice a m c, .slice b E.length d], .bool true]) ∧ IntAt w' a m x.2 ∧ EntAt w' b E.length (flatE E)

set_option maxRecDepth 100000 in
set_option maxHeartbeats 4000000 in
theorem implPlan_now (a : Option Addr) (n c : Nat) (kind k v : Int) (fs : List Int) (w : World) (hB : Base w a n fs) (hx : ∀ x ∈ fs, (Lit.int .i64 x).wf = true) (hg : OpGood kind k v) (hn : nextM fs n kind k v = -1) (x : Int × List Int) (LL : List (Int × List Int)) (hN : nowL fs n kind k v = x :: LL) :
    Calls Tryz.prog 6 #[OpV kind k v, .slice a n c] w fun e w' => PlanSays e w' true x [] ∧ Below w.heap.size w w' := by
  have HB : Hid (Base w a n fs ∧ (∀ x ∈ fs, (Lit.int .i64 x).wf = true) ∧ OpGood kind k v ∧ nextM fs n kind k v = -1 ∧ nowL fs n kind k v = x :: LL) := ⟨hB, hx, hg, hn, hN⟩
  clear hB hx hg hn hN
  obtain ⟨W1, hW1⟩ : ∃ W1, (w.alloc (.cells #[.int .i64 kind, .int .i64 k, .int .i64 v] 28)).alloc (.cells #[.bool false, .int .i64 0, .slice none 0 0, .slice none 0 0] 36) = W1 := ⟨_, rfl⟩
  have b1 : Below w.heap.size w W1 := by rw [← hW1]; exact ((Below.refl _ _).alloc (Nat.le_refl _) _).alloc (by simp) _
  have x0 : W1.heap[w.heap.size]? = some (.cells #[.int .i64 kind, .int .i64 k, .int .i64 v] 28 (0, 0)) := by rw [← hW1]; exact (Below.heap_alloc _ _ _ (by simp)).trans (World.alloc_heap_new w _)
  have x1 : W1.heap[w.heap.size + 1]? = some (.cells #[.bool false, .int .i64 0, .slice none 0 0, .slice none 0 0] 36 (0, 0)) := by rw [← hW1]; show ((w.heap.push _).push _)[w.heap.size + 1]? = _; rw [Array.getElem?_push]; simp
  have z1 : w.heap.size + 1 < W1.heap.size := (Array.getElem?_eq_some_iff.1 x1).1
  have CE : Hid (∀ {w' : World}, Below W1.heap.size W1 w' → (w'.cell? ⟨w.heap.size, 0, none⟩ = some (.int .i64 kind) ∧ w'.cell? ⟨w.heap.size, 1, none⟩ = some (.int .i64 k) ∧ w'.cell? ⟨w.heap.size, 2, none⟩ = some (.int .i64 v)) ∧ w'.heap[w.heap.size + 1]? = some (.cells #[.bool false, .int .i64 0, .slice none 0 0, .slice none 0 0] 36 (0, 0)) ∧ Below w.heap.size w w') := fun hb => by
    have h0 := (hb.block _ (Nat.lt_of_succ_lt z1)).trans x0
    exact ⟨⟨by simp [World.cell?, h0], by simp [World.cell?, h0], by simp [World.cell?, h0]⟩, (hb.block _ z1).trans x1, b1.trans (hb.mono (Nat.le_of_lt (Nat.lt_of_succ_lt z1)))⟩
  have Z1 : Hid (w.heap.size + 1 < W1.heap.size) := z1
  clear b1 x0 x1 z1
  obtain ⟨⟨c0, c1, c2⟩, _⟩ := CE.out (Below.refl _ W1)
  go_enter Tryz.func6, Tryz.ntmps6
  go_wp2_with fail
  refine (implOpOk_any kind k v _).mono ?_
  rintro e w1 ⟨rfl, hb⟩
  rw [decide_eq_true HB.out.2.2.1]
  have B1 : Hid (Below W1.heap.size W1 w1) := (by first | exact hb | exact hW1 ▸ hb)
  clear hb c0 c1 c2
  obtain ⟨⟨c0, c1, c2⟩, _, lo⟩ := CE.out B1.out
  have LO1 : Hid (Below w.heap.size w w1) := lo
  clear lo
  go_wp2_with fail
  refine (implNext_cap a n c kind k v fs _ (HB.out.1.on LO1.out).names (HB.out.1.on LO1.out).pairs HB.out.2.1).mono ?_
  rintro e w2 ⟨rfl, hb⟩
  rw [HB.out.2.2.2.1]
  have B2 : Hid (Below W1.heap.size W1 w2) := B1.out.trans (hb.mono B1.out.size)
  clear hb c0 c1 c2
  obtain ⟨⟨c0, c1, c2⟩, _⟩ := CE.out B2.out
  go_wp2_with fail
  refine (implDeedOf_any kind k v _).mono ?_
  rintro e w3 ⟨rfl, hb⟩
  have B3 : Hid (Below W1.heap.size W1 w3) := B2.out.trans (hb.mono B2.out.size)
  clear hb c0 c1 c2
  have LO3 : Hid (Below w.heap.size w w3) := (CE.out B3.out).2.2
  go_wp2_with fail
  refine (implNow_any a n c kind k v fs _ (HB.out.1.on LO3.out) HB.out.2.2.1).mono ?_
  rintro e w4 ⟨hc, hb⟩
  rw [HB.out.2.2.2.2] at hc
  obtain ⟨g, l, cap, a', m', c', rfl, hg, d0, d1, hI, hfr⟩ := com_first hc
  have B4 : Hid (Below W1.heap.size W1 w4) := B3.out.trans (hb.mono B3.out.size)
  have HI : Hid (IntAt w4 a' m' x.2 ∧ (∀ q, a' = some q → q.block ≠ w.heap.size + 1)) := ⟨hI, fun q e => by have h1 := Z1.out; have h2 := B3.out.size; have h3 := hfr q e; omega⟩
  have hl : (0 : Int) < ((l + 1 : Nat) : Int) := by omega
  have hgne : g ≠ w.heap.size + 1 := by have h1 := Z1.out; have h2 := B3.out.size; omega
  obtain ⟨_, x4, lo⟩ := CE.out B4.out
  have LO4 : Hid (Below w.heap.size w w4) := lo
  have p0 : w4.cell? ⟨w.heap.size + 1, 0, none⟩ = some (.bool false) := by simp [World.cell?, x4]
  have p1 : w4.cell? ⟨w.heap.size + 1, 1, none⟩ = some (.int .i64 0) := by simp [World.cell?, x4]
  have p2 : w4.cell? ⟨w.heap.size + 1, 2, none⟩ = some (.slice none 0 0) := by simp [World.cell?, x4]
  have p3 : w4.cell? ⟨w.heap.size + 1, 3, none⟩ = some (.slice none 0 0) := by simp [World.cell?, x4]
  have q0 : w4.frozen? ⟨w.heap.size + 1, 0, none⟩ = false := by simp [World.frozen?, x4]
  have q1 : w4.frozen? ⟨w.heap.size + 1, 1, none⟩ = false := by simp [World.frozen?, x4]
  have q2 : w4.frozen? ⟨w.heap.size + 1, 2, none⟩ = false := by simp [World.frozen?, x4]
  have q3 : w4.frozen? ⟨w.heap.size + 1, 3, none⟩ = false := by simp [World.frozen?, x4]
  clear hb hc x4 lo hI hg hfr
  go_wp2
  (try simp only [Exit.inBlock, Exit.then])
  refine bodyPost_ret (by simp [results, Tryz.results6, go_sem, p0, p1, p2, p3]; try rfl) rfl ?_
  refine ⟨⟨a', m', c', none, 0, rfl, int_far (int_far (int_far (int_far HI.out.1 (p := ⟨w.heap.size + 1, 0, none⟩) HI.out.2 _) (p := ⟨w.heap.size + 1, 1, none⟩) HI.out.2 _) (p := ⟨w.heap.size + 1, 2, none⟩) HI.out.2 _) (p := ⟨w.heap.size + 1, 3, none⟩) HI.out.2 _, ⟨rfl, by simp, .inl ⟨rfl, rfl⟩⟩⟩, ?_⟩
  exact (((LO4.out.setCell (p := ⟨w.heap.size + 1, 0, none⟩) (by simp) _).setCell (p := ⟨w.heap.size + 1, 1, none⟩) (by simp) _).setCell (p := ⟨w.heap.size + 1, 2, none⟩) (by simp) _).setCell (p := ⟨w.heap.size + 1, 3, none⟩) (by simp) _

set_option maxRecDepth 100000 in
set_option maxHeartbeats 4000000 in
theorem implPlan_then (a : Option Addr) (n c : Nat) (kind k v : Int) (fs : List Int) (w : World) (hB : Base w a n fs) (hx : ∀ x ∈ fs, (Lit.int .i64 x).wf = true) (hg : OpGood kind k v) (hn : nextM fs n kind k v = -1) (hN : nowL fs n kind k v = []) (x : Int × List Int) (LL : List (Int × List Int)) (hT : thenL fs n kind v = x :: LL) (h0 : 0 < (gotL fs n kind k v).length) (h12 : (gotL fs n kind k v).length ≤ 12) :
    Calls Tryz.prog 6 #[OpV kind k v, .slice a n c] w fun e w' => PlanSays e w' false x (sortL (gotL fs n kind k v)) ∧ Below w.heap.size w w' := by
  have HB : Hid (Base w a n fs ∧ (∀ x ∈ fs, (Lit.int .i64 x).wf = true) ∧ OpGood kind k v ∧ nextM fs n kind k v = -1 ∧ nowL fs n kind k v = []) := ⟨hB, hx, hg, hn, hN⟩
  have HT : Hid (thenL fs n kind v = x :: LL ∧ 0 < (gotL fs n kind k v).length ∧ (gotL fs n kind k v).length ≤ 12) := ⟨hT, h0, h12⟩
  have HN : Hid (nowL fs n kind k v = []) := hN
  clear hB hx hg hn hN hT h0 h12
  obtain ⟨W1, hW1⟩ : ∃ W1, (w.alloc (.cells #[.int .i64 kind, .int .i64 k, .int .i64 v] 28)).alloc (.cells #[.bool false, .int .i64 0, .slice none 0 0, .slice none 0 0] 36) = W1 := ⟨_, rfl⟩
  have b1 : Below w.heap.size w W1 := by rw [← hW1]; exact ((Below.refl _ _).alloc (Nat.le_refl _) _).alloc (by simp) _
  have x0 : W1.heap[w.heap.size]? = some (.cells #[.int .i64 kind, .int .i64 k, .int .i64 v] 28 (0, 0)) := by rw [← hW1]; exact (Below.heap_alloc _ _ _ (by simp)).trans (World.alloc_heap_new w _)
  have x1 : W1.heap[w.heap.size + 1]? = some (.cells #[.bool false, .int .i64 0, .slice none 0 0, .slice none 0 0] 36 (0, 0)) := by rw [← hW1]; show ((w.heap.push _).push _)[w.heap.size + 1]? = _; rw [Array.getElem?_push]; simp
  have z1 : w.heap.size + 1 < W1.heap.size := (Array.getElem?_eq_some_iff.1 x1).1
  have CE : Hid (∀ {w' : World}, Below W1.heap.size W1 w' → (w'.cell? ⟨w.heap.size, 0, none⟩ = some (.int .i64 kind) ∧ w'.cell? ⟨w.heap.size, 1, none⟩ = some (.int .i64 k) ∧ w'.cell? ⟨w.heap.size, 2, none⟩ = some (.int .i64 v)) ∧ w'.heap[w.heap.size + 1]? = some (.cells #[.bool false, .int .i64 0, .slice none 0 0, .slice none 0 0] 36 (0, 0)) ∧ Below w.heap.size w w') := fun hb => by
    have h0 := (hb.block _ (Nat.lt_of_succ_lt z1)).trans x0
    exact ⟨⟨by simp [World.cell?, h0], by simp [World.cell?, h0], by simp [World.cell?, h0]⟩, (hb.block _ z1).trans x1, b1.trans (hb.mono (Nat.le_of_lt (Nat.lt_of_succ_lt z1)))⟩
  have Z1 : Hid (w.heap.size + 1 < W1.heap.size) := z1
  clear b1 x0 x1 z1
  obtain ⟨⟨c0, c1, c2⟩, _⟩ := CE.out (Below.refl _ W1)
  go_enter Tryz.func6, Tryz.ntmps6
  go_wp2_with fail
  refine (implOpOk_any kind k v _).mono ?_
  rintro e w1 ⟨rfl, hb⟩
  rw [decide_eq_true HB.out.2.2.1]
  have B1 : Hid (Below W1.heap.size W1 w1) := (by first | exact hb | exact hW1 ▸ hb)
  clear hb c0 c1 c2
  obtain ⟨⟨c0, c1, c2⟩, _, lo⟩ := CE.out B1.out
  have LO1 : Hid (Below w.heap.size w w1) := lo
  clear lo
  go_wp2_with fail
  refine (implNext_cap a n c kind k v fs _ (HB.out.1.on LO1.out).names (HB.out.1.on LO1.out).pairs HB.out.2.1).mono ?_
  rintro e w2 ⟨rfl, hb⟩
  rw [HB.out.2.2.2.1]
  have B2 : Hid (Below W1.heap.size W1 w2) := B1.out.trans (hb.mono B1.out.size)
  clear hb c0 c1 c2
  obtain ⟨⟨c0, c1, c2⟩, _⟩ := CE.out B2.out
  go_wp2_with fail
  refine (implDeedOf_any kind k v _).mono ?_
  rintro e w3 ⟨rfl, hb⟩
  have B3 : Hid (Below W1.heap.size W1 w3) := B2.out.trans (hb.mono B2.out.size)
  clear hb c0 c1 c2
  have LO3 : Hid (Below w.heap.size w w3) := (CE.out B3.out).2.2
  go_wp2_with fail
  refine (implNow_any a n c kind k v fs _ (HB.out.1.on LO3.out) HB.out.2.2.1).mono ?_
  rintro e w4 ⟨hc, hb⟩
  rw [HB.out.2.2.2.2] at hc
  obtain ⟨vz, rfl, hz⟩ := com_none hc
  have B4 : Hid (Below W1.heap.size W1 w4) := B3.out.trans (hb.mono B3.out.size)
  have LO4 : Hid (Below w.heap.size w w4) := (CE.out B4.out).2.2
  clear hb hc
  have HE : Hid (∀ args w, (callFunc 64 args).run Tryz.prog w = .ok (.enter 64 args) w) := enters_of Tryz.func64 (by kernel_rfl) rfl
  rcases hz with rfl | ⟨gz, cz, rfl⟩
  all_goals
    go_wp2_with fail
    go_region_with (first
      | (go_at_call 21
         refine (implThen_any a n c kind k v fs _ (HB.out.1.on (by first | exact LO4.out | exact LO4.out.drew)) HB.out.2.2.1 HN.out).mono ?_
         rintro e w5 ⟨hc, hb⟩
         rw [HT.out.1] at hc
         obtain ⟨g, l, cap, a', m', c', rfl, hg, d0, d1, hI, hfr⟩ := com_first hc
         have hb5 : Below w4.heap.size w4 w5 := ⟨hb.os, hb.tape, hb.output, hb.size, hb.block⟩
         have H5 : Hid (Below W1.heap.size W1 w5 ∧ IntAt w5 a' m' x.2 ∧ (∀ q, a' = some q → W1.heap.size ≤ q.block) ∧ W1.heap.size ≤ g ∧ g < w5.heap.size ∧ w5.cell? ⟨g, 0, none⟩ = some (.int .i64 x.1) ∧ w5.cell? ⟨g, 1, none⟩ = some (.slice a' m' c')) := ⟨B4.out.trans (hb5.mono B4.out.size), hI, fun q e => Nat.le_trans B4.out.size (hfr q e), Nat.le_trans B4.out.size hg, World.block_lt_of_cell? w5 _ d0, d0, d1⟩
         have hl : (0 : Int) < ((l + 1 : Nat) : Int) := by omega
         clear hb hb5 hc hg hI hfr)
      | (go_at_call 23
         refine (readOf_any a n c (DeedV kind k v) (deedT kind) _ rfl _).mono ?_
         rintro e w6 ⟨rfl, hw6⟩
         have hb6 : Below w5.heap.size w5 w6 := by rw [hw6]; exact ((Below.refl _ _).alloc (Nat.le_refl _) _).alloc (by simp) _
         have H6 : Hid (Below w5.heap.size w5 w6 ∧ Caught a n c (deedT kind) kind k v (w5.heap.size + 1) w5.heap.size w6) := ⟨hb6, by
           rw [hw6]
           have q1 := Boxed.new (w5.alloc (.cells #[DeedV kind k v] 53)) 29 (.slice a n c)
           rw [World.size_alloc] at q1
           exact ⟨q1.cell, ((Boxed.new w5 53 (DeedV kind k v)).alloc _).cell⟩⟩
         have d0' : w6.cell? ⟨g, 0, none⟩ = some (.int .i64 x.1) := (hb6.cell (p := ⟨g, 0, none⟩) H5.out.2.2.2.2.1).trans H5.out.2.2.2.2.2.1
         have d1' : w6.cell? ⟨g, 1, none⟩ = some (.slice a' m' c') := (hb6.cell (p := ⟨g, 1, none⟩) H5.out.2.2.2.2.1).trans H5.out.2.2.2.2.2.2
         clear hw6 hb6)
      | (go_at_call 22
         have lo6 : Below w.heap.size w w6 := (CE.out (H5.out.1.trans (H6.out.1.mono H5.out.1.size))).2.2
         refine (sortedFunc_any 64 _ (gotL fs n kind k v) w6 HE.out (read_seq a n c (w5.heap.size + 1) w5.heap.size kind k v fs [34, 60] w6 _ ((Below.refl _ _).alloc (Nat.le_refl _) _) (HB.out.1.on lo6) H6.out.2 HB.out.2.2.1 (by decide) (by decide)) HT.out.2.1 HT.out.2.2).mono ?_
         rintro e w7 ⟨q, capq, rfl, hq, hE, hb7⟩
         have H7 : Hid (Below w6.heap.size w6 w7 ∧ EntAt w7 (some ⟨q, 0, none⟩) (gotL fs n kind k v).length (flatE (sortL (gotL fs n kind k v))) ∧ w6.heap.size ≤ q) := ⟨hb7, hE, hq⟩
         have g6 : g < w6.heap.size := Nat.lt_of_lt_of_le H5.out.2.2.2.2.1 H6.out.1.size
         have e0 : w7.cell? ⟨g, 0, none⟩ = some (.int .i64 x.1) := (hb7.cell (p := ⟨g, 0, none⟩) g6).trans ((H6.out.1.cell (p := ⟨g, 0, none⟩) H5.out.2.2.2.2.1).trans H5.out.2.2.2.2.2.1)
         have e1 : w7.cell? ⟨g, 1, none⟩ = some (.slice a' m' c') := (hb7.cell (p := ⟨g, 1, none⟩) g6).trans ((H6.out.1.cell (p := ⟨g, 1, none⟩) H5.out.2.2.2.2.1).trans H5.out.2.2.2.2.2.2)
         have B7 : Below W1.heap.size W1 w7 := (H5.out.1.trans (H6.out.1.mono H5.out.1.size)).trans (hb7.mono (Nat.le_trans H5.out.1.size H6.out.1.size))
         have x4 := (CE.out B7).2.1
         have LO7 : Hid (Below w.heap.size w w7) := (CE.out B7).2.2
         have p0 : w7.cell? ⟨w.heap.size + 1, 0, none⟩ = some (.bool false) := by simp [World.cell?, x4]
         have p1 : w7.cell? ⟨w.heap.size + 1, 1, none⟩ = some (.int .i64 0) := by simp [World.cell?, x4]
         have p2 : w7.cell? ⟨w.heap.size + 1, 2, none⟩ = some (.slice none 0 0) := by simp [World.cell?, x4]
         have p3 : w7.cell? ⟨w.heap.size + 1, 3, none⟩ = some (.slice none 0 0) := by simp [World.cell?, x4]
         have q0 : w7.frozen? ⟨w.heap.size + 1, 0, none⟩ = false := by simp [World.frozen?, x4]
         have q1 : w7.frozen? ⟨w.heap.size + 1, 1, none⟩ = false := by simp [World.frozen?, x4]
         have q2 : w7.frozen? ⟨w.heap.size + 1, 2, none⟩ = false := by simp [World.frozen?, x4]
         have q3 : w7.frozen? ⟨w.heap.size + 1, 3, none⟩ = false := by simp [World.frozen?, x4]
         clear hq hE hb7 lo6 g6 x4 B7))
    all_goals
      go_wp2
      (try simp only [Exit.inBlock, Exit.then])
      refine bodyPost_ret (by simp [results, Tryz.results6, go_sem, p0, p1, p2, p3]; try rfl) rfl ?_
      have far1 : ∀ z, a' = some z → z.block ≠ w.heap.size + 1 := fun z e => by have h1 := H5.out.2.2.1 z e; have h2 := Z1.out; omega
      have far2 : ∀ z, some (⟨q, 0, none⟩ : Addr) = some z → z.block ≠ w.heap.size + 1 := fun z e => by cases e; have h1 := H7.out.2.2; have h2 := Z1.out; have h3 := H5.out.1.size; have h4 := H6.out.1.size; simp only; omega
      have hI7 : IntAt w7 a' m' x.2 := (H5.out.2.1.below H6.out.1 (Nat.le_refl _)).below H7.out.1 (Nat.le_refl _)
      refine ⟨⟨a', m', c', some ⟨q, 0, none⟩, capq, by rw [sortL_len], int_far (int_far (int_far (int_far hI7 (p := ⟨w.heap.size + 1, 0, none⟩) far1 _) (p := ⟨w.heap.size + 1, 1, none⟩) far1 _) (p := ⟨w.heap.size + 1, 2, none⟩) far1 _) (p := ⟨w.heap.size + 1, 3, none⟩) far1 _, ?_⟩, ?_⟩
      · rw [sortL_len]
        exact ent_far (ent_far (ent_far (ent_far H7.out.2.1 (p := ⟨w.heap.size + 1, 0, none⟩) far2 _) (p := ⟨w.heap.size + 1, 1, none⟩) far2 _) (p := ⟨w.heap.size + 1, 2, none⟩) far2 _) (p := ⟨w.heap.size + 1, 3, none⟩) far2 _
      · exact (((LO7.out.setCell (p := ⟨w.heap.size + 1, 0, none⟩) (by simp) _).setCell (p := ⟨w.heap.size + 1, 1, none⟩) (by simp) _).setCell (p := ⟨w.heap.size + 1, 2, none⟩) (by simp) _).setCell (p := ⟨w.heap.size + 1, 3, none⟩) (by simp) _
end Go.Proofs.YtenlapppaimkkaeGreatDoor

/- What must be known of an op, when the words are f: a list of places; what is next when a part of it was read; what is told when all of it was (no program). -/
namespace Go.Proofs.YtenlapppaimkkaeGreatDoor
open Go.ChangeShapes Go.WideShapes Go.ChangeAt Go.RowKit

/-- The places that must be known, in their order. -/
def needL (f : Int → Int) (kind k v : Int) : List Int :=
  let r := f (placeN 1 k)
  if kind = 1 then placeN 1 k :: (if r ≠ 0 then [] else placeN 2 v :: (if f (placeN 2 v) ≠ 0 then [] else placeN 3 (classN v) :: 13 :: (if k + 1 < f 13 then [placeN 5 v] else [])))
  else if kind = 2 then placeN 1 k :: (if r = 0 ∨ r = v then [] else placeN 2 v :: (if f (placeN 2 v) ≠ 0 then [] else placeN 2 r :: ((if classN r = classN v then [] else [placeN 3 (classN r), placeN 3 (classN v)]) ++ 13 :: (if k + 1 < f 13 then [placeN 5 r, placeN 5 v] else []))))
  else if kind = 3 then placeN 1 k :: (if r = 0 then [] else placeN 2 r :: placeN 3 (classN r) :: 13 :: (if k + 1 < f 13 then [placeN 5 r] else []))
  else if kind = 4 then [placeN 1 k] else if kind = 5 then [placeN 2 v] else if kind = 6 then [placeN 3 k]
  else if kind = 7 then [placeN 1 0, placeN 1 1, placeN 1 2, placeN 1 3]
  else if kind = 8 then [13]
  else if kind = 9 then 13 :: (if 1 ≤ f 13 ∧ f 13 ≤ 4 then placeN 1 (f 13 - 1) :: (if f (placeN 1 (f 13 - 1)) = 0 then [] else [placeN 5 (f (placeN 1 (f 13 - 1)))]) else [])
  else 13 :: (if f 13 ≠ 5 then [] else [placeN 5 v])
/-- The first of them that is not so. -/
def firstN (g : Int → Bool) : List Int → Int
  | [] => -1
  | p :: t => if g p = true then firstN g t else p
/-- What was read is as the words are. -/
structure Agrees (f : Int → Int) (fs : List Int) (n : Nat) : Prop where
  same : ∀ p, 0 ≤ p → (readF fs p n).2 = true → (readF fs p n).1 = f p
/-- What is held is right. -/
structure FOk (f : Int → Int) : Prop where
  row : ∀ k, 0 ≤ k → k ≤ 3 → f (placeN 1 k) = 0 ∨ (1 ≤ f (placeN 1 k) ∧ f (placeN 1 k) ≤ 6)
  state : 0 ≤ f 13 ∧ f 13 ≤ 5
section
variable {f : Int → Int} {fs : List Int} {n : Nat}
theorem Agrees.rd (h : Agrees f fs n) {p : Int} (hp : 0 ≤ p) (hr : (readF fs p n).2 = true) : rd fs n p = f p := by
  unfold Go.Proofs.YtenlapppaimkkaeGreatDoor.rd
  rw [if_neg (Int.not_lt.2 hp)]
  exact h.same p hp hr
/-- One word: it was read, and is passed by; or it is the first. -/
theorem tellN {p : Int} (hp : 0 ≤ p) (o v : Int) (t : List Stp) (T : List Int) (ht : (readF fs p n).2 = true → firstR fs n (wordsT false t) = firstN (fun p => (readF fs p n).2) T) :
    firstR fs n (wordsT false (.tell p o v :: t)) = firstN (fun p => (readF fs p n).2) (p :: T) := by
  rw [first_tell, if_pos hp]
  show _ = if (readF fs p n).2 = true then _ else _
  by_cases h : (readF fs p n).2 = true
  · rw [if_pos h, if_pos h]; exact ht h
  · rw [if_neg h, if_neg h]
theorem nilN : firstR fs n (wordsT false []) = firstN (fun p => (readF fs p n).2) [] := rfl
theorem askY {b : Bool} {t : List Stp} {T : List Int} (hb : b = true) (ht : firstR fs n (wordsT false t) = firstN (fun p => (readF fs p n).2) T) : firstR fs n (wordsT false (.ask b :: t)) = firstN (fun p => (readF fs p n).2) T := by
  rw [first_ask, if_pos hb]; exact ht
theorem askN {b : Bool} {t : List Stp} (hb : b = false) : firstR fs n (wordsT false (.ask b :: t)) = firstN (fun p => (readF fs p n).2) [] := by
  rw [first_ask, if_neg (by rw [hb]; simp)]; rfl
end
theorem p1_pos {k : Int} (h : 0 ≤ k ∧ k ≤ 3) : placeN 1 k = k := by unfold placeN; rw [if_pos ⟨rfl, h⟩]
theorem p2_pos {v : Int} (h : 1 ≤ v ∧ v ≤ 6) : placeN 2 v = v + 3 := by unfold placeN; rw [if_neg (by omega), if_pos ⟨rfl, h⟩]
theorem p3_pos {c : Int} (h : 0 ≤ c ∧ c ≤ 2) : placeN 3 c = c + 10 := by unfold placeN; rw [if_neg (by omega), if_neg (by omega), if_pos ⟨rfl, h⟩]
theorem p5_pos {v : Int} (h : 1 ≤ v ∧ v ≤ 6) : placeN 5 v = v + 13 := by unfold placeN; rw [if_neg (by omega), if_neg (by omega), if_neg (by omega), if_neg (by omega), if_pos ⟨rfl, h⟩]
theorem class_pos {v : Int} (h : 1 ≤ v ∧ v ≤ 6) : 0 ≤ classN v ∧ classN v ≤ 2 := by unfold classN; rw [if_pos h]; omega

theorem first_need {f : Int → Int} {fs : List Int} {n : Nat} (hA : Agrees f fs n) (hF : FOk f) {kind k v : Int} (hg : OpGood kind k v) :
    firstR fs n (wordsT false (stepsT false fs n kind k v)) = firstN (fun p => (readF fs p n).2) (needL f kind k v) := by
  have q13 : (0 : Int) ≤ 13 := by omega
  obtain ⟨hk, hkk, hvv⟩ := hg
  rcases kinds hk with rfl | rfl | rfl | rfl | rfl | rfl | rfl | rfl | rfl | rfl
  · have hk : 0 ≤ k ∧ k ≤ 3 := by unfold KeyGood at hkk; omega
    have hv : 1 ≤ v ∧ v ≤ 6 := by unfold ValGood at hvv; omega
    have e1 := p1_pos hk
    have e2 := p2_pos hv
    have e3 := p3_pos (class_pos hv)
    have c3 := class_pos hv
    have e5 := p5_pos hv
    show firstR fs n (wordsT false (putS false fs n k v)) = _
    unfold putS needL
    rw [if_pos rfl]
    refine tellN (by omega) _ _ _ _ (fun r1 => ?_)
    have d1 := hA.rd (by omega) r1
    by_cases h1 : f (placeN 1 k) = 0
    · rw [if_neg (by omega)]
      refine askY (decide_eq_true (by rw [d1]; exact h1)) (tellN (by omega) _ _ _ _ (fun r2 => ?_))
      have d2 := hA.rd (by omega) r2
      by_cases h2 : f (placeN 2 v) = 0
      · rw [if_neg (by omega)]
        refine askY (decide_eq_true (by rw [d2]; exact h2)) (tellN (by omega) _ _ _ _ (fun r3 => tellN q13 _ _ _ _ (fun r4 => ?_)))
        have d4 := hA.rd q13 r4
        by_cases h3 : k + 1 < f 13
        · rw [if_pos h3]
          exact askY (by rw [d4]; simpa using h3) (tellN (by omega) _ _ _ _ (fun _ => nilN))
        · rw [if_neg h3]
          exact askN (by rw [d4]; simpa using h3)
      · rw [if_pos h2]
        exact askN (decide_eq_false (by rw [d2]; exact h2))
    · rw [if_pos h1]
      exact askN (decide_eq_false (by rw [d1]; exact h1))
  · have hk : 0 ≤ k ∧ k ≤ 3 := by unfold KeyGood at hkk; omega
    have hv : 1 ≤ v ∧ v ≤ 6 := by unfold ValGood at hvv; omega
    have e1 := p1_pos hk
    have e2 := p2_pos hv
    have e5 := p5_pos hv
    have hrow := hF.row k hk.1 hk.2
    show firstR fs n (wordsT false (setS false fs n k v)) = _
    unfold setS needL
    rw [if_neg (by decide), if_pos rfl]
    refine tellN (by omega) _ _ _ _ (fun r1 => ?_)
    have d1 := hA.rd (by omega) r1
    rw [d1]
    generalize hr : f (placeN 1 k) = r at hrow d1 ⊢
    by_cases h0 : r = 0
    · rw [if_pos (.inl h0)]
      exact askN (by simpa using h0)
    refine askY (by simpa using h0) ?_
    by_cases hv0 : r = v
    · rw [if_pos (.inr hv0)]
      exact askN (by simpa using hv0)
    rw [if_neg (by omega)]
    have hr6 : 1 ≤ r ∧ r ≤ 6 := by omega
    have e2' := p2_pos hr6
    have c3 := class_pos hr6
    have c3' := class_pos hv
    have e3 := p3_pos c3
    have e3' := p3_pos c3'
    have e5' := p5_pos hr6
    refine askY (by simpa using hv0) (tellN (by omega) _ _ _ _ (fun r2 => ?_))
    have d2 := hA.rd (by omega) r2
    by_cases h2 : f (placeN 2 v) = 0
    · rw [if_neg (by omega)]
      refine askY (decide_eq_true (by rw [d2]; exact h2)) (tellN (by omega) _ _ _ _ (fun r3 => ?_))
      have tl : firstR fs n (wordsT false ([stayS fs n 13, .ask (false || decide (k + 1 < rd fs n 13)), becS fs n (placeN 5 r) 0, becS fs n (placeN 5 v) (k + 1)])) = firstN (fun p => (readF fs p n).2) (13 :: (if k + 1 < f 13 then [placeN 5 r, placeN 5 v] else [])) := by
        refine tellN q13 _ _ _ _ (fun r4 => ?_)
        have d4 := hA.rd q13 r4
        by_cases h3 : k + 1 < f 13
        · rw [if_pos h3]
          exact askY (by rw [d4]; simpa using h3) (tellN (by omega) _ _ _ _ (fun _ => tellN (by omega) _ _ _ _ (fun _ => nilN)))
        · rw [if_neg h3]
          exact askN (by rw [d4]; simpa using h3)
      unfold moveS
      by_cases hc : classN r = classN v
      · rw [if_pos hc, if_pos hc]
        exact tl
      · rw [if_neg hc, if_neg hc]
        exact tellN (by omega) _ _ _ _ (fun _ => tellN (by omega) _ _ _ _ (fun _ => tl))
    · rw [if_pos h2]
      exact askN (decide_eq_false (by rw [d2]; exact h2))
  · have hk : 0 ≤ k ∧ k ≤ 3 := by unfold KeyGood at hkk; omega
    have e1 := p1_pos hk
    have hrow := hF.row k hk.1 hk.2
    show firstR fs n (wordsT false (delS false fs n k)) = _
    unfold delS needL
    rw [if_neg (by decide), if_neg (by decide), if_pos rfl]
    refine tellN (by omega) _ _ _ _ (fun r1 => ?_)
    have d1 := hA.rd (by omega) r1
    rw [d1]
    generalize hr : f (placeN 1 k) = r at hrow d1 ⊢
    by_cases h0 : r = 0
    · rw [if_pos h0, h0]
      rw [show becS fs n (placeN 2 0) 0 = .tell (-1) (rd fs n (-1)) 0 from rfl, first_tell, if_neg (by omega)]; rfl
    rw [if_neg h0]
    have hr6 : 1 ≤ r ∧ r ≤ 6 := by omega
    have e2' := p2_pos hr6
    have c3 := class_pos hr6
    have e3 := p3_pos c3
    have e5' := p5_pos hr6
    refine tellN (by omega) _ _ _ _ (fun _ => tellN (by omega) _ _ _ _ (fun _ => tellN q13 _ _ _ _ (fun r4 => ?_)))
    have d4 := hA.rd q13 r4
    by_cases h3 : k + 1 < f 13
    · rw [if_pos h3]
      exact askY (by rw [d4]; simpa using h3) (tellN (by omega) _ _ _ _ (fun _ => nilN))
    · rw [if_neg h3]
      exact askN (by rw [d4]; simpa using h3)
  · have hk : 0 ≤ k ∧ k ≤ 3 := by unfold KeyGood at hkk; omega
    have e1 := p1_pos hk
    exact tellN (by omega) _ _ _ _ (fun _ => nilN)
  · have hv : 1 ≤ v ∧ v ≤ 6 := by unfold ValGood at hvv; omega
    have e2 := p2_pos hv
    exact tellN (by omega) _ _ _ _ (fun _ => nilN)
  · have hk : 0 ≤ k ∧ k ≤ 2 := by unfold KeyGood at hkk; omega
    have e3 := p3_pos hk
    exact tellN (by omega) _ _ _ _ (fun _ => nilN)
  · have z0 : placeN 1 0 = 0 := p1_pos (by omega)
    have z1 : placeN 1 1 = 1 := p1_pos (by omega)
    have z2 : placeN 1 2 = 2 := p1_pos (by omega)
    have z3 : placeN 1 3 = 3 := p1_pos (by omega)
    exact tellN (by omega) _ _ _ _ (fun _ => tellN (by omega) _ _ _ _ (fun _ => tellN (by omega) _ _ _ _ (fun _ => tellN (by omega) _ _ _ _ (fun _ => nilN))))
  · exact tellN q13 _ _ _ _ (fun _ => nilN)
  · show firstR fs n (wordsT false (makeS fs n)) = firstN _ (13 :: (if 1 ≤ f 13 ∧ f 13 ≤ 4 then placeN 1 (f 13 - 1) :: (if f (placeN 1 (f 13 - 1)) = 0 then [] else [placeN 5 (f (placeN 1 (f 13 - 1)))]) else []))
    unfold makeS
    refine tellN q13 _ _ _ _ (fun r1 => ?_)
    have d1 := hA.rd q13 r1
    have hs := hF.state
    have ew : wrap64 (rd fs n 13 - 1) = f 13 - 1 := by rw [d1]; unfold wrap64; omega
    rw [ew]
    by_cases h1 : 1 ≤ f 13 ∧ f 13 ≤ 4
    · rw [if_pos h1]
      have hk : 0 ≤ f 13 - 1 ∧ f 13 - 1 ≤ 3 := by omega
      have e1 := p1_pos hk
      have hrow := hF.row (f 13 - 1) hk.1 hk.2
      refine tellN (by omega) _ _ _ _ (fun r2 => ?_)
      have d2 := hA.rd (by omega) r2
      rw [d2]
      by_cases h0 : f (placeN 1 (f 13 - 1)) = 0
      · rw [if_pos h0, h0]
        rw [show becS fs n (placeN 5 0) (wrap64 (f 13 - 1 + 1)) = .tell (-1) (rd fs n (-1)) (wrap64 (f 13 - 1 + 1)) from rfl, first_tell, if_neg (by omega)]; rfl
      · rw [if_neg h0]
        have e5 := p5_pos (show 1 ≤ f (placeN 1 (f 13 - 1)) ∧ f (placeN 1 (f 13 - 1)) ≤ 6 by omega)
        exact tellN (by omega) _ _ _ _ (fun _ => nilN)
    · rw [if_neg h1]
      have e1 : placeN 1 (f 13 - 1) = -1 := by unfold placeN; rw [if_neg (by omega), if_neg (by omega), if_neg (by omega), if_neg (by omega), if_neg (by omega)]
      rw [stayS, e1, first_tell, if_neg (by omega)]; rfl
  · have hv : 1 ≤ v ∧ v ≤ 6 := by unfold ValGood at hvv; omega
    have e5 := p5_pos hv
    show firstR fs n (wordsT false (viaS fs n v)) = firstN _ (13 :: (if f 13 ≠ 5 then [] else [placeN 5 v]))
    unfold viaS
    refine tellN q13 _ _ _ _ (fun r1 => ?_)
    have d1 := hA.rd q13 r1
    by_cases h1 : f 13 = 5
    · rw [if_neg (by omega)]
      exact askY (decide_eq_true (by rw [d1]; exact h1)) (tellN (by omega) _ _ _ _ (fun _ => nilN))
    · rw [if_pos h1]
      exact askN (decide_eq_false (by rw [d1]; exact h1))
end Go.Proofs.YtenlapppaimkkaeGreatDoor
