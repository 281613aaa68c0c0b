/- Texts joined: SpecNow2, SpecNow6, SpecNext. -/
import Derived.Test.YtenlapppaimkkabGreatDoorPL03
import Derived.Test.YtenlapppaimkkabGreatDoorPL01
import Derived.Test.YtenlapppaimkkabGreatDoorPL04
set_option maxHeartbeats 4000000
set_option maxRecDepth 100000
namespace Go.Proofs.YtenlapppaimkkabGreatDoor
section
open Go.ChangeShapes Go.WideShapes Go.ChangeAt Go.RowKit
theorem now_4b (pa : Option Addr) (m pc : Nat) (fs : List Int) (k v : Int) (w : World) (hP : PairAt w pa m fs) (r o st : Int) (rb ob sb : Bool) (h1 : readF fs (placeN 1 k) m = (r, rb)) (h2 : readF fs (placeN 2 v) m = (o, ob)) (h3 : readF fs 13 m = (st, sb)) (_hr : (r != 0) = true) (_hr' : (r == 0) = false) :
    Calls Tryz.prog 29 #[OpV 4 k v, .slice pa m pc] w fun e w' => (∃ a c, e = .returned (.tuple #[.agg #[.bool true, .int .i64 (0), .slice a 1 c, .slice none 0 0], .bool true]) ∧ IntAt w' a 1 [r] ∧ ∀ q, a = some q → w.heap.size ≤ q.block) ∧ Below w.heap.size w w' := by
  have HP : Hid (PairAt w pa m fs) := hP
  have H1 : Hid (readF fs (placeN 1 k) m = (r, rb) ∧ readF fs (placeN 2 v) m = (o, ob) ∧ readF fs 13 m = (st, sb)) := ⟨h1, h2, h3⟩
  clear hP h1 h2 h3
  obtain ⟨W1, hW1⟩ : ∃ W1, (w.alloc (.cells #[.int .i64 4, .int .i64 k, .int .i64 v] 28)).alloc (.cells #[.bool false, .int .i64 0, .slice none 0 0, .slice none 0 0] 36) = W1 := ⟨_, rfl⟩
  have b1 : Below w.heap.size w W1 := by rw [← hW1]; exact ((Below.refl _ _).alloc (Nat.le_refl _) _).alloc (by simp) _
  have x0 : W1.heap[w.heap.size]? = some (.cells #[.int .i64 4, .int .i64 k, .int .i64 v] 28 (0, 0)) := by rw [← hW1]; exact (Below.heap_alloc _ _ _ (by simp)).trans (by show (w.heap.push _)[w.heap.size]? = _; simp)
  have x1 : W1.heap[w.heap.size + 1]? = some (.cells #[.bool false, .int .i64 0, .slice none 0 0, .slice none 0 0] 36 (0, 0)) := by rw [← hW1]; show ((w.heap.push _).push _)[w.heap.size + 1]? = _; rw [Array.getElem?_push]; simp
  have HX : Hid (Below w.heap.size w W1 ∧ W1.heap[w.heap.size]? = some (.cells #[.int .i64 4, .int .i64 k, .int .i64 v] 28 (0, 0)) ∧ W1.heap[w.heap.size + 1]? = some (.cells #[.bool false, .int .i64 0, .slice none 0 0, .slice none 0 0] 36 (0, 0)) ∧ w.heap.size + 1 < W1.heap.size) := ⟨b1, x0, x1, (Array.getElem?_eq_some_iff.1 x1).1⟩
  have CE : Hid (∀ {w' : World}, Below W1.heap.size W1 w' → (w'.cell? ⟨w.heap.size, 0, none⟩ = some (.int .i64 4) ∧ w'.cell? ⟨w.heap.size, 1, none⟩ = some (.int .i64 k) ∧ w'.cell? ⟨w.heap.size, 2, none⟩ = some (.int .i64 v)) ∧ w'.heap[w.heap.size + 1]? = some (.cells #[.bool false, .int .i64 0, .slice none 0 0, .slice none 0 0] 36 (0, 0))) := fun hb => by
    have h0 := (hb.block _ (Nat.lt_of_succ_lt HX.out.2.2.2)).trans HX.out.2.1
    exact ⟨⟨by simp [World.cell?, h0], by simp [World.cell?, h0], by simp [World.cell?, h0]⟩, (hb.block _ HX.out.2.2.2).trans HX.out.2.2.1⟩
  clear b1 x0 x1
  obtain ⟨c0, c1, c2⟩ := (CE.out (Below.refl _ W1)).1
  go_enter Tryz.func29, Tryz.ntmps29
  go_wp2_with fail
  refine (specRowAt_any k _).mono ?_
  rintro e wp ⟨rfl, hwp⟩
  rw [hwp]
  clear hwp
  go_wp2_with fail
  refine (specRead_any pa m pc (placeN 1 k) fs _ (by first | exact HP.out.below (HX.out.1.trans ((Below.refl _ W1).mono (Nat.le_of_lt (Nat.lt_of_succ_lt HX.out.2.2.2)))) (Nat.le_refl _) | exact hW1 ▸ HP.out.below HX.out.1 (Nat.le_refl _) | (rw [hW1]; exact HP.out.below HX.out.1 (Nat.le_refl _)))).mono ?_
  rintro e w1 ⟨rfl, hb⟩
  rw [H1.out.1]
  have B1 : Hid (Below W1.heap.size W1 w1) := (by first | exact hb | exact hW1 ▸ hb)
  clear hb c0 c1 c2
  obtain ⟨⟨c0, c1, c2⟩, _⟩ := CE.out B1.out
  go_wp2_with fail
  refine (specOwnerAt_any v _).mono ?_
  rintro e wp ⟨rfl, hwp⟩
  rw [hwp]
  clear hwp
  go_wp2_with fail
  refine (specRead_any pa m pc (placeN 2 v) fs _ (by first | exact HP.out.below (HX.out.1.trans (B1.out.mono (Nat.le_of_lt (Nat.lt_of_succ_lt HX.out.2.2.2)))) (Nat.le_refl _) | exact hW1 ▸ HP.out.below HX.out.1 (Nat.le_refl _) | (rw [hW1]; exact HP.out.below HX.out.1 (Nat.le_refl _)))).mono ?_
  rintro e w2 ⟨rfl, hb⟩
  rw [H1.out.2.1]
  have B2 : Hid (Below W1.heap.size W1 w2) := B1.out.trans (hb.mono B1.out.size)
  clear hb c0 c1 c2
  obtain ⟨⟨c0, c1, c2⟩, _⟩ := CE.out B2.out
  go_wp2_with fail
  refine (specStateAt_any _).mono ?_
  rintro e wp ⟨rfl, hwp⟩
  rw [hwp]
  clear hwp
  go_wp2_with fail
  refine (specRead_any pa m pc 13 fs _ (by first | exact HP.out.below (HX.out.1.trans (B2.out.mono (Nat.le_of_lt (Nat.lt_of_succ_lt HX.out.2.2.2)))) (Nat.le_refl _) | exact hW1 ▸ HP.out.below HX.out.1 (Nat.le_refl _) | (rw [hW1]; exact HP.out.below HX.out.1 (Nat.le_refl _)))).mono ?_
  rintro e w3 ⟨rfl, hb⟩
  rw [H1.out.2.2]
  have B3 : Hid (Below W1.heap.size W1 w3) := B2.out.trans (hb.mono B2.out.size)
  clear hb c0 c1 c2
  obtain ⟨⟨c0, c1, c2⟩, _⟩ := CE.out B3.out
  obtain ⟨W4, hW4⟩ : ∃ W4, w3.alloc (.cells #[] 3) = W4 := ⟨_, rfl⟩
  have hb4 : Below w3.heap.size w3 W4 := by rw [← hW4]; exact (Below.refl _ _).alloc (Nat.le_refl _) _
  have B4 : Hid (Below W1.heap.size W1 W4) := B3.out.trans (hb4.mono B3.out.size)
  clear hb4 c0 c1 c2
  obtain ⟨⟨c0, c1, c2⟩, x3⟩ := CE.out B4.out
  have p0 : W4.cell? ⟨w.heap.size + 1, 0, none⟩ = some (.bool false) := by simp [World.cell?, x3]
  have p1 : W4.cell? ⟨w.heap.size + 1, 1, none⟩ = some (.int .i64 0) := by simp [World.cell?, x3]
  have p2 : W4.cell? ⟨w.heap.size + 1, 2, none⟩ = some (.slice none 0 0) := by simp [World.cell?, x3]
  have p3 : W4.cell? ⟨w.heap.size + 1, 3, none⟩ = some (.slice none 0 0) := by simp [World.cell?, x3]
  have q0 : W4.frozen? ⟨w.heap.size + 1, 0, none⟩ = false := by simp [World.frozen?, x3]
  have q1 : W4.frozen? ⟨w.heap.size + 1, 1, none⟩ = false := by simp [World.frozen?, x3]
  have q2 : W4.frozen? ⟨w.heap.size + 1, 2, none⟩ = false := by simp [World.frozen?, x3]
  have q3 : W4.frozen? ⟨w.heap.size + 1, 3, none⟩ = false := by simp [World.frozen?, x3]
  clear x3
  obtain ⟨W5, hW5⟩ : ∃ W5, W4.alloc (.cells #[.int .i64 (r)] 3) = W5 := ⟨_, rfl⟩
  have hb5 : Below W4.heap.size W4 W5 := by rw [← hW5]; exact (Below.refl _ _).alloc (Nat.le_refl _) _
  have x5 : W5.heap[W4.heap.size]? = some (.cells #[.int .i64 (r)] 3 (0, 0)) := by rw [← hW5]; show (W4.heap.push _)[W4.heap.size]? = _; simp
  have B5 : Hid (Below W1.heap.size W1 W5) := B4.out.trans (hb5.mono B4.out.size)
  have HZ : Hid (W5.heap[W4.heap.size]? = some (.cells #[.int .i64 (r)] 3 (0, 0)) ∧ w.heap.size + 1 < W4.heap.size) := ⟨x5, by have h1 := HX.out.2.2.2; have h2 := B4.out.size; omega⟩
  clear hb5 x5
  obtain ⟨⟨d0, d1, d2⟩, x3⟩ := CE.out B5.out
  have p0' : W5.cell? ⟨w.heap.size + 1, 0, none⟩ = some (.bool false) := by simp [World.cell?, x3]
  have p1' : W5.cell? ⟨w.heap.size + 1, 1, none⟩ = some (.int .i64 0) := by simp [World.cell?, x3]
  have p2' : W5.cell? ⟨w.heap.size + 1, 2, none⟩ = some (.slice none 0 0) := by simp [World.cell?, x3]
  have p3' : W5.cell? ⟨w.heap.size + 1, 3, none⟩ = some (.slice none 0 0) := by simp [World.cell?, x3]
  have q0' : W5.frozen? ⟨w.heap.size + 1, 0, none⟩ = false := by simp [World.frozen?, x3]
  have q1' : W5.frozen? ⟨w.heap.size + 1, 1, none⟩ = false := by simp [World.frozen?, x3]
  have q2' : W5.frozen? ⟨w.heap.size + 1, 2, none⟩ = false := by simp [World.frozen?, x3]
  have q3' : W5.frozen? ⟨w.heap.size + 1, 3, none⟩ = false := by simp [World.frozen?, x3]
  clear x3
  go_wp2
  (try simp only [Exit.inBlock, Exit.then])
  refine bodyPost_ret (by simp [results, Tryz.results29, go_sem, p0', p1', p2', p3']; try rfl) rfl ?_
  have hlo := HX.out.1.trans (B5.out.mono (Nat.le_of_lt (Nat.lt_of_succ_lt HX.out.2.2.2)))
  refine ⟨⟨_, _, rfl, ⟨rfl, by omega, .inr ⟨W4.heap.size, 0, rfl, fun i hi => ?_⟩⟩, fun q e => by cases e; have h1 := HZ.out.2; show w.heap.size ≤ W4.heap.size; omega⟩, (((hlo.setCell (p := ⟨w.heap.size + 1, 0, none⟩) (by simp) _).setCell (p := ⟨w.heap.size + 1, 1, none⟩) (by simp) _).setCell (p := ⟨w.heap.size + 1, 2, none⟩) (by simp) _).setCell (p := ⟨w.heap.size + 1, 3, none⟩) (by simp) _⟩
  obtain rfl : i = 0 := by omega
  have h2 := HZ.out.2
  rw [World.cell?_setCell_other _ _ _ _ (by first | (simp; done) | (simp; omega)), World.cell?_setCell_other _ _ _ _ (by first | (simp; done) | (simp; omega)), World.cell?_setCell_other _ _ _ _ (by first | (simp; done) | (simp; omega)), World.cell?_setCell_other _ _ _ _ (by first | (simp; done) | (simp; omega))]
  simp [World.cell?, HZ.out.1]
theorem now_5b (pa : Option Addr) (m pc : Nat) (fs : List Int) (k v : Int) (w : World) (hP : PairAt w pa m fs) (r o st : Int) (rb ob sb : Bool) (h1 : readF fs (placeN 1 k) m = (r, rb)) (h2 : readF fs (placeN 2 v) m = (o, ob)) (h3 : readF fs 13 m = (st, sb)) (_ho : (o != 0) = true) (_ho' : (o == 0) = false) :
    Calls Tryz.prog 29 #[OpV 5 k v, .slice pa m pc] w fun e w' => (∃ a c, e = .returned (.tuple #[.agg #[.bool true, .int .i64 (0), .slice a 1 c, .slice none 0 0], .bool true]) ∧ IntAt w' a 1 [wrap64 (o - 1)] ∧ ∀ q, a = some q → w.heap.size ≤ q.block) ∧ Below w.heap.size w w' := by
  have HP : Hid (PairAt w pa m fs) := hP
  have H1 : Hid (readF fs (placeN 1 k) m = (r, rb) ∧ readF fs (placeN 2 v) m = (o, ob) ∧ readF fs 13 m = (st, sb)) := ⟨h1, h2, h3⟩
  clear hP h1 h2 h3
  obtain ⟨W1, hW1⟩ : ∃ W1, (w.alloc (.cells #[.int .i64 5, .int .i64 k, .int .i64 v] 28)).alloc (.cells #[.bool false, .int .i64 0, .slice none 0 0, .slice none 0 0] 36) = W1 := ⟨_, rfl⟩
  have b1 : Below w.heap.size w W1 := by rw [← hW1]; exact ((Below.refl _ _).alloc (Nat.le_refl _) _).alloc (by simp) _
  have x0 : W1.heap[w.heap.size]? = some (.cells #[.int .i64 5, .int .i64 k, .int .i64 v] 28 (0, 0)) := by rw [← hW1]; exact (Below.heap_alloc _ _ _ (by simp)).trans (by show (w.heap.push _)[w.heap.size]? = _; simp)
  have x1 : W1.heap[w.heap.size + 1]? = some (.cells #[.bool false, .int .i64 0, .slice none 0 0, .slice none 0 0] 36 (0, 0)) := by rw [← hW1]; show ((w.heap.push _).push _)[w.heap.size + 1]? = _; rw [Array.getElem?_push]; simp
  have HX : Hid (Below w.heap.size w W1 ∧ W1.heap[w.heap.size]? = some (.cells #[.int .i64 5, .int .i64 k, .int .i64 v] 28 (0, 0)) ∧ W1.heap[w.heap.size + 1]? = some (.cells #[.bool false, .int .i64 0, .slice none 0 0, .slice none 0 0] 36 (0, 0)) ∧ w.heap.size + 1 < W1.heap.size) := ⟨b1, x0, x1, (Array.getElem?_eq_some_iff.1 x1).1⟩
  have CE : Hid (∀ {w' : World}, Below W1.heap.size W1 w' → (w'.cell? ⟨w.heap.size, 0, none⟩ = some (.int .i64 5) ∧ w'.cell? ⟨w.heap.size, 1, none⟩ = some (.int .i64 k) ∧ w'.cell? ⟨w.heap.size, 2, none⟩ = some (.int .i64 v)) ∧ w'.heap[w.heap.size + 1]? = some (.cells #[.bool false, .int .i64 0, .slice none 0 0, .slice none 0 0] 36 (0, 0))) := fun hb => by
    have h0 := (hb.block _ (Nat.lt_of_succ_lt HX.out.2.2.2)).trans HX.out.2.1
    exact ⟨⟨by simp [World.cell?, h0], by simp [World.cell?, h0], by simp [World.cell?, h0]⟩, (hb.block _ HX.out.2.2.2).trans HX.out.2.2.1⟩
  clear b1 x0 x1
  obtain ⟨c0, c1, c2⟩ := (CE.out (Below.refl _ W1)).1
  go_enter Tryz.func29, Tryz.ntmps29
  go_wp2_with fail
  refine (specRowAt_any k _).mono ?_
  rintro e wp ⟨rfl, hwp⟩
  rw [hwp]
  clear hwp
  go_wp2_with fail
  refine (specRead_any pa m pc (placeN 1 k) fs _ (by first | exact HP.out.below (HX.out.1.trans ((Below.refl _ W1).mono (Nat.le_of_lt (Nat.lt_of_succ_lt HX.out.2.2.2)))) (Nat.le_refl _) | exact hW1 ▸ HP.out.below HX.out.1 (Nat.le_refl _) | (rw [hW1]; exact HP.out.below HX.out.1 (Nat.le_refl _)))).mono ?_
  rintro e w1 ⟨rfl, hb⟩
  rw [H1.out.1]
  have B1 : Hid (Below W1.heap.size W1 w1) := (by first | exact hb | exact hW1 ▸ hb)
  clear hb c0 c1 c2
  obtain ⟨⟨c0, c1, c2⟩, _⟩ := CE.out B1.out
  go_wp2_with fail
  refine (specOwnerAt_any v _).mono ?_
  rintro e wp ⟨rfl, hwp⟩
  rw [hwp]
  clear hwp
  go_wp2_with fail
  refine (specRead_any pa m pc (placeN 2 v) fs _ (by first | exact HP.out.below (HX.out.1.trans (B1.out.mono (Nat.le_of_lt (Nat.lt_of_succ_lt HX.out.2.2.2)))) (Nat.le_refl _) | exact hW1 ▸ HP.out.below HX.out.1 (Nat.le_refl _) | (rw [hW1]; exact HP.out.below HX.out.1 (Nat.le_refl _)))).mono ?_
  rintro e w2 ⟨rfl, hb⟩
  rw [H1.out.2.1]
  have B2 : Hid (Below W1.heap.size W1 w2) := B1.out.trans (hb.mono B1.out.size)
  clear hb c0 c1 c2
  obtain ⟨⟨c0, c1, c2⟩, _⟩ := CE.out B2.out
  go_wp2_with fail
  refine (specStateAt_any _).mono ?_
  rintro e wp ⟨rfl, hwp⟩
  rw [hwp]
  clear hwp
  go_wp2_with fail
  refine (specRead_any pa m pc 13 fs _ (by first | exact HP.out.below (HX.out.1.trans (B2.out.mono (Nat.le_of_lt (Nat.lt_of_succ_lt HX.out.2.2.2)))) (Nat.le_refl _) | exact hW1 ▸ HP.out.below HX.out.1 (Nat.le_refl _) | (rw [hW1]; exact HP.out.below HX.out.1 (Nat.le_refl _)))).mono ?_
  rintro e w3 ⟨rfl, hb⟩
  rw [H1.out.2.2]
  have B3 : Hid (Below W1.heap.size W1 w3) := B2.out.trans (hb.mono B2.out.size)
  clear hb c0 c1 c2
  obtain ⟨⟨c0, c1, c2⟩, _⟩ := CE.out B3.out
  obtain ⟨W4, hW4⟩ : ∃ W4, w3.alloc (.cells #[] 3) = W4 := ⟨_, rfl⟩
  have hb4 : Below w3.heap.size w3 W4 := by rw [← hW4]; exact (Below.refl _ _).alloc (Nat.le_refl _) _
  have B4 : Hid (Below W1.heap.size W1 W4) := B3.out.trans (hb4.mono B3.out.size)
  clear hb4 c0 c1 c2
  obtain ⟨⟨c0, c1, c2⟩, x3⟩ := CE.out B4.out
  have p0 : W4.cell? ⟨w.heap.size + 1, 0, none⟩ = some (.bool false) := by simp [World.cell?, x3]
  have p1 : W4.cell? ⟨w.heap.size + 1, 1, none⟩ = some (.int .i64 0) := by simp [World.cell?, x3]
  have p2 : W4.cell? ⟨w.heap.size + 1, 2, none⟩ = some (.slice none 0 0) := by simp [World.cell?, x3]
  have p3 : W4.cell? ⟨w.heap.size + 1, 3, none⟩ = some (.slice none 0 0) := by simp [World.cell?, x3]
  have q0 : W4.frozen? ⟨w.heap.size + 1, 0, none⟩ = false := by simp [World.frozen?, x3]
  have q1 : W4.frozen? ⟨w.heap.size + 1, 1, none⟩ = false := by simp [World.frozen?, x3]
  have q2 : W4.frozen? ⟨w.heap.size + 1, 2, none⟩ = false := by simp [World.frozen?, x3]
  have q3 : W4.frozen? ⟨w.heap.size + 1, 3, none⟩ = false := by simp [World.frozen?, x3]
  clear x3
  obtain ⟨W5, hW5⟩ : ∃ W5, W4.alloc (.cells #[.int .i64 (wrap64 (o - 1))] 3) = W5 := ⟨_, rfl⟩
  have hb5 : Below W4.heap.size W4 W5 := by rw [← hW5]; exact (Below.refl _ _).alloc (Nat.le_refl _) _
  have x5 : W5.heap[W4.heap.size]? = some (.cells #[.int .i64 (wrap64 (o - 1))] 3 (0, 0)) := by rw [← hW5]; show (W4.heap.push _)[W4.heap.size]? = _; simp
  have B5 : Hid (Below W1.heap.size W1 W5) := B4.out.trans (hb5.mono B4.out.size)
  have HZ : Hid (W5.heap[W4.heap.size]? = some (.cells #[.int .i64 (wrap64 (o - 1))] 3 (0, 0)) ∧ w.heap.size + 1 < W4.heap.size) := ⟨x5, by have h1 := HX.out.2.2.2; have h2 := B4.out.size; omega⟩
  clear hb5 x5
  obtain ⟨⟨d0, d1, d2⟩, x3⟩ := CE.out B5.out
  have p0' : W5.cell? ⟨w.heap.size + 1, 0, none⟩ = some (.bool false) := by simp [World.cell?, x3]
  have p1' : W5.cell? ⟨w.heap.size + 1, 1, none⟩ = some (.int .i64 0) := by simp [World.cell?, x3]
  have p2' : W5.cell? ⟨w.heap.size + 1, 2, none⟩ = some (.slice none 0 0) := by simp [World.cell?, x3]
  have p3' : W5.cell? ⟨w.heap.size + 1, 3, none⟩ = some (.slice none 0 0) := by simp [World.cell?, x3]
  have q0' : W5.frozen? ⟨w.heap.size + 1, 0, none⟩ = false := by simp [World.frozen?, x3]
  have q1' : W5.frozen? ⟨w.heap.size + 1, 1, none⟩ = false := by simp [World.frozen?, x3]
  have q2' : W5.frozen? ⟨w.heap.size + 1, 2, none⟩ = false := by simp [World.frozen?, x3]
  have q3' : W5.frozen? ⟨w.heap.size + 1, 3, none⟩ = false := by simp [World.frozen?, x3]
  clear x3
  go_wp2
  (try simp only [Exit.inBlock, Exit.then])
  refine bodyPost_ret (by simp [results, Tryz.results29, go_sem, p0', p1', p2', p3']; try rfl) rfl ?_
  have hlo := HX.out.1.trans (B5.out.mono (Nat.le_of_lt (Nat.lt_of_succ_lt HX.out.2.2.2)))
  refine ⟨⟨_, _, rfl, ⟨rfl, by omega, .inr ⟨W4.heap.size, 0, rfl, fun i hi => ?_⟩⟩, fun q e => by cases e; have h1 := HZ.out.2; show w.heap.size ≤ W4.heap.size; omega⟩, (((hlo.setCell (p := ⟨w.heap.size + 1, 0, none⟩) (by simp) _).setCell (p := ⟨w.heap.size + 1, 1, none⟩) (by simp) _).setCell (p := ⟨w.heap.size + 1, 2, none⟩) (by simp) _).setCell (p := ⟨w.heap.size + 1, 3, none⟩) (by simp) _⟩
  obtain rfl : i = 0 := by omega
  have h2 := HZ.out.2
  rw [World.cell?_setCell_other _ _ _ _ (by first | (simp; done) | (simp; omega)), World.cell?_setCell_other _ _ _ _ (by first | (simp; done) | (simp; omega)), World.cell?_setCell_other _ _ _ _ (by first | (simp; done) | (simp; omega)), World.cell?_setCell_other _ _ _ _ (by first | (simp; done) | (simp; omega))]
  simp [World.cell?, HZ.out.1]
theorem now_6a (pa : Option Addr) (m pc : Nat) (fs : List Int) (k v : Int) (w : World) (hP : PairAt w pa m fs) (r o st : Int) (rb ob sb : Bool) (h1 : readF fs (placeN 1 k) m = (r, rb)) (h2 : readF fs (placeN 2 v) m = (o, ob)) (h3 : readF fs 13 m = (st, sb)) (q : Int) (qb : Bool) (h4 : readF fs (placeN 3 k) m = (q, qb)) :
    Calls Tryz.prog 29 #[OpV 6 k v, .slice pa m pc] w fun e w' => (∃ a c, e = .returned (.tuple #[.agg #[.bool true, .int .i64 (0), .slice a 1 c, .slice none 0 0], .bool true]) ∧ IntAt w' a 1 [q] ∧ ∀ q, a = some q → w.heap.size ≤ q.block) ∧ Below w.heap.size w w' := by
  have HP : Hid (PairAt w pa m fs) := hP
  have H1 : Hid (readF fs (placeN 1 k) m = (r, rb) ∧ readF fs (placeN 2 v) m = (o, ob) ∧ readF fs 13 m = (st, sb)) := ⟨h1, h2, h3⟩
  have H4 : Hid (readF fs (placeN 3 k) m = (q, qb)) := h4
  clear hP h1 h2 h3 h4
  obtain ⟨W1, hW1⟩ : ∃ W1, (w.alloc (.cells #[.int .i64 6, .int .i64 k, .int .i64 v] 28)).alloc (.cells #[.bool false, .int .i64 0, .slice none 0 0, .slice none 0 0] 36) = W1 := ⟨_, rfl⟩
  have b1 : Below w.heap.size w W1 := by rw [← hW1]; exact ((Below.refl _ _).alloc (Nat.le_refl _) _).alloc (by simp) _
  have x0 : W1.heap[w.heap.size]? = some (.cells #[.int .i64 6, .int .i64 k, .int .i64 v] 28 (0, 0)) := by rw [← hW1]; exact (Below.heap_alloc _ _ _ (by simp)).trans (by show (w.heap.push _)[w.heap.size]? = _; simp)
  have x1 : W1.heap[w.heap.size + 1]? = some (.cells #[.bool false, .int .i64 0, .slice none 0 0, .slice none 0 0] 36 (0, 0)) := by rw [← hW1]; show ((w.heap.push _).push _)[w.heap.size + 1]? = _; rw [Array.getElem?_push]; simp
  have HX : Hid (Below w.heap.size w W1 ∧ W1.heap[w.heap.size]? = some (.cells #[.int .i64 6, .int .i64 k, .int .i64 v] 28 (0, 0)) ∧ W1.heap[w.heap.size + 1]? = some (.cells #[.bool false, .int .i64 0, .slice none 0 0, .slice none 0 0] 36 (0, 0)) ∧ w.heap.size + 1 < W1.heap.size) := ⟨b1, x0, x1, (Array.getElem?_eq_some_iff.1 x1).1⟩
  have CE : Hid (∀ {w' : World}, Below W1.heap.size W1 w' → (w'.cell? ⟨w.heap.size, 0, none⟩ = some (.int .i64 6) ∧ w'.cell? ⟨w.heap.size, 1, none⟩ = some (.int .i64 k) ∧ w'.cell? ⟨w.heap.size, 2, none⟩ = some (.int .i64 v)) ∧ w'.heap[w.heap.size + 1]? = some (.cells #[.bool false, .int .i64 0, .slice none 0 0, .slice none 0 0] 36 (0, 0))) := fun hb => by
    have h0 := (hb.block _ (Nat.lt_of_succ_lt HX.out.2.2.2)).trans HX.out.2.1
    exact ⟨⟨by simp [World.cell?, h0], by simp [World.cell?, h0], by simp [World.cell?, h0]⟩, (hb.block _ HX.out.2.2.2).trans HX.out.2.2.1⟩
  clear b1 x0 x1
  obtain ⟨c0, c1, c2⟩ := (CE.out (Below.refl _ W1)).1
  go_enter Tryz.func29, Tryz.ntmps29
  go_wp2_with fail
  refine (specRowAt_any k _).mono ?_
  rintro e wp ⟨rfl, hwp⟩
  rw [hwp]
  clear hwp
  go_wp2_with fail
  refine (specRead_any pa m pc (placeN 1 k) fs _ (by first | exact HP.out.below (HX.out.1.trans ((Below.refl _ W1).mono (Nat.le_of_lt (Nat.lt_of_succ_lt HX.out.2.2.2)))) (Nat.le_refl _) | exact hW1 ▸ HP.out.below HX.out.1 (Nat.le_refl _) | (rw [hW1]; exact HP.out.below HX.out.1 (Nat.le_refl _)))).mono ?_
  rintro e w1 ⟨rfl, hb⟩
  rw [H1.out.1]
  have B1 : Hid (Below W1.heap.size W1 w1) := (by first | exact hb | exact hW1 ▸ hb)
  clear hb c0 c1 c2
  obtain ⟨⟨c0, c1, c2⟩, _⟩ := CE.out B1.out
  go_wp2_with fail
  refine (specOwnerAt_any v _).mono ?_
  rintro e wp ⟨rfl, hwp⟩
  rw [hwp]
  clear hwp
  go_wp2_with fail
  refine (specRead_any pa m pc (placeN 2 v) fs _ (by first | exact HP.out.below (HX.out.1.trans (B1.out.mono (Nat.le_of_lt (Nat.lt_of_succ_lt HX.out.2.2.2)))) (Nat.le_refl _) | exact hW1 ▸ HP.out.below HX.out.1 (Nat.le_refl _) | (rw [hW1]; exact HP.out.below HX.out.1 (Nat.le_refl _)))).mono ?_
  rintro e w2 ⟨rfl, hb⟩
  rw [H1.out.2.1]
  have B2 : Hid (Below W1.heap.size W1 w2) := B1.out.trans (hb.mono B1.out.size)
  clear hb c0 c1 c2
  obtain ⟨⟨c0, c1, c2⟩, _⟩ := CE.out B2.out
  go_wp2_with fail
  refine (specStateAt_any _).mono ?_
  rintro e wp ⟨rfl, hwp⟩
  rw [hwp]
  clear hwp
  go_wp2_with fail
  refine (specRead_any pa m pc 13 fs _ (by first | exact HP.out.below (HX.out.1.trans (B2.out.mono (Nat.le_of_lt (Nat.lt_of_succ_lt HX.out.2.2.2)))) (Nat.le_refl _) | exact hW1 ▸ HP.out.below HX.out.1 (Nat.le_refl _) | (rw [hW1]; exact HP.out.below HX.out.1 (Nat.le_refl _)))).mono ?_
  rintro e w3 ⟨rfl, hb⟩
  rw [H1.out.2.2]
  have B3 : Hid (Below W1.heap.size W1 w3) := B2.out.trans (hb.mono B2.out.size)
  clear hb c0 c1 c2
  obtain ⟨⟨c0, c1, c2⟩, _⟩ := CE.out B3.out
  obtain ⟨W4, hW4⟩ : ∃ W4, w3.alloc (.cells #[] 3) = W4 := ⟨_, rfl⟩
  have hb4 : Below w3.heap.size w3 W4 := by rw [← hW4]; exact (Below.refl _ _).alloc (Nat.le_refl _) _
  have B4 : Hid (Below W1.heap.size W1 W4) := B3.out.trans (hb4.mono B3.out.size)
  clear hb4 c0 c1 c2
  obtain ⟨⟨c0, c1, c2⟩, x3⟩ := CE.out B4.out
  have p0 : W4.cell? ⟨w.heap.size + 1, 0, none⟩ = some (.bool false) := by simp [World.cell?, x3]
  have p1 : W4.cell? ⟨w.heap.size + 1, 1, none⟩ = some (.int .i64 0) := by simp [World.cell?, x3]
  have p2 : W4.cell? ⟨w.heap.size + 1, 2, none⟩ = some (.slice none 0 0) := by simp [World.cell?, x3]
  have p3 : W4.cell? ⟨w.heap.size + 1, 3, none⟩ = some (.slice none 0 0) := by simp [World.cell?, x3]
  have q0 : W4.frozen? ⟨w.heap.size + 1, 0, none⟩ = false := by simp [World.frozen?, x3]
  have q1 : W4.frozen? ⟨w.heap.size + 1, 1, none⟩ = false := by simp [World.frozen?, x3]
  have q2 : W4.frozen? ⟨w.heap.size + 1, 2, none⟩ = false := by simp [World.frozen?, x3]
  have q3 : W4.frozen? ⟨w.heap.size + 1, 3, none⟩ = false := by simp [World.frozen?, x3]
  clear x3
  have hlt4 : Hid (Below w.heap.size w W4) := HX.out.1.trans (B4.out.mono (Nat.le_of_lt (Nat.lt_of_succ_lt HX.out.2.2.2)))
  go_wp2_with fail
  refine (specCountAt_any k _).mono ?_
  rintro e wp ⟨rfl, hwp⟩
  rw [hwp]
  clear hwp
  go_wp2_with fail
  refine (specRead_any pa m pc (placeN 3 k) fs _ (by first | exact HP.out.below hlt4.out (Nat.le_refl _) | exact hW4 ▸ HP.out.below hlt4.out (Nat.le_refl _))).mono ?_
  rintro e wq ⟨rfl, hb⟩
  rw [H4.out]
  have BQ : Hid (Below W1.heap.size W1 wq) := B4.out.trans ((by first | exact hb | exact hW4 ▸ hb : Below W4.heap.size W4 wq).mono B4.out.size)
  clear hb c0 c1 c2 p0 p1 p2 p3 q0 q1 q2 q3
  obtain ⟨⟨c0, c1, c2⟩, _⟩ := CE.out BQ.out
  obtain ⟨W5, hW5⟩ : ∃ W5, wq.alloc (.cells #[.int .i64 (q)] 3) = W5 := ⟨_, rfl⟩
  have hb5 : Below wq.heap.size wq W5 := by rw [← hW5]; exact (Below.refl _ _).alloc (Nat.le_refl _) _
  have x5 : W5.heap[wq.heap.size]? = some (.cells #[.int .i64 (q)] 3 (0, 0)) := by rw [← hW5]; show (wq.heap.push _)[wq.heap.size]? = _; simp
  have B5 : Hid (Below W1.heap.size W1 W5) := BQ.out.trans (hb5.mono BQ.out.size)
  have HZ : Hid (W5.heap[wq.heap.size]? = some (.cells #[.int .i64 (q)] 3 (0, 0)) ∧ w.heap.size + 1 < wq.heap.size) := ⟨x5, by have h1 := HX.out.2.2.2; have h2 := BQ.out.size; omega⟩
  clear hb5 x5
  obtain ⟨⟨d0, d1, d2⟩, x3⟩ := CE.out B5.out
  have p0' : W5.cell? ⟨w.heap.size + 1, 0, none⟩ = some (.bool false) := by simp [World.cell?, x3]
  have p1' : W5.cell? ⟨w.heap.size + 1, 1, none⟩ = some (.int .i64 0) := by simp [World.cell?, x3]
  have p2' : W5.cell? ⟨w.heap.size + 1, 2, none⟩ = some (.slice none 0 0) := by simp [World.cell?, x3]
  have p3' : W5.cell? ⟨w.heap.size + 1, 3, none⟩ = some (.slice none 0 0) := by simp [World.cell?, x3]
  have q0' : W5.frozen? ⟨w.heap.size + 1, 0, none⟩ = false := by simp [World.frozen?, x3]
  have q1' : W5.frozen? ⟨w.heap.size + 1, 1, none⟩ = false := by simp [World.frozen?, x3]
  have q2' : W5.frozen? ⟨w.heap.size + 1, 2, none⟩ = false := by simp [World.frozen?, x3]
  have q3' : W5.frozen? ⟨w.heap.size + 1, 3, none⟩ = false := by simp [World.frozen?, x3]
  clear x3
  go_wp2
  (try simp only [Exit.inBlock, Exit.then])
  refine bodyPost_ret (by simp [results, Tryz.results29, go_sem, p0', p1', p2', p3']; try rfl) rfl ?_
  have hlo := HX.out.1.trans (B5.out.mono (Nat.le_of_lt (Nat.lt_of_succ_lt HX.out.2.2.2)))
  refine ⟨⟨_, _, rfl, ⟨rfl, by omega, .inr ⟨wq.heap.size, 0, rfl, fun i hi => ?_⟩⟩, fun q e => by cases e; have h1 := HZ.out.2; show w.heap.size ≤ wq.heap.size; omega⟩, (((hlo.setCell (p := ⟨w.heap.size + 1, 0, none⟩) (by simp) _).setCell (p := ⟨w.heap.size + 1, 1, none⟩) (by simp) _).setCell (p := ⟨w.heap.size + 1, 2, none⟩) (by simp) _).setCell (p := ⟨w.heap.size + 1, 3, none⟩) (by simp) _⟩
  obtain rfl : i = 0 := by omega
  have h2 := HZ.out.2
  rw [World.cell?_setCell_other _ _ _ _ (by first | (simp; done) | (simp; omega)), World.cell?_setCell_other _ _ _ _ (by first | (simp; done) | (simp; omega)), World.cell?_setCell_other _ _ _ _ (by first | (simp; done) | (simp; omega)), World.cell?_setCell_other _ _ _ _ (by first | (simp; done) | (simp; omega))]
  simp [World.cell?, HZ.out.1]
def WBox (w : World) (b : Nat) (a : Option Addr) (n c : Nat) (s : Work) : Prop := w.heap[b]? = some (.cells #[.slice a n c, .int .i64 s.1, .bool s.2] 90)
theorem WBox.facts {w : World} {b n c : Nat} {a : Option Addr} {s : Work} (h : WBox w b a n c s) : w.cell? ⟨b, 0, none⟩ = some (.slice a n c) ∧ w.cell? ⟨b, 1, none⟩ = some (.int .i64 s.1) ∧ w.cell? ⟨b, 2, none⟩ = some (.bool s.2) ∧ w.frozen? ⟨b, 1, none⟩ = false ∧ w.frozen? ⟨b, 2, none⟩ = false ∧ b < w.heap.size := by
  unfold WBox at h
  exact ⟨by simp [World.cell?, h], by simp [World.cell?, h], by simp [World.cell?, h], by simp [World.frozen?, h], by simp [World.frozen?, h], (Array.getElem?_eq_some_iff.1 h).1⟩
theorem WBox.bel {w w' : World} {b n c : Nat} {a : Option Addr} {s : Work} (h : WBox w b a n c s) (hb : Below w.heap.size w w') : WBox w' b a n c s := by
  unfold WBox at h ⊢
  rw [hb.block b (Array.getElem?_eq_some_iff.1 h).1]
  exact h
theorem WBox.put1 {w : World} {b n c : Nat} {a : Option Addr} {s : Work} (h : WBox w b a n c s) (x : Int) : WBox (w.setCell ⟨b, 1, none⟩ (.int .i64 x)) b a n c (x, s.2) := by
  unfold WBox at h ⊢
  obtain ⟨hlt, h'⟩ := Array.getElem?_eq_some_iff.1 h
  show (w.heap.modify b _)[b]? = _
  rw [Array.getElem?_eq_getElem (by simpa using hlt), Array.getElem_modify_self, h']
  rfl
theorem WBox.put2 {w : World} {b n c : Nat} {a : Option Addr} {s : Work} (h : WBox w b a n c s) (x : Bool) : WBox (w.setCell ⟨b, 2, none⟩ (.bool x)) b a n c (s.1, x) := by
  unfold WBox at h ⊢
  obtain ⟨hlt, h'⟩ := Array.getElem?_eq_some_iff.1 h
  show (w.heap.modify b _)[b]? = _
  rw [Array.getElem?_eq_getElem (by simpa using hlt), Array.getElem_modify_self, h']
  rfl
theorem far_own {w0 w : World} {b : Nat} (h : w0.grownBy w (some b)) (o : Nat) (v : Value) : w0.grownBy (w.setCell ⟨b, o, none⟩ v) (some b) :=
  ⟨h.os, h.tape, h.output, by simpa [World.setCell] using h.size, fun k hk hr => by rw [Below.heap_setCell _ _ _ _ (fun e => hr (by rw [e]))]; exact h.block k hk hr⟩
theorem PairAt.far {w w' : World} {b : Nat} {a : Option Addr} {n : Nat} {fs : List Int} (h : PairAt w a n fs) (hg : w.grownBy w' (some b)) (hq : ∀ q, a = some q → n ≠ 0 → q.block ≠ b) : PairAt w' a n fs := by
  obtain ⟨h1, h2, h3 | ⟨p, o, h3, h4⟩⟩ := h
  · exact ⟨h1, h2, .inl h3⟩
  · by_cases h0 : n = 0
    · exact ⟨h1, h2, .inl h0⟩
    have hp : p ≠ b := hq ⟨p, o, none⟩ h3 h0
    exact ⟨h1, h2, .inr ⟨p, o, h3, fun i hi => far_cell hg (h4 i hi) hp⟩⟩

theorem l5Know_any (b : Nat) (a : Option Addr) (n c : Nat) (s : Work) (at_ : Int) (fs : List Int) (w : World) (hW : WBox w b a n c s) (hP : PairAt w a n fs) :
    Calls Tryz.prog 95 #[.pointer (some ⟨b, 0, none⟩), .int .i64 at_] w fun e w' => e = .returned (.int .i64 (knowM fs n s at_).2) ∧ WBox w' b a n c (knowM fs n s at_).1 ∧ w.grownBy w' (some b) := by
  have HW : Hid (WBox w b a n c s) := hW
  have HP : Hid (PairAt w a n fs) := hP
  obtain ⟨c0, c1, c2, f1, f2, bl⟩ := hW.facts
  clear hW hP
  obtain ⟨s1, s2⟩ := s
  obtain ⟨R, hR⟩ : ∃ R, knowM fs n (s1, s2) at_ = R := ⟨_, rfl⟩
  have HR : Hid (knowM fs n (s1, s2) at_ = R) := hR
  rw [hR]
  clear hR
  cases s2
  · go_enter Tryz.func95, Tryz.ntmps95
    go_wp2_with fail
    refine (specRead_any a n c at_ fs _ HP.out).mono ?_
    rintro e w1 ⟨rfl, hb1⟩
    obtain ⟨q, hq⟩ : ∃ q, readF fs at_ n = q := ⟨_, rfl⟩
    have HQ : Hid (readF fs at_ n = q) := hq
    rw [hq]
    clear hq
    obtain ⟨q1, q2⟩ := q
    have hW1 := HW.out.bel hb1
    have HF : Hid (w.grownBy w1 (some b)) := far_below hb1 _
    clear c0 c1 c2 f1 f2 bl
    obtain ⟨c0, c1, c2, f1, f2, bl⟩ := hW1.facts
    have HW1 : Hid (WBox w1 b a n c (s1, false)) := hW1
    clear hb1 hW1
    cases q2
    · have HE : Hid (R = ((at_, true), 0)) := HR.out.symm.trans (by unfold knowM; rw [HQ.out]; simp)
      go_wp2
      go_ret
      rw [HE.out]
      exact ⟨rfl, (HW1.out.put2 true).put1 at_, far_own (far_own HF.out 2 _) 1 _⟩
    · by_cases hat : at_ < 0
      · have HE : Hid (R = ((at_, true), 0)) := HR.out.symm.trans (by unfold knowM; rw [HQ.out]; simp [hat])
        go_wp2
        go_ret
        rw [HE.out]
        exact ⟨rfl, (HW1.out.put2 true).put1 at_, far_own (far_own HF.out 2 _) 1 _⟩
      · have HE : Hid (R = ((s1, false), q1)) := HR.out.symm.trans (by unfold knowM; rw [HQ.out]; simp [hat])
        go_wp2
        go_ret
        rw [HE.out]
        exact ⟨rfl, HW1.out, HF.out⟩
  · have HE : Hid (R = ((s1, true), 0)) := HR.out.symm.trans rfl
    go_enter Tryz.func95, Tryz.ntmps95
    go_wp2
    go_ret
    rw [HE.out]
    exact ⟨rfl, HW.out, World.grownBy.refl _ _⟩

theorem l5If_any (b : Nat) (a : Option Addr) (n c : Nat) (s : Work) (x : Bool) (w : World) (hW : WBox w b a n c s) :
    Calls Tryz.prog 97 #[.pointer (some ⟨b, 0, none⟩), .bool x] w fun e w' => e = .returned (.tuple #[]) ∧ WBox w' b a n c (s.1, s.2 || x) ∧ w.grownBy w' (some b) := by
  have HW : Hid (WBox w b a n c s) := hW
  obtain ⟨c0, c1, c2, f1, f2, bl⟩ := hW.facts
  clear hW
  obtain ⟨s1, s2⟩ := s
  cases s2 <;> cases x
  all_goals
    go_enter Tryz.func97, Tryz.ntmps97
    go_wp2
    go_end0
    exact ⟨rfl, HW.out.put2 _, far_own (World.grownBy.refl _ _) 2 _⟩

structure NextSt (w : World) (b : Nat) (a : Option Addr) (n c : Nat) (fs : List Int) (wr : World) (s : Work) : Prop where
  box : WBox wr b a n c s
  ps : PairAt wr a n fs
  far : w.grownBy wr (some b)
theorem NextSt.know {w wr wr' : World} {b n c : Nat} {a : Option Addr} {fs : List Int} {s s' : Work} (h : NextSt w b a n c fs wr s) (hq : ∀ q, a = some q → n ≠ 0 → q.block ≠ b) (hW : WBox wr' b a n c s') (hf : wr.grownBy wr' (some b)) : NextSt w b a n c fs wr' s' :=
  ⟨hW, h.ps.far hf hq, h.far.trans hf⟩

theorem l5Via_any (b : Nat) (a : Option Addr) (n c : Nat) (s : Work) (k : Int) (g : Nat) (vs : List Int) (m : Nat) (fs : List Int) (w : World) (hq : ∀ q, a = some q → n ≠ 0 → q.block ≠ b) (hW : WBox w b a n c s) (hP : PairAt w a n fs) (hk : 0 ≤ k ∧ k ≤ 3) (hg : g ≠ b) (hm : m ≤ 2) (hv : IntAt w (some ⟨g, 0, none⟩) m vs) :
    Calls Tryz.prog 112 #[.pointer (some ⟨b, 0, none⟩), .int .i64 k, .slice (some ⟨g, 0, none⟩) m m] w fun e w' => e = .returned (.tuple #[]) ∧ WBox w' b a n c (viaM fs n s k vs) ∧ w.grownBy w' (some b) := by
  have HV : Hid (IntAt w (some ⟨g, 0, none⟩) m vs) := hv
  have HQ : Hid (∀ q, a = some q → n ≠ 0 → q.block ≠ b) := hq
  have HS : Hid (NextSt w b a n c fs w s) := ⟨hW, hP, World.grownBy.refl _ _⟩
  have hl := hv.1
  clear hW hP hv hq
  go_enter Tryz.func112, Tryz.ntmps112
  go_wp2_with fail
  refine (specStateAt_any _).mono ?_
  rintro e w0 ⟨rfl, rfl⟩
  go_wp2_with fail
  refine (l5Know_any b a n c s 13 fs _ HS.out.box HS.out.ps).mono ?_
  rintro e w1 ⟨rfl, hW1, hf1⟩
  obtain ⟨r, hr⟩ : ∃ r, knowM fs n s 13 = r := ⟨_, rfl⟩
  rw [hr] at hW1
  rw [hr]
  have HV2 : Hid (viaM fs n s k vs = if k + 1 < r.2 then vs.foldl (fun s v => (knowM fs n s (placeN 5 v)).1) r.1 else r.1) := by rw [← hr]; rfl
  have HS1 : Hid (NextSt w0 b a n c fs w1 r.1) := HS.out.know HQ.out hW1 hf1
  clear hr hW1 hf1 HS
  obtain ⟨r1, r2⟩ := r
  by_cases hn : k + 1 < r2
  · have HV3 : Hid (viaM fs n s k vs = vs.foldl (fun s v => (knowM fs n s (placeN 5 v)).1) r1) := HV2.out.trans (if_pos hn)
    have hn1 : decide (k + 1 < r2) = true := decide_eq_true hn
    clear HV2
    go_wp2_with fail
    go_loopw [7] (fun i wr => ∃ j : Nat, j ≤ m ∧ i = .int .i64 j ∧ NextSt w0 b a n c fs wr ((vs.take j).foldl (fun s v => (knowM fs n s (placeN 5 v)).1) r1)) (fun i _ => m - (intOf i).toNat)
    case atStart => exact ⟨0, Nat.zero_le _, rfl, HS1.out⟩
    case round =>
      obtain ⟨j, hj, rfl, hS⟩ := hrel
      have HSj : Hid (NextSt w0 b a n c fs wr ((vs.take j).foldl (fun s v => (knowM fs n s (placeN 5 v)).1) r1)) := hS
      clear hS
      by_cases hlt : j < m
      · have hj0 : (0 : Int) ≤ (j : Int) := by omega
        have hj1 : (j : Int) < (m : Int) := by omega
        obtain ⟨x, hx⟩ : ∃ x, vs.getD j 0 = x := ⟨_, rfl⟩
        have e1 : wr.cell? ⟨g, 0 + j, none⟩ = some (I (vs.getD j 0)) := far_cell HSj.out.far (HV.out.cells j hlt) hg
        rw [hx, Nat.zero_add] at e1
        have HX : Hid ((vs.take (j + 1)).foldl (fun s v => (knowM fs n s (placeN 5 v)).1) r1 = (knowM fs n ((vs.take j).foldl (fun s v => (knowM fs n s (placeN 5 v)).1) r1) (placeN 5 x)).1) := by
          have hj' : j < vs.length := by omega
          have ex : vs[j] = x := by rw [← hx]; simp [List.getD, hj']
          show (vs.take (j + 1)).foldl _ r1 = _
          rw [List.take_succ_eq_append_getElem hj', List.foldl_append, ex]
          rfl
        clear hx
        go_wp2_with fail
        refine (specViaAt_any x _).mono ?_
        rintro e w2 ⟨rfl, rfl⟩
        go_wp2_with fail
        refine (l5Know_any b a n c _ (placeN 5 x) fs _ HSj.out.box HSj.out.ps).mono ?_
        rintro e w3 ⟨rfl, hW3, hf3⟩
        have HS3 : Hid (NextSt w0 b a n c fs w3 ((vs.take (j + 1)).foldl (fun s v => (knowM fs n s (placeN 5 v)).1) r1)) := by
          show NextSt w0 b a n c fs w3 _
          rw [HX.out]
          exact HSj.out.know HQ.out hW3 hf3
        clear hW3 hf3 e1
        go_wp2
        exact ⟨⟨j + 1, by omega, by go_num, HS3.out⟩, by simp [intOf]; omega⟩
      · obtain rfl : j = m := by omega
        have HT : Hid (vs.take j = vs) := List.take_of_length_le (by omega)
        go_wp2
        go_end0
        rw [HV3.out]
        have h := HSj.out
        rw [HT.out] at h
        exact ⟨rfl, h.box, h.far⟩
  · have HV3 : Hid (viaM fs n s k vs = r1) := HV2.out.trans (if_neg hn)
    have hn1 : decide (k + 1 < r2) = false := decide_eq_false hn
    clear HV2
    go_wp2_with fail
    go_loopw [7] (fun i wr => i = .int .i64 0 ∧ NextSt w0 b a n c fs wr r1) (fun _ _ => 0)
    case atStart => exact ⟨rfl, HS1.out⟩
    case round =>
      obtain ⟨rfl, hS⟩ := hrel
      have HSj : Hid (NextSt w0 b a n c fs wr r1) := hS
      clear hS
      by_cases hm0 : m = 0
      · subst hm0
        go_wp2
        go_end0
        rw [HV3.out]
        exact ⟨rfl, HSj.out.box, HSj.out.far⟩
      · have hm1 : (0 : Int) < (m : Int) := by omega
        go_wp2
        go_end0
        rw [HV3.out]
        exact ⟨rfl, HSj.out.box, HSj.out.far⟩
end
end Go.Proofs.YtenlapppaimkkabGreatDoor
