/- Texts joined: SpecNow. -/
import Derived.Test.YtenlapppaimkkabGreatDoorPL03
import Derived.Test.YtenlapppaimkkabGreatDoorPL01
set_option maxHeartbeats 8000000
set_option maxRecDepth 100000
namespace Go.Proofs.YtenlapppaimkkabGreatDoor
section
open Go.ChangeShapes Go.WideShapes Go.ChangeAt Go.RowKit
def NowCase (kind v r o st code : Int) (d : Bool) : Prop :=
  (kind = 1 ∧ code = 1 ∧ d = true ∧ (r != 0) = true ∧ (r == 0) = false) ∨
  (kind = 1 ∧ code = 2 ∧ d = true ∧ (r != 0) = false ∧ (r == 0) = true ∧ (o != 0) = true ∧ (o == 0) = false) ∨
  (kind = 1 ∧ code = -1 ∧ d = false ∧ (r != 0) = false ∧ (r == 0) = true ∧ (o != 0) = false ∧ (o == 0) = true) ∨
  (kind = 2 ∧ code = 3 ∧ d = true ∧ (r != 0) = false ∧ (r == 0) = true) ∨
  (kind = 2 ∧ code = 0 ∧ d = true ∧ (r != 0) = true ∧ (r == 0) = false ∧ (r == v) = true) ∨
  (kind = 2 ∧ code = 2 ∧ d = true ∧ (r != 0) = true ∧ (r == 0) = false ∧ (r == v) = false ∧ (o != 0) = true ∧ (o == 0) = false) ∨
  (kind = 2 ∧ code = -1 ∧ d = false ∧ (r != 0) = true ∧ (r == 0) = false ∧ (r == v) = false ∧ (o != 0) = false ∧ (o == 0) = true) ∨
  (kind = 3 ∧ code = 3 ∧ d = true ∧ (r != 0) = false ∧ (r == 0) = true) ∨
  (kind = 3 ∧ code = -1 ∧ d = false ∧ (r != 0) = true ∧ (r == 0) = false) ∨
  (kind = 4 ∧ code = 3 ∧ d = true ∧ (r != 0) = false ∧ (r == 0) = true) ∨
  (kind = 5 ∧ code = 3 ∧ d = true ∧ (o != 0) = false ∧ (o == 0) = true) ∨
  (kind = 7 ∧ code = -1 ∧ d = false) ∨
  (kind = 8 ∧ code = 4 ∧ d = true ∧ (st != 0) = true) ∨
  (kind = 8 ∧ code = -1 ∧ d = false ∧ (st != 0) = false) ∨
  (kind = 10 ∧ code = 4 ∧ d = true ∧ (st != 5) = true) ∨
  (kind = 10 ∧ code = -1 ∧ d = false ∧ (st != 5) = false)
abbrev NowSays (w : World) (code : Int) (d : Bool) (e : Ending) (w' : World) : Prop := (∃ a c, e = .returned (.tuple #[.agg #[.bool true, .int .i64 code, .slice a 0 c, .slice none 0 0], .bool d]) ∧ IntAt w' a 0 [] ∧ ∀ q, a = some q → w.heap.size ≤ q.block) ∧ Below w.heap.size w w'
theorem now_case (pa : Option Addr) (m pc : Nat) (fs : List Int) (kind k v : Int) (w : World) (hP : PairAt w pa m fs) (r o st : Int) (rb ob sb : Bool) (h1 : readF fs (placeN 1 k) m = (r, rb)) (h2 : readF fs (placeN 2 v) m = (o, ob)) (h3 : readF fs 13 m = (st, sb)) (code : Int) (d : Bool) (hc : NowCase kind v r o st code d) :
    Calls Tryz.prog 29 #[OpV kind k v, .slice pa m pc] w fun e w' => NowSays w code d e w' := by
  have HC : Hid (NowCase kind v r o st code d) := hc
  clear hc
  have HP : Hid (PairAt w pa m fs) := hP
  have H1 : Hid (readF fs (placeN 1 k) m = (r, rb) ∧ readF fs (placeN 2 v) m = (o, ob) ∧ readF fs 13 m = (st, sb)) := ⟨h1, h2, h3⟩
  clear hP h1 h2 h3
  obtain ⟨W1, hW1⟩ : ∃ W1, (w.alloc (.cells #[.int .i64 kind, .int .i64 k, .int .i64 v] 28)).alloc (.cells #[.bool false, .int .i64 0, .slice none 0 0, .slice none 0 0] 36) = W1 := ⟨_, rfl⟩
  have b1 : Below w.heap.size w W1 := by rw [← hW1]; exact ((Below.refl _ _).alloc (Nat.le_refl _) _).alloc (by simp) _
  have x0 : W1.heap[w.heap.size]? = some (.cells #[.int .i64 kind, .int .i64 k, .int .i64 v] 28 (0, 0)) := by rw [← hW1]; exact (Below.heap_alloc _ _ _ (by simp)).trans (by show (w.heap.push _)[w.heap.size]? = _; simp)
  have x1 : W1.heap[w.heap.size + 1]? = some (.cells #[.bool false, .int .i64 0, .slice none 0 0, .slice none 0 0] 36 (0, 0)) := by rw [← hW1]; show ((w.heap.push _).push _)[w.heap.size + 1]? = _; rw [Array.getElem?_push]; simp
  have HX : Hid (Below w.heap.size w W1 ∧ W1.heap[w.heap.size]? = some (.cells #[.int .i64 kind, .int .i64 k, .int .i64 v] 28 (0, 0)) ∧ W1.heap[w.heap.size + 1]? = some (.cells #[.bool false, .int .i64 0, .slice none 0 0, .slice none 0 0] 36 (0, 0)) ∧ w.heap.size + 1 < W1.heap.size) := ⟨b1, x0, x1, (Array.getElem?_eq_some_iff.1 x1).1⟩
  have CE : Hid (∀ {w' : World}, Below W1.heap.size W1 w' → (w'.cell? ⟨w.heap.size, 0, none⟩ = some (.int .i64 kind) ∧ w'.cell? ⟨w.heap.size, 1, none⟩ = some (.int .i64 k) ∧ w'.cell? ⟨w.heap.size, 2, none⟩ = some (.int .i64 v)) ∧ w'.heap[w.heap.size + 1]? = some (.cells #[.bool false, .int .i64 0, .slice none 0 0, .slice none 0 0] 36 (0, 0))) := fun hb => by
    have h0 := (hb.block _ (Nat.lt_of_succ_lt HX.out.2.2.2)).trans HX.out.2.1
    exact ⟨⟨by simp [World.cell?, h0], by simp [World.cell?, h0], by simp [World.cell?, h0]⟩, (hb.block _ HX.out.2.2.2).trans HX.out.2.2.1⟩
  clear b1 x0 x1
  obtain ⟨c0, c1, c2⟩ := (CE.out (Below.refl _ W1)).1
  go_enter Tryz.func29, Tryz.ntmps29
  go_wp2_with fail
  refine (specRowAt_any k _).mono ?_
  rintro e wp ⟨rfl, hwp⟩
  rw [hwp]
  clear hwp
  go_wp2_with fail
  refine (specRead_any pa m pc (placeN 1 k) fs _ (by first | exact HP.out.below (HX.out.1.trans ((Below.refl _ W1).mono (Nat.le_of_lt (Nat.lt_of_succ_lt HX.out.2.2.2)))) (Nat.le_refl _) | exact hW1 ▸ HP.out.below HX.out.1 (Nat.le_refl _) | (rw [hW1]; exact HP.out.below HX.out.1 (Nat.le_refl _)))).mono ?_
  rintro e w1 ⟨rfl, hb⟩
  rw [H1.out.1]
  have B1 : Hid (Below W1.heap.size W1 w1) := (by first | exact hb | exact hW1 ▸ hb)
  clear hb c0 c1 c2
  obtain ⟨⟨c0, c1, c2⟩, _⟩ := CE.out B1.out
  go_wp2_with fail
  refine (specOwnerAt_any v _).mono ?_
  rintro e wp ⟨rfl, hwp⟩
  rw [hwp]
  clear hwp
  go_wp2_with fail
  refine (specRead_any pa m pc (placeN 2 v) fs _ (by first | exact HP.out.below (HX.out.1.trans (B1.out.mono (Nat.le_of_lt (Nat.lt_of_succ_lt HX.out.2.2.2)))) (Nat.le_refl _) | exact hW1 ▸ HP.out.below HX.out.1 (Nat.le_refl _) | (rw [hW1]; exact HP.out.below HX.out.1 (Nat.le_refl _)))).mono ?_
  rintro e w2 ⟨rfl, hb⟩
  rw [H1.out.2.1]
  have B2 : Hid (Below W1.heap.size W1 w2) := B1.out.trans (hb.mono B1.out.size)
  clear hb c0 c1 c2
  obtain ⟨⟨c0, c1, c2⟩, _⟩ := CE.out B2.out
  go_wp2_with fail
  refine (specStateAt_any _).mono ?_
  rintro e wp ⟨rfl, hwp⟩
  rw [hwp]
  clear hwp
  go_wp2_with fail
  refine (specRead_any pa m pc 13 fs _ (by first | exact HP.out.below (HX.out.1.trans (B2.out.mono (Nat.le_of_lt (Nat.lt_of_succ_lt HX.out.2.2.2)))) (Nat.le_refl _) | exact hW1 ▸ HP.out.below HX.out.1 (Nat.le_refl _) | (rw [hW1]; exact HP.out.below HX.out.1 (Nat.le_refl _)))).mono ?_
  rintro e w3 ⟨rfl, hb⟩
  rw [H1.out.2.2]
  have B3 : Hid (Below W1.heap.size W1 w3) := B2.out.trans (hb.mono B2.out.size)
  clear hb c0 c1 c2
  obtain ⟨⟨c0, c1, c2⟩, _⟩ := CE.out B3.out
  obtain ⟨W4, hW4⟩ : ∃ W4, w3.alloc (.cells #[] 3) = W4 := ⟨_, rfl⟩
  have hb4 : Below w3.heap.size w3 W4 := by rw [← hW4]; exact (Below.refl _ _).alloc (Nat.le_refl _) _
  have B4 : Hid (Below W1.heap.size W1 W4) := B3.out.trans (hb4.mono B3.out.size)
  clear hb4 c0 c1 c2
  obtain ⟨⟨c0, c1, c2⟩, x3⟩ := CE.out B4.out
  have p0 : W4.cell? ⟨w.heap.size + 1, 0, none⟩ = some (.bool false) := by simp [World.cell?, x3]
  have p1 : W4.cell? ⟨w.heap.size + 1, 1, none⟩ = some (.int .i64 0) := by simp [World.cell?, x3]
  have p2 : W4.cell? ⟨w.heap.size + 1, 2, none⟩ = some (.slice none 0 0) := by simp [World.cell?, x3]
  have p3 : W4.cell? ⟨w.heap.size + 1, 3, none⟩ = some (.slice none 0 0) := by simp [World.cell?, x3]
  have q0 : W4.frozen? ⟨w.heap.size + 1, 0, none⟩ = false := by simp [World.frozen?, x3]
  have q1 : W4.frozen? ⟨w.heap.size + 1, 1, none⟩ = false := by simp [World.frozen?, x3]
  have q2 : W4.frozen? ⟨w.heap.size + 1, 2, none⟩ = false := by simp [World.frozen?, x3]
  have q3 : W4.frozen? ⟨w.heap.size + 1, 3, none⟩ = false := by simp [World.frozen?, x3]
  clear x3
  have HI : Hid (IntAt W4 (some ⟨w3.heap.size, 0, none⟩) 0 []) := ⟨rfl, by omega, .inl rfl⟩
  have hc := HC.out
  unfold NowCase at hc
  rcases hc with ⟨rfl, rfl, rfl, hr, hr1⟩ | ⟨rfl, rfl, rfl, hr, hr1, ho, ho1⟩ | ⟨rfl, rfl, rfl, hr, hr1, ho, ho1⟩ | ⟨rfl, rfl, rfl, hr, hr1⟩ | ⟨rfl, rfl, rfl, hr, hr1, hv⟩ | ⟨rfl, rfl, rfl, hr, hr1, hv, ho, ho1⟩ | ⟨rfl, rfl, rfl, hr, hr1, hv, ho, ho1⟩ | ⟨rfl, rfl, rfl, hr, hr1⟩ | ⟨rfl, rfl, rfl, hr, hr1⟩ | ⟨rfl, rfl, rfl, hr, hr1⟩ | ⟨rfl, rfl, rfl, ho, ho1⟩ | ⟨rfl, rfl, rfl⟩ | ⟨rfl, rfl, rfl, hs⟩ | ⟨rfl, rfl, rfl, hs⟩ | ⟨rfl, rfl, rfl, hs⟩ | ⟨rfl, rfl, rfl, hs⟩
  all_goals
    go_wp2
    (try simp only [Exit.inBlock, Exit.then])
    refine bodyPost_ret (by simp [results, Tryz.results29, go_sem, p0, p1, p2, p3]; try rfl) rfl ?_
    have hlo := HX.out.1.trans (B4.out.mono (Nat.le_of_lt (Nat.lt_of_succ_lt HX.out.2.2.2)))
    exact ⟨⟨_, _, rfl, ⟨rfl, by omega, .inl rfl⟩, fun q e => by cases e; have h1 := HX.out.2.2.2; have h2 := B3.out.size; show w.heap.size ≤ w3.heap.size; omega⟩, (((hlo.setCell (p := ⟨w.heap.size + 1, 0, none⟩) (by simp) _).setCell (p := ⟨w.heap.size + 1, 1, none⟩) (by simp) _).setCell (p := ⟨w.heap.size + 1, 2, none⟩) (by simp) _).setCell (p := ⟨w.heap.size + 1, 3, none⟩) (by simp) _⟩
section
variable (pa : Option Addr) (m pc : Nat) (fs : List Int) (k v : Int) (w : World) (hP : PairAt w pa m fs) (r o st : Int) (rb ob sb : Bool) (h1 : readF fs (placeN 1 k) m = (r, rb)) (h2 : readF fs (placeN 2 v) m = (o, ob)) (h3 : readF fs 13 m = (st, sb))
include hP h1 h2 h3
theorem now_1a (_hr : (r != 0) = true) (_hr' : (r == 0) = false) : Calls Tryz.prog 29 #[OpV 1 k v, .slice pa m pc] w fun e w' => NowSays w (1) true e w' :=
  now_case pa m pc fs 1 k v w hP r o st rb ob sb h1 h2 h3 _ _ (.inl ⟨rfl, rfl, rfl, _hr, _hr'⟩)
theorem now_1b (_hr : (r != 0) = false) (_hr' : (r == 0) = true) (_ho : (o != 0) = true) (_ho' : (o == 0) = false) : Calls Tryz.prog 29 #[OpV 1 k v, .slice pa m pc] w fun e w' => NowSays w (2) true e w' :=
  now_case pa m pc fs 1 k v w hP r o st rb ob sb h1 h2 h3 _ _ (.inr (.inl ⟨rfl, rfl, rfl, _hr, _hr', _ho, _ho'⟩))
theorem now_1c (_hr : (r != 0) = false) (_hr' : (r == 0) = true) (_ho : (o != 0) = false) (_ho' : (o == 0) = true) : Calls Tryz.prog 29 #[OpV 1 k v, .slice pa m pc] w fun e w' => NowSays w (-1) false e w' :=
  now_case pa m pc fs 1 k v w hP r o st rb ob sb h1 h2 h3 _ _ (.inr (.inr (.inl ⟨rfl, rfl, rfl, _hr, _hr', _ho, _ho'⟩)))
theorem now_2a (_hr : (r != 0) = false) (_hr' : (r == 0) = true) : Calls Tryz.prog 29 #[OpV 2 k v, .slice pa m pc] w fun e w' => NowSays w (3) true e w' :=
  now_case pa m pc fs 2 k v w hP r o st rb ob sb h1 h2 h3 _ _ (.inr (.inr (.inr (.inl ⟨rfl, rfl, rfl, _hr, _hr'⟩))))
theorem now_2b (_hr : (r != 0) = true) (_hr' : (r == 0) = false) (_hv : (r == v) = true) : Calls Tryz.prog 29 #[OpV 2 k v, .slice pa m pc] w fun e w' => NowSays w (0) true e w' :=
  now_case pa m pc fs 2 k v w hP r o st rb ob sb h1 h2 h3 _ _ (.inr (.inr (.inr (.inr (.inl ⟨rfl, rfl, rfl, _hr, _hr', _hv⟩)))))
theorem now_2c (_hr : (r != 0) = true) (_hr' : (r == 0) = false) (_hv : (r == v) = false) (_ho : (o != 0) = true) (_ho' : (o == 0) = false) : Calls Tryz.prog 29 #[OpV 2 k v, .slice pa m pc] w fun e w' => NowSays w (2) true e w' :=
  now_case pa m pc fs 2 k v w hP r o st rb ob sb h1 h2 h3 _ _ (.inr (.inr (.inr (.inr (.inr (.inl ⟨rfl, rfl, rfl, _hr, _hr', _hv, _ho, _ho'⟩))))))
theorem now_2d (_hr : (r != 0) = true) (_hr' : (r == 0) = false) (_hv : (r == v) = false) (_ho : (o != 0) = false) (_ho' : (o == 0) = true) : Calls Tryz.prog 29 #[OpV 2 k v, .slice pa m pc] w fun e w' => NowSays w (-1) false e w' :=
  now_case pa m pc fs 2 k v w hP r o st rb ob sb h1 h2 h3 _ _ (.inr (.inr (.inr (.inr (.inr (.inr (.inl ⟨rfl, rfl, rfl, _hr, _hr', _hv, _ho, _ho'⟩)))))))
theorem now_3a (_hr : (r != 0) = false) (_hr' : (r == 0) = true) : Calls Tryz.prog 29 #[OpV 3 k v, .slice pa m pc] w fun e w' => NowSays w (3) true e w' :=
  now_case pa m pc fs 3 k v w hP r o st rb ob sb h1 h2 h3 _ _ (.inr (.inr (.inr (.inr (.inr (.inr (.inr (.inl ⟨rfl, rfl, rfl, _hr, _hr'⟩))))))))
theorem now_3b (_hr : (r != 0) = true) (_hr' : (r == 0) = false) : Calls Tryz.prog 29 #[OpV 3 k v, .slice pa m pc] w fun e w' => NowSays w (-1) false e w' :=
  now_case pa m pc fs 3 k v w hP r o st rb ob sb h1 h2 h3 _ _ (.inr (.inr (.inr (.inr (.inr (.inr (.inr (.inr (.inl ⟨rfl, rfl, rfl, _hr, _hr'⟩)))))))))
theorem now_4a (_hr : (r != 0) = false) (_hr' : (r == 0) = true) : Calls Tryz.prog 29 #[OpV 4 k v, .slice pa m pc] w fun e w' => NowSays w (3) true e w' :=
  now_case pa m pc fs 4 k v w hP r o st rb ob sb h1 h2 h3 _ _ (.inr (.inr (.inr (.inr (.inr (.inr (.inr (.inr (.inr (.inl ⟨rfl, rfl, rfl, _hr, _hr'⟩))))))))))
theorem now_5a (_ho : (o != 0) = false) (_ho' : (o == 0) = true) : Calls Tryz.prog 29 #[OpV 5 k v, .slice pa m pc] w fun e w' => NowSays w (3) true e w' :=
  now_case pa m pc fs 5 k v w hP r o st rb ob sb h1 h2 h3 _ _ (.inr (.inr (.inr (.inr (.inr (.inr (.inr (.inr (.inr (.inr (.inl ⟨rfl, rfl, rfl, _ho, _ho'⟩)))))))))))
theorem now_7a : Calls Tryz.prog 29 #[OpV 7 k v, .slice pa m pc] w fun e w' => NowSays w (-1) false e w' :=
  now_case pa m pc fs 7 k v w hP r o st rb ob sb h1 h2 h3 _ _ (.inr (.inr (.inr (.inr (.inr (.inr (.inr (.inr (.inr (.inr (.inr (.inl ⟨rfl, rfl, rfl⟩))))))))))))
theorem now_8a (_hs : (st != 0) = true) : Calls Tryz.prog 29 #[OpV 8 k v, .slice pa m pc] w fun e w' => NowSays w (4) true e w' :=
  now_case pa m pc fs 8 k v w hP r o st rb ob sb h1 h2 h3 _ _ (.inr (.inr (.inr (.inr (.inr (.inr (.inr (.inr (.inr (.inr (.inr (.inr (.inl ⟨rfl, rfl, rfl, _hs⟩)))))))))))))
theorem now_8b (_hs : (st != 0) = false) : Calls Tryz.prog 29 #[OpV 8 k v, .slice pa m pc] w fun e w' => NowSays w (-1) false e w' :=
  now_case pa m pc fs 8 k v w hP r o st rb ob sb h1 h2 h3 _ _ (.inr (.inr (.inr (.inr (.inr (.inr (.inr (.inr (.inr (.inr (.inr (.inr (.inr (.inl ⟨rfl, rfl, rfl, _hs⟩))))))))))))))
theorem now_10a (_hs : (st != 5) = true) : Calls Tryz.prog 29 #[OpV 10 k v, .slice pa m pc] w fun e w' => NowSays w (4) true e w' :=
  now_case pa m pc fs 10 k v w hP r o st rb ob sb h1 h2 h3 _ _ (.inr (.inr (.inr (.inr (.inr (.inr (.inr (.inr (.inr (.inr (.inr (.inr (.inr (.inr (.inl ⟨rfl, rfl, rfl, _hs⟩)))))))))))))))
theorem now_10b (_hs : (st != 5) = false) : Calls Tryz.prog 29 #[OpV 10 k v, .slice pa m pc] w fun e w' => NowSays w (-1) false e w' :=
  now_case pa m pc fs 10 k v w hP r o st rb ob sb h1 h2 h3 _ _ (.inr (.inr (.inr (.inr (.inr (.inr (.inr (.inr (.inr (.inr (.inr (.inr (.inr (.inr (.inr (⟨rfl, rfl, rfl, _hs⟩))))))))))))))))
end
end
end Go.Proofs.YtenlapppaimkkabGreatDoor
