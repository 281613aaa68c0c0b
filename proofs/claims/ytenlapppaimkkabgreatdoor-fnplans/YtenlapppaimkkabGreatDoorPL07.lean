/- Texts joined: Moves. -/
import Derived.Test.YtenlapppaimkkabGreatDoorPL04
import Derived.Test.YtenlapppaimkkabGreatDoorPL03
set_option maxHeartbeats 8000000
set_option maxRecDepth 100000
namespace Go.Proofs.YtenlapppaimkkabGreatDoor
section
open Go.ChangeShapes Go.WideShapes Go.ChangeAt Go.RowKit
noncomputable def movesL : List Oper := match Tryz.f125.body with
  | some (.seq _ (.seq (.region _ ops _) _)) => ops.toList
  | _ => []
theorem eqbI (x y : Int) : (x = y ∧ (x == y) = true) ∨ (¬ x = y ∧ (x == y) = false) := by
  by_cases h : x = y
  · exact .inl ⟨h, by simpa using h⟩
  · exact .inr ⟨h, by simpa using h⟩
theorem moves_any (a : Option Addr) (n c : Nat) (F : Value) (wh : Bool) (x y : Int) (fs : List Int) (go : Ent → Bool) (ts : List TypeId) (J Jx : List Ent → World → Prop) (pre : List Ent) (W0 W : World)
    (hG : Goes F wh a n c fs go W0 ts J Jx) (hB : Base W0 a n fs) (hl : pre.length ≤ 80) (hW : Below W0.heap.size W0 W) (hJ : J pre W) :
    Calls Tryz.prog 125 #[.agg #[.slice a n c, F, .bool wh], .int .i64 x, .int .i64 y] W fun e W' => ∃ b, e = .returned (.bool b) ∧ Fin wh go W0.heap.size ts J Jx W (moveS fs n x y) pre b W' := by
  have HG : Hid (Goes F wh a n c fs go W0 ts J Jx) := hG
  have HL : Hid (pre.length ≤ 80) := hl
  clear hl
  obtain ⟨w0, hw0⟩ : ∃ w0, (W.alloc (.cells #[.slice a n c, F, .bool wh] 110)).drew = w0 := ⟨_, rfl⟩
  have hx : Below W.heap.size W w0 := by rw [← hw0]; exact ((Below.refl _ _).alloc (Nat.le_refl _) _).drew
  have bx : w0.heap[W.heap.size]? = some (tellCells a n c F wh) := by rw [← hw0]; exact World.alloc_heap_new W _
  have HS0 : Hid (Sits W0.heap.size ts J a n fs W0 W w0 pre) := (show Sits W0.heap.size ts J a n fs W0 W W pre from ⟨hB, hW, hJ, Kp.of_below (Below.refl _ _) hW.size⟩).on hG.gj hx
  have KB0 : Hid (w0.heap[W.heap.size]? = some (tellCells a n c F wh)) := bx
  clear hG hB hW hJ hx bx
  have boxS : ∀ {w' : World}, w'.heap[W.heap.size]? = some (tellCells a n c F wh) → w'.cell? ⟨W.heap.size, 0, none⟩ = some (.slice a n c) ∧ w'.cell? ⟨W.heap.size, 1, none⟩ = some F ∧ w'.cell? ⟨W.heap.size, 2, none⟩ = some (.bool wh) := fun h => tbox_of h
  go_enter Tryz.func125, Tryz.ntmps125
  go_wp2_with fail
  change (Code.region _ (List.toArray movesL) true).wp _ _ _ _
  refine wp_region_held_drew (S := fun w' => w'.cell? ⟨W.heap.size, 0, none⟩ = some (.slice a n c) ∧ w'.cell? ⟨W.heap.size, 1, none⟩ = some F ∧ w'.cell? ⟨W.heap.size, 2, none⟩ = some (.bool wh)) (by kernel_rfl) ?_ (fun hHeld => ?_)
  · rw [hw0]; exact boxS KB0.out
  rw [hw0] at hHeld ⊢
  rcases eqbI x y with ⟨he, heb⟩ | ⟨he, heb⟩
  · have HE : Hid (x = y) := he
    clear he
    refine takeH 0 (.int .i64 x) ?_ hHeld ?_
    · intro w hSw; obtain ⟨s1, s2, s3⟩ := hSw; go_simp
    simp only [Act.put, List.setIfInBounds_toArray, List.set_cons_zero, List.set_cons_succ]
    refine takeH 1 (.int .i64 y) ?_ hHeld ?_
    · intro w hSw; obtain ⟨s1, s2, s3⟩ := hSw; go_simp
    simp only [Act.put, List.setIfInBounds_toArray, List.set_cons_zero, List.set_cons_succ]
    refine takeH 2 (.bool true) ?_ hHeld ?_
    · intro w hSw; obtain ⟨s1, s2, s3⟩ := hSw; go_simp
    simp only [Act.put, List.setIfInBounds_toArray, List.set_cons_zero, List.set_cons_succ]
    refine wpAnyH_end hHeld [3, 4, 5, 6, 7, 8, 9, 10, 11, 12, 13, 14, 15] { tmps := #[.agg #[.slice a n c, F, .bool wh], .int .i64 x, .int .i64 y, .pointer (some ⟨W.heap.size, 0, none⟩), undef, undef, .bool true, .int .i64 x, .int .i64 y, .bool true, .bool true, undef, undef, undef, undef, undef, undef, undef, undef, undef, undef, .bool true], defers := [] } (by kernel_rfl) (by kernel_rfl) (by kernel_rfl) (by kernel_rfl) (by intro _ _ d _ _ h; cases d <;> exact h) ?_
    go_wp2
    go_ret
    rw [show moveS fs n x y = [] from if_pos HE.out]
    exact ⟨true, rfl, rfl, HS0.out.j, HS0.out.kp⟩
  · have HE : Hid (¬ x = y) := he
    clear he
    refine takeH 0 (.int .i64 x) ?_ hHeld ?_
    · intro w hSw; obtain ⟨s1, s2, s3⟩ := hSw; go_simp
    simp only [Act.put, List.setIfInBounds_toArray, List.set_cons_zero, List.set_cons_succ]
    refine takeH 1 (.int .i64 y) ?_ hHeld ?_
    · intro w hSw; obtain ⟨s1, s2, s3⟩ := hSw; go_simp
    simp only [Act.put, List.setIfInBounds_toArray, List.set_cons_zero, List.set_cons_succ]
    refine takeH 2 (.bool false) ?_ hHeld ?_
    · intro w hSw; obtain ⟨s1, s2, s3⟩ := hSw; go_simp
    simp only [Act.put, List.setIfInBounds_toArray, List.set_cons_zero, List.set_cons_succ]
    refine takeH 3 (.bool false) ?_ hHeld ?_
    · intro w hSw; obtain ⟨s1, s2, s3⟩ := hSw; go_simp
    simp only [Act.put, List.setIfInBounds_toArray, List.set_cons_zero, List.set_cons_succ]
    refine takeH 4 (.agg #[.slice a n c, F, .bool wh]) ?_ hHeld ?_
    · intro w hSw; obtain ⟨s1, s2, s3⟩ := hSw; go_simp
    simp only [Act.put, List.setIfInBounds_toArray, List.set_cons_zero, List.set_cons_succ]
    refine takeH 5 (.int .i64 x) ?_ hHeld ?_
    · intro w hSw; obtain ⟨s1, s2, s3⟩ := hSw; go_simp
    simp only [Act.put, List.setIfInBounds_toArray, List.set_cons_zero, List.set_cons_succ]
    refine wpAnyH_ready (rs := [6]) (by kernel_rfl) (by simp) ?_
    refine AllReadyH.cons (o := _) (by rw [List.getElem?_toArray]; exact rfl) (fun K hK => ?_) AllReadyH.nil
    rw [if_pos (by kernel_rfl)]
    go_simp
    refine (implCountAt_any (x) _ HS0.out.names).mono ?_
    rintro e w1 ⟨rfl, hb⟩
    have HS1 : Hid (Sits W0.heap.size ts J a n fs W0 W w1 pre) := HS0.out.on HG.out.gj hb
    have KB1 : Hid (w1.heap[W.heap.size]? = some (tellCells a n c F wh)) := (hb.block _ (Array.getElem?_eq_some_iff.1 KB0.out).1).trans KB0.out
    refine hK.out _ _ ?_ (fun hHeld => ?_)
    · exact boxS KB1.out
    clear hK K hb HS0 KB0
    refine wpAnyH_ready (rs := [7]) (by kernel_rfl) (by simp) ?_
    refine AllReadyH.cons (o := _) (by rw [List.getElem?_toArray]; exact rfl) (fun K hK => ?_) AllReadyH.nil
    rw [if_pos (by kernel_rfl)]
    go_simp
    refine (shrinks_any a n c F wh (placeN 3 x) fs go ts J Jx pre W0 _ HG.out HS1.out.base (lenLt (HL.out) (by decide)) HS1.out.low HS1.out.j).mono ?_
    rintro e w2 ⟨b, rfl, hF⟩
    have KB2 : Hid (w2.heap[W.heap.size]? = some (tellCells a n c F wh)) := hF.kx.keep _ _ _ _ KB1.out (HG.out.tt _ (by simp))
    have HF : Hid (Fin wh go W0.heap.size ts J Jx w1 [shrinkS fs n (placeN 3 x)] pre b w2) := hF
    clear hF
    refine hK.out _ _ ?_ (fun hHeld => ?_)
    · exact boxS KB2.out
    clear hK K
    cases b with
    | false =>
      refine wpAnyH_end hHeld [8, 9, 10, 11, 12, 13, 14, 15] { tmps := #[.agg #[.slice a n c, F, .bool wh], .int .i64 x, .int .i64 y, .pointer (some ⟨W.heap.size, 0, none⟩), undef, undef, .bool false, .int .i64 x, .int .i64 y, .bool false, .bool false, .agg #[.slice a n c, F, .bool wh], .int .i64 x, .int .i64 (placeN 3 (x)), .bool false, .bool false, undef, undef, undef, undef, .bool false, .bool false], defers := [] } (by kernel_rfl) (by kernel_rfl) (by kernel_rfl) (by kernel_rfl) (by intro _ _ d _ _ h; cases d <;> exact h) ?_
      go_wp2
      go_ret
      rw [show moveS fs n x y = [shrinkS fs n (placeN 3 x), growS fs n (placeN 3 y)] from if_neg HE.out]
      exact ⟨false, rfl, Fin.no (Fin.kp HS1.out.kp HF.out) _⟩
    | true =>
      have PT1 : Hid _ := Fin.stepped (Fin.kp HS1.out.kp HF.out)
      have PJ : _ := Fin.stepped HF.out
      have HS2 : Hid (Sits W0.heap.size ts J a n fs W0 W w2 (pre ++ wordsT wh [shrinkS fs n (placeN 3 x)])) := HS1.out.told PJ.1 PJ.2.1
      clear PJ HF HS1 KB1
      refine takeH 8 (.bool true) ?_ hHeld ?_
      · intro w hSw; obtain ⟨s1, s2, s3⟩ := hSw; go_simp
      simp only [Act.put, List.setIfInBounds_toArray, List.set_cons_zero, List.set_cons_succ]
      refine takeH 9 (.agg #[.slice a n c, F, .bool wh]) ?_ hHeld ?_
      · intro w hSw; obtain ⟨s1, s2, s3⟩ := hSw; go_simp
      simp only [Act.put, List.setIfInBounds_toArray, List.set_cons_zero, List.set_cons_succ]
      refine takeH 10 (.int .i64 y) ?_ hHeld ?_
      · intro w hSw; obtain ⟨s1, s2, s3⟩ := hSw; go_simp
      simp only [Act.put, List.setIfInBounds_toArray, List.set_cons_zero, List.set_cons_succ]
      refine wpAnyH_ready (rs := [11]) (by kernel_rfl) (by simp) ?_
      refine AllReadyH.cons (o := _) (by rw [List.getElem?_toArray]; exact rfl) (fun K hK => ?_) AllReadyH.nil
      rw [if_pos (by kernel_rfl)]
      go_simp
      refine (implCountAt_any (y) _ HS2.out.names).mono ?_
      rintro e w3 ⟨rfl, hb⟩
      have HS3 : Hid (Sits W0.heap.size ts J a n fs W0 W w3 (pre ++ wordsT wh [shrinkS fs n (placeN 3 x)])) := HS2.out.on HG.out.gj hb
      have KB3 : Hid (w3.heap[W.heap.size]? = some (tellCells a n c F wh)) := (hb.block _ (Array.getElem?_eq_some_iff.1 KB2.out).1).trans KB2.out
      refine hK.out _ _ ?_ (fun hHeld => ?_)
      · exact boxS KB3.out
      clear hK K hb HS2 KB2
      refine wpAnyH_ready (rs := [12]) (by kernel_rfl) (by simp) ?_
      refine AllReadyH.cons (o := _) (by rw [List.getElem?_toArray]; exact rfl) (fun K hK => ?_) AllReadyH.nil
      rw [if_pos (by kernel_rfl)]
      go_simp
      refine (grows_any a n c F wh (placeN 3 y) fs go ts J Jx (pre ++ wordsT wh [shrinkS fs n (placeN 3 x)]) W0 _ HG.out HS3.out.base (lenLt (len1 (HL.out)) (by decide)) HS3.out.low HS3.out.j).mono ?_
      rintro e w4 ⟨b, rfl, hF⟩
      have KB4 : Hid (w4.heap[W.heap.size]? = some (tellCells a n c F wh)) := hF.kx.keep _ _ _ _ KB3.out (HG.out.tt _ (by simp))
      have HF : Hid (Fin wh go W0.heap.size ts J Jx w3 [growS fs n (placeN 3 y)] (pre ++ wordsT wh [shrinkS fs n (placeN 3 x)]) b w4) := hF
      clear hF
      refine hK.out _ _ ?_ (fun hHeld => ?_)
      · exact boxS KB4.out
      clear hK K
      refine takeH 13 (.bool b) ?_ hHeld ?_
      · intro w hSw; obtain ⟨s1, s2, s3⟩ := hSw; go_simp
      simp only [Act.put, List.setIfInBounds_toArray, List.set_cons_zero, List.set_cons_succ]
      refine takeH 14 (.bool b) ?_ hHeld ?_
      · intro w hSw; obtain ⟨s1, s2, s3⟩ := hSw; go_simp
      simp only [Act.put, List.setIfInBounds_toArray, List.set_cons_zero, List.set_cons_succ]
      refine takeH 15 (.bool b) ?_ hHeld ?_
      · intro w hSw; obtain ⟨s1, s2, s3⟩ := hSw; go_simp
      simp only [Act.put, List.setIfInBounds_toArray, List.set_cons_zero, List.set_cons_succ]
      refine wpAnyH_done (by kernel_rfl) ?_ _
      go_wp2
      go_ret
      rw [show moveS fs n x y = [shrinkS fs n (placeN 3 x), growS fs n (placeN 3 y)] from if_neg HE.out]
      exact ⟨b, rfl, PT1.out.2.2 _ _ _ (Fin.kp HS3.out.kp HF.out)⟩
end
end Go.Proofs.YtenlapppaimkkabGreatDoor
