/- Texts joined: SetT. -/
import Derived.Test.YtenlapppaimkkabGreatDoorPL04
import Derived.Test.YtenlapppaimkkabGreatDoorPL07
import Derived.Test.YtenlapppaimkkabGreatDoorPL03
set_option maxHeartbeats 8000000
set_option maxRecDepth 100000
namespace Go.Proofs.YtenlapppaimkkabGreatDoor
section
open Go.ChangeShapes Go.WideShapes Go.ChangeAt Go.RowKit
noncomputable def setL : List Oper := match Tryz.f102.body with
  | some (.seq _ (.seq _ (.seq (.region _ ops _) _))) => ops.toList
  | _ => []
theorem set_any (a : Option Addr) (n c : Nat) (F : Value) (wh : Bool) (kd k v : Int) (fs : List Int) (go : Ent → Bool) (ts : List TypeId) (J Jx : List Ent → World → Prop) (pre : List Ent) (W0 W : World)
    (hG : Goes F wh a n c fs go W0 ts J Jx) (hB : Base W0 a n fs) (hl : pre.length ≤ 50) (hW : Below W0.heap.size W0 W) (hJ : J pre W) (hk : 0 ≤ k ∧ k ≤ 3) :
    Calls Tryz.prog 102 #[.agg #[.slice a n c, F, .bool wh], .agg #[.int .i64 kd, .int .i64 k, .int .i64 v]] W fun e W' => ∃ b, e = .returned (.bool b) ∧ Fin wh go W0.heap.size ts J Jx W (setS wh fs n k v) pre b W' := by
  have HG : Hid (Goes F wh a n c fs go W0 ts J Jx) := hG
  have HL : Hid (pre.length ≤ 50) := hl
  clear hl
  obtain ⟨wa, hwa⟩ : ∃ wa, ((W.alloc (.cells #[.slice a n c, F, .bool wh] 110)).alloc (.cells #[.int .i64 kd, .int .i64 k, .int .i64 v] 94)) = wa := ⟨_, rfl⟩
  have hx : Below W.heap.size W wa := by rw [← hwa]; exact ((Below.refl _ _).alloc (Nat.le_refl _) _).alloc (by simp) _
  have bx : wa.heap[W.heap.size]? = some (tellCells a n c F wh) := by rw [← hwa]; exact (Below.heap_alloc _ _ _ (by simp)).trans (World.alloc_heap_new W _)
  have by' : wa.heap[W.heap.size + 1]? = some (.cells #[.int .i64 kd, .int .i64 k, .int .i64 v] 94 (0, 0)) := by
    rw [← hwa]; have := World.alloc_heap_new (W.alloc (.cells #[.slice a n c, F, .bool wh] 110)) (.cells #[.int .i64 kd, .int .i64 k, .int .i64 v] 94); rw [World.size_alloc] at this; exact this
  have HSa : Hid (Sits W0.heap.size ts J a n fs W0 W wa pre) := (show Sits W0.heap.size ts J a n fs W0 W W pre from ⟨hB, hW, hJ, Kp.of_below (Below.refl _ _) hW.size⟩).on hG.gj hx
  have KBa : Hid (wa.heap[W.heap.size]? = some (tellCells a n c F wh) ∧ wa.heap[W.heap.size + 1]? = some (.cells #[.int .i64 kd, .int .i64 k, .int .i64 v] 94 (0, 0))) := ⟨bx, by'⟩
  clear hG hB hW hJ hx bx by'
  have WK : Hid (IntKind.i64.wrap (k + 1) = k + 1) := (by rw [IntKind.wrap_i64]; omega : IntKind.i64.wrap (k + 1) = k + 1)
  have boxS : ∀ {w' : World}, (w'.heap[W.heap.size]? = some (tellCells a n c F wh) ∧ w'.heap[W.heap.size + 1]? = some (.cells #[.int .i64 kd, .int .i64 k, .int .i64 v] 94 (0, 0))) → (w'.cell? ⟨W.heap.size, 0, none⟩ = some (.slice a n c) ∧ w'.cell? ⟨W.heap.size, 1, none⟩ = some F ∧ w'.cell? ⟨W.heap.size, 2, none⟩ = some (.bool wh)) ∧ w'.cell? ⟨W.heap.size + 1, 1, none⟩ = some (.int .i64 k) ∧ w'.cell? ⟨W.heap.size + 1, 2, none⟩ = some (.int .i64 v) := fun h => ⟨tbox_of h.1, by simp [World.cell?, h.2], by simp [World.cell?, h.2]⟩
  obtain ⟨⟨c01, c02, c03⟩, c04, c05⟩ := boxS KBa.out
  go_enter Tryz.func102, Tryz.ntmps102
  go_wp2_with fail
  refine (knownRow_any a n c k fs _ (by first | exact HSa.out.names | exact hwa ▸ HSa.out.names) (by first | exact HSa.out.pairs | exact hwa ▸ HSa.out.pairs)).mono ?_
  rintro e wb ⟨rfl, hb⟩
  have HSb : Hid (Sits W0.heap.size ts J a n fs W0 W wb pre) := HSa.out.on HG.out.gj (by first | exact hb | exact hwa ▸ hb)
  have hb' : Below wa.heap.size wa wb := by first | exact hb | exact hwa ▸ hb
  obtain ⟨w0, hw0⟩ : ∃ w0, wb.drew = w0 := ⟨_, rfl⟩
  have hd : Below wb.heap.size wb w0 := by rw [← hw0]; exact (Below.refl _ _).drew
  have HS0 : Hid (Sits W0.heap.size ts J a n fs W0 W w0 pre) := HSb.out.on HG.out.gj hd
  have KB0 : Hid (w0.heap[W.heap.size]? = some (tellCells a n c F wh) ∧ w0.heap[W.heap.size + 1]? = some (.cells #[.int .i64 kd, .int .i64 k, .int .i64 v] 94 (0, 0))) := ⟨(hd.block _ (Nat.lt_of_lt_of_le (Array.getElem?_eq_some_iff.1 KBa.out.1).1 hb'.size)).trans ((hb'.block _ (Array.getElem?_eq_some_iff.1 KBa.out.1).1).trans KBa.out.1), (hd.block _ (Nat.lt_of_lt_of_le (Array.getElem?_eq_some_iff.1 KBa.out.2).1 hb'.size)).trans ((hb'.block _ (Array.getElem?_eq_some_iff.1 KBa.out.2).1).trans KBa.out.2)⟩
  clear hb hb' hd HSb
  go_wp2_with fail
  change (Code.region _ (List.toArray setL) true).wp _ _ _ _
  refine wp_region_held_drew (S := fun w' => (w'.cell? ⟨W.heap.size, 0, none⟩ = some (.slice a n c) ∧ w'.cell? ⟨W.heap.size, 1, none⟩ = some F ∧ w'.cell? ⟨W.heap.size, 2, none⟩ = some (.bool wh)) ∧ w'.cell? ⟨W.heap.size + 1, 1, none⟩ = some (.int .i64 k) ∧ w'.cell? ⟨W.heap.size + 1, 2, none⟩ = some (.int .i64 v)) (by as_aux_lemma => kernel_rfl) ?_ (fun hHeld => ?_)
  · rw [hw0]; exact boxS KB0.out
  rw [hw0] at hHeld ⊢
  refine takeH 0 (.agg #[.slice a n c, F, .bool wh]) ?_ hHeld ?_
  · intro w hSw; obtain ⟨⟨s1, s2, s3⟩, s4, s5⟩ := hSw; go_simp
  simp only [Act.put, List.setIfInBounds_toArray, List.set_cons_zero, List.set_cons_succ]
  refine takeH 1 (.pointer (some ⟨W.heap.size + 1, 1, none⟩)) ?_ hHeld ?_
  · intro w hSw; obtain ⟨⟨s1, s2, s3⟩, s4, s5⟩ := hSw; go_simp
  simp only [Act.put, List.setIfInBounds_toArray, List.set_cons_zero, List.set_cons_succ]
  refine takeH 2 (.int .i64 k) ?_ hHeld ?_
  · intro w hSw; obtain ⟨⟨s1, s2, s3⟩, s4, s5⟩ := hSw; go_simp
  simp only [Act.put, List.setIfInBounds_toArray, List.set_cons_zero, List.set_cons_succ]
  refine takeH 4 (.pointer (some ⟨W.heap.size + 1, 2, none⟩)) ?_ hHeld ?_
  · intro w hSw; obtain ⟨⟨s1, s2, s3⟩, s4, s5⟩ := hSw; go_simp
  simp only [Act.put, List.setIfInBounds_toArray, List.set_cons_zero, List.set_cons_succ]
  refine takeH 5 (.int .i64 v) ?_ hHeld ?_
  · intro w hSw; obtain ⟨⟨s1, s2, s3⟩, s4, s5⟩ := hSw; go_simp
  simp only [Act.put, List.setIfInBounds_toArray, List.set_cons_zero, List.set_cons_succ]
  refine wpAnyH_ready (rs := [3]) (by as_aux_lemma => kernel_rfl) (by simp) ?_
  refine AllReadyH.cons (o := _) (by rw [List.getElem?_toArray]; exact rfl) (fun K hK => ?_) AllReadyH.nil
  rw [if_pos (by as_aux_lemma => kernel_rfl)]
  go_simp
  refine (implRowAt_any (k) _ HS0.out.names).mono ?_
  rintro e w1 ⟨rfl, hb⟩
  have HS1 : Hid (Sits W0.heap.size ts J a n fs W0 W w1 pre) := HS0.out.on HG.out.gj hb
  have KB1 : Hid (w1.heap[W.heap.size]? = some (tellCells a n c F wh) ∧ w1.heap[W.heap.size + 1]? = some (.cells #[.int .i64 kd, .int .i64 k, .int .i64 v] 94 (0, 0))) := ⟨(hb.block _ (Array.getElem?_eq_some_iff.1 KB0.out.1).1).trans KB0.out.1, (hb.block _ (Array.getElem?_eq_some_iff.1 KB0.out.2).1).trans KB0.out.2⟩
  refine hK.out _ _ ?_ (fun hHeld => ?_)
  · exact boxS KB1.out
  clear hK K hb HS0 KB0
  refine wpAnyH_ready (rs := [6]) (by as_aux_lemma => kernel_rfl) (by simp) ?_
  refine AllReadyH.cons (o := _) (by rw [List.getElem?_toArray]; exact rfl) (fun K hK => ?_) AllReadyH.nil
  rw [if_pos (by as_aux_lemma => kernel_rfl)]
  go_simp
  refine (HG.out.bec (placeN 1 k) (v) pre _ (lenLt (HL.out) (by decide)) HS1.out.low HS1.out.j).mono ?_
  rintro e w2 ⟨b, rfl, hF⟩
  have KB2 : Hid (w2.heap[W.heap.size]? = some (tellCells a n c F wh) ∧ w2.heap[W.heap.size + 1]? = some (.cells #[.int .i64 kd, .int .i64 k, .int .i64 v] 94 (0, 0))) := ⟨hF.kx.keep _ _ _ _ KB1.out.1 (HG.out.tt _ (by simp)), hF.kx.keep _ _ _ _ KB1.out.2 (HG.out.tt _ (by simp))⟩
  have HF : Hid (Fin wh go W0.heap.size ts J Jx w1 [becS fs n (placeN 1 k) (v)] pre b w2) := hF
  clear hF
  refine hK.out _ _ ?_ (fun hHeld => ?_)
  · exact boxS KB2.out
  clear hK K
  cases b with
  | false =>
    refine wpAnyH_end hHeld [7, 8, 9, 10, 11, 12, 13, 14, 15, 16, 17, 18, 19, 20, 21, 22, 23, 24, 25, 26, 27, 28, 29, 30, 31, 32, 33, 34, 35, 36, 37, 38, 39, 40, 41, 42, 43, 44, 45, 46, 47, 48, 49, 50, 51, 52, 53, 54, 55, 56, 57, 58, 59, 60, 61, 62, 63, 64, 65, 66, 67, 68, 69, 70, 71, 72, 73, 74, 75, 76, 77] { tmps := #[.agg #[.slice a n c, F, .bool wh], .agg #[.int .i64 kd, .int .i64 k, .int .i64 v], .pointer (some ⟨W.heap.size, 0, none⟩), .pointer (some ⟨W.heap.size + 1, 0, none⟩), .bool false, .int .i64 (rd fs n (placeN 1 (k))), .pointer (some ⟨W.heap.size, 0, none⟩), .slice a n c, .pointer (some ⟨W.heap.size + 1, 1, none⟩), .int .i64 k, .int .i64 (rd fs n (placeN 1 (k))), .agg #[.slice a n c, F, .bool wh], .pointer (some ⟨W.heap.size + 1, 1, none⟩), .int .i64 k, .int .i64 (placeN 1 (k)), .pointer (some ⟨W.heap.size + 1, 2, none⟩), .int .i64 v, .bool false, .bool false, undef, undef, .bool false, .bool false, undef, undef, undef, undef, .bool false, .bool false, undef, undef, undef, undef, undef, undef, undef, undef, .bool false, .bool false, undef, undef, undef, undef, undef, undef, .bool false, .bool false, undef, undef, undef, undef, .bool false, .bool false, undef, undef, undef, undef, undef, undef, undef, .bool false, .bool false, undef, undef, undef, .bool false, .bool false, undef, undef, undef, undef, .bool false, .bool false, undef, undef, undef, undef, .bool false, .bool false, undef, undef, undef, undef, undef, undef, undef, undef, .bool false], defers := [] } (by as_aux_lemma => kernel_rfl) (by as_aux_lemma => kernel_rfl) (by as_aux_lemma => kernel_rfl) (by as_aux_lemma => kernel_rfl) (by intro _ _ d _ _ h; cases d <;> exact h) ?_
    go_wp2
    go_ret
    exact ⟨false, rfl, Fin.no (Fin.kp HS1.out.kp HF.out) _⟩
  | true =>
    have PT1 : Hid _ := Fin.stepped (Fin.kp HS1.out.kp HF.out)
    have PJ : _ := Fin.stepped HF.out
    have HS2 : Hid (Sits W0.heap.size ts J a n fs W0 W w2 (pre ++ wordsT wh [becS fs n (placeN 1 k) (v)])) := HS1.out.told PJ.1 PJ.2.1
    clear PJ HF HS1 KB1
    refine takeH 7 (.bool true) ?_ hHeld ?_
    · intro w hSw; obtain ⟨⟨s1, s2, s3⟩, s4, s5⟩ := hSw; go_simp
    simp only [Act.put, List.setIfInBounds_toArray, List.set_cons_zero, List.set_cons_succ]
    refine takeH 8 (.int .i64 (rd fs n (placeN 1 (k)))) ?_ hHeld ?_
    · intro w hSw; obtain ⟨⟨s1, s2, s3⟩, s4, s5⟩ := hSw; go_simp
    simp only [Act.put, List.setIfInBounds_toArray, List.set_cons_zero, List.set_cons_succ]
    obtain ⟨q2, hq2⟩ : ∃ q : Bool, (rd fs n (placeN 1 (k)) == 0) = q := ⟨_, rfl⟩
    have HQ2 : Hid ((rd fs n (placeN 1 (k)) == 0) = q2) := hq2
    cases q2 with
    | true =>
      have hq' : (rd fs n (placeN 1 (k)) != 0) = false := by simpa using HQ2.out
      refine takeH 9 (.bool false) ?_ hHeld ?_
      · intro w hSw; obtain ⟨⟨s1, s2, s3⟩, s4, s5⟩ := hSw; go_simp
      simp only [Act.put, List.setIfInBounds_toArray, List.set_cons_zero, List.set_cons_succ]
      clear hq2 hq'
      refine wpAnyH_end hHeld [10, 11, 12, 13, 14, 15, 16, 17, 18, 19, 20, 21, 22, 23, 24, 25, 26, 27, 28, 29, 30, 31, 32, 33, 34, 35, 36, 37, 38, 39, 40, 41, 42, 43, 44, 45, 46, 47, 48, 49, 50, 51, 52, 53, 54, 55, 56, 57, 58, 59, 60, 61, 62, 63, 64, 65, 66, 67, 68, 69, 70, 71, 72, 73, 74, 75, 76, 77] { tmps := #[.agg #[.slice a n c, F, .bool wh], .agg #[.int .i64 kd, .int .i64 k, .int .i64 v], .pointer (some ⟨W.heap.size, 0, none⟩), .pointer (some ⟨W.heap.size + 1, 0, none⟩), .bool false, .int .i64 (rd fs n (placeN 1 (k))), .pointer (some ⟨W.heap.size, 0, none⟩), .slice a n c, .pointer (some ⟨W.heap.size + 1, 1, none⟩), .int .i64 k, .int .i64 (rd fs n (placeN 1 (k))), .agg #[.slice a n c, F, .bool wh], .pointer (some ⟨W.heap.size + 1, 1, none⟩), .int .i64 k, .int .i64 (placeN 1 (k)), .pointer (some ⟨W.heap.size + 1, 2, none⟩), .int .i64 v, .bool true, .bool true, .int .i64 (rd fs n (placeN 1 (k))), .bool false, .bool false, .bool false, undef, undef, undef, undef, .bool false, .bool false, undef, undef, undef, undef, undef, undef, undef, undef, .bool false, .bool false, undef, undef, undef, undef, undef, undef, .bool false, .bool false, undef, undef, undef, undef, .bool false, .bool false, undef, undef, undef, undef, undef, undef, undef, .bool false, .bool false, undef, undef, undef, .bool false, .bool false, undef, undef, undef, undef, .bool false, .bool false, undef, undef, undef, undef, .bool false, .bool false, undef, undef, undef, undef, undef, undef, undef, undef, .bool false], defers := [] } (by as_aux_lemma => kernel_rfl) (by as_aux_lemma => kernel_rfl) (by as_aux_lemma => kernel_rfl) (by as_aux_lemma => kernel_rfl) (by intro _ _ d _ _ h; cases d <;> exact h) ?_
      go_wp2
      go_ret
      exact ⟨false, rfl, PT1.out.2.2 _ _ _ (Fin.askNo (decide_eq_false (by simpa using HQ2.out)) HS2.out.j HS2.out.kp)⟩
    | false =>
      have hq' : (rd fs n (placeN 1 (k)) != 0) = true := by simpa using HQ2.out
      refine takeH 9 (.bool true) ?_ hHeld ?_
      · intro w hSw; obtain ⟨⟨s1, s2, s3⟩, s4, s5⟩ := hSw; go_simp
      simp only [Act.put, List.setIfInBounds_toArray, List.set_cons_zero, List.set_cons_succ]
      clear hq2 hq'
      refine takeH 10 (.bool true) ?_ hHeld ?_
      · intro w hSw; obtain ⟨⟨s1, s2, s3⟩, s4, s5⟩ := hSw; go_simp
      simp only [Act.put, List.setIfInBounds_toArray, List.set_cons_zero, List.set_cons_succ]
      refine takeH 11 (.bool true) ?_ hHeld ?_
      · intro w hSw; obtain ⟨⟨s1, s2, s3⟩, s4, s5⟩ := hSw; go_simp
      simp only [Act.put, List.setIfInBounds_toArray, List.set_cons_zero, List.set_cons_succ]
      refine takeH 12 (.int .i64 (rd fs n (placeN 1 (k)))) ?_ hHeld ?_
      · intro w hSw; obtain ⟨⟨s1, s2, s3⟩, s4, s5⟩ := hSw; go_simp
      simp only [Act.put, List.setIfInBounds_toArray, List.set_cons_zero, List.set_cons_succ]
      refine takeH 13 (.pointer (some ⟨W.heap.size + 1, 2, none⟩)) ?_ hHeld ?_
      · intro w hSw; obtain ⟨⟨s1, s2, s3⟩, s4, s5⟩ := hSw; go_simp
      simp only [Act.put, List.setIfInBounds_toArray, List.set_cons_zero, List.set_cons_succ]
      refine takeH 14 (.int .i64 v) ?_ hHeld ?_
      · intro w hSw; obtain ⟨⟨s1, s2, s3⟩, s4, s5⟩ := hSw; go_simp
      simp only [Act.put, List.setIfInBounds_toArray, List.set_cons_zero, List.set_cons_succ]
      obtain ⟨q3, hq3⟩ : ∃ q : Bool, (rd fs n (placeN 1 (k)) == v) = q := ⟨_, rfl⟩
      have HQ3 : Hid ((rd fs n (placeN 1 (k)) == v) = q3) := hq3
      cases q3 with
      | true =>
        have hq' : (rd fs n (placeN 1 (k)) != v) = false := by simpa using HQ3.out
        refine takeH 15 (.bool false) ?_ hHeld ?_
        · intro w hSw; obtain ⟨⟨s1, s2, s3⟩, s4, s5⟩ := hSw; go_simp
        simp only [Act.put, List.setIfInBounds_toArray, List.set_cons_zero, List.set_cons_succ]
        clear hq3 hq'
        refine wpAnyH_end hHeld [16, 17, 18, 19, 20, 21, 22, 23, 24, 25, 26, 27, 28, 29, 30, 31, 32, 33, 34, 35, 36, 37, 38, 39, 40, 41, 42, 43, 44, 45, 46, 47, 48, 49, 50, 51, 52, 53, 54, 55, 56, 57, 58, 59, 60, 61, 62, 63, 64, 65, 66, 67, 68, 69, 70, 71, 72, 73, 74, 75, 76, 77] { tmps := #[.agg #[.slice a n c, F, .bool wh], .agg #[.int .i64 kd, .int .i64 k, .int .i64 v], .pointer (some ⟨W.heap.size, 0, none⟩), .pointer (some ⟨W.heap.size + 1, 0, none⟩), .bool false, .int .i64 (rd fs n (placeN 1 (k))), .pointer (some ⟨W.heap.size, 0, none⟩), .slice a n c, .pointer (some ⟨W.heap.size + 1, 1, none⟩), .int .i64 k, .int .i64 (rd fs n (placeN 1 (k))), .agg #[.slice a n c, F, .bool wh], .pointer (some ⟨W.heap.size + 1, 1, none⟩), .int .i64 k, .int .i64 (placeN 1 (k)), .pointer (some ⟨W.heap.size + 1, 2, none⟩), .int .i64 v, .bool true, .bool true, .int .i64 (rd fs n (placeN 1 (k))), .bool true, .bool true, .bool true, .int .i64 (rd fs n (placeN 1 (k))), .pointer (some ⟨W.heap.size + 1, 2, none⟩), .int .i64 v, .bool false, .bool false, .bool false, undef, undef, undef, undef, undef, undef, undef, undef, .bool false, .bool false, undef, undef, undef, undef, undef, undef, .bool false, .bool false, undef, undef, undef, undef, .bool false, .bool false, undef, undef, undef, undef, undef, undef, undef, .bool false, .bool false, undef, undef, undef, .bool false, .bool false, undef, undef, undef, undef, .bool false, .bool false, undef, undef, undef, undef, .bool false, .bool false, undef, undef, undef, undef, undef, undef, undef, undef, .bool false], defers := [] } (by as_aux_lemma => kernel_rfl) (by as_aux_lemma => kernel_rfl) (by as_aux_lemma => kernel_rfl) (by as_aux_lemma => kernel_rfl) (by intro _ _ d _ _ h; cases d <;> exact h) ?_
        go_wp2
        go_ret
        exact ⟨false, rfl, PT1.out.2.2 _ _ _ (Fin.askYes (decide_eq_true (by simpa using HQ2.out)) (Fin.askNo (decide_eq_false (by simpa using HQ3.out)) HS2.out.j HS2.out.kp))⟩
      | false =>
        have hq' : (rd fs n (placeN 1 (k)) != v) = true := by simpa using HQ3.out
        refine takeH 15 (.bool true) ?_ hHeld ?_
        · intro w hSw; obtain ⟨⟨s1, s2, s3⟩, s4, s5⟩ := hSw; go_simp
        simp only [Act.put, List.setIfInBounds_toArray, List.set_cons_zero, List.set_cons_succ]
        clear hq3 hq'
        refine takeH 16 (.bool true) ?_ hHeld ?_
        · intro w hSw; obtain ⟨⟨s1, s2, s3⟩, s4, s5⟩ := hSw; go_simp
        simp only [Act.put, List.setIfInBounds_toArray, List.set_cons_zero, List.set_cons_succ]
        refine takeH 17 (.bool true) ?_ hHeld ?_
        · intro w hSw; obtain ⟨⟨s1, s2, s3⟩, s4, s5⟩ := hSw; go_simp
        simp only [Act.put, List.setIfInBounds_toArray, List.set_cons_zero, List.set_cons_succ]
        refine takeH 18 (.agg #[.slice a n c, F, .bool wh]) ?_ hHeld ?_
        · intro w hSw; obtain ⟨⟨s1, s2, s3⟩, s4, s5⟩ := hSw; go_simp
        simp only [Act.put, List.setIfInBounds_toArray, List.set_cons_zero, List.set_cons_succ]
        refine takeH 19 (.pointer (some ⟨W.heap.size + 1, 2, none⟩)) ?_ hHeld ?_
        · intro w hSw; obtain ⟨⟨s1, s2, s3⟩, s4, s5⟩ := hSw; go_simp
        simp only [Act.put, List.setIfInBounds_toArray, List.set_cons_zero, List.set_cons_succ]
        refine takeH 20 (.int .i64 v) ?_ hHeld ?_
        · intro w hSw; obtain ⟨⟨s1, s2, s3⟩, s4, s5⟩ := hSw; go_simp
        simp only [Act.put, List.setIfInBounds_toArray, List.set_cons_zero, List.set_cons_succ]
        refine takeH 22 (.pointer (some ⟨W.heap.size + 1, 1, none⟩)) ?_ hHeld ?_
        · intro w hSw; obtain ⟨⟨s1, s2, s3⟩, s4, s5⟩ := hSw; go_simp
        simp only [Act.put, List.setIfInBounds_toArray, List.set_cons_zero, List.set_cons_succ]
        refine takeH 23 (.int .i64 k) ?_ hHeld ?_
        · intro w hSw; obtain ⟨⟨s1, s2, s3⟩, s4, s5⟩ := hSw; go_simp
        simp only [Act.put, List.setIfInBounds_toArray, List.set_cons_zero, List.set_cons_succ]
        refine takeH 24 (.int .i64 (k + 1)) ?_ hHeld ?_
        · intro w hSw; obtain ⟨⟨s1, s2, s3⟩, s4, s5⟩ := hSw; go_simp; exact WK.out
        simp only [Act.put, List.setIfInBounds_toArray, List.set_cons_zero, List.set_cons_succ]
        refine wpAnyH_ready (rs := [21]) (by as_aux_lemma => kernel_rfl) (by simp) ?_
        refine AllReadyH.cons (o := _) (by rw [List.getElem?_toArray]; exact rfl) (fun K hK => ?_) AllReadyH.nil
        rw [if_pos (by as_aux_lemma => kernel_rfl)]
        go_simp
        refine (implOwnerAt_any (v) _ HS2.out.names).mono ?_
        rintro e w3 ⟨rfl, hb⟩
        have HS3 : Hid (Sits W0.heap.size ts J a n fs W0 W w3 (pre ++ wordsT wh [becS fs n (placeN 1 k) (v)])) := HS2.out.on HG.out.gj hb
        have KB3 : Hid (w3.heap[W.heap.size]? = some (tellCells a n c F wh) ∧ w3.heap[W.heap.size + 1]? = some (.cells #[.int .i64 kd, .int .i64 k, .int .i64 v] 94 (0, 0))) := ⟨(hb.block _ (Array.getElem?_eq_some_iff.1 KB2.out.1).1).trans KB2.out.1, (hb.block _ (Array.getElem?_eq_some_iff.1 KB2.out.2).1).trans KB2.out.2⟩
        refine hK.out _ _ ?_ (fun hHeld => ?_)
        · exact boxS KB3.out
        clear hK K hb HS2 KB2
        refine wpAnyH_ready (rs := [25]) (by as_aux_lemma => kernel_rfl) (by simp) ?_
        refine AllReadyH.cons (o := _) (by rw [List.getElem?_toArray]; exact rfl) (fun K hK => ?_) AllReadyH.nil
        rw [if_pos (by as_aux_lemma => kernel_rfl)]
        go_simp
        refine (HG.out.bec (placeN 2 v) (k + 1) (pre ++ wordsT wh [becS fs n (placeN 1 k) (v)]) _ (lenLt (len1 (HL.out)) (by decide)) HS3.out.low HS3.out.j).mono ?_
        rintro e w4 ⟨b, rfl, hF⟩
        have KB4 : Hid (w4.heap[W.heap.size]? = some (tellCells a n c F wh) ∧ w4.heap[W.heap.size + 1]? = some (.cells #[.int .i64 kd, .int .i64 k, .int .i64 v] 94 (0, 0))) := ⟨hF.kx.keep _ _ _ _ KB3.out.1 (HG.out.tt _ (by simp)), hF.kx.keep _ _ _ _ KB3.out.2 (HG.out.tt _ (by simp))⟩
        have HF : Hid (Fin wh go W0.heap.size ts J Jx w3 [becS fs n (placeN 2 v) (k + 1)] (pre ++ wordsT wh [becS fs n (placeN 1 k) (v)]) b w4) := hF
        clear hF
        refine hK.out _ _ ?_ (fun hHeld => ?_)
        · exact boxS KB4.out
        clear hK K
        cases b with
        | false =>
          refine wpAnyH_end hHeld [26, 27, 28, 29, 30, 31, 32, 33, 34, 35, 36, 37, 38, 39, 40, 41, 42, 43, 44, 45, 46, 47, 48, 49, 50, 51, 52, 53, 54, 55, 56, 57, 58, 59, 60, 61, 62, 63, 64, 65, 66, 67, 68, 69, 70, 71, 72, 73, 74, 75, 76, 77] { tmps := #[.agg #[.slice a n c, F, .bool wh], .agg #[.int .i64 kd, .int .i64 k, .int .i64 v], .pointer (some ⟨W.heap.size, 0, none⟩), .pointer (some ⟨W.heap.size + 1, 0, none⟩), .bool false, .int .i64 (rd fs n (placeN 1 (k))), .pointer (some ⟨W.heap.size, 0, none⟩), .slice a n c, .pointer (some ⟨W.heap.size + 1, 1, none⟩), .int .i64 k, .int .i64 (rd fs n (placeN 1 (k))), .agg #[.slice a n c, F, .bool wh], .pointer (some ⟨W.heap.size + 1, 1, none⟩), .int .i64 k, .int .i64 (placeN 1 (k)), .pointer (some ⟨W.heap.size + 1, 2, none⟩), .int .i64 v, .bool true, .bool true, .int .i64 (rd fs n (placeN 1 (k))), .bool true, .bool true, .bool true, .int .i64 (rd fs n (placeN 1 (k))), .pointer (some ⟨W.heap.size + 1, 2, none⟩), .int .i64 v, .bool true, .bool true, .bool true, .agg #[.slice a n c, F, .bool wh], .pointer (some ⟨W.heap.size + 1, 2, none⟩), .int .i64 v, .int .i64 (placeN 2 (v)), .pointer (some ⟨W.heap.size + 1, 1, none⟩), .int .i64 k, .int .i64 (k + 1), .bool false, .bool false, .bool false, undef, undef, undef, undef, undef, undef, .bool false, .bool false, undef, undef, undef, undef, .bool false, .bool false, undef, undef, undef, undef, undef, undef, undef, .bool false, .bool false, undef, undef, undef, .bool false, .bool false, undef, undef, undef, undef, .bool false, .bool false, undef, undef, undef, undef, .bool false, .bool false, undef, undef, undef, undef, undef, undef, undef, undef, .bool false], defers := [] } (by as_aux_lemma => kernel_rfl) (by as_aux_lemma => kernel_rfl) (by as_aux_lemma => kernel_rfl) (by as_aux_lemma => kernel_rfl) (by intro _ _ d _ _ h; cases d <;> exact h) ?_
          go_wp2
          go_ret
          exact ⟨false, rfl, PT1.out.2.2 _ _ _ (Fin.askYes (decide_eq_true (by simpa using HQ2.out)) (Fin.askYes (decide_eq_true (by simpa using HQ3.out)) (Fin.no (Fin.kp HS3.out.kp HF.out) _)))⟩
        | true =>
          have PT4 : Hid _ := Fin.stepped (Fin.kp HS3.out.kp HF.out)
          have PJ : _ := Fin.stepped HF.out
          have HS4 : Hid (Sits W0.heap.size ts J a n fs W0 W w4 ((pre ++ wordsT wh [becS fs n (placeN 1 k) (v)]) ++ wordsT wh [becS fs n (placeN 2 v) (k + 1)])) := HS3.out.told PJ.1 PJ.2.1
          clear PJ HF HS3 KB3
          refine takeH 26 (.bool true) ?_ hHeld ?_
          · intro w hSw; obtain ⟨⟨s1, s2, s3⟩, s4, s5⟩ := hSw; go_simp
          simp only [Act.put, List.setIfInBounds_toArray, List.set_cons_zero, List.set_cons_succ]
          refine takeH 27 (.bool true) ?_ hHeld ?_
          · intro w hSw; obtain ⟨⟨s1, s2, s3⟩, s4, s5⟩ := hSw; go_simp
          simp only [Act.put, List.setIfInBounds_toArray, List.set_cons_zero, List.set_cons_succ]
          refine takeH 28 (.pointer (some ⟨W.heap.size, 0, none⟩)) ?_ hHeld ?_
          · intro w hSw; obtain ⟨⟨s1, s2, s3⟩, s4, s5⟩ := hSw; go_simp
          simp only [Act.put, List.setIfInBounds_toArray, List.set_cons_zero, List.set_cons_succ]
          refine takeH 29 (.slice a n c) ?_ hHeld ?_
          · intro w hSw; obtain ⟨⟨s1, s2, s3⟩, s4, s5⟩ := hSw; go_simp
          simp only [Act.put, List.setIfInBounds_toArray, List.set_cons_zero, List.set_cons_succ]
          refine takeH 30 (.pointer (some ⟨W.heap.size + 1, 2, none⟩)) ?_ hHeld ?_
          · intro w hSw; obtain ⟨⟨s1, s2, s3⟩, s4, s5⟩ := hSw; go_simp
          simp only [Act.put, List.setIfInBounds_toArray, List.set_cons_zero, List.set_cons_succ]
          refine takeH 31 (.int .i64 v) ?_ hHeld ?_
          · intro w hSw; obtain ⟨⟨s1, s2, s3⟩, s4, s5⟩ := hSw; go_simp
          simp only [Act.put, List.setIfInBounds_toArray, List.set_cons_zero, List.set_cons_succ]
          refine wpAnyH_ready (rs := [32]) (by as_aux_lemma => kernel_rfl) (by simp) ?_
          refine AllReadyH.cons (o := _) (by rw [List.getElem?_toArray]; exact rfl) (fun K hK => ?_) AllReadyH.nil
          rw [if_pos (by as_aux_lemma => kernel_rfl)]
          go_simp
          refine (knownOwner_any a n c (v) fs _ HS4.out.names HS4.out.pairs).mono ?_
          rintro e w5 ⟨rfl, hb⟩
          have HS5 : Hid (Sits W0.heap.size ts J a n fs W0 W w5 ((pre ++ wordsT wh [becS fs n (placeN 1 k) (v)]) ++ wordsT wh [becS fs n (placeN 2 v) (k + 1)])) := HS4.out.on HG.out.gj hb
          have KB5 : Hid (w5.heap[W.heap.size]? = some (tellCells a n c F wh) ∧ w5.heap[W.heap.size + 1]? = some (.cells #[.int .i64 kd, .int .i64 k, .int .i64 v] 94 (0, 0))) := ⟨(hb.block _ (Array.getElem?_eq_some_iff.1 KB4.out.1).1).trans KB4.out.1, (hb.block _ (Array.getElem?_eq_some_iff.1 KB4.out.2).1).trans KB4.out.2⟩
          refine hK.out _ _ ?_ (fun hHeld => ?_)
          · exact boxS KB5.out
          clear hK K hb HS4 KB4
          obtain ⟨q5, hq5⟩ : ∃ q : Bool, (rd fs n (placeN 2 (v)) == 0) = q := ⟨_, rfl⟩
          have HQ5 : Hid ((rd fs n (placeN 2 (v)) == 0) = q5) := hq5
          cases q5 with
          | false =>
            refine takeH 33 (.bool false) ?_ hHeld ?_
            · intro w hSw; obtain ⟨⟨s1, s2, s3⟩, s4, s5⟩ := hSw; go_simp
            simp only [Act.put, List.setIfInBounds_toArray, List.set_cons_zero, List.set_cons_succ]
            clear hq5
            refine wpAnyH_end hHeld [34, 35, 36, 37, 38, 39, 40, 41, 42, 43, 44, 45, 46, 47, 48, 49, 50, 51, 52, 53, 54, 55, 56, 57, 58, 59, 60, 61, 62, 63, 64, 65, 66, 67, 68, 69, 70, 71, 72, 73, 74, 75, 76, 77] { tmps := #[.agg #[.slice a n c, F, .bool wh], .agg #[.int .i64 kd, .int .i64 k, .int .i64 v], .pointer (some ⟨W.heap.size, 0, none⟩), .pointer (some ⟨W.heap.size + 1, 0, none⟩), .bool false, .int .i64 (rd fs n (placeN 1 (k))), .pointer (some ⟨W.heap.size, 0, none⟩), .slice a n c, .pointer (some ⟨W.heap.size + 1, 1, none⟩), .int .i64 k, .int .i64 (rd fs n (placeN 1 (k))), .agg #[.slice a n c, F, .bool wh], .pointer (some ⟨W.heap.size + 1, 1, none⟩), .int .i64 k, .int .i64 (placeN 1 (k)), .pointer (some ⟨W.heap.size + 1, 2, none⟩), .int .i64 v, .bool true, .bool true, .int .i64 (rd fs n (placeN 1 (k))), .bool true, .bool true, .bool true, .int .i64 (rd fs n (placeN 1 (k))), .pointer (some ⟨W.heap.size + 1, 2, none⟩), .int .i64 v, .bool true, .bool true, .bool true, .agg #[.slice a n c, F, .bool wh], .pointer (some ⟨W.heap.size + 1, 2, none⟩), .int .i64 v, .int .i64 (placeN 2 (v)), .pointer (some ⟨W.heap.size + 1, 1, none⟩), .int .i64 k, .int .i64 (k + 1), .bool true, .bool true, .bool true, .pointer (some ⟨W.heap.size, 0, none⟩), .slice a n c, .pointer (some ⟨W.heap.size + 1, 2, none⟩), .int .i64 v, .int .i64 (rd fs n (placeN 2 (v))), .bool false, .bool false, .bool false, undef, undef, undef, undef, .bool false, .bool false, undef, undef, undef, undef, undef, undef, undef, .bool false, .bool false, undef, undef, undef, .bool false, .bool false, undef, undef, undef, undef, .bool false, .bool false, undef, undef, undef, undef, .bool false, .bool false, undef, undef, undef, undef, undef, undef, undef, undef, .bool false], defers := [] } (by as_aux_lemma => kernel_rfl) (by as_aux_lemma => kernel_rfl) (by as_aux_lemma => kernel_rfl) (by as_aux_lemma => kernel_rfl) (by intro _ _ d _ _ h; cases d <;> exact h) ?_
            go_wp2
            go_ret
            exact ⟨false, rfl, PT1.out.2.2 _ _ _ (Fin.askYes (decide_eq_true (by simpa using HQ2.out)) (Fin.askYes (decide_eq_true (by simpa using HQ3.out)) (PT4.out.2.2 _ _ _ (Fin.askNo (decide_eq_false (by simpa using HQ5.out)) HS5.out.j HS5.out.kp))))⟩
          | true =>
            refine takeH 33 (.bool true) ?_ hHeld ?_
            · intro w hSw; obtain ⟨⟨s1, s2, s3⟩, s4, s5⟩ := hSw; go_simp
            simp only [Act.put, List.setIfInBounds_toArray, List.set_cons_zero, List.set_cons_succ]
            clear hq5
            refine takeH 34 (.bool true) ?_ hHeld ?_
            · intro w hSw; obtain ⟨⟨s1, s2, s3⟩, s4, s5⟩ := hSw; go_simp
            simp only [Act.put, List.setIfInBounds_toArray, List.set_cons_zero, List.set_cons_succ]
            refine takeH 35 (.bool true) ?_ hHeld ?_
            · intro w hSw; obtain ⟨⟨s1, s2, s3⟩, s4, s5⟩ := hSw; go_simp
            simp only [Act.put, List.setIfInBounds_toArray, List.set_cons_zero, List.set_cons_succ]
            refine takeH 36 (.agg #[.slice a n c, F, .bool wh]) ?_ hHeld ?_
            · intro w hSw; obtain ⟨⟨s1, s2, s3⟩, s4, s5⟩ := hSw; go_simp
            simp only [Act.put, List.setIfInBounds_toArray, List.set_cons_zero, List.set_cons_succ]
            refine takeH 37 (.int .i64 (rd fs n (placeN 1 (k)))) ?_ hHeld ?_
            · intro w hSw; obtain ⟨⟨s1, s2, s3⟩, s4, s5⟩ := hSw; go_simp
            simp only [Act.put, List.setIfInBounds_toArray, List.set_cons_zero, List.set_cons_succ]
            refine wpAnyH_ready (rs := [38]) (by as_aux_lemma => kernel_rfl) (by simp) ?_
            refine AllReadyH.cons (o := _) (by rw [List.getElem?_toArray]; exact rfl) (fun K hK => ?_) AllReadyH.nil
            rw [if_pos (by as_aux_lemma => kernel_rfl)]
            go_simp
            refine (implOwnerAt_any (rd fs n (placeN 1 (k))) _ HS5.out.names).mono ?_
            rintro e w6 ⟨rfl, hb⟩
            have HS6 : Hid (Sits W0.heap.size ts J a n fs W0 W w6 ((pre ++ wordsT wh [becS fs n (placeN 1 k) (v)]) ++ wordsT wh [becS fs n (placeN 2 v) (k + 1)])) := HS5.out.on HG.out.gj hb
            have KB6 : Hid (w6.heap[W.heap.size]? = some (tellCells a n c F wh) ∧ w6.heap[W.heap.size + 1]? = some (.cells #[.int .i64 kd, .int .i64 k, .int .i64 v] 94 (0, 0))) := ⟨(hb.block _ (Array.getElem?_eq_some_iff.1 KB5.out.1).1).trans KB5.out.1, (hb.block _ (Array.getElem?_eq_some_iff.1 KB5.out.2).1).trans KB5.out.2⟩
            refine hK.out _ _ ?_ (fun hHeld => ?_)
            · exact boxS KB6.out
            clear hK K hb HS5 KB5
            refine wpAnyH_ready (rs := [39]) (by as_aux_lemma => kernel_rfl) (by simp) ?_
            refine AllReadyH.cons (o := _) (by rw [List.getElem?_toArray]; exact rfl) (fun K hK => ?_) AllReadyH.nil
            rw [if_pos (by as_aux_lemma => kernel_rfl)]
            go_simp
            refine (HG.out.bec (placeN 2 (rd fs n (placeN 1 (k)))) (0) ((pre ++ wordsT wh [becS fs n (placeN 1 k) (v)]) ++ wordsT wh [becS fs n (placeN 2 v) (k + 1)]) _ (lenLt (len1 (len1 (HL.out))) (by decide)) HS6.out.low HS6.out.j).mono ?_
            rintro e w7 ⟨b, rfl, hF⟩
            have KB7 : Hid (w7.heap[W.heap.size]? = some (tellCells a n c F wh) ∧ w7.heap[W.heap.size + 1]? = some (.cells #[.int .i64 kd, .int .i64 k, .int .i64 v] 94 (0, 0))) := ⟨hF.kx.keep _ _ _ _ KB6.out.1 (HG.out.tt _ (by simp)), hF.kx.keep _ _ _ _ KB6.out.2 (HG.out.tt _ (by simp))⟩
            have HF : Hid (Fin wh go W0.heap.size ts J Jx w6 [becS fs n (placeN 2 (rd fs n (placeN 1 (k)))) (0)] ((pre ++ wordsT wh [becS fs n (placeN 1 k) (v)]) ++ wordsT wh [becS fs n (placeN 2 v) (k + 1)]) b w7) := hF
            clear hF
            refine hK.out _ _ ?_ (fun hHeld => ?_)
            · exact boxS KB7.out
            clear hK K
            cases b with
            | false =>
              refine wpAnyH_end hHeld [40, 41, 42, 43, 44, 45, 46, 47, 48, 49, 50, 51, 52, 53, 54, 55, 56, 57, 58, 59, 60, 61, 62, 63, 64, 65, 66, 67, 68, 69, 70, 71, 72, 73, 74, 75, 76, 77] { tmps := #[.agg #[.slice a n c, F, .bool wh], .agg #[.int .i64 kd, .int .i64 k, .int .i64 v], .pointer (some ⟨W.heap.size, 0, none⟩), .pointer (some ⟨W.heap.size + 1, 0, none⟩), .bool false, .int .i64 (rd fs n (placeN 1 (k))), .pointer (some ⟨W.heap.size, 0, none⟩), .slice a n c, .pointer (some ⟨W.heap.size + 1, 1, none⟩), .int .i64 k, .int .i64 (rd fs n (placeN 1 (k))), .agg #[.slice a n c, F, .bool wh], .pointer (some ⟨W.heap.size + 1, 1, none⟩), .int .i64 k, .int .i64 (placeN 1 (k)), .pointer (some ⟨W.heap.size + 1, 2, none⟩), .int .i64 v, .bool true, .bool true, .int .i64 (rd fs n (placeN 1 (k))), .bool true, .bool true, .bool true, .int .i64 (rd fs n (placeN 1 (k))), .pointer (some ⟨W.heap.size + 1, 2, none⟩), .int .i64 v, .bool true, .bool true, .bool true, .agg #[.slice a n c, F, .bool wh], .pointer (some ⟨W.heap.size + 1, 2, none⟩), .int .i64 v, .int .i64 (placeN 2 (v)), .pointer (some ⟨W.heap.size + 1, 1, none⟩), .int .i64 k, .int .i64 (k + 1), .bool true, .bool true, .bool true, .pointer (some ⟨W.heap.size, 0, none⟩), .slice a n c, .pointer (some ⟨W.heap.size + 1, 2, none⟩), .int .i64 v, .int .i64 (rd fs n (placeN 2 (v))), .bool true, .bool true, .bool true, .agg #[.slice a n c, F, .bool wh], .int .i64 (rd fs n (placeN 1 (k))), .int .i64 (placeN 2 (rd fs n (placeN 1 (k)))), .bool false, .bool false, .bool false, undef, undef, undef, undef, undef, undef, undef, .bool false, .bool false, undef, undef, undef, .bool false, .bool false, undef, undef, undef, undef, .bool false, .bool false, undef, undef, undef, undef, .bool false, .bool false, undef, undef, undef, undef, undef, undef, undef, undef, .bool false], defers := [] } (by as_aux_lemma => kernel_rfl) (by as_aux_lemma => kernel_rfl) (by as_aux_lemma => kernel_rfl) (by as_aux_lemma => kernel_rfl) (by intro _ _ d _ _ h; cases d <;> exact h) ?_
              go_wp2
              go_ret
              exact ⟨false, rfl, PT1.out.2.2 _ _ _ (Fin.askYes (decide_eq_true (by simpa using HQ2.out)) (Fin.askYes (decide_eq_true (by simpa using HQ3.out)) (PT4.out.2.2 _ _ _ (Fin.askYes (decide_eq_true (by simpa using HQ5.out)) (Fin.no (Fin.kp HS6.out.kp HF.out) _)))))⟩
            | true =>
              have PT6 : Hid _ := Fin.stepped (Fin.kp HS6.out.kp HF.out)
              have PJ : _ := Fin.stepped HF.out
              have HS7 : Hid (Sits W0.heap.size ts J a n fs W0 W w7 (((pre ++ wordsT wh [becS fs n (placeN 1 k) (v)]) ++ wordsT wh [becS fs n (placeN 2 v) (k + 1)]) ++ wordsT wh [becS fs n (placeN 2 (rd fs n (placeN 1 (k)))) (0)])) := HS6.out.told PJ.1 PJ.2.1
              clear PJ HF HS6 KB6
              refine takeH 40 (.bool true) ?_ hHeld ?_
              · intro w hSw; obtain ⟨⟨s1, s2, s3⟩, s4, s5⟩ := hSw; go_simp
              simp only [Act.put, List.setIfInBounds_toArray, List.set_cons_zero, List.set_cons_succ]
              refine takeH 41 (.bool true) ?_ hHeld ?_
              · intro w hSw; obtain ⟨⟨s1, s2, s3⟩, s4, s5⟩ := hSw; go_simp
              simp only [Act.put, List.setIfInBounds_toArray, List.set_cons_zero, List.set_cons_succ]
              refine takeH 42 (.agg #[.slice a n c, F, .bool wh]) ?_ hHeld ?_
              · intro w hSw; obtain ⟨⟨s1, s2, s3⟩, s4, s5⟩ := hSw; go_simp
              simp only [Act.put, List.setIfInBounds_toArray, List.set_cons_zero, List.set_cons_succ]
              refine takeH 43 (.int .i64 (rd fs n (placeN 1 (k)))) ?_ hHeld ?_
              · intro w hSw; obtain ⟨⟨s1, s2, s3⟩, s4, s5⟩ := hSw; go_simp
              simp only [Act.put, List.setIfInBounds_toArray, List.set_cons_zero, List.set_cons_succ]
              refine takeH 45 (.pointer (some ⟨W.heap.size + 1, 2, none⟩)) ?_ hHeld ?_
              · intro w hSw; obtain ⟨⟨s1, s2, s3⟩, s4, s5⟩ := hSw; go_simp
              simp only [Act.put, List.setIfInBounds_toArray, List.set_cons_zero, List.set_cons_succ]
              refine takeH 46 (.int .i64 v) ?_ hHeld ?_
              · intro w hSw; obtain ⟨⟨s1, s2, s3⟩, s4, s5⟩ := hSw; go_simp
              simp only [Act.put, List.setIfInBounds_toArray, List.set_cons_zero, List.set_cons_succ]
              refine wpAnyH_ready (rs := [44]) (by as_aux_lemma => kernel_rfl) (by simp) ?_
              refine AllReadyH.cons (o := _) (by rw [List.getElem?_toArray]; exact rfl) (fun K hK => ?_) AllReadyH.nil
              rw [if_pos (by as_aux_lemma => kernel_rfl)]
              go_simp
              refine (implClassOf_any (rd fs n (placeN 1 (k))) _).mono ?_
              rintro e w8 ⟨rfl, hw⟩
              have hb : Below w7.heap.size w7 w8 := by rw [hw]; exact Below.refl _ _
              clear hw
              have HS8 : Hid (Sits W0.heap.size ts J a n fs W0 W w8 (((pre ++ wordsT wh [becS fs n (placeN 1 k) (v)]) ++ wordsT wh [becS fs n (placeN 2 v) (k + 1)]) ++ wordsT wh [becS fs n (placeN 2 (rd fs n (placeN 1 (k)))) (0)])) := HS7.out.on HG.out.gj hb
              have KB8 : Hid (w8.heap[W.heap.size]? = some (tellCells a n c F wh) ∧ w8.heap[W.heap.size + 1]? = some (.cells #[.int .i64 kd, .int .i64 k, .int .i64 v] 94 (0, 0))) := ⟨(hb.block _ (Array.getElem?_eq_some_iff.1 KB7.out.1).1).trans KB7.out.1, (hb.block _ (Array.getElem?_eq_some_iff.1 KB7.out.2).1).trans KB7.out.2⟩
              refine hK.out _ _ ?_ (fun hHeld => ?_)
              · exact boxS KB8.out
              clear hK K hb HS7 KB7
              refine wpAnyH_ready (rs := [47]) (by as_aux_lemma => kernel_rfl) (by simp) ?_
              refine AllReadyH.cons (o := _) (by rw [List.getElem?_toArray]; exact rfl) (fun K hK => ?_) AllReadyH.nil
              rw [if_pos (by as_aux_lemma => kernel_rfl)]
              go_simp
              refine (implClassOf_any (v) _).mono ?_
              rintro e w9 ⟨rfl, hw⟩
              have hb : Below w8.heap.size w8 w9 := by rw [hw]; exact Below.refl _ _
              clear hw
              have HS9 : Hid (Sits W0.heap.size ts J a n fs W0 W w9 (((pre ++ wordsT wh [becS fs n (placeN 1 k) (v)]) ++ wordsT wh [becS fs n (placeN 2 v) (k + 1)]) ++ wordsT wh [becS fs n (placeN 2 (rd fs n (placeN 1 (k)))) (0)])) := HS8.out.on HG.out.gj hb
              have KB9 : Hid (w9.heap[W.heap.size]? = some (tellCells a n c F wh) ∧ w9.heap[W.heap.size + 1]? = some (.cells #[.int .i64 kd, .int .i64 k, .int .i64 v] 94 (0, 0))) := ⟨(hb.block _ (Array.getElem?_eq_some_iff.1 KB8.out.1).1).trans KB8.out.1, (hb.block _ (Array.getElem?_eq_some_iff.1 KB8.out.2).1).trans KB8.out.2⟩
              refine hK.out _ _ ?_ (fun hHeld => ?_)
              · exact boxS KB9.out
              clear hK K hb HS8 KB8
              refine wpAnyH_ready (rs := [48]) (by as_aux_lemma => kernel_rfl) (by simp) ?_
              refine AllReadyH.cons (o := _) (by rw [List.getElem?_toArray]; exact rfl) (fun K hK => ?_) AllReadyH.nil
              rw [if_pos (by as_aux_lemma => kernel_rfl)]
              go_simp
              refine (moves_any a n c F wh (classN (rd fs n (placeN 1 (k)))) (classN (v)) fs go ts J Jx (((pre ++ wordsT wh [becS fs n (placeN 1 k) (v)]) ++ wordsT wh [becS fs n (placeN 2 v) (k + 1)]) ++ wordsT wh [becS fs n (placeN 2 (rd fs n (placeN 1 (k)))) (0)]) W0 _ HG.out HS9.out.base (Nat.le_trans (len1 (len1 (len1 (HL.out)))) (by decide)) HS9.out.low HS9.out.j).mono ?_
              rintro e w10 ⟨b, rfl, hF⟩
              have KB10 : Hid (w10.heap[W.heap.size]? = some (tellCells a n c F wh) ∧ w10.heap[W.heap.size + 1]? = some (.cells #[.int .i64 kd, .int .i64 k, .int .i64 v] 94 (0, 0))) := ⟨hF.kx.keep _ _ _ _ KB9.out.1 (HG.out.tt _ (by simp)), hF.kx.keep _ _ _ _ KB9.out.2 (HG.out.tt _ (by simp))⟩
              have HF : Hid (Fin wh go W0.heap.size ts J Jx w9 (moveS fs n (classN (rd fs n (placeN 1 (k)))) (classN (v))) (((pre ++ wordsT wh [becS fs n (placeN 1 k) (v)]) ++ wordsT wh [becS fs n (placeN 2 v) (k + 1)]) ++ wordsT wh [becS fs n (placeN 2 (rd fs n (placeN 1 (k)))) (0)]) b w10) := hF
              clear hF
              refine hK.out _ _ ?_ (fun hHeld => ?_)
              · exact boxS KB10.out
              clear hK K
              cases b with
              | false =>
                refine wpAnyH_end hHeld [49, 50, 51, 52, 53, 54, 55, 56, 57, 58, 59, 60, 61, 62, 63, 64, 65, 66, 67, 68, 69, 70, 71, 72, 73, 74, 75, 76, 77] { tmps := #[.agg #[.slice a n c, F, .bool wh], .agg #[.int .i64 kd, .int .i64 k, .int .i64 v], .pointer (some ⟨W.heap.size, 0, none⟩), .pointer (some ⟨W.heap.size + 1, 0, none⟩), .bool false, .int .i64 (rd fs n (placeN 1 (k))), .pointer (some ⟨W.heap.size, 0, none⟩), .slice a n c, .pointer (some ⟨W.heap.size + 1, 1, none⟩), .int .i64 k, .int .i64 (rd fs n (placeN 1 (k))), .agg #[.slice a n c, F, .bool wh], .pointer (some ⟨W.heap.size + 1, 1, none⟩), .int .i64 k, .int .i64 (placeN 1 (k)), .pointer (some ⟨W.heap.size + 1, 2, none⟩), .int .i64 v, .bool true, .bool true, .int .i64 (rd fs n (placeN 1 (k))), .bool true, .bool true, .bool true, .int .i64 (rd fs n (placeN 1 (k))), .pointer (some ⟨W.heap.size + 1, 2, none⟩), .int .i64 v, .bool true, .bool true, .bool true, .agg #[.slice a n c, F, .bool wh], .pointer (some ⟨W.heap.size + 1, 2, none⟩), .int .i64 v, .int .i64 (placeN 2 (v)), .pointer (some ⟨W.heap.size + 1, 1, none⟩), .int .i64 k, .int .i64 (k + 1), .bool true, .bool true, .bool true, .pointer (some ⟨W.heap.size, 0, none⟩), .slice a n c, .pointer (some ⟨W.heap.size + 1, 2, none⟩), .int .i64 v, .int .i64 (rd fs n (placeN 2 (v))), .bool true, .bool true, .bool true, .agg #[.slice a n c, F, .bool wh], .int .i64 (rd fs n (placeN 1 (k))), .int .i64 (placeN 2 (rd fs n (placeN 1 (k)))), .bool true, .bool true, .bool true, .agg #[.slice a n c, F, .bool wh], .int .i64 (rd fs n (placeN 1 (k))), .int .i64 (classN (rd fs n (placeN 1 (k)))), .pointer (some ⟨W.heap.size + 1, 2, none⟩), .int .i64 v, .int .i64 (classN (v)), .bool false, .bool false, .bool false, undef, undef, undef, .bool false, .bool false, undef, undef, undef, undef, .bool false, .bool false, undef, undef, undef, undef, .bool false, .bool false, undef, undef, undef, undef, undef, undef, undef, undef, .bool false], defers := [] } (by as_aux_lemma => kernel_rfl) (by as_aux_lemma => kernel_rfl) (by as_aux_lemma => kernel_rfl) (by as_aux_lemma => kernel_rfl) (by intro _ _ d _ _ h; cases d <;> exact h) ?_
                go_wp2
                go_ret
                exact ⟨false, rfl, PT1.out.2.2 _ _ _ (Fin.askYes (decide_eq_true (by simpa using HQ2.out)) (Fin.askYes (decide_eq_true (by simpa using HQ3.out)) (PT4.out.2.2 _ _ _ (Fin.askYes (decide_eq_true (by simpa using HQ5.out)) (PT6.out.2.2 _ _ _ (Fin.noL (Fin.kp HS9.out.kp HF.out) _))))))⟩
              | true =>
                have PT7 : Hid _ := Fin.passed (Fin.kp HS9.out.kp HF.out)
                have PJ : _ := Fin.passed HF.out
                have HS10 : Hid (Sits W0.heap.size ts J a n fs W0 W w10 ((((pre ++ wordsT wh [becS fs n (placeN 1 k) (v)]) ++ wordsT wh [becS fs n (placeN 2 v) (k + 1)]) ++ wordsT wh [becS fs n (placeN 2 (rd fs n (placeN 1 (k)))) (0)]) ++ wordsT wh (moveS fs n (classN (rd fs n (placeN 1 (k)))) (classN (v))))) := HS9.out.told PJ.1 PJ.2.1
                clear PJ HF HS9 KB9
                refine takeH 49 (.bool true) ?_ hHeld ?_
                · intro w hSw; obtain ⟨⟨s1, s2, s3⟩, s4, s5⟩ := hSw; go_simp
                simp only [Act.put, List.setIfInBounds_toArray, List.set_cons_zero, List.set_cons_succ]
                refine takeH 50 (.bool true) ?_ hHeld ?_
                · intro w hSw; obtain ⟨⟨s1, s2, s3⟩, s4, s5⟩ := hSw; go_simp
                simp only [Act.put, List.setIfInBounds_toArray, List.set_cons_zero, List.set_cons_succ]
                refine takeH 51 (.agg #[.slice a n c, F, .bool wh]) ?_ hHeld ?_
                · intro w hSw; obtain ⟨⟨s1, s2, s3⟩, s4, s5⟩ := hSw; go_simp
                simp only [Act.put, List.setIfInBounds_toArray, List.set_cons_zero, List.set_cons_succ]
                refine wpAnyH_ready (rs := [52]) (by as_aux_lemma => kernel_rfl) (by simp) ?_
                refine AllReadyH.cons (o := _) (by rw [List.getElem?_toArray]; exact rfl) (fun K hK => ?_) AllReadyH.nil
                rw [if_pos (by as_aux_lemma => kernel_rfl)]
                go_simp
                refine (implStateAt_any _ HS10.out.names).mono ?_
                rintro e w11 ⟨rfl, hb⟩
                have HS11 : Hid (Sits W0.heap.size ts J a n fs W0 W w11 ((((pre ++ wordsT wh [becS fs n (placeN 1 k) (v)]) ++ wordsT wh [becS fs n (placeN 2 v) (k + 1)]) ++ wordsT wh [becS fs n (placeN 2 (rd fs n (placeN 1 (k)))) (0)]) ++ wordsT wh (moveS fs n (classN (rd fs n (placeN 1 (k)))) (classN (v))))) := HS10.out.on HG.out.gj hb
                have KB11 : Hid (w11.heap[W.heap.size]? = some (tellCells a n c F wh) ∧ w11.heap[W.heap.size + 1]? = some (.cells #[.int .i64 kd, .int .i64 k, .int .i64 v] 94 (0, 0))) := ⟨(hb.block _ (Array.getElem?_eq_some_iff.1 KB10.out.1).1).trans KB10.out.1, (hb.block _ (Array.getElem?_eq_some_iff.1 KB10.out.2).1).trans KB10.out.2⟩
                refine hK.out _ _ ?_ (fun hHeld => ?_)
                · exact boxS KB11.out
                clear hK K hb HS10 KB10
                refine wpAnyH_ready (rs := [53]) (by as_aux_lemma => kernel_rfl) (by simp) ?_
                refine AllReadyH.cons (o := _) (by rw [List.getElem?_toArray]; exact rfl) (fun K hK => ?_) AllReadyH.nil
                rw [if_pos (by as_aux_lemma => kernel_rfl)]
                go_simp
                refine (stays_any a n c F wh (13) fs go ts J Jx ((((pre ++ wordsT wh [becS fs n (placeN 1 k) (v)]) ++ wordsT wh [becS fs n (placeN 2 v) (k + 1)]) ++ wordsT wh [becS fs n (placeN 2 (rd fs n (placeN 1 (k)))) (0)]) ++ wordsT wh (moveS fs n (classN (rd fs n (placeN 1 (k)))) (classN (v)))) W0 _ HG.out HS11.out.base (lenLt (lenA (move_len _ _ _ _) (len1 (len1 (len1 (HL.out))))) (by decide)) HS11.out.low HS11.out.j).mono ?_
                rintro e w12 ⟨b, rfl, hF⟩
                have KB12 : Hid (w12.heap[W.heap.size]? = some (tellCells a n c F wh) ∧ w12.heap[W.heap.size + 1]? = some (.cells #[.int .i64 kd, .int .i64 k, .int .i64 v] 94 (0, 0))) := ⟨hF.kx.keep _ _ _ _ KB11.out.1 (HG.out.tt _ (by simp)), hF.kx.keep _ _ _ _ KB11.out.2 (HG.out.tt _ (by simp))⟩
                have HF : Hid (Fin wh go W0.heap.size ts J Jx w11 [stayS fs n (13)] ((((pre ++ wordsT wh [becS fs n (placeN 1 k) (v)]) ++ wordsT wh [becS fs n (placeN 2 v) (k + 1)]) ++ wordsT wh [becS fs n (placeN 2 (rd fs n (placeN 1 (k)))) (0)]) ++ wordsT wh (moveS fs n (classN (rd fs n (placeN 1 (k)))) (classN (v)))) b w12) := hF
                clear hF
                refine hK.out _ _ ?_ (fun hHeld => ?_)
                · exact boxS KB12.out
                clear hK K
                cases b with
                | false =>
                  refine wpAnyH_end hHeld [54, 55, 56, 57, 58, 59, 60, 61, 62, 63, 64, 65, 66, 67, 68, 69, 70, 71, 72, 73, 74, 75, 76, 77] { tmps := #[.agg #[.slice a n c, F, .bool wh], .agg #[.int .i64 kd, .int .i64 k, .int .i64 v], .pointer (some ⟨W.heap.size, 0, none⟩), .pointer (some ⟨W.heap.size + 1, 0, none⟩), .bool false, .int .i64 (rd fs n (placeN 1 (k))), .pointer (some ⟨W.heap.size, 0, none⟩), .slice a n c, .pointer (some ⟨W.heap.size + 1, 1, none⟩), .int .i64 k, .int .i64 (rd fs n (placeN 1 (k))), .agg #[.slice a n c, F, .bool wh], .pointer (some ⟨W.heap.size + 1, 1, none⟩), .int .i64 k, .int .i64 (placeN 1 (k)), .pointer (some ⟨W.heap.size + 1, 2, none⟩), .int .i64 v, .bool true, .bool true, .int .i64 (rd fs n (placeN 1 (k))), .bool true, .bool true, .bool true, .int .i64 (rd fs n (placeN 1 (k))), .pointer (some ⟨W.heap.size + 1, 2, none⟩), .int .i64 v, .bool true, .bool true, .bool true, .agg #[.slice a n c, F, .bool wh], .pointer (some ⟨W.heap.size + 1, 2, none⟩), .int .i64 v, .int .i64 (placeN 2 (v)), .pointer (some ⟨W.heap.size + 1, 1, none⟩), .int .i64 k, .int .i64 (k + 1), .bool true, .bool true, .bool true, .pointer (some ⟨W.heap.size, 0, none⟩), .slice a n c, .pointer (some ⟨W.heap.size + 1, 2, none⟩), .int .i64 v, .int .i64 (rd fs n (placeN 2 (v))), .bool true, .bool true, .bool true, .agg #[.slice a n c, F, .bool wh], .int .i64 (rd fs n (placeN 1 (k))), .int .i64 (placeN 2 (rd fs n (placeN 1 (k)))), .bool true, .bool true, .bool true, .agg #[.slice a n c, F, .bool wh], .int .i64 (rd fs n (placeN 1 (k))), .int .i64 (classN (rd fs n (placeN 1 (k)))), .pointer (some ⟨W.heap.size + 1, 2, none⟩), .int .i64 v, .int .i64 (classN (v)), .bool true, .bool true, .bool true, .agg #[.slice a n c, F, .bool wh], .int .i64 13, .bool false, .bool false, .bool false, undef, undef, undef, undef, .bool false, .bool false, undef, undef, undef, undef, .bool false, .bool false, undef, undef, undef, undef, undef, undef, undef, undef, .bool false], defers := [] } (by as_aux_lemma => kernel_rfl) (by as_aux_lemma => kernel_rfl) (by as_aux_lemma => kernel_rfl) (by as_aux_lemma => kernel_rfl) (by intro _ _ d _ _ h; cases d <;> exact h) ?_
                  go_wp2
                  go_ret
                  exact ⟨false, rfl, PT1.out.2.2 _ _ _ (Fin.askYes (decide_eq_true (by simpa using HQ2.out)) (Fin.askYes (decide_eq_true (by simpa using HQ3.out)) (PT4.out.2.2 _ _ _ (Fin.askYes (decide_eq_true (by simpa using HQ5.out)) (PT6.out.2.2 _ _ _ (PT7.out.2.2 _ _ _ (Fin.no (Fin.kp HS11.out.kp HF.out) _)))))))⟩
                | true =>
                  have PT8 : Hid _ := Fin.stepped (Fin.kp HS11.out.kp HF.out)
                  have PJ : _ := Fin.stepped HF.out
                  have HS12 : Hid (Sits W0.heap.size ts J a n fs W0 W w12 (((((pre ++ wordsT wh [becS fs n (placeN 1 k) (v)]) ++ wordsT wh [becS fs n (placeN 2 v) (k + 1)]) ++ wordsT wh [becS fs n (placeN 2 (rd fs n (placeN 1 (k)))) (0)]) ++ wordsT wh (moveS fs n (classN (rd fs n (placeN 1 (k)))) (classN (v)))) ++ wordsT wh [stayS fs n (13)])) := HS11.out.told PJ.1 PJ.2.1
                  clear PJ HF HS11 KB11
                  refine takeH 54 (.bool true) ?_ hHeld ?_
                  · intro w hSw; obtain ⟨⟨s1, s2, s3⟩, s4, s5⟩ := hSw; go_simp
                  simp only [Act.put, List.setIfInBounds_toArray, List.set_cons_zero, List.set_cons_succ]
                  refine takeH 55 (.bool true) ?_ hHeld ?_
                  · intro w hSw; obtain ⟨⟨s1, s2, s3⟩, s4, s5⟩ := hSw; go_simp
                  simp only [Act.put, List.setIfInBounds_toArray, List.set_cons_zero, List.set_cons_succ]
                  refine takeH 56 (.agg #[.slice a n c, F, .bool wh]) ?_ hHeld ?_
                  · intro w hSw; obtain ⟨⟨s1, s2, s3⟩, s4, s5⟩ := hSw; go_simp
                  simp only [Act.put, List.setIfInBounds_toArray, List.set_cons_zero, List.set_cons_succ]
                  refine takeH 57 (.pointer (some ⟨W.heap.size + 1, 1, none⟩)) ?_ hHeld ?_
                  · intro w hSw; obtain ⟨⟨s1, s2, s3⟩, s4, s5⟩ := hSw; go_simp
                  simp only [Act.put, List.setIfInBounds_toArray, List.set_cons_zero, List.set_cons_succ]
                  refine takeH 58 (.int .i64 k) ?_ hHeld ?_
                  · intro w hSw; obtain ⟨⟨s1, s2, s3⟩, s4, s5⟩ := hSw; go_simp
                  simp only [Act.put, List.setIfInBounds_toArray, List.set_cons_zero, List.set_cons_succ]
                  refine wpAnyH_ready (rs := [59]) (by as_aux_lemma => kernel_rfl) (by simp) ?_
                  refine AllReadyH.cons (o := _) (by rw [List.getElem?_toArray]; exact rfl) (fun K hK => ?_) AllReadyH.nil
                  rw [if_pos (by as_aux_lemma => kernel_rfl)]
                  go_simp
                  refine (inVia_any a n c F wh k fs _ HS12.out.names HS12.out.pairs hk).mono ?_
                  rintro e w13 ⟨rfl, hb⟩
                  have HS13 : Hid (Sits W0.heap.size ts J a n fs W0 W w13 (((((pre ++ wordsT wh [becS fs n (placeN 1 k) (v)]) ++ wordsT wh [becS fs n (placeN 2 v) (k + 1)]) ++ wordsT wh [becS fs n (placeN 2 (rd fs n (placeN 1 (k)))) (0)]) ++ wordsT wh (moveS fs n (classN (rd fs n (placeN 1 (k)))) (classN (v)))) ++ wordsT wh [stayS fs n (13)])) := HS12.out.on HG.out.gj hb
                  have KB13 : Hid (w13.heap[W.heap.size]? = some (tellCells a n c F wh) ∧ w13.heap[W.heap.size + 1]? = some (.cells #[.int .i64 kd, .int .i64 k, .int .i64 v] 94 (0, 0))) := ⟨(hb.block _ (Array.getElem?_eq_some_iff.1 KB12.out.1).1).trans KB12.out.1, (hb.block _ (Array.getElem?_eq_some_iff.1 KB12.out.2).1).trans KB12.out.2⟩
                  refine hK.out _ _ ?_ (fun hHeld => ?_)
                  · exact boxS KB13.out
                  clear hK K hb HS12 KB12
                  obtain ⟨q9, hq9⟩ : ∃ q : Bool, (wh || decide (k + 1 < rd fs n 13)) = q := ⟨_, rfl⟩
                  rw [hq9]
                  have HQ9 : Hid ((wh || decide (k + 1 < rd fs n 13)) = q9) := hq9
                  clear hq9
                  cases q9 with
                  | false =>
                    refine wpAnyH_end hHeld [60, 61, 62, 63, 64, 65, 66, 67, 68, 69, 70, 71, 72, 73, 74, 75, 76, 77] { tmps := #[.agg #[.slice a n c, F, .bool wh], .agg #[.int .i64 kd, .int .i64 k, .int .i64 v], .pointer (some ⟨W.heap.size, 0, none⟩), .pointer (some ⟨W.heap.size + 1, 0, none⟩), .bool false, .int .i64 (rd fs n (placeN 1 (k))), .pointer (some ⟨W.heap.size, 0, none⟩), .slice a n c, .pointer (some ⟨W.heap.size + 1, 1, none⟩), .int .i64 k, .int .i64 (rd fs n (placeN 1 (k))), .agg #[.slice a n c, F, .bool wh], .pointer (some ⟨W.heap.size + 1, 1, none⟩), .int .i64 k, .int .i64 (placeN 1 (k)), .pointer (some ⟨W.heap.size + 1, 2, none⟩), .int .i64 v, .bool true, .bool true, .int .i64 (rd fs n (placeN 1 (k))), .bool true, .bool true, .bool true, .int .i64 (rd fs n (placeN 1 (k))), .pointer (some ⟨W.heap.size + 1, 2, none⟩), .int .i64 v, .bool true, .bool true, .bool true, .agg #[.slice a n c, F, .bool wh], .pointer (some ⟨W.heap.size + 1, 2, none⟩), .int .i64 v, .int .i64 (placeN 2 (v)), .pointer (some ⟨W.heap.size + 1, 1, none⟩), .int .i64 k, .int .i64 (k + 1), .bool true, .bool true, .bool true, .pointer (some ⟨W.heap.size, 0, none⟩), .slice a n c, .pointer (some ⟨W.heap.size + 1, 2, none⟩), .int .i64 v, .int .i64 (rd fs n (placeN 2 (v))), .bool true, .bool true, .bool true, .agg #[.slice a n c, F, .bool wh], .int .i64 (rd fs n (placeN 1 (k))), .int .i64 (placeN 2 (rd fs n (placeN 1 (k)))), .bool true, .bool true, .bool true, .agg #[.slice a n c, F, .bool wh], .int .i64 (rd fs n (placeN 1 (k))), .int .i64 (classN (rd fs n (placeN 1 (k)))), .pointer (some ⟨W.heap.size + 1, 2, none⟩), .int .i64 v, .int .i64 (classN (v)), .bool true, .bool true, .bool true, .agg #[.slice a n c, F, .bool wh], .int .i64 13, .bool true, .bool true, .bool true, .agg #[.slice a n c, F, .bool wh], .pointer (some ⟨W.heap.size + 1, 1, none⟩), .int .i64 k, .bool false, .bool false, .bool false, undef, undef, undef, undef, .bool false, .bool false, undef, undef, undef, undef, undef, undef, undef, undef, .bool false], defers := [] } (by as_aux_lemma => kernel_rfl) (by as_aux_lemma => kernel_rfl) (by as_aux_lemma => kernel_rfl) (by as_aux_lemma => kernel_rfl) (by intro _ _ d _ _ h; cases d <;> exact h) ?_
                    go_wp2
                    go_ret
                    exact ⟨false, rfl, PT1.out.2.2 _ _ _ (Fin.askYes (decide_eq_true (by simpa using HQ2.out)) (Fin.askYes (decide_eq_true (by simpa using HQ3.out)) (PT4.out.2.2 _ _ _ (Fin.askYes (decide_eq_true (by simpa using HQ5.out)) (PT6.out.2.2 _ _ _ (PT7.out.2.2 _ _ _ (PT8.out.2.2 _ _ _ (Fin.askNo HQ9.out HS13.out.j HS13.out.kp))))))))⟩
                  | true =>
                    refine takeH 60 (.bool true) ?_ hHeld ?_
                    · intro w hSw; obtain ⟨⟨s1, s2, s3⟩, s4, s5⟩ := hSw; go_simp
                    simp only [Act.put, List.setIfInBounds_toArray, List.set_cons_zero, List.set_cons_succ]
                    refine takeH 61 (.bool true) ?_ hHeld ?_
                    · intro w hSw; obtain ⟨⟨s1, s2, s3⟩, s4, s5⟩ := hSw; go_simp
                    simp only [Act.put, List.setIfInBounds_toArray, List.set_cons_zero, List.set_cons_succ]
                    refine takeH 62 (.agg #[.slice a n c, F, .bool wh]) ?_ hHeld ?_
                    · intro w hSw; obtain ⟨⟨s1, s2, s3⟩, s4, s5⟩ := hSw; go_simp
                    simp only [Act.put, List.setIfInBounds_toArray, List.set_cons_zero, List.set_cons_succ]
                    refine takeH 63 (.int .i64 (rd fs n (placeN 1 (k)))) ?_ hHeld ?_
                    · intro w hSw; obtain ⟨⟨s1, s2, s3⟩, s4, s5⟩ := hSw; go_simp
                    simp only [Act.put, List.setIfInBounds_toArray, List.set_cons_zero, List.set_cons_succ]
                    refine wpAnyH_ready (rs := [64]) (by as_aux_lemma => kernel_rfl) (by simp) ?_
                    refine AllReadyH.cons (o := _) (by rw [List.getElem?_toArray]; exact rfl) (fun K hK => ?_) AllReadyH.nil
                    rw [if_pos (by as_aux_lemma => kernel_rfl)]
                    go_simp
                    refine (implViaAt_any (rd fs n (placeN 1 (k))) _ HS13.out.names).mono ?_
                    rintro e w14 ⟨rfl, hb⟩
                    have HS14 : Hid (Sits W0.heap.size ts J a n fs W0 W w14 (((((pre ++ wordsT wh [becS fs n (placeN 1 k) (v)]) ++ wordsT wh [becS fs n (placeN 2 v) (k + 1)]) ++ wordsT wh [becS fs n (placeN 2 (rd fs n (placeN 1 (k)))) (0)]) ++ wordsT wh (moveS fs n (classN (rd fs n (placeN 1 (k)))) (classN (v)))) ++ wordsT wh [stayS fs n (13)])) := HS13.out.on HG.out.gj hb
                    have KB14 : Hid (w14.heap[W.heap.size]? = some (tellCells a n c F wh) ∧ w14.heap[W.heap.size + 1]? = some (.cells #[.int .i64 kd, .int .i64 k, .int .i64 v] 94 (0, 0))) := ⟨(hb.block _ (Array.getElem?_eq_some_iff.1 KB13.out.1).1).trans KB13.out.1, (hb.block _ (Array.getElem?_eq_some_iff.1 KB13.out.2).1).trans KB13.out.2⟩
                    refine hK.out _ _ ?_ (fun hHeld => ?_)
                    · exact boxS KB14.out
                    clear hK K hb HS13 KB13
                    refine wpAnyH_ready (rs := [65]) (by as_aux_lemma => kernel_rfl) (by simp) ?_
                    refine AllReadyH.cons (o := _) (by rw [List.getElem?_toArray]; exact rfl) (fun K hK => ?_) AllReadyH.nil
                    rw [if_pos (by as_aux_lemma => kernel_rfl)]
                    go_simp
                    refine (HG.out.bec (placeN 5 (rd fs n (placeN 1 (k)))) (0) (((((pre ++ wordsT wh [becS fs n (placeN 1 k) (v)]) ++ wordsT wh [becS fs n (placeN 2 v) (k + 1)]) ++ wordsT wh [becS fs n (placeN 2 (rd fs n (placeN 1 (k)))) (0)]) ++ wordsT wh (moveS fs n (classN (rd fs n (placeN 1 (k)))) (classN (v)))) ++ wordsT wh [stayS fs n (13)]) _ (lenLt (len1 (lenA (move_len _ _ _ _) (len1 (len1 (len1 (HL.out)))))) (by decide)) HS14.out.low HS14.out.j).mono ?_
                    rintro e w15 ⟨b, rfl, hF⟩
                    have KB15 : Hid (w15.heap[W.heap.size]? = some (tellCells a n c F wh) ∧ w15.heap[W.heap.size + 1]? = some (.cells #[.int .i64 kd, .int .i64 k, .int .i64 v] 94 (0, 0))) := ⟨hF.kx.keep _ _ _ _ KB14.out.1 (HG.out.tt _ (by simp)), hF.kx.keep _ _ _ _ KB14.out.2 (HG.out.tt _ (by simp))⟩
                    have HF : Hid (Fin wh go W0.heap.size ts J Jx w14 [becS fs n (placeN 5 (rd fs n (placeN 1 (k)))) (0)] (((((pre ++ wordsT wh [becS fs n (placeN 1 k) (v)]) ++ wordsT wh [becS fs n (placeN 2 v) (k + 1)]) ++ wordsT wh [becS fs n (placeN 2 (rd fs n (placeN 1 (k)))) (0)]) ++ wordsT wh (moveS fs n (classN (rd fs n (placeN 1 (k)))) (classN (v)))) ++ wordsT wh [stayS fs n (13)]) b w15) := hF
                    clear hF
                    refine hK.out _ _ ?_ (fun hHeld => ?_)
                    · exact boxS KB15.out
                    clear hK K
                    cases b with
                    | false =>
                      refine wpAnyH_end hHeld [66, 67, 68, 69, 70, 71, 72, 73, 74, 75, 76, 77] { tmps := #[.agg #[.slice a n c, F, .bool wh], .agg #[.int .i64 kd, .int .i64 k, .int .i64 v], .pointer (some ⟨W.heap.size, 0, none⟩), .pointer (some ⟨W.heap.size + 1, 0, none⟩), .bool false, .int .i64 (rd fs n (placeN 1 (k))), .pointer (some ⟨W.heap.size, 0, none⟩), .slice a n c, .pointer (some ⟨W.heap.size + 1, 1, none⟩), .int .i64 k, .int .i64 (rd fs n (placeN 1 (k))), .agg #[.slice a n c, F, .bool wh], .pointer (some ⟨W.heap.size + 1, 1, none⟩), .int .i64 k, .int .i64 (placeN 1 (k)), .pointer (some ⟨W.heap.size + 1, 2, none⟩), .int .i64 v, .bool true, .bool true, .int .i64 (rd fs n (placeN 1 (k))), .bool true, .bool true, .bool true, .int .i64 (rd fs n (placeN 1 (k))), .pointer (some ⟨W.heap.size + 1, 2, none⟩), .int .i64 v, .bool true, .bool true, .bool true, .agg #[.slice a n c, F, .bool wh], .pointer (some ⟨W.heap.size + 1, 2, none⟩), .int .i64 v, .int .i64 (placeN 2 (v)), .pointer (some ⟨W.heap.size + 1, 1, none⟩), .int .i64 k, .int .i64 (k + 1), .bool true, .bool true, .bool true, .pointer (some ⟨W.heap.size, 0, none⟩), .slice a n c, .pointer (some ⟨W.heap.size + 1, 2, none⟩), .int .i64 v, .int .i64 (rd fs n (placeN 2 (v))), .bool true, .bool true, .bool true, .agg #[.slice a n c, F, .bool wh], .int .i64 (rd fs n (placeN 1 (k))), .int .i64 (placeN 2 (rd fs n (placeN 1 (k)))), .bool true, .bool true, .bool true, .agg #[.slice a n c, F, .bool wh], .int .i64 (rd fs n (placeN 1 (k))), .int .i64 (classN (rd fs n (placeN 1 (k)))), .pointer (some ⟨W.heap.size + 1, 2, none⟩), .int .i64 v, .int .i64 (classN (v)), .bool true, .bool true, .bool true, .agg #[.slice a n c, F, .bool wh], .int .i64 13, .bool true, .bool true, .bool true, .agg #[.slice a n c, F, .bool wh], .pointer (some ⟨W.heap.size + 1, 1, none⟩), .int .i64 k, .bool true, .bool true, .bool true, .agg #[.slice a n c, F, .bool wh], .int .i64 (rd fs n (placeN 1 (k))), .int .i64 (placeN 5 (rd fs n (placeN 1 (k)))), .bool false, .bool false, .bool false, undef, undef, undef, undef, undef, undef, undef, undef, .bool false], defers := [] } (by as_aux_lemma => kernel_rfl) (by as_aux_lemma => kernel_rfl) (by as_aux_lemma => kernel_rfl) (by as_aux_lemma => kernel_rfl) (by intro _ _ d _ _ h; cases d <;> exact h) ?_
                      go_wp2
                      go_ret
                      exact ⟨false, rfl, PT1.out.2.2 _ _ _ (Fin.askYes (decide_eq_true (by simpa using HQ2.out)) (Fin.askYes (decide_eq_true (by simpa using HQ3.out)) (PT4.out.2.2 _ _ _ (Fin.askYes (decide_eq_true (by simpa using HQ5.out)) (PT6.out.2.2 _ _ _ (PT7.out.2.2 _ _ _ (PT8.out.2.2 _ _ _ (Fin.askYes HQ9.out (Fin.no (Fin.kp HS14.out.kp HF.out) _)))))))))⟩
                    | true =>
                      have PT10 : Hid _ := Fin.stepped (Fin.kp HS14.out.kp HF.out)
                      have PJ : _ := Fin.stepped HF.out
                      have HS15 : Hid (Sits W0.heap.size ts J a n fs W0 W w15 ((((((pre ++ wordsT wh [becS fs n (placeN 1 k) (v)]) ++ wordsT wh [becS fs n (placeN 2 v) (k + 1)]) ++ wordsT wh [becS fs n (placeN 2 (rd fs n (placeN 1 (k)))) (0)]) ++ wordsT wh (moveS fs n (classN (rd fs n (placeN 1 (k)))) (classN (v)))) ++ wordsT wh [stayS fs n (13)]) ++ wordsT wh [becS fs n (placeN 5 (rd fs n (placeN 1 (k)))) (0)])) := HS14.out.told PJ.1 PJ.2.1
                      clear PJ HF HS14 KB14
                      refine takeH 66 (.bool true) ?_ hHeld ?_
                      · intro w hSw; obtain ⟨⟨s1, s2, s3⟩, s4, s5⟩ := hSw; go_simp
                      simp only [Act.put, List.setIfInBounds_toArray, List.set_cons_zero, List.set_cons_succ]
                      refine takeH 67 (.bool true) ?_ hHeld ?_
                      · intro w hSw; obtain ⟨⟨s1, s2, s3⟩, s4, s5⟩ := hSw; go_simp
                      simp only [Act.put, List.setIfInBounds_toArray, List.set_cons_zero, List.set_cons_succ]
                      refine takeH 68 (.agg #[.slice a n c, F, .bool wh]) ?_ hHeld ?_
                      · intro w hSw; obtain ⟨⟨s1, s2, s3⟩, s4, s5⟩ := hSw; go_simp
                      simp only [Act.put, List.setIfInBounds_toArray, List.set_cons_zero, List.set_cons_succ]
                      refine takeH 69 (.pointer (some ⟨W.heap.size + 1, 2, none⟩)) ?_ hHeld ?_
                      · intro w hSw; obtain ⟨⟨s1, s2, s3⟩, s4, s5⟩ := hSw; go_simp
                      simp only [Act.put, List.setIfInBounds_toArray, List.set_cons_zero, List.set_cons_succ]
                      refine takeH 70 (.int .i64 v) ?_ hHeld ?_
                      · intro w hSw; obtain ⟨⟨s1, s2, s3⟩, s4, s5⟩ := hSw; go_simp
                      simp only [Act.put, List.setIfInBounds_toArray, List.set_cons_zero, List.set_cons_succ]
                      refine takeH 72 (.pointer (some ⟨W.heap.size + 1, 1, none⟩)) ?_ hHeld ?_
                      · intro w hSw; obtain ⟨⟨s1, s2, s3⟩, s4, s5⟩ := hSw; go_simp
                      simp only [Act.put, List.setIfInBounds_toArray, List.set_cons_zero, List.set_cons_succ]
                      refine takeH 73 (.int .i64 k) ?_ hHeld ?_
                      · intro w hSw; obtain ⟨⟨s1, s2, s3⟩, s4, s5⟩ := hSw; go_simp
                      simp only [Act.put, List.setIfInBounds_toArray, List.set_cons_zero, List.set_cons_succ]
                      refine takeH 74 (.int .i64 (k + 1)) ?_ hHeld ?_
                      · intro w hSw; obtain ⟨⟨s1, s2, s3⟩, s4, s5⟩ := hSw; go_simp; exact WK.out
                      simp only [Act.put, List.setIfInBounds_toArray, List.set_cons_zero, List.set_cons_succ]
                      refine wpAnyH_ready (rs := [71]) (by as_aux_lemma => kernel_rfl) (by simp) ?_
                      refine AllReadyH.cons (o := _) (by rw [List.getElem?_toArray]; exact rfl) (fun K hK => ?_) AllReadyH.nil
                      rw [if_pos (by as_aux_lemma => kernel_rfl)]
                      go_simp
                      refine (implViaAt_any (v) _ HS15.out.names).mono ?_
                      rintro e w16 ⟨rfl, hb⟩
                      have HS16 : Hid (Sits W0.heap.size ts J a n fs W0 W w16 ((((((pre ++ wordsT wh [becS fs n (placeN 1 k) (v)]) ++ wordsT wh [becS fs n (placeN 2 v) (k + 1)]) ++ wordsT wh [becS fs n (placeN 2 (rd fs n (placeN 1 (k)))) (0)]) ++ wordsT wh (moveS fs n (classN (rd fs n (placeN 1 (k)))) (classN (v)))) ++ wordsT wh [stayS fs n (13)]) ++ wordsT wh [becS fs n (placeN 5 (rd fs n (placeN 1 (k)))) (0)])) := HS15.out.on HG.out.gj hb
                      have KB16 : Hid (w16.heap[W.heap.size]? = some (tellCells a n c F wh) ∧ w16.heap[W.heap.size + 1]? = some (.cells #[.int .i64 kd, .int .i64 k, .int .i64 v] 94 (0, 0))) := ⟨(hb.block _ (Array.getElem?_eq_some_iff.1 KB15.out.1).1).trans KB15.out.1, (hb.block _ (Array.getElem?_eq_some_iff.1 KB15.out.2).1).trans KB15.out.2⟩
                      refine hK.out _ _ ?_ (fun hHeld => ?_)
                      · exact boxS KB16.out
                      clear hK K hb HS15 KB15
                      refine wpAnyH_ready (rs := [75]) (by as_aux_lemma => kernel_rfl) (by simp) ?_
                      refine AllReadyH.cons (o := _) (by rw [List.getElem?_toArray]; exact rfl) (fun K hK => ?_) AllReadyH.nil
                      rw [if_pos (by as_aux_lemma => kernel_rfl)]
                      go_simp
                      refine (HG.out.bec (placeN 5 v) (k + 1) ((((((pre ++ wordsT wh [becS fs n (placeN 1 k) (v)]) ++ wordsT wh [becS fs n (placeN 2 v) (k + 1)]) ++ wordsT wh [becS fs n (placeN 2 (rd fs n (placeN 1 (k)))) (0)]) ++ wordsT wh (moveS fs n (classN (rd fs n (placeN 1 (k)))) (classN (v)))) ++ wordsT wh [stayS fs n (13)]) ++ wordsT wh [becS fs n (placeN 5 (rd fs n (placeN 1 (k)))) (0)]) _ (lenLt (len1 (len1 (lenA (move_len _ _ _ _) (len1 (len1 (len1 (HL.out))))))) (by decide)) HS16.out.low HS16.out.j).mono ?_
                      rintro e w17 ⟨b, rfl, hF⟩
                      have KB17 : Hid (w17.heap[W.heap.size]? = some (tellCells a n c F wh) ∧ w17.heap[W.heap.size + 1]? = some (.cells #[.int .i64 kd, .int .i64 k, .int .i64 v] 94 (0, 0))) := ⟨hF.kx.keep _ _ _ _ KB16.out.1 (HG.out.tt _ (by simp)), hF.kx.keep _ _ _ _ KB16.out.2 (HG.out.tt _ (by simp))⟩
                      have HF : Hid (Fin wh go W0.heap.size ts J Jx w16 [becS fs n (placeN 5 v) (k + 1)] ((((((pre ++ wordsT wh [becS fs n (placeN 1 k) (v)]) ++ wordsT wh [becS fs n (placeN 2 v) (k + 1)]) ++ wordsT wh [becS fs n (placeN 2 (rd fs n (placeN 1 (k)))) (0)]) ++ wordsT wh (moveS fs n (classN (rd fs n (placeN 1 (k)))) (classN (v)))) ++ wordsT wh [stayS fs n (13)]) ++ wordsT wh [becS fs n (placeN 5 (rd fs n (placeN 1 (k)))) (0)]) b w17) := hF
                      clear hF
                      refine hK.out _ _ ?_ (fun hHeld => ?_)
                      · exact boxS KB17.out
                      clear hK K
                      refine takeH 76 (.bool b) ?_ hHeld ?_
                      · intro w hSw; obtain ⟨⟨s1, s2, s3⟩, s4, s5⟩ := hSw; go_simp
                      simp only [Act.put, List.setIfInBounds_toArray, List.set_cons_zero, List.set_cons_succ]
                      refine takeH 77 (.bool b) ?_ hHeld ?_
                      · intro w hSw; obtain ⟨⟨s1, s2, s3⟩, s4, s5⟩ := hSw; go_simp
                      simp only [Act.put, List.setIfInBounds_toArray, List.set_cons_zero, List.set_cons_succ]
                      refine wpAnyH_done (by as_aux_lemma => kernel_rfl) ?_ _
                      go_wp2
                      go_ret
                      exact ⟨b, rfl, PT1.out.2.2 _ _ _ (Fin.askYes (decide_eq_true (by simpa using HQ2.out)) (Fin.askYes (decide_eq_true (by simpa using HQ3.out)) (PT4.out.2.2 _ _ _ (Fin.askYes (decide_eq_true (by simpa using HQ5.out)) (PT6.out.2.2 _ _ _ (PT7.out.2.2 _ _ _ (PT8.out.2.2 _ _ _ (Fin.askYes HQ9.out (PT10.out.2.2 _ _ _ (Fin.kp HS16.out.kp HF.out))))))))))⟩
end
end Go.Proofs.YtenlapppaimkkabGreatDoor
