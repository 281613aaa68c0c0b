/- The program's teller: what a del needs. -/
import Derived.Test.YtdihmfhojjlijapDoorTell2
import Derived.Test.YtdihmfhojjlijapDoorCountAt
import Derived.Test.YtdihmfhojjlijapDoorClassOf
namespace Go.Proofs.YtdihmfhojjlijapDoor
open Go.ChangeShapes Go.WideShapes Go.ChangeAt Go.RowKit

/-- The operations of its great region. -/
noncomputable def delL : List Oper := match Tryd.f37.body with
  | some (.seq _ (.seq _ (.seq (.region _ ops _) _))) => ops.toList
  | _ => []
set_option maxRecDepth 100000 in
set_option maxHeartbeats 8000000 in
theorem del_any (a : Option Addr) (n c l : Nat) (kd k v : Int) (fs : List Int) (go : Ent → Bool) (ts : List TypeId) (J Jx : List Ent → World → Prop) (pre : List Ent) (W0 W : World)
    (hG : Goes l go W0.heap.size ts J Jx) (hB : Base W0 a n fs) (hW : Below W0.heap.size W0 W) (hJ : J pre W) (hk : 0 ≤ k ∧ k ≤ 3) :
    Calls Tryd.prog 37 #[.agg #[.slice a n c, .func (.yield l) #[] #[]], .agg #[.int .i64 kd, .int .i64 k, .int .i64 v]] W fun e W' => ∃ b, e = .returned (.bool b) ∧ Fin go W0.heap.size ts J Jx W (delS fs n k) pre b W' := by
  have HG : Hid (Goes l go W0.heap.size ts J Jx) := hG
  obtain ⟨wa, hwa⟩ : ∃ wa, ((W.alloc (.cells #[.slice a n c, .func (.yield l) #[] #[]] 65)).alloc (.cells #[.int .i64 kd, .int .i64 k, .int .i64 v] 70)) = wa := ⟨_, rfl⟩
  have hx : Below W.heap.size W wa := by rw [← hwa]; exact ((Below.refl _ _).alloc (Nat.le_refl _) _).alloc (by simp) _
  have bx : wa.heap[W.heap.size]? = some (tellCells a n c l) := by rw [← hwa]; exact (Below.heap_alloc _ _ _ (by simp)).trans (World.alloc_heap_new W _)
  have by' : wa.heap[W.heap.size + 1]? = some (.cells #[.int .i64 kd, .int .i64 k, .int .i64 v] 70 (0, 0)) := by
    rw [← hwa]; have := World.alloc_heap_new (W.alloc (.cells #[.slice a n c, .func (.yield l) #[] #[]] 65)) (.cells #[.int .i64 kd, .int .i64 k, .int .i64 v] 70); rw [World.size_alloc] at this; exact this
  have HSa : Hid (Sits W0.heap.size ts J a n fs W0 W wa pre) := (show Sits W0.heap.size ts J a n fs W0 W W pre from ⟨hB, hW, hJ, Kp.of_below (Below.refl _ _) hW.size⟩).on hG.gj hx
  have KBa : Hid (wa.heap[W.heap.size]? = some (tellCells a n c l) ∧ wa.heap[W.heap.size + 1]? = some (.cells #[.int .i64 kd, .int .i64 k, .int .i64 v] 70 (0, 0))) := ⟨bx, by'⟩
  clear hG hB hW hJ hx bx by'
  have WK : Hid (IntKind.i64.wrap (k + 1) = k + 1) := (by rw [IntKind.wrap_i64]; omega : IntKind.i64.wrap (k + 1) = k + 1)
  have boxS : ∀ {w' : World}, (w'.heap[W.heap.size]? = some (tellCells a n c l) ∧ w'.heap[W.heap.size + 1]? = some (.cells #[.int .i64 kd, .int .i64 k, .int .i64 v] 70 (0, 0))) → (w'.cell? ⟨W.heap.size, 0, none⟩ = some (.slice a n c) ∧ w'.cell? ⟨W.heap.size, 1, none⟩ = some (.func (.yield l) #[] #[])) ∧ w'.cell? ⟨W.heap.size + 1, 1, none⟩ = some (.int .i64 k) ∧ w'.cell? ⟨W.heap.size + 1, 2, none⟩ = some (.int .i64 v) := fun h => ⟨tbox_of h.1, by simp [World.cell?, h.2], by simp [World.cell?, h.2]⟩
  obtain ⟨⟨c01, c02⟩, c03, c04⟩ := boxS KBa.out
  go_enter Tryd.func37, Tryd.ntmps37
  go_wp2_with fail
  refine (knownRow_any a n c k fs _ (by first | exact HSa.out.names | exact hwa ▸ HSa.out.names) (by first | exact HSa.out.pairs | exact hwa ▸ HSa.out.pairs)).mono ?_
  rintro e wb ⟨rfl, hb⟩
  have HSb : Hid (Sits W0.heap.size ts J a n fs W0 W wb pre) := HSa.out.on HG.out.gj (by first | exact hb | exact hwa ▸ hb)
  have hb' : Below wa.heap.size wa wb := by first | exact hb | exact hwa ▸ hb
  obtain ⟨w0, hw0⟩ : ∃ w0, wb.drew = w0 := ⟨_, rfl⟩
  have hd : Below wb.heap.size wb w0 := by rw [← hw0]; exact (Below.refl _ _).drew
  have HS0 : Hid (Sits W0.heap.size ts J a n fs W0 W w0 pre) := HSb.out.on HG.out.gj hd
  have KB0 : Hid (w0.heap[W.heap.size]? = some (tellCells a n c l) ∧ w0.heap[W.heap.size + 1]? = some (.cells #[.int .i64 kd, .int .i64 k, .int .i64 v] 70 (0, 0))) := ⟨(hd.block _ (Nat.lt_of_lt_of_le (Array.getElem?_eq_some_iff.1 KBa.out.1).1 hb'.size)).trans ((hb'.block _ (Array.getElem?_eq_some_iff.1 KBa.out.1).1).trans KBa.out.1), (hd.block _ (Nat.lt_of_lt_of_le (Array.getElem?_eq_some_iff.1 KBa.out.2).1 hb'.size)).trans ((hb'.block _ (Array.getElem?_eq_some_iff.1 KBa.out.2).1).trans KBa.out.2)⟩
  clear hb hb' hd HSb
  go_wp2_with fail
  change (Code.region _ (List.toArray delL) true).wp _ _ _ _
  refine wp_region_held_drew (S := fun w' => (w'.cell? ⟨W.heap.size, 0, none⟩ = some (.slice a n c) ∧ w'.cell? ⟨W.heap.size, 1, none⟩ = some (.func (.yield l) #[] #[])) ∧ w'.cell? ⟨W.heap.size + 1, 1, none⟩ = some (.int .i64 k) ∧ w'.cell? ⟨W.heap.size + 1, 2, none⟩ = some (.int .i64 v)) (by kernel_rfl) ?_ (fun hHeld => ?_)
  · rw [hw0]; exact boxS KB0.out
  rw [hw0] at hHeld ⊢
  refine wpAnyH_take (i := 0) (oi := _) (v := .agg #[.slice a n c, .func (.yield l) #[] #[]]) (by rw [List.getElem?_toArray]; exact rfl) (by kernel_rfl) (by kernel_rfl) (by kernel_rfl) (by intro _ _ _ h; exact h) (Or.inl ⟨by kernel_rfl, ?_⟩) hHeld ?_
  · intro w hSw; obtain ⟨⟨s1, s2⟩, s3, s4⟩ := hSw; go_simp
  simp only [Act.put, List.setIfInBounds_toArray, List.set_cons_zero, List.set_cons_succ]
  refine wpAnyH_take (i := 1) (oi := _) (v := .pointer (some ⟨W.heap.size + 1, 1, none⟩)) (by rw [List.getElem?_toArray]; exact rfl) (by kernel_rfl) (by kernel_rfl) (by kernel_rfl) (by intro _ _ _ h; exact h) (Or.inl ⟨by kernel_rfl, ?_⟩) hHeld ?_
  · intro w hSw; obtain ⟨⟨s1, s2⟩, s3, s4⟩ := hSw; go_simp
  simp only [Act.put, List.setIfInBounds_toArray, List.set_cons_zero, List.set_cons_succ]
  refine wpAnyH_take (i := 2) (oi := _) (v := .int .i64 k) (by rw [List.getElem?_toArray]; exact rfl) (by kernel_rfl) (by kernel_rfl) (by kernel_rfl) (by intro _ _ _ h; exact h) (Or.inl ⟨by kernel_rfl, ?_⟩) hHeld ?_
  · intro w hSw; obtain ⟨⟨s1, s2⟩, s3, s4⟩ := hSw; go_simp
  simp only [Act.put, List.setIfInBounds_toArray, List.set_cons_zero, List.set_cons_succ]
  refine wpAnyH_ready (rs := [3]) (by kernel_rfl) (by simp) ?_
  refine AllReadyH.cons (o := _) (by rw [List.getElem?_toArray]; exact rfl) (fun K hK => ?_) AllReadyH.nil
  rw [if_pos (by kernel_rfl)]
  go_simp
  refine (implRowAt_any (k) _ HS0.out.names).mono ?_
  rintro e w1 ⟨rfl, hb⟩
  have HS1 : Hid (Sits W0.heap.size ts J a n fs W0 W w1 pre) := HS0.out.on HG.out.gj hb
  have KB1 : Hid (w1.heap[W.heap.size]? = some (tellCells a n c l) ∧ w1.heap[W.heap.size + 1]? = some (.cells #[.int .i64 kd, .int .i64 k, .int .i64 v] 70 (0, 0))) := ⟨(hb.block _ (Array.getElem?_eq_some_iff.1 KB0.out.1).1).trans KB0.out.1, (hb.block _ (Array.getElem?_eq_some_iff.1 KB0.out.2).1).trans KB0.out.2⟩
  refine hK.out _ _ ?_ (fun hHeld => ?_)
  · exact boxS KB1.out
  clear hK K hb HS0 KB0
  refine wpAnyH_ready (rs := [4]) (by kernel_rfl) (by simp) ?_
  refine AllReadyH.cons (o := _) (by rw [List.getElem?_toArray]; exact rfl) (fun K hK => ?_) AllReadyH.nil
  rw [if_pos (by kernel_rfl)]
  go_simp
  refine (becomes_any a n c l (placeN 1 k) (0) fs go ts J Jx pre W0 _ HG.out HS1.out.base HS1.out.low HS1.out.j).mono ?_
  rintro e w2 ⟨b, rfl, hF⟩
  have KB2 : Hid (w2.heap[W.heap.size]? = some (tellCells a n c l) ∧ w2.heap[W.heap.size + 1]? = some (.cells #[.int .i64 kd, .int .i64 k, .int .i64 v] 70 (0, 0))) := ⟨hF.kx.keep _ _ _ _ KB1.out.1 (HG.out.tt _ (by simp)), hF.kx.keep _ _ _ _ KB1.out.2 (HG.out.tt _ (by simp))⟩
  have HF : Hid (Fin go W0.heap.size ts J Jx w1 [becS fs n (placeN 1 k) (0)] pre b w2) := hF
  clear hF
  refine hK.out _ _ ?_ (fun hHeld => ?_)
  · exact boxS KB2.out
  clear hK K
  cases b with
  | false =>
    refine wpAnyH_end hHeld [5, 6, 7, 8, 9, 10, 11, 12, 13, 14, 15, 16, 17, 18, 19, 20, 21, 22, 23, 24, 25, 26, 27, 28, 29, 30, 31, 32, 33, 34, 35, 36] { tmps := #[.agg #[.slice a n c, .func (.yield l) #[] #[]], .agg #[.int .i64 kd, .int .i64 k, .int .i64 v], .pointer (some ⟨W.heap.size, 0, none⟩), .pointer (some ⟨W.heap.size + 1, 0, none⟩), .bool false, .int .i64 (rd fs n (placeN 1 (k))), .pointer (some ⟨W.heap.size, 0, none⟩), .slice a n c, .pointer (some ⟨W.heap.size + 1, 1, none⟩), .int .i64 k, .int .i64 (rd fs n (placeN 1 (k))), .agg #[.slice a n c, .func (.yield l) #[] #[]], .pointer (some ⟨W.heap.size + 1, 1, none⟩), .int .i64 k, .int .i64 (placeN 1 (k)), .bool false, .bool false, undef, undef, undef, undef, .bool false, .bool false, undef, undef, undef, undef, undef, .bool false, .bool false, undef, undef, undef, .bool false, .bool false, undef, undef, undef, undef, undef, .bool false, .bool false, undef, undef, undef, undef, .bool false], defers := [] } (by kernel_rfl) (by kernel_rfl) (by kernel_rfl) (by kernel_rfl) (by intro _ _ d _ _ h; cases d <;> exact h) ?_
    go_wp2
    go_ret
    exact ⟨false, rfl, Fin.no (Fin.kp HS1.out.kp HF.out) _⟩
  | true =>
    have PT1 : Hid ((0 : Int) ≤ placeN 1 k ∧ go (placeN 1 k, rd fs n (placeN 1 k), 0) = true ∧ J (pre ++ [(placeN 1 k, rd fs n (placeN 1 k), 0)]) w2 ∧ Kp W0.heap.size ts w1 w2) := Fin.yes HF.out
    have HS2 : Hid (Sits W0.heap.size ts J a n fs W0 W w2 (pre ++ [(placeN 1 k, rd fs n (placeN 1 k), 0)])) := HS1.out.told PT1.out.2.2.1 PT1.out.2.2.2
    clear HF HS1 KB1
    refine wpAnyH_take (i := 5) (oi := _) (v := .bool true) (by rw [List.getElem?_toArray]; exact rfl) (by kernel_rfl) (by kernel_rfl) (by kernel_rfl) (by intro _ _ _ h; exact h) (Or.inl ⟨by kernel_rfl, ?_⟩) hHeld ?_
    · intro w hSw; obtain ⟨⟨s1, s2⟩, s3, s4⟩ := hSw; go_simp
    simp only [Act.put, List.setIfInBounds_toArray, List.set_cons_zero, List.set_cons_succ]
    refine wpAnyH_take (i := 6) (oi := _) (v := .agg #[.slice a n c, .func (.yield l) #[] #[]]) (by rw [List.getElem?_toArray]; exact rfl) (by kernel_rfl) (by kernel_rfl) (by kernel_rfl) (by intro _ _ _ h; exact h) (Or.inl ⟨by kernel_rfl, ?_⟩) hHeld ?_
    · intro w hSw; obtain ⟨⟨s1, s2⟩, s3, s4⟩ := hSw; go_simp
    simp only [Act.put, List.setIfInBounds_toArray, List.set_cons_zero, List.set_cons_succ]
    refine wpAnyH_take (i := 7) (oi := _) (v := .int .i64 (rd fs n (placeN 1 (k)))) (by rw [List.getElem?_toArray]; exact rfl) (by kernel_rfl) (by kernel_rfl) (by kernel_rfl) (by intro _ _ _ h; exact h) (Or.inl ⟨by kernel_rfl, ?_⟩) hHeld ?_
    · intro w hSw; obtain ⟨⟨s1, s2⟩, s3, s4⟩ := hSw; go_simp
    simp only [Act.put, List.setIfInBounds_toArray, List.set_cons_zero, List.set_cons_succ]
    refine wpAnyH_ready (rs := [8]) (by kernel_rfl) (by simp) ?_
    refine AllReadyH.cons (o := _) (by rw [List.getElem?_toArray]; exact rfl) (fun K hK => ?_) AllReadyH.nil
    rw [if_pos (by kernel_rfl)]
    go_simp
    refine (implOwnerAt_any (rd fs n (placeN 1 (k))) _ HS2.out.names).mono ?_
    rintro e w3 ⟨rfl, hb⟩
    have HS3 : Hid (Sits W0.heap.size ts J a n fs W0 W w3 (pre ++ [(placeN 1 k, rd fs n (placeN 1 k), 0)])) := HS2.out.on HG.out.gj hb
    have KB3 : Hid (w3.heap[W.heap.size]? = some (tellCells a n c l) ∧ w3.heap[W.heap.size + 1]? = some (.cells #[.int .i64 kd, .int .i64 k, .int .i64 v] 70 (0, 0))) := ⟨(hb.block _ (Array.getElem?_eq_some_iff.1 KB2.out.1).1).trans KB2.out.1, (hb.block _ (Array.getElem?_eq_some_iff.1 KB2.out.2).1).trans KB2.out.2⟩
    refine hK.out _ _ ?_ (fun hHeld => ?_)
    · exact boxS KB3.out
    clear hK K hb HS2 KB2
    refine wpAnyH_ready (rs := [9]) (by kernel_rfl) (by simp) ?_
    refine AllReadyH.cons (o := _) (by rw [List.getElem?_toArray]; exact rfl) (fun K hK => ?_) AllReadyH.nil
    rw [if_pos (by kernel_rfl)]
    go_simp
    refine (becomes_any a n c l (placeN 2 (rd fs n (placeN 1 (k)))) (0) fs go ts J Jx (pre ++ [(placeN 1 k, rd fs n (placeN 1 k), 0)]) W0 _ HG.out HS3.out.base HS3.out.low HS3.out.j).mono ?_
    rintro e w4 ⟨b, rfl, hF⟩
    have KB4 : Hid (w4.heap[W.heap.size]? = some (tellCells a n c l) ∧ w4.heap[W.heap.size + 1]? = some (.cells #[.int .i64 kd, .int .i64 k, .int .i64 v] 70 (0, 0))) := ⟨hF.kx.keep _ _ _ _ KB3.out.1 (HG.out.tt _ (by simp)), hF.kx.keep _ _ _ _ KB3.out.2 (HG.out.tt _ (by simp))⟩
    have HF : Hid (Fin go W0.heap.size ts J Jx w3 [becS fs n (placeN 2 (rd fs n (placeN 1 (k)))) (0)] (pre ++ [(placeN 1 k, rd fs n (placeN 1 k), 0)]) b w4) := hF
    clear hF
    refine hK.out _ _ ?_ (fun hHeld => ?_)
    · exact boxS KB4.out
    clear hK K
    cases b with
    | false =>
      refine wpAnyH_end hHeld [10, 11, 12, 13, 14, 15, 16, 17, 18, 19, 20, 21, 22, 23, 24, 25, 26, 27, 28, 29, 30, 31, 32, 33, 34, 35, 36] { tmps := #[.agg #[.slice a n c, .func (.yield l) #[] #[]], .agg #[.int .i64 kd, .int .i64 k, .int .i64 v], .pointer (some ⟨W.heap.size, 0, none⟩), .pointer (some ⟨W.heap.size + 1, 0, none⟩), .bool false, .int .i64 (rd fs n (placeN 1 (k))), .pointer (some ⟨W.heap.size, 0, none⟩), .slice a n c, .pointer (some ⟨W.heap.size + 1, 1, none⟩), .int .i64 k, .int .i64 (rd fs n (placeN 1 (k))), .agg #[.slice a n c, .func (.yield l) #[] #[]], .pointer (some ⟨W.heap.size + 1, 1, none⟩), .int .i64 k, .int .i64 (placeN 1 (k)), .bool true, .bool true, .agg #[.slice a n c, .func (.yield l) #[] #[]], .int .i64 (rd fs n (placeN 1 (k))), .int .i64 (placeN 2 (rd fs n (placeN 1 (k)))), .bool false, .bool false, .bool false, undef, undef, undef, undef, undef, .bool false, .bool false, undef, undef, undef, .bool false, .bool false, undef, undef, undef, undef, undef, .bool false, .bool false, undef, undef, undef, undef, .bool false], defers := [] } (by kernel_rfl) (by kernel_rfl) (by kernel_rfl) (by kernel_rfl) (by intro _ _ d _ _ h; cases d <;> exact h) ?_
      go_wp2
      go_ret
      exact ⟨false, rfl, Fin.next PT1.out.1 PT1.out.2.1 (Fin.no (Fin.kp HS3.out.kp HF.out) _)⟩
    | true =>
      have PT2 : Hid ((0 : Int) ≤ placeN 2 (rd fs n (placeN 1 (k))) ∧ go (placeN 2 (rd fs n (placeN 1 (k))), rd fs n (placeN 2 (rd fs n (placeN 1 (k)))), 0) = true ∧ J ((pre ++ [(placeN 1 k, rd fs n (placeN 1 k), 0)]) ++ [(placeN 2 (rd fs n (placeN 1 (k))), rd fs n (placeN 2 (rd fs n (placeN 1 (k)))), 0)]) w4 ∧ Kp W0.heap.size ts w3 w4) := Fin.yes HF.out
      have HS4 : Hid (Sits W0.heap.size ts J a n fs W0 W w4 ((pre ++ [(placeN 1 k, rd fs n (placeN 1 k), 0)]) ++ [(placeN 2 (rd fs n (placeN 1 (k))), rd fs n (placeN 2 (rd fs n (placeN 1 (k)))), 0)])) := HS3.out.told PT2.out.2.2.1 PT2.out.2.2.2
      clear HF HS3 KB3
      refine wpAnyH_take (i := 10) (oi := _) (v := .bool true) (by rw [List.getElem?_toArray]; exact rfl) (by kernel_rfl) (by kernel_rfl) (by kernel_rfl) (by intro _ _ _ h; exact h) (Or.inl ⟨by kernel_rfl, ?_⟩) hHeld ?_
      · intro w hSw; obtain ⟨⟨s1, s2⟩, s3, s4⟩ := hSw; go_simp
      simp only [Act.put, List.setIfInBounds_toArray, List.set_cons_zero, List.set_cons_succ]
      refine wpAnyH_take (i := 11) (oi := _) (v := .bool true) (by rw [List.getElem?_toArray]; exact rfl) (by kernel_rfl) (by kernel_rfl) (by kernel_rfl) (by intro _ _ _ h; exact h) (Or.inl ⟨by kernel_rfl, ?_⟩) hHeld ?_
      · intro w hSw; obtain ⟨⟨s1, s2⟩, s3, s4⟩ := hSw; go_simp
      simp only [Act.put, List.setIfInBounds_toArray, List.set_cons_zero, List.set_cons_succ]
      refine wpAnyH_take (i := 12) (oi := _) (v := .agg #[.slice a n c, .func (.yield l) #[] #[]]) (by rw [List.getElem?_toArray]; exact rfl) (by kernel_rfl) (by kernel_rfl) (by kernel_rfl) (by intro _ _ _ h; exact h) (Or.inl ⟨by kernel_rfl, ?_⟩) hHeld ?_
      · intro w hSw; obtain ⟨⟨s1, s2⟩, s3, s4⟩ := hSw; go_simp
      simp only [Act.put, List.setIfInBounds_toArray, List.set_cons_zero, List.set_cons_succ]
      refine wpAnyH_take (i := 13) (oi := _) (v := .int .i64 (rd fs n (placeN 1 (k)))) (by rw [List.getElem?_toArray]; exact rfl) (by kernel_rfl) (by kernel_rfl) (by kernel_rfl) (by intro _ _ _ h; exact h) (Or.inl ⟨by kernel_rfl, ?_⟩) hHeld ?_
      · intro w hSw; obtain ⟨⟨s1, s2⟩, s3, s4⟩ := hSw; go_simp
      simp only [Act.put, List.setIfInBounds_toArray, List.set_cons_zero, List.set_cons_succ]
      refine wpAnyH_ready (rs := [14]) (by kernel_rfl) (by simp) ?_
      refine AllReadyH.cons (o := _) (by rw [List.getElem?_toArray]; exact rfl) (fun K hK => ?_) AllReadyH.nil
      rw [if_pos (by kernel_rfl)]
      go_simp
      refine (implClassOf_any (rd fs n (placeN 1 (k))) _).mono ?_
      rintro e w5 ⟨rfl, hw⟩
      have hb : Below w4.heap.size w4 w5 := by rw [hw]; exact Below.refl _ _
      clear hw
      have HS5 : Hid (Sits W0.heap.size ts J a n fs W0 W w5 ((pre ++ [(placeN 1 k, rd fs n (placeN 1 k), 0)]) ++ [(placeN 2 (rd fs n (placeN 1 (k))), rd fs n (placeN 2 (rd fs n (placeN 1 (k)))), 0)])) := HS4.out.on HG.out.gj hb
      have KB5 : Hid (w5.heap[W.heap.size]? = some (tellCells a n c l) ∧ w5.heap[W.heap.size + 1]? = some (.cells #[.int .i64 kd, .int .i64 k, .int .i64 v] 70 (0, 0))) := ⟨(hb.block _ (Array.getElem?_eq_some_iff.1 KB4.out.1).1).trans KB4.out.1, (hb.block _ (Array.getElem?_eq_some_iff.1 KB4.out.2).1).trans KB4.out.2⟩
      refine hK.out _ _ ?_ (fun hHeld => ?_)
      · exact boxS KB5.out
      clear hK K hb HS4 KB4
      refine wpAnyH_ready (rs := [15]) (by kernel_rfl) (by simp) ?_
      refine AllReadyH.cons (o := _) (by rw [List.getElem?_toArray]; exact rfl) (fun K hK => ?_) AllReadyH.nil
      rw [if_pos (by kernel_rfl)]
      go_simp
      refine (implCountAt_any (classN (rd fs n (placeN 1 (k)))) _ HS5.out.names).mono ?_
      rintro e w6 ⟨rfl, hb⟩
      have HS6 : Hid (Sits W0.heap.size ts J a n fs W0 W w6 ((pre ++ [(placeN 1 k, rd fs n (placeN 1 k), 0)]) ++ [(placeN 2 (rd fs n (placeN 1 (k))), rd fs n (placeN 2 (rd fs n (placeN 1 (k)))), 0)])) := HS5.out.on HG.out.gj hb
      have KB6 : Hid (w6.heap[W.heap.size]? = some (tellCells a n c l) ∧ w6.heap[W.heap.size + 1]? = some (.cells #[.int .i64 kd, .int .i64 k, .int .i64 v] 70 (0, 0))) := ⟨(hb.block _ (Array.getElem?_eq_some_iff.1 KB5.out.1).1).trans KB5.out.1, (hb.block _ (Array.getElem?_eq_some_iff.1 KB5.out.2).1).trans KB5.out.2⟩
      refine hK.out _ _ ?_ (fun hHeld => ?_)
      · exact boxS KB6.out
      clear hK K hb HS5 KB5
      refine wpAnyH_ready (rs := [16]) (by kernel_rfl) (by simp) ?_
      refine AllReadyH.cons (o := _) (by rw [List.getElem?_toArray]; exact rfl) (fun K hK => ?_) AllReadyH.nil
      rw [if_pos (by kernel_rfl)]
      go_simp
      refine (shrinks_any a n c l (placeN 3 (classN (rd fs n (placeN 1 (k))))) fs go ts J Jx ((pre ++ [(placeN 1 k, rd fs n (placeN 1 k), 0)]) ++ [(placeN 2 (rd fs n (placeN 1 (k))), rd fs n (placeN 2 (rd fs n (placeN 1 (k)))), 0)]) W0 _ HG.out HS6.out.base HS6.out.low HS6.out.j).mono ?_
      rintro e w7 ⟨b, rfl, hF⟩
      have KB7 : Hid (w7.heap[W.heap.size]? = some (tellCells a n c l) ∧ w7.heap[W.heap.size + 1]? = some (.cells #[.int .i64 kd, .int .i64 k, .int .i64 v] 70 (0, 0))) := ⟨hF.kx.keep _ _ _ _ KB6.out.1 (HG.out.tt _ (by simp)), hF.kx.keep _ _ _ _ KB6.out.2 (HG.out.tt _ (by simp))⟩
      have HF : Hid (Fin go W0.heap.size ts J Jx w6 [shrinkS fs n (placeN 3 (classN (rd fs n (placeN 1 (k)))))] ((pre ++ [(placeN 1 k, rd fs n (placeN 1 k), 0)]) ++ [(placeN 2 (rd fs n (placeN 1 (k))), rd fs n (placeN 2 (rd fs n (placeN 1 (k)))), 0)]) b w7) := hF
      clear hF
      refine hK.out _ _ ?_ (fun hHeld => ?_)
      · exact boxS KB7.out
      clear hK K
      cases b with
      | false =>
        refine wpAnyH_end hHeld [17, 18, 19, 20, 21, 22, 23, 24, 25, 26, 27, 28, 29, 30, 31, 32, 33, 34, 35, 36] { tmps := #[.agg #[.slice a n c, .func (.yield l) #[] #[]], .agg #[.int .i64 kd, .int .i64 k, .int .i64 v], .pointer (some ⟨W.heap.size, 0, none⟩), .pointer (some ⟨W.heap.size + 1, 0, none⟩), .bool false, .int .i64 (rd fs n (placeN 1 (k))), .pointer (some ⟨W.heap.size, 0, none⟩), .slice a n c, .pointer (some ⟨W.heap.size + 1, 1, none⟩), .int .i64 k, .int .i64 (rd fs n (placeN 1 (k))), .agg #[.slice a n c, .func (.yield l) #[] #[]], .pointer (some ⟨W.heap.size + 1, 1, none⟩), .int .i64 k, .int .i64 (placeN 1 (k)), .bool true, .bool true, .agg #[.slice a n c, .func (.yield l) #[] #[]], .int .i64 (rd fs n (placeN 1 (k))), .int .i64 (placeN 2 (rd fs n (placeN 1 (k)))), .bool true, .bool true, .bool true, .agg #[.slice a n c, .func (.yield l) #[] #[]], .int .i64 (rd fs n (placeN 1 (k))), .int .i64 (classN (rd fs n (placeN 1 (k)))), .int .i64 (placeN 3 (classN (rd fs n (placeN 1 (k))))), .bool false, .bool false, .bool false, undef, undef, undef, .bool false, .bool false, undef, undef, undef, undef, undef, .bool false, .bool false, undef, undef, undef, undef, .bool false], defers := [] } (by kernel_rfl) (by kernel_rfl) (by kernel_rfl) (by kernel_rfl) (by intro _ _ d _ _ h; cases d <;> exact h) ?_
        go_wp2
        go_ret
        exact ⟨false, rfl, Fin.next PT1.out.1 PT1.out.2.1 (Fin.next PT2.out.1 PT2.out.2.1 (Fin.no (Fin.kp HS6.out.kp HF.out) _))⟩
      | true =>
        have PT3 : Hid ((0 : Int) ≤ placeN 3 (classN (rd fs n (placeN 1 (k)))) ∧ go (placeN 3 (classN (rd fs n (placeN 1 (k)))), rd fs n (placeN 3 (classN (rd fs n (placeN 1 (k))))), wrap64 ((if rd fs n (placeN 3 (classN (rd fs n (placeN 1 (k))))) < 1 then 1 else rd fs n (placeN 3 (classN (rd fs n (placeN 1 (k)))))) - 1)) = true ∧ J (((pre ++ [(placeN 1 k, rd fs n (placeN 1 k), 0)]) ++ [(placeN 2 (rd fs n (placeN 1 (k))), rd fs n (placeN 2 (rd fs n (placeN 1 (k)))), 0)]) ++ [(placeN 3 (classN (rd fs n (placeN 1 (k)))), rd fs n (placeN 3 (classN (rd fs n (placeN 1 (k))))), wrap64 ((if rd fs n (placeN 3 (classN (rd fs n (placeN 1 (k))))) < 1 then 1 else rd fs n (placeN 3 (classN (rd fs n (placeN 1 (k)))))) - 1))]) w7 ∧ Kp W0.heap.size ts w6 w7) := Fin.yes HF.out
        have HS7 : Hid (Sits W0.heap.size ts J a n fs W0 W w7 (((pre ++ [(placeN 1 k, rd fs n (placeN 1 k), 0)]) ++ [(placeN 2 (rd fs n (placeN 1 (k))), rd fs n (placeN 2 (rd fs n (placeN 1 (k)))), 0)]) ++ [(placeN 3 (classN (rd fs n (placeN 1 (k)))), rd fs n (placeN 3 (classN (rd fs n (placeN 1 (k))))), wrap64 ((if rd fs n (placeN 3 (classN (rd fs n (placeN 1 (k))))) < 1 then 1 else rd fs n (placeN 3 (classN (rd fs n (placeN 1 (k)))))) - 1))])) := HS6.out.told PT3.out.2.2.1 PT3.out.2.2.2
        clear HF HS6 KB6
        refine wpAnyH_take (i := 17) (oi := _) (v := .bool true) (by rw [List.getElem?_toArray]; exact rfl) (by kernel_rfl) (by kernel_rfl) (by kernel_rfl) (by intro _ _ _ h; exact h) (Or.inl ⟨by kernel_rfl, ?_⟩) hHeld ?_
        · intro w hSw; obtain ⟨⟨s1, s2⟩, s3, s4⟩ := hSw; go_simp
        simp only [Act.put, List.setIfInBounds_toArray, List.set_cons_zero, List.set_cons_succ]
        refine wpAnyH_take (i := 18) (oi := _) (v := .bool true) (by rw [List.getElem?_toArray]; exact rfl) (by kernel_rfl) (by kernel_rfl) (by kernel_rfl) (by intro _ _ _ h; exact h) (Or.inl ⟨by kernel_rfl, ?_⟩) hHeld ?_
        · intro w hSw; obtain ⟨⟨s1, s2⟩, s3, s4⟩ := hSw; go_simp
        simp only [Act.put, List.setIfInBounds_toArray, List.set_cons_zero, List.set_cons_succ]
        refine wpAnyH_take (i := 19) (oi := _) (v := .agg #[.slice a n c, .func (.yield l) #[] #[]]) (by rw [List.getElem?_toArray]; exact rfl) (by kernel_rfl) (by kernel_rfl) (by kernel_rfl) (by intro _ _ _ h; exact h) (Or.inl ⟨by kernel_rfl, ?_⟩) hHeld ?_
        · intro w hSw; obtain ⟨⟨s1, s2⟩, s3, s4⟩ := hSw; go_simp
        simp only [Act.put, List.setIfInBounds_toArray, List.set_cons_zero, List.set_cons_succ]
        refine wpAnyH_ready (rs := [20]) (by kernel_rfl) (by simp) ?_
        refine AllReadyH.cons (o := _) (by rw [List.getElem?_toArray]; exact rfl) (fun K hK => ?_) AllReadyH.nil
        rw [if_pos (by kernel_rfl)]
        go_simp
        refine (implStateAt_any _ HS7.out.names).mono ?_
        rintro e w8 ⟨rfl, hb⟩
        have HS8 : Hid (Sits W0.heap.size ts J a n fs W0 W w8 (((pre ++ [(placeN 1 k, rd fs n (placeN 1 k), 0)]) ++ [(placeN 2 (rd fs n (placeN 1 (k))), rd fs n (placeN 2 (rd fs n (placeN 1 (k)))), 0)]) ++ [(placeN 3 (classN (rd fs n (placeN 1 (k)))), rd fs n (placeN 3 (classN (rd fs n (placeN 1 (k))))), wrap64 ((if rd fs n (placeN 3 (classN (rd fs n (placeN 1 (k))))) < 1 then 1 else rd fs n (placeN 3 (classN (rd fs n (placeN 1 (k)))))) - 1))])) := HS7.out.on HG.out.gj hb
        have KB8 : Hid (w8.heap[W.heap.size]? = some (tellCells a n c l) ∧ w8.heap[W.heap.size + 1]? = some (.cells #[.int .i64 kd, .int .i64 k, .int .i64 v] 70 (0, 0))) := ⟨(hb.block _ (Array.getElem?_eq_some_iff.1 KB7.out.1).1).trans KB7.out.1, (hb.block _ (Array.getElem?_eq_some_iff.1 KB7.out.2).1).trans KB7.out.2⟩
        refine hK.out _ _ ?_ (fun hHeld => ?_)
        · exact boxS KB8.out
        clear hK K hb HS7 KB7
        refine wpAnyH_ready (rs := [21]) (by kernel_rfl) (by simp) ?_
        refine AllReadyH.cons (o := _) (by rw [List.getElem?_toArray]; exact rfl) (fun K hK => ?_) AllReadyH.nil
        rw [if_pos (by kernel_rfl)]
        go_simp
        refine (stays_any a n c l (13) fs go ts J Jx (((pre ++ [(placeN 1 k, rd fs n (placeN 1 k), 0)]) ++ [(placeN 2 (rd fs n (placeN 1 (k))), rd fs n (placeN 2 (rd fs n (placeN 1 (k)))), 0)]) ++ [(placeN 3 (classN (rd fs n (placeN 1 (k)))), rd fs n (placeN 3 (classN (rd fs n (placeN 1 (k))))), wrap64 ((if rd fs n (placeN 3 (classN (rd fs n (placeN 1 (k))))) < 1 then 1 else rd fs n (placeN 3 (classN (rd fs n (placeN 1 (k)))))) - 1))]) W0 _ HG.out HS8.out.base HS8.out.low HS8.out.j).mono ?_
        rintro e w9 ⟨b, rfl, hF⟩
        have KB9 : Hid (w9.heap[W.heap.size]? = some (tellCells a n c l) ∧ w9.heap[W.heap.size + 1]? = some (.cells #[.int .i64 kd, .int .i64 k, .int .i64 v] 70 (0, 0))) := ⟨hF.kx.keep _ _ _ _ KB8.out.1 (HG.out.tt _ (by simp)), hF.kx.keep _ _ _ _ KB8.out.2 (HG.out.tt _ (by simp))⟩
        have HF : Hid (Fin go W0.heap.size ts J Jx w8 [stayS fs n (13)] (((pre ++ [(placeN 1 k, rd fs n (placeN 1 k), 0)]) ++ [(placeN 2 (rd fs n (placeN 1 (k))), rd fs n (placeN 2 (rd fs n (placeN 1 (k)))), 0)]) ++ [(placeN 3 (classN (rd fs n (placeN 1 (k)))), rd fs n (placeN 3 (classN (rd fs n (placeN 1 (k))))), wrap64 ((if rd fs n (placeN 3 (classN (rd fs n (placeN 1 (k))))) < 1 then 1 else rd fs n (placeN 3 (classN (rd fs n (placeN 1 (k)))))) - 1))]) b w9) := hF
        clear hF
        refine hK.out _ _ ?_ (fun hHeld => ?_)
        · exact boxS KB9.out
        clear hK K
        cases b with
        | false =>
          refine wpAnyH_end hHeld [22, 23, 24, 25, 26, 27, 28, 29, 30, 31, 32, 33, 34, 35, 36] { tmps := #[.agg #[.slice a n c, .func (.yield l) #[] #[]], .agg #[.int .i64 kd, .int .i64 k, .int .i64 v], .pointer (some ⟨W.heap.size, 0, none⟩), .pointer (some ⟨W.heap.size + 1, 0, none⟩), .bool false, .int .i64 (rd fs n (placeN 1 (k))), .pointer (some ⟨W.heap.size, 0, none⟩), .slice a n c, .pointer (some ⟨W.heap.size + 1, 1, none⟩), .int .i64 k, .int .i64 (rd fs n (placeN 1 (k))), .agg #[.slice a n c, .func (.yield l) #[] #[]], .pointer (some ⟨W.heap.size + 1, 1, none⟩), .int .i64 k, .int .i64 (placeN 1 (k)), .bool true, .bool true, .agg #[.slice a n c, .func (.yield l) #[] #[]], .int .i64 (rd fs n (placeN 1 (k))), .int .i64 (placeN 2 (rd fs n (placeN 1 (k)))), .bool true, .bool true, .bool true, .agg #[.slice a n c, .func (.yield l) #[] #[]], .int .i64 (rd fs n (placeN 1 (k))), .int .i64 (classN (rd fs n (placeN 1 (k)))), .int .i64 (placeN 3 (classN (rd fs n (placeN 1 (k))))), .bool true, .bool true, .bool true, .agg #[.slice a n c, .func (.yield l) #[] #[]], .int .i64 13, .bool false, .bool false, .bool false, undef, undef, undef, undef, undef, .bool false, .bool false, undef, undef, undef, undef, .bool false], defers := [] } (by kernel_rfl) (by kernel_rfl) (by kernel_rfl) (by kernel_rfl) (by intro _ _ d _ _ h; cases d <;> exact h) ?_
          go_wp2
          go_ret
          exact ⟨false, rfl, Fin.next PT1.out.1 PT1.out.2.1 (Fin.next PT2.out.1 PT2.out.2.1 (Fin.next PT3.out.1 PT3.out.2.1 (Fin.no (Fin.kp HS8.out.kp HF.out) _)))⟩
        | true =>
          have PT4 : Hid ((0 : Int) ≤ 13 ∧ go (13, rd fs n (13), rd fs n 13) = true ∧ J ((((pre ++ [(placeN 1 k, rd fs n (placeN 1 k), 0)]) ++ [(placeN 2 (rd fs n (placeN 1 (k))), rd fs n (placeN 2 (rd fs n (placeN 1 (k)))), 0)]) ++ [(placeN 3 (classN (rd fs n (placeN 1 (k)))), rd fs n (placeN 3 (classN (rd fs n (placeN 1 (k))))), wrap64 ((if rd fs n (placeN 3 (classN (rd fs n (placeN 1 (k))))) < 1 then 1 else rd fs n (placeN 3 (classN (rd fs n (placeN 1 (k)))))) - 1))]) ++ [(13, rd fs n (13), rd fs n 13)]) w9 ∧ Kp W0.heap.size ts w8 w9) := Fin.yes HF.out
          have HS9 : Hid (Sits W0.heap.size ts J a n fs W0 W w9 ((((pre ++ [(placeN 1 k, rd fs n (placeN 1 k), 0)]) ++ [(placeN 2 (rd fs n (placeN 1 (k))), rd fs n (placeN 2 (rd fs n (placeN 1 (k)))), 0)]) ++ [(placeN 3 (classN (rd fs n (placeN 1 (k)))), rd fs n (placeN 3 (classN (rd fs n (placeN 1 (k))))), wrap64 ((if rd fs n (placeN 3 (classN (rd fs n (placeN 1 (k))))) < 1 then 1 else rd fs n (placeN 3 (classN (rd fs n (placeN 1 (k)))))) - 1))]) ++ [(13, rd fs n (13), rd fs n 13)])) := HS8.out.told PT4.out.2.2.1 PT4.out.2.2.2
          clear HF HS8 KB8
          refine wpAnyH_take (i := 22) (oi := _) (v := .bool true) (by rw [List.getElem?_toArray]; exact rfl) (by kernel_rfl) (by kernel_rfl) (by kernel_rfl) (by intro _ _ _ h; exact h) (Or.inl ⟨by kernel_rfl, ?_⟩) hHeld ?_
          · intro w hSw; obtain ⟨⟨s1, s2⟩, s3, s4⟩ := hSw; go_simp
          simp only [Act.put, List.setIfInBounds_toArray, List.set_cons_zero, List.set_cons_succ]
          refine wpAnyH_take (i := 23) (oi := _) (v := .bool true) (by rw [List.getElem?_toArray]; exact rfl) (by kernel_rfl) (by kernel_rfl) (by kernel_rfl) (by intro _ _ _ h; exact h) (Or.inl ⟨by kernel_rfl, ?_⟩) hHeld ?_
          · intro w hSw; obtain ⟨⟨s1, s2⟩, s3, s4⟩ := hSw; go_simp
          simp only [Act.put, List.setIfInBounds_toArray, List.set_cons_zero, List.set_cons_succ]
          refine wpAnyH_take (i := 24) (oi := _) (v := .pointer (some ⟨W.heap.size, 0, none⟩)) (by rw [List.getElem?_toArray]; exact rfl) (by kernel_rfl) (by kernel_rfl) (by kernel_rfl) (by intro _ _ _ h; exact h) (Or.inl ⟨by kernel_rfl, ?_⟩) hHeld ?_
          · intro w hSw; obtain ⟨⟨s1, s2⟩, s3, s4⟩ := hSw; go_simp
          simp only [Act.put, List.setIfInBounds_toArray, List.set_cons_zero, List.set_cons_succ]
          refine wpAnyH_take (i := 25) (oi := _) (v := .slice a n c) (by rw [List.getElem?_toArray]; exact rfl) (by kernel_rfl) (by kernel_rfl) (by kernel_rfl) (by intro _ _ _ h; exact h) (Or.inl ⟨by kernel_rfl, ?_⟩) hHeld ?_
          · intro w hSw; obtain ⟨⟨s1, s2⟩, s3, s4⟩ := hSw; go_simp
          simp only [Act.put, List.setIfInBounds_toArray, List.set_cons_zero, List.set_cons_succ]
          refine wpAnyH_take (i := 26) (oi := _) (v := .pointer (some ⟨W.heap.size + 1, 1, none⟩)) (by rw [List.getElem?_toArray]; exact rfl) (by kernel_rfl) (by kernel_rfl) (by kernel_rfl) (by intro _ _ _ h; exact h) (Or.inl ⟨by kernel_rfl, ?_⟩) hHeld ?_
          · intro w hSw; obtain ⟨⟨s1, s2⟩, s3, s4⟩ := hSw; go_simp
          simp only [Act.put, List.setIfInBounds_toArray, List.set_cons_zero, List.set_cons_succ]
          refine wpAnyH_take (i := 27) (oi := _) (v := .int .i64 k) (by rw [List.getElem?_toArray]; exact rfl) (by kernel_rfl) (by kernel_rfl) (by kernel_rfl) (by intro _ _ _ h; exact h) (Or.inl ⟨by kernel_rfl, ?_⟩) hHeld ?_
          · intro w hSw; obtain ⟨⟨s1, s2⟩, s3, s4⟩ := hSw; go_simp
          simp only [Act.put, List.setIfInBounds_toArray, List.set_cons_zero, List.set_cons_succ]
          refine wpAnyH_ready (rs := [28]) (by kernel_rfl) (by simp) ?_
          refine AllReadyH.cons (o := _) (by rw [List.getElem?_toArray]; exact rfl) (fun K hK => ?_) AllReadyH.nil
          rw [if_pos (by kernel_rfl)]
          go_simp
          refine (inVia_any a n c k fs _ HS9.out.names HS9.out.pairs hk).mono ?_
          rintro e w10 ⟨rfl, hb⟩
          have HS10 : Hid (Sits W0.heap.size ts J a n fs W0 W w10 ((((pre ++ [(placeN 1 k, rd fs n (placeN 1 k), 0)]) ++ [(placeN 2 (rd fs n (placeN 1 (k))), rd fs n (placeN 2 (rd fs n (placeN 1 (k)))), 0)]) ++ [(placeN 3 (classN (rd fs n (placeN 1 (k)))), rd fs n (placeN 3 (classN (rd fs n (placeN 1 (k))))), wrap64 ((if rd fs n (placeN 3 (classN (rd fs n (placeN 1 (k))))) < 1 then 1 else rd fs n (placeN 3 (classN (rd fs n (placeN 1 (k)))))) - 1))]) ++ [(13, rd fs n (13), rd fs n 13)])) := HS9.out.on HG.out.gj hb
          have KB10 : Hid (w10.heap[W.heap.size]? = some (tellCells a n c l) ∧ w10.heap[W.heap.size + 1]? = some (.cells #[.int .i64 kd, .int .i64 k, .int .i64 v] 70 (0, 0))) := ⟨(hb.block _ (Array.getElem?_eq_some_iff.1 KB9.out.1).1).trans KB9.out.1, (hb.block _ (Array.getElem?_eq_some_iff.1 KB9.out.2).1).trans KB9.out.2⟩
          refine hK.out _ _ ?_ (fun hHeld => ?_)
          · exact boxS KB10.out
          clear hK K hb HS9 KB9
          obtain ⟨q5, hq5⟩ : ∃ q : Bool, decide (k + 1 < rd fs n 13) = q := ⟨_, rfl⟩
          rw [hq5]
          have HQ5 : Hid (decide (k + 1 < rd fs n 13) = q5) := hq5
          clear hq5
          cases q5 with
          | false =>
            refine wpAnyH_end hHeld [29, 30, 31, 32, 33, 34, 35, 36] { tmps := #[.agg #[.slice a n c, .func (.yield l) #[] #[]], .agg #[.int .i64 kd, .int .i64 k, .int .i64 v], .pointer (some ⟨W.heap.size, 0, none⟩), .pointer (some ⟨W.heap.size + 1, 0, none⟩), .bool false, .int .i64 (rd fs n (placeN 1 (k))), .pointer (some ⟨W.heap.size, 0, none⟩), .slice a n c, .pointer (some ⟨W.heap.size + 1, 1, none⟩), .int .i64 k, .int .i64 (rd fs n (placeN 1 (k))), .agg #[.slice a n c, .func (.yield l) #[] #[]], .pointer (some ⟨W.heap.size + 1, 1, none⟩), .int .i64 k, .int .i64 (placeN 1 (k)), .bool true, .bool true, .agg #[.slice a n c, .func (.yield l) #[] #[]], .int .i64 (rd fs n (placeN 1 (k))), .int .i64 (placeN 2 (rd fs n (placeN 1 (k)))), .bool true, .bool true, .bool true, .agg #[.slice a n c, .func (.yield l) #[] #[]], .int .i64 (rd fs n (placeN 1 (k))), .int .i64 (classN (rd fs n (placeN 1 (k)))), .int .i64 (placeN 3 (classN (rd fs n (placeN 1 (k))))), .bool true, .bool true, .bool true, .agg #[.slice a n c, .func (.yield l) #[] #[]], .int .i64 13, .bool true, .bool true, .bool true, .pointer (some ⟨W.heap.size, 0, none⟩), .slice a n c, .pointer (some ⟨W.heap.size + 1, 1, none⟩), .int .i64 k, .bool false, .bool false, .bool false, undef, undef, undef, undef, .bool false], defers := [] } (by kernel_rfl) (by kernel_rfl) (by kernel_rfl) (by kernel_rfl) (by intro _ _ d _ _ h; cases d <;> exact h) ?_
            go_wp2
            go_ret
            exact ⟨false, rfl, Fin.next PT1.out.1 PT1.out.2.1 (Fin.next PT2.out.1 PT2.out.2.1 (Fin.next PT3.out.1 PT3.out.2.1 (Fin.next PT4.out.1 PT4.out.2.1 (Fin.askNo HQ5.out HS10.out.j HS10.out.kp))))⟩
          | true =>
            refine wpAnyH_take (i := 29) (oi := _) (v := .bool true) (by rw [List.getElem?_toArray]; exact rfl) (by kernel_rfl) (by kernel_rfl) (by kernel_rfl) (by intro _ _ _ h; exact h) (Or.inl ⟨by kernel_rfl, ?_⟩) hHeld ?_
            · intro w hSw; obtain ⟨⟨s1, s2⟩, s3, s4⟩ := hSw; go_simp
            simp only [Act.put, List.setIfInBounds_toArray, List.set_cons_zero, List.set_cons_succ]
            refine wpAnyH_take (i := 30) (oi := _) (v := .bool true) (by rw [List.getElem?_toArray]; exact rfl) (by kernel_rfl) (by kernel_rfl) (by kernel_rfl) (by intro _ _ _ h; exact h) (Or.inl ⟨by kernel_rfl, ?_⟩) hHeld ?_
            · intro w hSw; obtain ⟨⟨s1, s2⟩, s3, s4⟩ := hSw; go_simp
            simp only [Act.put, List.setIfInBounds_toArray, List.set_cons_zero, List.set_cons_succ]
            refine wpAnyH_take (i := 31) (oi := _) (v := .agg #[.slice a n c, .func (.yield l) #[] #[]]) (by rw [List.getElem?_toArray]; exact rfl) (by kernel_rfl) (by kernel_rfl) (by kernel_rfl) (by intro _ _ _ h; exact h) (Or.inl ⟨by kernel_rfl, ?_⟩) hHeld ?_
            · intro w hSw; obtain ⟨⟨s1, s2⟩, s3, s4⟩ := hSw; go_simp
            simp only [Act.put, List.setIfInBounds_toArray, List.set_cons_zero, List.set_cons_succ]
            refine wpAnyH_take (i := 32) (oi := _) (v := .int .i64 (rd fs n (placeN 1 (k)))) (by rw [List.getElem?_toArray]; exact rfl) (by kernel_rfl) (by kernel_rfl) (by kernel_rfl) (by intro _ _ _ h; exact h) (Or.inl ⟨by kernel_rfl, ?_⟩) hHeld ?_
            · intro w hSw; obtain ⟨⟨s1, s2⟩, s3, s4⟩ := hSw; go_simp
            simp only [Act.put, List.setIfInBounds_toArray, List.set_cons_zero, List.set_cons_succ]
            refine wpAnyH_ready (rs := [33]) (by kernel_rfl) (by simp) ?_
            refine AllReadyH.cons (o := _) (by rw [List.getElem?_toArray]; exact rfl) (fun K hK => ?_) AllReadyH.nil
            rw [if_pos (by kernel_rfl)]
            go_simp
            refine (implViaAt_any (rd fs n (placeN 1 (k))) _ HS10.out.names).mono ?_
            rintro e w11 ⟨rfl, hb⟩
            have HS11 : Hid (Sits W0.heap.size ts J a n fs W0 W w11 ((((pre ++ [(placeN 1 k, rd fs n (placeN 1 k), 0)]) ++ [(placeN 2 (rd fs n (placeN 1 (k))), rd fs n (placeN 2 (rd fs n (placeN 1 (k)))), 0)]) ++ [(placeN 3 (classN (rd fs n (placeN 1 (k)))), rd fs n (placeN 3 (classN (rd fs n (placeN 1 (k))))), wrap64 ((if rd fs n (placeN 3 (classN (rd fs n (placeN 1 (k))))) < 1 then 1 else rd fs n (placeN 3 (classN (rd fs n (placeN 1 (k)))))) - 1))]) ++ [(13, rd fs n (13), rd fs n 13)])) := HS10.out.on HG.out.gj hb
            have KB11 : Hid (w11.heap[W.heap.size]? = some (tellCells a n c l) ∧ w11.heap[W.heap.size + 1]? = some (.cells #[.int .i64 kd, .int .i64 k, .int .i64 v] 70 (0, 0))) := ⟨(hb.block _ (Array.getElem?_eq_some_iff.1 KB10.out.1).1).trans KB10.out.1, (hb.block _ (Array.getElem?_eq_some_iff.1 KB10.out.2).1).trans KB10.out.2⟩
            refine hK.out _ _ ?_ (fun hHeld => ?_)
            · exact boxS KB11.out
            clear hK K hb HS10 KB10
            refine wpAnyH_ready (rs := [34]) (by kernel_rfl) (by simp) ?_
            refine AllReadyH.cons (o := _) (by rw [List.getElem?_toArray]; exact rfl) (fun K hK => ?_) AllReadyH.nil
            rw [if_pos (by kernel_rfl)]
            go_simp
            refine (becomes_any a n c l (placeN 5 (rd fs n (placeN 1 (k)))) (0) fs go ts J Jx ((((pre ++ [(placeN 1 k, rd fs n (placeN 1 k), 0)]) ++ [(placeN 2 (rd fs n (placeN 1 (k))), rd fs n (placeN 2 (rd fs n (placeN 1 (k)))), 0)]) ++ [(placeN 3 (classN (rd fs n (placeN 1 (k)))), rd fs n (placeN 3 (classN (rd fs n (placeN 1 (k))))), wrap64 ((if rd fs n (placeN 3 (classN (rd fs n (placeN 1 (k))))) < 1 then 1 else rd fs n (placeN 3 (classN (rd fs n (placeN 1 (k)))))) - 1))]) ++ [(13, rd fs n (13), rd fs n 13)]) W0 _ HG.out HS11.out.base HS11.out.low HS11.out.j).mono ?_
            rintro e w12 ⟨b, rfl, hF⟩
            have KB12 : Hid (w12.heap[W.heap.size]? = some (tellCells a n c l) ∧ w12.heap[W.heap.size + 1]? = some (.cells #[.int .i64 kd, .int .i64 k, .int .i64 v] 70 (0, 0))) := ⟨hF.kx.keep _ _ _ _ KB11.out.1 (HG.out.tt _ (by simp)), hF.kx.keep _ _ _ _ KB11.out.2 (HG.out.tt _ (by simp))⟩
            have HF : Hid (Fin go W0.heap.size ts J Jx w11 [becS fs n (placeN 5 (rd fs n (placeN 1 (k)))) (0)] ((((pre ++ [(placeN 1 k, rd fs n (placeN 1 k), 0)]) ++ [(placeN 2 (rd fs n (placeN 1 (k))), rd fs n (placeN 2 (rd fs n (placeN 1 (k)))), 0)]) ++ [(placeN 3 (classN (rd fs n (placeN 1 (k)))), rd fs n (placeN 3 (classN (rd fs n (placeN 1 (k))))), wrap64 ((if rd fs n (placeN 3 (classN (rd fs n (placeN 1 (k))))) < 1 then 1 else rd fs n (placeN 3 (classN (rd fs n (placeN 1 (k)))))) - 1))]) ++ [(13, rd fs n (13), rd fs n 13)]) b w12) := hF
            clear hF
            refine hK.out _ _ ?_ (fun hHeld => ?_)
            · exact boxS KB12.out
            clear hK K
            refine wpAnyH_take (i := 35) (oi := _) (v := .bool b) (by rw [List.getElem?_toArray]; exact rfl) (by kernel_rfl) (by kernel_rfl) (by kernel_rfl) (by intro _ _ _ h; exact h) (Or.inl ⟨by kernel_rfl, ?_⟩) hHeld ?_
            · intro w hSw; obtain ⟨⟨s1, s2⟩, s3, s4⟩ := hSw; go_simp
            simp only [Act.put, List.setIfInBounds_toArray, List.set_cons_zero, List.set_cons_succ]
            refine wpAnyH_take (i := 36) (oi := _) (v := .bool b) (by rw [List.getElem?_toArray]; exact rfl) (by kernel_rfl) (by kernel_rfl) (by kernel_rfl) (by intro _ _ _ h; exact h) (Or.inl ⟨by kernel_rfl, ?_⟩) hHeld ?_
            · intro w hSw; obtain ⟨⟨s1, s2⟩, s3, s4⟩ := hSw; go_simp
            simp only [Act.put, List.setIfInBounds_toArray, List.set_cons_zero, List.set_cons_succ]
            refine wpAnyH_done (by kernel_rfl) ?_ _
            go_wp2
            go_ret
            exact ⟨b, rfl, Fin.next PT1.out.1 PT1.out.2.1 (Fin.next PT2.out.1 PT2.out.2.1 (Fin.next PT3.out.1 PT3.out.2.1 (Fin.next PT4.out.1 PT4.out.2.1 (Fin.askYes HQ5.out (Fin.kp HS11.out.kp HF.out)))))⟩
end Go.Proofs.YtdihmfhojjlijapDoor
