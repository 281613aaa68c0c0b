/- The program's teller: what a make needs. -/
import Derived.Test.YtekafaoleniebapDoorTell2
import Derived.Test.YtekafaoleniebapDoorCountAt
import Derived.Test.YtekafaoleniebapDoorClassOf
namespace Go.Proofs.YtekafaoleniebapDoor
open Go.ChangeShapes Go.WideShapes Go.ChangeAt Go.RowKit

/-- The operations of its great region. -/
noncomputable def makeNextL : List Oper := match Tryd.f50.body with
  | some (.seq _ (.seq _ (.seq (.region _ ops _) _))) => ops.toList
  | _ => []
set_option maxRecDepth 100000 in
set_option maxHeartbeats 8000000 in
theorem makeNext_any (a : Option Addr) (n c : Nat) (F : Value) (wh : Bool)  (fs : List Int) (go : Ent → Bool) (ts : List TypeId) (J Jx : List Ent → World → Prop) (pre : List Ent) (W0 W : World)
    (hG : Goes F wh a n c fs go W0 ts J Jx) (hB : Base W0 a n fs) (hl : pre.length ≤ 50) (hW : Below W0.heap.size W0 W) (hJ : J pre W) :
    Calls Tryd.prog 50 #[.agg #[.slice a n c, F, .bool wh]] W fun e W' => ∃ b, e = .returned (.bool b) ∧ Fin wh go W0.heap.size ts J Jx W (makeS fs n) pre b W' := by
  have HG : Hid (Goes F wh a n c fs go W0 ts J Jx) := hG
  have HL : Hid (pre.length ≤ 50) := hl
  clear hl
  obtain ⟨wa, hwa⟩ : ∃ wa, (W.alloc (.cells #[.slice a n c, F, .bool wh] 65)) = wa := ⟨_, rfl⟩
  have hx : Below W.heap.size W wa := by rw [← hwa]; exact (Below.refl _ _).alloc (Nat.le_refl _) _
  have bx : wa.heap[W.heap.size]? = some (tellCells a n c F wh) := by rw [← hwa]; exact World.alloc_heap_new W _
  have HSa : Hid (Sits W0.heap.size ts J a n fs W0 W wa pre) := (show Sits W0.heap.size ts J a n fs W0 W W pre from ⟨hB, hW, hJ, Kp.of_below (Below.refl _ _) hW.size⟩).on hG.gj hx
  have KBa : Hid (wa.heap[W.heap.size]? = some (tellCells a n c F wh)) := bx
  clear hG hB hW hJ hx bx
  have boxS : ∀ {w' : World}, w'.heap[W.heap.size]? = some (tellCells a n c F wh) → w'.cell? ⟨W.heap.size, 0, none⟩ = some (.slice a n c) ∧ w'.cell? ⟨W.heap.size, 1, none⟩ = some F ∧ w'.cell? ⟨W.heap.size, 2, none⟩ = some (.bool wh) := fun h => tbox_of h
  obtain ⟨c01, c02, c03⟩ := boxS KBa.out
  go_enter Tryd.func50, Tryd.ntmps50
  go_wp2_with fail
  refine (knownState_any a n c fs _ (by first | exact HSa.out.names | exact hwa ▸ HSa.out.names) (by first | exact HSa.out.pairs | exact hwa ▸ HSa.out.pairs)).mono ?_
  rintro e wb ⟨rfl, hb⟩
  have HSb : Hid (Sits W0.heap.size ts J a n fs W0 W wb pre) := HSa.out.on HG.out.gj (by first | exact hb | exact hwa ▸ hb)
  have hb' : Below wa.heap.size wa wb := by first | exact hb | exact hwa ▸ hb
  obtain ⟨w0, hw0⟩ : ∃ w0, wb.drew = w0 := ⟨_, rfl⟩
  have hd : Below wb.heap.size wb w0 := by rw [← hw0]; exact (Below.refl _ _).drew
  have HS0 : Hid (Sits W0.heap.size ts J a n fs W0 W w0 pre) := HSb.out.on HG.out.gj hd
  have KB0 : Hid (w0.heap[W.heap.size]? = some (tellCells a n c F wh)) := (hd.block _ (Nat.lt_of_lt_of_le (Array.getElem?_eq_some_iff.1 KBa.out).1 hb'.size)).trans ((hb'.block _ (Array.getElem?_eq_some_iff.1 KBa.out).1).trans KBa.out)
  clear hb hb' hd HSb
  go_wp2_with fail
  change (Code.region _ (List.toArray makeNextL) true).wp _ _ _ _
  refine wp_region_held_drew (S := fun w' => w'.cell? ⟨W.heap.size, 0, none⟩ = some (.slice a n c) ∧ w'.cell? ⟨W.heap.size, 1, none⟩ = some F ∧ w'.cell? ⟨W.heap.size, 2, none⟩ = some (.bool wh)) (by kernel_rfl) ?_ (fun hHeld => ?_)
  · rw [hw0]; exact boxS KB0.out
  rw [hw0] at hHeld ⊢
  refine wpAnyH_take (i := 0) (oi := _) (v := .agg #[.slice a n c, F, .bool wh]) (by rw [List.getElem?_toArray]; exact rfl) (by kernel_rfl) (by kernel_rfl) (by kernel_rfl) (by intro _ _ _ h; exact h) (Or.inl ⟨by kernel_rfl, ?_⟩) hHeld ?_
  · intro w hSw; obtain ⟨s1, s2, s3⟩ := hSw; go_simp
  simp only [Act.put, List.setIfInBounds_toArray, List.set_cons_zero, List.set_cons_succ]
  refine wpAnyH_ready (rs := [1]) (by kernel_rfl) (by simp) ?_
  refine AllReadyH.cons (o := _) (by rw [List.getElem?_toArray]; exact rfl) (fun K hK => ?_) AllReadyH.nil
  rw [if_pos (by kernel_rfl)]
  go_simp
  refine (implStateAt_any _ HS0.out.names).mono ?_
  rintro e w1 ⟨rfl, hb⟩
  have HS1 : Hid (Sits W0.heap.size ts J a n fs W0 W w1 pre) := HS0.out.on HG.out.gj hb
  have KB1 : Hid (w1.heap[W.heap.size]? = some (tellCells a n c F wh)) := (hb.block _ (Array.getElem?_eq_some_iff.1 KB0.out).1).trans KB0.out
  refine hK.out _ _ ?_ (fun hHeld => ?_)
  · exact boxS KB1.out
  clear hK K hb HS0 KB0
  refine wpAnyH_ready (rs := [2]) (by kernel_rfl) (by simp) ?_
  refine AllReadyH.cons (o := _) (by rw [List.getElem?_toArray]; exact rfl) (fun K hK => ?_) AllReadyH.nil
  rw [if_pos (by kernel_rfl)]
  go_simp
  refine (grows_any a n c F wh (13) fs go ts J Jx pre W0 _ HG.out HS1.out.base (lenLt (HL.out) (by decide)) HS1.out.low HS1.out.j).mono ?_
  rintro e w2 ⟨b, rfl, hF⟩
  have KB2 : Hid (w2.heap[W.heap.size]? = some (tellCells a n c F wh)) := hF.kx.keep _ _ _ _ KB1.out (HG.out.tt _ (by simp))
  have HF : Hid (Fin wh go W0.heap.size ts J Jx w1 [growS fs n (13)] pre b w2) := hF
  clear hF
  refine hK.out _ _ ?_ (fun hHeld => ?_)
  · exact boxS KB2.out
  clear hK K
  cases b with
  | false =>
    refine wpAnyH_end hHeld [3, 4, 5, 6, 7, 8, 9, 10, 11, 12, 13, 14, 15, 16, 17, 18, 19, 20] { tmps := #[.agg #[.slice a n c, F, .bool wh], .pointer (some ⟨W.heap.size, 0, none⟩), .bool false, .int .i64 (wrap64 (rd fs n 13 - 1)), .pointer (some ⟨W.heap.size, 0, none⟩), .slice a n c, .int .i64 (rd fs n 13), .int .i64 (wrap64 (rd fs n 13 - 1)), .agg #[.slice a n c, F, .bool wh], .int .i64 13, .bool false, .bool false, undef, undef, undef, undef, .bool false, .bool false, undef, undef, undef, undef, undef, undef, undef, undef, undef, .bool false], defers := [] } (by kernel_rfl) (by kernel_rfl) (by kernel_rfl) (by kernel_rfl) (by intro _ _ d _ _ h; cases d <;> exact h) ?_
    go_wp2
    go_ret
    exact ⟨false, rfl, Fin.no (Fin.kp HS1.out.kp HF.out) _⟩
  | true =>
    have PT1 : Hid _ := Fin.stepped (Fin.kp HS1.out.kp HF.out)
    have PJ : _ := Fin.stepped HF.out
    have HS2 : Hid (Sits W0.heap.size ts J a n fs W0 W w2 (pre ++ wordsT wh [growS fs n (13)])) := HS1.out.told PJ.1 PJ.2.1
    clear PJ HF HS1 KB1
    refine wpAnyH_take (i := 3) (oi := _) (v := .bool true) (by rw [List.getElem?_toArray]; exact rfl) (by kernel_rfl) (by kernel_rfl) (by kernel_rfl) (by intro _ _ _ h; exact h) (Or.inl ⟨by kernel_rfl, ?_⟩) hHeld ?_
    · intro w hSw; obtain ⟨s1, s2, s3⟩ := hSw; go_simp
    simp only [Act.put, List.setIfInBounds_toArray, List.set_cons_zero, List.set_cons_succ]
    refine wpAnyH_take (i := 4) (oi := _) (v := .agg #[.slice a n c, F, .bool wh]) (by rw [List.getElem?_toArray]; exact rfl) (by kernel_rfl) (by kernel_rfl) (by kernel_rfl) (by intro _ _ _ h; exact h) (Or.inl ⟨by kernel_rfl, ?_⟩) hHeld ?_
    · intro w hSw; obtain ⟨s1, s2, s3⟩ := hSw; go_simp
    simp only [Act.put, List.setIfInBounds_toArray, List.set_cons_zero, List.set_cons_succ]
    refine wpAnyH_take (i := 5) (oi := _) (v := .int .i64 (wrap64 (rd fs n 13 - 1))) (by rw [List.getElem?_toArray]; exact rfl) (by kernel_rfl) (by kernel_rfl) (by kernel_rfl) (by intro _ _ _ h; exact h) (Or.inl ⟨by kernel_rfl, ?_⟩) hHeld ?_
    · intro w hSw; obtain ⟨s1, s2, s3⟩ := hSw; go_simp
    simp only [Act.put, List.setIfInBounds_toArray, List.set_cons_zero, List.set_cons_succ]
    refine wpAnyH_ready (rs := [6]) (by kernel_rfl) (by simp) ?_
    refine AllReadyH.cons (o := _) (by rw [List.getElem?_toArray]; exact rfl) (fun K hK => ?_) AllReadyH.nil
    rw [if_pos (by kernel_rfl)]
    go_simp
    refine (implRowAt_any (wrap64 (rd fs n 13 - 1)) _ HS2.out.names).mono ?_
    rintro e w3 ⟨rfl, hb⟩
    have HS3 : Hid (Sits W0.heap.size ts J a n fs W0 W w3 (pre ++ wordsT wh [growS fs n (13)])) := HS2.out.on HG.out.gj hb
    have KB3 : Hid (w3.heap[W.heap.size]? = some (tellCells a n c F wh)) := (hb.block _ (Array.getElem?_eq_some_iff.1 KB2.out).1).trans KB2.out
    refine hK.out _ _ ?_ (fun hHeld => ?_)
    · exact boxS KB3.out
    clear hK K hb HS2 KB2
    refine wpAnyH_ready (rs := [7]) (by kernel_rfl) (by simp) ?_
    refine AllReadyH.cons (o := _) (by rw [List.getElem?_toArray]; exact rfl) (fun K hK => ?_) AllReadyH.nil
    rw [if_pos (by kernel_rfl)]
    go_simp
    refine (stays_any a n c F wh (placeN 1 (wrap64 (rd fs n 13 - 1))) fs go ts J Jx (pre ++ wordsT wh [growS fs n (13)]) W0 _ HG.out HS3.out.base (lenLt (len1 (HL.out)) (by decide)) HS3.out.low HS3.out.j).mono ?_
    rintro e w4 ⟨b, rfl, hF⟩
    have KB4 : Hid (w4.heap[W.heap.size]? = some (tellCells a n c F wh)) := hF.kx.keep _ _ _ _ KB3.out (HG.out.tt _ (by simp))
    have HF : Hid (Fin wh go W0.heap.size ts J Jx w3 [stayS fs n (placeN 1 (wrap64 (rd fs n 13 - 1)))] (pre ++ wordsT wh [growS fs n (13)]) b w4) := hF
    clear hF
    refine hK.out _ _ ?_ (fun hHeld => ?_)
    · exact boxS KB4.out
    clear hK K
    cases b with
    | false =>
      refine wpAnyH_end hHeld [8, 9, 10, 11, 12, 13, 14, 15, 16, 17, 18, 19, 20] { tmps := #[.agg #[.slice a n c, F, .bool wh], .pointer (some ⟨W.heap.size, 0, none⟩), .bool false, .int .i64 (wrap64 (rd fs n 13 - 1)), .pointer (some ⟨W.heap.size, 0, none⟩), .slice a n c, .int .i64 (rd fs n 13), .int .i64 (wrap64 (rd fs n 13 - 1)), .agg #[.slice a n c, F, .bool wh], .int .i64 13, .bool true, .bool true, .agg #[.slice a n c, F, .bool wh], .int .i64 (wrap64 (rd fs n 13 - 1)), .int .i64 (placeN 1 (wrap64 (rd fs n 13 - 1))), .bool false, .bool false, .bool false, undef, undef, undef, undef, undef, undef, undef, undef, undef, .bool false], defers := [] } (by kernel_rfl) (by kernel_rfl) (by kernel_rfl) (by kernel_rfl) (by intro _ _ d _ _ h; cases d <;> exact h) ?_
      go_wp2
      go_ret
      exact ⟨false, rfl, PT1.out.2.2 _ _ _ (Fin.no (Fin.kp HS3.out.kp HF.out) _)⟩
    | true =>
      have PT2 : Hid _ := Fin.stepped (Fin.kp HS3.out.kp HF.out)
      have PJ : _ := Fin.stepped HF.out
      have HS4 : Hid (Sits W0.heap.size ts J a n fs W0 W w4 ((pre ++ wordsT wh [growS fs n (13)]) ++ wordsT wh [stayS fs n (placeN 1 (wrap64 (rd fs n 13 - 1)))])) := HS3.out.told PJ.1 PJ.2.1
      clear PJ HF HS3 KB3
      refine wpAnyH_take (i := 8) (oi := _) (v := .bool true) (by rw [List.getElem?_toArray]; exact rfl) (by kernel_rfl) (by kernel_rfl) (by kernel_rfl) (by intro _ _ _ h; exact h) (Or.inl ⟨by kernel_rfl, ?_⟩) hHeld ?_
      · intro w hSw; obtain ⟨s1, s2, s3⟩ := hSw; go_simp
      simp only [Act.put, List.setIfInBounds_toArray, List.set_cons_zero, List.set_cons_succ]
      refine wpAnyH_take (i := 9) (oi := _) (v := .bool true) (by rw [List.getElem?_toArray]; exact rfl) (by kernel_rfl) (by kernel_rfl) (by kernel_rfl) (by intro _ _ _ h; exact h) (Or.inl ⟨by kernel_rfl, ?_⟩) hHeld ?_
      · intro w hSw; obtain ⟨s1, s2, s3⟩ := hSw; go_simp
      simp only [Act.put, List.setIfInBounds_toArray, List.set_cons_zero, List.set_cons_succ]
      refine wpAnyH_take (i := 10) (oi := _) (v := .agg #[.slice a n c, F, .bool wh]) (by rw [List.getElem?_toArray]; exact rfl) (by kernel_rfl) (by kernel_rfl) (by kernel_rfl) (by intro _ _ _ h; exact h) (Or.inl ⟨by kernel_rfl, ?_⟩) hHeld ?_
      · intro w hSw; obtain ⟨s1, s2, s3⟩ := hSw; go_simp
      simp only [Act.put, List.setIfInBounds_toArray, List.set_cons_zero, List.set_cons_succ]
      refine wpAnyH_take (i := 11) (oi := _) (v := .pointer (some ⟨W.heap.size, 0, none⟩)) (by rw [List.getElem?_toArray]; exact rfl) (by kernel_rfl) (by kernel_rfl) (by kernel_rfl) (by intro _ _ _ h; exact h) (Or.inl ⟨by kernel_rfl, ?_⟩) hHeld ?_
      · intro w hSw; obtain ⟨s1, s2, s3⟩ := hSw; go_simp
      simp only [Act.put, List.setIfInBounds_toArray, List.set_cons_zero, List.set_cons_succ]
      refine wpAnyH_take (i := 12) (oi := _) (v := .slice a n c) (by rw [List.getElem?_toArray]; exact rfl) (by kernel_rfl) (by kernel_rfl) (by kernel_rfl) (by intro _ _ _ h; exact h) (Or.inl ⟨by kernel_rfl, ?_⟩) hHeld ?_
      · intro w hSw; obtain ⟨s1, s2, s3⟩ := hSw; go_simp
      simp only [Act.put, List.setIfInBounds_toArray, List.set_cons_zero, List.set_cons_succ]
      refine wpAnyH_take (i := 13) (oi := _) (v := .int .i64 (wrap64 (rd fs n 13 - 1))) (by rw [List.getElem?_toArray]; exact rfl) (by kernel_rfl) (by kernel_rfl) (by kernel_rfl) (by intro _ _ _ h; exact h) (Or.inl ⟨by kernel_rfl, ?_⟩) hHeld ?_
      · intro w hSw; obtain ⟨s1, s2, s3⟩ := hSw; go_simp
      simp only [Act.put, List.setIfInBounds_toArray, List.set_cons_zero, List.set_cons_succ]
      refine wpAnyH_take (i := 16) (oi := _) (v := .int .i64 (wrap64 (rd fs n 13 - 1))) (by rw [List.getElem?_toArray]; exact rfl) (by kernel_rfl) (by kernel_rfl) (by kernel_rfl) (by intro _ _ _ h; exact h) (Or.inl ⟨by kernel_rfl, ?_⟩) hHeld ?_
      · intro w hSw; obtain ⟨s1, s2, s3⟩ := hSw; go_simp
      simp only [Act.put, List.setIfInBounds_toArray, List.set_cons_zero, List.set_cons_succ]
      refine wpAnyH_take (i := 17) (oi := _) (v := .int .i64 (wrap64 (wrap64 (rd fs n 13 - 1) + 1))) (by rw [List.getElem?_toArray]; exact rfl) (by kernel_rfl) (by kernel_rfl) (by kernel_rfl) (by intro _ _ _ h; exact h) (Or.inl ⟨by kernel_rfl, ?_⟩) hHeld ?_
      · intro w hSw; obtain ⟨s1, s2, s3⟩ := hSw; go_simp; exact wrapEq _
      simp only [Act.put, List.setIfInBounds_toArray, List.set_cons_zero, List.set_cons_succ]
      refine wpAnyH_ready (rs := [14]) (by kernel_rfl) (by simp) ?_
      refine AllReadyH.cons (o := _) (by rw [List.getElem?_toArray]; exact rfl) (fun K hK => ?_) AllReadyH.nil
      rw [if_pos (by kernel_rfl)]
      go_simp
      refine (knownRow_any a n c (wrap64 (rd fs n 13 - 1)) fs _ HS4.out.names HS4.out.pairs).mono ?_
      rintro e w5 ⟨rfl, hb⟩
      have HS5 : Hid (Sits W0.heap.size ts J a n fs W0 W w5 ((pre ++ wordsT wh [growS fs n (13)]) ++ wordsT wh [stayS fs n (placeN 1 (wrap64 (rd fs n 13 - 1)))])) := HS4.out.on HG.out.gj hb
      have KB5 : Hid (w5.heap[W.heap.size]? = some (tellCells a n c F wh)) := (hb.block _ (Array.getElem?_eq_some_iff.1 KB4.out).1).trans KB4.out
      refine hK.out _ _ ?_ (fun hHeld => ?_)
      · exact boxS KB5.out
      clear hK K hb HS4 KB4
      refine wpAnyH_ready (rs := [15]) (by kernel_rfl) (by simp) ?_
      refine AllReadyH.cons (o := _) (by rw [List.getElem?_toArray]; exact rfl) (fun K hK => ?_) AllReadyH.nil
      rw [if_pos (by kernel_rfl)]
      go_simp
      refine (implViaAt_any (rd fs n (placeN 1 (wrap64 (rd fs n 13 - 1)))) _ HS5.out.names).mono ?_
      rintro e w6 ⟨rfl, hb⟩
      have HS6 : Hid (Sits W0.heap.size ts J a n fs W0 W w6 ((pre ++ wordsT wh [growS fs n (13)]) ++ wordsT wh [stayS fs n (placeN 1 (wrap64 (rd fs n 13 - 1)))])) := HS5.out.on HG.out.gj hb
      have KB6 : Hid (w6.heap[W.heap.size]? = some (tellCells a n c F wh)) := (hb.block _ (Array.getElem?_eq_some_iff.1 KB5.out).1).trans KB5.out
      refine hK.out _ _ ?_ (fun hHeld => ?_)
      · exact boxS KB6.out
      clear hK K hb HS5 KB5
      refine wpAnyH_ready (rs := [18]) (by kernel_rfl) (by simp) ?_
      refine AllReadyH.cons (o := _) (by rw [List.getElem?_toArray]; exact rfl) (fun K hK => ?_) AllReadyH.nil
      rw [if_pos (by kernel_rfl)]
      go_simp
      refine (HG.out.bec (placeN 5 (rd fs n (placeN 1 (wrap64 (rd fs n 13 - 1))))) (wrap64 (wrap64 (rd fs n 13 - 1) + 1)) ((pre ++ wordsT wh [growS fs n (13)]) ++ wordsT wh [stayS fs n (placeN 1 (wrap64 (rd fs n 13 - 1)))]) _ (lenLt (len1 (len1 (HL.out))) (by decide)) HS6.out.low HS6.out.j).mono ?_
      rintro e w7 ⟨b, rfl, hF⟩
      have KB7 : Hid (w7.heap[W.heap.size]? = some (tellCells a n c F wh)) := hF.kx.keep _ _ _ _ KB6.out (HG.out.tt _ (by simp))
      have HF : Hid (Fin wh go W0.heap.size ts J Jx w6 [becS fs n (placeN 5 (rd fs n (placeN 1 (wrap64 (rd fs n 13 - 1))))) (wrap64 (wrap64 (rd fs n 13 - 1) + 1))] ((pre ++ wordsT wh [growS fs n (13)]) ++ wordsT wh [stayS fs n (placeN 1 (wrap64 (rd fs n 13 - 1)))]) b w7) := hF
      clear hF
      refine hK.out _ _ ?_ (fun hHeld => ?_)
      · exact boxS KB7.out
      clear hK K
      refine wpAnyH_take (i := 19) (oi := _) (v := .bool b) (by rw [List.getElem?_toArray]; exact rfl) (by kernel_rfl) (by kernel_rfl) (by kernel_rfl) (by intro _ _ _ h; exact h) (Or.inl ⟨by kernel_rfl, ?_⟩) hHeld ?_
      · intro w hSw; obtain ⟨s1, s2, s3⟩ := hSw; go_simp
      simp only [Act.put, List.setIfInBounds_toArray, List.set_cons_zero, List.set_cons_succ]
      refine wpAnyH_take (i := 20) (oi := _) (v := .bool b) (by rw [List.getElem?_toArray]; exact rfl) (by kernel_rfl) (by kernel_rfl) (by kernel_rfl) (by intro _ _ _ h; exact h) (Or.inl ⟨by kernel_rfl, ?_⟩) hHeld ?_
      · intro w hSw; obtain ⟨s1, s2, s3⟩ := hSw; go_simp
      simp only [Act.put, List.setIfInBounds_toArray, List.set_cons_zero, List.set_cons_succ]
      refine wpAnyH_done (by kernel_rfl) ?_ _
      go_wp2
      go_ret
      exact ⟨b, rfl, PT1.out.2.2 _ _ _ (PT2.out.2.2 _ _ _ (Fin.kp HS6.out.kp HF.out))⟩
end Go.Proofs.YtekafaoleniebapDoor
