/- Texts joined: Put. -/
import Derived.Test.YtenlapppaimkkabGreatDoorPL04
import Derived.Test.YtenlapppaimkkabGreatDoorPL03
set_option maxHeartbeats 8000000
set_option maxRecDepth 100000
namespace Go.Proofs.YtenlapppaimkkabGreatDoor
section
open Go.ChangeShapes Go.WideShapes Go.ChangeAt Go.RowKit
noncomputable def putL : List Oper := match Tryz.f101.body with
  | some (.seq _ (.seq (.region _ ops _) _)) => ops.toList
  | _ => []
theorem put_any (a : Option Addr) (n c : Nat) (F : Value) (wh : Bool) (kd k v : Int) (fs : List Int) (go : Ent → Bool) (ts : List TypeId) (J Jx : List Ent → World → Prop) (pre : List Ent) (W0 W : World)
    (hG : Goes F wh a n c fs go W0 ts J Jx) (hB : Base W0 a n fs) (hl : pre.length ≤ 50) (hW : Below W0.heap.size W0 W) (hJ : J pre W) (hk : 0 ≤ k ∧ k ≤ 3) :
    Calls Tryz.prog 101 #[.agg #[.slice a n c, F, .bool wh], .agg #[.int .i64 kd, .int .i64 k, .int .i64 v]] W fun e W' => ∃ b, e = .returned (.bool b) ∧ Fin wh go W0.heap.size ts J Jx W (putS wh fs n k v) pre b W' := by
  have HG : Hid (Goes F wh a n c fs go W0 ts J Jx) := hG
  have HL : Hid (pre.length ≤ 50) := hl
  clear hl
  obtain ⟨w0, hw0⟩ : ∃ w0, ((W.alloc (.cells #[.slice a n c, F, .bool wh] 110)).alloc (.cells #[.int .i64 kd, .int .i64 k, .int .i64 v] 93)).drew = w0 := ⟨_, rfl⟩
  have hx : Below W.heap.size W w0 := by rw [← hw0]; exact (((Below.refl _ _).alloc (Nat.le_refl _) _).alloc (by simp) _).drew
  have bx : w0.heap[W.heap.size]? = some (tellCells a n c F wh) := by rw [← hw0]; exact (Below.heap_alloc _ _ _ (by simp)).trans (World.alloc_heap_new W _)
  have by' : w0.heap[W.heap.size + 1]? = some (.cells #[.int .i64 kd, .int .i64 k, .int .i64 v] 93 (0, 0)) := by
    rw [← hw0]; have := World.alloc_heap_new (W.alloc (.cells #[.slice a n c, F, .bool wh] 110)) (.cells #[.int .i64 kd, .int .i64 k, .int .i64 v] 93); rw [World.size_alloc] at this; exact this
  have HS0 : Hid (Sits W0.heap.size ts J a n fs W0 W w0 pre) := (show Sits W0.heap.size ts J a n fs W0 W W pre from ⟨hB, hW, hJ, Kp.of_below (Below.refl _ _) hW.size⟩).on hG.gj hx
  have KB0 : Hid (w0.heap[W.heap.size]? = some (tellCells a n c F wh) ∧ w0.heap[W.heap.size + 1]? = some (.cells #[.int .i64 kd, .int .i64 k, .int .i64 v] 93 (0, 0))) := ⟨bx, by'⟩
  clear hG hB hW hJ hx bx by'
  have WK : Hid (IntKind.i64.wrap (k + 1) = k + 1) := (by rw [IntKind.wrap_i64]; omega : IntKind.i64.wrap (k + 1) = k + 1)
  have boxS : ∀ {w' : World}, (w'.heap[W.heap.size]? = some (tellCells a n c F wh) ∧ w'.heap[W.heap.size + 1]? = some (.cells #[.int .i64 kd, .int .i64 k, .int .i64 v] 93 (0, 0))) → (w'.cell? ⟨W.heap.size, 0, none⟩ = some (.slice a n c) ∧ w'.cell? ⟨W.heap.size, 1, none⟩ = some F ∧ w'.cell? ⟨W.heap.size, 2, none⟩ = some (.bool wh)) ∧ w'.cell? ⟨W.heap.size + 1, 1, none⟩ = some (.int .i64 k) ∧ w'.cell? ⟨W.heap.size + 1, 2, none⟩ = some (.int .i64 v) := fun h => ⟨tbox_of h.1, by simp [World.cell?, h.2], by simp [World.cell?, h.2]⟩
  go_enter Tryz.func101, Tryz.ntmps101
  go_wp2_with fail
  change (Code.region _ (List.toArray putL) true).wp _ _ _ _
  refine wp_region_held_drew (S := fun w' => (w'.cell? ⟨W.heap.size, 0, none⟩ = some (.slice a n c) ∧ w'.cell? ⟨W.heap.size, 1, none⟩ = some F ∧ w'.cell? ⟨W.heap.size, 2, none⟩ = some (.bool wh)) ∧ w'.cell? ⟨W.heap.size + 1, 1, none⟩ = some (.int .i64 k) ∧ w'.cell? ⟨W.heap.size + 1, 2, none⟩ = some (.int .i64 v)) (by kernel_rfl) ?_ (fun hHeld => ?_)
  · rw [hw0]; exact boxS KB0.out
  rw [hw0] at hHeld ⊢
  refine takeH 0 (.agg #[.slice a n c, F, .bool wh]) ?_ hHeld ?_
  · intro w hSw; obtain ⟨⟨s1, s2, s3⟩, s4, s5⟩ := hSw; go_simp
  simp only [Act.put, List.setIfInBounds_toArray, List.set_cons_zero, List.set_cons_succ]
  refine takeH 1 (.pointer (some ⟨W.heap.size + 1, 1, none⟩)) ?_ hHeld ?_
  · intro w hSw; obtain ⟨⟨s1, s2, s3⟩, s4, s5⟩ := hSw; go_simp
  simp only [Act.put, List.setIfInBounds_toArray, List.set_cons_zero, List.set_cons_succ]
  refine takeH 2 (.int .i64 k) ?_ hHeld ?_
  · intro w hSw; obtain ⟨⟨s1, s2, s3⟩, s4, s5⟩ := hSw; go_simp
  simp only [Act.put, List.setIfInBounds_toArray, List.set_cons_zero, List.set_cons_succ]
  refine takeH 4 (.pointer (some ⟨W.heap.size + 1, 2, none⟩)) ?_ hHeld ?_
  · intro w hSw; obtain ⟨⟨s1, s2, s3⟩, s4, s5⟩ := hSw; go_simp
  simp only [Act.put, List.setIfInBounds_toArray, List.set_cons_zero, List.set_cons_succ]
  refine takeH 5 (.int .i64 v) ?_ hHeld ?_
  · intro w hSw; obtain ⟨⟨s1, s2, s3⟩, s4, s5⟩ := hSw; go_simp
  simp only [Act.put, List.setIfInBounds_toArray, List.set_cons_zero, List.set_cons_succ]
  refine wpAnyH_ready (rs := [3]) (by kernel_rfl) (by simp) ?_
  refine AllReadyH.cons (o := _) (by rw [List.getElem?_toArray]; exact rfl) (fun K hK => ?_) AllReadyH.nil
  rw [if_pos (by kernel_rfl)]
  go_simp
  refine (implRowAt_any (k) _ HS0.out.names).mono ?_
  rintro e w1 ⟨rfl, hb⟩
  have HS1 : Hid (Sits W0.heap.size ts J a n fs W0 W w1 pre) := HS0.out.on HG.out.gj hb
  have KB1 : Hid (w1.heap[W.heap.size]? = some (tellCells a n c F wh) ∧ w1.heap[W.heap.size + 1]? = some (.cells #[.int .i64 kd, .int .i64 k, .int .i64 v] 93 (0, 0))) := ⟨(hb.block _ (Array.getElem?_eq_some_iff.1 KB0.out.1).1).trans KB0.out.1, (hb.block _ (Array.getElem?_eq_some_iff.1 KB0.out.2).1).trans KB0.out.2⟩
  refine hK.out _ _ ?_ (fun hHeld => ?_)
  · exact boxS KB1.out
  clear hK K hb HS0 KB0
  refine wpAnyH_ready (rs := [6]) (by kernel_rfl) (by simp) ?_
  refine AllReadyH.cons (o := _) (by rw [List.getElem?_toArray]; exact rfl) (fun K hK => ?_) AllReadyH.nil
  rw [if_pos (by kernel_rfl)]
  go_simp
  refine (HG.out.bec (placeN 1 k) (v) pre _ (lenLt (HL.out) (by decide)) HS1.out.low HS1.out.j).mono ?_
  rintro e w2 ⟨b, rfl, hF⟩
  have KB2 : Hid (w2.heap[W.heap.size]? = some (tellCells a n c F wh) ∧ w2.heap[W.heap.size + 1]? = some (.cells #[.int .i64 kd, .int .i64 k, .int .i64 v] 93 (0, 0))) := ⟨hF.kx.keep _ _ _ _ KB1.out.1 (HG.out.tt _ (by simp)), hF.kx.keep _ _ _ _ KB1.out.2 (HG.out.tt _ (by simp))⟩
  have HF : Hid (Fin wh go W0.heap.size ts J Jx w1 [becS fs n (placeN 1 k) (v)] pre b w2) := hF
  clear hF
  refine hK.out _ _ ?_ (fun hHeld => ?_)
  · exact boxS KB2.out
  clear hK K
  cases b with
  | false =>
    refine wpAnyH_end hHeld [7, 8, 9, 10, 11, 12, 13, 14, 15, 16, 17, 18, 19, 20, 21, 22, 23, 24, 25, 26, 27, 28, 29, 30, 31, 32, 33, 34, 35, 36, 37, 38, 39, 40, 41, 42, 43, 44, 45, 46, 47, 48, 49, 50, 51, 52, 53, 54, 55, 56, 57, 58, 59, 60, 61, 62] { tmps := #[.agg #[.slice a n c, F, .bool wh], .agg #[.int .i64 kd, .int .i64 k, .int .i64 v], .pointer (some ⟨W.heap.size, 0, none⟩), .pointer (some ⟨W.heap.size + 1, 0, none⟩), .bool false, .agg #[.slice a n c, F, .bool wh], .pointer (some ⟨W.heap.size + 1, 1, none⟩), .int .i64 k, .int .i64 (placeN 1 (k)), .pointer (some ⟨W.heap.size + 1, 2, none⟩), .int .i64 v, .bool false, .bool false, undef, undef, undef, undef, undef, undef, .bool false, .bool false, undef, undef, undef, undef, undef, undef, undef, undef, .bool false, .bool false, undef, undef, undef, undef, undef, undef, .bool false, .bool false, undef, undef, undef, undef, undef, undef, .bool false, .bool false, undef, undef, undef, .bool false, .bool false, undef, undef, undef, undef, .bool false, .bool false, undef, undef, undef, undef, undef, undef, undef, undef, .bool false], defers := [] } (by kernel_rfl) (by kernel_rfl) (by kernel_rfl) (by kernel_rfl) (by intro _ _ d _ _ h; cases d <;> exact h) ?_
    go_wp2
    go_ret
    exact ⟨false, rfl, Fin.no (Fin.kp HS1.out.kp HF.out) _⟩
  | true =>
    have PT1 : Hid _ := Fin.stepped (Fin.kp HS1.out.kp HF.out)
    have PJ : _ := Fin.stepped HF.out
    have HS2 : Hid (Sits W0.heap.size ts J a n fs W0 W w2 (pre ++ wordsT wh [becS fs n (placeN 1 k) (v)])) := HS1.out.told PJ.1 PJ.2.1
    clear PJ HF HS1 KB1
    refine takeH 7 (.bool true) ?_ hHeld ?_
    · intro w hSw; obtain ⟨⟨s1, s2, s3⟩, s4, s5⟩ := hSw; go_simp
    simp only [Act.put, List.setIfInBounds_toArray, List.set_cons_zero, List.set_cons_succ]
    refine takeH 8 (.pointer (some ⟨W.heap.size, 0, none⟩)) ?_ hHeld ?_
    · intro w hSw; obtain ⟨⟨s1, s2, s3⟩, s4, s5⟩ := hSw; go_simp
    simp only [Act.put, List.setIfInBounds_toArray, List.set_cons_zero, List.set_cons_succ]
    refine takeH 9 (.slice a n c) ?_ hHeld ?_
    · intro w hSw; obtain ⟨⟨s1, s2, s3⟩, s4, s5⟩ := hSw; go_simp
    simp only [Act.put, List.setIfInBounds_toArray, List.set_cons_zero, List.set_cons_succ]
    refine takeH 10 (.pointer (some ⟨W.heap.size + 1, 1, none⟩)) ?_ hHeld ?_
    · intro w hSw; obtain ⟨⟨s1, s2, s3⟩, s4, s5⟩ := hSw; go_simp
    simp only [Act.put, List.setIfInBounds_toArray, List.set_cons_zero, List.set_cons_succ]
    refine takeH 11 (.int .i64 k) ?_ hHeld ?_
    · intro w hSw; obtain ⟨⟨s1, s2, s3⟩, s4, s5⟩ := hSw; go_simp
    simp only [Act.put, List.setIfInBounds_toArray, List.set_cons_zero, List.set_cons_succ]
    refine wpAnyH_ready (rs := [12]) (by kernel_rfl) (by simp) ?_
    refine AllReadyH.cons (o := _) (by rw [List.getElem?_toArray]; exact rfl) (fun K hK => ?_) AllReadyH.nil
    rw [if_pos (by kernel_rfl)]
    go_simp
    refine (knownRow_any a n c (k) fs _ HS2.out.names HS2.out.pairs).mono ?_
    rintro e w3 ⟨rfl, hb⟩
    have HS3 : Hid (Sits W0.heap.size ts J a n fs W0 W w3 (pre ++ wordsT wh [becS fs n (placeN 1 k) (v)])) := HS2.out.on HG.out.gj hb
    have KB3 : Hid (w3.heap[W.heap.size]? = some (tellCells a n c F wh) ∧ w3.heap[W.heap.size + 1]? = some (.cells #[.int .i64 kd, .int .i64 k, .int .i64 v] 93 (0, 0))) := ⟨(hb.block _ (Array.getElem?_eq_some_iff.1 KB2.out.1).1).trans KB2.out.1, (hb.block _ (Array.getElem?_eq_some_iff.1 KB2.out.2).1).trans KB2.out.2⟩
    refine hK.out _ _ ?_ (fun hHeld => ?_)
    · exact boxS KB3.out
    clear hK K hb HS2 KB2
    obtain ⟨q2, hq2⟩ : ∃ q : Bool, (rd fs n (placeN 1 (k)) == 0) = q := ⟨_, rfl⟩
    have HQ2 : Hid ((rd fs n (placeN 1 (k)) == 0) = q2) := hq2
    cases q2 with
    | false =>
      refine takeH 13 (.bool false) ?_ hHeld ?_
      · intro w hSw; obtain ⟨⟨s1, s2, s3⟩, s4, s5⟩ := hSw; go_simp
      simp only [Act.put, List.setIfInBounds_toArray, List.set_cons_zero, List.set_cons_succ]
      clear hq2
      refine wpAnyH_end hHeld [14, 15, 16, 17, 18, 19, 20, 21, 22, 23, 24, 25, 26, 27, 28, 29, 30, 31, 32, 33, 34, 35, 36, 37, 38, 39, 40, 41, 42, 43, 44, 45, 46, 47, 48, 49, 50, 51, 52, 53, 54, 55, 56, 57, 58, 59, 60, 61, 62] { tmps := #[.agg #[.slice a n c, F, .bool wh], .agg #[.int .i64 kd, .int .i64 k, .int .i64 v], .pointer (some ⟨W.heap.size, 0, none⟩), .pointer (some ⟨W.heap.size + 1, 0, none⟩), .bool false, .agg #[.slice a n c, F, .bool wh], .pointer (some ⟨W.heap.size + 1, 1, none⟩), .int .i64 k, .int .i64 (placeN 1 (k)), .pointer (some ⟨W.heap.size + 1, 2, none⟩), .int .i64 v, .bool true, .bool true, .pointer (some ⟨W.heap.size, 0, none⟩), .slice a n c, .pointer (some ⟨W.heap.size + 1, 1, none⟩), .int .i64 k, .int .i64 (rd fs n (placeN 1 (k))), .bool false, .bool false, .bool false, undef, undef, undef, undef, undef, undef, undef, undef, .bool false, .bool false, undef, undef, undef, undef, undef, undef, .bool false, .bool false, undef, undef, undef, undef, undef, undef, .bool false, .bool false, undef, undef, undef, .bool false, .bool false, undef, undef, undef, undef, .bool false, .bool false, undef, undef, undef, undef, undef, undef, undef, undef, .bool false], defers := [] } (by kernel_rfl) (by kernel_rfl) (by kernel_rfl) (by kernel_rfl) (by intro _ _ d _ _ h; cases d <;> exact h) ?_
      go_wp2
      go_ret
      exact ⟨false, rfl, PT1.out.2.2 _ _ _ (Fin.askNo (decide_eq_false (by simpa using HQ2.out)) HS3.out.j HS3.out.kp)⟩
    | true =>
      refine takeH 13 (.bool true) ?_ hHeld ?_
      · intro w hSw; obtain ⟨⟨s1, s2, s3⟩, s4, s5⟩ := hSw; go_simp
      simp only [Act.put, List.setIfInBounds_toArray, List.set_cons_zero, List.set_cons_succ]
      clear hq2
      refine takeH 14 (.bool true) ?_ hHeld ?_
      · intro w hSw; obtain ⟨⟨s1, s2, s3⟩, s4, s5⟩ := hSw; go_simp
      simp only [Act.put, List.setIfInBounds_toArray, List.set_cons_zero, List.set_cons_succ]
      refine takeH 15 (.bool true) ?_ hHeld ?_
      · intro w hSw; obtain ⟨⟨s1, s2, s3⟩, s4, s5⟩ := hSw; go_simp
      simp only [Act.put, List.setIfInBounds_toArray, List.set_cons_zero, List.set_cons_succ]
      refine takeH 16 (.agg #[.slice a n c, F, .bool wh]) ?_ hHeld ?_
      · intro w hSw; obtain ⟨⟨s1, s2, s3⟩, s4, s5⟩ := hSw; go_simp
      simp only [Act.put, List.setIfInBounds_toArray, List.set_cons_zero, List.set_cons_succ]
      refine takeH 17 (.pointer (some ⟨W.heap.size + 1, 2, none⟩)) ?_ hHeld ?_
      · intro w hSw; obtain ⟨⟨s1, s2, s3⟩, s4, s5⟩ := hSw; go_simp
      simp only [Act.put, List.setIfInBounds_toArray, List.set_cons_zero, List.set_cons_succ]
      refine takeH 18 (.int .i64 v) ?_ hHeld ?_
      · intro w hSw; obtain ⟨⟨s1, s2, s3⟩, s4, s5⟩ := hSw; go_simp
      simp only [Act.put, List.setIfInBounds_toArray, List.set_cons_zero, List.set_cons_succ]
      refine takeH 20 (.pointer (some ⟨W.heap.size + 1, 1, none⟩)) ?_ hHeld ?_
      · intro w hSw; obtain ⟨⟨s1, s2, s3⟩, s4, s5⟩ := hSw; go_simp
      simp only [Act.put, List.setIfInBounds_toArray, List.set_cons_zero, List.set_cons_succ]
      refine takeH 21 (.int .i64 k) ?_ hHeld ?_
      · intro w hSw; obtain ⟨⟨s1, s2, s3⟩, s4, s5⟩ := hSw; go_simp
      simp only [Act.put, List.setIfInBounds_toArray, List.set_cons_zero, List.set_cons_succ]
      refine takeH 22 (.int .i64 (k + 1)) ?_ hHeld ?_
      · intro w hSw; obtain ⟨⟨s1, s2, s3⟩, s4, s5⟩ := hSw; go_simp; exact WK.out
      simp only [Act.put, List.setIfInBounds_toArray, List.set_cons_zero, List.set_cons_succ]
      refine wpAnyH_ready (rs := [19]) (by kernel_rfl) (by simp) ?_
      refine AllReadyH.cons (o := _) (by rw [List.getElem?_toArray]; exact rfl) (fun K hK => ?_) AllReadyH.nil
      rw [if_pos (by kernel_rfl)]
      go_simp
      refine (implOwnerAt_any (v) _ HS3.out.names).mono ?_
      rintro e w4 ⟨rfl, hb⟩
      have HS4 : Hid (Sits W0.heap.size ts J a n fs W0 W w4 (pre ++ wordsT wh [becS fs n (placeN 1 k) (v)])) := HS3.out.on HG.out.gj hb
      have KB4 : Hid (w4.heap[W.heap.size]? = some (tellCells a n c F wh) ∧ w4.heap[W.heap.size + 1]? = some (.cells #[.int .i64 kd, .int .i64 k, .int .i64 v] 93 (0, 0))) := ⟨(hb.block _ (Array.getElem?_eq_some_iff.1 KB3.out.1).1).trans KB3.out.1, (hb.block _ (Array.getElem?_eq_some_iff.1 KB3.out.2).1).trans KB3.out.2⟩
      refine hK.out _ _ ?_ (fun hHeld => ?_)
      · exact boxS KB4.out
      clear hK K hb HS3 KB3
      refine wpAnyH_ready (rs := [23]) (by kernel_rfl) (by simp) ?_
      refine AllReadyH.cons (o := _) (by rw [List.getElem?_toArray]; exact rfl) (fun K hK => ?_) AllReadyH.nil
      rw [if_pos (by kernel_rfl)]
      go_simp
      refine (HG.out.bec (placeN 2 v) (k + 1) (pre ++ wordsT wh [becS fs n (placeN 1 k) (v)]) _ (lenLt (len1 (HL.out)) (by decide)) HS4.out.low HS4.out.j).mono ?_
      rintro e w5 ⟨b, rfl, hF⟩
      have KB5 : Hid (w5.heap[W.heap.size]? = some (tellCells a n c F wh) ∧ w5.heap[W.heap.size + 1]? = some (.cells #[.int .i64 kd, .int .i64 k, .int .i64 v] 93 (0, 0))) := ⟨hF.kx.keep _ _ _ _ KB4.out.1 (HG.out.tt _ (by simp)), hF.kx.keep _ _ _ _ KB4.out.2 (HG.out.tt _ (by simp))⟩
      have HF : Hid (Fin wh go W0.heap.size ts J Jx w4 [becS fs n (placeN 2 v) (k + 1)] (pre ++ wordsT wh [becS fs n (placeN 1 k) (v)]) b w5) := hF
      clear hF
      refine hK.out _ _ ?_ (fun hHeld => ?_)
      · exact boxS KB5.out
      clear hK K
      cases b with
      | false =>
        refine wpAnyH_end hHeld [24, 25, 26, 27, 28, 29, 30, 31, 32, 33, 34, 35, 36, 37, 38, 39, 40, 41, 42, 43, 44, 45, 46, 47, 48, 49, 50, 51, 52, 53, 54, 55, 56, 57, 58, 59, 60, 61, 62] { tmps := #[.agg #[.slice a n c, F, .bool wh], .agg #[.int .i64 kd, .int .i64 k, .int .i64 v], .pointer (some ⟨W.heap.size, 0, none⟩), .pointer (some ⟨W.heap.size + 1, 0, none⟩), .bool false, .agg #[.slice a n c, F, .bool wh], .pointer (some ⟨W.heap.size + 1, 1, none⟩), .int .i64 k, .int .i64 (placeN 1 (k)), .pointer (some ⟨W.heap.size + 1, 2, none⟩), .int .i64 v, .bool true, .bool true, .pointer (some ⟨W.heap.size, 0, none⟩), .slice a n c, .pointer (some ⟨W.heap.size + 1, 1, none⟩), .int .i64 k, .int .i64 (rd fs n (placeN 1 (k))), .bool true, .bool true, .bool true, .agg #[.slice a n c, F, .bool wh], .pointer (some ⟨W.heap.size + 1, 2, none⟩), .int .i64 v, .int .i64 (placeN 2 (v)), .pointer (some ⟨W.heap.size + 1, 1, none⟩), .int .i64 k, .int .i64 (k + 1), .bool false, .bool false, .bool false, undef, undef, undef, undef, undef, undef, .bool false, .bool false, undef, undef, undef, undef, undef, undef, .bool false, .bool false, undef, undef, undef, .bool false, .bool false, undef, undef, undef, undef, .bool false, .bool false, undef, undef, undef, undef, undef, undef, undef, undef, .bool false], defers := [] } (by kernel_rfl) (by kernel_rfl) (by kernel_rfl) (by kernel_rfl) (by intro _ _ d _ _ h; cases d <;> exact h) ?_
        go_wp2
        go_ret
        exact ⟨false, rfl, PT1.out.2.2 _ _ _ (Fin.askYes (decide_eq_true (by simpa using HQ2.out)) (Fin.no (Fin.kp HS4.out.kp HF.out) _))⟩
      | true =>
        have PT3 : Hid _ := Fin.stepped (Fin.kp HS4.out.kp HF.out)
        have PJ : _ := Fin.stepped HF.out
        have HS5 : Hid (Sits W0.heap.size ts J a n fs W0 W w5 ((pre ++ wordsT wh [becS fs n (placeN 1 k) (v)]) ++ wordsT wh [becS fs n (placeN 2 v) (k + 1)])) := HS4.out.told PJ.1 PJ.2.1
        clear PJ HF HS4 KB4
        refine takeH 24 (.bool true) ?_ hHeld ?_
        · intro w hSw; obtain ⟨⟨s1, s2, s3⟩, s4, s5⟩ := hSw; go_simp
        simp only [Act.put, List.setIfInBounds_toArray, List.set_cons_zero, List.set_cons_succ]
        refine takeH 25 (.bool true) ?_ hHeld ?_
        · intro w hSw; obtain ⟨⟨s1, s2, s3⟩, s4, s5⟩ := hSw; go_simp
        simp only [Act.put, List.setIfInBounds_toArray, List.set_cons_zero, List.set_cons_succ]
        refine takeH 26 (.pointer (some ⟨W.heap.size, 0, none⟩)) ?_ hHeld ?_
        · intro w hSw; obtain ⟨⟨s1, s2, s3⟩, s4, s5⟩ := hSw; go_simp
        simp only [Act.put, List.setIfInBounds_toArray, List.set_cons_zero, List.set_cons_succ]
        refine takeH 27 (.slice a n c) ?_ hHeld ?_
        · intro w hSw; obtain ⟨⟨s1, s2, s3⟩, s4, s5⟩ := hSw; go_simp
        simp only [Act.put, List.setIfInBounds_toArray, List.set_cons_zero, List.set_cons_succ]
        refine takeH 28 (.pointer (some ⟨W.heap.size + 1, 2, none⟩)) ?_ hHeld ?_
        · intro w hSw; obtain ⟨⟨s1, s2, s3⟩, s4, s5⟩ := hSw; go_simp
        simp only [Act.put, List.setIfInBounds_toArray, List.set_cons_zero, List.set_cons_succ]
        refine takeH 29 (.int .i64 v) ?_ hHeld ?_
        · intro w hSw; obtain ⟨⟨s1, s2, s3⟩, s4, s5⟩ := hSw; go_simp
        simp only [Act.put, List.setIfInBounds_toArray, List.set_cons_zero, List.set_cons_succ]
        refine wpAnyH_ready (rs := [30]) (by kernel_rfl) (by simp) ?_
        refine AllReadyH.cons (o := _) (by rw [List.getElem?_toArray]; exact rfl) (fun K hK => ?_) AllReadyH.nil
        rw [if_pos (by kernel_rfl)]
        go_simp
        refine (knownOwner_any a n c (v) fs _ HS5.out.names HS5.out.pairs).mono ?_
        rintro e w6 ⟨rfl, hb⟩
        have HS6 : Hid (Sits W0.heap.size ts J a n fs W0 W w6 ((pre ++ wordsT wh [becS fs n (placeN 1 k) (v)]) ++ wordsT wh [becS fs n (placeN 2 v) (k + 1)])) := HS5.out.on HG.out.gj hb
        have KB6 : Hid (w6.heap[W.heap.size]? = some (tellCells a n c F wh) ∧ w6.heap[W.heap.size + 1]? = some (.cells #[.int .i64 kd, .int .i64 k, .int .i64 v] 93 (0, 0))) := ⟨(hb.block _ (Array.getElem?_eq_some_iff.1 KB5.out.1).1).trans KB5.out.1, (hb.block _ (Array.getElem?_eq_some_iff.1 KB5.out.2).1).trans KB5.out.2⟩
        refine hK.out _ _ ?_ (fun hHeld => ?_)
        · exact boxS KB6.out
        clear hK K hb HS5 KB5
        obtain ⟨q4, hq4⟩ : ∃ q : Bool, (rd fs n (placeN 2 (v)) == 0) = q := ⟨_, rfl⟩
        have HQ4 : Hid ((rd fs n (placeN 2 (v)) == 0) = q4) := hq4
        cases q4 with
        | false =>
          refine takeH 31 (.bool false) ?_ hHeld ?_
          · intro w hSw; obtain ⟨⟨s1, s2, s3⟩, s4, s5⟩ := hSw; go_simp
          simp only [Act.put, List.setIfInBounds_toArray, List.set_cons_zero, List.set_cons_succ]
          clear hq4
          refine wpAnyH_end hHeld [32, 33, 34, 35, 36, 37, 38, 39, 40, 41, 42, 43, 44, 45, 46, 47, 48, 49, 50, 51, 52, 53, 54, 55, 56, 57, 58, 59, 60, 61, 62] { tmps := #[.agg #[.slice a n c, F, .bool wh], .agg #[.int .i64 kd, .int .i64 k, .int .i64 v], .pointer (some ⟨W.heap.size, 0, none⟩), .pointer (some ⟨W.heap.size + 1, 0, none⟩), .bool false, .agg #[.slice a n c, F, .bool wh], .pointer (some ⟨W.heap.size + 1, 1, none⟩), .int .i64 k, .int .i64 (placeN 1 (k)), .pointer (some ⟨W.heap.size + 1, 2, none⟩), .int .i64 v, .bool true, .bool true, .pointer (some ⟨W.heap.size, 0, none⟩), .slice a n c, .pointer (some ⟨W.heap.size + 1, 1, none⟩), .int .i64 k, .int .i64 (rd fs n (placeN 1 (k))), .bool true, .bool true, .bool true, .agg #[.slice a n c, F, .bool wh], .pointer (some ⟨W.heap.size + 1, 2, none⟩), .int .i64 v, .int .i64 (placeN 2 (v)), .pointer (some ⟨W.heap.size + 1, 1, none⟩), .int .i64 k, .int .i64 (k + 1), .bool true, .bool true, .bool true, .pointer (some ⟨W.heap.size, 0, none⟩), .slice a n c, .pointer (some ⟨W.heap.size + 1, 2, none⟩), .int .i64 v, .int .i64 (rd fs n (placeN 2 (v))), .bool false, .bool false, .bool false, undef, undef, undef, undef, undef, undef, .bool false, .bool false, undef, undef, undef, .bool false, .bool false, undef, undef, undef, undef, .bool false, .bool false, undef, undef, undef, undef, undef, undef, undef, undef, .bool false], defers := [] } (by kernel_rfl) (by kernel_rfl) (by kernel_rfl) (by kernel_rfl) (by intro _ _ d _ _ h; cases d <;> exact h) ?_
          go_wp2
          go_ret
          exact ⟨false, rfl, PT1.out.2.2 _ _ _ (Fin.askYes (decide_eq_true (by simpa using HQ2.out)) (PT3.out.2.2 _ _ _ (Fin.askNo (decide_eq_false (by simpa using HQ4.out)) HS6.out.j HS6.out.kp)))⟩
        | true =>
          refine takeH 31 (.bool true) ?_ hHeld ?_
          · intro w hSw; obtain ⟨⟨s1, s2, s3⟩, s4, s5⟩ := hSw; go_simp
          simp only [Act.put, List.setIfInBounds_toArray, List.set_cons_zero, List.set_cons_succ]
          clear hq4
          refine takeH 32 (.bool true) ?_ hHeld ?_
          · intro w hSw; obtain ⟨⟨s1, s2, s3⟩, s4, s5⟩ := hSw; go_simp
          simp only [Act.put, List.setIfInBounds_toArray, List.set_cons_zero, List.set_cons_succ]
          refine takeH 33 (.bool true) ?_ hHeld ?_
          · intro w hSw; obtain ⟨⟨s1, s2, s3⟩, s4, s5⟩ := hSw; go_simp
          simp only [Act.put, List.setIfInBounds_toArray, List.set_cons_zero, List.set_cons_succ]
          refine takeH 34 (.agg #[.slice a n c, F, .bool wh]) ?_ hHeld ?_
          · intro w hSw; obtain ⟨⟨s1, s2, s3⟩, s4, s5⟩ := hSw; go_simp
          simp only [Act.put, List.setIfInBounds_toArray, List.set_cons_zero, List.set_cons_succ]
          refine takeH 35 (.pointer (some ⟨W.heap.size + 1, 2, none⟩)) ?_ hHeld ?_
          · intro w hSw; obtain ⟨⟨s1, s2, s3⟩, s4, s5⟩ := hSw; go_simp
          simp only [Act.put, List.setIfInBounds_toArray, List.set_cons_zero, List.set_cons_succ]
          refine takeH 36 (.int .i64 v) ?_ hHeld ?_
          · intro w hSw; obtain ⟨⟨s1, s2, s3⟩, s4, s5⟩ := hSw; go_simp
          simp only [Act.put, List.setIfInBounds_toArray, List.set_cons_zero, List.set_cons_succ]
          refine wpAnyH_ready (rs := [37]) (by kernel_rfl) (by simp) ?_
          refine AllReadyH.cons (o := _) (by rw [List.getElem?_toArray]; exact rfl) (fun K hK => ?_) AllReadyH.nil
          rw [if_pos (by kernel_rfl)]
          go_simp
          refine (implClassOf_any (v) _).mono ?_
          rintro e w7 ⟨rfl, hw⟩
          have hb : Below w6.heap.size w6 w7 := by rw [hw]; exact Below.refl _ _
          clear hw
          have HS7 : Hid (Sits W0.heap.size ts J a n fs W0 W w7 ((pre ++ wordsT wh [becS fs n (placeN 1 k) (v)]) ++ wordsT wh [becS fs n (placeN 2 v) (k + 1)])) := HS6.out.on HG.out.gj hb
          have KB7 : Hid (w7.heap[W.heap.size]? = some (tellCells a n c F wh) ∧ w7.heap[W.heap.size + 1]? = some (.cells #[.int .i64 kd, .int .i64 k, .int .i64 v] 93 (0, 0))) := ⟨(hb.block _ (Array.getElem?_eq_some_iff.1 KB6.out.1).1).trans KB6.out.1, (hb.block _ (Array.getElem?_eq_some_iff.1 KB6.out.2).1).trans KB6.out.2⟩
          refine hK.out _ _ ?_ (fun hHeld => ?_)
          · exact boxS KB7.out
          clear hK K hb HS6 KB6
          refine wpAnyH_ready (rs := [38]) (by kernel_rfl) (by simp) ?_
          refine AllReadyH.cons (o := _) (by rw [List.getElem?_toArray]; exact rfl) (fun K hK => ?_) AllReadyH.nil
          rw [if_pos (by kernel_rfl)]
          go_simp
          refine (implCountAt_any (classN (v)) _ HS7.out.names).mono ?_
          rintro e w8 ⟨rfl, hb⟩
          have HS8 : Hid (Sits W0.heap.size ts J a n fs W0 W w8 ((pre ++ wordsT wh [becS fs n (placeN 1 k) (v)]) ++ wordsT wh [becS fs n (placeN 2 v) (k + 1)])) := HS7.out.on HG.out.gj hb
          have KB8 : Hid (w8.heap[W.heap.size]? = some (tellCells a n c F wh) ∧ w8.heap[W.heap.size + 1]? = some (.cells #[.int .i64 kd, .int .i64 k, .int .i64 v] 93 (0, 0))) := ⟨(hb.block _ (Array.getElem?_eq_some_iff.1 KB7.out.1).1).trans KB7.out.1, (hb.block _ (Array.getElem?_eq_some_iff.1 KB7.out.2).1).trans KB7.out.2⟩
          refine hK.out _ _ ?_ (fun hHeld => ?_)
          · exact boxS KB8.out
          clear hK K hb HS7 KB7
          refine wpAnyH_ready (rs := [39]) (by kernel_rfl) (by simp) ?_
          refine AllReadyH.cons (o := _) (by rw [List.getElem?_toArray]; exact rfl) (fun K hK => ?_) AllReadyH.nil
          rw [if_pos (by kernel_rfl)]
          go_simp
          refine (grows_any a n c F wh (placeN 3 (classN v)) fs go ts J Jx ((pre ++ wordsT wh [becS fs n (placeN 1 k) (v)]) ++ wordsT wh [becS fs n (placeN 2 v) (k + 1)]) W0 _ HG.out HS8.out.base (lenLt (len1 (len1 (HL.out))) (by decide)) HS8.out.low HS8.out.j).mono ?_
          rintro e w9 ⟨b, rfl, hF⟩
          have KB9 : Hid (w9.heap[W.heap.size]? = some (tellCells a n c F wh) ∧ w9.heap[W.heap.size + 1]? = some (.cells #[.int .i64 kd, .int .i64 k, .int .i64 v] 93 (0, 0))) := ⟨hF.kx.keep _ _ _ _ KB8.out.1 (HG.out.tt _ (by simp)), hF.kx.keep _ _ _ _ KB8.out.2 (HG.out.tt _ (by simp))⟩
          have HF : Hid (Fin wh go W0.heap.size ts J Jx w8 [growS fs n (placeN 3 (classN v))] ((pre ++ wordsT wh [becS fs n (placeN 1 k) (v)]) ++ wordsT wh [becS fs n (placeN 2 v) (k + 1)]) b w9) := hF
          clear hF
          refine hK.out _ _ ?_ (fun hHeld => ?_)
          · exact boxS KB9.out
          clear hK K
          cases b with
          | false =>
            refine wpAnyH_end hHeld [40, 41, 42, 43, 44, 45, 46, 47, 48, 49, 50, 51, 52, 53, 54, 55, 56, 57, 58, 59, 60, 61, 62] { tmps := #[.agg #[.slice a n c, F, .bool wh], .agg #[.int .i64 kd, .int .i64 k, .int .i64 v], .pointer (some ⟨W.heap.size, 0, none⟩), .pointer (some ⟨W.heap.size + 1, 0, none⟩), .bool false, .agg #[.slice a n c, F, .bool wh], .pointer (some ⟨W.heap.size + 1, 1, none⟩), .int .i64 k, .int .i64 (placeN 1 (k)), .pointer (some ⟨W.heap.size + 1, 2, none⟩), .int .i64 v, .bool true, .bool true, .pointer (some ⟨W.heap.size, 0, none⟩), .slice a n c, .pointer (some ⟨W.heap.size + 1, 1, none⟩), .int .i64 k, .int .i64 (rd fs n (placeN 1 (k))), .bool true, .bool true, .bool true, .agg #[.slice a n c, F, .bool wh], .pointer (some ⟨W.heap.size + 1, 2, none⟩), .int .i64 v, .int .i64 (placeN 2 (v)), .pointer (some ⟨W.heap.size + 1, 1, none⟩), .int .i64 k, .int .i64 (k + 1), .bool true, .bool true, .bool true, .pointer (some ⟨W.heap.size, 0, none⟩), .slice a n c, .pointer (some ⟨W.heap.size + 1, 2, none⟩), .int .i64 v, .int .i64 (rd fs n (placeN 2 (v))), .bool true, .bool true, .bool true, .agg #[.slice a n c, F, .bool wh], .pointer (some ⟨W.heap.size + 1, 2, none⟩), .int .i64 v, .int .i64 (classN (v)), .int .i64 (placeN 3 (classN (v))), .bool false, .bool false, .bool false, undef, undef, undef, .bool false, .bool false, undef, undef, undef, undef, .bool false, .bool false, undef, undef, undef, undef, undef, undef, undef, undef, .bool false], defers := [] } (by kernel_rfl) (by kernel_rfl) (by kernel_rfl) (by kernel_rfl) (by intro _ _ d _ _ h; cases d <;> exact h) ?_
            go_wp2
            go_ret
            exact ⟨false, rfl, PT1.out.2.2 _ _ _ (Fin.askYes (decide_eq_true (by simpa using HQ2.out)) (PT3.out.2.2 _ _ _ (Fin.askYes (decide_eq_true (by simpa using HQ4.out)) (Fin.no (Fin.kp HS8.out.kp HF.out) _))))⟩
          | true =>
            have PT5 : Hid _ := Fin.stepped (Fin.kp HS8.out.kp HF.out)
            have PJ : _ := Fin.stepped HF.out
            have HS9 : Hid (Sits W0.heap.size ts J a n fs W0 W w9 (((pre ++ wordsT wh [becS fs n (placeN 1 k) (v)]) ++ wordsT wh [becS fs n (placeN 2 v) (k + 1)]) ++ wordsT wh [growS fs n (placeN 3 (classN v))])) := HS8.out.told PJ.1 PJ.2.1
            clear PJ HF HS8 KB8
            refine takeH 40 (.bool true) ?_ hHeld ?_
            · intro w hSw; obtain ⟨⟨s1, s2, s3⟩, s4, s5⟩ := hSw; go_simp
            simp only [Act.put, List.setIfInBounds_toArray, List.set_cons_zero, List.set_cons_succ]
            refine takeH 41 (.bool true) ?_ hHeld ?_
            · intro w hSw; obtain ⟨⟨s1, s2, s3⟩, s4, s5⟩ := hSw; go_simp
            simp only [Act.put, List.setIfInBounds_toArray, List.set_cons_zero, List.set_cons_succ]
            refine takeH 42 (.agg #[.slice a n c, F, .bool wh]) ?_ hHeld ?_
            · intro w hSw; obtain ⟨⟨s1, s2, s3⟩, s4, s5⟩ := hSw; go_simp
            simp only [Act.put, List.setIfInBounds_toArray, List.set_cons_zero, List.set_cons_succ]
            refine wpAnyH_ready (rs := [43]) (by kernel_rfl) (by simp) ?_
            refine AllReadyH.cons (o := _) (by rw [List.getElem?_toArray]; exact rfl) (fun K hK => ?_) AllReadyH.nil
            rw [if_pos (by kernel_rfl)]
            go_simp
            refine (implStateAt_any _ HS9.out.names).mono ?_
            rintro e w10 ⟨rfl, hb⟩
            have HS10 : Hid (Sits W0.heap.size ts J a n fs W0 W w10 (((pre ++ wordsT wh [becS fs n (placeN 1 k) (v)]) ++ wordsT wh [becS fs n (placeN 2 v) (k + 1)]) ++ wordsT wh [growS fs n (placeN 3 (classN v))])) := HS9.out.on HG.out.gj hb
            have KB10 : Hid (w10.heap[W.heap.size]? = some (tellCells a n c F wh) ∧ w10.heap[W.heap.size + 1]? = some (.cells #[.int .i64 kd, .int .i64 k, .int .i64 v] 93 (0, 0))) := ⟨(hb.block _ (Array.getElem?_eq_some_iff.1 KB9.out.1).1).trans KB9.out.1, (hb.block _ (Array.getElem?_eq_some_iff.1 KB9.out.2).1).trans KB9.out.2⟩
            refine hK.out _ _ ?_ (fun hHeld => ?_)
            · exact boxS KB10.out
            clear hK K hb HS9 KB9
            refine wpAnyH_ready (rs := [44]) (by kernel_rfl) (by simp) ?_
            refine AllReadyH.cons (o := _) (by rw [List.getElem?_toArray]; exact rfl) (fun K hK => ?_) AllReadyH.nil
            rw [if_pos (by kernel_rfl)]
            go_simp
            refine (stays_any a n c F wh (13) fs go ts J Jx (((pre ++ wordsT wh [becS fs n (placeN 1 k) (v)]) ++ wordsT wh [becS fs n (placeN 2 v) (k + 1)]) ++ wordsT wh [growS fs n (placeN 3 (classN v))]) W0 _ HG.out HS10.out.base (lenLt (len1 (len1 (len1 (HL.out)))) (by decide)) HS10.out.low HS10.out.j).mono ?_
            rintro e w11 ⟨b, rfl, hF⟩
            have KB11 : Hid (w11.heap[W.heap.size]? = some (tellCells a n c F wh) ∧ w11.heap[W.heap.size + 1]? = some (.cells #[.int .i64 kd, .int .i64 k, .int .i64 v] 93 (0, 0))) := ⟨hF.kx.keep _ _ _ _ KB10.out.1 (HG.out.tt _ (by simp)), hF.kx.keep _ _ _ _ KB10.out.2 (HG.out.tt _ (by simp))⟩
            have HF : Hid (Fin wh go W0.heap.size ts J Jx w10 [stayS fs n (13)] (((pre ++ wordsT wh [becS fs n (placeN 1 k) (v)]) ++ wordsT wh [becS fs n (placeN 2 v) (k + 1)]) ++ wordsT wh [growS fs n (placeN 3 (classN v))]) b w11) := hF
            clear hF
            refine hK.out _ _ ?_ (fun hHeld => ?_)
            · exact boxS KB11.out
            clear hK K
            cases b with
            | false =>
              refine wpAnyH_end hHeld [45, 46, 47, 48, 49, 50, 51, 52, 53, 54, 55, 56, 57, 58, 59, 60, 61, 62] { tmps := #[.agg #[.slice a n c, F, .bool wh], .agg #[.int .i64 kd, .int .i64 k, .int .i64 v], .pointer (some ⟨W.heap.size, 0, none⟩), .pointer (some ⟨W.heap.size + 1, 0, none⟩), .bool false, .agg #[.slice a n c, F, .bool wh], .pointer (some ⟨W.heap.size + 1, 1, none⟩), .int .i64 k, .int .i64 (placeN 1 (k)), .pointer (some ⟨W.heap.size + 1, 2, none⟩), .int .i64 v, .bool true, .bool true, .pointer (some ⟨W.heap.size, 0, none⟩), .slice a n c, .pointer (some ⟨W.heap.size + 1, 1, none⟩), .int .i64 k, .int .i64 (rd fs n (placeN 1 (k))), .bool true, .bool true, .bool true, .agg #[.slice a n c, F, .bool wh], .pointer (some ⟨W.heap.size + 1, 2, none⟩), .int .i64 v, .int .i64 (placeN 2 (v)), .pointer (some ⟨W.heap.size + 1, 1, none⟩), .int .i64 k, .int .i64 (k + 1), .bool true, .bool true, .bool true, .pointer (some ⟨W.heap.size, 0, none⟩), .slice a n c, .pointer (some ⟨W.heap.size + 1, 2, none⟩), .int .i64 v, .int .i64 (rd fs n (placeN 2 (v))), .bool true, .bool true, .bool true, .agg #[.slice a n c, F, .bool wh], .pointer (some ⟨W.heap.size + 1, 2, none⟩), .int .i64 v, .int .i64 (classN (v)), .int .i64 (placeN 3 (classN (v))), .bool true, .bool true, .bool true, .agg #[.slice a n c, F, .bool wh], .int .i64 13, .bool false, .bool false, .bool false, undef, undef, undef, undef, .bool false, .bool false, undef, undef, undef, undef, undef, undef, undef, undef, .bool false], defers := [] } (by kernel_rfl) (by kernel_rfl) (by kernel_rfl) (by kernel_rfl) (by intro _ _ d _ _ h; cases d <;> exact h) ?_
              go_wp2
              go_ret
              exact ⟨false, rfl, PT1.out.2.2 _ _ _ (Fin.askYes (decide_eq_true (by simpa using HQ2.out)) (PT3.out.2.2 _ _ _ (Fin.askYes (decide_eq_true (by simpa using HQ4.out)) (PT5.out.2.2 _ _ _ (Fin.no (Fin.kp HS10.out.kp HF.out) _)))))⟩
            | true =>
              have PT6 : Hid _ := Fin.stepped (Fin.kp HS10.out.kp HF.out)
              have PJ : _ := Fin.stepped HF.out
              have HS11 : Hid (Sits W0.heap.size ts J a n fs W0 W w11 ((((pre ++ wordsT wh [becS fs n (placeN 1 k) (v)]) ++ wordsT wh [becS fs n (placeN 2 v) (k + 1)]) ++ wordsT wh [growS fs n (placeN 3 (classN v))]) ++ wordsT wh [stayS fs n (13)])) := HS10.out.told PJ.1 PJ.2.1
              clear PJ HF HS10 KB10
              refine takeH 45 (.bool true) ?_ hHeld ?_
              · intro w hSw; obtain ⟨⟨s1, s2, s3⟩, s4, s5⟩ := hSw; go_simp
              simp only [Act.put, List.setIfInBounds_toArray, List.set_cons_zero, List.set_cons_succ]
              refine takeH 46 (.bool true) ?_ hHeld ?_
              · intro w hSw; obtain ⟨⟨s1, s2, s3⟩, s4, s5⟩ := hSw; go_simp
              simp only [Act.put, List.setIfInBounds_toArray, List.set_cons_zero, List.set_cons_succ]
              refine takeH 47 (.agg #[.slice a n c, F, .bool wh]) ?_ hHeld ?_
              · intro w hSw; obtain ⟨⟨s1, s2, s3⟩, s4, s5⟩ := hSw; go_simp
              simp only [Act.put, List.setIfInBounds_toArray, List.set_cons_zero, List.set_cons_succ]
              refine takeH 48 (.pointer (some ⟨W.heap.size + 1, 1, none⟩)) ?_ hHeld ?_
              · intro w hSw; obtain ⟨⟨s1, s2, s3⟩, s4, s5⟩ := hSw; go_simp
              simp only [Act.put, List.setIfInBounds_toArray, List.set_cons_zero, List.set_cons_succ]
              refine takeH 49 (.int .i64 k) ?_ hHeld ?_
              · intro w hSw; obtain ⟨⟨s1, s2, s3⟩, s4, s5⟩ := hSw; go_simp
              simp only [Act.put, List.setIfInBounds_toArray, List.set_cons_zero, List.set_cons_succ]
              refine wpAnyH_ready (rs := [50]) (by kernel_rfl) (by simp) ?_
              refine AllReadyH.cons (o := _) (by rw [List.getElem?_toArray]; exact rfl) (fun K hK => ?_) AllReadyH.nil
              rw [if_pos (by kernel_rfl)]
              go_simp
              refine (inVia_any a n c F wh k fs _ HS11.out.names HS11.out.pairs hk).mono ?_
              rintro e w12 ⟨rfl, hb⟩
              have HS12 : Hid (Sits W0.heap.size ts J a n fs W0 W w12 ((((pre ++ wordsT wh [becS fs n (placeN 1 k) (v)]) ++ wordsT wh [becS fs n (placeN 2 v) (k + 1)]) ++ wordsT wh [growS fs n (placeN 3 (classN v))]) ++ wordsT wh [stayS fs n (13)])) := HS11.out.on HG.out.gj hb
              have KB12 : Hid (w12.heap[W.heap.size]? = some (tellCells a n c F wh) ∧ w12.heap[W.heap.size + 1]? = some (.cells #[.int .i64 kd, .int .i64 k, .int .i64 v] 93 (0, 0))) := ⟨(hb.block _ (Array.getElem?_eq_some_iff.1 KB11.out.1).1).trans KB11.out.1, (hb.block _ (Array.getElem?_eq_some_iff.1 KB11.out.2).1).trans KB11.out.2⟩
              refine hK.out _ _ ?_ (fun hHeld => ?_)
              · exact boxS KB12.out
              clear hK K hb HS11 KB11
              obtain ⟨q7, hq7⟩ : ∃ q : Bool, (wh || decide (k + 1 < rd fs n 13)) = q := ⟨_, rfl⟩
              rw [hq7]
              have HQ7 : Hid ((wh || decide (k + 1 < rd fs n 13)) = q7) := hq7
              clear hq7
              cases q7 with
              | false =>
                refine wpAnyH_end hHeld [51, 52, 53, 54, 55, 56, 57, 58, 59, 60, 61, 62] { tmps := #[.agg #[.slice a n c, F, .bool wh], .agg #[.int .i64 kd, .int .i64 k, .int .i64 v], .pointer (some ⟨W.heap.size, 0, none⟩), .pointer (some ⟨W.heap.size + 1, 0, none⟩), .bool false, .agg #[.slice a n c, F, .bool wh], .pointer (some ⟨W.heap.size + 1, 1, none⟩), .int .i64 k, .int .i64 (placeN 1 (k)), .pointer (some ⟨W.heap.size + 1, 2, none⟩), .int .i64 v, .bool true, .bool true, .pointer (some ⟨W.heap.size, 0, none⟩), .slice a n c, .pointer (some ⟨W.heap.size + 1, 1, none⟩), .int .i64 k, .int .i64 (rd fs n (placeN 1 (k))), .bool true, .bool true, .bool true, .agg #[.slice a n c, F, .bool wh], .pointer (some ⟨W.heap.size + 1, 2, none⟩), .int .i64 v, .int .i64 (placeN 2 (v)), .pointer (some ⟨W.heap.size + 1, 1, none⟩), .int .i64 k, .int .i64 (k + 1), .bool true, .bool true, .bool true, .pointer (some ⟨W.heap.size, 0, none⟩), .slice a n c, .pointer (some ⟨W.heap.size + 1, 2, none⟩), .int .i64 v, .int .i64 (rd fs n (placeN 2 (v))), .bool true, .bool true, .bool true, .agg #[.slice a n c, F, .bool wh], .pointer (some ⟨W.heap.size + 1, 2, none⟩), .int .i64 v, .int .i64 (classN (v)), .int .i64 (placeN 3 (classN (v))), .bool true, .bool true, .bool true, .agg #[.slice a n c, F, .bool wh], .int .i64 13, .bool true, .bool true, .bool true, .agg #[.slice a n c, F, .bool wh], .pointer (some ⟨W.heap.size + 1, 1, none⟩), .int .i64 k, .bool false, .bool false, .bool false, undef, undef, undef, undef, undef, undef, undef, undef, .bool false], defers := [] } (by kernel_rfl) (by kernel_rfl) (by kernel_rfl) (by kernel_rfl) (by intro _ _ d _ _ h; cases d <;> exact h) ?_
                go_wp2
                go_ret
                exact ⟨false, rfl, PT1.out.2.2 _ _ _ (Fin.askYes (decide_eq_true (by simpa using HQ2.out)) (PT3.out.2.2 _ _ _ (Fin.askYes (decide_eq_true (by simpa using HQ4.out)) (PT5.out.2.2 _ _ _ (PT6.out.2.2 _ _ _ (Fin.askNo HQ7.out HS12.out.j HS12.out.kp))))))⟩
              | true =>
                refine takeH 51 (.bool true) ?_ hHeld ?_
                · intro w hSw; obtain ⟨⟨s1, s2, s3⟩, s4, s5⟩ := hSw; go_simp
                simp only [Act.put, List.setIfInBounds_toArray, List.set_cons_zero, List.set_cons_succ]
                refine takeH 52 (.bool true) ?_ hHeld ?_
                · intro w hSw; obtain ⟨⟨s1, s2, s3⟩, s4, s5⟩ := hSw; go_simp
                simp only [Act.put, List.setIfInBounds_toArray, List.set_cons_zero, List.set_cons_succ]
                refine takeH 53 (.agg #[.slice a n c, F, .bool wh]) ?_ hHeld ?_
                · intro w hSw; obtain ⟨⟨s1, s2, s3⟩, s4, s5⟩ := hSw; go_simp
                simp only [Act.put, List.setIfInBounds_toArray, List.set_cons_zero, List.set_cons_succ]
                refine takeH 54 (.pointer (some ⟨W.heap.size + 1, 2, none⟩)) ?_ hHeld ?_
                · intro w hSw; obtain ⟨⟨s1, s2, s3⟩, s4, s5⟩ := hSw; go_simp
                simp only [Act.put, List.setIfInBounds_toArray, List.set_cons_zero, List.set_cons_succ]
                refine takeH 55 (.int .i64 v) ?_ hHeld ?_
                · intro w hSw; obtain ⟨⟨s1, s2, s3⟩, s4, s5⟩ := hSw; go_simp
                simp only [Act.put, List.setIfInBounds_toArray, List.set_cons_zero, List.set_cons_succ]
                refine takeH 57 (.pointer (some ⟨W.heap.size + 1, 1, none⟩)) ?_ hHeld ?_
                · intro w hSw; obtain ⟨⟨s1, s2, s3⟩, s4, s5⟩ := hSw; go_simp
                simp only [Act.put, List.setIfInBounds_toArray, List.set_cons_zero, List.set_cons_succ]
                refine takeH 58 (.int .i64 k) ?_ hHeld ?_
                · intro w hSw; obtain ⟨⟨s1, s2, s3⟩, s4, s5⟩ := hSw; go_simp
                simp only [Act.put, List.setIfInBounds_toArray, List.set_cons_zero, List.set_cons_succ]
                refine takeH 59 (.int .i64 (k + 1)) ?_ hHeld ?_
                · intro w hSw; obtain ⟨⟨s1, s2, s3⟩, s4, s5⟩ := hSw; go_simp; exact WK.out
                simp only [Act.put, List.setIfInBounds_toArray, List.set_cons_zero, List.set_cons_succ]
                refine wpAnyH_ready (rs := [56]) (by kernel_rfl) (by simp) ?_
                refine AllReadyH.cons (o := _) (by rw [List.getElem?_toArray]; exact rfl) (fun K hK => ?_) AllReadyH.nil
                rw [if_pos (by kernel_rfl)]
                go_simp
                refine (implViaAt_any (v) _ HS12.out.names).mono ?_
                rintro e w13 ⟨rfl, hb⟩
                have HS13 : Hid (Sits W0.heap.size ts J a n fs W0 W w13 ((((pre ++ wordsT wh [becS fs n (placeN 1 k) (v)]) ++ wordsT wh [becS fs n (placeN 2 v) (k + 1)]) ++ wordsT wh [growS fs n (placeN 3 (classN v))]) ++ wordsT wh [stayS fs n (13)])) := HS12.out.on HG.out.gj hb
                have KB13 : Hid (w13.heap[W.heap.size]? = some (tellCells a n c F wh) ∧ w13.heap[W.heap.size + 1]? = some (.cells #[.int .i64 kd, .int .i64 k, .int .i64 v] 93 (0, 0))) := ⟨(hb.block _ (Array.getElem?_eq_some_iff.1 KB12.out.1).1).trans KB12.out.1, (hb.block _ (Array.getElem?_eq_some_iff.1 KB12.out.2).1).trans KB12.out.2⟩
                refine hK.out _ _ ?_ (fun hHeld => ?_)
                · exact boxS KB13.out
                clear hK K hb HS12 KB12
                refine wpAnyH_ready (rs := [60]) (by kernel_rfl) (by simp) ?_
                refine AllReadyH.cons (o := _) (by rw [List.getElem?_toArray]; exact rfl) (fun K hK => ?_) AllReadyH.nil
                rw [if_pos (by kernel_rfl)]
                go_simp
                refine (HG.out.bec (placeN 5 v) (k + 1) ((((pre ++ wordsT wh [becS fs n (placeN 1 k) (v)]) ++ wordsT wh [becS fs n (placeN 2 v) (k + 1)]) ++ wordsT wh [growS fs n (placeN 3 (classN v))]) ++ wordsT wh [stayS fs n (13)]) _ (lenLt (len1 (len1 (len1 (len1 (HL.out))))) (by decide)) HS13.out.low HS13.out.j).mono ?_
                rintro e w14 ⟨b, rfl, hF⟩
                have KB14 : Hid (w14.heap[W.heap.size]? = some (tellCells a n c F wh) ∧ w14.heap[W.heap.size + 1]? = some (.cells #[.int .i64 kd, .int .i64 k, .int .i64 v] 93 (0, 0))) := ⟨hF.kx.keep _ _ _ _ KB13.out.1 (HG.out.tt _ (by simp)), hF.kx.keep _ _ _ _ KB13.out.2 (HG.out.tt _ (by simp))⟩
                have HF : Hid (Fin wh go W0.heap.size ts J Jx w13 [becS fs n (placeN 5 v) (k + 1)] ((((pre ++ wordsT wh [becS fs n (placeN 1 k) (v)]) ++ wordsT wh [becS fs n (placeN 2 v) (k + 1)]) ++ wordsT wh [growS fs n (placeN 3 (classN v))]) ++ wordsT wh [stayS fs n (13)]) b w14) := hF
                clear hF
                refine hK.out _ _ ?_ (fun hHeld => ?_)
                · exact boxS KB14.out
                clear hK K
                refine takeH 61 (.bool b) ?_ hHeld ?_
                · intro w hSw; obtain ⟨⟨s1, s2, s3⟩, s4, s5⟩ := hSw; go_simp
                simp only [Act.put, List.setIfInBounds_toArray, List.set_cons_zero, List.set_cons_succ]
                refine takeH 62 (.bool b) ?_ hHeld ?_
                · intro w hSw; obtain ⟨⟨s1, s2, s3⟩, s4, s5⟩ := hSw; go_simp
                simp only [Act.put, List.setIfInBounds_toArray, List.set_cons_zero, List.set_cons_succ]
                refine wpAnyH_done (by kernel_rfl) ?_ _
                go_wp2
                go_ret
                exact ⟨b, rfl, PT1.out.2.2 _ _ _ (Fin.askYes (decide_eq_true (by simpa using HQ2.out)) (PT3.out.2.2 _ _ _ (Fin.askYes (decide_eq_true (by simpa using HQ4.out)) (PT5.out.2.2 _ _ _ (PT6.out.2.2 _ _ _ (Fin.askYes HQ7.out (Fin.kp HS13.out.kp HF.out)))))))⟩
end
end Go.Proofs.YtenlapppaimkkabGreatDoor
