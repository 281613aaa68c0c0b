/- The program's teller: what a via needs. -/
import Derived.Test.YtekafaoleniebapDoorTell2
import Derived.Test.YtekafaoleniebapDoorCountAt
import Derived.Test.YtekafaoleniebapDoorClassOf
namespace Go.Proofs.YtekafaoleniebapDoor
open Go.ChangeShapes Go.WideShapes Go.ChangeAt Go.RowKit

/-- The operations of its great region. -/
noncomputable def findViaL : List Oper := match Tryd.f51.body with
  | some (.seq _ (.seq (.region _ ops _) _)) => ops.toList
  | _ => []
set_option maxRecDepth 100000 in
set_option maxHeartbeats 8000000 in
theorem findVia_any (a : Option Addr) (n c : Nat) (F : Value) (wh : Bool) (kd k v : Int) (fs : List Int) (go : Ent → Bool) (ts : List TypeId) (J Jx : List Ent → World → Prop) (pre : List Ent) (W0 W : World)
    (hG : Goes F wh a n c fs go W0 ts J Jx) (hB : Base W0 a n fs) (hl : pre.length ≤ 50) (hW : Below W0.heap.size W0 W) (hJ : J pre W) :
    Calls Tryd.prog 51 #[.agg #[.slice a n c, F, .bool wh], .agg #[.int .i64 kd, .int .i64 k, .int .i64 v]] W fun e W' => ∃ b, e = .returned (.bool b) ∧ Fin wh go W0.heap.size ts J Jx W (viaS fs n v) pre b W' := by
  have HG : Hid (Goes F wh a n c fs go W0 ts J Jx) := hG
  have HL : Hid (pre.length ≤ 50) := hl
  clear hl
  obtain ⟨w0, hw0⟩ : ∃ w0, ((W.alloc (.cells #[.slice a n c, F, .bool wh] 65)).alloc (.cells #[.int .i64 kd, .int .i64 k, .int .i64 v] 76)).drew = w0 := ⟨_, rfl⟩
  have hx : Below W.heap.size W w0 := by rw [← hw0]; exact (((Below.refl _ _).alloc (Nat.le_refl _) _).alloc (by simp) _).drew
  have bx : w0.heap[W.heap.size]? = some (tellCells a n c F wh) := by rw [← hw0]; exact (Below.heap_alloc _ _ _ (by simp)).trans (World.alloc_heap_new W _)
  have by' : w0.heap[W.heap.size + 1]? = some (.cells #[.int .i64 kd, .int .i64 k, .int .i64 v] 76 (0, 0)) := by
    rw [← hw0]; have := World.alloc_heap_new (W.alloc (.cells #[.slice a n c, F, .bool wh] 65)) (.cells #[.int .i64 kd, .int .i64 k, .int .i64 v] 76); rw [World.size_alloc] at this; exact this
  have HS0 : Hid (Sits W0.heap.size ts J a n fs W0 W w0 pre) := (show Sits W0.heap.size ts J a n fs W0 W W pre from ⟨hB, hW, hJ, Kp.of_below (Below.refl _ _) hW.size⟩).on hG.gj hx
  have KB0 : Hid (w0.heap[W.heap.size]? = some (tellCells a n c F wh) ∧ w0.heap[W.heap.size + 1]? = some (.cells #[.int .i64 kd, .int .i64 k, .int .i64 v] 76 (0, 0))) := ⟨bx, by'⟩
  clear hG hB hW hJ hx bx by'
  have boxS : ∀ {w' : World}, (w'.heap[W.heap.size]? = some (tellCells a n c F wh) ∧ w'.heap[W.heap.size + 1]? = some (.cells #[.int .i64 kd, .int .i64 k, .int .i64 v] 76 (0, 0))) → (w'.cell? ⟨W.heap.size, 0, none⟩ = some (.slice a n c) ∧ w'.cell? ⟨W.heap.size, 1, none⟩ = some F ∧ w'.cell? ⟨W.heap.size, 2, none⟩ = some (.bool wh)) ∧ w'.cell? ⟨W.heap.size + 1, 1, none⟩ = some (.int .i64 k) ∧ w'.cell? ⟨W.heap.size + 1, 2, none⟩ = some (.int .i64 v) := fun h => ⟨tbox_of h.1, by simp [World.cell?, h.2], by simp [World.cell?, h.2]⟩
  go_enter Tryd.func51, Tryd.ntmps51
  go_wp2_with fail
  change (Code.region _ (List.toArray findViaL) true).wp _ _ _ _
  refine wp_region_held_drew (S := fun w' => (w'.cell? ⟨W.heap.size, 0, none⟩ = some (.slice a n c) ∧ w'.cell? ⟨W.heap.size, 1, none⟩ = some F ∧ w'.cell? ⟨W.heap.size, 2, none⟩ = some (.bool wh)) ∧ w'.cell? ⟨W.heap.size + 1, 1, none⟩ = some (.int .i64 k) ∧ w'.cell? ⟨W.heap.size + 1, 2, none⟩ = some (.int .i64 v)) (by kernel_rfl) ?_ (fun hHeld => ?_)
  · rw [hw0]; exact boxS KB0.out
  rw [hw0] at hHeld ⊢
  refine wpAnyH_take (i := 0) (oi := _) (v := .agg #[.slice a n c, F, .bool wh]) (by rw [List.getElem?_toArray]; exact rfl) (by kernel_rfl) (by kernel_rfl) (by kernel_rfl) (by intro _ _ _ h; exact h) (Or.inl ⟨by kernel_rfl, ?_⟩) hHeld ?_
  · intro w hSw; obtain ⟨⟨s1, s2, s3⟩, s4, s5⟩ := hSw; go_simp
  simp only [Act.put, List.setIfInBounds_toArray, List.set_cons_zero, List.set_cons_succ]
  refine wpAnyH_ready (rs := [1]) (by kernel_rfl) (by simp) ?_
  refine AllReadyH.cons (o := _) (by rw [List.getElem?_toArray]; exact rfl) (fun K hK => ?_) AllReadyH.nil
  rw [if_pos (by kernel_rfl)]
  go_simp
  refine (implStateAt_any _ HS0.out.names).mono ?_
  rintro e w1 ⟨rfl, hb⟩
  have HS1 : Hid (Sits W0.heap.size ts J a n fs W0 W w1 pre) := HS0.out.on HG.out.gj hb
  have KB1 : Hid (w1.heap[W.heap.size]? = some (tellCells a n c F wh) ∧ w1.heap[W.heap.size + 1]? = some (.cells #[.int .i64 kd, .int .i64 k, .int .i64 v] 76 (0, 0))) := ⟨(hb.block _ (Array.getElem?_eq_some_iff.1 KB0.out.1).1).trans KB0.out.1, (hb.block _ (Array.getElem?_eq_some_iff.1 KB0.out.2).1).trans KB0.out.2⟩
  refine hK.out _ _ ?_ (fun hHeld => ?_)
  · exact boxS KB1.out
  clear hK K hb HS0 KB0
  refine wpAnyH_ready (rs := [2]) (by kernel_rfl) (by simp) ?_
  refine AllReadyH.cons (o := _) (by rw [List.getElem?_toArray]; exact rfl) (fun K hK => ?_) AllReadyH.nil
  rw [if_pos (by kernel_rfl)]
  go_simp
  refine (stays_any a n c F wh (13) fs go ts J Jx pre W0 _ HG.out HS1.out.base (lenLt (HL.out) (by decide)) HS1.out.low HS1.out.j).mono ?_
  rintro e w2 ⟨b, rfl, hF⟩
  have KB2 : Hid (w2.heap[W.heap.size]? = some (tellCells a n c F wh) ∧ w2.heap[W.heap.size + 1]? = some (.cells #[.int .i64 kd, .int .i64 k, .int .i64 v] 76 (0, 0))) := ⟨hF.kx.keep _ _ _ _ KB1.out.1 (HG.out.tt _ (by simp)), hF.kx.keep _ _ _ _ KB1.out.2 (HG.out.tt _ (by simp))⟩
  have HF : Hid (Fin wh go W0.heap.size ts J Jx w1 [stayS fs n (13)] pre b w2) := hF
  clear hF
  refine hK.out _ _ ?_ (fun hHeld => ?_)
  · exact boxS KB2.out
  clear hK K
  cases b with
  | false =>
    refine wpAnyH_end hHeld [3, 4, 5, 6, 7, 8, 9, 10, 11, 12, 13, 14, 15, 16] { tmps := #[.agg #[.slice a n c, F, .bool wh], .agg #[.int .i64 kd, .int .i64 k, .int .i64 v], .pointer (some ⟨W.heap.size, 0, none⟩), .pointer (some ⟨W.heap.size + 1, 0, none⟩), .bool false, .agg #[.slice a n c, F, .bool wh], .int .i64 13, .bool false, .bool false, undef, undef, undef, undef, .bool false, .bool false, undef, undef, undef, undef, undef, .bool false], defers := [] } (by kernel_rfl) (by kernel_rfl) (by kernel_rfl) (by kernel_rfl) (by intro _ _ d _ _ h; cases d <;> exact h) ?_
    go_wp2
    go_ret
    exact ⟨false, rfl, Fin.no (Fin.kp HS1.out.kp HF.out) _⟩
  | true =>
    have PT1 : Hid _ := Fin.stepped (Fin.kp HS1.out.kp HF.out)
    have PJ : _ := Fin.stepped HF.out
    have HS2 : Hid (Sits W0.heap.size ts J a n fs W0 W w2 (pre ++ wordsT wh [stayS fs n (13)])) := HS1.out.told PJ.1 PJ.2.1
    clear PJ HF HS1 KB1
    refine wpAnyH_take (i := 3) (oi := _) (v := .bool true) (by rw [List.getElem?_toArray]; exact rfl) (by kernel_rfl) (by kernel_rfl) (by kernel_rfl) (by intro _ _ _ h; exact h) (Or.inl ⟨by kernel_rfl, ?_⟩) hHeld ?_
    · intro w hSw; obtain ⟨⟨s1, s2, s3⟩, s4, s5⟩ := hSw; go_simp
    simp only [Act.put, List.setIfInBounds_toArray, List.set_cons_zero, List.set_cons_succ]
    refine wpAnyH_take (i := 4) (oi := _) (v := .pointer (some ⟨W.heap.size, 0, none⟩)) (by rw [List.getElem?_toArray]; exact rfl) (by kernel_rfl) (by kernel_rfl) (by kernel_rfl) (by intro _ _ _ h; exact h) (Or.inl ⟨by kernel_rfl, ?_⟩) hHeld ?_
    · intro w hSw; obtain ⟨⟨s1, s2, s3⟩, s4, s5⟩ := hSw; go_simp
    simp only [Act.put, List.setIfInBounds_toArray, List.set_cons_zero, List.set_cons_succ]
    refine wpAnyH_take (i := 5) (oi := _) (v := .slice a n c) (by rw [List.getElem?_toArray]; exact rfl) (by kernel_rfl) (by kernel_rfl) (by kernel_rfl) (by intro _ _ _ h; exact h) (Or.inl ⟨by kernel_rfl, ?_⟩) hHeld ?_
    · intro w hSw; obtain ⟨⟨s1, s2, s3⟩, s4, s5⟩ := hSw; go_simp
    simp only [Act.put, List.setIfInBounds_toArray, List.set_cons_zero, List.set_cons_succ]
    refine wpAnyH_ready (rs := [6]) (by kernel_rfl) (by simp) ?_
    refine AllReadyH.cons (o := _) (by rw [List.getElem?_toArray]; exact rfl) (fun K hK => ?_) AllReadyH.nil
    rw [if_pos (by kernel_rfl)]
    go_simp
    refine (knownState_any a n c fs _ HS2.out.names HS2.out.pairs).mono ?_
    rintro e w3 ⟨rfl, hb⟩
    have HS3 : Hid (Sits W0.heap.size ts J a n fs W0 W w3 (pre ++ wordsT wh [stayS fs n (13)])) := HS2.out.on HG.out.gj hb
    have KB3 : Hid (w3.heap[W.heap.size]? = some (tellCells a n c F wh) ∧ w3.heap[W.heap.size + 1]? = some (.cells #[.int .i64 kd, .int .i64 k, .int .i64 v] 76 (0, 0))) := ⟨(hb.block _ (Array.getElem?_eq_some_iff.1 KB2.out.1).1).trans KB2.out.1, (hb.block _ (Array.getElem?_eq_some_iff.1 KB2.out.2).1).trans KB2.out.2⟩
    refine hK.out _ _ ?_ (fun hHeld => ?_)
    · exact boxS KB3.out
    clear hK K hb HS2 KB2
    obtain ⟨q2, hq2⟩ : ∃ q : Bool, (rd fs n 13 == 5) = q := ⟨_, rfl⟩
    have HQ2 : Hid ((rd fs n 13 == 5) = q2) := hq2
    cases q2 with
    | false =>
      refine wpAnyH_take (i := 7) (oi := _) (v := .bool false) (by rw [List.getElem?_toArray]; exact rfl) (by kernel_rfl) (by kernel_rfl) (by kernel_rfl) (by intro _ _ _ h; exact h) (Or.inl ⟨by kernel_rfl, ?_⟩) hHeld ?_
      · intro w hSw; obtain ⟨⟨s1, s2, s3⟩, s4, s5⟩ := hSw; go_simp
      simp only [Act.put, List.setIfInBounds_toArray, List.set_cons_zero, List.set_cons_succ]
      clear hq2
      refine wpAnyH_end hHeld [8, 9, 10, 11, 12, 13, 14, 15, 16] { tmps := #[.agg #[.slice a n c, F, .bool wh], .agg #[.int .i64 kd, .int .i64 k, .int .i64 v], .pointer (some ⟨W.heap.size, 0, none⟩), .pointer (some ⟨W.heap.size + 1, 0, none⟩), .bool false, .agg #[.slice a n c, F, .bool wh], .int .i64 13, .bool true, .bool true, .pointer (some ⟨W.heap.size, 0, none⟩), .slice a n c, .int .i64 (rd fs n 13), .bool false, .bool false, .bool false, undef, undef, undef, undef, undef, .bool false], defers := [] } (by kernel_rfl) (by kernel_rfl) (by kernel_rfl) (by kernel_rfl) (by intro _ _ d _ _ h; cases d <;> exact h) ?_
      go_wp2
      go_ret
      exact ⟨false, rfl, PT1.out.2.2 _ _ _ (Fin.askNo (decide_eq_false (by simpa using HQ2.out)) HS3.out.j HS3.out.kp)⟩
    | true =>
      refine wpAnyH_take (i := 7) (oi := _) (v := .bool true) (by rw [List.getElem?_toArray]; exact rfl) (by kernel_rfl) (by kernel_rfl) (by kernel_rfl) (by intro _ _ _ h; exact h) (Or.inl ⟨by kernel_rfl, ?_⟩) hHeld ?_
      · intro w hSw; obtain ⟨⟨s1, s2, s3⟩, s4, s5⟩ := hSw; go_simp
      simp only [Act.put, List.setIfInBounds_toArray, List.set_cons_zero, List.set_cons_succ]
      clear hq2
      refine wpAnyH_take (i := 8) (oi := _) (v := .bool true) (by rw [List.getElem?_toArray]; exact rfl) (by kernel_rfl) (by kernel_rfl) (by kernel_rfl) (by intro _ _ _ h; exact h) (Or.inl ⟨by kernel_rfl, ?_⟩) hHeld ?_
      · intro w hSw; obtain ⟨⟨s1, s2, s3⟩, s4, s5⟩ := hSw; go_simp
      simp only [Act.put, List.setIfInBounds_toArray, List.set_cons_zero, List.set_cons_succ]
      refine wpAnyH_take (i := 9) (oi := _) (v := .bool true) (by rw [List.getElem?_toArray]; exact rfl) (by kernel_rfl) (by kernel_rfl) (by kernel_rfl) (by intro _ _ _ h; exact h) (Or.inl ⟨by kernel_rfl, ?_⟩) hHeld ?_
      · intro w hSw; obtain ⟨⟨s1, s2, s3⟩, s4, s5⟩ := hSw; go_simp
      simp only [Act.put, List.setIfInBounds_toArray, List.set_cons_zero, List.set_cons_succ]
      refine wpAnyH_take (i := 10) (oi := _) (v := .agg #[.slice a n c, F, .bool wh]) (by rw [List.getElem?_toArray]; exact rfl) (by kernel_rfl) (by kernel_rfl) (by kernel_rfl) (by intro _ _ _ h; exact h) (Or.inl ⟨by kernel_rfl, ?_⟩) hHeld ?_
      · intro w hSw; obtain ⟨⟨s1, s2, s3⟩, s4, s5⟩ := hSw; go_simp
      simp only [Act.put, List.setIfInBounds_toArray, List.set_cons_zero, List.set_cons_succ]
      refine wpAnyH_take (i := 11) (oi := _) (v := .pointer (some ⟨W.heap.size + 1, 2, none⟩)) (by rw [List.getElem?_toArray]; exact rfl) (by kernel_rfl) (by kernel_rfl) (by kernel_rfl) (by intro _ _ _ h; exact h) (Or.inl ⟨by kernel_rfl, ?_⟩) hHeld ?_
      · intro w hSw; obtain ⟨⟨s1, s2, s3⟩, s4, s5⟩ := hSw; go_simp
      simp only [Act.put, List.setIfInBounds_toArray, List.set_cons_zero, List.set_cons_succ]
      refine wpAnyH_take (i := 12) (oi := _) (v := .int .i64 v) (by rw [List.getElem?_toArray]; exact rfl) (by kernel_rfl) (by kernel_rfl) (by kernel_rfl) (by intro _ _ _ h; exact h) (Or.inl ⟨by kernel_rfl, ?_⟩) hHeld ?_
      · intro w hSw; obtain ⟨⟨s1, s2, s3⟩, s4, s5⟩ := hSw; go_simp
      simp only [Act.put, List.setIfInBounds_toArray, List.set_cons_zero, List.set_cons_succ]
      refine wpAnyH_ready (rs := [13]) (by kernel_rfl) (by simp) ?_
      refine AllReadyH.cons (o := _) (by rw [List.getElem?_toArray]; exact rfl) (fun K hK => ?_) AllReadyH.nil
      rw [if_pos (by kernel_rfl)]
      go_simp
      refine (implViaAt_any (v) _ HS3.out.names).mono ?_
      rintro e w4 ⟨rfl, hb⟩
      have HS4 : Hid (Sits W0.heap.size ts J a n fs W0 W w4 (pre ++ wordsT wh [stayS fs n (13)])) := HS3.out.on HG.out.gj hb
      have KB4 : Hid (w4.heap[W.heap.size]? = some (tellCells a n c F wh) ∧ w4.heap[W.heap.size + 1]? = some (.cells #[.int .i64 kd, .int .i64 k, .int .i64 v] 76 (0, 0))) := ⟨(hb.block _ (Array.getElem?_eq_some_iff.1 KB3.out.1).1).trans KB3.out.1, (hb.block _ (Array.getElem?_eq_some_iff.1 KB3.out.2).1).trans KB3.out.2⟩
      refine hK.out _ _ ?_ (fun hHeld => ?_)
      · exact boxS KB4.out
      clear hK K hb HS3 KB3
      refine wpAnyH_ready (rs := [14]) (by kernel_rfl) (by simp) ?_
      refine AllReadyH.cons (o := _) (by rw [List.getElem?_toArray]; exact rfl) (fun K hK => ?_) AllReadyH.nil
      rw [if_pos (by kernel_rfl)]
      go_simp
      refine (stays_any a n c F wh (placeN 5 v) fs go ts J Jx (pre ++ wordsT wh [stayS fs n (13)]) W0 _ HG.out HS4.out.base (lenLt (len1 (HL.out)) (by decide)) HS4.out.low HS4.out.j).mono ?_
      rintro e w5 ⟨b, rfl, hF⟩
      have KB5 : Hid (w5.heap[W.heap.size]? = some (tellCells a n c F wh) ∧ w5.heap[W.heap.size + 1]? = some (.cells #[.int .i64 kd, .int .i64 k, .int .i64 v] 76 (0, 0))) := ⟨hF.kx.keep _ _ _ _ KB4.out.1 (HG.out.tt _ (by simp)), hF.kx.keep _ _ _ _ KB4.out.2 (HG.out.tt _ (by simp))⟩
      have HF : Hid (Fin wh go W0.heap.size ts J Jx w4 [stayS fs n (placeN 5 v)] (pre ++ wordsT wh [stayS fs n (13)]) b w5) := hF
      clear hF
      refine hK.out _ _ ?_ (fun hHeld => ?_)
      · exact boxS KB5.out
      clear hK K
      refine wpAnyH_take (i := 15) (oi := _) (v := .bool b) (by rw [List.getElem?_toArray]; exact rfl) (by kernel_rfl) (by kernel_rfl) (by kernel_rfl) (by intro _ _ _ h; exact h) (Or.inl ⟨by kernel_rfl, ?_⟩) hHeld ?_
      · intro w hSw; obtain ⟨⟨s1, s2, s3⟩, s4, s5⟩ := hSw; go_simp
      simp only [Act.put, List.setIfInBounds_toArray, List.set_cons_zero, List.set_cons_succ]
      refine wpAnyH_take (i := 16) (oi := _) (v := .bool b) (by rw [List.getElem?_toArray]; exact rfl) (by kernel_rfl) (by kernel_rfl) (by kernel_rfl) (by intro _ _ _ h; exact h) (Or.inl ⟨by kernel_rfl, ?_⟩) hHeld ?_
      · intro w hSw; obtain ⟨⟨s1, s2, s3⟩, s4, s5⟩ := hSw; go_simp
      simp only [Act.put, List.setIfInBounds_toArray, List.set_cons_zero, List.set_cons_succ]
      refine wpAnyH_done (by kernel_rfl) ?_ _
      go_wp2
      go_ret
      exact ⟨b, rfl, PT1.out.2.2 _ _ _ (Fin.askYes (decide_eq_true (by simpa using HQ2.out)) (Fin.kp HS4.out.kp HF.out))⟩
end Go.Proofs.YtekafaoleniebapDoor
