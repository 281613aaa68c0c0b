/- Texts joined: Del, Scan, MakeN, FindV, WordsC. -/
import Derived.Test.YtenlapppaimkkabGreatDoorPL04
import Derived.Test.YtenlapppaimkkabGreatDoorPL03
import Derived.LoopN
import Derived.Test.YtenlapppaimkkabGreatDoorPL06
import Derived.Test.YtenlapppaimkkabGreatDoorPL08
import Derived.Test.YtenlapppaimkkabGreatDoorPL01
import Derived.Laws.EntriesVeiled
set_option maxHeartbeats 8000000
set_option maxRecDepth 100000
namespace Go.Proofs.YtenlapppaimkkabGreatDoor
section
open Go.ChangeShapes Go.WideShapes Go.ChangeAt Go.RowKit
noncomputable def delL : List Oper := match Tryz.f103.body with
  | some (.seq _ (.seq _ (.seq (.region _ ops _) _))) => ops.toList
  | _ => []
theorem del_any (a : Option Addr) (n c : Nat) (F : Value) (wh : Bool) (kd k v : Int) (fs : List Int) (go : Ent → Bool) (ts : List TypeId) (J Jx : List Ent → World → Prop) (pre : List Ent) (W0 W : World)
    (hG : Goes F wh a n c fs go W0 ts J Jx) (hB : Base W0 a n fs) (hl : pre.length ≤ 50) (hW : Below W0.heap.size W0 W) (hJ : J pre W) (hk : 0 ≤ k ∧ k ≤ 3) :
    Calls Tryz.prog 103 #[.agg #[.slice a n c, F, .bool wh], .agg #[.int .i64 kd, .int .i64 k, .int .i64 v]] W fun e W' => ∃ b, e = .returned (.bool b) ∧ Fin wh go W0.heap.size ts J Jx W (delS wh fs n k) pre b W' := by
  have HG : Hid (Goes F wh a n c fs go W0 ts J Jx) := hG
  have HL : Hid (pre.length ≤ 50) := hl
  clear hl
  obtain ⟨wa, hwa⟩ : ∃ wa, ((W.alloc (.cells #[.slice a n c, F, .bool wh] 110)).alloc (.cells #[.int .i64 kd, .int .i64 k, .int .i64 v] 95)) = wa := ⟨_, rfl⟩
  have hx : Below W.heap.size W wa := by rw [← hwa]; exact ((Below.refl _ _).alloc (Nat.le_refl _) _).alloc (by simp) _
  have bx : wa.heap[W.heap.size]? = some (tellCells a n c F wh) := by rw [← hwa]; exact (Below.heap_alloc _ _ _ (by simp)).trans (World.alloc_heap_new W _)
  have by' : wa.heap[W.heap.size + 1]? = some (.cells #[.int .i64 kd, .int .i64 k, .int .i64 v] 95 (0, 0)) := by
    rw [← hwa]; have := World.alloc_heap_new (W.alloc (.cells #[.slice a n c, F, .bool wh] 110)) (.cells #[.int .i64 kd, .int .i64 k, .int .i64 v] 95); rw [World.size_alloc] at this; exact this
  have HSa : Hid (Sits W0.heap.size ts J a n fs W0 W wa pre) := (show Sits W0.heap.size ts J a n fs W0 W W pre from ⟨hB, hW, hJ, Kp.of_below (Below.refl _ _) hW.size⟩).on hG.gj hx
  have KBa : Hid (wa.heap[W.heap.size]? = some (tellCells a n c F wh) ∧ wa.heap[W.heap.size + 1]? = some (.cells #[.int .i64 kd, .int .i64 k, .int .i64 v] 95 (0, 0))) := ⟨bx, by'⟩
  clear hG hB hW hJ hx bx by'
  have WK : Hid (IntKind.i64.wrap (k + 1) = k + 1) := (by rw [IntKind.wrap_i64]; omega : IntKind.i64.wrap (k + 1) = k + 1)
  have boxS : ∀ {w' : World}, (w'.heap[W.heap.size]? = some (tellCells a n c F wh) ∧ w'.heap[W.heap.size + 1]? = some (.cells #[.int .i64 kd, .int .i64 k, .int .i64 v] 95 (0, 0))) → (w'.cell? ⟨W.heap.size, 0, none⟩ = some (.slice a n c) ∧ w'.cell? ⟨W.heap.size, 1, none⟩ = some F ∧ w'.cell? ⟨W.heap.size, 2, none⟩ = some (.bool wh)) ∧ w'.cell? ⟨W.heap.size + 1, 1, none⟩ = some (.int .i64 k) ∧ w'.cell? ⟨W.heap.size + 1, 2, none⟩ = some (.int .i64 v) := fun h => ⟨tbox_of h.1, by simp [World.cell?, h.2], by simp [World.cell?, h.2]⟩
  obtain ⟨⟨c01, c02, c03⟩, c04, c05⟩ := boxS KBa.out
  go_enter Tryz.func103, Tryz.ntmps103
  go_wp2_with fail
  refine (knownRow_any a n c k fs _ (by first | exact HSa.out.names | exact hwa ▸ HSa.out.names) (by first | exact HSa.out.pairs | exact hwa ▸ HSa.out.pairs)).mono ?_
  rintro e wb ⟨rfl, hb⟩
  have HSb : Hid (Sits W0.heap.size ts J a n fs W0 W wb pre) := HSa.out.on HG.out.gj (by first | exact hb | exact hwa ▸ hb)
  have hb' : Below wa.heap.size wa wb := by first | exact hb | exact hwa ▸ hb
  obtain ⟨w0, hw0⟩ : ∃ w0, wb.drew = w0 := ⟨_, rfl⟩
  have hd : Below wb.heap.size wb w0 := by rw [← hw0]; exact (Below.refl _ _).drew
  have HS0 : Hid (Sits W0.heap.size ts J a n fs W0 W w0 pre) := HSb.out.on HG.out.gj hd
  have KB0 : Hid (w0.heap[W.heap.size]? = some (tellCells a n c F wh) ∧ w0.heap[W.heap.size + 1]? = some (.cells #[.int .i64 kd, .int .i64 k, .int .i64 v] 95 (0, 0))) := ⟨(hd.block _ (Nat.lt_of_lt_of_le (Array.getElem?_eq_some_iff.1 KBa.out.1).1 hb'.size)).trans ((hb'.block _ (Array.getElem?_eq_some_iff.1 KBa.out.1).1).trans KBa.out.1), (hd.block _ (Nat.lt_of_lt_of_le (Array.getElem?_eq_some_iff.1 KBa.out.2).1 hb'.size)).trans ((hb'.block _ (Array.getElem?_eq_some_iff.1 KBa.out.2).1).trans KBa.out.2)⟩
  clear hb hb' hd HSb
  go_wp2_with fail
  change (Code.region _ (List.toArray delL) true).wp _ _ _ _
  refine wp_region_held_drew (S := fun w' => (w'.cell? ⟨W.heap.size, 0, none⟩ = some (.slice a n c) ∧ w'.cell? ⟨W.heap.size, 1, none⟩ = some F ∧ w'.cell? ⟨W.heap.size, 2, none⟩ = some (.bool wh)) ∧ w'.cell? ⟨W.heap.size + 1, 1, none⟩ = some (.int .i64 k) ∧ w'.cell? ⟨W.heap.size + 1, 2, none⟩ = some (.int .i64 v)) (by kernel_rfl) ?_ (fun hHeld => ?_)
  · rw [hw0]; exact boxS KB0.out
  rw [hw0] at hHeld ⊢
  refine takeH 0 (.agg #[.slice a n c, F, .bool wh]) ?_ hHeld ?_
  · intro w hSw; obtain ⟨⟨s1, s2, s3⟩, s4, s5⟩ := hSw; go_simp
  simp only [Act.put, List.setIfInBounds_toArray, List.set_cons_zero, List.set_cons_succ]
  refine takeH 1 (.pointer (some ⟨W.heap.size + 1, 1, none⟩)) ?_ hHeld ?_
  · intro w hSw; obtain ⟨⟨s1, s2, s3⟩, s4, s5⟩ := hSw; go_simp
  simp only [Act.put, List.setIfInBounds_toArray, List.set_cons_zero, List.set_cons_succ]
  refine takeH 2 (.int .i64 k) ?_ hHeld ?_
  · intro w hSw; obtain ⟨⟨s1, s2, s3⟩, s4, s5⟩ := hSw; go_simp
  simp only [Act.put, List.setIfInBounds_toArray, List.set_cons_zero, List.set_cons_succ]
  refine wpAnyH_ready (rs := [3]) (by kernel_rfl) (by simp) ?_
  refine AllReadyH.cons (o := _) (by rw [List.getElem?_toArray]; exact rfl) (fun K hK => ?_) AllReadyH.nil
  rw [if_pos (by kernel_rfl)]
  go_simp
  refine (implRowAt_any (k) _ HS0.out.names).mono ?_
  rintro e w1 ⟨rfl, hb⟩
  have HS1 : Hid (Sits W0.heap.size ts J a n fs W0 W w1 pre) := HS0.out.on HG.out.gj hb
  have KB1 : Hid (w1.heap[W.heap.size]? = some (tellCells a n c F wh) ∧ w1.heap[W.heap.size + 1]? = some (.cells #[.int .i64 kd, .int .i64 k, .int .i64 v] 95 (0, 0))) := ⟨(hb.block _ (Array.getElem?_eq_some_iff.1 KB0.out.1).1).trans KB0.out.1, (hb.block _ (Array.getElem?_eq_some_iff.1 KB0.out.2).1).trans KB0.out.2⟩
  refine hK.out _ _ ?_ (fun hHeld => ?_)
  · exact boxS KB1.out
  clear hK K hb HS0 KB0
  refine wpAnyH_ready (rs := [4]) (by kernel_rfl) (by simp) ?_
  refine AllReadyH.cons (o := _) (by rw [List.getElem?_toArray]; exact rfl) (fun K hK => ?_) AllReadyH.nil
  rw [if_pos (by kernel_rfl)]
  go_simp
  refine (HG.out.bec (placeN 1 k) (0) pre _ (lenLt (HL.out) (by decide)) HS1.out.low HS1.out.j).mono ?_
  rintro e w2 ⟨b, rfl, hF⟩
  have KB2 : Hid (w2.heap[W.heap.size]? = some (tellCells a n c F wh) ∧ w2.heap[W.heap.size + 1]? = some (.cells #[.int .i64 kd, .int .i64 k, .int .i64 v] 95 (0, 0))) := ⟨hF.kx.keep _ _ _ _ KB1.out.1 (HG.out.tt _ (by simp)), hF.kx.keep _ _ _ _ KB1.out.2 (HG.out.tt _ (by simp))⟩
  have HF : Hid (Fin wh go W0.heap.size ts J Jx w1 [becS fs n (placeN 1 k) (0)] pre b w2) := hF
  clear hF
  refine hK.out _ _ ?_ (fun hHeld => ?_)
  · exact boxS KB2.out
  clear hK K
  cases b with
  | false =>
    refine wpAnyH_end hHeld [5, 6, 7, 8, 9, 10, 11, 12, 13, 14, 15, 16, 17, 18, 19, 20, 21, 22, 23, 24, 25, 26, 27, 28, 29, 30, 31, 32, 33, 34, 35] { tmps := #[.agg #[.slice a n c, F, .bool wh], .agg #[.int .i64 kd, .int .i64 k, .int .i64 v], .pointer (some ⟨W.heap.size, 0, none⟩), .pointer (some ⟨W.heap.size + 1, 0, none⟩), .bool false, .int .i64 (rd fs n (placeN 1 (k))), .pointer (some ⟨W.heap.size, 0, none⟩), .slice a n c, .pointer (some ⟨W.heap.size + 1, 1, none⟩), .int .i64 k, .int .i64 (rd fs n (placeN 1 (k))), .agg #[.slice a n c, F, .bool wh], .pointer (some ⟨W.heap.size + 1, 1, none⟩), .int .i64 k, .int .i64 (placeN 1 (k)), .bool false, .bool false, undef, undef, undef, undef, .bool false, .bool false, undef, undef, undef, undef, undef, .bool false, .bool false, undef, undef, undef, .bool false, .bool false, undef, undef, undef, undef, .bool false, .bool false, undef, undef, undef, undef, .bool false], defers := [] } (by kernel_rfl) (by kernel_rfl) (by kernel_rfl) (by kernel_rfl) (by intro _ _ d _ _ h; cases d <;> exact h) ?_
    go_wp2
    go_ret
    exact ⟨false, rfl, Fin.no (Fin.kp HS1.out.kp HF.out) _⟩
  | true =>
    have PT1 : Hid _ := Fin.stepped (Fin.kp HS1.out.kp HF.out)
    have PJ : _ := Fin.stepped HF.out
    have HS2 : Hid (Sits W0.heap.size ts J a n fs W0 W w2 (pre ++ wordsT wh [becS fs n (placeN 1 k) (0)])) := HS1.out.told PJ.1 PJ.2.1
    clear PJ HF HS1 KB1
    refine takeH 5 (.bool true) ?_ hHeld ?_
    · intro w hSw; obtain ⟨⟨s1, s2, s3⟩, s4, s5⟩ := hSw; go_simp
    simp only [Act.put, List.setIfInBounds_toArray, List.set_cons_zero, List.set_cons_succ]
    refine takeH 6 (.agg #[.slice a n c, F, .bool wh]) ?_ hHeld ?_
    · intro w hSw; obtain ⟨⟨s1, s2, s3⟩, s4, s5⟩ := hSw; go_simp
    simp only [Act.put, List.setIfInBounds_toArray, List.set_cons_zero, List.set_cons_succ]
    refine takeH 7 (.int .i64 (rd fs n (placeN 1 (k)))) ?_ hHeld ?_
    · intro w hSw; obtain ⟨⟨s1, s2, s3⟩, s4, s5⟩ := hSw; go_simp
    simp only [Act.put, List.setIfInBounds_toArray, List.set_cons_zero, List.set_cons_succ]
    refine wpAnyH_ready (rs := [8]) (by kernel_rfl) (by simp) ?_
    refine AllReadyH.cons (o := _) (by rw [List.getElem?_toArray]; exact rfl) (fun K hK => ?_) AllReadyH.nil
    rw [if_pos (by kernel_rfl)]
    go_simp
    refine (implOwnerAt_any (rd fs n (placeN 1 (k))) _ HS2.out.names).mono ?_
    rintro e w3 ⟨rfl, hb⟩
    have HS3 : Hid (Sits W0.heap.size ts J a n fs W0 W w3 (pre ++ wordsT wh [becS fs n (placeN 1 k) (0)])) := HS2.out.on HG.out.gj hb
    have KB3 : Hid (w3.heap[W.heap.size]? = some (tellCells a n c F wh) ∧ w3.heap[W.heap.size + 1]? = some (.cells #[.int .i64 kd, .int .i64 k, .int .i64 v] 95 (0, 0))) := ⟨(hb.block _ (Array.getElem?_eq_some_iff.1 KB2.out.1).1).trans KB2.out.1, (hb.block _ (Array.getElem?_eq_some_iff.1 KB2.out.2).1).trans KB2.out.2⟩
    refine hK.out _ _ ?_ (fun hHeld => ?_)
    · exact boxS KB3.out
    clear hK K hb HS2 KB2
    refine wpAnyH_ready (rs := [9]) (by kernel_rfl) (by simp) ?_
    refine AllReadyH.cons (o := _) (by rw [List.getElem?_toArray]; exact rfl) (fun K hK => ?_) AllReadyH.nil
    rw [if_pos (by kernel_rfl)]
    go_simp
    refine (HG.out.bec (placeN 2 (rd fs n (placeN 1 (k)))) (0) (pre ++ wordsT wh [becS fs n (placeN 1 k) (0)]) _ (lenLt (len1 (HL.out)) (by decide)) HS3.out.low HS3.out.j).mono ?_
    rintro e w4 ⟨b, rfl, hF⟩
    have KB4 : Hid (w4.heap[W.heap.size]? = some (tellCells a n c F wh) ∧ w4.heap[W.heap.size + 1]? = some (.cells #[.int .i64 kd, .int .i64 k, .int .i64 v] 95 (0, 0))) := ⟨hF.kx.keep _ _ _ _ KB3.out.1 (HG.out.tt _ (by simp)), hF.kx.keep _ _ _ _ KB3.out.2 (HG.out.tt _ (by simp))⟩
    have HF : Hid (Fin wh go W0.heap.size ts J Jx w3 [becS fs n (placeN 2 (rd fs n (placeN 1 (k)))) (0)] (pre ++ wordsT wh [becS fs n (placeN 1 k) (0)]) b w4) := hF
    clear hF
    refine hK.out _ _ ?_ (fun hHeld => ?_)
    · exact boxS KB4.out
    clear hK K
    cases b with
    | false =>
      refine wpAnyH_end hHeld [10, 11, 12, 13, 14, 15, 16, 17, 18, 19, 20, 21, 22, 23, 24, 25, 26, 27, 28, 29, 30, 31, 32, 33, 34, 35] { tmps := #[.agg #[.slice a n c, F, .bool wh], .agg #[.int .i64 kd, .int .i64 k, .int .i64 v], .pointer (some ⟨W.heap.size, 0, none⟩), .pointer (some ⟨W.heap.size + 1, 0, none⟩), .bool false, .int .i64 (rd fs n (placeN 1 (k))), .pointer (some ⟨W.heap.size, 0, none⟩), .slice a n c, .pointer (some ⟨W.heap.size + 1, 1, none⟩), .int .i64 k, .int .i64 (rd fs n (placeN 1 (k))), .agg #[.slice a n c, F, .bool wh], .pointer (some ⟨W.heap.size + 1, 1, none⟩), .int .i64 k, .int .i64 (placeN 1 (k)), .bool true, .bool true, .agg #[.slice a n c, F, .bool wh], .int .i64 (rd fs n (placeN 1 (k))), .int .i64 (placeN 2 (rd fs n (placeN 1 (k)))), .bool false, .bool false, .bool false, undef, undef, undef, undef, undef, .bool false, .bool false, undef, undef, undef, .bool false, .bool false, undef, undef, undef, undef, .bool false, .bool false, undef, undef, undef, undef, .bool false], defers := [] } (by kernel_rfl) (by kernel_rfl) (by kernel_rfl) (by kernel_rfl) (by intro _ _ d _ _ h; cases d <;> exact h) ?_
      go_wp2
      go_ret
      exact ⟨false, rfl, PT1.out.2.2 _ _ _ (Fin.no (Fin.kp HS3.out.kp HF.out) _)⟩
    | true =>
      have PT2 : Hid _ := Fin.stepped (Fin.kp HS3.out.kp HF.out)
      have PJ : _ := Fin.stepped HF.out
      have HS4 : Hid (Sits W0.heap.size ts J a n fs W0 W w4 ((pre ++ wordsT wh [becS fs n (placeN 1 k) (0)]) ++ wordsT wh [becS fs n (placeN 2 (rd fs n (placeN 1 (k)))) (0)])) := HS3.out.told PJ.1 PJ.2.1
      clear PJ HF HS3 KB3
      refine takeH 10 (.bool true) ?_ hHeld ?_
      · intro w hSw; obtain ⟨⟨s1, s2, s3⟩, s4, s5⟩ := hSw; go_simp
      simp only [Act.put, List.setIfInBounds_toArray, List.set_cons_zero, List.set_cons_succ]
      refine takeH 11 (.bool true) ?_ hHeld ?_
      · intro w hSw; obtain ⟨⟨s1, s2, s3⟩, s4, s5⟩ := hSw; go_simp
      simp only [Act.put, List.setIfInBounds_toArray, List.set_cons_zero, List.set_cons_succ]
      refine takeH 12 (.agg #[.slice a n c, F, .bool wh]) ?_ hHeld ?_
      · intro w hSw; obtain ⟨⟨s1, s2, s3⟩, s4, s5⟩ := hSw; go_simp
      simp only [Act.put, List.setIfInBounds_toArray, List.set_cons_zero, List.set_cons_succ]
      refine takeH 13 (.int .i64 (rd fs n (placeN 1 (k)))) ?_ hHeld ?_
      · intro w hSw; obtain ⟨⟨s1, s2, s3⟩, s4, s5⟩ := hSw; go_simp
      simp only [Act.put, List.setIfInBounds_toArray, List.set_cons_zero, List.set_cons_succ]
      refine wpAnyH_ready (rs := [14]) (by kernel_rfl) (by simp) ?_
      refine AllReadyH.cons (o := _) (by rw [List.getElem?_toArray]; exact rfl) (fun K hK => ?_) AllReadyH.nil
      rw [if_pos (by kernel_rfl)]
      go_simp
      refine (implClassOf_any (rd fs n (placeN 1 (k))) _).mono ?_
      rintro e w5 ⟨rfl, hw⟩
      have hb : Below w4.heap.size w4 w5 := by rw [hw]; exact Below.refl _ _
      clear hw
      have HS5 : Hid (Sits W0.heap.size ts J a n fs W0 W w5 ((pre ++ wordsT wh [becS fs n (placeN 1 k) (0)]) ++ wordsT wh [becS fs n (placeN 2 (rd fs n (placeN 1 (k)))) (0)])) := HS4.out.on HG.out.gj hb
      have KB5 : Hid (w5.heap[W.heap.size]? = some (tellCells a n c F wh) ∧ w5.heap[W.heap.size + 1]? = some (.cells #[.int .i64 kd, .int .i64 k, .int .i64 v] 95 (0, 0))) := ⟨(hb.block _ (Array.getElem?_eq_some_iff.1 KB4.out.1).1).trans KB4.out.1, (hb.block _ (Array.getElem?_eq_some_iff.1 KB4.out.2).1).trans KB4.out.2⟩
      refine hK.out _ _ ?_ (fun hHeld => ?_)
      · exact boxS KB5.out
      clear hK K hb HS4 KB4
      refine wpAnyH_ready (rs := [15]) (by kernel_rfl) (by simp) ?_
      refine AllReadyH.cons (o := _) (by rw [List.getElem?_toArray]; exact rfl) (fun K hK => ?_) AllReadyH.nil
      rw [if_pos (by kernel_rfl)]
      go_simp
      refine (implCountAt_any (classN (rd fs n (placeN 1 (k)))) _ HS5.out.names).mono ?_
      rintro e w6 ⟨rfl, hb⟩
      have HS6 : Hid (Sits W0.heap.size ts J a n fs W0 W w6 ((pre ++ wordsT wh [becS fs n (placeN 1 k) (0)]) ++ wordsT wh [becS fs n (placeN 2 (rd fs n (placeN 1 (k)))) (0)])) := HS5.out.on HG.out.gj hb
      have KB6 : Hid (w6.heap[W.heap.size]? = some (tellCells a n c F wh) ∧ w6.heap[W.heap.size + 1]? = some (.cells #[.int .i64 kd, .int .i64 k, .int .i64 v] 95 (0, 0))) := ⟨(hb.block _ (Array.getElem?_eq_some_iff.1 KB5.out.1).1).trans KB5.out.1, (hb.block _ (Array.getElem?_eq_some_iff.1 KB5.out.2).1).trans KB5.out.2⟩
      refine hK.out _ _ ?_ (fun hHeld => ?_)
      · exact boxS KB6.out
      clear hK K hb HS5 KB5
      refine wpAnyH_ready (rs := [16]) (by kernel_rfl) (by simp) ?_
      refine AllReadyH.cons (o := _) (by rw [List.getElem?_toArray]; exact rfl) (fun K hK => ?_) AllReadyH.nil
      rw [if_pos (by kernel_rfl)]
      go_simp
      refine (shrinks_any a n c F wh (placeN 3 (classN (rd fs n (placeN 1 (k))))) fs go ts J Jx ((pre ++ wordsT wh [becS fs n (placeN 1 k) (0)]) ++ wordsT wh [becS fs n (placeN 2 (rd fs n (placeN 1 (k)))) (0)]) W0 _ HG.out HS6.out.base (lenLt (len1 (len1 (HL.out))) (by decide)) HS6.out.low HS6.out.j).mono ?_
      rintro e w7 ⟨b, rfl, hF⟩
      have KB7 : Hid (w7.heap[W.heap.size]? = some (tellCells a n c F wh) ∧ w7.heap[W.heap.size + 1]? = some (.cells #[.int .i64 kd, .int .i64 k, .int .i64 v] 95 (0, 0))) := ⟨hF.kx.keep _ _ _ _ KB6.out.1 (HG.out.tt _ (by simp)), hF.kx.keep _ _ _ _ KB6.out.2 (HG.out.tt _ (by simp))⟩
      have HF : Hid (Fin wh go W0.heap.size ts J Jx w6 [shrinkS fs n (placeN 3 (classN (rd fs n (placeN 1 (k)))))] ((pre ++ wordsT wh [becS fs n (placeN 1 k) (0)]) ++ wordsT wh [becS fs n (placeN 2 (rd fs n (placeN 1 (k)))) (0)]) b w7) := hF
      clear hF
      refine hK.out _ _ ?_ (fun hHeld => ?_)
      · exact boxS KB7.out
      clear hK K
      cases b with
      | false =>
        refine wpAnyH_end hHeld [17, 18, 19, 20, 21, 22, 23, 24, 25, 26, 27, 28, 29, 30, 31, 32, 33, 34, 35] { tmps := #[.agg #[.slice a n c, F, .bool wh], .agg #[.int .i64 kd, .int .i64 k, .int .i64 v], .pointer (some ⟨W.heap.size, 0, none⟩), .pointer (some ⟨W.heap.size + 1, 0, none⟩), .bool false, .int .i64 (rd fs n (placeN 1 (k))), .pointer (some ⟨W.heap.size, 0, none⟩), .slice a n c, .pointer (some ⟨W.heap.size + 1, 1, none⟩), .int .i64 k, .int .i64 (rd fs n (placeN 1 (k))), .agg #[.slice a n c, F, .bool wh], .pointer (some ⟨W.heap.size + 1, 1, none⟩), .int .i64 k, .int .i64 (placeN 1 (k)), .bool true, .bool true, .agg #[.slice a n c, F, .bool wh], .int .i64 (rd fs n (placeN 1 (k))), .int .i64 (placeN 2 (rd fs n (placeN 1 (k)))), .bool true, .bool true, .bool true, .agg #[.slice a n c, F, .bool wh], .int .i64 (rd fs n (placeN 1 (k))), .int .i64 (classN (rd fs n (placeN 1 (k)))), .int .i64 (placeN 3 (classN (rd fs n (placeN 1 (k))))), .bool false, .bool false, .bool false, undef, undef, undef, .bool false, .bool false, undef, undef, undef, undef, .bool false, .bool false, undef, undef, undef, undef, .bool false], defers := [] } (by kernel_rfl) (by kernel_rfl) (by kernel_rfl) (by kernel_rfl) (by intro _ _ d _ _ h; cases d <;> exact h) ?_
        go_wp2
        go_ret
        exact ⟨false, rfl, PT1.out.2.2 _ _ _ (PT2.out.2.2 _ _ _ (Fin.no (Fin.kp HS6.out.kp HF.out) _))⟩
      | true =>
        have PT3 : Hid _ := Fin.stepped (Fin.kp HS6.out.kp HF.out)
        have PJ : _ := Fin.stepped HF.out
        have HS7 : Hid (Sits W0.heap.size ts J a n fs W0 W w7 (((pre ++ wordsT wh [becS fs n (placeN 1 k) (0)]) ++ wordsT wh [becS fs n (placeN 2 (rd fs n (placeN 1 (k)))) (0)]) ++ wordsT wh [shrinkS fs n (placeN 3 (classN (rd fs n (placeN 1 (k)))))])) := HS6.out.told PJ.1 PJ.2.1
        clear PJ HF HS6 KB6
        refine takeH 17 (.bool true) ?_ hHeld ?_
        · intro w hSw; obtain ⟨⟨s1, s2, s3⟩, s4, s5⟩ := hSw; go_simp
        simp only [Act.put, List.setIfInBounds_toArray, List.set_cons_zero, List.set_cons_succ]
        refine takeH 18 (.bool true) ?_ hHeld ?_
        · intro w hSw; obtain ⟨⟨s1, s2, s3⟩, s4, s5⟩ := hSw; go_simp
        simp only [Act.put, List.setIfInBounds_toArray, List.set_cons_zero, List.set_cons_succ]
        refine takeH 19 (.agg #[.slice a n c, F, .bool wh]) ?_ hHeld ?_
        · intro w hSw; obtain ⟨⟨s1, s2, s3⟩, s4, s5⟩ := hSw; go_simp
        simp only [Act.put, List.setIfInBounds_toArray, List.set_cons_zero, List.set_cons_succ]
        refine wpAnyH_ready (rs := [20]) (by kernel_rfl) (by simp) ?_
        refine AllReadyH.cons (o := _) (by rw [List.getElem?_toArray]; exact rfl) (fun K hK => ?_) AllReadyH.nil
        rw [if_pos (by kernel_rfl)]
        go_simp
        refine (implStateAt_any _ HS7.out.names).mono ?_
        rintro e w8 ⟨rfl, hb⟩
        have HS8 : Hid (Sits W0.heap.size ts J a n fs W0 W w8 (((pre ++ wordsT wh [becS fs n (placeN 1 k) (0)]) ++ wordsT wh [becS fs n (placeN 2 (rd fs n (placeN 1 (k)))) (0)]) ++ wordsT wh [shrinkS fs n (placeN 3 (classN (rd fs n (placeN 1 (k)))))])) := HS7.out.on HG.out.gj hb
        have KB8 : Hid (w8.heap[W.heap.size]? = some (tellCells a n c F wh) ∧ w8.heap[W.heap.size + 1]? = some (.cells #[.int .i64 kd, .int .i64 k, .int .i64 v] 95 (0, 0))) := ⟨(hb.block _ (Array.getElem?_eq_some_iff.1 KB7.out.1).1).trans KB7.out.1, (hb.block _ (Array.getElem?_eq_some_iff.1 KB7.out.2).1).trans KB7.out.2⟩
        refine hK.out _ _ ?_ (fun hHeld => ?_)
        · exact boxS KB8.out
        clear hK K hb HS7 KB7
        refine wpAnyH_ready (rs := [21]) (by kernel_rfl) (by simp) ?_
        refine AllReadyH.cons (o := _) (by rw [List.getElem?_toArray]; exact rfl) (fun K hK => ?_) AllReadyH.nil
        rw [if_pos (by kernel_rfl)]
        go_simp
        refine (stays_any a n c F wh (13) fs go ts J Jx (((pre ++ wordsT wh [becS fs n (placeN 1 k) (0)]) ++ wordsT wh [becS fs n (placeN 2 (rd fs n (placeN 1 (k)))) (0)]) ++ wordsT wh [shrinkS fs n (placeN 3 (classN (rd fs n (placeN 1 (k)))))]) W0 _ HG.out HS8.out.base (lenLt (len1 (len1 (len1 (HL.out)))) (by decide)) HS8.out.low HS8.out.j).mono ?_
        rintro e w9 ⟨b, rfl, hF⟩
        have KB9 : Hid (w9.heap[W.heap.size]? = some (tellCells a n c F wh) ∧ w9.heap[W.heap.size + 1]? = some (.cells #[.int .i64 kd, .int .i64 k, .int .i64 v] 95 (0, 0))) := ⟨hF.kx.keep _ _ _ _ KB8.out.1 (HG.out.tt _ (by simp)), hF.kx.keep _ _ _ _ KB8.out.2 (HG.out.tt _ (by simp))⟩
        have HF : Hid (Fin wh go W0.heap.size ts J Jx w8 [stayS fs n (13)] (((pre ++ wordsT wh [becS fs n (placeN 1 k) (0)]) ++ wordsT wh [becS fs n (placeN 2 (rd fs n (placeN 1 (k)))) (0)]) ++ wordsT wh [shrinkS fs n (placeN 3 (classN (rd fs n (placeN 1 (k)))))]) b w9) := hF
        clear hF
        refine hK.out _ _ ?_ (fun hHeld => ?_)
        · exact boxS KB9.out
        clear hK K
        cases b with
        | false =>
          refine wpAnyH_end hHeld [22, 23, 24, 25, 26, 27, 28, 29, 30, 31, 32, 33, 34, 35] { tmps := #[.agg #[.slice a n c, F, .bool wh], .agg #[.int .i64 kd, .int .i64 k, .int .i64 v], .pointer (some ⟨W.heap.size, 0, none⟩), .pointer (some ⟨W.heap.size + 1, 0, none⟩), .bool false, .int .i64 (rd fs n (placeN 1 (k))), .pointer (some ⟨W.heap.size, 0, none⟩), .slice a n c, .pointer (some ⟨W.heap.size + 1, 1, none⟩), .int .i64 k, .int .i64 (rd fs n (placeN 1 (k))), .agg #[.slice a n c, F, .bool wh], .pointer (some ⟨W.heap.size + 1, 1, none⟩), .int .i64 k, .int .i64 (placeN 1 (k)), .bool true, .bool true, .agg #[.slice a n c, F, .bool wh], .int .i64 (rd fs n (placeN 1 (k))), .int .i64 (placeN 2 (rd fs n (placeN 1 (k)))), .bool true, .bool true, .bool true, .agg #[.slice a n c, F, .bool wh], .int .i64 (rd fs n (placeN 1 (k))), .int .i64 (classN (rd fs n (placeN 1 (k)))), .int .i64 (placeN 3 (classN (rd fs n (placeN 1 (k))))), .bool true, .bool true, .bool true, .agg #[.slice a n c, F, .bool wh], .int .i64 13, .bool false, .bool false, .bool false, undef, undef, undef, undef, .bool false, .bool false, undef, undef, undef, undef, .bool false], defers := [] } (by kernel_rfl) (by kernel_rfl) (by kernel_rfl) (by kernel_rfl) (by intro _ _ d _ _ h; cases d <;> exact h) ?_
          go_wp2
          go_ret
          exact ⟨false, rfl, PT1.out.2.2 _ _ _ (PT2.out.2.2 _ _ _ (PT3.out.2.2 _ _ _ (Fin.no (Fin.kp HS8.out.kp HF.out) _)))⟩
        | true =>
          have PT4 : Hid _ := Fin.stepped (Fin.kp HS8.out.kp HF.out)
          have PJ : _ := Fin.stepped HF.out
          have HS9 : Hid (Sits W0.heap.size ts J a n fs W0 W w9 ((((pre ++ wordsT wh [becS fs n (placeN 1 k) (0)]) ++ wordsT wh [becS fs n (placeN 2 (rd fs n (placeN 1 (k)))) (0)]) ++ wordsT wh [shrinkS fs n (placeN 3 (classN (rd fs n (placeN 1 (k)))))]) ++ wordsT wh [stayS fs n (13)])) := HS8.out.told PJ.1 PJ.2.1
          clear PJ HF HS8 KB8
          refine takeH 22 (.bool true) ?_ hHeld ?_
          · intro w hSw; obtain ⟨⟨s1, s2, s3⟩, s4, s5⟩ := hSw; go_simp
          simp only [Act.put, List.setIfInBounds_toArray, List.set_cons_zero, List.set_cons_succ]
          refine takeH 23 (.bool true) ?_ hHeld ?_
          · intro w hSw; obtain ⟨⟨s1, s2, s3⟩, s4, s5⟩ := hSw; go_simp
          simp only [Act.put, List.setIfInBounds_toArray, List.set_cons_zero, List.set_cons_succ]
          refine takeH 24 (.agg #[.slice a n c, F, .bool wh]) ?_ hHeld ?_
          · intro w hSw; obtain ⟨⟨s1, s2, s3⟩, s4, s5⟩ := hSw; go_simp
          simp only [Act.put, List.setIfInBounds_toArray, List.set_cons_zero, List.set_cons_succ]
          refine takeH 25 (.pointer (some ⟨W.heap.size + 1, 1, none⟩)) ?_ hHeld ?_
          · intro w hSw; obtain ⟨⟨s1, s2, s3⟩, s4, s5⟩ := hSw; go_simp
          simp only [Act.put, List.setIfInBounds_toArray, List.set_cons_zero, List.set_cons_succ]
          refine takeH 26 (.int .i64 k) ?_ hHeld ?_
          · intro w hSw; obtain ⟨⟨s1, s2, s3⟩, s4, s5⟩ := hSw; go_simp
          simp only [Act.put, List.setIfInBounds_toArray, List.set_cons_zero, List.set_cons_succ]
          refine wpAnyH_ready (rs := [27]) (by kernel_rfl) (by simp) ?_
          refine AllReadyH.cons (o := _) (by rw [List.getElem?_toArray]; exact rfl) (fun K hK => ?_) AllReadyH.nil
          rw [if_pos (by kernel_rfl)]
          go_simp
          refine (inVia_any a n c F wh k fs _ HS9.out.names HS9.out.pairs hk).mono ?_
          rintro e w10 ⟨rfl, hb⟩
          have HS10 : Hid (Sits W0.heap.size ts J a n fs W0 W w10 ((((pre ++ wordsT wh [becS fs n (placeN 1 k) (0)]) ++ wordsT wh [becS fs n (placeN 2 (rd fs n (placeN 1 (k)))) (0)]) ++ wordsT wh [shrinkS fs n (placeN 3 (classN (rd fs n (placeN 1 (k)))))]) ++ wordsT wh [stayS fs n (13)])) := HS9.out.on HG.out.gj hb
          have KB10 : Hid (w10.heap[W.heap.size]? = some (tellCells a n c F wh) ∧ w10.heap[W.heap.size + 1]? = some (.cells #[.int .i64 kd, .int .i64 k, .int .i64 v] 95 (0, 0))) := ⟨(hb.block _ (Array.getElem?_eq_some_iff.1 KB9.out.1).1).trans KB9.out.1, (hb.block _ (Array.getElem?_eq_some_iff.1 KB9.out.2).1).trans KB9.out.2⟩
          refine hK.out _ _ ?_ (fun hHeld => ?_)
          · exact boxS KB10.out
          clear hK K hb HS9 KB9
          obtain ⟨q5, hq5⟩ : ∃ q : Bool, (wh || decide (k + 1 < rd fs n 13)) = q := ⟨_, rfl⟩
          rw [hq5]
          have HQ5 : Hid ((wh || decide (k + 1 < rd fs n 13)) = q5) := hq5
          clear hq5
          cases q5 with
          | false =>
            refine wpAnyH_end hHeld [28, 29, 30, 31, 32, 33, 34, 35] { tmps := #[.agg #[.slice a n c, F, .bool wh], .agg #[.int .i64 kd, .int .i64 k, .int .i64 v], .pointer (some ⟨W.heap.size, 0, none⟩), .pointer (some ⟨W.heap.size + 1, 0, none⟩), .bool false, .int .i64 (rd fs n (placeN 1 (k))), .pointer (some ⟨W.heap.size, 0, none⟩), .slice a n c, .pointer (some ⟨W.heap.size + 1, 1, none⟩), .int .i64 k, .int .i64 (rd fs n (placeN 1 (k))), .agg #[.slice a n c, F, .bool wh], .pointer (some ⟨W.heap.size + 1, 1, none⟩), .int .i64 k, .int .i64 (placeN 1 (k)), .bool true, .bool true, .agg #[.slice a n c, F, .bool wh], .int .i64 (rd fs n (placeN 1 (k))), .int .i64 (placeN 2 (rd fs n (placeN 1 (k)))), .bool true, .bool true, .bool true, .agg #[.slice a n c, F, .bool wh], .int .i64 (rd fs n (placeN 1 (k))), .int .i64 (classN (rd fs n (placeN 1 (k)))), .int .i64 (placeN 3 (classN (rd fs n (placeN 1 (k))))), .bool true, .bool true, .bool true, .agg #[.slice a n c, F, .bool wh], .int .i64 13, .bool true, .bool true, .bool true, .agg #[.slice a n c, F, .bool wh], .pointer (some ⟨W.heap.size + 1, 1, none⟩), .int .i64 k, .bool false, .bool false, .bool false, undef, undef, undef, undef, .bool false], defers := [] } (by kernel_rfl) (by kernel_rfl) (by kernel_rfl) (by kernel_rfl) (by intro _ _ d _ _ h; cases d <;> exact h) ?_
            go_wp2
            go_ret
            exact ⟨false, rfl, PT1.out.2.2 _ _ _ (PT2.out.2.2 _ _ _ (PT3.out.2.2 _ _ _ (PT4.out.2.2 _ _ _ (Fin.askNo HQ5.out HS10.out.j HS10.out.kp))))⟩
          | true =>
            refine takeH 28 (.bool true) ?_ hHeld ?_
            · intro w hSw; obtain ⟨⟨s1, s2, s3⟩, s4, s5⟩ := hSw; go_simp
            simp only [Act.put, List.setIfInBounds_toArray, List.set_cons_zero, List.set_cons_succ]
            refine takeH 29 (.bool true) ?_ hHeld ?_
            · intro w hSw; obtain ⟨⟨s1, s2, s3⟩, s4, s5⟩ := hSw; go_simp
            simp only [Act.put, List.setIfInBounds_toArray, List.set_cons_zero, List.set_cons_succ]
            refine takeH 30 (.agg #[.slice a n c, F, .bool wh]) ?_ hHeld ?_
            · intro w hSw; obtain ⟨⟨s1, s2, s3⟩, s4, s5⟩ := hSw; go_simp
            simp only [Act.put, List.setIfInBounds_toArray, List.set_cons_zero, List.set_cons_succ]
            refine takeH 31 (.int .i64 (rd fs n (placeN 1 (k)))) ?_ hHeld ?_
            · intro w hSw; obtain ⟨⟨s1, s2, s3⟩, s4, s5⟩ := hSw; go_simp
            simp only [Act.put, List.setIfInBounds_toArray, List.set_cons_zero, List.set_cons_succ]
            refine wpAnyH_ready (rs := [32]) (by kernel_rfl) (by simp) ?_
            refine AllReadyH.cons (o := _) (by rw [List.getElem?_toArray]; exact rfl) (fun K hK => ?_) AllReadyH.nil
            rw [if_pos (by kernel_rfl)]
            go_simp
            refine (implViaAt_any (rd fs n (placeN 1 (k))) _ HS10.out.names).mono ?_
            rintro e w11 ⟨rfl, hb⟩
            have HS11 : Hid (Sits W0.heap.size ts J a n fs W0 W w11 ((((pre ++ wordsT wh [becS fs n (placeN 1 k) (0)]) ++ wordsT wh [becS fs n (placeN 2 (rd fs n (placeN 1 (k)))) (0)]) ++ wordsT wh [shrinkS fs n (placeN 3 (classN (rd fs n (placeN 1 (k)))))]) ++ wordsT wh [stayS fs n (13)])) := HS10.out.on HG.out.gj hb
            have KB11 : Hid (w11.heap[W.heap.size]? = some (tellCells a n c F wh) ∧ w11.heap[W.heap.size + 1]? = some (.cells #[.int .i64 kd, .int .i64 k, .int .i64 v] 95 (0, 0))) := ⟨(hb.block _ (Array.getElem?_eq_some_iff.1 KB10.out.1).1).trans KB10.out.1, (hb.block _ (Array.getElem?_eq_some_iff.1 KB10.out.2).1).trans KB10.out.2⟩
            refine hK.out _ _ ?_ (fun hHeld => ?_)
            · exact boxS KB11.out
            clear hK K hb HS10 KB10
            refine wpAnyH_ready (rs := [33]) (by kernel_rfl) (by simp) ?_
            refine AllReadyH.cons (o := _) (by rw [List.getElem?_toArray]; exact rfl) (fun K hK => ?_) AllReadyH.nil
            rw [if_pos (by kernel_rfl)]
            go_simp
            refine (HG.out.bec (placeN 5 (rd fs n (placeN 1 (k)))) (0) ((((pre ++ wordsT wh [becS fs n (placeN 1 k) (0)]) ++ wordsT wh [becS fs n (placeN 2 (rd fs n (placeN 1 (k)))) (0)]) ++ wordsT wh [shrinkS fs n (placeN 3 (classN (rd fs n (placeN 1 (k)))))]) ++ wordsT wh [stayS fs n (13)]) _ (lenLt (len1 (len1 (len1 (len1 (HL.out))))) (by decide)) HS11.out.low HS11.out.j).mono ?_
            rintro e w12 ⟨b, rfl, hF⟩
            have KB12 : Hid (w12.heap[W.heap.size]? = some (tellCells a n c F wh) ∧ w12.heap[W.heap.size + 1]? = some (.cells #[.int .i64 kd, .int .i64 k, .int .i64 v] 95 (0, 0))) := ⟨hF.kx.keep _ _ _ _ KB11.out.1 (HG.out.tt _ (by simp)), hF.kx.keep _ _ _ _ KB11.out.2 (HG.out.tt _ (by simp))⟩
            have HF : Hid (Fin wh go W0.heap.size ts J Jx w11 [becS fs n (placeN 5 (rd fs n (placeN 1 (k)))) (0)] ((((pre ++ wordsT wh [becS fs n (placeN 1 k) (0)]) ++ wordsT wh [becS fs n (placeN 2 (rd fs n (placeN 1 (k)))) (0)]) ++ wordsT wh [shrinkS fs n (placeN 3 (classN (rd fs n (placeN 1 (k)))))]) ++ wordsT wh [stayS fs n (13)]) b w12) := hF
            clear hF
            refine hK.out _ _ ?_ (fun hHeld => ?_)
            · exact boxS KB12.out
            clear hK K
            refine takeH 34 (.bool b) ?_ hHeld ?_
            · intro w hSw; obtain ⟨⟨s1, s2, s3⟩, s4, s5⟩ := hSw; go_simp
            simp only [Act.put, List.setIfInBounds_toArray, List.set_cons_zero, List.set_cons_succ]
            refine takeH 35 (.bool b) ?_ hHeld ?_
            · intro w hSw; obtain ⟨⟨s1, s2, s3⟩, s4, s5⟩ := hSw; go_simp
            simp only [Act.put, List.setIfInBounds_toArray, List.set_cons_zero, List.set_cons_succ]
            refine wpAnyH_done (by kernel_rfl) ?_ _
            go_wp2
            go_ret
            exact ⟨b, rfl, PT1.out.2.2 _ _ _ (PT2.out.2.2 _ _ _ (PT3.out.2.2 _ _ _ (PT4.out.2.2 _ _ _ (Fin.askYes HQ5.out (Fin.kp HS11.out.kp HF.out)))))⟩
def scanJ (fs : List Int) (n : Nat) : Nat → List Stp
  | 0 => []
  | j + 1 => scanJ fs n j ++ [stayS fs n (placeN 1 (j : Int))]
theorem scanJ_four (fs : List Int) (n : Nat) : scanJ fs n 4 = scanS fs n := rfl
theorem scanJ_len (fs : List Int) (n j : Nat) (h : j ≤ 4) : (scanJ fs n j).length ≤ 4 := by
  have e : ∀ j, (scanJ fs n j).length = j := fun j => by
    induction j with
    | zero => rfl
    | succ j ih => simp [scanJ, ih]
  rw [e]; exact h
structure Scans (wh : Bool) (go : Ent → Bool) (ts : List TypeId) (J Jx : List Ent → World → Prop) (a : Option Addr) (n c : Nat) (F : Value) (fs : List Int) (W0 W : World) (pre : List Ent) (j : Nat) (wr : World) : Prop where
  sits : Sits W0.heap.size ts J a n fs W0 W wr (pre ++ wordsT wh (scanJ fs n j))
  more : ∀ (B : List Stp) (b : Bool) (W'' : World), Fin wh go W0.heap.size ts J Jx W B (pre ++ wordsT wh (scanJ fs n j)) b W'' → Fin wh go W0.heap.size ts J Jx W (scanJ fs n j ++ B) pre b W''
  box : wr.heap[W.heap.size]? = some (tellCells a n c F wh)

theorem scan_any (a : Option Addr) (n c : Nat) (F : Value) (wh : Bool) (fs : List Int) (go : Ent → Bool) (ts : List TypeId) (J Jx : List Ent → World → Prop) (pre : List Ent) (W0 W : World)
    (hG : Goes F wh a n c fs go W0 ts J Jx) (hB : Base W0 a n fs) (hl : pre.length ≤ 50) (hW : Below W0.heap.size W0 W) (hJ : J pre W) :
    Calls Tryz.prog 105 #[.agg #[.slice a n c, F, .bool wh]] W fun e W' => ∃ b, e = .returned (.bool b) ∧ Fin wh go W0.heap.size ts J Jx W (scanS fs n) pre b W' := by
  have HG : Hid (Goes F wh a n c fs go W0 ts J Jx) := hG
  have HLN : Hid (pre.length ≤ 50) := hl
  clear hl
  have HI : Hid (Scans wh go ts J Jx a n c F fs W0 W pre 0 (W.alloc (.cells #[.slice a n c, F, .bool wh] 110))) :=
    ⟨by simpa [scanJ, wordsT] using (show Sits W0.heap.size ts J a n fs W0 W W pre from ⟨hB, hW, hJ, Kp.of_below (Below.refl _ _) hW.size⟩).on hG.gj ((Below.refl _ _).alloc (Nat.le_refl _) _), fun B b W'' h => by simpa [scanJ, wordsT] using h, World.alloc_heap_new W _⟩
  clear hG hB hW hJ
  go_enter Tryz.func105, Tryz.ntmps105
  go_wp2_with fail
  go_loopw [4] (fun i wr => ∃ j : Nat, j ≤ 4 ∧ i = .int .i64 (j : Int) ∧ Scans wh go ts J Jx a n c F fs W0 W pre j wr) (fun i _ => 4 - (intOf i).toNat)
  case atStart => exact ⟨0, by omega, rfl, HI.out⟩
  case round =>
    obtain ⟨j, hj, rfl, hs⟩ := hrel
    have HS : Hid (Scans wh go ts J Jx a n c F fs W0 W pre j wr) := hs
    clear hs
    by_cases hlt : j < 4
    · have hl1 : (j : Int) < 4 := by omega
      have HL : Hid (j < 4) := hlt
      clear hlt
      obtain ⟨wd, hwd⟩ : ∃ wd, wr.drew = wd := ⟨_, rfl⟩
      have hdd : Below wr.heap.size wr wd := by rw [← hwd]; exact (Below.refl _ _).drew
      have HS0 : Hid (Sits W0.heap.size ts J a n fs W0 W wd (pre ++ wordsT wh (scanJ fs n j))) := HS.out.sits.on HG.out.gj hdd
      have B0 : Hid (wd.heap[W.heap.size]? = some (tellCells a n c F wh)) := (hdd.block _ (Array.getElem?_eq_some_iff.1 HS.out.box).1).trans HS.out.box
      have K0 : Hid (TBox a n c F wh W.heap.size wd) := tbox_of B0.out
      clear hdd
      go_wp2_with fail
      go_region_held3 (fun w' => w'.cell? ⟨W.heap.size, 0, none⟩ = some (.slice a n c) ∧ w'.cell? ⟨W.heap.size, 1, none⟩ = some F ∧ w'.cell? ⟨W.heap.size, 2, none⟩ = some (.bool wh))
        (first | (with_reducible exact K2.out) | (with_reducible exact K1.out) | (with_reducible exact K0.out) | exact hwd ▸ K0.out | go_keep)
        (first
        | (go_at_call 46
           refine (implRowAt_any (j : Int) _ (by first | exact HS0.out.names | exact hwd ▸ HS0.out.names)).mono ?_
           rintro e w1 ⟨rfl, hb1⟩
           have hb1' : Below wd.heap.size wd w1 := by first | exact hb1 | exact hwd ▸ hb1
           have HS1 : Hid (Sits W0.heap.size ts J a n fs W0 W w1 (pre ++ wordsT wh (scanJ fs n j))) := HS0.out.on HG.out.gj hb1'
           have B1 : Hid (w1.heap[W.heap.size]? = some (tellCells a n c F wh)) := (hb1'.block _ (Array.getElem?_eq_some_iff.1 B0.out).1).trans B0.out
           have K1 : Hid (TBox a n c F wh W.heap.size w1) := tbox_of B1.out
           clear hb1 hb1')
        | (go_at_call 104
           refine (stays_any a n c F wh (placeN 1 (j : Int)) fs go ts J Jx _ W0 _ HG.out HS1.out.base (lenLt (lenA (scanJ_len fs n j (Nat.le_of_lt HL.out)) HLN.out) (by decide)) HS1.out.low HS1.out.j).mono ?_
           rintro e w2 ⟨b, rfl, hF⟩
           have HF : Hid (Fin wh go W0.heap.size ts J Jx w1 [stayS fs n (placeN 1 (j : Int))] (pre ++ wordsT wh (scanJ fs n j)) b w2) := hF
           have B2 : Hid (w2.heap[W.heap.size]? = some (tellCells a n c F wh)) := hF.kx.keep _ _ _ _ B1.out (HG.out.tt _ (by simp))
           have K2 : Hid (TBox a n c F wh W.heap.size w2) := tbox_of B2.out
           clear hF))
      cases b with
      | false =>
        go_wp2
        go_ret
        refine ⟨false, rfl, ?_⟩
        have h1 := HS.out.more _ _ _ (Fin.noL (Fin.kp HS1.out.kp HF.out) ((scanS fs n).drop (j + 1)))
        have e : scanJ fs n j ++ ([stayS fs n (placeN 1 (j : Int))] ++ (scanS fs n).drop (j + 1)) = scanS fs n := by
          have := HL.out
          rcases j with _ | _ | _ | _ | j
          · rfl
          · rfl
          · rfl
          · rfl
          · omega
        rw [e] at h1
        exact h1
      | true =>
        go_wp2
        have hp := Fin.passed HF.out
        have hp' := Fin.passed (Fin.kp HS1.out.kp HF.out)
        have e : pre ++ wordsT wh (scanJ fs n (j + 1)) = pre ++ wordsT wh (scanJ fs n j) ++ wordsT wh [stayS fs n (placeN 1 (j : Int))] := by
          have hj4 := HL.out
          have p0 : placeN 1 0 = 0 := by decide
          have p1 : placeN 1 1 = 1 := by decide
          have p2 : placeN 1 2 = 2 := by decide
          have p3 : placeN 1 3 = 3 := by decide
          rcases j with _ | _ | _ | _ | j
          · simp [scanJ, wordsT, stayS, p0]
          · simp [scanJ, wordsT, stayS, p0, p1]
          · simp [scanJ, wordsT, stayS, p0, p1, p2]
          · simp [scanJ, wordsT, stayS, p0, p1, p2, p3]
          · omega
        refine ⟨⟨j + 1, HL.out, by go_num, ⟨?_, ?_, B2.out⟩⟩, by simp [intOf]; omega⟩
        · rw [e]; exact HS1.out.told hp.1 hp.2.1
        · intro B b W'' h
          rw [e] at h
          have := HS.out.more _ _ _ (hp'.2.2 B b W'' h)
          rwa [← List.append_assoc] at this
    · obtain rfl : j = 4 := by omega
      go_wp2
      go_ret
      refine ⟨true, rfl, ?_⟩
      have := HS.out.more [] true wr ⟨rfl, HS.out.sits.j, HS.out.sits.kp⟩
      rwa [List.append_nil, scanJ_four] at this
noncomputable def makeNextL : List Oper := match Tryz.f107.body with
  | some (.seq _ (.seq _ (.seq (.region _ ops _) _))) => ops.toList
  | _ => []
theorem makeNext_any (a : Option Addr) (n c : Nat) (F : Value) (wh : Bool)  (fs : List Int) (go : Ent → Bool) (ts : List TypeId) (J Jx : List Ent → World → Prop) (pre : List Ent) (W0 W : World)
    (hG : Goes F wh a n c fs go W0 ts J Jx) (hB : Base W0 a n fs) (hl : pre.length ≤ 50) (hW : Below W0.heap.size W0 W) (hJ : J pre W) :
    Calls Tryz.prog 107 #[.agg #[.slice a n c, F, .bool wh]] W fun e W' => ∃ b, e = .returned (.bool b) ∧ Fin wh go W0.heap.size ts J Jx W (makeS fs n) pre b W' := by
  have HG : Hid (Goes F wh a n c fs go W0 ts J Jx) := hG
  have HL : Hid (pre.length ≤ 50) := hl
  clear hl
  obtain ⟨wa, hwa⟩ : ∃ wa, (W.alloc (.cells #[.slice a n c, F, .bool wh] 110)) = wa := ⟨_, rfl⟩
  have hx : Below W.heap.size W wa := by rw [← hwa]; exact (Below.refl _ _).alloc (Nat.le_refl _) _
  have bx : wa.heap[W.heap.size]? = some (tellCells a n c F wh) := by rw [← hwa]; exact World.alloc_heap_new W _
  have HSa : Hid (Sits W0.heap.size ts J a n fs W0 W wa pre) := (show Sits W0.heap.size ts J a n fs W0 W W pre from ⟨hB, hW, hJ, Kp.of_below (Below.refl _ _) hW.size⟩).on hG.gj hx
  have KBa : Hid (wa.heap[W.heap.size]? = some (tellCells a n c F wh)) := bx
  clear hG hB hW hJ hx bx
  have boxS : ∀ {w' : World}, w'.heap[W.heap.size]? = some (tellCells a n c F wh) → w'.cell? ⟨W.heap.size, 0, none⟩ = some (.slice a n c) ∧ w'.cell? ⟨W.heap.size, 1, none⟩ = some F ∧ w'.cell? ⟨W.heap.size, 2, none⟩ = some (.bool wh) := fun h => tbox_of h
  obtain ⟨c01, c02, c03⟩ := boxS KBa.out
  go_enter Tryz.func107, Tryz.ntmps107
  go_wp2_with fail
  refine (knownState_any a n c fs _ (by first | exact HSa.out.names | exact hwa ▸ HSa.out.names) (by first | exact HSa.out.pairs | exact hwa ▸ HSa.out.pairs)).mono ?_
  rintro e wb ⟨rfl, hb⟩
  have HSb : Hid (Sits W0.heap.size ts J a n fs W0 W wb pre) := HSa.out.on HG.out.gj (by first | exact hb | exact hwa ▸ hb)
  have hb' : Below wa.heap.size wa wb := by first | exact hb | exact hwa ▸ hb
  obtain ⟨w0, hw0⟩ : ∃ w0, wb.drew = w0 := ⟨_, rfl⟩
  have hd : Below wb.heap.size wb w0 := by rw [← hw0]; exact (Below.refl _ _).drew
  have HS0 : Hid (Sits W0.heap.size ts J a n fs W0 W w0 pre) := HSb.out.on HG.out.gj hd
  have KB0 : Hid (w0.heap[W.heap.size]? = some (tellCells a n c F wh)) := (hd.block _ (Nat.lt_of_lt_of_le (Array.getElem?_eq_some_iff.1 KBa.out).1 hb'.size)).trans ((hb'.block _ (Array.getElem?_eq_some_iff.1 KBa.out).1).trans KBa.out)
  clear hb hb' hd HSb
  go_wp2_with fail
  change (Code.region _ (List.toArray makeNextL) true).wp _ _ _ _
  refine wp_region_held_drew (S := fun w' => w'.cell? ⟨W.heap.size, 0, none⟩ = some (.slice a n c) ∧ w'.cell? ⟨W.heap.size, 1, none⟩ = some F ∧ w'.cell? ⟨W.heap.size, 2, none⟩ = some (.bool wh)) (by kernel_rfl) ?_ (fun hHeld => ?_)
  · rw [hw0]; exact boxS KB0.out
  rw [hw0] at hHeld ⊢
  refine takeH 0 (.agg #[.slice a n c, F, .bool wh]) ?_ hHeld ?_
  · intro w hSw; obtain ⟨s1, s2, s3⟩ := hSw; go_simp
  simp only [Act.put, List.setIfInBounds_toArray, List.set_cons_zero, List.set_cons_succ]
  refine wpAnyH_ready (rs := [1]) (by kernel_rfl) (by simp) ?_
  refine AllReadyH.cons (o := _) (by rw [List.getElem?_toArray]; exact rfl) (fun K hK => ?_) AllReadyH.nil
  rw [if_pos (by kernel_rfl)]
  go_simp
  refine (implStateAt_any _ HS0.out.names).mono ?_
  rintro e w1 ⟨rfl, hb⟩
  have HS1 : Hid (Sits W0.heap.size ts J a n fs W0 W w1 pre) := HS0.out.on HG.out.gj hb
  have KB1 : Hid (w1.heap[W.heap.size]? = some (tellCells a n c F wh)) := (hb.block _ (Array.getElem?_eq_some_iff.1 KB0.out).1).trans KB0.out
  refine hK.out _ _ ?_ (fun hHeld => ?_)
  · exact boxS KB1.out
  clear hK K hb HS0 KB0
  refine wpAnyH_ready (rs := [2]) (by kernel_rfl) (by simp) ?_
  refine AllReadyH.cons (o := _) (by rw [List.getElem?_toArray]; exact rfl) (fun K hK => ?_) AllReadyH.nil
  rw [if_pos (by kernel_rfl)]
  go_simp
  refine (grows_any a n c F wh (13) fs go ts J Jx pre W0 _ HG.out HS1.out.base (lenLt (HL.out) (by decide)) HS1.out.low HS1.out.j).mono ?_
  rintro e w2 ⟨b, rfl, hF⟩
  have KB2 : Hid (w2.heap[W.heap.size]? = some (tellCells a n c F wh)) := hF.kx.keep _ _ _ _ KB1.out (HG.out.tt _ (by simp))
  have HF : Hid (Fin wh go W0.heap.size ts J Jx w1 [growS fs n (13)] pre b w2) := hF
  clear hF
  refine hK.out _ _ ?_ (fun hHeld => ?_)
  · exact boxS KB2.out
  clear hK K
  cases b with
  | false =>
    refine wpAnyH_end hHeld [3, 4, 5, 6, 7, 8, 9, 10, 11, 12, 13, 14, 15, 16, 17, 18, 19, 20] { tmps := #[.agg #[.slice a n c, F, .bool wh], .pointer (some ⟨W.heap.size, 0, none⟩), .bool false, .int .i64 (wrap64 (rd fs n 13 - 1)), .pointer (some ⟨W.heap.size, 0, none⟩), .slice a n c, .int .i64 (rd fs n 13), .int .i64 (wrap64 (rd fs n 13 - 1)), .agg #[.slice a n c, F, .bool wh], .int .i64 13, .bool false, .bool false, undef, undef, undef, undef, .bool false, .bool false, undef, undef, undef, undef, undef, undef, undef, undef, undef, .bool false], defers := [] } (by kernel_rfl) (by kernel_rfl) (by kernel_rfl) (by kernel_rfl) (by intro _ _ d _ _ h; cases d <;> exact h) ?_
    go_wp2
    go_ret
    exact ⟨false, rfl, Fin.no (Fin.kp HS1.out.kp HF.out) _⟩
  | true =>
    have PT1 : Hid _ := Fin.stepped (Fin.kp HS1.out.kp HF.out)
    have PJ : _ := Fin.stepped HF.out
    have HS2 : Hid (Sits W0.heap.size ts J a n fs W0 W w2 (pre ++ wordsT wh [growS fs n (13)])) := HS1.out.told PJ.1 PJ.2.1
    clear PJ HF HS1 KB1
    refine takeH 3 (.bool true) ?_ hHeld ?_
    · intro w hSw; obtain ⟨s1, s2, s3⟩ := hSw; go_simp
    simp only [Act.put, List.setIfInBounds_toArray, List.set_cons_zero, List.set_cons_succ]
    refine takeH 4 (.agg #[.slice a n c, F, .bool wh]) ?_ hHeld ?_
    · intro w hSw; obtain ⟨s1, s2, s3⟩ := hSw; go_simp
    simp only [Act.put, List.setIfInBounds_toArray, List.set_cons_zero, List.set_cons_succ]
    refine takeH 5 (.int .i64 (wrap64 (rd fs n 13 - 1))) ?_ hHeld ?_
    · intro w hSw; obtain ⟨s1, s2, s3⟩ := hSw; go_simp
    simp only [Act.put, List.setIfInBounds_toArray, List.set_cons_zero, List.set_cons_succ]
    refine wpAnyH_ready (rs := [6]) (by kernel_rfl) (by simp) ?_
    refine AllReadyH.cons (o := _) (by rw [List.getElem?_toArray]; exact rfl) (fun K hK => ?_) AllReadyH.nil
    rw [if_pos (by kernel_rfl)]
    go_simp
    refine (implRowAt_any (wrap64 (rd fs n 13 - 1)) _ HS2.out.names).mono ?_
    rintro e w3 ⟨rfl, hb⟩
    have HS3 : Hid (Sits W0.heap.size ts J a n fs W0 W w3 (pre ++ wordsT wh [growS fs n (13)])) := HS2.out.on HG.out.gj hb
    have KB3 : Hid (w3.heap[W.heap.size]? = some (tellCells a n c F wh)) := (hb.block _ (Array.getElem?_eq_some_iff.1 KB2.out).1).trans KB2.out
    refine hK.out _ _ ?_ (fun hHeld => ?_)
    · exact boxS KB3.out
    clear hK K hb HS2 KB2
    refine wpAnyH_ready (rs := [7]) (by kernel_rfl) (by simp) ?_
    refine AllReadyH.cons (o := _) (by rw [List.getElem?_toArray]; exact rfl) (fun K hK => ?_) AllReadyH.nil
    rw [if_pos (by kernel_rfl)]
    go_simp
    refine (stays_any a n c F wh (placeN 1 (wrap64 (rd fs n 13 - 1))) fs go ts J Jx (pre ++ wordsT wh [growS fs n (13)]) W0 _ HG.out HS3.out.base (lenLt (len1 (HL.out)) (by decide)) HS3.out.low HS3.out.j).mono ?_
    rintro e w4 ⟨b, rfl, hF⟩
    have KB4 : Hid (w4.heap[W.heap.size]? = some (tellCells a n c F wh)) := hF.kx.keep _ _ _ _ KB3.out (HG.out.tt _ (by simp))
    have HF : Hid (Fin wh go W0.heap.size ts J Jx w3 [stayS fs n (placeN 1 (wrap64 (rd fs n 13 - 1)))] (pre ++ wordsT wh [growS fs n (13)]) b w4) := hF
    clear hF
    refine hK.out _ _ ?_ (fun hHeld => ?_)
    · exact boxS KB4.out
    clear hK K
    cases b with
    | false =>
      refine wpAnyH_end hHeld [8, 9, 10, 11, 12, 13, 14, 15, 16, 17, 18, 19, 20] { tmps := #[.agg #[.slice a n c, F, .bool wh], .pointer (some ⟨W.heap.size, 0, none⟩), .bool false, .int .i64 (wrap64 (rd fs n 13 - 1)), .pointer (some ⟨W.heap.size, 0, none⟩), .slice a n c, .int .i64 (rd fs n 13), .int .i64 (wrap64 (rd fs n 13 - 1)), .agg #[.slice a n c, F, .bool wh], .int .i64 13, .bool true, .bool true, .agg #[.slice a n c, F, .bool wh], .int .i64 (wrap64 (rd fs n 13 - 1)), .int .i64 (placeN 1 (wrap64 (rd fs n 13 - 1))), .bool false, .bool false, .bool false, undef, undef, undef, undef, undef, undef, undef, undef, undef, .bool false], defers := [] } (by kernel_rfl) (by kernel_rfl) (by kernel_rfl) (by kernel_rfl) (by intro _ _ d _ _ h; cases d <;> exact h) ?_
      go_wp2
      go_ret
      exact ⟨false, rfl, PT1.out.2.2 _ _ _ (Fin.no (Fin.kp HS3.out.kp HF.out) _)⟩
    | true =>
      have PT2 : Hid _ := Fin.stepped (Fin.kp HS3.out.kp HF.out)
      have PJ : _ := Fin.stepped HF.out
      have HS4 : Hid (Sits W0.heap.size ts J a n fs W0 W w4 ((pre ++ wordsT wh [growS fs n (13)]) ++ wordsT wh [stayS fs n (placeN 1 (wrap64 (rd fs n 13 - 1)))])) := HS3.out.told PJ.1 PJ.2.1
      clear PJ HF HS3 KB3
      refine takeH 8 (.bool true) ?_ hHeld ?_
      · intro w hSw; obtain ⟨s1, s2, s3⟩ := hSw; go_simp
      simp only [Act.put, List.setIfInBounds_toArray, List.set_cons_zero, List.set_cons_succ]
      refine takeH 9 (.bool true) ?_ hHeld ?_
      · intro w hSw; obtain ⟨s1, s2, s3⟩ := hSw; go_simp
      simp only [Act.put, List.setIfInBounds_toArray, List.set_cons_zero, List.set_cons_succ]
      refine takeH 10 (.agg #[.slice a n c, F, .bool wh]) ?_ hHeld ?_
      · intro w hSw; obtain ⟨s1, s2, s3⟩ := hSw; go_simp
      simp only [Act.put, List.setIfInBounds_toArray, List.set_cons_zero, List.set_cons_succ]
      refine takeH 11 (.pointer (some ⟨W.heap.size, 0, none⟩)) ?_ hHeld ?_
      · intro w hSw; obtain ⟨s1, s2, s3⟩ := hSw; go_simp
      simp only [Act.put, List.setIfInBounds_toArray, List.set_cons_zero, List.set_cons_succ]
      refine takeH 12 (.slice a n c) ?_ hHeld ?_
      · intro w hSw; obtain ⟨s1, s2, s3⟩ := hSw; go_simp
      simp only [Act.put, List.setIfInBounds_toArray, List.set_cons_zero, List.set_cons_succ]
      refine takeH 13 (.int .i64 (wrap64 (rd fs n 13 - 1))) ?_ hHeld ?_
      · intro w hSw; obtain ⟨s1, s2, s3⟩ := hSw; go_simp
      simp only [Act.put, List.setIfInBounds_toArray, List.set_cons_zero, List.set_cons_succ]
      refine takeH 16 (.int .i64 (wrap64 (rd fs n 13 - 1))) ?_ hHeld ?_
      · intro w hSw; obtain ⟨s1, s2, s3⟩ := hSw; go_simp
      simp only [Act.put, List.setIfInBounds_toArray, List.set_cons_zero, List.set_cons_succ]
      refine takeH 17 (.int .i64 (wrap64 (wrap64 (rd fs n 13 - 1) + 1))) ?_ hHeld ?_
      · intro w hSw; obtain ⟨s1, s2, s3⟩ := hSw; go_simp; exact wrapEq _
      simp only [Act.put, List.setIfInBounds_toArray, List.set_cons_zero, List.set_cons_succ]
      refine wpAnyH_ready (rs := [14]) (by kernel_rfl) (by simp) ?_
      refine AllReadyH.cons (o := _) (by rw [List.getElem?_toArray]; exact rfl) (fun K hK => ?_) AllReadyH.nil
      rw [if_pos (by kernel_rfl)]
      go_simp
      refine (knownRow_any a n c (wrap64 (rd fs n 13 - 1)) fs _ HS4.out.names HS4.out.pairs).mono ?_
      rintro e w5 ⟨rfl, hb⟩
      have HS5 : Hid (Sits W0.heap.size ts J a n fs W0 W w5 ((pre ++ wordsT wh [growS fs n (13)]) ++ wordsT wh [stayS fs n (placeN 1 (wrap64 (rd fs n 13 - 1)))])) := HS4.out.on HG.out.gj hb
      have KB5 : Hid (w5.heap[W.heap.size]? = some (tellCells a n c F wh)) := (hb.block _ (Array.getElem?_eq_some_iff.1 KB4.out).1).trans KB4.out
      refine hK.out _ _ ?_ (fun hHeld => ?_)
      · exact boxS KB5.out
      clear hK K hb HS4 KB4
      refine wpAnyH_ready (rs := [15]) (by kernel_rfl) (by simp) ?_
      refine AllReadyH.cons (o := _) (by rw [List.getElem?_toArray]; exact rfl) (fun K hK => ?_) AllReadyH.nil
      rw [if_pos (by kernel_rfl)]
      go_simp
      refine (implViaAt_any (rd fs n (placeN 1 (wrap64 (rd fs n 13 - 1)))) _ HS5.out.names).mono ?_
      rintro e w6 ⟨rfl, hb⟩
      have HS6 : Hid (Sits W0.heap.size ts J a n fs W0 W w6 ((pre ++ wordsT wh [growS fs n (13)]) ++ wordsT wh [stayS fs n (placeN 1 (wrap64 (rd fs n 13 - 1)))])) := HS5.out.on HG.out.gj hb
      have KB6 : Hid (w6.heap[W.heap.size]? = some (tellCells a n c F wh)) := (hb.block _ (Array.getElem?_eq_some_iff.1 KB5.out).1).trans KB5.out
      refine hK.out _ _ ?_ (fun hHeld => ?_)
      · exact boxS KB6.out
      clear hK K hb HS5 KB5
      refine wpAnyH_ready (rs := [18]) (by kernel_rfl) (by simp) ?_
      refine AllReadyH.cons (o := _) (by rw [List.getElem?_toArray]; exact rfl) (fun K hK => ?_) AllReadyH.nil
      rw [if_pos (by kernel_rfl)]
      go_simp
      refine (HG.out.bec (placeN 5 (rd fs n (placeN 1 (wrap64 (rd fs n 13 - 1))))) (wrap64 (wrap64 (rd fs n 13 - 1) + 1)) ((pre ++ wordsT wh [growS fs n (13)]) ++ wordsT wh [stayS fs n (placeN 1 (wrap64 (rd fs n 13 - 1)))]) _ (lenLt (len1 (len1 (HL.out))) (by decide)) HS6.out.low HS6.out.j).mono ?_
      rintro e w7 ⟨b, rfl, hF⟩
      have KB7 : Hid (w7.heap[W.heap.size]? = some (tellCells a n c F wh)) := hF.kx.keep _ _ _ _ KB6.out (HG.out.tt _ (by simp))
      have HF : Hid (Fin wh go W0.heap.size ts J Jx w6 [becS fs n (placeN 5 (rd fs n (placeN 1 (wrap64 (rd fs n 13 - 1))))) (wrap64 (wrap64 (rd fs n 13 - 1) + 1))] ((pre ++ wordsT wh [growS fs n (13)]) ++ wordsT wh [stayS fs n (placeN 1 (wrap64 (rd fs n 13 - 1)))]) b w7) := hF
      clear hF
      refine hK.out _ _ ?_ (fun hHeld => ?_)
      · exact boxS KB7.out
      clear hK K
      refine takeH 19 (.bool b) ?_ hHeld ?_
      · intro w hSw; obtain ⟨s1, s2, s3⟩ := hSw; go_simp
      simp only [Act.put, List.setIfInBounds_toArray, List.set_cons_zero, List.set_cons_succ]
      refine takeH 20 (.bool b) ?_ hHeld ?_
      · intro w hSw; obtain ⟨s1, s2, s3⟩ := hSw; go_simp
      simp only [Act.put, List.setIfInBounds_toArray, List.set_cons_zero, List.set_cons_succ]
      refine wpAnyH_done (by kernel_rfl) ?_ _
      go_wp2
      go_ret
      exact ⟨b, rfl, PT1.out.2.2 _ _ _ (PT2.out.2.2 _ _ _ (Fin.kp HS6.out.kp HF.out))⟩
noncomputable def findViaL : List Oper := match Tryz.f108.body with
  | some (.seq _ (.seq (.region _ ops _) _)) => ops.toList
  | _ => []
theorem findVia_any (a : Option Addr) (n c : Nat) (F : Value) (wh : Bool) (kd k v : Int) (fs : List Int) (go : Ent → Bool) (ts : List TypeId) (J Jx : List Ent → World → Prop) (pre : List Ent) (W0 W : World)
    (hG : Goes F wh a n c fs go W0 ts J Jx) (hB : Base W0 a n fs) (hl : pre.length ≤ 50) (hW : Below W0.heap.size W0 W) (hJ : J pre W) :
    Calls Tryz.prog 108 #[.agg #[.slice a n c, F, .bool wh], .agg #[.int .i64 kd, .int .i64 k, .int .i64 v]] W fun e W' => ∃ b, e = .returned (.bool b) ∧ Fin wh go W0.heap.size ts J Jx W (viaS fs n v) pre b W' := by
  have HG : Hid (Goes F wh a n c fs go W0 ts J Jx) := hG
  have HL : Hid (pre.length ≤ 50) := hl
  clear hl
  obtain ⟨w0, hw0⟩ : ∃ w0, ((W.alloc (.cells #[.slice a n c, F, .bool wh] 110)).alloc (.cells #[.int .i64 kd, .int .i64 k, .int .i64 v] 102)).drew = w0 := ⟨_, rfl⟩
  have hx : Below W.heap.size W w0 := by rw [← hw0]; exact (((Below.refl _ _).alloc (Nat.le_refl _) _).alloc (by simp) _).drew
  have bx : w0.heap[W.heap.size]? = some (tellCells a n c F wh) := by rw [← hw0]; exact (Below.heap_alloc _ _ _ (by simp)).trans (World.alloc_heap_new W _)
  have by' : w0.heap[W.heap.size + 1]? = some (.cells #[.int .i64 kd, .int .i64 k, .int .i64 v] 102 (0, 0)) := by
    rw [← hw0]; have := World.alloc_heap_new (W.alloc (.cells #[.slice a n c, F, .bool wh] 110)) (.cells #[.int .i64 kd, .int .i64 k, .int .i64 v] 102); rw [World.size_alloc] at this; exact this
  have HS0 : Hid (Sits W0.heap.size ts J a n fs W0 W w0 pre) := (show Sits W0.heap.size ts J a n fs W0 W W pre from ⟨hB, hW, hJ, Kp.of_below (Below.refl _ _) hW.size⟩).on hG.gj hx
  have KB0 : Hid (w0.heap[W.heap.size]? = some (tellCells a n c F wh) ∧ w0.heap[W.heap.size + 1]? = some (.cells #[.int .i64 kd, .int .i64 k, .int .i64 v] 102 (0, 0))) := ⟨bx, by'⟩
  clear hG hB hW hJ hx bx by'
  have boxS : ∀ {w' : World}, (w'.heap[W.heap.size]? = some (tellCells a n c F wh) ∧ w'.heap[W.heap.size + 1]? = some (.cells #[.int .i64 kd, .int .i64 k, .int .i64 v] 102 (0, 0))) → (w'.cell? ⟨W.heap.size, 0, none⟩ = some (.slice a n c) ∧ w'.cell? ⟨W.heap.size, 1, none⟩ = some F ∧ w'.cell? ⟨W.heap.size, 2, none⟩ = some (.bool wh)) ∧ w'.cell? ⟨W.heap.size + 1, 1, none⟩ = some (.int .i64 k) ∧ w'.cell? ⟨W.heap.size + 1, 2, none⟩ = some (.int .i64 v) := fun h => ⟨tbox_of h.1, by simp [World.cell?, h.2], by simp [World.cell?, h.2]⟩
  go_enter Tryz.func108, Tryz.ntmps108
  go_wp2_with fail
  change (Code.region _ (List.toArray findViaL) true).wp _ _ _ _
  refine wp_region_held_drew (S := fun w' => (w'.cell? ⟨W.heap.size, 0, none⟩ = some (.slice a n c) ∧ w'.cell? ⟨W.heap.size, 1, none⟩ = some F ∧ w'.cell? ⟨W.heap.size, 2, none⟩ = some (.bool wh)) ∧ w'.cell? ⟨W.heap.size + 1, 1, none⟩ = some (.int .i64 k) ∧ w'.cell? ⟨W.heap.size + 1, 2, none⟩ = some (.int .i64 v)) (by kernel_rfl) ?_ (fun hHeld => ?_)
  · rw [hw0]; exact boxS KB0.out
  rw [hw0] at hHeld ⊢
  refine takeH 0 (.agg #[.slice a n c, F, .bool wh]) ?_ hHeld ?_
  · intro w hSw; obtain ⟨⟨s1, s2, s3⟩, s4, s5⟩ := hSw; go_simp
  simp only [Act.put, List.setIfInBounds_toArray, List.set_cons_zero, List.set_cons_succ]
  refine wpAnyH_ready (rs := [1]) (by kernel_rfl) (by simp) ?_
  refine AllReadyH.cons (o := _) (by rw [List.getElem?_toArray]; exact rfl) (fun K hK => ?_) AllReadyH.nil
  rw [if_pos (by kernel_rfl)]
  go_simp
  refine (implStateAt_any _ HS0.out.names).mono ?_
  rintro e w1 ⟨rfl, hb⟩
  have HS1 : Hid (Sits W0.heap.size ts J a n fs W0 W w1 pre) := HS0.out.on HG.out.gj hb
  have KB1 : Hid (w1.heap[W.heap.size]? = some (tellCells a n c F wh) ∧ w1.heap[W.heap.size + 1]? = some (.cells #[.int .i64 kd, .int .i64 k, .int .i64 v] 102 (0, 0))) := ⟨(hb.block _ (Array.getElem?_eq_some_iff.1 KB0.out.1).1).trans KB0.out.1, (hb.block _ (Array.getElem?_eq_some_iff.1 KB0.out.2).1).trans KB0.out.2⟩
  refine hK.out _ _ ?_ (fun hHeld => ?_)
  · exact boxS KB1.out
  clear hK K hb HS0 KB0
  refine wpAnyH_ready (rs := [2]) (by kernel_rfl) (by simp) ?_
  refine AllReadyH.cons (o := _) (by rw [List.getElem?_toArray]; exact rfl) (fun K hK => ?_) AllReadyH.nil
  rw [if_pos (by kernel_rfl)]
  go_simp
  refine (stays_any a n c F wh (13) fs go ts J Jx pre W0 _ HG.out HS1.out.base (lenLt (HL.out) (by decide)) HS1.out.low HS1.out.j).mono ?_
  rintro e w2 ⟨b, rfl, hF⟩
  have KB2 : Hid (w2.heap[W.heap.size]? = some (tellCells a n c F wh) ∧ w2.heap[W.heap.size + 1]? = some (.cells #[.int .i64 kd, .int .i64 k, .int .i64 v] 102 (0, 0))) := ⟨hF.kx.keep _ _ _ _ KB1.out.1 (HG.out.tt _ (by simp)), hF.kx.keep _ _ _ _ KB1.out.2 (HG.out.tt _ (by simp))⟩
  have HF : Hid (Fin wh go W0.heap.size ts J Jx w1 [stayS fs n (13)] pre b w2) := hF
  clear hF
  refine hK.out _ _ ?_ (fun hHeld => ?_)
  · exact boxS KB2.out
  clear hK K
  cases b with
  | false =>
    refine wpAnyH_end hHeld [3, 4, 5, 6, 7, 8, 9, 10, 11, 12, 13, 14, 15, 16] { tmps := #[.agg #[.slice a n c, F, .bool wh], .agg #[.int .i64 kd, .int .i64 k, .int .i64 v], .pointer (some ⟨W.heap.size, 0, none⟩), .pointer (some ⟨W.heap.size + 1, 0, none⟩), .bool false, .agg #[.slice a n c, F, .bool wh], .int .i64 13, .bool false, .bool false, undef, undef, undef, undef, .bool false, .bool false, undef, undef, undef, undef, undef, .bool false], defers := [] } (by kernel_rfl) (by kernel_rfl) (by kernel_rfl) (by kernel_rfl) (by intro _ _ d _ _ h; cases d <;> exact h) ?_
    go_wp2
    go_ret
    exact ⟨false, rfl, Fin.no (Fin.kp HS1.out.kp HF.out) _⟩
  | true =>
    have PT1 : Hid _ := Fin.stepped (Fin.kp HS1.out.kp HF.out)
    have PJ : _ := Fin.stepped HF.out
    have HS2 : Hid (Sits W0.heap.size ts J a n fs W0 W w2 (pre ++ wordsT wh [stayS fs n (13)])) := HS1.out.told PJ.1 PJ.2.1
    clear PJ HF HS1 KB1
    refine takeH 3 (.bool true) ?_ hHeld ?_
    · intro w hSw; obtain ⟨⟨s1, s2, s3⟩, s4, s5⟩ := hSw; go_simp
    simp only [Act.put, List.setIfInBounds_toArray, List.set_cons_zero, List.set_cons_succ]
    refine takeH 4 (.pointer (some ⟨W.heap.size, 0, none⟩)) ?_ hHeld ?_
    · intro w hSw; obtain ⟨⟨s1, s2, s3⟩, s4, s5⟩ := hSw; go_simp
    simp only [Act.put, List.setIfInBounds_toArray, List.set_cons_zero, List.set_cons_succ]
    refine takeH 5 (.slice a n c) ?_ hHeld ?_
    · intro w hSw; obtain ⟨⟨s1, s2, s3⟩, s4, s5⟩ := hSw; go_simp
    simp only [Act.put, List.setIfInBounds_toArray, List.set_cons_zero, List.set_cons_succ]
    refine wpAnyH_ready (rs := [6]) (by kernel_rfl) (by simp) ?_
    refine AllReadyH.cons (o := _) (by rw [List.getElem?_toArray]; exact rfl) (fun K hK => ?_) AllReadyH.nil
    rw [if_pos (by kernel_rfl)]
    go_simp
    refine (knownState_any a n c fs _ HS2.out.names HS2.out.pairs).mono ?_
    rintro e w3 ⟨rfl, hb⟩
    have HS3 : Hid (Sits W0.heap.size ts J a n fs W0 W w3 (pre ++ wordsT wh [stayS fs n (13)])) := HS2.out.on HG.out.gj hb
    have KB3 : Hid (w3.heap[W.heap.size]? = some (tellCells a n c F wh) ∧ w3.heap[W.heap.size + 1]? = some (.cells #[.int .i64 kd, .int .i64 k, .int .i64 v] 102 (0, 0))) := ⟨(hb.block _ (Array.getElem?_eq_some_iff.1 KB2.out.1).1).trans KB2.out.1, (hb.block _ (Array.getElem?_eq_some_iff.1 KB2.out.2).1).trans KB2.out.2⟩
    refine hK.out _ _ ?_ (fun hHeld => ?_)
    · exact boxS KB3.out
    clear hK K hb HS2 KB2
    obtain ⟨q2, hq2⟩ : ∃ q : Bool, (rd fs n 13 == 5) = q := ⟨_, rfl⟩
    have HQ2 : Hid ((rd fs n 13 == 5) = q2) := hq2
    cases q2 with
    | false =>
      refine takeH 7 (.bool false) ?_ hHeld ?_
      · intro w hSw; obtain ⟨⟨s1, s2, s3⟩, s4, s5⟩ := hSw; go_simp
      simp only [Act.put, List.setIfInBounds_toArray, List.set_cons_zero, List.set_cons_succ]
      clear hq2
      refine wpAnyH_end hHeld [8, 9, 10, 11, 12, 13, 14, 15, 16] { tmps := #[.agg #[.slice a n c, F, .bool wh], .agg #[.int .i64 kd, .int .i64 k, .int .i64 v], .pointer (some ⟨W.heap.size, 0, none⟩), .pointer (some ⟨W.heap.size + 1, 0, none⟩), .bool false, .agg #[.slice a n c, F, .bool wh], .int .i64 13, .bool true, .bool true, .pointer (some ⟨W.heap.size, 0, none⟩), .slice a n c, .int .i64 (rd fs n 13), .bool false, .bool false, .bool false, undef, undef, undef, undef, undef, .bool false], defers := [] } (by kernel_rfl) (by kernel_rfl) (by kernel_rfl) (by kernel_rfl) (by intro _ _ d _ _ h; cases d <;> exact h) ?_
      go_wp2
      go_ret
      exact ⟨false, rfl, PT1.out.2.2 _ _ _ (Fin.askNo (decide_eq_false (by simpa using HQ2.out)) HS3.out.j HS3.out.kp)⟩
    | true =>
      refine takeH 7 (.bool true) ?_ hHeld ?_
      · intro w hSw; obtain ⟨⟨s1, s2, s3⟩, s4, s5⟩ := hSw; go_simp
      simp only [Act.put, List.setIfInBounds_toArray, List.set_cons_zero, List.set_cons_succ]
      clear hq2
      refine takeH 8 (.bool true) ?_ hHeld ?_
      · intro w hSw; obtain ⟨⟨s1, s2, s3⟩, s4, s5⟩ := hSw; go_simp
      simp only [Act.put, List.setIfInBounds_toArray, List.set_cons_zero, List.set_cons_succ]
      refine takeH 9 (.bool true) ?_ hHeld ?_
      · intro w hSw; obtain ⟨⟨s1, s2, s3⟩, s4, s5⟩ := hSw; go_simp
      simp only [Act.put, List.setIfInBounds_toArray, List.set_cons_zero, List.set_cons_succ]
      refine takeH 10 (.agg #[.slice a n c, F, .bool wh]) ?_ hHeld ?_
      · intro w hSw; obtain ⟨⟨s1, s2, s3⟩, s4, s5⟩ := hSw; go_simp
      simp only [Act.put, List.setIfInBounds_toArray, List.set_cons_zero, List.set_cons_succ]
      refine takeH 11 (.pointer (some ⟨W.heap.size + 1, 2, none⟩)) ?_ hHeld ?_
      · intro w hSw; obtain ⟨⟨s1, s2, s3⟩, s4, s5⟩ := hSw; go_simp
      simp only [Act.put, List.setIfInBounds_toArray, List.set_cons_zero, List.set_cons_succ]
      refine takeH 12 (.int .i64 v) ?_ hHeld ?_
      · intro w hSw; obtain ⟨⟨s1, s2, s3⟩, s4, s5⟩ := hSw; go_simp
      simp only [Act.put, List.setIfInBounds_toArray, List.set_cons_zero, List.set_cons_succ]
      refine wpAnyH_ready (rs := [13]) (by kernel_rfl) (by simp) ?_
      refine AllReadyH.cons (o := _) (by rw [List.getElem?_toArray]; exact rfl) (fun K hK => ?_) AllReadyH.nil
      rw [if_pos (by kernel_rfl)]
      go_simp
      refine (implViaAt_any (v) _ HS3.out.names).mono ?_
      rintro e w4 ⟨rfl, hb⟩
      have HS4 : Hid (Sits W0.heap.size ts J a n fs W0 W w4 (pre ++ wordsT wh [stayS fs n (13)])) := HS3.out.on HG.out.gj hb
      have KB4 : Hid (w4.heap[W.heap.size]? = some (tellCells a n c F wh) ∧ w4.heap[W.heap.size + 1]? = some (.cells #[.int .i64 kd, .int .i64 k, .int .i64 v] 102 (0, 0))) := ⟨(hb.block _ (Array.getElem?_eq_some_iff.1 KB3.out.1).1).trans KB3.out.1, (hb.block _ (Array.getElem?_eq_some_iff.1 KB3.out.2).1).trans KB3.out.2⟩
      refine hK.out _ _ ?_ (fun hHeld => ?_)
      · exact boxS KB4.out
      clear hK K hb HS3 KB3
      refine wpAnyH_ready (rs := [14]) (by kernel_rfl) (by simp) ?_
      refine AllReadyH.cons (o := _) (by rw [List.getElem?_toArray]; exact rfl) (fun K hK => ?_) AllReadyH.nil
      rw [if_pos (by kernel_rfl)]
      go_simp
      refine (stays_any a n c F wh (placeN 5 v) fs go ts J Jx (pre ++ wordsT wh [stayS fs n (13)]) W0 _ HG.out HS4.out.base (lenLt (len1 (HL.out)) (by decide)) HS4.out.low HS4.out.j).mono ?_
      rintro e w5 ⟨b, rfl, hF⟩
      have KB5 : Hid (w5.heap[W.heap.size]? = some (tellCells a n c F wh) ∧ w5.heap[W.heap.size + 1]? = some (.cells #[.int .i64 kd, .int .i64 k, .int .i64 v] 102 (0, 0))) := ⟨hF.kx.keep _ _ _ _ KB4.out.1 (HG.out.tt _ (by simp)), hF.kx.keep _ _ _ _ KB4.out.2 (HG.out.tt _ (by simp))⟩
      have HF : Hid (Fin wh go W0.heap.size ts J Jx w4 [stayS fs n (placeN 5 v)] (pre ++ wordsT wh [stayS fs n (13)]) b w5) := hF
      clear hF
      refine hK.out _ _ ?_ (fun hHeld => ?_)
      · exact boxS KB5.out
      clear hK K
      refine takeH 15 (.bool b) ?_ hHeld ?_
      · intro w hSw; obtain ⟨⟨s1, s2, s3⟩, s4, s5⟩ := hSw; go_simp
      simp only [Act.put, List.setIfInBounds_toArray, List.set_cons_zero, List.set_cons_succ]
      refine takeH 16 (.bool b) ?_ hHeld ?_
      · intro w hSw; obtain ⟨⟨s1, s2, s3⟩, s4, s5⟩ := hSw; go_simp
      simp only [Act.put, List.setIfInBounds_toArray, List.set_cons_zero, List.set_cons_succ]
      refine wpAnyH_done (by kernel_rfl) ?_ _
      go_wp2
      go_ret
      exact ⟨b, rfl, PT1.out.2.2 _ _ _ (Fin.askYes (decide_eq_true (by simpa using HQ2.out)) (Fin.kp HS4.out.kp HF.out))⟩
theorem words_1 (a : Option Addr) (n c : Nat) (F : Value) (wh : Bool) (k v : Int) (fs : List Int) (go : Ent → Bool) (ts : List TypeId) (J Jx : List Ent → World → Prop) (W0 W : World)
    (hG : Goes F wh a n c fs go W0 ts J Jx) (hB : Base W0 a n fs) (hW : Below W0.heap.size W0 W) (hJ : J [] W) (hk : 0 ≤ k ∧ k ≤ 3) :
    Calls Tryz.prog 75 #[.agg #[.slice a n c, F, .bool wh], .iface 93 (OpV 1 k v)] W fun e W' => (∃ v, e = .returned v) ∧ ∃ b, Fin wh go W0.heap.size ts J Jx W (stepsT wh fs n 1 k v) [] b W' := by
  have HG : Hid (Goes F wh a n c fs go W0 ts J Jx) := hG
  have HS : Hid (Sits W0.heap.size ts J a n fs W0 W W []) := ⟨hB, hW, hJ, Kp.of_below (Below.refl _ _) hW.size⟩
  clear hG hB hW hJ
  have t1 : ∀ w : World, (Instr.typeAssert (.iface 93 (OpV 1 k v)) 56 93 true).run Tryz.prog w = .ok (.tuple #[OpV 1 k v, .bool true]) w := fun w => by kernel_rfl
  have hX : Below W.heap.size W ((W.alloc (.cells #[.slice a n c, F, .bool wh] 110)).alloc (.cells #[.int .i64 1, .int .i64 k, .int .i64 v] 93)) := ((Below.refl _ _).alloc (Nat.le_refl _) _).alloc (by simp) _
  have HX : Hid (Below W.heap.size W ((W.alloc (.cells #[.slice a n c, F, .bool wh] 110)).alloc (.cells #[.int .i64 1, .int .i64 k, .int .i64 v] 93))) := hX
  clear hX
  go_enter Tryz.func75, Tryz.ntmps75
  go_wp2_with fail
  refine (put_any a n c F wh 1 k v fs go ts J Jx [] W0 _ HG.out HS.out.base (by decide) (HS.out.low.trans (HX.out.mono HS.out.low.size)) (HG.out.gj _ _ _ HS.out.j (far_below HX.out none)) hk).mono ?_
  rintro e W' ⟨b, rfl, hF⟩
  have HF : Hid (Fin wh go W0.heap.size ts J Jx ((W.alloc (.cells #[.slice a n c, F, .bool wh] 110)).alloc (.cells #[.int .i64 1, .int .i64 k, .int .i64 v] 93)) (stepsT wh fs n 1 k v) [] b W') := hF
  clear hF
  go_wp2
  go_end0
  exact ⟨⟨_, rfl⟩, b, Fin.kp (Kp.of_below HX.out HS.out.low.size) HF.out⟩

theorem words_2 (a : Option Addr) (n c : Nat) (F : Value) (wh : Bool) (k v : Int) (fs : List Int) (go : Ent → Bool) (ts : List TypeId) (J Jx : List Ent → World → Prop) (W0 W : World)
    (hG : Goes F wh a n c fs go W0 ts J Jx) (hB : Base W0 a n fs) (hW : Below W0.heap.size W0 W) (hJ : J [] W) (hk : 0 ≤ k ∧ k ≤ 3) :
    Calls Tryz.prog 75 #[.agg #[.slice a n c, F, .bool wh], .iface 94 (OpV 2 k v)] W fun e W' => (∃ v, e = .returned v) ∧ ∃ b, Fin wh go W0.heap.size ts J Jx W (stepsT wh fs n 2 k v) [] b W' := by
  have HG : Hid (Goes F wh a n c fs go W0 ts J Jx) := hG
  have HS : Hid (Sits W0.heap.size ts J a n fs W0 W W []) := ⟨hB, hW, hJ, Kp.of_below (Below.refl _ _) hW.size⟩
  clear hG hB hW hJ
  have t1 : ∀ w : World, (Instr.typeAssert (.iface 94 (OpV 2 k v)) 56 93 true).run Tryz.prog w = .ok (.tuple #[OpV 0 0 0, .bool false]) w := fun w => by kernel_rfl
  have t2 : ∀ w : World, (Instr.typeAssert (.iface 94 (OpV 2 k v)) 56 94 true).run Tryz.prog w = .ok (.tuple #[OpV 2 k v, .bool true]) w := fun w => by kernel_rfl
  have hX : Below W.heap.size W ((W.alloc (.cells #[.slice a n c, F, .bool wh] 110)).alloc (.cells #[.int .i64 2, .int .i64 k, .int .i64 v] 94)) := ((Below.refl _ _).alloc (Nat.le_refl _) _).alloc (by simp) _
  have HX : Hid (Below W.heap.size W ((W.alloc (.cells #[.slice a n c, F, .bool wh] 110)).alloc (.cells #[.int .i64 2, .int .i64 k, .int .i64 v] 94))) := hX
  clear hX
  go_enter Tryz.func75, Tryz.ntmps75
  go_wp2_with fail
  refine (set_any a n c F wh 2 k v fs go ts J Jx [] W0 _ HG.out HS.out.base (by decide) (HS.out.low.trans (HX.out.mono HS.out.low.size)) (HG.out.gj _ _ _ HS.out.j (far_below HX.out none)) hk).mono ?_
  rintro e W' ⟨b, rfl, hF⟩
  have HF : Hid (Fin wh go W0.heap.size ts J Jx ((W.alloc (.cells #[.slice a n c, F, .bool wh] 110)).alloc (.cells #[.int .i64 2, .int .i64 k, .int .i64 v] 94)) (stepsT wh fs n 2 k v) [] b W') := hF
  clear hF
  go_wp2
  go_end0
  exact ⟨⟨_, rfl⟩, b, Fin.kp (Kp.of_below HX.out HS.out.low.size) HF.out⟩

theorem words_3 (a : Option Addr) (n c : Nat) (F : Value) (wh : Bool) (k v : Int) (fs : List Int) (go : Ent → Bool) (ts : List TypeId) (J Jx : List Ent → World → Prop) (W0 W : World)
    (hG : Goes F wh a n c fs go W0 ts J Jx) (hB : Base W0 a n fs) (hW : Below W0.heap.size W0 W) (hJ : J [] W) (hk : 0 ≤ k ∧ k ≤ 3) :
    Calls Tryz.prog 75 #[.agg #[.slice a n c, F, .bool wh], .iface 95 (OpV 3 k v)] W fun e W' => (∃ v, e = .returned v) ∧ ∃ b, Fin wh go W0.heap.size ts J Jx W (stepsT wh fs n 3 k v) [] b W' := by
  have HG : Hid (Goes F wh a n c fs go W0 ts J Jx) := hG
  have HS : Hid (Sits W0.heap.size ts J a n fs W0 W W []) := ⟨hB, hW, hJ, Kp.of_below (Below.refl _ _) hW.size⟩
  clear hG hB hW hJ
  have t1 : ∀ w : World, (Instr.typeAssert (.iface 95 (OpV 3 k v)) 56 93 true).run Tryz.prog w = .ok (.tuple #[OpV 0 0 0, .bool false]) w := fun w => by kernel_rfl
  have t2 : ∀ w : World, (Instr.typeAssert (.iface 95 (OpV 3 k v)) 56 94 true).run Tryz.prog w = .ok (.tuple #[OpV 0 0 0, .bool false]) w := fun w => by kernel_rfl
  have t3 : ∀ w : World, (Instr.typeAssert (.iface 95 (OpV 3 k v)) 56 95 true).run Tryz.prog w = .ok (.tuple #[OpV 3 k v, .bool true]) w := fun w => by kernel_rfl
  have hX : Below W.heap.size W ((W.alloc (.cells #[.slice a n c, F, .bool wh] 110)).alloc (.cells #[.int .i64 3, .int .i64 k, .int .i64 v] 95)) := ((Below.refl _ _).alloc (Nat.le_refl _) _).alloc (by simp) _
  have HX : Hid (Below W.heap.size W ((W.alloc (.cells #[.slice a n c, F, .bool wh] 110)).alloc (.cells #[.int .i64 3, .int .i64 k, .int .i64 v] 95))) := hX
  clear hX
  go_enter Tryz.func75, Tryz.ntmps75
  go_wp2_with fail
  refine (del_any a n c F wh 3 k v fs go ts J Jx [] W0 _ HG.out HS.out.base (by decide) (HS.out.low.trans (HX.out.mono HS.out.low.size)) (HG.out.gj _ _ _ HS.out.j (far_below HX.out none)) hk).mono ?_
  rintro e W' ⟨b, rfl, hF⟩
  have HF : Hid (Fin wh go W0.heap.size ts J Jx ((W.alloc (.cells #[.slice a n c, F, .bool wh] 110)).alloc (.cells #[.int .i64 3, .int .i64 k, .int .i64 v] 95)) (stepsT wh fs n 3 k v) [] b W') := hF
  clear hF
  go_wp2
  go_end0
  exact ⟨⟨_, rfl⟩, b, Fin.kp (Kp.of_below HX.out HS.out.low.size) HF.out⟩

theorem words_4 (a : Option Addr) (n c : Nat) (F : Value) (wh : Bool) (k v : Int) (fs : List Int) (go : Ent → Bool) (ts : List TypeId) (J Jx : List Ent → World → Prop) (W0 W : World)
    (hG : Goes F wh a n c fs go W0 ts J Jx) (hB : Base W0 a n fs) (hW : Below W0.heap.size W0 W) (hJ : J [] W) :
    Calls Tryz.prog 75 #[.agg #[.slice a n c, F, .bool wh], .iface 96 (OpV 4 k v)] W fun e W' => (∃ v, e = .returned v) ∧ ∃ b, Fin wh go W0.heap.size ts J Jx W (stepsT wh fs n 4 k v) [] b W' := by
  have HG : Hid (Goes F wh a n c fs go W0 ts J Jx) := hG
  have HS : Hid (Sits W0.heap.size ts J a n fs W0 W W []) := ⟨hB, hW, hJ, Kp.of_below (Below.refl _ _) hW.size⟩
  clear hG hB hW hJ
  have t1 : ∀ w : World, (Instr.typeAssert (.iface 96 (OpV 4 k v)) 56 93 true).run Tryz.prog w = .ok (.tuple #[OpV 0 0 0, .bool false]) w := fun w => by kernel_rfl
  have t2 : ∀ w : World, (Instr.typeAssert (.iface 96 (OpV 4 k v)) 56 94 true).run Tryz.prog w = .ok (.tuple #[OpV 0 0 0, .bool false]) w := fun w => by kernel_rfl
  have t3 : ∀ w : World, (Instr.typeAssert (.iface 96 (OpV 4 k v)) 56 95 true).run Tryz.prog w = .ok (.tuple #[OpV 0 0 0, .bool false]) w := fun w => by kernel_rfl
  have t4 : ∀ w : World, (Instr.typeAssert (.iface 96 (OpV 4 k v)) 56 96 true).run Tryz.prog w = .ok (.tuple #[OpV 4 k v, .bool true]) w := fun w => by kernel_rfl
  have hX : Below W.heap.size W ((W.alloc (.cells #[.slice a n c, F, .bool wh] 110)).alloc (.cells #[.int .i64 4, .int .i64 k, .int .i64 v] 96)) := ((Below.refl _ _).alloc (Nat.le_refl _) _).alloc (by simp) _
  have HX : Hid (Below W.heap.size W ((W.alloc (.cells #[.slice a n c, F, .bool wh] 110)).alloc (.cells #[.int .i64 4, .int .i64 k, .int .i64 v] 96))) := hX
  clear hX
  go_enter Tryz.func75, Tryz.ntmps75
  go_wp2_with fail
  obtain ⟨wd, hwd⟩ : ∃ wd, ((W.alloc (.cells #[.slice a n c, F, .bool wh] 110)).alloc (.cells #[.int .i64 4, .int .i64 k, .int .i64 v] 96)).drew = wd := ⟨_, rfl⟩
  have hdd : Below W.heap.size W wd := by rw [← hwd]; exact HX.out.drew
  have HSd : Hid (Sits W0.heap.size ts J a n fs W0 W wd []) := HS.out.on HG.out.gj hdd
  have BT : Hid (wd.heap[W.heap.size]? = some (tellCells a n c F wh) ∧ wd.heap[W.heap.size + 1]? = some (.cells #[.int .i64 4, .int .i64 k, .int .i64 v] 96 (0, 0))) := by
    rw [← hwd]
    refine ⟨(Below.heap_alloc _ _ _ (by simp)).trans (World.alloc_heap_new W _), ?_⟩
    have := World.alloc_heap_new (W.alloc (.cells #[.slice a n c, F, .bool wh] 110)) (.cells #[.int .i64 4, .int .i64 k, .int .i64 v] 96); rw [World.size_alloc] at this; exact this
  have K0 : Hid (wd.cell? ⟨W.heap.size, 0, none⟩ = some (.slice a n c) ∧ wd.cell? ⟨W.heap.size, 1, none⟩ = some F ∧ wd.cell? ⟨W.heap.size, 2, none⟩ = some (.bool wh) ∧ wd.cell? ⟨W.heap.size + 1, 1, none⟩ = some (.int .i64 k)) := ⟨by simp [World.cell?, BT.out.1], by simp [World.cell?, BT.out.1], by simp [World.cell?, BT.out.1], by simp [World.cell?, BT.out.2]⟩
  clear hdd
  go_region_held3 (fun w' => w'.cell? ⟨W.heap.size, 0, none⟩ = some (.slice a n c) ∧ w'.cell? ⟨W.heap.size, 1, none⟩ = some F ∧ w'.cell? ⟨W.heap.size, 2, none⟩ = some (.bool wh) ∧ w'.cell? ⟨W.heap.size + 1, 1, none⟩ = some (.int .i64 k))
    (first | (with_reducible exact K2.out) | (with_reducible exact K1.out) | (with_reducible exact K0.out) | exact hwd ▸ K0.out | go_keep)
    (first
    | (go_at_call 46
       refine (implRowAt_any k _ (by first | exact HSd.out.names | exact hwd ▸ HSd.out.names)).mono ?_
       rintro e w1 ⟨rfl, hb1⟩
       have hb1' : Below wd.heap.size wd w1 := by first | exact hb1 | exact hwd ▸ hb1
       have HS1 : Hid (Sits W0.heap.size ts J a n fs W0 W w1 []) := HSd.out.on HG.out.gj hb1'
       have B1 : Hid (w1.heap[W.heap.size]? = some (tellCells a n c F wh) ∧ w1.heap[W.heap.size + 1]? = some (.cells #[.int .i64 4, .int .i64 k, .int .i64 v] 96 (0, 0))) := ⟨(hb1'.block _ (Array.getElem?_eq_some_iff.1 BT.out.1).1).trans BT.out.1, (hb1'.block _ (Array.getElem?_eq_some_iff.1 BT.out.2).1).trans BT.out.2⟩
       have K1 : Hid (w1.cell? ⟨W.heap.size, 0, none⟩ = some (.slice a n c) ∧ w1.cell? ⟨W.heap.size, 1, none⟩ = some F ∧ w1.cell? ⟨W.heap.size, 2, none⟩ = some (.bool wh) ∧ w1.cell? ⟨W.heap.size + 1, 1, none⟩ = some (.int .i64 k)) := ⟨by simp [World.cell?, B1.out.1], by simp [World.cell?, B1.out.1], by simp [World.cell?, B1.out.1], by simp [World.cell?, B1.out.2]⟩
       clear hb1 hb1')
    | (go_at_call 104
       refine (stays_any a n c F wh (placeN 1 k) fs go ts J Jx [] W0 _ HG.out HS1.out.base (by decide) HS1.out.low HS1.out.j).mono ?_
       rintro e w2 ⟨b, rfl, hF⟩
       have HF : Hid (Fin wh go W0.heap.size ts J Jx W [stayS fs n (placeN 1 k)] [] b w2) := Fin.kp HS1.out.kp hF
       have B2 : Hid (w2.heap[W.heap.size]? = some (tellCells a n c F wh) ∧ w2.heap[W.heap.size + 1]? = some (.cells #[.int .i64 4, .int .i64 k, .int .i64 v] 96 (0, 0))) := ⟨hF.kx.keep _ _ _ _ B1.out.1 (HG.out.tt _ (by simp)), hF.kx.keep _ _ _ _ B1.out.2 (HG.out.tt _ (by simp))⟩
       have K2 : Hid (w2.cell? ⟨W.heap.size, 0, none⟩ = some (.slice a n c) ∧ w2.cell? ⟨W.heap.size, 1, none⟩ = some F ∧ w2.cell? ⟨W.heap.size, 2, none⟩ = some (.bool wh) ∧ w2.cell? ⟨W.heap.size + 1, 1, none⟩ = some (.int .i64 k)) := ⟨by simp [World.cell?, B2.out.1], by simp [World.cell?, B2.out.1], by simp [World.cell?, B2.out.1], by simp [World.cell?, B2.out.2]⟩
       clear hF))
  go_wp2
  go_end0
  exact ⟨⟨_, rfl⟩, b, HF.out⟩

theorem words_5 (a : Option Addr) (n c : Nat) (F : Value) (wh : Bool) (k v : Int) (fs : List Int) (go : Ent → Bool) (ts : List TypeId) (J Jx : List Ent → World → Prop) (W0 W : World)
    (hG : Goes F wh a n c fs go W0 ts J Jx) (hB : Base W0 a n fs) (hW : Below W0.heap.size W0 W) (hJ : J [] W) :
    Calls Tryz.prog 75 #[.agg #[.slice a n c, F, .bool wh], .iface 97 (OpV 5 k v)] W fun e W' => (∃ v, e = .returned v) ∧ ∃ b, Fin wh go W0.heap.size ts J Jx W (stepsT wh fs n 5 k v) [] b W' := by
  have HG : Hid (Goes F wh a n c fs go W0 ts J Jx) := hG
  have HS : Hid (Sits W0.heap.size ts J a n fs W0 W W []) := ⟨hB, hW, hJ, Kp.of_below (Below.refl _ _) hW.size⟩
  clear hG hB hW hJ
  have t1 : ∀ w : World, (Instr.typeAssert (.iface 97 (OpV 5 k v)) 56 93 true).run Tryz.prog w = .ok (.tuple #[OpV 0 0 0, .bool false]) w := fun w => by kernel_rfl
  have t2 : ∀ w : World, (Instr.typeAssert (.iface 97 (OpV 5 k v)) 56 94 true).run Tryz.prog w = .ok (.tuple #[OpV 0 0 0, .bool false]) w := fun w => by kernel_rfl
  have t3 : ∀ w : World, (Instr.typeAssert (.iface 97 (OpV 5 k v)) 56 95 true).run Tryz.prog w = .ok (.tuple #[OpV 0 0 0, .bool false]) w := fun w => by kernel_rfl
  have t4 : ∀ w : World, (Instr.typeAssert (.iface 97 (OpV 5 k v)) 56 96 true).run Tryz.prog w = .ok (.tuple #[OpV 0 0 0, .bool false]) w := fun w => by kernel_rfl
  have t5 : ∀ w : World, (Instr.typeAssert (.iface 97 (OpV 5 k v)) 56 97 true).run Tryz.prog w = .ok (.tuple #[OpV 5 k v, .bool true]) w := fun w => by kernel_rfl
  have hX : Below W.heap.size W ((W.alloc (.cells #[.slice a n c, F, .bool wh] 110)).alloc (.cells #[.int .i64 5, .int .i64 k, .int .i64 v] 97)) := ((Below.refl _ _).alloc (Nat.le_refl _) _).alloc (by simp) _
  have HX : Hid (Below W.heap.size W ((W.alloc (.cells #[.slice a n c, F, .bool wh] 110)).alloc (.cells #[.int .i64 5, .int .i64 k, .int .i64 v] 97))) := hX
  clear hX
  go_enter Tryz.func75, Tryz.ntmps75
  go_wp2_with fail
  obtain ⟨wd, hwd⟩ : ∃ wd, ((W.alloc (.cells #[.slice a n c, F, .bool wh] 110)).alloc (.cells #[.int .i64 5, .int .i64 k, .int .i64 v] 97)).drew = wd := ⟨_, rfl⟩
  have hdd : Below W.heap.size W wd := by rw [← hwd]; exact HX.out.drew
  have HSd : Hid (Sits W0.heap.size ts J a n fs W0 W wd []) := HS.out.on HG.out.gj hdd
  have BT : Hid (wd.heap[W.heap.size]? = some (tellCells a n c F wh) ∧ wd.heap[W.heap.size + 1]? = some (.cells #[.int .i64 5, .int .i64 k, .int .i64 v] 97 (0, 0))) := by
    rw [← hwd]
    refine ⟨(Below.heap_alloc _ _ _ (by simp)).trans (World.alloc_heap_new W _), ?_⟩
    have := World.alloc_heap_new (W.alloc (.cells #[.slice a n c, F, .bool wh] 110)) (.cells #[.int .i64 5, .int .i64 k, .int .i64 v] 97); rw [World.size_alloc] at this; exact this
  have K0 : Hid (wd.cell? ⟨W.heap.size, 0, none⟩ = some (.slice a n c) ∧ wd.cell? ⟨W.heap.size, 1, none⟩ = some F ∧ wd.cell? ⟨W.heap.size, 2, none⟩ = some (.bool wh) ∧ wd.cell? ⟨W.heap.size + 1, 2, none⟩ = some (.int .i64 v)) := ⟨by simp [World.cell?, BT.out.1], by simp [World.cell?, BT.out.1], by simp [World.cell?, BT.out.1], by simp [World.cell?, BT.out.2]⟩
  clear hdd
  go_region_held3 (fun w' => w'.cell? ⟨W.heap.size, 0, none⟩ = some (.slice a n c) ∧ w'.cell? ⟨W.heap.size, 1, none⟩ = some F ∧ w'.cell? ⟨W.heap.size, 2, none⟩ = some (.bool wh) ∧ w'.cell? ⟨W.heap.size + 1, 2, none⟩ = some (.int .i64 v))
    (first | (with_reducible exact K2.out) | (with_reducible exact K1.out) | (with_reducible exact K0.out) | exact hwd ▸ K0.out | go_keep)
    (first
    | (go_at_call 47
       refine (implOwnerAt_any v _ (by first | exact HSd.out.names | exact hwd ▸ HSd.out.names)).mono ?_
       rintro e w1 ⟨rfl, hb1⟩
       have hb1' : Below wd.heap.size wd w1 := by first | exact hb1 | exact hwd ▸ hb1
       have HS1 : Hid (Sits W0.heap.size ts J a n fs W0 W w1 []) := HSd.out.on HG.out.gj hb1'
       have B1 : Hid (w1.heap[W.heap.size]? = some (tellCells a n c F wh) ∧ w1.heap[W.heap.size + 1]? = some (.cells #[.int .i64 5, .int .i64 k, .int .i64 v] 97 (0, 0))) := ⟨(hb1'.block _ (Array.getElem?_eq_some_iff.1 BT.out.1).1).trans BT.out.1, (hb1'.block _ (Array.getElem?_eq_some_iff.1 BT.out.2).1).trans BT.out.2⟩
       have K1 : Hid (w1.cell? ⟨W.heap.size, 0, none⟩ = some (.slice a n c) ∧ w1.cell? ⟨W.heap.size, 1, none⟩ = some F ∧ w1.cell? ⟨W.heap.size, 2, none⟩ = some (.bool wh) ∧ w1.cell? ⟨W.heap.size + 1, 2, none⟩ = some (.int .i64 v)) := ⟨by simp [World.cell?, B1.out.1], by simp [World.cell?, B1.out.1], by simp [World.cell?, B1.out.1], by simp [World.cell?, B1.out.2]⟩
       clear hb1 hb1')
    | (go_at_call 104
       refine (stays_any a n c F wh (placeN 2 v) fs go ts J Jx [] W0 _ HG.out HS1.out.base (by decide) HS1.out.low HS1.out.j).mono ?_
       rintro e w2 ⟨b, rfl, hF⟩
       have HF : Hid (Fin wh go W0.heap.size ts J Jx W [stayS fs n (placeN 2 v)] [] b w2) := Fin.kp HS1.out.kp hF
       have B2 : Hid (w2.heap[W.heap.size]? = some (tellCells a n c F wh) ∧ w2.heap[W.heap.size + 1]? = some (.cells #[.int .i64 5, .int .i64 k, .int .i64 v] 97 (0, 0))) := ⟨hF.kx.keep _ _ _ _ B1.out.1 (HG.out.tt _ (by simp)), hF.kx.keep _ _ _ _ B1.out.2 (HG.out.tt _ (by simp))⟩
       have K2 : Hid (w2.cell? ⟨W.heap.size, 0, none⟩ = some (.slice a n c) ∧ w2.cell? ⟨W.heap.size, 1, none⟩ = some F ∧ w2.cell? ⟨W.heap.size, 2, none⟩ = some (.bool wh) ∧ w2.cell? ⟨W.heap.size + 1, 2, none⟩ = some (.int .i64 v)) := ⟨by simp [World.cell?, B2.out.1], by simp [World.cell?, B2.out.1], by simp [World.cell?, B2.out.1], by simp [World.cell?, B2.out.2]⟩
       clear hF))
  go_wp2
  go_end0
  exact ⟨⟨_, rfl⟩, b, HF.out⟩

theorem words_6 (a : Option Addr) (n c : Nat) (F : Value) (wh : Bool) (k v : Int) (fs : List Int) (go : Ent → Bool) (ts : List TypeId) (J Jx : List Ent → World → Prop) (W0 W : World)
    (hG : Goes F wh a n c fs go W0 ts J Jx) (hB : Base W0 a n fs) (hW : Below W0.heap.size W0 W) (hJ : J [] W) :
    Calls Tryz.prog 75 #[.agg #[.slice a n c, F, .bool wh], .iface 98 (OpV 6 k v)] W fun e W' => (∃ v, e = .returned v) ∧ ∃ b, Fin wh go W0.heap.size ts J Jx W (stepsT wh fs n 6 k v) [] b W' := by
  have HG : Hid (Goes F wh a n c fs go W0 ts J Jx) := hG
  have HS : Hid (Sits W0.heap.size ts J a n fs W0 W W []) := ⟨hB, hW, hJ, Kp.of_below (Below.refl _ _) hW.size⟩
  clear hG hB hW hJ
  have t1 : ∀ w : World, (Instr.typeAssert (.iface 98 (OpV 6 k v)) 56 93 true).run Tryz.prog w = .ok (.tuple #[OpV 0 0 0, .bool false]) w := fun w => by kernel_rfl
  have t2 : ∀ w : World, (Instr.typeAssert (.iface 98 (OpV 6 k v)) 56 94 true).run Tryz.prog w = .ok (.tuple #[OpV 0 0 0, .bool false]) w := fun w => by kernel_rfl
  have t3 : ∀ w : World, (Instr.typeAssert (.iface 98 (OpV 6 k v)) 56 95 true).run Tryz.prog w = .ok (.tuple #[OpV 0 0 0, .bool false]) w := fun w => by kernel_rfl
  have t4 : ∀ w : World, (Instr.typeAssert (.iface 98 (OpV 6 k v)) 56 96 true).run Tryz.prog w = .ok (.tuple #[OpV 0 0 0, .bool false]) w := fun w => by kernel_rfl
  have t5 : ∀ w : World, (Instr.typeAssert (.iface 98 (OpV 6 k v)) 56 97 true).run Tryz.prog w = .ok (.tuple #[OpV 0 0 0, .bool false]) w := fun w => by kernel_rfl
  have t6 : ∀ w : World, (Instr.typeAssert (.iface 98 (OpV 6 k v)) 56 98 true).run Tryz.prog w = .ok (.tuple #[OpV 6 k v, .bool true]) w := fun w => by kernel_rfl
  have hX : Below W.heap.size W ((W.alloc (.cells #[.slice a n c, F, .bool wh] 110)).alloc (.cells #[.int .i64 6, .int .i64 k, .int .i64 v] 98)) := ((Below.refl _ _).alloc (Nat.le_refl _) _).alloc (by simp) _
  have HX : Hid (Below W.heap.size W ((W.alloc (.cells #[.slice a n c, F, .bool wh] 110)).alloc (.cells #[.int .i64 6, .int .i64 k, .int .i64 v] 98))) := hX
  clear hX
  go_enter Tryz.func75, Tryz.ntmps75
  go_wp2_with fail
  obtain ⟨wd, hwd⟩ : ∃ wd, ((W.alloc (.cells #[.slice a n c, F, .bool wh] 110)).alloc (.cells #[.int .i64 6, .int .i64 k, .int .i64 v] 98)).drew = wd := ⟨_, rfl⟩
  have hdd : Below W.heap.size W wd := by rw [← hwd]; exact HX.out.drew
  have HSd : Hid (Sits W0.heap.size ts J a n fs W0 W wd []) := HS.out.on HG.out.gj hdd
  have BT : Hid (wd.heap[W.heap.size]? = some (tellCells a n c F wh) ∧ wd.heap[W.heap.size + 1]? = some (.cells #[.int .i64 6, .int .i64 k, .int .i64 v] 98 (0, 0))) := by
    rw [← hwd]
    refine ⟨(Below.heap_alloc _ _ _ (by simp)).trans (World.alloc_heap_new W _), ?_⟩
    have := World.alloc_heap_new (W.alloc (.cells #[.slice a n c, F, .bool wh] 110)) (.cells #[.int .i64 6, .int .i64 k, .int .i64 v] 98); rw [World.size_alloc] at this; exact this
  have K0 : Hid (wd.cell? ⟨W.heap.size, 0, none⟩ = some (.slice a n c) ∧ wd.cell? ⟨W.heap.size, 1, none⟩ = some F ∧ wd.cell? ⟨W.heap.size, 2, none⟩ = some (.bool wh) ∧ wd.cell? ⟨W.heap.size + 1, 1, none⟩ = some (.int .i64 k)) := ⟨by simp [World.cell?, BT.out.1], by simp [World.cell?, BT.out.1], by simp [World.cell?, BT.out.1], by simp [World.cell?, BT.out.2]⟩
  clear hdd
  go_region_held3 (fun w' => w'.cell? ⟨W.heap.size, 0, none⟩ = some (.slice a n c) ∧ w'.cell? ⟨W.heap.size, 1, none⟩ = some F ∧ w'.cell? ⟨W.heap.size, 2, none⟩ = some (.bool wh) ∧ w'.cell? ⟨W.heap.size + 1, 1, none⟩ = some (.int .i64 k))
    (first | (with_reducible exact K2.out) | (with_reducible exact K1.out) | (with_reducible exact K0.out) | exact hwd ▸ K0.out | go_keep)
    (first
    | (go_at_call 48
       refine (implCountAt_any k _ (by first | exact HSd.out.names | exact hwd ▸ HSd.out.names)).mono ?_
       rintro e w1 ⟨rfl, hb1⟩
       have hb1' : Below wd.heap.size wd w1 := by first | exact hb1 | exact hwd ▸ hb1
       have HS1 : Hid (Sits W0.heap.size ts J a n fs W0 W w1 []) := HSd.out.on HG.out.gj hb1'
       have B1 : Hid (w1.heap[W.heap.size]? = some (tellCells a n c F wh) ∧ w1.heap[W.heap.size + 1]? = some (.cells #[.int .i64 6, .int .i64 k, .int .i64 v] 98 (0, 0))) := ⟨(hb1'.block _ (Array.getElem?_eq_some_iff.1 BT.out.1).1).trans BT.out.1, (hb1'.block _ (Array.getElem?_eq_some_iff.1 BT.out.2).1).trans BT.out.2⟩
       have K1 : Hid (w1.cell? ⟨W.heap.size, 0, none⟩ = some (.slice a n c) ∧ w1.cell? ⟨W.heap.size, 1, none⟩ = some F ∧ w1.cell? ⟨W.heap.size, 2, none⟩ = some (.bool wh) ∧ w1.cell? ⟨W.heap.size + 1, 1, none⟩ = some (.int .i64 k)) := ⟨by simp [World.cell?, B1.out.1], by simp [World.cell?, B1.out.1], by simp [World.cell?, B1.out.1], by simp [World.cell?, B1.out.2]⟩
       clear hb1 hb1')
    | (go_at_call 104
       refine (stays_any a n c F wh (placeN 3 k) fs go ts J Jx [] W0 _ HG.out HS1.out.base (by decide) HS1.out.low HS1.out.j).mono ?_
       rintro e w2 ⟨b, rfl, hF⟩
       have HF : Hid (Fin wh go W0.heap.size ts J Jx W [stayS fs n (placeN 3 k)] [] b w2) := Fin.kp HS1.out.kp hF
       have B2 : Hid (w2.heap[W.heap.size]? = some (tellCells a n c F wh) ∧ w2.heap[W.heap.size + 1]? = some (.cells #[.int .i64 6, .int .i64 k, .int .i64 v] 98 (0, 0))) := ⟨hF.kx.keep _ _ _ _ B1.out.1 (HG.out.tt _ (by simp)), hF.kx.keep _ _ _ _ B1.out.2 (HG.out.tt _ (by simp))⟩
       have K2 : Hid (w2.cell? ⟨W.heap.size, 0, none⟩ = some (.slice a n c) ∧ w2.cell? ⟨W.heap.size, 1, none⟩ = some F ∧ w2.cell? ⟨W.heap.size, 2, none⟩ = some (.bool wh) ∧ w2.cell? ⟨W.heap.size + 1, 1, none⟩ = some (.int .i64 k)) := ⟨by simp [World.cell?, B2.out.1], by simp [World.cell?, B2.out.1], by simp [World.cell?, B2.out.1], by simp [World.cell?, B2.out.2]⟩
       clear hF))
  go_wp2
  go_end0
  exact ⟨⟨_, rfl⟩, b, HF.out⟩

theorem words_7 (a : Option Addr) (n c : Nat) (F : Value) (wh : Bool) (k v : Int) (fs : List Int) (go : Ent → Bool) (ts : List TypeId) (J Jx : List Ent → World → Prop) (W0 W : World)
    (hG : Goes F wh a n c fs go W0 ts J Jx) (hB : Base W0 a n fs) (hW : Below W0.heap.size W0 W) (hJ : J [] W) :
    Calls Tryz.prog 75 #[.agg #[.slice a n c, F, .bool wh], .iface 99 (OpV 7 k v)] W fun e W' => (∃ v, e = .returned v) ∧ ∃ b, Fin wh go W0.heap.size ts J Jx W (stepsT wh fs n 7 k v) [] b W' := by
  have HG : Hid (Goes F wh a n c fs go W0 ts J Jx) := hG
  have HS : Hid (Sits W0.heap.size ts J a n fs W0 W W []) := ⟨hB, hW, hJ, Kp.of_below (Below.refl _ _) hW.size⟩
  clear hG hB hW hJ
  have t1 : ∀ w : World, (Instr.typeAssert (.iface 99 (OpV 7 k v)) 56 93 true).run Tryz.prog w = .ok (.tuple #[OpV 0 0 0, .bool false]) w := fun w => by kernel_rfl
  have t2 : ∀ w : World, (Instr.typeAssert (.iface 99 (OpV 7 k v)) 56 94 true).run Tryz.prog w = .ok (.tuple #[OpV 0 0 0, .bool false]) w := fun w => by kernel_rfl
  have t3 : ∀ w : World, (Instr.typeAssert (.iface 99 (OpV 7 k v)) 56 95 true).run Tryz.prog w = .ok (.tuple #[OpV 0 0 0, .bool false]) w := fun w => by kernel_rfl
  have t4 : ∀ w : World, (Instr.typeAssert (.iface 99 (OpV 7 k v)) 56 96 true).run Tryz.prog w = .ok (.tuple #[OpV 0 0 0, .bool false]) w := fun w => by kernel_rfl
  have t5 : ∀ w : World, (Instr.typeAssert (.iface 99 (OpV 7 k v)) 56 97 true).run Tryz.prog w = .ok (.tuple #[OpV 0 0 0, .bool false]) w := fun w => by kernel_rfl
  have t6 : ∀ w : World, (Instr.typeAssert (.iface 99 (OpV 7 k v)) 56 98 true).run Tryz.prog w = .ok (.tuple #[OpV 0 0 0, .bool false]) w := fun w => by kernel_rfl
  have t7 : ∀ w : World, (Instr.typeAssert (.iface 99 (OpV 7 k v)) 56 99 true).run Tryz.prog w = .ok (.tuple #[OpV 7 k v, .bool true]) w := fun w => by kernel_rfl
  have hX : Below W.heap.size W ((W.alloc (.cells #[.slice a n c, F, .bool wh] 110)).alloc (.cells #[.int .i64 7, .int .i64 k, .int .i64 v] 99)) := ((Below.refl _ _).alloc (Nat.le_refl _) _).alloc (by simp) _
  have HX : Hid (Below W.heap.size W ((W.alloc (.cells #[.slice a n c, F, .bool wh] 110)).alloc (.cells #[.int .i64 7, .int .i64 k, .int .i64 v] 99))) := hX
  clear hX
  go_enter Tryz.func75, Tryz.ntmps75
  go_wp2_with fail
  refine (scan_any a n c F wh fs go ts J Jx [] W0 _ HG.out HS.out.base (by decide) (HS.out.low.trans (HX.out.mono HS.out.low.size)) (HG.out.gj _ _ _ HS.out.j (far_below HX.out none))).mono ?_
  rintro e W' ⟨b, rfl, hF⟩
  have HF : Hid (Fin wh go W0.heap.size ts J Jx ((W.alloc (.cells #[.slice a n c, F, .bool wh] 110)).alloc (.cells #[.int .i64 7, .int .i64 k, .int .i64 v] 99)) (stepsT wh fs n 7 k v) [] b W') := hF
  clear hF
  go_wp2
  go_end0
  exact ⟨⟨_, rfl⟩, b, Fin.kp (Kp.of_below HX.out HS.out.low.size) HF.out⟩

theorem words_8 (a : Option Addr) (n c : Nat) (F : Value) (wh : Bool) (k v : Int) (fs : List Int) (go : Ent → Bool) (ts : List TypeId) (J Jx : List Ent → World → Prop) (W0 W : World)
    (hG : Goes F wh a n c fs go W0 ts J Jx) (hB : Base W0 a n fs) (hW : Below W0.heap.size W0 W) (hJ : J [] W) :
    Calls Tryz.prog 75 #[.agg #[.slice a n c, F, .bool wh], .iface 100 (OpV 8 k v)] W fun e W' => (∃ v, e = .returned v) ∧ ∃ b, Fin wh go W0.heap.size ts J Jx W (stepsT wh fs n 8 k v) [] b W' := by
  have HG : Hid (Goes F wh a n c fs go W0 ts J Jx) := hG
  have HS : Hid (Sits W0.heap.size ts J a n fs W0 W W []) := ⟨hB, hW, hJ, Kp.of_below (Below.refl _ _) hW.size⟩
  clear hG hB hW hJ
  have t1 : ∀ w : World, (Instr.typeAssert (.iface 100 (OpV 8 k v)) 56 93 true).run Tryz.prog w = .ok (.tuple #[OpV 0 0 0, .bool false]) w := fun w => by kernel_rfl
  have t2 : ∀ w : World, (Instr.typeAssert (.iface 100 (OpV 8 k v)) 56 94 true).run Tryz.prog w = .ok (.tuple #[OpV 0 0 0, .bool false]) w := fun w => by kernel_rfl
  have t3 : ∀ w : World, (Instr.typeAssert (.iface 100 (OpV 8 k v)) 56 95 true).run Tryz.prog w = .ok (.tuple #[OpV 0 0 0, .bool false]) w := fun w => by kernel_rfl
  have t4 : ∀ w : World, (Instr.typeAssert (.iface 100 (OpV 8 k v)) 56 96 true).run Tryz.prog w = .ok (.tuple #[OpV 0 0 0, .bool false]) w := fun w => by kernel_rfl
  have t5 : ∀ w : World, (Instr.typeAssert (.iface 100 (OpV 8 k v)) 56 97 true).run Tryz.prog w = .ok (.tuple #[OpV 0 0 0, .bool false]) w := fun w => by kernel_rfl
  have t6 : ∀ w : World, (Instr.typeAssert (.iface 100 (OpV 8 k v)) 56 98 true).run Tryz.prog w = .ok (.tuple #[OpV 0 0 0, .bool false]) w := fun w => by kernel_rfl
  have t7 : ∀ w : World, (Instr.typeAssert (.iface 100 (OpV 8 k v)) 56 99 true).run Tryz.prog w = .ok (.tuple #[OpV 0 0 0, .bool false]) w := fun w => by kernel_rfl
  have t8 : ∀ w : World, (Instr.typeAssert (.iface 100 (OpV 8 k v)) 56 100 true).run Tryz.prog w = .ok (.tuple #[OpV 8 k v, .bool true]) w := fun w => by kernel_rfl
  have hX : Below W.heap.size W ((W.alloc (.cells #[.slice a n c, F, .bool wh] 110)).alloc (.cells #[.int .i64 8, .int .i64 k, .int .i64 v] 100)) := ((Below.refl _ _).alloc (Nat.le_refl _) _).alloc (by simp) _
  have HX : Hid (Below W.heap.size W ((W.alloc (.cells #[.slice a n c, F, .bool wh] 110)).alloc (.cells #[.int .i64 8, .int .i64 k, .int .i64 v] 100))) := hX
  clear hX
  go_enter Tryz.func75, Tryz.ntmps75
  go_wp2_with fail
  obtain ⟨wd, hwd⟩ : ∃ wd, ((W.alloc (.cells #[.slice a n c, F, .bool wh] 110)).alloc (.cells #[.int .i64 8, .int .i64 k, .int .i64 v] 100)).drew = wd := ⟨_, rfl⟩
  have hdd : Below W.heap.size W wd := by rw [← hwd]; exact HX.out.drew
  have HSd : Hid (Sits W0.heap.size ts J a n fs W0 W wd []) := HS.out.on HG.out.gj hdd
  have BT : Hid (wd.heap[W.heap.size]? = some (tellCells a n c F wh) ∧ wd.heap[W.heap.size + 1]? = some (.cells #[.int .i64 8, .int .i64 k, .int .i64 v] 100 (0, 0))) := by
    rw [← hwd]
    refine ⟨(Below.heap_alloc _ _ _ (by simp)).trans (World.alloc_heap_new W _), ?_⟩
    have := World.alloc_heap_new (W.alloc (.cells #[.slice a n c, F, .bool wh] 110)) (.cells #[.int .i64 8, .int .i64 k, .int .i64 v] 100); rw [World.size_alloc] at this; exact this
  have K0 : Hid (wd.cell? ⟨W.heap.size, 0, none⟩ = some (.slice a n c) ∧ wd.cell? ⟨W.heap.size, 1, none⟩ = some F ∧ wd.cell? ⟨W.heap.size, 2, none⟩ = some (.bool wh)) := ⟨by simp [World.cell?, BT.out.1], by simp [World.cell?, BT.out.1], by simp [World.cell?, BT.out.1]⟩
  clear hdd
  go_region_held3 (fun w' => w'.cell? ⟨W.heap.size, 0, none⟩ = some (.slice a n c) ∧ w'.cell? ⟨W.heap.size, 1, none⟩ = some F ∧ w'.cell? ⟨W.heap.size, 2, none⟩ = some (.bool wh))
    (first | (with_reducible exact K2.out) | (with_reducible exact K1.out) | (with_reducible exact K0.out) | exact hwd ▸ K0.out | go_keep)
    (first
    | (go_at_call 45
       refine (implStateAt_any _ (by first | exact HSd.out.names | exact hwd ▸ HSd.out.names)).mono ?_
       rintro e w1 ⟨rfl, hb1⟩
       have hb1' : Below wd.heap.size wd w1 := by first | exact hb1 | exact hwd ▸ hb1
       have HS1 : Hid (Sits W0.heap.size ts J a n fs W0 W w1 []) := HSd.out.on HG.out.gj hb1'
       have B1 : Hid (w1.heap[W.heap.size]? = some (tellCells a n c F wh) ∧ w1.heap[W.heap.size + 1]? = some (.cells #[.int .i64 8, .int .i64 k, .int .i64 v] 100 (0, 0))) := ⟨(hb1'.block _ (Array.getElem?_eq_some_iff.1 BT.out.1).1).trans BT.out.1, (hb1'.block _ (Array.getElem?_eq_some_iff.1 BT.out.2).1).trans BT.out.2⟩
       have K1 : Hid (w1.cell? ⟨W.heap.size, 0, none⟩ = some (.slice a n c) ∧ w1.cell? ⟨W.heap.size, 1, none⟩ = some F ∧ w1.cell? ⟨W.heap.size, 2, none⟩ = some (.bool wh)) := ⟨by simp [World.cell?, B1.out.1], by simp [World.cell?, B1.out.1], by simp [World.cell?, B1.out.1]⟩
       clear hb1 hb1')
    | (go_at_call 106
       refine (grows_any a n c F wh (13) fs go ts J Jx [] W0 _ HG.out HS1.out.base (by decide) HS1.out.low HS1.out.j).mono ?_
       rintro e w2 ⟨b, rfl, hF⟩
       have HF : Hid (Fin wh go W0.heap.size ts J Jx W [growS fs n (13)] [] b w2) := Fin.kp HS1.out.kp hF
       have B2 : Hid (w2.heap[W.heap.size]? = some (tellCells a n c F wh) ∧ w2.heap[W.heap.size + 1]? = some (.cells #[.int .i64 8, .int .i64 k, .int .i64 v] 100 (0, 0))) := ⟨hF.kx.keep _ _ _ _ B1.out.1 (HG.out.tt _ (by simp)), hF.kx.keep _ _ _ _ B1.out.2 (HG.out.tt _ (by simp))⟩
       have K2 : Hid (w2.cell? ⟨W.heap.size, 0, none⟩ = some (.slice a n c) ∧ w2.cell? ⟨W.heap.size, 1, none⟩ = some F ∧ w2.cell? ⟨W.heap.size, 2, none⟩ = some (.bool wh)) := ⟨by simp [World.cell?, B2.out.1], by simp [World.cell?, B2.out.1], by simp [World.cell?, B2.out.1]⟩
       clear hF))
  go_wp2
  go_end0
  exact ⟨⟨_, rfl⟩, b, HF.out⟩

theorem words_9 (a : Option Addr) (n c : Nat) (F : Value) (wh : Bool) (k v : Int) (fs : List Int) (go : Ent → Bool) (ts : List TypeId) (J Jx : List Ent → World → Prop) (W0 W : World)
    (hG : Goes F wh a n c fs go W0 ts J Jx) (hB : Base W0 a n fs) (hW : Below W0.heap.size W0 W) (hJ : J [] W) :
    Calls Tryz.prog 75 #[.agg #[.slice a n c, F, .bool wh], .iface 101 (OpV 9 k v)] W fun e W' => (∃ v, e = .returned v) ∧ ∃ b, Fin wh go W0.heap.size ts J Jx W (stepsT wh fs n 9 k v) [] b W' := by
  have HG : Hid (Goes F wh a n c fs go W0 ts J Jx) := hG
  have HS : Hid (Sits W0.heap.size ts J a n fs W0 W W []) := ⟨hB, hW, hJ, Kp.of_below (Below.refl _ _) hW.size⟩
  clear hG hB hW hJ
  have t1 : ∀ w : World, (Instr.typeAssert (.iface 101 (OpV 9 k v)) 56 93 true).run Tryz.prog w = .ok (.tuple #[OpV 0 0 0, .bool false]) w := fun w => by kernel_rfl
  have t2 : ∀ w : World, (Instr.typeAssert (.iface 101 (OpV 9 k v)) 56 94 true).run Tryz.prog w = .ok (.tuple #[OpV 0 0 0, .bool false]) w := fun w => by kernel_rfl
  have t3 : ∀ w : World, (Instr.typeAssert (.iface 101 (OpV 9 k v)) 56 95 true).run Tryz.prog w = .ok (.tuple #[OpV 0 0 0, .bool false]) w := fun w => by kernel_rfl
  have t4 : ∀ w : World, (Instr.typeAssert (.iface 101 (OpV 9 k v)) 56 96 true).run Tryz.prog w = .ok (.tuple #[OpV 0 0 0, .bool false]) w := fun w => by kernel_rfl
  have t5 : ∀ w : World, (Instr.typeAssert (.iface 101 (OpV 9 k v)) 56 97 true).run Tryz.prog w = .ok (.tuple #[OpV 0 0 0, .bool false]) w := fun w => by kernel_rfl
  have t6 : ∀ w : World, (Instr.typeAssert (.iface 101 (OpV 9 k v)) 56 98 true).run Tryz.prog w = .ok (.tuple #[OpV 0 0 0, .bool false]) w := fun w => by kernel_rfl
  have t7 : ∀ w : World, (Instr.typeAssert (.iface 101 (OpV 9 k v)) 56 99 true).run Tryz.prog w = .ok (.tuple #[OpV 0 0 0, .bool false]) w := fun w => by kernel_rfl
  have t8 : ∀ w : World, (Instr.typeAssert (.iface 101 (OpV 9 k v)) 56 100 true).run Tryz.prog w = .ok (.tuple #[OpV 0 0 0, .bool false]) w := fun w => by kernel_rfl
  have t9 : ∀ w : World, (Instr.typeAssert (.iface 101 (OpV 9 k v)) 56 101 true).run Tryz.prog w = .ok (.tuple #[OpV 9 k v, .bool true]) w := fun w => by kernel_rfl
  have hX : Below W.heap.size W ((W.alloc (.cells #[.slice a n c, F, .bool wh] 110)).alloc (.cells #[.int .i64 9, .int .i64 k, .int .i64 v] 101)) := ((Below.refl _ _).alloc (Nat.le_refl _) _).alloc (by simp) _
  have HX : Hid (Below W.heap.size W ((W.alloc (.cells #[.slice a n c, F, .bool wh] 110)).alloc (.cells #[.int .i64 9, .int .i64 k, .int .i64 v] 101))) := hX
  clear hX
  go_enter Tryz.func75, Tryz.ntmps75
  go_wp2_with fail
  refine (makeNext_any a n c F wh fs go ts J Jx [] W0 _ HG.out HS.out.base (by decide) (HS.out.low.trans (HX.out.mono HS.out.low.size)) (HG.out.gj _ _ _ HS.out.j (far_below HX.out none))).mono ?_
  rintro e W' ⟨b, rfl, hF⟩
  have HF : Hid (Fin wh go W0.heap.size ts J Jx ((W.alloc (.cells #[.slice a n c, F, .bool wh] 110)).alloc (.cells #[.int .i64 9, .int .i64 k, .int .i64 v] 101)) (stepsT wh fs n 9 k v) [] b W') := hF
  clear hF
  go_wp2
  go_end0
  exact ⟨⟨_, rfl⟩, b, Fin.kp (Kp.of_below HX.out HS.out.low.size) HF.out⟩

theorem words_10 (a : Option Addr) (n c : Nat) (F : Value) (wh : Bool) (k v : Int) (fs : List Int) (go : Ent → Bool) (ts : List TypeId) (J Jx : List Ent → World → Prop) (W0 W : World)
    (hG : Goes F wh a n c fs go W0 ts J Jx) (hB : Base W0 a n fs) (hW : Below W0.heap.size W0 W) (hJ : J [] W) :
    Calls Tryz.prog 75 #[.agg #[.slice a n c, F, .bool wh], .iface 102 (OpV 10 k v)] W fun e W' => (∃ v, e = .returned v) ∧ ∃ b, Fin wh go W0.heap.size ts J Jx W (stepsT wh fs n 10 k v) [] b W' := by
  have HG : Hid (Goes F wh a n c fs go W0 ts J Jx) := hG
  have HS : Hid (Sits W0.heap.size ts J a n fs W0 W W []) := ⟨hB, hW, hJ, Kp.of_below (Below.refl _ _) hW.size⟩
  clear hG hB hW hJ
  have t1 : ∀ w : World, (Instr.typeAssert (.iface 102 (OpV 10 k v)) 56 93 true).run Tryz.prog w = .ok (.tuple #[OpV 0 0 0, .bool false]) w := fun w => by kernel_rfl
  have t2 : ∀ w : World, (Instr.typeAssert (.iface 102 (OpV 10 k v)) 56 94 true).run Tryz.prog w = .ok (.tuple #[OpV 0 0 0, .bool false]) w := fun w => by kernel_rfl
  have t3 : ∀ w : World, (Instr.typeAssert (.iface 102 (OpV 10 k v)) 56 95 true).run Tryz.prog w = .ok (.tuple #[OpV 0 0 0, .bool false]) w := fun w => by kernel_rfl
  have t4 : ∀ w : World, (Instr.typeAssert (.iface 102 (OpV 10 k v)) 56 96 true).run Tryz.prog w = .ok (.tuple #[OpV 0 0 0, .bool false]) w := fun w => by kernel_rfl
  have t5 : ∀ w : World, (Instr.typeAssert (.iface 102 (OpV 10 k v)) 56 97 true).run Tryz.prog w = .ok (.tuple #[OpV 0 0 0, .bool false]) w := fun w => by kernel_rfl
  have t6 : ∀ w : World, (Instr.typeAssert (.iface 102 (OpV 10 k v)) 56 98 true).run Tryz.prog w = .ok (.tuple #[OpV 0 0 0, .bool false]) w := fun w => by kernel_rfl
  have t7 : ∀ w : World, (Instr.typeAssert (.iface 102 (OpV 10 k v)) 56 99 true).run Tryz.prog w = .ok (.tuple #[OpV 0 0 0, .bool false]) w := fun w => by kernel_rfl
  have t8 : ∀ w : World, (Instr.typeAssert (.iface 102 (OpV 10 k v)) 56 100 true).run Tryz.prog w = .ok (.tuple #[OpV 0 0 0, .bool false]) w := fun w => by kernel_rfl
  have t9 : ∀ w : World, (Instr.typeAssert (.iface 102 (OpV 10 k v)) 56 101 true).run Tryz.prog w = .ok (.tuple #[OpV 0 0 0, .bool false]) w := fun w => by kernel_rfl
  have t10 : ∀ w : World, (Instr.typeAssert (.iface 102 (OpV 10 k v)) 56 102 true).run Tryz.prog w = .ok (.tuple #[OpV 10 k v, .bool true]) w := fun w => by kernel_rfl
  have hX : Below W.heap.size W ((W.alloc (.cells #[.slice a n c, F, .bool wh] 110)).alloc (.cells #[.int .i64 10, .int .i64 k, .int .i64 v] 102)) := ((Below.refl _ _).alloc (Nat.le_refl _) _).alloc (by simp) _
  have HX : Hid (Below W.heap.size W ((W.alloc (.cells #[.slice a n c, F, .bool wh] 110)).alloc (.cells #[.int .i64 10, .int .i64 k, .int .i64 v] 102))) := hX
  clear hX
  go_enter Tryz.func75, Tryz.ntmps75
  go_wp2_with fail
  refine (findVia_any a n c F wh 10 k v fs go ts J Jx [] W0 _ HG.out HS.out.base (by decide) (HS.out.low.trans (HX.out.mono HS.out.low.size)) (HG.out.gj _ _ _ HS.out.j (far_below HX.out none))).mono ?_
  rintro e W' ⟨b, rfl, hF⟩
  have HF : Hid (Fin wh go W0.heap.size ts J Jx ((W.alloc (.cells #[.slice a n c, F, .bool wh] 110)).alloc (.cells #[.int .i64 10, .int .i64 k, .int .i64 v] 102)) (stepsT wh fs n 10 k v) [] b W') := hF
  clear hF
  go_wp2
  go_end0
  exact ⟨⟨_, rfl⟩, b, Fin.kp (Kp.of_below HX.out HS.out.low.size) HF.out⟩
end
end Go.Proofs.YtenlapppaimkkabGreatDoor
