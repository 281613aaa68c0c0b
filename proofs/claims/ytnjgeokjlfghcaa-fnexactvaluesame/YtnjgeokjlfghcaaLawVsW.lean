/- The law FnExactValueSame, walked from what the program's function is said to answer. -/
import Derived.Test.YtnjgeokjlfghcaaRows
import Derived.Test.YtnjgeokjlfghcaaValL
import Derived.Test.YtnjgeokjlfghcaaSpecVs
import Derived.Test.YtnjgeokjlfghcaaOpenVa
import Derived.OpenShut
import Derived.ChangeOld
import Derived.Below
import Derived.Lib.SmallJoins
import Derived.Deep.RegionHeld3
import Derived.Deep.Cut
namespace Go.Proofs.Ytnjgeokjlfghcaa
open Go.ChangeShapes Go.WideShapes Go.ChangeAt Go.RowKit Go.Joins

namespace fnExactValueSame
theorem own : ownKnob Try.prog.godebug = none := by kernel_rfl
theorem laidOut : laidOutB Try.prog = true := by kernel_rfl
noncomputable def opsA : List Oper := match Try.f5.body with
  | some (.seq _ (.seq _ (.seq _ (.seq _ (.seq _ (.seq _ (.seq (.region _ ops _) _))))))) => ops.toList
  | _ => []
noncomputable def opsB : List Oper := match Try.f5.body with
  | some (.seq _ (.seq _ (.seq _ (.seq _ (.seq _ (.seq _ (.seq _ (.seq (.region _ ops _) _)))))))) => ops.toList
  | _ => []
set_option maxHeartbeats 4000000 in
set_option maxRecDepth 100000 in
theorem walk (k n : Int) (s : ByteArray) (k' n' : Int) (s' : ByteArray) (w : World) (hs : s.size ≤ 9223372036854775807) (hs' : s'.size ≤ 9223372036854775807) (implC : ∀ (k n : Int) (s : ByteArray) (k' n' : Int) (s' : ByteArray) (w : World), Calls Try.prog 13 #[VaV k n s, VaV k' n' s'] w fun e w' => e = .returned (.bool (sameV k n s k' n' s')) ∧ Below w.heap.size w w') :
    Calls Try.prog 5 #[VaV k n s, VaV k' n' s'] w fun e w' => e = .returned (.bool true) ∧ Below w.heap.size w w' := by
  have HC : Hid (∀ (k n : Int) (s : ByteArray) (k' n' : Int) (s' : ByteArray) (w : World), Calls Try.prog 13 #[VaV k n s, VaV k' n' s'] w fun e w' => e = .returned (.bool (sameV k n s k' n' s')) ∧ Below w.heap.size w w') := implC
  obtain ⟨W, hW⟩ : ∃ W, (w.alloc (.cells #[.int .i64 k, .int .i64 n, .string s] 23)).alloc (.cells #[.int .i64 k', .int .i64 n', .string s'] 23) = W := ⟨_, rfl⟩
  have B0 : Hid (Below w.heap.size w W) := by rw [← hW]; exact ((Below.refl _ w).alloc (Nat.le_refl _) _).alloc (by simp) _
  have X0 : Hid (Box W w.heap.size #[.int .i64 k, .int .i64 n, .string s] 23) := by rw [← hW]; exact (box_of w _ _).alloc _
  have X1 : Hid (Box W (w.heap.size + 1) #[.int .i64 k', .int .i64 n', .string s'] 23) := by rw [← hW]; have := box_of (w.alloc (.cells #[.int .i64 k, .int .i64 n, .string s] 23)) #[.int .i64 k', .int .i64 n', .string s'] 23; rwa [World.size_alloc] at this
  have HW : Hid ((w.alloc (.cells #[.int .i64 k, .int .i64 n, .string s] 23)).alloc (.cells #[.int .i64 k', .int .i64 n', .string s'] 23) = W) := hW
  have BX : Hid (∀ y, Below W.heap.size W y → y.cell? ⟨w.heap.size, 0, none⟩ = some (.int .i64 k) ∧ y.cell? ⟨w.heap.size, 1, none⟩ = some (.int .i64 n) ∧ y.cell? ⟨w.heap.size, 2, none⟩ = some (.string s) ∧ y.cell? ⟨w.heap.size + 1, 0, none⟩ = some (.int .i64 k') ∧ y.cell? ⟨w.heap.size + 1, 1, none⟩ = some (.int .i64 n') ∧ y.cell? ⟨w.heap.size + 1, 2, none⟩ = some (.string s')) := fun y hb => by
    obtain ⟨a0, a1, a2⟩ := (X0.out.below hb X0.out.lt).triV
    obtain ⟨b0, b1, b2⟩ := (X1.out.below hb X1.out.lt).triV
    exact ⟨a0, a1, a2, b0, b1, b2⟩
  clear hW implC
  obtain ⟨B, hB⟩ : ∃ B, sameV k n s k' n' s' = B := ⟨_, rfl⟩
  have HB : Hid (sameV k n s k' n' s' = B) := hB
  have nb : (B != B) = false := by simp
  clear hB
  go_enter Try.func5, Try.ntmps5
  go_upto_region 1 with (fail)
  rw [HW.out]
  obtain ⟨c0, c1, c2, c3, c4, c5⟩ := BX.out _ (Below.refl _ _)
  go_wp2_with fail
  refine (szValue_any k n s 1048576 hs (by omega) (by omega) _).mono ?_
  rintro e w1 ⟨rfl, hb1⟩
  have HB1 : Hid (Below W.heap.size W w1) := hb1
  clear hb1 c0 c1 c2 c3 c4 c5
  by_cases hl : (s.size : Int) ≤ 1048576
  rotate_left
  · have HL : Hid (leftV s 1048576 = -1) := if_neg hl
    rw [HL.out]
    go_wp2
    go_ret
    exact ⟨rfl, B0.out.trans (HB1.out.mono B0.out.size)⟩
  have HL : Hid (leftV s 1048576 = 1048576 - s.size) := if_pos hl
  rw [HL.out]
  have h2 : ¬ (1048576 - (s.size : Int) < 0) := by omega
  obtain ⟨c0, c1, c2, c3, c4, c5⟩ := BX.out _ HB1.out
  go_wp2_with fail
  refine (szValue_any k' n' s' (1048576 - s.size) hs' (by omega) (by omega) _).mono ?_
  rintro e w2 ⟨rfl, hb2⟩
  have HB2 : Hid (Below W.heap.size W w2) := HB1.out.trans (hb2.mono HB1.out.size)
  clear hb2 c0 c1 c2 c3 c4 c5
  by_cases hl' : (s'.size : Int) ≤ 1048576 - s.size
  rotate_left
  · have HL2 : Hid (leftV s' (1048576 - s.size) = -1) := if_neg hl'
    rw [HL2.out]
    go_wp2
    go_ret
    exact ⟨rfl, B0.out.trans (HB2.out.mono B0.out.size)⟩
  have HL2 : Hid (leftV s' (1048576 - s.size) = 1048576 - s.size - s'.size) := if_pos hl'
  rw [HL2.out]
  have h3 : ¬ (1048576 - (s.size : Int) - (s'.size : Int) < 0) := by omega
  go_upto_region 8 with (fail)
  have KS2 : Hid (w2.drew.cell? ⟨w.heap.size, 0, none⟩ = some (.int .i64 k) ∧ w2.drew.cell? ⟨w.heap.size, 1, none⟩ = some (.int .i64 n) ∧ w2.drew.cell? ⟨w.heap.size, 2, none⟩ = some (.string s) ∧ w2.drew.cell? ⟨w.heap.size + 1, 0, none⟩ = some (.int .i64 k') ∧ w2.drew.cell? ⟨w.heap.size + 1, 1, none⟩ = some (.int .i64 n') ∧ w2.drew.cell? ⟨w.heap.size + 1, 2, none⟩ = some (.string s')) := BX.out _ (HB2.out.drew)
  change (Code.region _ (List.toArray opsA) true).wp _ _ _ _
  refine wp_region_held_drew (S := fun w' => w'.cell? ⟨w.heap.size, 0, none⟩ = some (.int .i64 k) ∧ w'.cell? ⟨w.heap.size, 1, none⟩ = some (.int .i64 n) ∧ w'.cell? ⟨w.heap.size, 2, none⟩ = some (.string s) ∧ w'.cell? ⟨w.heap.size + 1, 0, none⟩ = some (.int .i64 k') ∧ w'.cell? ⟨w.heap.size + 1, 1, none⟩ = some (.int .i64 n') ∧ w'.cell? ⟨w.heap.size + 1, 2, none⟩ = some (.string s')) (by kernel_rfl) ?_ (fun hHeld => ?_)
  · exact KS2.out
  refine wpAnyH_take (i := 0) (oi := _) (v := .agg #[.int .i64 k, .int .i64 n, .string s]) (by rw [List.getElem?_toArray]; exact rfl) (by kernel_rfl) (by kernel_rfl) (by kernel_rfl) (by intro _ _ _ h; exact h) (Or.inl ⟨by kernel_rfl, ?_⟩) hHeld ?_
  · intro w hSw; obtain ⟨s0, s1, s2, r0, r1, r2⟩ := hSw; go_simp
  (try simp only [Act.put, List.setIfInBounds_toArray, List.set_cons_zero, List.set_cons_succ])
  refine wpAnyH_take (i := 2) (oi := _) (v := .agg #[.int .i64 k', .int .i64 n', .string s']) (by rw [List.getElem?_toArray]; exact rfl) (by kernel_rfl) (by kernel_rfl) (by kernel_rfl) (by intro _ _ _ h; exact h) (Or.inl ⟨by kernel_rfl, ?_⟩) hHeld ?_
  · intro w hSw; obtain ⟨s0, s1, s2, r0, r1, r2⟩ := hSw; go_simp
  (try simp only [Act.put, List.setIfInBounds_toArray, List.set_cons_zero, List.set_cons_succ])
  refine wpAnyH_ready (rs := [1]) (by kernel_rfl) (by simp) ?_
  refine AllReadyH.cons (o := _) (by rw [List.getElem?_toArray]; exact rfl) (fun K hK => ?_) AllReadyH.nil
  rw [if_pos (by kernel_rfl)]
  go_simp
  refine (toValue_any k n s _).mono ?_
  rintro e w3 ⟨rfl, hb⟩
  have hb3 : Below W.heap.size W w3 := HB2.out.drew.trans (hb.mono HB2.out.size)
  have HB3 : Hid (Below W.heap.size W w3) := hb3
  refine hK.out _ _ (BX.out _ hb3) (fun hHeld => ?_)
  clear hb hb3
  clear hK K
  (try simp only [Act.put, List.setIfInBounds_toArray, List.set_cons_zero, List.set_cons_succ])
  refine wpAnyH_ready (rs := [3]) (by kernel_rfl) (by simp) ?_
  refine AllReadyH.cons (o := _) (by rw [List.getElem?_toArray]; exact rfl) (fun K hK => ?_) AllReadyH.nil
  rw [if_pos (by kernel_rfl)]
  go_simp
  refine (toValue_any k' n' s' _).mono ?_
  rintro e w4 ⟨rfl, hb⟩
  have hb4 : Below W.heap.size W w4 := HB3.out.trans (hb.mono HB3.out.size)
  have HB4 : Hid (Below W.heap.size W w4) := hb4
  refine hK.out _ _ (BX.out _ hb4) (fun hHeld => ?_)
  clear hb hb4
  clear hK K
  (try simp only [Act.put, List.setIfInBounds_toArray, List.set_cons_zero, List.set_cons_succ])
  refine wpAnyH_ready (rs := [4]) (by kernel_rfl) (by simp) ?_
  refine AllReadyH.cons (o := _) (by rw [List.getElem?_toArray]; exact rfl) (fun K hK => ?_) AllReadyH.nil
  rw [if_pos (by kernel_rfl)]
  go_simp
  refine (specValueSame_any k n s k' n' s' _).mono ?_
  rintro e w5 ⟨rfl, hb⟩
  rw [HB.out]
  have hb5 : Below W.heap.size W w5 := HB4.out.trans (hb.mono HB4.out.size)
  have HB5 : Hid (Below W.heap.size W w5) := hb5
  refine hK.out _ _ (BX.out _ hb5) (fun hHeld => ?_)
  clear hb
  clear hK K
  (try simp only [Act.put, List.setIfInBounds_toArray, List.set_cons_zero, List.set_cons_succ])
  refine wpAnyH_ready (rs := [5]) (by kernel_rfl) (by simp) ?_
  refine AllReadyH.cons (o := _) (by rw [List.getElem?_toArray]; exact rfl) (fun K hK => ?_) AllReadyH.nil
  rw [if_pos (by kernel_rfl)]
  go_simp
  refine hK.out _ _ (BX.out _ hb5) (fun hHeld => ?_)
  clear hb5
  clear hK K
  (try simp only [Act.put, List.setIfInBounds_toArray, List.set_cons_zero, List.set_cons_succ])
  refine wpAnyH_done (by kernel_rfl) ?_ _
  clear hHeld
  go_upto_region 9 with (fail)
  have KS5 : Hid (w5.drew.cell? ⟨w.heap.size, 0, none⟩ = some (.int .i64 k) ∧ w5.drew.cell? ⟨w.heap.size, 1, none⟩ = some (.int .i64 n) ∧ w5.drew.cell? ⟨w.heap.size, 2, none⟩ = some (.string s) ∧ w5.drew.cell? ⟨w.heap.size + 1, 0, none⟩ = some (.int .i64 k') ∧ w5.drew.cell? ⟨w.heap.size + 1, 1, none⟩ = some (.int .i64 n') ∧ w5.drew.cell? ⟨w.heap.size + 1, 2, none⟩ = some (.string s')) := BX.out _ (HB5.out.drew)
  change (Code.region _ (List.toArray opsB) true).wp _ _ _ _
  refine wp_region_held_drew (S := fun w' => w'.cell? ⟨w.heap.size, 0, none⟩ = some (.int .i64 k) ∧ w'.cell? ⟨w.heap.size, 1, none⟩ = some (.int .i64 n) ∧ w'.cell? ⟨w.heap.size, 2, none⟩ = some (.string s) ∧ w'.cell? ⟨w.heap.size + 1, 0, none⟩ = some (.int .i64 k') ∧ w'.cell? ⟨w.heap.size + 1, 1, none⟩ = some (.int .i64 n') ∧ w'.cell? ⟨w.heap.size + 1, 2, none⟩ = some (.string s')) (by kernel_rfl) ?_ (fun hHeld => ?_)
  · exact KS5.out
  refine wpAnyH_take (i := 0) (oi := _) (v := .agg #[.int .i64 k, .int .i64 n, .string s]) (by rw [List.getElem?_toArray]; exact rfl) (by kernel_rfl) (by kernel_rfl) (by kernel_rfl) (by intro _ _ _ h; exact h) (Or.inl ⟨by kernel_rfl, ?_⟩) hHeld ?_
  · intro w hSw; obtain ⟨s0, s1, s2, r0, r1, r2⟩ := hSw; go_simp
  (try simp only [Act.put, List.setIfInBounds_toArray, List.set_cons_zero, List.set_cons_succ])
  refine wpAnyH_take (i := 2) (oi := _) (v := .agg #[.int .i64 k', .int .i64 n', .string s']) (by rw [List.getElem?_toArray]; exact rfl) (by kernel_rfl) (by kernel_rfl) (by kernel_rfl) (by intro _ _ _ h; exact h) (Or.inl ⟨by kernel_rfl, ?_⟩) hHeld ?_
  · intro w hSw; obtain ⟨s0, s1, s2, r0, r1, r2⟩ := hSw; go_simp
  (try simp only [Act.put, List.setIfInBounds_toArray, List.set_cons_zero, List.set_cons_succ])
  refine wpAnyH_ready (rs := [1]) (by kernel_rfl) (by simp) ?_
  refine AllReadyH.cons (o := _) (by rw [List.getElem?_toArray]; exact rfl) (fun K hK => ?_) AllReadyH.nil
  rw [if_pos (by kernel_rfl)]
  go_simp
  refine (toValue_any k n s _).mono ?_
  rintro e w6 ⟨rfl, hb⟩
  have hb6 : Below W.heap.size W w6 := HB5.out.drew.trans (hb.mono HB5.out.size)
  have HB6 : Hid (Below W.heap.size W w6) := hb6
  refine hK.out _ _ (BX.out _ hb6) (fun hHeld => ?_)
  clear hb hb6
  clear hK K
  (try simp only [Act.put, List.setIfInBounds_toArray, List.set_cons_zero, List.set_cons_succ])
  refine wpAnyH_ready (rs := [3]) (by kernel_rfl) (by simp) ?_
  refine AllReadyH.cons (o := _) (by rw [List.getElem?_toArray]; exact rfl) (fun K hK => ?_) AllReadyH.nil
  rw [if_pos (by kernel_rfl)]
  go_simp
  refine (toValue_any k' n' s' _).mono ?_
  rintro e w7 ⟨rfl, hb⟩
  have hb7 : Below W.heap.size W w7 := HB6.out.trans (hb.mono HB6.out.size)
  have HB7 : Hid (Below W.heap.size W w7) := hb7
  refine hK.out _ _ (BX.out _ hb7) (fun hHeld => ?_)
  clear hb hb7
  clear hK K
  (try simp only [Act.put, List.setIfInBounds_toArray, List.set_cons_zero, List.set_cons_succ])
  refine wpAnyH_ready (rs := [4]) (by kernel_rfl) (by simp) ?_
  refine AllReadyH.cons (o := _) (by rw [List.getElem?_toArray]; exact rfl) (fun K hK => ?_) AllReadyH.nil
  rw [if_pos (by kernel_rfl)]
  go_simp
  refine (HC.out k n s k' n' s' _).mono ?_
  rintro e w8 ⟨rfl, hb⟩
  rw [HB.out]
  have hb8 : Below W.heap.size W w8 := HB7.out.trans (hb.mono HB7.out.size)
  have HB8 : Hid (Below W.heap.size W w8) := hb8
  refine hK.out _ _ (BX.out _ hb8) (fun hHeld => ?_)
  clear hb
  clear hK K
  (try simp only [Act.put, List.setIfInBounds_toArray, List.set_cons_zero, List.set_cons_succ])
  refine wpAnyH_ready (rs := [5]) (by kernel_rfl) (by simp) ?_
  refine AllReadyH.cons (o := _) (by rw [List.getElem?_toArray]; exact rfl) (fun K hK => ?_) AllReadyH.nil
  rw [if_pos (by kernel_rfl)]
  go_simp
  refine hK.out _ _ (BX.out _ hb8) (fun hHeld => ?_)
  clear hb8
  clear hK K
  (try simp only [Act.put, List.setIfInBounds_toArray, List.set_cons_zero, List.set_cons_succ])
  refine wpAnyH_done (by kernel_rfl) ?_ _
  clear hHeld
  go_wp2
  go_ret
  exact ⟨rfl, B0.out.trans (HB8.out.mono B0.out.size)⟩
/-- What the law asks of the program's function. -/
def Asked : Prop := ∀ (k n : Int) (s : ByteArray) (k' n' : Int) (s' : ByteArray) (w : World), Calls Try.prog 13 #[VaV k n s, VaV k' n' s'] w fun e w' => e = .returned (.bool (sameV k n s k' n' s')) ∧ Below w.heap.size w w'
set_option maxRecDepth 100000 in
theorem lifted (implC : Asked) (os : Os) (started : os.Started) (H : Type) (enc : TypeId × Value → H) :
    ReturnsInHanded {} Try.checked os 5 .any (Rows.fnExactValueSameSpec.pre6 enc Try.prog Try.f5 Rows.fnExactValueSameRow.domain false) (Rows.fnExactValueSameSpec.post enc Try.prog Try.f5 false true false false) := by
  refine returnsInHanded_of_change (C := Try.checked) own started (by kernel_rfl) Try.func5
    (ChangeSpec.witness6 (enc := enc) (C := Try.checked) false ⟨#[], #[.agg #[.int .i64 0, .int .i64 0, .string ⟨#[]⟩], .agg #[.int .i64 0, .int .i64 0, .string ⟨#[]⟩]], []⟩ 8 (by kernel_rfl) (by kernel_rfl) (by kernel_rfl) (by kernel_rfl)) ?_
  intro W base args ds gs before hval0 hW hcnd _
  have hval : ∀ (j : Nat) t v, Try.f5.params[j]? = some t → args[j]? = some v → Value.okWide Try.prog W .any base t v := hval0
  have hW' := hW
  obtain ⟨p, q, hA0, hV, rfl, hfz, hnd⟩ := hW
  have hA : DataW.TrodAll enc Try.prog W 0 (fun _ => true) true Try.f5.params.toList args.toList ds p := hA0
  rw [Try.params5] at hA hval
  obtain ⟨v0, v1, d0, d1, p0, p1, rfl, rfl, rfl, h0, h1⟩ := trodAll_two hA
  obtain ⟨rfl, rfl⟩ := trodVars_none hV
  have k0 := h0
  have k1 := h1
  have lt0 : ∀ x ∈ p0, x.block < W.heap.size := by obtain ⟨m, hm⟩ := k0; exact DataW.trod_lt m _ _ _ hm
  have lt1 : ∀ x ∈ p1, x.block < W.heap.size := by obtain ⟨m, hm⟩ := k1; exact DataW.trod_lt m _ _ _ hm
  obtain ⟨k, n, s, rfl, hs, _, _⟩ := open_va (hval 0 23 v0 rfl rfl) h0
  obtain ⟨k', n', s', rfl, hs', _, _⟩ := open_va (hval 1 23 v1 rfl rfl) h1
  refine (walk k n s k' n' s' W hs hs' implC).mono fun e W' ⟨he, bel⟩ => ?_
  subst he
  exact ⟨_, rfl, _, _, _, [], _, [], hW', trodAll_mk1 (shut_bool Try.underlying4 _), (trodAll_cons_mk (Below.trod laidOut (by kernel_rfl) (of_decide_eq_true (by kernel_rfl)) k0 bel lt0) (trodAll_cons_mk (Below.trod laidOut (by kernel_rfl) (of_decide_eq_true (by kernel_rfl)) k1 bel lt1) trodAll_mk0)), rfl, bel.frame _, fun h => by cases h⟩
theorem over (implC : Asked) : Rows.FnExactValueSameSaid :=
  OpenClaim.holds_of_wide 5 Try.f5 rfl rfl rfl rfl rfl rfl rfl ⟨rfl, rfl, rfl, rfl, rfl⟩ rfl rfl rfl rfl rfl (by kernel_rfl) Try.func5 (by kernel_rfl)
    (of_decide_eq_true (by kernel_rfl)) (by unfold Func.isWrapper; first | (rw [if_pos (by decide +kernel)]; kernel_rfl) | (rw [if_neg (by decide +kernel)]; exact ⟨rfl, rfl⟩))
    (fun os started H enc _ => lifted implC os started H enc)
end fnExactValueSame
end Go.Proofs.Ytnjgeokjlfghcaa
