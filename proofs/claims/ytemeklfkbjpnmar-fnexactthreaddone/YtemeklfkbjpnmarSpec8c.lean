/- The specification's Push. -/
import Derived.Test.YtemeklfkbjpnmarSpec8b
namespace Go.Proofs.Ytemeklfkbjpnmar
open Go.ChangeShapes Go.WideShapes Go.ChangeAt Go.RowKit Go.Joins

noncomputable def pushL : List Oper := match Try.f29.body with
  | some (.seq _ (.seq _ (.seq (.region _ ops _) _))) => ops.toList
  | _ => []
/-- One struct of four numbers in a block of its own is a list of one. -/
theorem one_kAt {w : World} {q : Nat} {h : Nat → Int} {T : TypeId} (b : Box w q #[.int .i64 (h 0), .int .i64 (h 1), .int .i64 (h 2), .int .i64 (h 3)] T) : KAt 4 w (some ⟨q, 0, none⟩) 1 (helpL h) := by
  obtain ⟨x0, x1, x2, x3, -⟩ := b.four
  refine ⟨rfl, by omega, .inr ⟨q, 0, rfl, fun i hi => ?_⟩⟩
  rcases (show i = 0 ∨ i = 1 ∨ i = 2 ∨ i = 3 by omega) with rfl | rfl | rfl | rfl
  · exact x0
  · exact x1
  · exact x2
  · exact x3
/-- What holds while Push's own list is made. -/
structure PI (W1 : World) (g n2 : Nat) (hs : List Int) (h : Nat → Int) (b0 b3 b5 b6 b7 : Bool) (s8 s11 s13 s14 s15 x : Value) (w : World) : Prop where
  bel : Below W1.heap.size W1 w
  way : b6 = false → Way 62 4 W1.heap.size n2 hs w b0 b3 s8 s11 x
  one : b6 = false → b5 = true → ∃ q, s13 = .slice (some ⟨q, 0, none⟩) 1 1 ∧ Box w q #[.int .i64 (h 0), .int .i64 (h 1), .int .i64 (h 2), .int .i64 (h 3)] 62 ∧ x.ownBlock ≠ some q
  dep : b6 = true → b0 = true ∧ b3 = true ∧ b5 = true
  fin : b6 = true → w.ownsRow W1.heap.size 62 4 s14 (n2 + 1) ((hs ++ helpL h).map I)
  adr : b7 = true → b6 = true ∧ s15 = .pointer (some ⟨g, 4, none⟩)
def PR (W1 : World) (sz g : Nat) (a0 a1 a2 p0 p1 p2 : Option Addr) (c0 c1 c2 d0 d1 d2 n0 n1 n2 : Nat) (hs : List Int) (pc : Int) (on : Bool) (h : Nat → Int) (l : Array Bool) (a : Act) (w : World) : Prop :=
  ∃ (b0 b3 b5 b6 b7 : Bool) (s8 s11 s13 s14 s15 x : Value), l = #[b0, true, true, b3, true, b5, b6, b7, false] ∧ a = ⟨#[ThV (.slice a0 n0 c0) (.slice a1 n1 c1) (.slice a2 n2 c2) pc on, HelpV h, .pointer (some ⟨sz, 0, none⟩), .pointer (some ⟨sz + 1, 0, none⟩), .pointer (some ⟨sz + 1 + 1, 0, none⟩), .pointer (some ⟨g, 0, none⟩), .agg #[.slice a0 n0 c0, .int .i64 pc, .bool on, .slice a1 n1 c1, .slice a2 n2 c2], ThV (.slice p0 n0 d0) (.slice p1 n1 d1) (.slice p2 n2 d2) pc on, s8, .pointer (some ⟨sz, 4, none⟩), .slice a2 n2 c2, s11, .agg #[.int .i64 (h 0), .int .i64 (h 1), .int .i64 (h 2), .int .i64 (h 3)], s13, s14, s15, undef], []⟩ ∧ PI W1 g n2 hs h b0 b3 b5 b6 b7 s8 s11 s13 s14 s15 x w
theorem no_of {a b : Bool} (h : a = true → b = true) (hb : b = false) : a = false := by
  cases a with
  | false => rfl
  | true => have := h rfl; rw [hb] at this; cases this
set_option maxHeartbeats 4000000 in
set_option maxRecDepth 100000 in
theorem specPush_any (v0 v1 v2 : Value) (t : TD) (h : Nat → Int) (w : World) (hT : ThAt w v0 v1 v2 t) :
    Calls Try.prog 29 #[ThV v0 v1 v2 t.pc t.on, HelpV h] w (ThAns w (t.push h)) := by
  obtain ⟨T', hT'⟩ : ∃ T', t.push h = T' := ⟨_, rfl⟩
  rw [hT']
  have HT : Hid (t.push h = T') := hT'
  clear hT'
  obtain ⟨⟨a0, c0, rfl, e0, h0⟩, ⟨a1, c1, rfl, e1, h1⟩, ⟨a2, c2, rfl, e2, h2⟩⟩ := hT
  obtain ⟨n0, fs, pc, on, n1, gs, n2, hs⟩ := t
  simp only at h0 h1 h2 ⊢
  have m2 := h2.2.1
  obtain ⟨i0, hi0, hz0, hz1, hz2⟩ := info_parts kInfoHelp
  obtain ⟨sz, hsz⟩ : ∃ sz, w.heap.size = sz := ⟨_, rfl⟩
  obtain ⟨W, hW⟩ : ∃ W, ((w.alloc (.cells #[.slice a0 n0 c0, .int .i64 pc, .bool on, .slice a1 n1 c1, .slice a2 n2 c2] 46)).alloc (.cells #[.int .i64 (h 0), .int .i64 (h 1), .int .i64 (h 2), .int .i64 (h 3)] 62)).alloc (.cells #[.slice none 0 0, .int .i64 0, .bool false, .slice none 0 0, .slice none 0 0] 46) = W := ⟨_, rfl⟩
  have hWs : W.heap.size = sz + 3 := by rw [← hW, ← hsz]; simp
  have hb0 : Below sz w W := by rw [← hW, ← hsz]; exact (((Below.refl _ w).alloc (Nat.le_refl _) _).alloc (by simp) _).alloc (by simp; omega) _
  have X0 : Hid (Box W sz #[.slice a0 n0 c0, .int .i64 pc, .bool on, .slice a1 n1 c1, .slice a2 n2 c2] 46) := by rw [← hW, ← hsz]; exact ((box_of w _ _).alloc _).alloc _
  have XH : Hid (Box W (sz + 1) #[.int .i64 (h 0), .int .i64 (h 1), .int .i64 (h 2), .int .i64 (h 3)] 62) := by rw [← hW, ← hsz]; exact (box_two w _ _ _).alloc _
  have XR : Hid (Box W (sz + 1 + 1) #[.slice none 0 0, .int .i64 0, .bool false, .slice none 0 0, .slice none 0 0] 46) := by rw [← hW, ← hsz]; exact box_three w _ _ _ _
  have HW : Hid _ := hW
  have HSZ : Hid (w.heap.size = sz) := hsz
  have HB0 : Hid (Below sz w W) := hb0
  have HWS : Hid (W.heap.size = sz + 3) := hWs
  have HK : Hid (ThAt W (.slice a0 n0 c0) (.slice a1 n1 c1) (.slice a2 n2 c2) ⟨n0, fs, pc, on, n1, gs, n2, hs⟩) := ⟨⟨a0, c0, rfl, e0, h0.below hb0 (by omega)⟩, ⟨a1, c1, rfl, e1, h1.below hb0 (by omega)⟩, ⟨a2, c2, rfl, e2, h2.below hb0 (by omega)⟩⟩
  have HE2 : Hid (a2 = none → c2 = 0) := e2.1
  have HM : Hid (KAt 4 W a2 n2 hs) := h2.below hb0 (by omega)
  clear h0 h1 h2 hW hb0 hsz hWs e0 e1 e2
  go_enter Try.func29, Try.ntmps29
  go_wp2_with fail
  rw [HW.out]
  (try rw [HSZ.out])
  refine (l8Copy_any _ _ _ ⟨n0, fs, pc, on, n1, gs, n2, hs⟩ W HK.out).mono ?_
  rintro e w1 ⟨v0, v1, v2, rfl, tO, hb1⟩
  obtain ⟨p0, d0, rfl, -⟩ := owns_slice tO.ops
  obtain ⟨p1, d1, rfl, -⟩ := owns_slice tO.got
  obtain ⟨p2, d2, rfl, -⟩ := owns_slice tO.stk
  simp only at tO ⊢
  obtain ⟨g, hg⟩ : ∃ g, w1.heap.size = g := ⟨_, rfl⟩
  obtain ⟨W1, hW1⟩ : ∃ W1, w1.alloc (.cells #[.slice p0 n0 d0, .int .i64 pc, .bool on, .slice p1 n1 d1, .slice p2 n2 d2] 46) = W1 := ⟨_, rfl⟩
  have hx1 : Below w1.heap.size w1 W1 := by rw [← hW1]; exact (Below.refl _ _).alloc (Nat.le_refl _) _
  have hW1s : W1.heap.size = g + 1 := by rw [← hW1, ← hg]; simp
  have hlg : W.heap.size ≤ g := by rw [← hg]; exact hb1.size
  have hb1' : Below W.heap.size W W1 := hb1.trans (hx1.mono hb1.size)
  have HB1 : Hid (Below W.heap.size W W1) := hb1'
  have Y0 : Hid (Box W1 sz _ _) := X0.out.below hb1' X0.out.lt
  have YH : Hid (Box W1 (sz + 1) _ _) := XH.out.below hb1' XH.out.lt
  have YR : Hid (Box W1 (sz + 1 + 1) _ _) := XR.out.below hb1' XR.out.lt
  have YO : Hid (Box W1 g #[.slice p0 n0 d0, .int .i64 pc, .bool on, .slice p1 n1 d1, .slice p2 n2 d2] 46) := by rw [← hW1, ← hg]; exact box_of w1 _ _
  have TO : Hid (ThO W1 W.heap.size (.slice p0 n0 d0) (.slice p1 n1 d1) (.slice p2 n2 d2) ⟨n0, fs, pc, on, n1, gs, n2, hs⟩) := tO.below hx1 (Nat.le_refl _)
  have BLK : Hid (∀ k, In3 (.slice p0 n0 d0) (.slice p1 n1 d1) (.slice p2 n2 d2) k → W.heap.size ≤ k ∧ k < g) := fun k hk => by rw [← hg]; exact tO.blk hk
  have HW1 : Hid _ := hW1
  have HG : Hid (w1.heap.size = g) := hg
  have hWz := HWS.out
  have HW1S : Hid (W1.heap.size = g + 1) := hW1s
  clear hb1 tO hx1 hW1 hb1' hg hW1s
  go_upto_region 2 with (fail)
  rw [HW1.out]
  (try rw [HG.out])
  obtain ⟨y0, y1, y2, y3, y4, -⟩ := YO.out.five
  obtain ⟨q0, q1, q2, q3, q4, -⟩ := Y0.out.five
  obtain ⟨j0, j1, j2, j3, -⟩ := YH.out.four
  obtain ⟨r0, r1, r2, r3, r4, f0, f1, f2, f3, f4⟩ := YR.out.five
  have BOX : Hid (∀ w', Below W1.heap.size W1 w' → w'.cell? ⟨sz, 4, none⟩ = some (.slice a2 n2 c2) ∧ w'.cell? ⟨sz + 1, 0, none⟩ = some (.int .i64 (h 0)) ∧ w'.cell? ⟨sz + 1, 1, none⟩ = some (.int .i64 (h 1)) ∧ w'.cell? ⟨sz + 1, 2, none⟩ = some (.int .i64 (h 2)) ∧ w'.cell? ⟨sz + 1, 3, none⟩ = some (.int .i64 (h 3))) := fun w' hb => by
    obtain ⟨k0, k1, k2, k3, k4, _⟩ := (Y0.out.below hb Y0.out.lt).five
    obtain ⟨l0, l1, l2, l3, _⟩ := (YH.out.below hb YH.out.lt).four
    exact ⟨k4, l0, l1, l2, l3⟩
  clear y0 y1 y2 y3 y4 q0 q1 q2 q3 q4 j0 j1 j2 j3 r0 r1 r2 r3 r4 f0 f1 f2 f3 f4
  change (Code.region _ (List.toArray pushL) true).wp _ _ _ _
  refine wp_region_held_drew (S := fun w' => w'.cell? ⟨sz, 4, none⟩ = some (.slice a2 n2 c2) ∧ w'.cell? ⟨sz + 1, 0, none⟩ = some (.int .i64 (h 0)) ∧ w'.cell? ⟨sz + 1, 1, none⟩ = some (.int .i64 (h 1)) ∧ w'.cell? ⟨sz + 1, 2, none⟩ = some (.int .i64 (h 2)) ∧ w'.cell? ⟨sz + 1, 3, none⟩ = some (.int .i64 (h 3))) (by kernel_rfl) ?_ (fun hHeld => ?_)
  · exact BOX.out _ (Below.refl _ _).drew
  refine wpAnyH_take (i := 1) (oi := _) (v := .pointer (some ⟨sz, 4, none⟩)) (by rw [List.getElem?_toArray]; exact rfl) (by kernel_rfl) (by kernel_rfl) (by kernel_rfl) (by intro _ _ _ h; exact h) (Or.inl ⟨by kernel_rfl, ?_⟩) hHeld ?_
  · intro w hSw; obtain ⟨u1, u2, u3, u4, u5⟩ := hSw; go_simp
  (try simp only [Act.put, List.setIfInBounds_toArray, List.set_cons_zero, List.set_cons_succ])
  refine wpAnyH_take (i := 2) (oi := _) (v := .slice a2 n2 c2) (by rw [List.getElem?_toArray]; exact rfl) (by kernel_rfl) (by kernel_rfl) (by kernel_rfl) (by intro _ _ _ h; exact h) (Or.inl ⟨by kernel_rfl, ?_⟩) hHeld ?_
  · intro w hSw; obtain ⟨u1, u2, u3, u4, u5⟩ := hSw; go_simp
  (try simp only [Act.put, List.setIfInBounds_toArray, List.set_cons_zero, List.set_cons_succ])
  refine wpAnyH_take (i := 4) (oi := _) (v := .agg #[.int .i64 (h 0), .int .i64 (h 1), .int .i64 (h 2), .int .i64 (h 3)]) (by rw [List.getElem?_toArray]; exact rfl) (by kernel_rfl) (by kernel_rfl) (by kernel_rfl) (by intro _ _ _ h; exact h) (Or.inl ⟨by kernel_rfl, ?_⟩) hHeld ?_
  · intro w hSw; obtain ⟨u1, u2, u3, u4, u5⟩ := hSw; go_simp
  (try simp only [Act.put, List.setIfInBounds_toArray, List.set_cons_zero, List.set_cons_succ])
  refine wpAnyH_inv (z := 8) (R := PR W1 sz g a0 a1 a2 p0 p1 p2 c0 c1 c2 d0 d1 d2 n0 n1 n2 hs pc on h) (by kernel_rfl) ?_ (of_decide_eq_true (by kernel_rfl)) (waits_at (by kernel_rfl)) ?_ ?_ _ _ _ _ (by kernel_rfl) (of_decide_eq_true (by kernel_rfl)) (by kernel_rfl) (by kernel_rfl) ?_
  · rintro l a w' ⟨b0, b3, b5, b6, b7, s8, s11, s13, s14, s15, x, rfl, rfl, J⟩
    exact BOX.out _ J.bel
  · rw [show (List.range (List.toArray pushL).size).filter (· != 8) = [0, 1, 2, 3, 4, 5, 6, 7] by kernel_rfl]
    refine StepAll.cons (o := _) (by rw [List.getElem?_toArray]; exact rfl) ?_ ?_
    · rintro K' l a wx ⟨b0, b3, b5, b6, b7, s8, s11, s13, s14, s15, x, rfl, rfl, J⟩ hf he hK
      have hb : b0 = false := by simpa using hf
      have h6 := no_of (fun q => (J.dep q).1) hb
      have h7 := no_of (fun q => (J.adr q).1) h6
      have V := J.way h6
      rw [if_pos (by kernel_rfl)]
      go_simp
      refine hK.out _ _ ?_
      refine ⟨true, b3, b5, b6, b7, .slice (some ⟨wx.heap.size, 0, none⟩) 0 0, s11, s13, s14, s15, .slice (some ⟨wx.heap.size, 0, none⟩) 0 0, rfl, rfl, ⟨J.bel.alloc J.bel.size _, fun _ => V.made hb J.bel.size, fun _ h5 => ?_, (fun q => by rw [h6] at q; cases q), (fun q => by rw [h6] at q; cases q), (fun q => by rw [h7] at q; cases q)⟩⟩
      obtain ⟨q, e1, e2, e3⟩ := J.one h6 h5
      exact ⟨q, e1, e2.alloc _, fun e => by have := sl_blk e; have := e2.lt; omega⟩
    refine StepAll.skip (fun l a w' => by rintro ⟨b0, b3, b5, b6, b7, s8, s11, s13, s14, s15, x, rfl, rfl, J⟩; rfl) ?_
    refine StepAll.skip (fun l a w' => by rintro ⟨b0, b3, b5, b6, b7, s8, s11, s13, s14, s15, x, rfl, rfl, J⟩; rfl) ?_
    refine StepAll.cons (o := _) (by rw [List.getElem?_toArray]; exact rfl) ?_ ?_
    · rintro K' l a wx ⟨b0, b3, b5, b6, b7, s8, s11, s13, s14, s15, x, rfl, rfl, J⟩ hf he hK
      have hd : b3 = false := by simpa using hf
      have hb : b0 = true := by simpa using he ⟨0, .data⟩ (by simp) rfl
      have h6 := no_of (fun q => (J.dep q).2.1) hd
      have h7 := no_of (fun q => (J.adr q).1) h6
      have V := J.way h6
      have hsx := V.e0 hb hd
      have ho := V.own
      rw [hd] at ho
      refine step_append_any _ (by rfl) (.tmp 8) (.tmp 10) 44 (by rfl) W1.heap.size 62 i0 (.agg #[.int .i64 0, .int .i64 0, .int .i64 0, .int .i64 0]) 4 32 Try.underlying44 hi0 hz0 hz1 hz2 (by rfl) (by decide) x 0 [] (by exact hsx) ho a2 n2 c2 hs (by rfl) HE2.out ((HM.out.below HB1.out (Nat.le_refl _)).below J.bel (Nat.le_refl _)) (by unfold maxLen; omega) (by omega) J.bel.size ?_
      intro v' w' own' gr at'
      rw [Nat.zero_add, List.nil_append] at own'
      refine hK.out _ _ ?_
      subst hb
      refine ⟨true, true, b5, b6, b7, s8, v', s13, s14, s15, v', rfl, rfl, ⟨J.bel.grown gr J.bel.size (fun k e => (V.own.lt k e).1), fun _ => V.filled own', fun _ h5 => ?_, (fun q => by rw [h6] at q; cases q), (fun q => by rw [h6] at q; cases q), (fun q => by rw [h7] at q; cases q)⟩⟩
      obtain ⟨q, e1, e2, e3⟩ := J.one h6 h5
      refine ⟨q, e1, (gr.block q e2.lt (fun e => e3 e.symm)).trans e2, fun e => ?_⟩
      rcases at' with h' | h'
      · exact e3 (by rw [← h']; exact e)
      · rw [h'] at e
        have := Option.some.inj e
        have := e2.lt
        omega
    refine StepAll.skip (fun l a w' => by rintro ⟨b0, b3, b5, b6, b7, s8, s11, s13, s14, s15, x, rfl, rfl, J⟩; rfl) ?_
    refine StepAll.cons (o := _) (by rw [List.getElem?_toArray]; exact rfl) ?_ ?_
    · rintro K' l a wx ⟨b0, b3, b5, b6, b7, s8, s11, s13, s14, s15, x, rfl, rfl, J⟩ hf he hK
      have hb : b5 = false := by simpa using hf
      have h6 := no_of (fun q => (J.dep q).2.2) hb
      have h7 := no_of (fun q => (J.adr q).1) h6
      have V := J.way h6
      rw [if_pos (by kernel_rfl)]
      go_simp
      refine hK.out _ _ ?_
      refine ⟨b0, b3, true, b6, b7, s8, s11, .slice (some ⟨wx.heap.size, 0, none⟩) 1 1, s14, s15, x, rfl, rfl, ⟨J.bel.alloc J.bel.size _, fun _ => V.heap (fun q e => Below.heap_alloc _ _ _ (V.own.lt q e).2), fun _ _ => ?_, (fun q => by rw [h6] at q; cases q), (fun q => by rw [h6] at q; cases q), (fun q => by rw [h7] at q; cases q)⟩⟩
      exact ⟨wx.heap.size, rfl, box_of wx _ _, fun e => by have := (V.own.lt _ e).2; omega⟩
    refine StepAll.cons (o := _) (by rw [List.getElem?_toArray]; exact rfl) ?_ ?_
    · rintro K' l a wx ⟨b0, b3, b5, b6, b7, s8, s11, s13, s14, s15, x, rfl, rfl, J⟩ hf he hK
      have h6 : b6 = false := by simpa using hf
      have hd : b3 = true := by simpa using he ⟨3, .data⟩ (by simp) rfl
      have h5 : b5 = true := by simpa using he ⟨5, .data⟩ (by simp) rfl
      have h7 := no_of (fun q => (J.adr q).1) h6
      have V := J.way h6
      have hb := V.bd hd
      have hsx := V.e1 hd
      have ho := V.own
      rw [hd] at ho
      obtain ⟨q, rfl, e2, e3⟩ := J.one h6 h5
      refine step_append_any _ (by rfl) (.tmp 11) (.tmp 13) 44 (by rfl) W1.heap.size 62 i0 (.agg #[.int .i64 0, .int .i64 0, .int .i64 0, .int .i64 0]) 4 32 Try.underlying44 hi0 hz0 hz1 hz2 (by rfl) (by decide) x n2 (hs.map I) (by exact hsx) ho (some ⟨q, 0, none⟩) 1 1 (helpL h) (by rfl) (fun e => by cases e) (one_kAt e2) (by unfold maxLen; omega) (by omega) J.bel.size ?_
      intro v' w' own' gr at'
      rw [← List.map_append] at own'
      refine hK.out _ _ ?_
      exact ⟨b0, b3, b5, true, b7, s8, s11, _, v', s15, x, rfl, rfl, ⟨J.bel.grown gr J.bel.size (fun k e => (V.own.lt k e).1), (fun q => by cases q), (fun q => by cases q), fun _ => ⟨hb, hd, h5⟩, fun _ => own', (fun q => by rw [h7] at q; cases q)⟩⟩
    refine StepAll.cons (o := _) (by rw [List.getElem?_toArray]; exact rfl) ?_ ?_
    · rintro K' l a wx ⟨b0, b3, b5, b6, b7, s8, s11, s13, s14, s15, x, rfl, rfl, J⟩ hf he hK
      have h6 : b6 = true := by simpa using he ⟨6, .phase⟩ (by simp) rfl
      rw [if_pos (by kernel_rfl)]
      go_simp
      refine hK.out _ _ ?_
      exact ⟨b0, b3, b5, b6, true, s8, s11, s13, s14, .pointer (some ⟨g, 4, none⟩), x, rfl, rfl, ⟨J.bel, J.way, J.one, J.dep, J.fin, fun _ => ⟨h6, rfl⟩⟩⟩
    exact StepAll.nil
  · refine last_step (o := _) (by rw [List.getElem?_toArray]; exact rfl) ?_
    rintro K' l a w2 ⟨b0, b3, b5, b6, b7, s8, s11, s13, s14, s15, x, rfl, rfl, J⟩ hall hK
    have q7 : b7 = true := by simpa using hall 7 (of_decide_eq_true (by kernel_rfl)) (by decide)
    obtain ⟨h6, hv⟩ := J.adr q7
    have ho := J.fin h6
    obtain ⟨p, d, rfl, -⟩ := owns_slice ho
    have hb2 := J.bel
    have HB2 : Hid (Below W1.heap.size W1 w2) := hb2
    have HO : Hid (w2.ownsRow W1.heap.size 62 4 (.slice p (n2 + 1) d) (n2 + 1) ((hs ++ helpL h).map I)) := ho
    subst hv
    obtain ⟨m0, m1, m2', m3, m4, n0', n1', n2', n3', n4'⟩ := (YO.out.below hb2 YO.out.lt).five
    have hw1 := HW1S.out
    have hs2 := hb2.size
    have ng0 : sz ≠ g := by omega
    have ng1 : sz + 1 ≠ g := by omega
    clear J hall ho hb2
    rw [if_pos (by kernel_rfl)]
    go_simp
    refine hK.out _ _ ?_ ?_
    · obtain ⟨k0, k1, k2, k3, k4, _⟩ := ((Y0.out.below HB2.out Y0.out.lt).set (q := ⟨g, 4, none⟩) ng0 (.slice p (n2 + 1) d)).five
      obtain ⟨l0, l1, l2, l3, _⟩ := ((YH.out.below HB2.out YH.out.lt).set (q := ⟨g, 4, none⟩) ng1 (.slice p (n2 + 1) d)).four
      exact ⟨k4, l0, l1, l2, l3⟩
    · clear hK K' m0 m1 m2' m3 m4 n0' n1' n2' n3' n4'
      have TS0 := TO.out.stack HB2.out HB1.out.size HO.out
      have ng : ¬ In3 (.slice p0 n0 d0) (.slice p1 n1 d1) (.slice p (n2 + 1) d) g := by
        rintro (e | e | e)
        · have := (BLK.out g (.inl e)).2; omega
        · have := (BLK.out g (.inr (.inl e))).2; omega
        · have := (HO.out.lt g e).1; omega
      have TS : Hid _ := TS0.set (q := ⟨g, 4, none⟩) ng (.slice p (n2 + 1) d)
      have YS : Hid (Box (w2.setCell ⟨g, 4, none⟩ (.slice p (n2 + 1) d)) (sz + 1 + 1) #[.slice none 0 0, .int .i64 0, .bool false, .slice none 0 0, .slice none 0 0] 46) := (YR.out.below HB2.out YR.out.lt).set (q := ⟨g, 4, none⟩) (show sz + 1 + 1 ≠ g by omega) (.slice p (n2 + 1) d)
      have YP : Hid (Box (w2.setCell ⟨g, 4, none⟩ (.slice p (n2 + 1) d)) g #[.slice p0 n0 d0, .int .i64 pc, .bool on, .slice p1 n1 d1, .slice p (n2 + 1) d] 46) := (YO.out.below HB2.out YO.out.lt).put 4 (.slice p (n2 + 1) d)
      have BS : Hid (Below W.heap.size W (w2.setCell ⟨g, 4, none⟩ (.slice p (n2 + 1) d))) := (HB1.out.trans (HB2.out.mono HB1.out.size)).setCell hlg _
      clear TS0
      obtain ⟨W3, hW3⟩ : ∃ W3, w2.setCell ⟨g, 4, none⟩ (.slice p (n2 + 1) d) = W3 := ⟨_, rfl⟩
      rw [hW3] at TS YS YP BS ⊢
      clear hW3
      obtain ⟨y0, y1, y2, y3, y4, -⟩ := YP.out.five
      obtain ⟨r0, r1, r2, r3, r4, f0, f1, f2, f3, f4⟩ := YS.out.five
      go_wp2
      (try simp only [Exit.inBlock, Exit.then])
      obtain ⟨z0, z1, z2, z3, z4, _⟩ := (((((YS.out.put 0 (Value.slice p0 n0 d0)).put 1 (.int .i64 pc)).put 2 (.bool on)).put 3 (Value.slice p1 n1 d1)).put 4 (Value.slice p (n2 + 1) d)).five
      refine bodyPost_ret (by simp [results, Try.results29, go_sem, z0, z1, z2, z3, z4]; try rfl) rfl ?_
      have nr : ¬ In3 (Value.slice p0 n0 d0) (Value.slice p1 n1 d1) (Value.slice p (n2 + 1) d) (sz + 1 + 1) := fun hk => by have h1 := (TS.out.blk hk).1; omega
      have hl : sz ≤ W.heap.size := by omega
      have hE : T' = ⟨n0, fs, pc, on, n1, gs, n2 + 1, hs ++ helpL h⟩ := HT.out.symm
      subst hE
      refine ⟨_, _, _, rfl, ?_, ?_⟩
      · rw [HSZ.out]; exact (TS.out.set5 nr _ _ _ _ _).weaken hl
      · rw [HSZ.out]; exact below_set5 (HB0.out.trans (BS.out.mono hl)) (by omega) _ _ _ _ _
  · exact ⟨false, false, false, false, false, undef, undef, undef, undef, undef, .slice none 0 0, rfl, rfl, ⟨(Below.refl _ _).drew, fun _ => ⟨World.ownsRow_nil _ _ _ _, (fun h => by cases h), fun _ => rfl, (fun h => by cases h), (fun h => by cases h)⟩, (fun _ h => by cases h), (fun h => by cases h), (fun h => by cases h), (fun h => by cases h)⟩⟩
end Go.Proofs.Ytemeklfkbjpnmar
