/- spec.l8Copy: a Thread copied, with memory of its own: the region that draws is walked by an invariant. -/
import Derived.Test.YtemeklfkbjpnmarThr
import Derived.Test.YtemeklfkbjpnmarInvReg
namespace Go.Proofs.Ytemeklfkbjpnmar
open Go.ChangeShapes Go.WideShapes Go.ChangeAt Go.RowKit Go.Joins

noncomputable def l8CopyL : List Oper := match Try.f67.body with
  | some (.seq _ (.seq (.region _ ops _) _)) => ops.toList
  | _ => []
/-- A list of the call's own on its way: made (b) or not, filled (d) or not; x is where it lies. -/
structure Way (T : TypeId) (k : Nat) (base n : Nat) (fs : List Int) (w : World) (b d : Bool) (s s' x : Value) : Prop where
  own : w.ownsRow base T k x (if d then n else 0) (if d then fs.map I else [])
  bd : d = true → b = true
  nil : b = false → x = .slice none 0 0
  e0 : b = true → d = false → s = x
  e1 : d = true → s' = x
theorem Way.heap {T : TypeId} {k base n : Nat} {fs : List Int} {w w' : World} {b d : Bool} {s s' x : Value} (h : Way T k base n fs w b d s s' x) (he : ∀ q, x.ownBlock = some q → w'.heap[q]? = w.heap[q]?) : Way T k base n fs w' b d s s' x :=
  ⟨owns_heap h.own he, h.bd, h.nil, h.e0, h.e1⟩
theorem Way.made {T : TypeId} {k base n : Nat} {fs : List Int} {w : World} {b d : Bool} {s s' x : Value} (h : Way T k base n fs w b d s s' x) (hb : b = false) (hB : base ≤ w.heap.size) :
    Way T k base n fs (w.alloc (.cells #[] T)) true d (.slice (some ⟨w.heap.size, 0, none⟩) 0 0) s' (.slice (some ⟨w.heap.size, 0, none⟩) 0 0) := by
  have hd : d = false := by
    cases d with
    | false => rfl
    | true => have := h.bd rfl; rw [hb] at this; cases this
  subst hd
  exact ⟨own_emptyK hB, (fun h => by cases h), (fun h => by cases h), fun _ _ => rfl, (fun h => by cases h)⟩
theorem Way.filled {T : TypeId} {k base n : Nat} {fs : List Int} {w w' : World} {d : Bool} {s s' x v' : Value} (_h : Way T k base n fs w true d s s' x) (ho : w'.ownsRow base T k v' n (fs.map I)) : Way T k base n fs w' true true s v' v' :=
  ⟨ho, fun _ => rfl, (fun h => by cases h), (fun _ h => by cases h), fun _ => rfl⟩
theorem sep_new {x y z : Value} {q : Nat} {n c : Nat} (h : Sep3 x y z) (hy : ∀ k, y.ownBlock = some k → k < q) (hz : ∀ k, z.ownBlock = some k → k < q) : Sep3 (.slice (some ⟨q, 0, none⟩) n c) y z :=
  ⟨fun _ e e' => by have e := sl_blk e; have := hy _ e'; omega, fun _ e e' => by have e := sl_blk e; have := hz _ e'; omega, h.2.2⟩
theorem sep_like {x x' y z : Value} {q : Nat} (h : Sep3 x y z) (hx : x'.ownBlock = x.ownBlock ∨ x'.ownBlock = some q) (hy : ∀ k, y.ownBlock = some k → k < q) (hz : ∀ k, z.ownBlock = some k → k < q) : Sep3 x' y z := by
  rcases hx with hx | hx
  · exact ⟨fun k e => h.1 k (by rw [← hx]; exact e), fun k e => h.2.1 k (by rw [← hx]; exact e), h.2.2⟩
  · refine ⟨fun k e e' => ?_, fun k e e' => ?_, h.2.2⟩
    · rw [hx] at e; have e := Option.some.inj e; have := hy _ e'; omega
    · rw [hx] at e; have e := Option.some.inj e; have := hz _ e'; omega
theorem Sep3.rot {x y z : Value} (h : Sep3 x y z) : Sep3 y z x := ⟨h.2.2, fun k e e' => h.1 k e' e, fun k e e' => h.2.1 k e' e⟩
/-- What holds while the copy is made. -/
structure CI (W : World) (n0 : Nat) (fs : List Int) (n1 : Nat) (gs : List Int) (n2 : Nat) (hs : List Int) (pc : Int) (on : Bool) (b0 b3 b8 b11 b12 b15 b16 : Bool) (s3 s6 s11 s14 s15 s18 s19 x1 x2 x3 : Value) (w : World) : Prop where
  bel : Below W.heap.size W w
  w1 : Way 84 3 W.heap.size n0 fs w b0 b3 s3 s6 x1
  w2 : Way 86 2 W.heap.size n1 gs w b8 b11 s11 s14 x2
  w3 : Way 62 4 W.heap.size n2 hs w b12 b15 s15 s18 x3
  sep : Sep3 x1 x2 x3
  all : b16 = true → b3 = true ∧ b11 = true ∧ b15 = true
  val : b16 = true → s19 = ThV x1 x2 x3 pc on
def CR (W : World) (sz : Nat) (a0 a1 a2 : Option Addr) (c0 c1 c2 : Nat) (n0 : Nat) (fs : List Int) (n1 : Nat) (gs : List Int) (n2 : Nat) (hs : List Int) (pc : Int) (on : Bool) (l : Array Bool) (a : Act) (w : World) : Prop :=
  ∃ (b0 b3 b8 b11 b12 b15 b16 : Bool) (s3 s6 s11 s14 s15 s18 s19 x1 x2 x3 : Value), l = #[b0, true, true, b3, true, true, true, true, b8, true, true, b11, b12, true, true, b15, b16, false] ∧ a = ⟨#[ThV (.slice a0 n0 c0) (.slice a1 n1 c1) (.slice a2 n2 c2) pc on, .pointer (some ⟨sz, 0, none⟩), .pointer (some ⟨sz + 1, 0, none⟩), s3, .pointer (some ⟨sz, 0, none⟩), .slice a0 n0 c0, s6, .pointer (some ⟨sz, 1, none⟩), .int .i64 pc, .pointer (some ⟨sz, 2, none⟩), .bool on, s11, .pointer (some ⟨sz, 3, none⟩), .slice a1 n1 c1, s14, s15, .pointer (some ⟨sz, 4, none⟩), .slice a2 n2 c2, s18, s19], []⟩ ∧ CI W n0 fs n1 gs n2 hs pc on b0 b3 b8 b11 b12 b15 b16 s3 s6 s11 s14 s15 s18 s19 x1 x2 x3 w
set_option maxHeartbeats 4000000 in
set_option maxRecDepth 100000 in
theorem l8Copy_any (v0 v1 v2 : Value) (t : TD) (w : World) (h : ThAt w v0 v1 v2 t) :
    Calls Try.prog 67 #[ThV v0 v1 v2 t.pc t.on] w (ThAns w t) := by
  obtain ⟨⟨a0, c0, rfl, e0, h0⟩, ⟨a1, c1, rfl, e1, h1⟩, ⟨a2, c2, rfl, e2, h2⟩⟩ := h
  obtain ⟨n0, fs, pc, on, n1, gs, n2, hs⟩ := t
  simp only at h0 h1 h2 ⊢
  have m0 := h0.2.1
  have m1 := h1.2.1
  have m2 := h2.2.1
  obtain ⟨i0, hi0, hz00, hz01, hz02⟩ := info_parts kInfoOp
  obtain ⟨i1, hi1, hz10, hz11, hz12⟩ := info_parts kInfoPair
  obtain ⟨i2, hi2, hz20, hz21, hz22⟩ := info_parts kInfoHelp
  obtain ⟨sz, hsz⟩ : ∃ sz, w.heap.size = sz := ⟨_, rfl⟩
  obtain ⟨W, hW⟩ : ∃ W, (w.alloc (.cells #[.slice a0 n0 c0, .int .i64 pc, .bool on, .slice a1 n1 c1, .slice a2 n2 c2] 46)).alloc (.cells #[.slice none 0 0, .int .i64 0, .bool false, .slice none 0 0, .slice none 0 0] 46) = W := ⟨_, rfl⟩
  have hWs : W.heap.size = sz + 2 := by rw [← hW, ← hsz]; simp
  have hb0 : Below sz w W := by rw [← hW, ← hsz]; exact ((Below.refl _ w).alloc (Nat.le_refl _) _).alloc (by simp) _
  have X0 : Hid (Box W sz #[.slice a0 n0 c0, .int .i64 pc, .bool on, .slice a1 n1 c1, .slice a2 n2 c2] 46) := by rw [← hW, ← hsz]; exact (box_of w _ _).alloc _
  have R0 : Hid (Box W (sz + 1) #[.slice none 0 0, .int .i64 0, .bool false, .slice none 0 0, .slice none 0 0] 46) := by rw [← hW, ← hsz]; exact box_two w _ _ _
  have HW : Hid _ := hW
  have HSZ : Hid (w.heap.size = sz) := hsz
  have HB0 : Hid (Below sz w W) := hb0
  have HWS : Hid (W.heap.size = sz + 2) := hWs
  have K : Hid (KAt 3 W a0 n0 fs ∧ KAt 2 W a1 n1 gs ∧ KAt 4 W a2 n2 hs) := ⟨h0.below hb0 (by omega), h1.below hb0 (by omega), h2.below hb0 (by omega)⟩
  have BOX : Hid (∀ w', Below W.heap.size W w' → w'.cell? ⟨sz, 0, none⟩ = some (.slice a0 n0 c0) ∧ w'.cell? ⟨sz, 1, none⟩ = some (.int .i64 pc) ∧ w'.cell? ⟨sz, 2, none⟩ = some (.bool on) ∧ w'.cell? ⟨sz, 3, none⟩ = some (.slice a1 n1 c1) ∧ w'.cell? ⟨sz, 4, none⟩ = some (.slice a2 n2 c2)) := fun w' hb => by
    obtain ⟨y0, y1, y2, y3, y4, _⟩ := (X0.out.below hb X0.out.lt).five
    exact ⟨y0, y1, y2, y3, y4⟩
  clear h0 h1 h2 hW hb0 hsz hWs
  go_enter Try.func67, Try.ntmps67
  go_wp2_with fail
  rw [HW.out]
  (try rw [HSZ.out])
  change (Code.region _ (List.toArray l8CopyL) true).wp _ _ _ _
  refine wp_region_held_drew (S := fun w' => w'.cell? ⟨sz, 0, none⟩ = some (.slice a0 n0 c0) ∧ w'.cell? ⟨sz, 1, none⟩ = some (.int .i64 pc) ∧ w'.cell? ⟨sz, 2, none⟩ = some (.bool on) ∧ w'.cell? ⟨sz, 3, none⟩ = some (.slice a1 n1 c1) ∧ w'.cell? ⟨sz, 4, none⟩ = some (.slice a2 n2 c2)) (by kernel_rfl) ?_ (fun hHeld => ?_)
  · exact BOX.out _ (Below.refl _ _).drew
  refine wpAnyH_take (i := 1) (oi := _) (v := .pointer (some ⟨sz, 0, none⟩)) (by rw [List.getElem?_toArray]; exact rfl) (by kernel_rfl) (by kernel_rfl) (by kernel_rfl) (by intro _ _ _ h; exact h) (Or.inl ⟨by kernel_rfl, ?_⟩) hHeld ?_
  · intro w hSw; obtain ⟨y1, y2, y3, y4, y5⟩ := hSw; go_simp
  (try simp only [Act.put, List.setIfInBounds_toArray, List.set_cons_zero, List.set_cons_succ])
  refine wpAnyH_take (i := 2) (oi := _) (v := .slice a0 n0 c0) (by rw [List.getElem?_toArray]; exact rfl) (by kernel_rfl) (by kernel_rfl) (by kernel_rfl) (by intro _ _ _ h; exact h) (Or.inl ⟨by kernel_rfl, ?_⟩) hHeld ?_
  · intro w hSw; obtain ⟨y1, y2, y3, y4, y5⟩ := hSw; go_simp
  (try simp only [Act.put, List.setIfInBounds_toArray, List.set_cons_zero, List.set_cons_succ])
  refine wpAnyH_take (i := 4) (oi := _) (v := .pointer (some ⟨sz, 1, none⟩)) (by rw [List.getElem?_toArray]; exact rfl) (by kernel_rfl) (by kernel_rfl) (by kernel_rfl) (by intro _ _ _ h; exact h) (Or.inl ⟨by kernel_rfl, ?_⟩) hHeld ?_
  · intro w hSw; obtain ⟨y1, y2, y3, y4, y5⟩ := hSw; go_simp
  (try simp only [Act.put, List.setIfInBounds_toArray, List.set_cons_zero, List.set_cons_succ])
  refine wpAnyH_take (i := 5) (oi := _) (v := .int .i64 pc) (by rw [List.getElem?_toArray]; exact rfl) (by kernel_rfl) (by kernel_rfl) (by kernel_rfl) (by intro _ _ _ h; exact h) (Or.inl ⟨by kernel_rfl, ?_⟩) hHeld ?_
  · intro w hSw; obtain ⟨y1, y2, y3, y4, y5⟩ := hSw; go_simp
  (try simp only [Act.put, List.setIfInBounds_toArray, List.set_cons_zero, List.set_cons_succ])
  refine wpAnyH_take (i := 6) (oi := _) (v := .pointer (some ⟨sz, 2, none⟩)) (by rw [List.getElem?_toArray]; exact rfl) (by kernel_rfl) (by kernel_rfl) (by kernel_rfl) (by intro _ _ _ h; exact h) (Or.inl ⟨by kernel_rfl, ?_⟩) hHeld ?_
  · intro w hSw; obtain ⟨y1, y2, y3, y4, y5⟩ := hSw; go_simp
  (try simp only [Act.put, List.setIfInBounds_toArray, List.set_cons_zero, List.set_cons_succ])
  refine wpAnyH_take (i := 7) (oi := _) (v := .bool on) (by rw [List.getElem?_toArray]; exact rfl) (by kernel_rfl) (by kernel_rfl) (by kernel_rfl) (by intro _ _ _ h; exact h) (Or.inl ⟨by kernel_rfl, ?_⟩) hHeld ?_
  · intro w hSw; obtain ⟨y1, y2, y3, y4, y5⟩ := hSw; go_simp
  (try simp only [Act.put, List.setIfInBounds_toArray, List.set_cons_zero, List.set_cons_succ])
  refine wpAnyH_take (i := 9) (oi := _) (v := .pointer (some ⟨sz, 3, none⟩)) (by rw [List.getElem?_toArray]; exact rfl) (by kernel_rfl) (by kernel_rfl) (by kernel_rfl) (by intro _ _ _ h; exact h) (Or.inl ⟨by kernel_rfl, ?_⟩) hHeld ?_
  · intro w hSw; obtain ⟨y1, y2, y3, y4, y5⟩ := hSw; go_simp
  (try simp only [Act.put, List.setIfInBounds_toArray, List.set_cons_zero, List.set_cons_succ])
  refine wpAnyH_take (i := 10) (oi := _) (v := .slice a1 n1 c1) (by rw [List.getElem?_toArray]; exact rfl) (by kernel_rfl) (by kernel_rfl) (by kernel_rfl) (by intro _ _ _ h; exact h) (Or.inl ⟨by kernel_rfl, ?_⟩) hHeld ?_
  · intro w hSw; obtain ⟨y1, y2, y3, y4, y5⟩ := hSw; go_simp
  (try simp only [Act.put, List.setIfInBounds_toArray, List.set_cons_zero, List.set_cons_succ])
  refine wpAnyH_take (i := 13) (oi := _) (v := .pointer (some ⟨sz, 4, none⟩)) (by rw [List.getElem?_toArray]; exact rfl) (by kernel_rfl) (by kernel_rfl) (by kernel_rfl) (by intro _ _ _ h; exact h) (Or.inl ⟨by kernel_rfl, ?_⟩) hHeld ?_
  · intro w hSw; obtain ⟨y1, y2, y3, y4, y5⟩ := hSw; go_simp
  (try simp only [Act.put, List.setIfInBounds_toArray, List.set_cons_zero, List.set_cons_succ])
  refine wpAnyH_take (i := 14) (oi := _) (v := .slice a2 n2 c2) (by rw [List.getElem?_toArray]; exact rfl) (by kernel_rfl) (by kernel_rfl) (by kernel_rfl) (by intro _ _ _ h; exact h) (Or.inl ⟨by kernel_rfl, ?_⟩) hHeld ?_
  · intro w hSw; obtain ⟨y1, y2, y3, y4, y5⟩ := hSw; go_simp
  (try simp only [Act.put, List.setIfInBounds_toArray, List.set_cons_zero, List.set_cons_succ])
  refine wpAnyH_inv (z := 17) (R := CR W sz a0 a1 a2 c0 c1 c2 n0 fs n1 gs n2 hs pc on) (by kernel_rfl) ?_ (of_decide_eq_true (by kernel_rfl)) (waits_at (by kernel_rfl)) ?_ ?_ _ _ _ _ (by kernel_rfl) (of_decide_eq_true (by kernel_rfl)) (by kernel_rfl) (by kernel_rfl) ?_
  · rintro l a w' ⟨b0, b3, b8, b11, b12, b15, b16, s3, s6, s11, s14, s15, s18, s19, x1, x2, x3, rfl, rfl, I⟩
    exact BOX.out _ I.bel
  · rw [show (List.range (List.toArray l8CopyL).size).filter (· != 17) = [0, 1, 2, 3, 4, 5, 6, 7, 8, 9, 10, 11, 12, 13, 14, 15, 16] by kernel_rfl]
    refine StepAll.cons (o := _) (by rw [List.getElem?_toArray]; exact rfl) ?_ ?_
    · rintro K' l a wx ⟨b0, b3, b8, b11, b12, b15, b16, s3, s6, s11, s14, s15, s18, s19, x1, x2, x3, rfl, rfl, I⟩ hf he hK
      have hb : b0 = false := by simpa using hf
      have hd : b3 = false := by
        cases hq : b3 with
        | false => rfl
        | true => have := I.w1.bd hq; rw [hb] at this; cases this
      have ha : b16 = false := by
        cases hq : b16 with
        | false => rfl
        | true => have := (I.all hq).1; rw [hd] at this; cases this
      rw [if_pos (by kernel_rfl)]
      go_simp
      refine hK.out _ _ ?_
      exact ⟨true, b3, b8, b11, b12, b15, b16, .slice (some ⟨wx.heap.size, 0, none⟩) 0 0, s6, s11, s14, s15, s18, s19, .slice (some ⟨wx.heap.size, 0, none⟩) 0 0, x2, x3, rfl, rfl, ⟨I.bel.alloc I.bel.size _, I.w1.made hb I.bel.size, I.w2.heap (fun q e => Below.heap_alloc _ _ _ (I.w2.own.lt q e).2), I.w3.heap (fun q e => Below.heap_alloc _ _ _ (I.w3.own.lt q e).2), (sep_new I.sep (fun k e => (I.w2.own.lt k e).2) (fun k e => (I.w3.own.lt k e).2)).rot.rot.rot, (fun h => by rw [ha] at h; cases h), (fun h => by rw [ha] at h; cases h)⟩⟩
    refine StepAll.skip (fun l a w' => by rintro ⟨b0, b3, b8, b11, b12, b15, b16, s3, s6, s11, s14, s15, s18, s19, x1, x2, x3, rfl, rfl, I⟩; rfl) ?_
    refine StepAll.skip (fun l a w' => by rintro ⟨b0, b3, b8, b11, b12, b15, b16, s3, s6, s11, s14, s15, s18, s19, x1, x2, x3, rfl, rfl, I⟩; rfl) ?_
    refine StepAll.cons (o := _) (by rw [List.getElem?_toArray]; exact rfl) ?_ ?_
    · rintro K' l a wx ⟨b0, b3, b8, b11, b12, b15, b16, s3, s6, s11, s14, s15, s18, s19, x1, x2, x3, rfl, rfl, I⟩ hf he hK
      have hd : b3 = false := by simpa using hf
      have hb : b0 = true := by simpa using he ⟨0, .data⟩ (by simp) rfl
      have ha : b16 = false := by
        cases hq : b16 with
        | false => rfl
        | true => have := (I.all hq).1; rw [hd] at this; cases this
      have hsx := I.w1.e0 hb hd
      have ho := I.w1.own
      rw [hd] at ho
      refine step_append_any _ (by rfl) (.tmp 3) (.tmp 5) 42 (by rfl) W.heap.size 84 i0 (.agg #[.int .i64 0, .int .i64 0, .int .i64 0]) 3 24 Try.underlying42 hi0 hz00 hz01 hz02 (by rfl) (by decide) x1 0 [] (by exact hsx) ho a0 n0 c0 fs (by rfl) e0.1 (K.out.1.below I.bel (Nat.le_refl _)) (by unfold maxLen; omega) (by omega) I.bel.size ?_
      intro v' w' own' gr at'
      rw [Nat.zero_add, List.nil_append] at own'
      refine hK.out _ _ ?_
      subst hb
      exact ⟨true, true, b8, b11, b12, b15, b16, s3, v', s11, s14, s15, s18, s19, v', x2, x3, rfl, rfl, ⟨(I.bel.grown gr I.bel.size (fun k e => (I.w1.own.lt k e).1)), (I.w1).filled own', I.w2.heap (fun q e => gr.block q (I.w2.own.lt q e).2 (fun e' => I.sep.1 q e'.symm e)), I.w3.heap (fun q e => gr.block q (I.w3.own.lt q e).2 (fun e' => I.sep.2.1 q e'.symm e)), (sep_like I.sep at' (fun k e => (I.w2.own.lt k e).2) (fun k e => (I.w3.own.lt k e).2)).rot.rot.rot, (fun h => by rw [ha] at h; cases h), (fun h => by rw [ha] at h; cases h)⟩⟩
    refine StepAll.skip (fun l a w' => by rintro ⟨b0, b3, b8, b11, b12, b15, b16, s3, s6, s11, s14, s15, s18, s19, x1, x2, x3, rfl, rfl, I⟩; rfl) ?_
    refine StepAll.skip (fun l a w' => by rintro ⟨b0, b3, b8, b11, b12, b15, b16, s3, s6, s11, s14, s15, s18, s19, x1, x2, x3, rfl, rfl, I⟩; rfl) ?_
    refine StepAll.skip (fun l a w' => by rintro ⟨b0, b3, b8, b11, b12, b15, b16, s3, s6, s11, s14, s15, s18, s19, x1, x2, x3, rfl, rfl, I⟩; rfl) ?_
    refine StepAll.skip (fun l a w' => by rintro ⟨b0, b3, b8, b11, b12, b15, b16, s3, s6, s11, s14, s15, s18, s19, x1, x2, x3, rfl, rfl, I⟩; rfl) ?_
    refine StepAll.cons (o := _) (by rw [List.getElem?_toArray]; exact rfl) ?_ ?_
    · rintro K' l a wx ⟨b0, b3, b8, b11, b12, b15, b16, s3, s6, s11, s14, s15, s18, s19, x1, x2, x3, rfl, rfl, I⟩ hf he hK
      have hb : b8 = false := by simpa using hf
      have hd : b11 = false := by
        cases hq : b11 with
        | false => rfl
        | true => have := I.w2.bd hq; rw [hb] at this; cases this
      have ha : b16 = false := by
        cases hq : b16 with
        | false => rfl
        | true => have := (I.all hq).2.1; rw [hd] at this; cases this
      rw [if_pos (by kernel_rfl)]
      go_simp
      refine hK.out _ _ ?_
      exact ⟨b0, b3, true, b11, b12, b15, b16, s3, s6, .slice (some ⟨wx.heap.size, 0, none⟩) 0 0, s14, s15, s18, s19, x1, .slice (some ⟨wx.heap.size, 0, none⟩) 0 0, x3, rfl, rfl, ⟨I.bel.alloc I.bel.size _, I.w1.heap (fun q e => Below.heap_alloc _ _ _ (I.w1.own.lt q e).2), I.w2.made hb I.bel.size, I.w3.heap (fun q e => Below.heap_alloc _ _ _ (I.w3.own.lt q e).2), (sep_new I.sep.rot (fun k e => (I.w3.own.lt k e).2) (fun k e => (I.w1.own.lt k e).2)).rot.rot, (fun h => by rw [ha] at h; cases h), (fun h => by rw [ha] at h; cases h)⟩⟩
    refine StepAll.skip (fun l a w' => by rintro ⟨b0, b3, b8, b11, b12, b15, b16, s3, s6, s11, s14, s15, s18, s19, x1, x2, x3, rfl, rfl, I⟩; rfl) ?_
    refine StepAll.skip (fun l a w' => by rintro ⟨b0, b3, b8, b11, b12, b15, b16, s3, s6, s11, s14, s15, s18, s19, x1, x2, x3, rfl, rfl, I⟩; rfl) ?_
    refine StepAll.cons (o := _) (by rw [List.getElem?_toArray]; exact rfl) ?_ ?_
    · rintro K' l a wx ⟨b0, b3, b8, b11, b12, b15, b16, s3, s6, s11, s14, s15, s18, s19, x1, x2, x3, rfl, rfl, I⟩ hf he hK
      have hd : b11 = false := by simpa using hf
      have hb : b8 = true := by simpa using he ⟨8, .data⟩ (by simp) rfl
      have ha : b16 = false := by
        cases hq : b16 with
        | false => rfl
        | true => have := (I.all hq).2.1; rw [hd] at this; cases this
      have hsx := I.w2.e0 hb hd
      have ho := I.w2.own
      rw [hd] at ho
      refine step_append_any _ (by rfl) (.tmp 11) (.tmp 13) 43 (by rfl) W.heap.size 86 i1 (.agg #[.int .i64 0, .int .i64 0]) 2 16 Try.underlying43 hi1 hz10 hz11 hz12 (by rfl) (by decide) x2 0 [] (by exact hsx) ho a1 n1 c1 gs (by rfl) e1.1 (K.out.2.1.below I.bel (Nat.le_refl _)) (by unfold maxLen; omega) (by omega) I.bel.size ?_
      intro v' w' own' gr at'
      rw [Nat.zero_add, List.nil_append] at own'
      refine hK.out _ _ ?_
      subst hb
      exact ⟨b0, b3, true, true, b12, b15, b16, s3, s6, s11, v', s15, s18, s19, x1, v', x3, rfl, rfl, ⟨(I.bel.grown gr I.bel.size (fun k e => (I.w2.own.lt k e).1)), I.w1.heap (fun q e => gr.block q (I.w1.own.lt q e).2 (fun e' => I.sep.rot.2.1 q e'.symm e)), (I.w2).filled own', I.w3.heap (fun q e => gr.block q (I.w3.own.lt q e).2 (fun e' => I.sep.rot.1 q e'.symm e)), (sep_like I.sep.rot at' (fun k e => (I.w3.own.lt k e).2) (fun k e => (I.w1.own.lt k e).2)).rot.rot, (fun h => by rw [ha] at h; cases h), (fun h => by rw [ha] at h; cases h)⟩⟩
    refine StepAll.cons (o := _) (by rw [List.getElem?_toArray]; exact rfl) ?_ ?_
    · rintro K' l a wx ⟨b0, b3, b8, b11, b12, b15, b16, s3, s6, s11, s14, s15, s18, s19, x1, x2, x3, rfl, rfl, I⟩ hf he hK
      have hb : b12 = false := by simpa using hf
      have hd : b15 = false := by
        cases hq : b15 with
        | false => rfl
        | true => have := I.w3.bd hq; rw [hb] at this; cases this
      have ha : b16 = false := by
        cases hq : b16 with
        | false => rfl
        | true => have := (I.all hq).2.2; rw [hd] at this; cases this
      rw [if_pos (by kernel_rfl)]
      go_simp
      refine hK.out _ _ ?_
      exact ⟨b0, b3, b8, b11, true, b15, b16, s3, s6, s11, s14, .slice (some ⟨wx.heap.size, 0, none⟩) 0 0, s18, s19, x1, x2, .slice (some ⟨wx.heap.size, 0, none⟩) 0 0, rfl, rfl, ⟨I.bel.alloc I.bel.size _, I.w1.heap (fun q e => Below.heap_alloc _ _ _ (I.w1.own.lt q e).2), I.w2.heap (fun q e => Below.heap_alloc _ _ _ (I.w2.own.lt q e).2), I.w3.made hb I.bel.size, (sep_new I.sep.rot.rot (fun k e => (I.w1.own.lt k e).2) (fun k e => (I.w2.own.lt k e).2)).rot, (fun h => by rw [ha] at h; cases h), (fun h => by rw [ha] at h; cases h)⟩⟩
    refine StepAll.skip (fun l a w' => by rintro ⟨b0, b3, b8, b11, b12, b15, b16, s3, s6, s11, s14, s15, s18, s19, x1, x2, x3, rfl, rfl, I⟩; rfl) ?_
    refine StepAll.skip (fun l a w' => by rintro ⟨b0, b3, b8, b11, b12, b15, b16, s3, s6, s11, s14, s15, s18, s19, x1, x2, x3, rfl, rfl, I⟩; rfl) ?_
    refine StepAll.cons (o := _) (by rw [List.getElem?_toArray]; exact rfl) ?_ ?_
    · rintro K' l a wx ⟨b0, b3, b8, b11, b12, b15, b16, s3, s6, s11, s14, s15, s18, s19, x1, x2, x3, rfl, rfl, I⟩ hf he hK
      have hd : b15 = false := by simpa using hf
      have hb : b12 = true := by simpa using he ⟨12, .data⟩ (by simp) rfl
      have ha : b16 = false := by
        cases hq : b16 with
        | false => rfl
        | true => have := (I.all hq).2.2; rw [hd] at this; cases this
      have hsx := I.w3.e0 hb hd
      have ho := I.w3.own
      rw [hd] at ho
      refine step_append_any _ (by rfl) (.tmp 15) (.tmp 17) 44 (by rfl) W.heap.size 62 i2 (.agg #[.int .i64 0, .int .i64 0, .int .i64 0, .int .i64 0]) 4 32 Try.underlying44 hi2 hz20 hz21 hz22 (by rfl) (by decide) x3 0 [] (by exact hsx) ho a2 n2 c2 hs (by rfl) e2.1 (K.out.2.2.below I.bel (Nat.le_refl _)) (by unfold maxLen; omega) (by omega) I.bel.size ?_
      intro v' w' own' gr at'
      rw [Nat.zero_add, List.nil_append] at own'
      refine hK.out _ _ ?_
      subst hb
      exact ⟨b0, b3, b8, b11, true, true, b16, s3, s6, s11, s14, s15, v', s19, x1, x2, v', rfl, rfl, ⟨(I.bel.grown gr I.bel.size (fun k e => (I.w3.own.lt k e).1)), I.w1.heap (fun q e => gr.block q (I.w1.own.lt q e).2 (fun e' => I.sep.rot.rot.1 q e'.symm e)), I.w2.heap (fun q e => gr.block q (I.w2.own.lt q e).2 (fun e' => I.sep.rot.rot.2.1 q e'.symm e)), (I.w3).filled own', (sep_like I.sep.rot.rot at' (fun k e => (I.w1.own.lt k e).2) (fun k e => (I.w2.own.lt k e).2)).rot, (fun h => by rw [ha] at h; cases h), (fun h => by rw [ha] at h; cases h)⟩⟩
    refine StepAll.cons (o := _) (by rw [List.getElem?_toArray]; exact rfl) ?_ ?_
    · rintro K' l a wx ⟨b0, b3, b8, b11, b12, b15, b16, s3, s6, s11, s14, s15, s18, s19, x1, x2, x3, rfl, rfl, I⟩ hf he hK
      have q3 : b3 = true := by simpa using he ⟨3, .data⟩ (by simp) rfl
      have q11 : b11 = true := by simpa using he ⟨11, .data⟩ (by simp) rfl
      have q15 : b15 = true := by simpa using he ⟨15, .data⟩ (by simp) rfl
      have r1 := I.w1.e1 q3
      have r2 := I.w2.e1 q11
      have r3 := I.w3.e1 q15
      obtain ⟨p1, d1, rfl, -⟩ := owns_slice (by have o := I.w1.own; rw [q3] at o; exact o)
      obtain ⟨p2, d2, rfl, -⟩ := owns_slice (by have o := I.w2.own; rw [q11] at o; exact o)
      obtain ⟨p3, d3, rfl, -⟩ := owns_slice (by have o := I.w3.own; rw [q15] at o; exact o)
      subst r1 r2 r3
      rw [if_pos (by kernel_rfl)]
      go_simp
      refine hK.out _ _ ?_
      exact ⟨b0, b3, b8, b11, b12, b15, true, s3, _, s11, _, s15, _, _, _, _, _, rfl, rfl, ⟨I.bel, I.w1, I.w2, I.w3, I.sep, (fun _ => ⟨q3, q11, q15⟩), (fun _ => rfl)⟩⟩
    exact StepAll.nil
  · refine last_step (o := _) (by rw [List.getElem?_toArray]; exact rfl) ?_
    rintro K' l a wx ⟨b0, b3, b8, b11, b12, b15, b16, s3, s6, s11, s14, s15, s18, s19, x1, x2, x3, rfl, rfl, I⟩ hall hK
    have q16 : b16 = true := by simpa using hall 16 (of_decide_eq_true (by kernel_rfl)) (by decide)
    obtain ⟨q3, q11, q15⟩ := I.all q16
    have hv := I.val q16
    have hx : ThO wx W.heap.size x1 x2 x3 ⟨n0, fs, pc, on, n1, gs, n2, hs⟩ := by
      have o1 := I.w1.own
      have o2 := I.w2.own
      have o3 := I.w3.own
      rw [q3] at o1
      rw [q11] at o2
      rw [q15] at o3
      exact ⟨o1, o2, o3, I.sep⟩
    have hbel := I.bel
    have X : Box wx (sz + 1) _ _ := R0.out.below hbel R0.out.lt
    obtain ⟨u0, u1, u2, u3, u4, f0, f1, f2, f3, f4⟩ := X.five
    have HX : Hid (ThO wx W.heap.size x1 x2 x3 ⟨n0, fs, pc, on, n1, gs, n2, hs⟩) := hx
    have HB : Hid (Below W.heap.size W wx) := hbel
    have nin : ¬ In3 x1 x2 x3 (sz + 1) := fun hk => by have h1 := (hx.blk hk).1; have h2 := HWS.out; omega
    have HN : Hid (¬ In3 x1 x2 x3 (sz + 1)) := nin
    have Y : Hid (Box wx sz _ _) := X0.out.below hbel X0.out.lt
    have XH : Hid (Box wx (sz + 1) _ _) := X
    obtain ⟨p1, d1, rfl, -⟩ := owns_slice hx.ops
    obtain ⟨p2, d2, rfl, -⟩ := owns_slice hx.got
    obtain ⟨p3, d3, rfl, -⟩ := owns_slice hx.stk
    subst hv
    clear I hx hbel nin hall X
    rw [if_pos (by kernel_rfl)]
    go_simp
    refine hK.out _ _ ?_ ?_
    · obtain ⟨y0, y1, y2, y3, y4, _⟩ := (((((Y.out.set (q := ⟨sz + 1, 0, none⟩) (by simp) (.slice p1 n0 d1)).set (q := ⟨sz + 1, 1, none⟩) (by simp) (.int .i64 pc)).set (q := ⟨sz + 1, 2, none⟩) (by simp) (.bool on)).set (q := ⟨sz + 1, 3, none⟩) (by simp) (.slice p2 n1 d2)).set (q := ⟨sz + 1, 4, none⟩) (by simp) (.slice p3 n2 d3)).five
      exact ⟨y0, y1, y2, y3, y4⟩
    · clear hK K'
      obtain ⟨z0, z1, z2, z3, z4, _⟩ := (((((XH.out.put 0 (.slice p1 n0 d1)).put 1 (.int .i64 pc)).put 2 (.bool on)).put 3 (.slice p2 n1 d2)).put 4 (.slice p3 n2 d3)).five
      go_wp2
      (try simp only [Exit.inBlock, Exit.then])
      refine bodyPost_ret (by simp [results, Try.results67, go_sem, z0, z1, z2, z3, z4]; try rfl) rfl ?_
      have hl : sz ≤ W.heap.size := by rw [HWS.out]; omega
      refine ⟨_, _, _, rfl, ?_, ?_⟩
      · rw [HSZ.out]
        exact (((((HX.out.set (q := ⟨sz + 1, 0, none⟩) HN.out _).set (q := ⟨sz + 1, 1, none⟩) HN.out _).set (q := ⟨sz + 1, 2, none⟩) HN.out _).set (q := ⟨sz + 1, 3, none⟩) HN.out _).set (q := ⟨sz + 1, 4, none⟩) HN.out _).weaken hl
      · rw [HSZ.out]
        exact (((((HB0.out.trans (HB.out.mono hl)).setCell (by simp) _).setCell (by simp) _).setCell (by simp) _).setCell (by simp) _).setCell (by simp) _
  · exact ⟨false, false, false, false, false, false, false, undef, undef, undef, undef, undef, undef, undef, .slice none 0 0, .slice none 0 0, .slice none 0 0, rfl, rfl, ⟨(Below.refl _ _).drew, ⟨World.ownsRow_nil _ _ _ _, (fun h => by cases h), fun _ => rfl, (fun h => by cases h), (fun h => by cases h)⟩, ⟨World.ownsRow_nil _ _ _ _, (fun h => by cases h), fun _ => rfl, (fun h => by cases h), (fun h => by cases h)⟩, ⟨World.ownsRow_nil _ _ _ _, (fun h => by cases h), fun _ => rfl, (fun h => by cases h), (fun h => by cases h)⟩, ⟨(fun _ e => by cases e), (fun _ e => by cases e), (fun _ e => by cases e)⟩, (fun h => by cases h), (fun h => by cases h)⟩⟩
end Go.Proofs.Ytemeklfkbjpnmar
