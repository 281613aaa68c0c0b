/- What is done to a worker's Stack: swap, pop, top. -/
import Derived.Test.YtemeklfkbjpnmasWork8
import Derived.Laws.IdiomCopy
namespace Go.Proofs.Ytemeklfkbjpnmas
open Go.ChangeShapes Go.WideShapes Go.ChangeAt Go.RowKit Go.Joins

noncomputable def swapWL : List Oper := match Try.f23.body with
  | some (.seq _ (.seq _ (.cond _ (.region _ ops _) _))) => ops.toList
  | _ => []
theorem WkO.set4 {w : World} {base g : Nat} {v0 v1 v2 : Value} {t : TD} (h : WkO w base g v0 v1 v2 t) {b i0 i1 i2 i3 : Nat} (hg : b ≠ g) (hb : ¬ In3 v0 v1 v2 b) (x0 x1 x2 x3 : Value) :
    WkO ((((w.setCell ⟨b, i0, none⟩ x0).setCell ⟨b, i1, none⟩ x1).setCell ⟨b, i2, none⟩ x2).setCell ⟨b, i3, none⟩ x3) base g v0 v1 v2 t :=
  ⟨h.box.set4 (Ne.symm hg) x0 x1 x2 x3, (((h.thr.set (q := ⟨b, i0, none⟩) hb x0).set (q := ⟨b, i1, none⟩) hb x1).set (q := ⟨b, i2, none⟩) hb x2).set (q := ⟨b, i3, none⟩) hb x3, h.low, h.out⟩
set_option maxHeartbeats 2000000 in
set_option maxRecDepth 100000 in
theorem swapW_any (base g : Nat) (v0 v1 v2 : Value) (t : TD) (h : Nat → Int) (w : World) (hs : t.n2 ≤ 1048576) (hw : WkO w base g v0 v1 v2 t) :
    Calls Try.prog 23 #[.pointer (some ⟨g, 0, none⟩), HelpV h] w fun e w' => e = .returned (.tuple #[]) ∧ WkO w' base g v0 v1 v2 (t.swap h) ∧ Below base w w' := by
  obtain ⟨n0, fs, pc, on, n1, gs, n2, hs'⟩ := t
  simp only at hs
  have hg := hw.box.lt
  have hlow := hw.low
  obtain ⟨W, hW⟩ : ∃ W, w.alloc (.cells #[.int .i64 (h 0), .int .i64 (h 1), .int .i64 (h 2), .int .i64 (h 3)] 37) = W := ⟨_, rfl⟩
  have hb0 : Below w.heap.size w W := by rw [← hW]; exact (Below.refl _ w).alloc (Nat.le_refl _) _
  have XH : Hid (Box W w.heap.size #[.int .i64 (h 0), .int .i64 (h 1), .int .i64 (h 2), .int .i64 (h 3)] 37) := by rw [← hW]; exact box_of w _ _
  have WK : Hid (WkO W base g v0 v1 v2 ⟨n0, fs, pc, on, n1, gs, n2, hs'⟩) := hw.below hb0
  have HB0 : Hid (Below base w W) := hb0.mono (by omega)
  have HW : Hid _ := hW
  obtain ⟨T', hT'⟩ : ∃ T', TD.swap ⟨n0, fs, pc, on, n1, gs, n2, hs'⟩ h = T' := ⟨_, rfl⟩
  rw [hT']
  have HT : Hid (TD.swap ⟨n0, fs, pc, on, n1, gs, n2, hs'⟩ h = T') := hT'
  clear hT'
  by_cases hn : n2 = 0
  · subst hn
    obtain ⟨p2, d2, rfl, -⟩ := owns_slice hw.thr.stk
    obtain ⟨y0, -⟩ := WK.out.box.five
    clear hw hb0
    subst hW
    go_enter Try.func23, Try.ntmps23
    go_wp2
    (try simp only [Exit.inBlock, Exit.then])
    refine bodyPost_end (v := .tuple #[]) (by simp [results, Try.results23, go_sem]; try rfl) rfl ?_
    exact ⟨rfl, by rw [← HT.out]; exact WK.out, HB0.out⟩
  · obtain ⟨g2, d2, rfl, hne, hl2, hlt2⟩ := hw.last hn
    obtain ⟨k, rfl⟩ : ∃ k, n2 = k + 1 := ⟨n2 - 1, by omega⟩
    simp only at WK
    have hk0 : (0 : Int) ≤ (k : Int) := by omega
    have hm2 : g2 ≠ w.heap.size := by omega
    obtain ⟨y0, -⟩ := WK.out.box.five
    have HN : Hid (g2 ≠ g ∧ base ≤ g2 ∧ g2 ≠ w.heap.size) := ⟨hne, hl2, hm2⟩
    clear hw hb0 hW
    go_enter Try.func23, Try.ntmps23
    go_upto_region 1 with (fail)
    rw [HW.out]
    go_upto_region 2 with (fail)
    change (Code.region _ (List.toArray swapWL) true).wp _ _ _ _
    refine wp_region_held_drew (S := fun w' => w'.cell? ⟨g, 0, none⟩ = some (.slice (some ⟨g2, 0, none⟩) (k + 1) d2) ∧ w'.cell? ⟨w.heap.size, 0, none⟩ = some (.int .i64 (h 0)) ∧ w'.cell? ⟨w.heap.size, 1, none⟩ = some (.int .i64 (h 1)) ∧ w'.cell? ⟨w.heap.size, 2, none⟩ = some (.int .i64 (h 2)) ∧ w'.cell? ⟨w.heap.size, 3, none⟩ = some (.int .i64 (h 3))) (by kernel_rfl) ?_ (fun hHeld => ?_)
    · obtain ⟨x0, x1, x2, x3, -⟩ := XH.out.drew.four
      exact ⟨WK.out.box.drew.five.1, x0, x1, x2, x3⟩
    obtain ⟨WD, hWD⟩ : ∃ WD, W.drew = WD := ⟨_, rfl⟩
    have WKD : Hid (WkO WD base g v0 v1 (.slice (some ⟨g2, 0, none⟩) (k + 1) d2) ⟨n0, fs, pc, on, n1, gs, k + 1, hs'⟩) := by rw [← hWD]; exact WK.out.below (Below.refl _ _).drew
    have XD : Hid (Box WD w.heap.size #[.int .i64 (h 0), .int .i64 (h 1), .int .i64 (h 2), .int .i64 (h 3)] 37) := by rw [← hWD]; exact XH.out.drew
    have BD : Hid (Below base w WD) := by rw [← hWD]; exact HB0.out.drew
    rw [hWD] at hHeld ⊢
    clear hWD y0
    refine wpAnyH_take (i := 0) (oi := _) (v := .pointer (some ⟨g, 0, none⟩)) (by rw [List.getElem?_toArray]; exact rfl) (by kernel_rfl) (by kernel_rfl) (by kernel_rfl) (by intro _ _ _ h; exact h) (Or.inl ⟨by kernel_rfl, ?_⟩) hHeld ?_
    · intro w hSw; obtain ⟨y1, y2, y3, y4, y5⟩ := hSw; go_simp
    (try simp only [Act.put, List.setIfInBounds_toArray, List.set_cons_zero, List.set_cons_succ])
    refine wpAnyH_take (i := 1) (oi := _) (v := .pointer (some ⟨g, 0, none⟩)) (by rw [List.getElem?_toArray]; exact rfl) (by kernel_rfl) (by kernel_rfl) (by kernel_rfl) (by intro _ _ _ h; exact h) (Or.inl ⟨by kernel_rfl, ?_⟩) hHeld ?_
    · intro w hSw; obtain ⟨y1, y2, y3, y4, y5⟩ := hSw; go_simp
    (try simp only [Act.put, List.setIfInBounds_toArray, List.set_cons_zero, List.set_cons_succ])
    refine wpAnyH_take (i := 2) (oi := _) (v := .pointer (some ⟨g, 0, none⟩)) (by rw [List.getElem?_toArray]; exact rfl) (by kernel_rfl) (by kernel_rfl) (by kernel_rfl) (by intro _ _ _ h; exact h) (Or.inl ⟨by kernel_rfl, ?_⟩) hHeld ?_
    · intro w hSw; obtain ⟨y1, y2, y3, y4, y5⟩ := hSw; go_simp
    (try simp only [Act.put, List.setIfInBounds_toArray, List.set_cons_zero, List.set_cons_succ])
    refine wpAnyH_take (i := 3) (oi := _) (v := .slice (some ⟨g2, 0, none⟩) (k + 1) d2) (by rw [List.getElem?_toArray]; exact rfl) (by kernel_rfl) (by kernel_rfl) (by kernel_rfl) (by intro _ _ _ h; exact h) (Or.inl ⟨by kernel_rfl, ?_⟩) hHeld ?_
    · intro w hSw; obtain ⟨y1, y2, y3, y4, y5⟩ := hSw; go_simp
    (try simp only [Act.put, List.setIfInBounds_toArray, List.set_cons_zero, List.set_cons_succ])
    refine wpAnyH_take (i := 4) (oi := _) (v := .pointer (some ⟨g, 0, none⟩)) (by rw [List.getElem?_toArray]; exact rfl) (by kernel_rfl) (by kernel_rfl) (by kernel_rfl) (by intro _ _ _ h; exact h) (Or.inl ⟨by kernel_rfl, ?_⟩) hHeld ?_
    · intro w hSw; obtain ⟨y1, y2, y3, y4, y5⟩ := hSw; go_simp
    (try simp only [Act.put, List.setIfInBounds_toArray, List.set_cons_zero, List.set_cons_succ])
    refine wpAnyH_take (i := 5) (oi := _) (v := .pointer (some ⟨g, 0, none⟩)) (by rw [List.getElem?_toArray]; exact rfl) (by kernel_rfl) (by kernel_rfl) (by kernel_rfl) (by intro _ _ _ h; exact h) (Or.inl ⟨by kernel_rfl, ?_⟩) hHeld ?_
    · intro w hSw; obtain ⟨y1, y2, y3, y4, y5⟩ := hSw; go_simp
    (try simp only [Act.put, List.setIfInBounds_toArray, List.set_cons_zero, List.set_cons_succ])
    refine wpAnyH_take (i := 6) (oi := _) (v := .pointer (some ⟨g, 0, none⟩)) (by rw [List.getElem?_toArray]; exact rfl) (by kernel_rfl) (by kernel_rfl) (by kernel_rfl) (by intro _ _ _ h; exact h) (Or.inl ⟨by kernel_rfl, ?_⟩) hHeld ?_
    · intro w hSw; obtain ⟨y1, y2, y3, y4, y5⟩ := hSw; go_simp
    (try simp only [Act.put, List.setIfInBounds_toArray, List.set_cons_zero, List.set_cons_succ])
    refine wpAnyH_take (i := 7) (oi := _) (v := .slice (some ⟨g2, 0, none⟩) (k + 1) d2) (by rw [List.getElem?_toArray]; exact rfl) (by kernel_rfl) (by kernel_rfl) (by kernel_rfl) (by intro _ _ _ h; exact h) (Or.inl ⟨by kernel_rfl, ?_⟩) hHeld ?_
    · intro w hSw; obtain ⟨y1, y2, y3, y4, y5⟩ := hSw; go_simp
    (try simp only [Act.put, List.setIfInBounds_toArray, List.set_cons_zero, List.set_cons_succ])
    refine wpAnyH_take (i := 8) (oi := _) (v := .int .i64 ((k : Int) + 1)) (by rw [List.getElem?_toArray]; exact rfl) (by kernel_rfl) (by kernel_rfl) (by kernel_rfl) (by intro _ _ _ h; exact h) (Or.inl ⟨by kernel_rfl, ?_⟩) hHeld ?_
    · intro w hSw; obtain ⟨y1, y2, y3, y4, y5⟩ := hSw; go_simp
    (try simp only [Act.put, List.setIfInBounds_toArray, List.set_cons_zero, List.set_cons_succ])
    refine wpAnyH_take (i := 9) (oi := _) (v := .int .i64 (k : Int)) (by rw [List.getElem?_toArray]; exact rfl) (by kernel_rfl) (by kernel_rfl) (by kernel_rfl) (by intro _ _ _ h; exact h) (Or.inl ⟨by kernel_rfl, ?_⟩) hHeld ?_
    · intro w hSw; obtain ⟨y1, y2, y3, y4, y5⟩ := hSw; go_simp; (rw [IntKind.wrap_i64]; omega)
    (try simp only [Act.put, List.setIfInBounds_toArray, List.set_cons_zero, List.set_cons_succ])
    refine wpAnyH_take (i := 10) (oi := _) (v := .agg #[.int .i64 (h 0), .int .i64 (h 1), .int .i64 (h 2), .int .i64 (h 3)]) (by rw [List.getElem?_toArray]; exact rfl) (by kernel_rfl) (by kernel_rfl) (by kernel_rfl) (by intro _ _ _ h; exact h) (Or.inl ⟨by kernel_rfl, ?_⟩) hHeld ?_
    · intro w hSw; obtain ⟨y1, y2, y3, y4, y5⟩ := hSw; go_simp
    (try simp only [Act.put, List.setIfInBounds_toArray, List.set_cons_zero, List.set_cons_succ])
    refine wpAnyH_take (i := 11) (oi := _) (v := .pointer (some ⟨g2, k * 4, none⟩)) (by rw [List.getElem?_toArray]; exact rfl) (by kernel_rfl) (by kernel_rfl) (by kernel_rfl) (by intro _ _ _ h; exact h) (Or.inl ⟨by kernel_rfl, ?_⟩) hHeld ?_
    · intro w hSw; obtain ⟨y1, y2, y3, y4, y5⟩ := hSw; go_simp; (intro hq; omega)
    (try simp only [Act.put, List.setIfInBounds_toArray, List.set_cons_zero, List.set_cons_succ])
    refine wpAnyH_ready (rs := [12]) (by kernel_rfl) (by simp) ?_
    refine AllReadyH.cons (o := _) (by rw [List.getElem?_toArray]; exact rfl) (fun K hK => ?_) AllReadyH.nil
    have os := WKD.out.thr.stk
    simp only at os
    have hlen : hs'.length = k * 4 + 4 := by have := os.1; simp at this; omega
    obtain ⟨u0, hu0⟩ : ∃ u, WD.cell? ⟨g2, k * 4, none⟩ = some u := ⟨_, own_cellV os (List.getElem?_eq_getElem (by simp; omega))⟩
    obtain ⟨u1, hu1⟩ : ∃ u, WD.cell? ⟨g2, k * 4 + 1, none⟩ = some u := ⟨_, own_cellV os (List.getElem?_eq_getElem (by simp; omega))⟩
    obtain ⟨u2, hu2⟩ : ∃ u, WD.cell? ⟨g2, k * 4 + 2, none⟩ = some u := ⟨_, own_cellV os (List.getElem?_eq_getElem (by simp; omega))⟩
    obtain ⟨u3, hu3⟩ : ∃ u, WD.cell? ⟨g2, k * 4 + 3, none⟩ = some u := ⟨_, own_cellV os (List.getElem?_eq_getElem (by simp; omega))⟩
    have z0 := os.frozenAt (k * 4)
    have z1 := os.frozenAt (k * 4 + 1)
    have z2 := os.frozenAt (k * 4 + 2)
    have z3 := os.frozenAt (k * 4 + 3)
    clear os hHeld
    rw [if_pos (by kernel_rfl)]
    go_simp
    refine hK.out _ _ ?_ (fun hHeld => ?_)
    · obtain ⟨x0, x1, x2, x3, -⟩ := (XD.out.set4 (b := g2) (i0 := k * 4) (i1 := k * 4 + 1) (i2 := k * 4 + 2) (i3 := k * 4 + 3) (Ne.symm HN.out.2.2) (.int .i64 (h 0)) (.int .i64 (h 1)) (.int .i64 (h 2)) (.int .i64 (h 3))).four
      exact ⟨(WKD.out.box.set4 (Ne.symm HN.out.1) _ _ _ _).five.1, x0, x1, x2, x3⟩
    clear hK K hHeld hu0 hu1 hu2 hu3 z0 z1 z2 z3
    (try simp only [Act.put, List.setIfInBounds_toArray, List.set_cons_zero, List.set_cons_succ])
    refine wpAnyH_done (by kernel_rfl) ?_ _
    go_wp2
    (try simp only [Exit.inBlock, Exit.then])
    refine bodyPost_end (v := .tuple #[]) (by simp [results, Try.results23, go_sem]; try rfl) rfl ?_
    refine ⟨rfl, ?_, below_set4 BD.out HN.out.2.1 _ _ _ _⟩
    rw [← HT.out]
    exact ⟨WKD.out.box.set4 (Ne.symm HN.out.1) _ _ _ _, WKD.out.thr.swapped h, hlow, WKD.out.out⟩

/-- clear of a list of one struct of four numbers. -/
theorem run_clear_four {P : Program} (w : World) (t e ty : TypeId) (ht : P.underlying t = some (.slice e)) (hv : ∀ w, (zeroValue e).run P w = .ok (.agg #[.int .i64 0, .int .i64 0, .int .i64 0, .int .i64 0]) w) (b o c : Nat)
    (hc : ∀ j, j < 4 → (w.cell? ⟨b, o + j, none⟩).isSome = true) (hf : ∀ j, j < 4 → w.frozen? ⟨b, o + j, none⟩ = false) :
    (Builtin.clear_ #[t] ty #[.slice (some ⟨b, o, none⟩) 1 c]).run P w = .ok (.tuple #[]) ((((w.setCell ⟨b, o, none⟩ (.int .i64 0)).setCell ⟨b, o + 1, none⟩ (.int .i64 0)).setCell ⟨b, o + 2, none⟩ (.int .i64 0)).setCell ⟨b, o + 3, none⟩ (.int .i64 0)) := by
  have hst := run_storeCells_cells (P := P) b o [.int .i64 0, .int .i64 0, .int .i64 0, .int .i64 0] 0 w (by simpa using hc) (by simpa using hf) (by intro v hv'; simp at hv'; rw [hv']; rfl)
  have hz : (Builtin.zeroCells (Value.agg #[.int .i64 0, .int .i64 0, .int .i64 0, .int .i64 0]).cells 1).toList = [.int .i64 0, .int .i64 0, .int .i64 0, .int .i64 0] := by kernel_rfl
  simp only [Nat.add_zero] at hst
  simp [Builtin.clear_, run_underlying ht, hv, hz, hst, World.setCells, Nat.add_assoc]
theorem zeroHelp (w : World) : (zeroValue 37).run Try.prog w = .ok (.agg #[.int .i64 0, .int .i64 0, .int .i64 0, .int .i64 0]) w := by kernel_rfl
/-- The first m of a list of the call's own. -/
theorem own_cut {w : World} {base : Nat} {e : TypeId} {size g n m cap : Nat} {xs : List Value} (h : w.ownsRow base e size (.slice (some ⟨g, 0, none⟩) n cap) n xs) (hm : m ≤ n) : w.ownsRow base e size (.slice (some ⟨g, 0, none⟩) m cap) m (xs.take (m * size)) := by
  have hl : m * size ≤ n * size := Nat.mul_le_mul_right size hm
  refine ⟨by rw [List.length_take, h.1]; omega, ?_⟩
  rcases h.2 with ⟨e, -⟩ | ⟨g', cap', cur, e, hb, hh, hc, hx, hs, ht⟩
  · cases e
  · cases e
    refine .inr ⟨g, cap, cur, rfl, hb, hh, by omega, hx, hs, ?_⟩
    rw [← ht, List.take_take, Nat.min_eq_left hl]
set_option maxHeartbeats 2000000 in
set_option maxRecDepth 100000 in
theorem popW_any (base g : Nat) (v0 v1 v2 : Value) (t : TD) (w : World) (hs : t.n2 ≤ 1048576) (hw : WkO w base g v0 v1 v2 t) :
    Calls Try.prog 34 #[.pointer (some ⟨g, 0, none⟩)] w fun e w' => e = .returned (.tuple #[]) ∧ Below base w w' ∧ ∃ u, WkO w' base g v0 v1 u t.pop := by
  obtain ⟨n0, fs, pc, on, n1, gs, n2, hs'⟩ := t
  simp only at hs
  have hg := hw.box.lt
  have hlow := hw.low
  obtain ⟨T', hT'⟩ : ∃ T', TD.pop ⟨n0, fs, pc, on, n1, gs, n2, hs'⟩ = T' := ⟨_, rfl⟩
  rw [hT']
  by_cases hn : n2 = 0
  · subst hn
    obtain ⟨p2, d2, rfl, -⟩ := owns_slice hw.thr.stk
    have hs0 : hs' = [] := List.length_eq_zero_iff.1 (by have := hw.thr.stk.1; simpa using this)
    have HT : Hid (T' = ⟨n0, fs, pc, on, n1, gs, 0, hs'⟩) := by rw [← hT', hs0]; rfl
    have hcl : ∀ ty a c, (Builtin.clear_ #[32] ty #[.slice a 0 c]).run Try.prog w = .ok (.tuple #[]) w := fun ty a c => by
      cases a <;> simp [Builtin.clear_, run_underlying Try.underlying32]
    obtain ⟨y0, y1, y2, y3, y4, f0, -⟩ := hw.box.five
    have WK : Hid (WkO w base g v0 v1 (.slice p2 0 d2) ⟨n0, fs, pc, on, n1, gs, 0, hs'⟩) := hw
    clear hw hT' y1 y2 y3 y4
    go_enter Try.func34, Try.ntmps34
    go_wp2
    (try simp only [Exit.inBlock, Exit.then])
    refine bodyPost_end (v := .tuple #[]) (by simp [results, Try.results34, go_sem]; try rfl) rfl ?_
    refine ⟨rfl, (Below.refl _ _).setCell hlow _, .slice p2 0 d2, ?_⟩
    rw [HT.out]
    exact ⟨WK.out.box.put 0 _, WK.out.thr.set (q := ⟨g, 0, none⟩) WK.out.out _, hlow, WK.out.out⟩
  · obtain ⟨g2, d2, rfl, hne, hl2, hlt2⟩ := hw.last hn
    obtain ⟨k, rfl⟩ : ∃ k, n2 = k + 1 := ⟨n2 - 1, by omega⟩
    simp only at hw
    have os := hw.thr.stk
    simp only at os
    have hlen : hs'.length = k * 4 + 4 := by have := os.1; simp at this; omega
    obtain ⟨_, cc, ec, hcap⟩ := owns_slice os
    cases ec
    have hcap1 : k ≤ d2 := by omega
    have hcl := fun ty c => run_clear_four w 32 37 ty Try.underlying32 zeroHelp g2 (k * 4) c (fun j hj => by rw [own_cellV os (List.getElem?_eq_getElem (by simp; omega))]; rfl) (fun j _ => os.frozenAt (k * 4 + j))
    obtain ⟨y0, y1, y2, y3, y4, f0, -⟩ := hw.box.five
    have HT : Hid (T' = ⟨n0, fs, pc, on, n1, gs, k, hs'.take (k * 4)⟩) := by rw [← hT']; rfl
    have WK : Hid (WkO w base g v0 v1 (.slice (some ⟨g2, 0, none⟩) (k + 1) d2) ⟨n0, fs, pc, on, n1, gs, k + 1, hs'⟩) := hw
    have HN : Hid (g2 ≠ g ∧ base ≤ g2) := ⟨hne, hl2⟩
    have HL : Hid (hs'.length = k * 4 + 4) := hlen
    clear hT' hw os y1 y2 y3 y4 hlen
    go_enter Try.func34, Try.ntmps34
    go_wp2
    (try simp only [Exit.inBlock, Exit.then])
    refine bodyPost_end (v := .tuple #[]) (by simp [results, Try.results34, go_sem]; try rfl) rfl ?_
    have T1 := WK.out.thr.swapped (fun _ => 0)
    have e1 : TD.swap ⟨n0, fs, pc, on, n1, gs, k + 1, hs'⟩ (fun _ => 0) = ⟨n0, fs, pc, on, n1, gs, k + 1, hs'.take (k * 4) ++ helpL (fun _ => 0)⟩ := rfl
    rw [e1] at T1
    have B1 := WK.out.box.set4 (b := g2) (i0 := k * 4) (i1 := k * 4 + 1) (i2 := k * 4 + 2) (i3 := k * 4 + 3) (Ne.symm HN.out.1) (.int .i64 0) (.int .i64 0) (.int .i64 0) (.int .i64 0)
    have o2 := own_cut T1.stk (m := k) (by simp)
    simp only [List.map_append] at o2
    rw [List.take_append_of_le_length (by simp; have := HL.out; omega), List.take_of_length_le (by simp; have := HL.out; omega)] at o2
    have T2 : ThO _ base v0 v1 (.slice (some ⟨g2, 0, none⟩) k d2) ⟨n0, fs, pc, on, n1, gs, k, hs'.take (k * 4)⟩ := ⟨T1.ops, T1.got, o2, T1.sep⟩
    refine ⟨rfl, (below_set4 (Below.refl _ _) HN.out.2 _ _ _ _).setCell hlow _, .slice (some ⟨g2, 0, none⟩) k d2, ?_⟩
    rw [HT.out]
    exact ⟨B1.put 0 _, T2.set (q := ⟨g, 0, none⟩) WK.out.out _, hlow, WK.out.out⟩
end Go.Proofs.Ytemeklfkbjpnmas
