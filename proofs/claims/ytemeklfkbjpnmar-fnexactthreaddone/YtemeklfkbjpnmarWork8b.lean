/- What is done to a worker's Stack: swap, pop, top. -/
import Derived.Test.YtemeklfkbjpnmarWork8
import Derived.Laws.IdiomCopy
namespace Go.Proofs.Ytemeklfkbjpnmar
open Go.ChangeShapes Go.WideShapes Go.ChangeAt Go.RowKit Go.Joins

noncomputable def topWL : List Oper := match Try.f71.body with
  | some (.seq _ (.seq _ (.seq (.region _ ops _) _))) => ops.toList
  | _ => []
theorem WkO.set4 {w : World} {base g : Nat} {v0 v1 v2 : Value} {t : TD} (h : WkO w base g v0 v1 v2 t) {b i0 i1 i2 i3 : Nat} (hg : b ≠ g) (hb : ¬ In3 v0 v1 v2 b) (x0 x1 x2 x3 : Value) :
    WkO ((((w.setCell ⟨b, i0, none⟩ x0).setCell ⟨b, i1, none⟩ x1).setCell ⟨b, i2, none⟩ x2).setCell ⟨b, i3, none⟩ x3) base g v0 v1 v2 t :=
  ⟨h.box.set4 (Ne.symm hg) x0 x1 x2 x3, (((h.thr.set (q := ⟨b, i0, none⟩) hb x0).set (q := ⟨b, i1, none⟩) hb x1).set (q := ⟨b, i2, none⟩) hb x2).set (q := ⟨b, i3, none⟩) hb x3, h.low, h.out⟩
set_option maxHeartbeats 2000000 in
set_option maxRecDepth 100000 in
theorem topW_any (base g : Nat) (v0 v1 v2 : Value) (t : TD) (w : World) (hs : t.n2 ≤ 1048576) (hw : WkO w base g v0 v1 v2 t) :
    Calls Try.prog 71 #[.pointer (some ⟨g, 0, none⟩)] w fun e w' => e = .returned (.tuple #[t.topV, .bool (decide (t.n2 ≠ 0))]) ∧ Below w.heap.size w w' := by
  obtain ⟨n0, fs, pc, on, n1, gs, n2, hs'⟩ := t
  simp only at hs
  have hg := hw.box.lt
  obtain ⟨W, hW⟩ : ∃ W, w.alloc (.cells #[.int .i64 0, .int .i64 0, .int .i64 0, .int .i64 0] 62) = W := ⟨_, rfl⟩
  have hb0 : Below w.heap.size w W := by rw [← hW]; exact (Below.refl _ w).alloc (Nat.le_refl _) _
  have XR : Hid (Box W w.heap.size #[.int .i64 0, .int .i64 0, .int .i64 0, .int .i64 0] 62) := by rw [← hW]; exact box_of w _ _
  have WK : Hid (WkO W base g v0 v1 v2 ⟨n0, fs, pc, on, n1, gs, n2, hs'⟩) := hw.below hb0
  have HB0 : Hid (Below w.heap.size w W) := hb0
  have HW : Hid _ := hW
  obtain ⟨V, hV⟩ : ∃ V, TD.topV ⟨n0, fs, pc, on, n1, gs, n2, hs'⟩ = V := ⟨_, rfl⟩
  rw [hV]
  by_cases hn : n2 = 0
  · subst hn
    have HV : Hid (V = .agg #[.int .i64 0, .int .i64 0, .int .i64 0, .int .i64 0]) := by rw [← hV]; rfl
    obtain ⟨p2, d2, rfl, -⟩ := owns_slice hw.thr.stk
    obtain ⟨y0, -⟩ := hw.box.five
    simp only at y0
    have y0' := (hb0.cell hg).trans y0
    have HD : Hid (decide ((0 : Nat) ≠ 0) = false) := rfl
    simp only [show decide ((0 : Nat) ≠ 0) = false from rfl]
    clear hV
    subst hW
    clear hw hb0
    go_enter Try.func71, Try.ntmps71
    go_wp2
    (try simp only [Exit.inBlock, Exit.then])
    refine bodyPost_ret (by simp [results, Try.results71, go_sem]; try rfl) rfl ?_
    exact ⟨by first | (rw [HV.out]; done) | (rw [HV.out]; rfl), ((Below.refl _ w).alloc (Nat.le_refl _) _).alloc (by simp) _⟩
  · obtain ⟨g2, d2, rfl, hne, hl2, hlt2⟩ := hw.last hn
    obtain ⟨k, rfl⟩ : ∃ k, n2 = k + 1 := ⟨n2 - 1, by omega⟩
    simp only at WK
    have hk0 : (0 : Int) ≤ (k : Int) := by omega
    have hm2 : g2 ≠ w.heap.size := by omega
    have hgm : g ≠ w.heap.size := by omega
    obtain ⟨t0, ht0⟩ : ∃ t, hs'.getD (k * 4) 0 = t := ⟨_, rfl⟩
    obtain ⟨t1, ht1⟩ : ∃ t, hs'.getD (k * 4 + 1) 0 = t := ⟨_, rfl⟩
    obtain ⟨t2, ht2⟩ : ∃ t, hs'.getD (k * 4 + 2) 0 = t := ⟨_, rfl⟩
    obtain ⟨t3, ht3⟩ : ∃ t, hs'.getD (k * 4 + 3) 0 = t := ⟨_, rfl⟩
    have HV : Hid (V = .agg #[.int .i64 t0, .int .i64 t1, .int .i64 t2, .int .i64 t3]) := by
      rw [← hV, TD.topV, if_neg hn]
      show Value.agg #[.int .i64 (hs'.getD ((k + 1 - 1) * 4 + 0) 0), .int .i64 (hs'.getD ((k + 1 - 1) * 4 + 1) 0), .int .i64 (hs'.getD ((k + 1 - 1) * 4 + 2) 0), .int .i64 (hs'.getD ((k + 1 - 1) * 4 + 3) 0)] = _
      rw [Nat.add_sub_cancel, Nat.add_zero, ht0, ht1, ht2, ht3]
    have HNE : Hid (decide (k + 1 ≠ 0) = true) := decide_eq_true hn
    rw [HNE.out]
    have CELS : Hid (∀ w', WkO w' base g v0 v1 (.slice (some ⟨g2, 0, none⟩) (k + 1) d2) ⟨n0, fs, pc, on, n1, gs, k + 1, hs'⟩ → w'.cell? ⟨g, 0, none⟩ = some (.slice (some ⟨g2, 0, none⟩) (k + 1) d2) ∧ w'.cell? ⟨g2, k * 4, none⟩ = some (.int .i64 t0) ∧ w'.cell? ⟨g2, k * 4 + 1, none⟩ = some (.int .i64 t1) ∧ w'.cell? ⟨g2, k * 4 + 2, none⟩ = some (.int .i64 t2) ∧ w'.cell? ⟨g2, k * 4 + 3, none⟩ = some (.int .i64 t3)) := fun w' hw => by
      have os := hw.thr.stk
      simp only at os
      have hlen : hs'.length = k * 4 + 4 := by have := os.1; simp at this; omega
      have q : ∀ i, i < k * 4 + 4 → w'.cell? ⟨g2, i, none⟩ = some (.int .i64 (hs'.getD i 0)) := fun i hi => by
        refine own_cellV os ?_
        rw [List.getElem?_map, List.getElem?_eq_getElem (by omega)]
        simp [List.getD, show i < hs'.length by omega]
      refine ⟨hw.box.five.1, ?_, ?_, ?_, ?_⟩
      · rw [q _ (by omega), ht0]
      · rw [q _ (by omega), ht1]
      · rw [q _ (by omega), ht2]
      · rw [q _ (by omega), ht3]
    obtain ⟨y0, -⟩ := WK.out.box.five
    have HN : Hid (g2 ≠ w.heap.size ∧ g ≠ w.heap.size) := ⟨hm2, hgm⟩
    have NIN : Hid (¬ In3 v0 v1 (.slice (some ⟨g2, 0, none⟩) (k + 1) d2) w.heap.size) := fun hk => by have := (hw.thr.blk hk).2; omega
    clear hw hb0 hW hV ht0 ht1 ht2 ht3
    go_enter Try.func71, Try.ntmps71
    go_upto_region 1 with (fail)
    rw [HW.out]
    go_upto_region 4 with (fail)
    change (Code.region _ (List.toArray topWL) true).wp _ _ _ _
    refine wp_region_held_drew (S := fun w' => w'.cell? ⟨g, 0, none⟩ = some (.slice (some ⟨g2, 0, none⟩) (k + 1) d2) ∧ w'.cell? ⟨g2, k * 4, none⟩ = some (.int .i64 t0) ∧ w'.cell? ⟨g2, k * 4 + 1, none⟩ = some (.int .i64 t1) ∧ w'.cell? ⟨g2, k * 4 + 2, none⟩ = some (.int .i64 t2) ∧ w'.cell? ⟨g2, k * 4 + 3, none⟩ = some (.int .i64 t3)) (by kernel_rfl) ?_ (fun hHeld => ?_)
    · exact CELS.out _ (WK.out.below (Below.refl _ _).drew)
    obtain ⟨WD, hWD⟩ : ∃ WD, W.drew = WD := ⟨_, rfl⟩
    have WKD : Hid (WkO WD base g v0 v1 (.slice (some ⟨g2, 0, none⟩) (k + 1) d2) ⟨n0, fs, pc, on, n1, gs, k + 1, hs'⟩) := by rw [← hWD]; exact WK.out.below (Below.refl _ _).drew
    have XD : Hid (Box WD w.heap.size #[.int .i64 0, .int .i64 0, .int .i64 0, .int .i64 0] 62) := by rw [← hWD]; exact XR.out.drew
    have BD : Hid (Below w.heap.size w WD) := by rw [← hWD]; exact HB0.out.drew
    rw [hWD] at hHeld ⊢
    clear hWD y0
    refine wpAnyH_take (i := 0) (oi := _) (v := .pointer (some ⟨g, 0, none⟩)) (by rw [List.getElem?_toArray]; exact rfl) (by kernel_rfl) (by kernel_rfl) (by kernel_rfl) (by intro _ _ _ h; exact h) (Or.inl ⟨by kernel_rfl, ?_⟩) hHeld ?_
    · intro w hSw; obtain ⟨y1, y2, y3, y4, y5⟩ := hSw; go_simp
    (try simp only [Act.put, List.setIfInBounds_toArray, List.set_cons_zero, List.set_cons_succ])
    refine wpAnyH_take (i := 1) (oi := _) (v := .pointer (some ⟨g, 0, none⟩)) (by rw [List.getElem?_toArray]; exact rfl) (by kernel_rfl) (by kernel_rfl) (by kernel_rfl) (by intro _ _ _ h; exact h) (Or.inl ⟨by kernel_rfl, ?_⟩) hHeld ?_
    · intro w hSw; obtain ⟨y1, y2, y3, y4, y5⟩ := hSw; go_simp
    (try simp only [Act.put, List.setIfInBounds_toArray, List.set_cons_zero, List.set_cons_succ])
    refine wpAnyH_take (i := 2) (oi := _) (v := .pointer (some ⟨g, 0, none⟩)) (by rw [List.getElem?_toArray]; exact rfl) (by kernel_rfl) (by kernel_rfl) (by kernel_rfl) (by intro _ _ _ h; exact h) (Or.inl ⟨by kernel_rfl, ?_⟩) hHeld ?_
    · intro w hSw; obtain ⟨y1, y2, y3, y4, y5⟩ := hSw; go_simp
    (try simp only [Act.put, List.setIfInBounds_toArray, List.set_cons_zero, List.set_cons_succ])
    refine wpAnyH_take (i := 3) (oi := _) (v := .slice (some ⟨g2, 0, none⟩) (k + 1) d2) (by rw [List.getElem?_toArray]; exact rfl) (by kernel_rfl) (by kernel_rfl) (by kernel_rfl) (by intro _ _ _ h; exact h) (Or.inl ⟨by kernel_rfl, ?_⟩) hHeld ?_
    · intro w hSw; obtain ⟨y1, y2, y3, y4, y5⟩ := hSw; go_simp
    (try simp only [Act.put, List.setIfInBounds_toArray, List.set_cons_zero, List.set_cons_succ])
    refine wpAnyH_take (i := 4) (oi := _) (v := .pointer (some ⟨g, 0, none⟩)) (by rw [List.getElem?_toArray]; exact rfl) (by kernel_rfl) (by kernel_rfl) (by kernel_rfl) (by intro _ _ _ h; exact h) (Or.inl ⟨by kernel_rfl, ?_⟩) hHeld ?_
    · intro w hSw; obtain ⟨y1, y2, y3, y4, y5⟩ := hSw; go_simp
    (try simp only [Act.put, List.setIfInBounds_toArray, List.set_cons_zero, List.set_cons_succ])
    refine wpAnyH_take (i := 5) (oi := _) (v := .pointer (some ⟨g, 0, none⟩)) (by rw [List.getElem?_toArray]; exact rfl) (by kernel_rfl) (by kernel_rfl) (by kernel_rfl) (by intro _ _ _ h; exact h) (Or.inl ⟨by kernel_rfl, ?_⟩) hHeld ?_
    · intro w hSw; obtain ⟨y1, y2, y3, y4, y5⟩ := hSw; go_simp
    (try simp only [Act.put, List.setIfInBounds_toArray, List.set_cons_zero, List.set_cons_succ])
    refine wpAnyH_take (i := 6) (oi := _) (v := .pointer (some ⟨g, 0, none⟩)) (by rw [List.getElem?_toArray]; exact rfl) (by kernel_rfl) (by kernel_rfl) (by kernel_rfl) (by intro _ _ _ h; exact h) (Or.inl ⟨by kernel_rfl, ?_⟩) hHeld ?_
    · intro w hSw; obtain ⟨y1, y2, y3, y4, y5⟩ := hSw; go_simp
    (try simp only [Act.put, List.setIfInBounds_toArray, List.set_cons_zero, List.set_cons_succ])
    refine wpAnyH_take (i := 7) (oi := _) (v := .slice (some ⟨g2, 0, none⟩) (k + 1) d2) (by rw [List.getElem?_toArray]; exact rfl) (by kernel_rfl) (by kernel_rfl) (by kernel_rfl) (by intro _ _ _ h; exact h) (Or.inl ⟨by kernel_rfl, ?_⟩) hHeld ?_
    · intro w hSw; obtain ⟨y1, y2, y3, y4, y5⟩ := hSw; go_simp
    (try simp only [Act.put, List.setIfInBounds_toArray, List.set_cons_zero, List.set_cons_succ])
    refine wpAnyH_take (i := 8) (oi := _) (v := .int .i64 ((k : Int) + 1)) (by rw [List.getElem?_toArray]; exact rfl) (by kernel_rfl) (by kernel_rfl) (by kernel_rfl) (by intro _ _ _ h; exact h) (Or.inl ⟨by kernel_rfl, ?_⟩) hHeld ?_
    · intro w hSw; obtain ⟨y1, y2, y3, y4, y5⟩ := hSw; go_simp
    (try simp only [Act.put, List.setIfInBounds_toArray, List.set_cons_zero, List.set_cons_succ])
    refine wpAnyH_take (i := 9) (oi := _) (v := .int .i64 (k : Int)) (by rw [List.getElem?_toArray]; exact rfl) (by kernel_rfl) (by kernel_rfl) (by kernel_rfl) (by intro _ _ _ h; exact h) (Or.inl ⟨by kernel_rfl, ?_⟩) hHeld ?_
    · intro w hSw; obtain ⟨y1, y2, y3, y4, y5⟩ := hSw; go_simp; (rw [IntKind.wrap_i64]; omega)
    (try simp only [Act.put, List.setIfInBounds_toArray, List.set_cons_zero, List.set_cons_succ])
    refine wpAnyH_take (i := 10) (oi := _) (v := .pointer (some ⟨g2, k * 4, none⟩)) (by rw [List.getElem?_toArray]; exact rfl) (by kernel_rfl) (by kernel_rfl) (by kernel_rfl) (by intro _ _ _ h; exact h) (Or.inl ⟨by kernel_rfl, ?_⟩) hHeld ?_
    · intro w hSw; obtain ⟨y1, y2, y3, y4, y5⟩ := hSw; go_simp; (intro hq; omega)
    (try simp only [Act.put, List.setIfInBounds_toArray, List.set_cons_zero, List.set_cons_succ])
    refine wpAnyH_take (i := 11) (oi := _) (v := .agg #[.int .i64 t0, .int .i64 t1, .int .i64 t2, .int .i64 t3]) (by rw [List.getElem?_toArray]; exact rfl) (by kernel_rfl) (by kernel_rfl) (by kernel_rfl) (by intro _ _ _ h; exact h) (Or.inl ⟨by kernel_rfl, ?_⟩) hHeld ?_
    · intro w hSw; obtain ⟨y1, y2, y3, y4, y5⟩ := hSw; go_simp
    (try simp only [Act.put, List.setIfInBounds_toArray, List.set_cons_zero, List.set_cons_succ])
    refine wpAnyH_ready (rs := [12]) (by kernel_rfl) (by simp) ?_
    refine AllReadyH.cons (o := _) (by rw [List.getElem?_toArray]; exact rfl) (fun K hK => ?_) AllReadyH.nil
    obtain ⟨r0, r1, r2, r3, f0, f1, f2, f3⟩ := XD.out.four
    clear hHeld
    rw [if_pos (by kernel_rfl)]
    go_simp
    have S1 : Hid (WkO _ base g v0 v1 (.slice (some ⟨g2, 0, none⟩) (k + 1) d2) ⟨n0, fs, pc, on, n1, gs, k + 1, hs'⟩) := WKD.out.set4 (b := w.heap.size) (i0 := 0) (i1 := 1) (i2 := 2) (i3 := 3) (Ne.symm HN.out.2) NIN.out (.int .i64 t0) (.int .i64 t1) (.int .i64 t2) (.int .i64 t3)
    refine hK.out _ _ (CELS.out _ S1.out) (fun hHeld => ?_)
    clear hK K hHeld
    (try simp only [Act.put, List.setIfInBounds_toArray, List.set_cons_zero, List.set_cons_succ])
    refine wpAnyH_ready (rs := [13]) (by kernel_rfl) (by simp) ?_
    refine AllReadyH.cons (o := _) (by rw [List.getElem?_toArray]; exact rfl) (fun K hK => ?_) AllReadyH.nil
    rw [if_pos (by kernel_rfl)]
    go_simp
    refine hK.out _ _ (CELS.out _ S1.out) (fun hHeld => ?_)
    clear hK K hHeld
    (try simp only [Act.put, List.setIfInBounds_toArray, List.set_cons_zero, List.set_cons_succ])
    refine wpAnyH_done (by kernel_rfl) ?_ _
    obtain ⟨e0, e1, e2, e3, -⟩ := ((((XD.out.put 0 (.int .i64 t0)).put 1 (.int .i64 t1)).put 2 (.int .i64 t2)).put 3 (.int .i64 t3)).four
    clear r0 r1 r2 r3 f0 f1 f2 f3
    go_wp2
    (try simp only [Exit.inBlock, Exit.then])
    refine bodyPost_ret (by simp [results, Try.results71, go_sem, e0, e1, e2, e3]; try rfl) rfl ?_
    exact ⟨by first | (rw [HV.out]; done) | (rw [HV.out]; rfl), below_set4 BD.out (Nat.le_refl _) _ _ _ _⟩

/-- clear of a list of one struct of four numbers. -/
theorem run_clear_four {P : Program} (w : World) (t e ty : TypeId) (ht : P.underlying t = some (.slice e)) (hv : ∀ w, (zeroValue e).run P w = .ok (.agg #[.int .i64 0, .int .i64 0, .int .i64 0, .int .i64 0]) w) (b o c : Nat)
    (hc : ∀ j, j < 4 → (w.cell? ⟨b, o + j, none⟩).isSome = true) (hf : ∀ j, j < 4 → w.frozen? ⟨b, o + j, none⟩ = false) :
    (Builtin.clear_ #[t] ty #[.slice (some ⟨b, o, none⟩) 1 c]).run P w = .ok (.tuple #[]) ((((w.setCell ⟨b, o, none⟩ (.int .i64 0)).setCell ⟨b, o + 1, none⟩ (.int .i64 0)).setCell ⟨b, o + 2, none⟩ (.int .i64 0)).setCell ⟨b, o + 3, none⟩ (.int .i64 0)) := by
  have hst := run_storeCells_cells (P := P) b o [.int .i64 0, .int .i64 0, .int .i64 0, .int .i64 0] 0 w (by simpa using hc) (by simpa using hf) (by intro v hv'; simp at hv'; rw [hv']; rfl)
  have hz : (Builtin.zeroCells (Value.agg #[.int .i64 0, .int .i64 0, .int .i64 0, .int .i64 0]).cells 1).toList = [.int .i64 0, .int .i64 0, .int .i64 0, .int .i64 0] := by kernel_rfl
  simp only [Nat.add_zero] at hst
  simp [Builtin.clear_, run_underlying ht, hv, hz, hst, World.setCells, Nat.add_assoc]
theorem zeroHelp (w : World) : (zeroValue 62).run Try.prog w = .ok (.agg #[.int .i64 0, .int .i64 0, .int .i64 0, .int .i64 0]) w := by kernel_rfl
/-- The first m of a list of the call's own. -/
theorem own_cut {w : World} {base : Nat} {e : TypeId} {size g n m cap : Nat} {xs : List Value} (h : w.ownsRow base e size (.slice (some ⟨g, 0, none⟩) n cap) n xs) (hm : m ≤ n) : w.ownsRow base e size (.slice (some ⟨g, 0, none⟩) m cap) m (xs.take (m * size)) := by
  have hl : m * size ≤ n * size := Nat.mul_le_mul_right size hm
  refine ⟨by rw [List.length_take, h.1]; omega, ?_⟩
  rcases h.2 with ⟨e, -⟩ | ⟨g', cap', cur, e, hb, hh, hc, hx, hs, ht⟩
  · cases e
  · cases e
    refine .inr ⟨g, cap, cur, rfl, hb, hh, by omega, hx, hs, ?_⟩
    rw [← ht, List.take_take, Nat.min_eq_left hl]
end Go.Proofs.Ytemeklfkbjpnmar
