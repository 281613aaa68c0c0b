/- A worker: a Thread whose lists are its own. workerOf, thread; what is done to its Stack. -/
import Derived.Test.YtemeklfkbjpnmasClone8
import Derived.Test.YtemeklfkbjpnmasSpec8c
import Derived.Deep.RegionHeld3
namespace Go.Proofs.Ytemeklfkbjpnmas
open Go.ChangeShapes Go.WideShapes Go.ChangeAt Go.RowKit Go.Joins

noncomputable def threadL : List Oper := match Try.f24.body with
  | some (.seq _ (.seq (.region _ ops _) _)) => ops.toList
  | _ => []
/-- A worker of the call's own, in the block g: its Stack's list comes first. -/
structure WkO (w : World) (base g : Nat) (v0 v1 v2 : Value) (t : TD) : Prop where
  box : Box w g #[v2, v0, .int .i64 t.pc, .bool t.on, v1] 56
  thr : ThO w base v0 v1 v2 t
  low : base ≤ g
  out : ¬ In3 v0 v1 v2 g
theorem WkO.below {w w' : World} {base g : Nat} {v0 v1 v2 : Value} {t : TD} (h : WkO w base g v0 v1 v2 t) (hb : Below w.heap.size w w') : WkO w' base g v0 v1 v2 t :=
  ⟨h.box.below hb h.box.lt, h.thr.below hb (Nat.le_refl _), h.low, h.out⟩
set_option maxHeartbeats 4000000 in
set_option maxRecDepth 100000 in
theorem workerOf_any (v0 v1 v2 : Value) (t : TD) (w : World) (hT : ThAt w v0 v1 v2 t) :
    Calls Try.prog 22 #[ThV v0 v1 v2 t.pc t.on] w fun e w' => ∃ u0 u1 u2 g, e = .returned (.pointer (some ⟨g, 0, none⟩)) ∧ WkO w' w.heap.size g u0 u1 u2 t ∧ Below w.heap.size w w' := by
  obtain ⟨⟨a0, c0, rfl, e0, h0⟩, ⟨a1, c1, rfl, e1, h1⟩, ⟨a2, c2, rfl, e2, h2⟩⟩ := hT
  obtain ⟨n0, fs, pc, on, n1, gs, n2, hs⟩ := t
  simp only at h0 h1 h2 ⊢
  obtain ⟨sz, hsz⟩ : ∃ sz, w.heap.size = sz := ⟨_, rfl⟩
  obtain ⟨W, hW⟩ : ∃ W, w.alloc (.cells #[.slice a0 n0 c0, .int .i64 pc, .bool on, .slice a1 n1 c1, .slice a2 n2 c2] 34) = W := ⟨_, rfl⟩
  have hWs : W.heap.size = sz + 1 := by rw [← hW, ← hsz]; simp
  have hb0 : Below sz w W := by rw [← hW, ← hsz]; exact (Below.refl _ w).alloc (Nat.le_refl _) _
  have X0 : Hid (Box W sz #[.slice a0 n0 c0, .int .i64 pc, .bool on, .slice a1 n1 c1, .slice a2 n2 c2] 34) := by rw [← hW, ← hsz]; exact box_of w _ _
  have HW : Hid _ := hW
  have HSZ : Hid (w.heap.size = sz) := hsz
  have HB0 : Hid (Below sz w W) := hb0
  have HWS : Hid (W.heap.size = sz + 1) := hWs
  have L0 : Hid (LAt 3 W (.slice a0 n0 c0) n0 fs) := ⟨a0, c0, rfl, e0, h0.below hb0 (by omega)⟩
  have L1 : Hid (LAt 2 W (.slice a1 n1 c1) n1 gs) := ⟨a1, c1, rfl, e1, h1.below hb0 (by omega)⟩
  have L2 : Hid (LAt 4 W (.slice a2 n2 c2) n2 hs) := ⟨a2, c2, rfl, e2, h2.below hb0 (by omega)⟩
  have BOX : Hid (∀ w', Below W.heap.size W w' → w'.cell? ⟨sz, 0, none⟩ = some (.slice a0 n0 c0) ∧ w'.cell? ⟨sz, 1, none⟩ = some (.int .i64 pc) ∧ w'.cell? ⟨sz, 2, none⟩ = some (.bool on) ∧ w'.cell? ⟨sz, 3, none⟩ = some (.slice a1 n1 c1) ∧ w'.cell? ⟨sz, 4, none⟩ = some (.slice a2 n2 c2)) := fun w' hb => by
    obtain ⟨y0, y1, y2, y3, y4, _⟩ := (X0.out.below hb X0.out.lt).five
    exact ⟨y0, y1, y2, y3, y4⟩
  have K0 : Hid (∀ w', w' = W.drew → w'.cell? ⟨sz, 0, none⟩ = some (.slice a0 n0 c0) ∧ w'.cell? ⟨sz, 1, none⟩ = some (.int .i64 pc) ∧ w'.cell? ⟨sz, 2, none⟩ = some (.bool on) ∧ w'.cell? ⟨sz, 3, none⟩ = some (.slice a1 n1 c1) ∧ w'.cell? ⟨sz, 4, none⟩ = some (.slice a2 n2 c2)) := fun w' hw => by rw [hw]; exact BOX.out _ (Below.refl _ _).drew
  clear h0 h1 h2 hW hb0 hsz hWs e0 e1 e2
  go_enter Try.func22, Try.ntmps22
  go_wp2_with fail
  rw [HW.out]
  (try rw [HSZ.out])
  go_region_held3 (fun w' => w'.cell? ⟨sz, 0, none⟩ = some (.slice a0 n0 c0) ∧ w'.cell? ⟨sz, 1, none⟩ = some (.int .i64 pc) ∧ w'.cell? ⟨sz, 2, none⟩ = some (.bool on) ∧ w'.cell? ⟨sz, 3, none⟩ = some (.slice a1 n1 c1) ∧ w'.cell? ⟨sz, 4, none⟩ = some (.slice a2 n2 c2))
    (first | (with_reducible exact K4.out) | (with_reducible exact K3.out) | (with_reducible exact K2.out) | (with_reducible exact K1.out) | (exact K0.out _ rfl) | go_keep)
    (first
    | (go_at_call 37
       refine (cloneHelp _ n2 hs _ (L2.out.below (Below.refl W.heap.size W).drew (Nat.le_refl _))).mono ?_
       rintro e w1 ⟨u2, rfl, own1, hb1⟩
       obtain ⟨p2, d2, rfl, -⟩ := owns_slice own1
       have hb1' : Below W.heap.size W w1 := (Below.refl W.heap.size W).drew.trans hb1
       have HB1 : Hid (Below W.heap.size W w1) := hb1'
       have K1 : Hid (w1.cell? ⟨sz, 0, none⟩ = some (.slice a0 n0 c0) ∧ w1.cell? ⟨sz, 1, none⟩ = some (.int .i64 pc) ∧ w1.cell? ⟨sz, 2, none⟩ = some (.bool on) ∧ w1.cell? ⟨sz, 3, none⟩ = some (.slice a1 n1 c1) ∧ w1.cell? ⟨sz, 4, none⟩ = some (.slice a2 n2 c2)) := BOX.out _ hb1'
       have O1 : Hid (w1.ownsRow W.heap.size 37 4 (.slice p2 n2 d2) n2 (hs.map I)) := own1
       clear hb1 hb1' own1)
    | (go_at_call 38
       refine (cloneOp _ n0 fs _ (L0.out.below HB1.out (Nat.le_refl _))).mono ?_
       rintro e w2 ⟨u0, rfl, own2, hb2⟩
       obtain ⟨p0, d0, rfl, -⟩ := owns_slice own2
       have hb2' : Below W.heap.size W w2 := HB1.out.trans (hb2.mono HB1.out.size)
       have HB2 : Hid (Below W.heap.size W w2) := hb2'
       have HB12 : Hid (Below w1.heap.size w1 w2) := hb2
       have K2 : Hid (w2.cell? ⟨sz, 0, none⟩ = some (.slice a0 n0 c0) ∧ w2.cell? ⟨sz, 1, none⟩ = some (.int .i64 pc) ∧ w2.cell? ⟨sz, 2, none⟩ = some (.bool on) ∧ w2.cell? ⟨sz, 3, none⟩ = some (.slice a1 n1 c1) ∧ w2.cell? ⟨sz, 4, none⟩ = some (.slice a2 n2 c2)) := BOX.out _ hb2'
       have O2 : Hid (w2.ownsRow w1.heap.size 65 3 (.slice p0 n0 d0) n0 (fs.map I)) := own2
       clear hb2 hb2' own2)
    | (go_at_call 39
       refine (clonePair _ n1 gs _ (L1.out.below HB2.out (Nat.le_refl _))).mono ?_
       rintro e w3 ⟨u1, rfl, own3, hb3⟩
       obtain ⟨p1, d1, rfl, -⟩ := owns_slice own3
       have hb3' : Below W.heap.size W w3 := HB2.out.trans (hb3.mono HB2.out.size)
       have HB3 : Hid (Below W.heap.size W w3) := hb3'
       have HB23 : Hid (Below w2.heap.size w2 w3) := hb3
       have K3 : Hid (w3.cell? ⟨sz, 0, none⟩ = some (.slice a0 n0 c0) ∧ w3.cell? ⟨sz, 1, none⟩ = some (.int .i64 pc) ∧ w3.cell? ⟨sz, 2, none⟩ = some (.bool on) ∧ w3.cell? ⟨sz, 3, none⟩ = some (.slice a1 n1 c1) ∧ w3.cell? ⟨sz, 4, none⟩ = some (.slice a2 n2 c2)) := BOX.out _ hb3'
       have O3 : Hid (w3.ownsRow w2.heap.size 69 2 (.slice p1 n1 d1) n1 (gs.map I)) := own3
       have K4 : Hid (∀ o, (w3.alloc o).cell? ⟨sz, 0, none⟩ = some (.slice a0 n0 c0) ∧ (w3.alloc o).cell? ⟨sz, 1, none⟩ = some (.int .i64 pc) ∧ (w3.alloc o).cell? ⟨sz, 2, none⟩ = some (.bool on) ∧ (w3.alloc o).cell? ⟨sz, 3, none⟩ = some (.slice a1 n1 c1) ∧ (w3.alloc o).cell? ⟨sz, 4, none⟩ = some (.slice a2 n2 c2)) := fun o => BOX.out _ (hb3'.alloc hb3'.size _)
       clear hb3 hb3' own3))
  go_wp2
  go_ret
  have ts : ThO w3 sz (.slice p0 n0 d0) (.slice p1 n1 d1) (.slice p2 n2 d2) ⟨n0, fs, pc, on, n1, gs, n2, hs⟩ := by
    have hl := HWS.out
    have s1 := HB1.out.size
    have s2 := HB12.out.size
    refine ⟨own_weaken (owns_below O2.out HB23.out (Nat.le_refl _)) (by omega), own_weaken O3.out (by omega), own_weaken (owns_below (owns_below O1.out HB12.out (Nat.le_refl _)) HB23.out (Nat.le_refl _)) (by omega), fun k e e' => ?_, fun k e e' => ?_, fun k e e' => ?_⟩
    · have h1 := (O2.out.lt k e).2; have h2 := (O3.out.lt k e').1; omega
    · have h1 := (O2.out.lt k e).1; have h2 := (O1.out.lt k e').2; omega
    · have h1 := (O3.out.lt k e).1; have h2 := (O1.out.lt k e').2; omega
  have hl := HWS.out
  have s3 := HB3.out.size
  refine ⟨.slice p0 n0 d0, .slice p1 n1 d1, .slice p2 n2 d2, w3.heap.size, rfl, ?_, ?_⟩
  · rw [HSZ.out]
    exact ⟨box_of w3 _ _, ts.below ((Below.refl w3.heap.size w3).alloc (Nat.le_refl _) _) (Nat.le_refl _), by omega, fun hk => by have := (ts.blk hk).2; omega⟩
  · rw [HSZ.out]
    exact (HB0.out.trans (HB3.out.mono (by omega))).alloc (by omega) _

set_option maxHeartbeats 2000000 in
set_option maxRecDepth 100000 in
theorem thread_any (base g : Nat) (v0 v1 v2 : Value) (t : TD) (w : World) (h : WkO w base g v0 v1 v2 t) :
    Calls Try.prog 24 #[.pointer (some ⟨g, 0, none⟩)] w fun e w' => e = .returned (ThV v0 v1 v2 t.pc t.on) ∧ Below w.heap.size w w' := by
  obtain ⟨p0, d0, rfl, -⟩ := owns_slice h.thr.ops
  obtain ⟨p1, d1, rfl, -⟩ := owns_slice h.thr.got
  obtain ⟨p2, d2, rfl, -⟩ := owns_slice h.thr.stk
  obtain ⟨n0, fs, pc, on, n1, gs, n2, hs⟩ := t
  obtain ⟨y0, y1, y2, y3, y4, -⟩ := h.box.five
  have hg := h.box.lt
  simp only at y0 y1 y2 y3 y4 ⊢
  have hne : w.heap.size ≠ g := by omega
  obtain ⟨W, hW⟩ : ∃ W, w.alloc (.cells #[.slice none 0 0, .int .i64 0, .bool false, .slice none 0 0, .slice none 0 0] 34) = W := ⟨_, rfl⟩
  have hb0 : Below w.heap.size w W := by rw [← hW]; exact (Below.refl _ w).alloc (Nat.le_refl _) _
  have R0 : Hid (Box W w.heap.size #[.slice none 0 0, .int .i64 0, .bool false, .slice none 0 0, .slice none 0 0] 34) := by rw [← hW]; exact box_of w _ _
  obtain ⟨r0, r1, r2, r3, r4, f0, f1, f2, f3, f4⟩ := R0.out.five
  have z0 := (hb0.cell hg).trans y0
  have z1 := (hb0.cell hg).trans y1
  have z2 := (hb0.cell hg).trans y2
  have z3 := (hb0.cell hg).trans y3
  have z4 := (hb0.cell hg).trans y4
  have HB0 : Hid (Below w.heap.size w W) := hb0
  have HW : Hid _ := hW
  have BX : Hid (Box W g #[.slice p2 n2 d2, .slice p0 n0 d0, .int .i64 pc, .bool on, .slice p1 n1 d1] 56) := h.box.below hb0 hg
  have HNE : Hid (w.heap.size ≠ g) := hne
  clear h y0 y1 y2 y3 y4 hW hb0 r0 r1 r2 r3 r4 f0 f1 f2 f3 f4 z0 z1 z2 z3 z4
  go_enter Try.func24, Try.ntmps24
  go_wp2_with fail
  rw [HW.out]
  change (Code.region _ (List.toArray threadL) true).wp _ _ _ _
  refine wp_region_held_drew (S := fun w' => w'.cell? ⟨g, 0, none⟩ = some (.slice p2 n2 d2) ∧ w'.cell? ⟨g, 1, none⟩ = some (.slice p0 n0 d0) ∧ w'.cell? ⟨g, 2, none⟩ = some (.int .i64 pc) ∧ w'.cell? ⟨g, 3, none⟩ = some (.bool on) ∧ w'.cell? ⟨g, 4, none⟩ = some (.slice p1 n1 d1)) (by kernel_rfl) ?_ (fun hHeld => ?_)
  · obtain ⟨y0, y1, y2, y3, y4, _⟩ := BX.out.drew.five
    exact ⟨y0, y1, y2, y3, y4⟩
  obtain ⟨WD, hWD⟩ : ∃ WD, W.drew = WD := ⟨_, rfl⟩
  have BD : Hid (Box WD g #[.slice p2 n2 d2, .slice p0 n0 d0, .int .i64 pc, .bool on, .slice p1 n1 d1] 56) := by rw [← hWD]; exact BX.out.drew
  have RX : Hid (Box WD w.heap.size #[.slice none 0 0, .int .i64 0, .bool false, .slice none 0 0, .slice none 0 0] 34) := by rw [← hWD]; exact R0.out.drew
  have HBD : Hid (Below w.heap.size w WD) := by rw [← hWD]; exact HB0.out.drew
  rw [hWD] at hHeld ⊢
  clear hWD
  refine wpAnyH_take (i := 0) (oi := _) (v := .pointer (some ⟨g, 0, none⟩)) (by rw [List.getElem?_toArray]; exact rfl) (by kernel_rfl) (by kernel_rfl) (by kernel_rfl) (by intro _ _ _ h; exact h) (Or.inl ⟨by kernel_rfl, ?_⟩) hHeld ?_
  · intro w hSw; obtain ⟨y1, y2, y3, y4, y5⟩ := hSw; go_simp
  (try simp only [Act.put, List.setIfInBounds_toArray, List.set_cons_zero, List.set_cons_succ])
  refine wpAnyH_take (i := 1) (oi := _) (v := .pointer (some ⟨g, 0, none⟩)) (by rw [List.getElem?_toArray]; exact rfl) (by kernel_rfl) (by kernel_rfl) (by kernel_rfl) (by intro _ _ _ h; exact h) (Or.inl ⟨by kernel_rfl, ?_⟩) hHeld ?_
  · intro w hSw; obtain ⟨y1, y2, y3, y4, y5⟩ := hSw; go_simp
  (try simp only [Act.put, List.setIfInBounds_toArray, List.set_cons_zero, List.set_cons_succ])
  refine wpAnyH_take (i := 2) (oi := _) (v := .pointer (some ⟨g, 1, none⟩)) (by rw [List.getElem?_toArray]; exact rfl) (by kernel_rfl) (by kernel_rfl) (by kernel_rfl) (by intro _ _ _ h; exact h) (Or.inl ⟨by kernel_rfl, ?_⟩) hHeld ?_
  · intro w hSw; obtain ⟨y1, y2, y3, y4, y5⟩ := hSw; go_simp
  (try simp only [Act.put, List.setIfInBounds_toArray, List.set_cons_zero, List.set_cons_succ])
  refine wpAnyH_take (i := 3) (oi := _) (v := .slice p0 n0 d0) (by rw [List.getElem?_toArray]; exact rfl) (by kernel_rfl) (by kernel_rfl) (by kernel_rfl) (by intro _ _ _ h; exact h) (Or.inl ⟨by kernel_rfl, ?_⟩) hHeld ?_
  · intro w hSw; obtain ⟨y1, y2, y3, y4, y5⟩ := hSw; go_simp
  (try simp only [Act.put, List.setIfInBounds_toArray, List.set_cons_zero, List.set_cons_succ])
  refine wpAnyH_take (i := 4) (oi := _) (v := .pointer (some ⟨g, 0, none⟩)) (by rw [List.getElem?_toArray]; exact rfl) (by kernel_rfl) (by kernel_rfl) (by kernel_rfl) (by intro _ _ _ h; exact h) (Or.inl ⟨by kernel_rfl, ?_⟩) hHeld ?_
  · intro w hSw; obtain ⟨y1, y2, y3, y4, y5⟩ := hSw; go_simp
  (try simp only [Act.put, List.setIfInBounds_toArray, List.set_cons_zero, List.set_cons_succ])
  refine wpAnyH_take (i := 5) (oi := _) (v := .pointer (some ⟨g, 0, none⟩)) (by rw [List.getElem?_toArray]; exact rfl) (by kernel_rfl) (by kernel_rfl) (by kernel_rfl) (by intro _ _ _ h; exact h) (Or.inl ⟨by kernel_rfl, ?_⟩) hHeld ?_
  · intro w hSw; obtain ⟨y1, y2, y3, y4, y5⟩ := hSw; go_simp
  (try simp only [Act.put, List.setIfInBounds_toArray, List.set_cons_zero, List.set_cons_succ])
  refine wpAnyH_take (i := 6) (oi := _) (v := .pointer (some ⟨g, 2, none⟩)) (by rw [List.getElem?_toArray]; exact rfl) (by kernel_rfl) (by kernel_rfl) (by kernel_rfl) (by intro _ _ _ h; exact h) (Or.inl ⟨by kernel_rfl, ?_⟩) hHeld ?_
  · intro w hSw; obtain ⟨y1, y2, y3, y4, y5⟩ := hSw; go_simp
  (try simp only [Act.put, List.setIfInBounds_toArray, List.set_cons_zero, List.set_cons_succ])
  refine wpAnyH_take (i := 7) (oi := _) (v := .int .i64 pc) (by rw [List.getElem?_toArray]; exact rfl) (by kernel_rfl) (by kernel_rfl) (by kernel_rfl) (by intro _ _ _ h; exact h) (Or.inl ⟨by kernel_rfl, ?_⟩) hHeld ?_
  · intro w hSw; obtain ⟨y1, y2, y3, y4, y5⟩ := hSw; go_simp
  (try simp only [Act.put, List.setIfInBounds_toArray, List.set_cons_zero, List.set_cons_succ])
  refine wpAnyH_take (i := 8) (oi := _) (v := .pointer (some ⟨g, 0, none⟩)) (by rw [List.getElem?_toArray]; exact rfl) (by kernel_rfl) (by kernel_rfl) (by kernel_rfl) (by intro _ _ _ h; exact h) (Or.inl ⟨by kernel_rfl, ?_⟩) hHeld ?_
  · intro w hSw; obtain ⟨y1, y2, y3, y4, y5⟩ := hSw; go_simp
  (try simp only [Act.put, List.setIfInBounds_toArray, List.set_cons_zero, List.set_cons_succ])
  refine wpAnyH_take (i := 9) (oi := _) (v := .pointer (some ⟨g, 0, none⟩)) (by rw [List.getElem?_toArray]; exact rfl) (by kernel_rfl) (by kernel_rfl) (by kernel_rfl) (by intro _ _ _ h; exact h) (Or.inl ⟨by kernel_rfl, ?_⟩) hHeld ?_
  · intro w hSw; obtain ⟨y1, y2, y3, y4, y5⟩ := hSw; go_simp
  (try simp only [Act.put, List.setIfInBounds_toArray, List.set_cons_zero, List.set_cons_succ])
  refine wpAnyH_take (i := 10) (oi := _) (v := .pointer (some ⟨g, 3, none⟩)) (by rw [List.getElem?_toArray]; exact rfl) (by kernel_rfl) (by kernel_rfl) (by kernel_rfl) (by intro _ _ _ h; exact h) (Or.inl ⟨by kernel_rfl, ?_⟩) hHeld ?_
  · intro w hSw; obtain ⟨y1, y2, y3, y4, y5⟩ := hSw; go_simp
  (try simp only [Act.put, List.setIfInBounds_toArray, List.set_cons_zero, List.set_cons_succ])
  refine wpAnyH_take (i := 11) (oi := _) (v := .bool on) (by rw [List.getElem?_toArray]; exact rfl) (by kernel_rfl) (by kernel_rfl) (by kernel_rfl) (by intro _ _ _ h; exact h) (Or.inl ⟨by kernel_rfl, ?_⟩) hHeld ?_
  · intro w hSw; obtain ⟨y1, y2, y3, y4, y5⟩ := hSw; go_simp
  (try simp only [Act.put, List.setIfInBounds_toArray, List.set_cons_zero, List.set_cons_succ])
  refine wpAnyH_take (i := 12) (oi := _) (v := .pointer (some ⟨g, 0, none⟩)) (by rw [List.getElem?_toArray]; exact rfl) (by kernel_rfl) (by kernel_rfl) (by kernel_rfl) (by intro _ _ _ h; exact h) (Or.inl ⟨by kernel_rfl, ?_⟩) hHeld ?_
  · intro w hSw; obtain ⟨y1, y2, y3, y4, y5⟩ := hSw; go_simp
  (try simp only [Act.put, List.setIfInBounds_toArray, List.set_cons_zero, List.set_cons_succ])
  refine wpAnyH_take (i := 13) (oi := _) (v := .pointer (some ⟨g, 0, none⟩)) (by rw [List.getElem?_toArray]; exact rfl) (by kernel_rfl) (by kernel_rfl) (by kernel_rfl) (by intro _ _ _ h; exact h) (Or.inl ⟨by kernel_rfl, ?_⟩) hHeld ?_
  · intro w hSw; obtain ⟨y1, y2, y3, y4, y5⟩ := hSw; go_simp
  (try simp only [Act.put, List.setIfInBounds_toArray, List.set_cons_zero, List.set_cons_succ])
  refine wpAnyH_take (i := 14) (oi := _) (v := .pointer (some ⟨g, 4, none⟩)) (by rw [List.getElem?_toArray]; exact rfl) (by kernel_rfl) (by kernel_rfl) (by kernel_rfl) (by intro _ _ _ h; exact h) (Or.inl ⟨by kernel_rfl, ?_⟩) hHeld ?_
  · intro w hSw; obtain ⟨y1, y2, y3, y4, y5⟩ := hSw; go_simp
  (try simp only [Act.put, List.setIfInBounds_toArray, List.set_cons_zero, List.set_cons_succ])
  refine wpAnyH_take (i := 15) (oi := _) (v := .slice p1 n1 d1) (by rw [List.getElem?_toArray]; exact rfl) (by kernel_rfl) (by kernel_rfl) (by kernel_rfl) (by intro _ _ _ h; exact h) (Or.inl ⟨by kernel_rfl, ?_⟩) hHeld ?_
  · intro w hSw; obtain ⟨y1, y2, y3, y4, y5⟩ := hSw; go_simp
  (try simp only [Act.put, List.setIfInBounds_toArray, List.set_cons_zero, List.set_cons_succ])
  refine wpAnyH_take (i := 16) (oi := _) (v := .pointer (some ⟨g, 0, none⟩)) (by rw [List.getElem?_toArray]; exact rfl) (by kernel_rfl) (by kernel_rfl) (by kernel_rfl) (by intro _ _ _ h; exact h) (Or.inl ⟨by kernel_rfl, ?_⟩) hHeld ?_
  · intro w hSw; obtain ⟨y1, y2, y3, y4, y5⟩ := hSw; go_simp
  (try simp only [Act.put, List.setIfInBounds_toArray, List.set_cons_zero, List.set_cons_succ])
  refine wpAnyH_take (i := 17) (oi := _) (v := .pointer (some ⟨g, 0, none⟩)) (by rw [List.getElem?_toArray]; exact rfl) (by kernel_rfl) (by kernel_rfl) (by kernel_rfl) (by intro _ _ _ h; exact h) (Or.inl ⟨by kernel_rfl, ?_⟩) hHeld ?_
  · intro w hSw; obtain ⟨y1, y2, y3, y4, y5⟩ := hSw; go_simp
  (try simp only [Act.put, List.setIfInBounds_toArray, List.set_cons_zero, List.set_cons_succ])
  refine wpAnyH_take (i := 18) (oi := _) (v := .pointer (some ⟨g, 0, none⟩)) (by rw [List.getElem?_toArray]; exact rfl) (by kernel_rfl) (by kernel_rfl) (by kernel_rfl) (by intro _ _ _ h; exact h) (Or.inl ⟨by kernel_rfl, ?_⟩) hHeld ?_
  · intro w hSw; obtain ⟨y1, y2, y3, y4, y5⟩ := hSw; go_simp
  (try simp only [Act.put, List.setIfInBounds_toArray, List.set_cons_zero, List.set_cons_succ])
  refine wpAnyH_take (i := 19) (oi := _) (v := .pointer (some ⟨g, 0, none⟩)) (by rw [List.getElem?_toArray]; exact rfl) (by kernel_rfl) (by kernel_rfl) (by kernel_rfl) (by intro _ _ _ h; exact h) (Or.inl ⟨by kernel_rfl, ?_⟩) hHeld ?_
  · intro w hSw; obtain ⟨y1, y2, y3, y4, y5⟩ := hSw; go_simp
  (try simp only [Act.put, List.setIfInBounds_toArray, List.set_cons_zero, List.set_cons_succ])
  refine wpAnyH_take (i := 20) (oi := _) (v := .slice p2 n2 d2) (by rw [List.getElem?_toArray]; exact rfl) (by kernel_rfl) (by kernel_rfl) (by kernel_rfl) (by intro _ _ _ h; exact h) (Or.inl ⟨by kernel_rfl, ?_⟩) hHeld ?_
  · intro w hSw; obtain ⟨y1, y2, y3, y4, y5⟩ := hSw; go_simp
  (try simp only [Act.put, List.setIfInBounds_toArray, List.set_cons_zero, List.set_cons_succ])
  refine wpAnyH_take (i := 21) (oi := _) (v := .agg #[.slice p0 n0 d0, .int .i64 pc, .bool on, .slice p1 n1 d1, .slice p2 n2 d2]) (by rw [List.getElem?_toArray]; exact rfl) (by kernel_rfl) (by kernel_rfl) (by kernel_rfl) (by intro _ _ _ h; exact h) (Or.inl ⟨by kernel_rfl, ?_⟩) hHeld ?_
  · intro w hSw; obtain ⟨y1, y2, y3, y4, y5⟩ := hSw; go_simp
  (try simp only [Act.put, List.setIfInBounds_toArray, List.set_cons_zero, List.set_cons_succ])
  refine wpAnyH_ready (rs := [22]) (by kernel_rfl) (by simp) ?_
  refine AllReadyH.cons (o := _) (by rw [List.getElem?_toArray]; exact rfl) (fun K hK => ?_) AllReadyH.nil
  obtain ⟨r0, r1, r2, r3, r4, f0, f1, f2, f3, f4⟩ := RX.out.five
  rw [if_pos (by kernel_rfl)]
  go_simp
  refine hK.out _ _ ?_ (fun hHeld => ?_)
  · obtain ⟨y0, y1, y2, y3, y4, _⟩ := (((((BD.out.set (q := ⟨w.heap.size, 0, none⟩) (Ne.symm HNE.out) (.slice p0 n0 d0)).set (q := ⟨w.heap.size, 1, none⟩) (Ne.symm HNE.out) (.int .i64 pc)).set (q := ⟨w.heap.size, 2, none⟩) (Ne.symm HNE.out) (.bool on)).set (q := ⟨w.heap.size, 3, none⟩) (Ne.symm HNE.out) (.slice p1 n1 d1)).set (q := ⟨w.heap.size, 4, none⟩) (Ne.symm HNE.out) (.slice p2 n2 d2)).five
    exact ⟨y0, y1, y2, y3, y4⟩
  clear hK K
  (try simp only [Act.put, List.setIfInBounds_toArray, List.set_cons_zero, List.set_cons_succ])
  refine wpAnyH_done (by kernel_rfl) ?_ _
  obtain ⟨z0, z1, z2, z3, z4, _⟩ := (((((RX.out.put 0 (.slice p0 n0 d0)).put 1 (.int .i64 pc)).put 2 (.bool on)).put 3 (.slice p1 n1 d1)).put 4 (.slice p2 n2 d2)).five
  clear hHeld r0 r1 r2 r3 r4 f0 f1 f2 f3 f4
  go_wp2
  (try simp only [Exit.inBlock, Exit.then])
  refine bodyPost_ret (by simp [results, Try.results24, go_sem, z0, z1, z2, z3, z4]; try rfl) rfl ?_
  exact ⟨rfl, below_set5 HBD.out (Nat.le_refl _) _ _ _ _ _⟩

/-- Whom a worker helps last. -/
theorem WkO.last {w : World} {base g : Nat} {v0 v1 v2 : Value} {t : TD} (h : WkO w base g v0 v1 v2 t) (hn : t.n2 ≠ 0) : ∃ g2 cap, v2 = .slice (some ⟨g2, 0, none⟩) t.n2 cap ∧ g2 ≠ g ∧ base ≤ g2 ∧ g2 < w.heap.size := by
  rcases owns_forms h.thr.stk with ⟨-, hz⟩ | ⟨g2, cap, rfl⟩
  · exact absurd hz hn
  · have hb := h.thr.blk (k := g2) (.inr (.inr rfl))
    exact ⟨g2, cap, rfl, fun e => h.out (by subst e; exact .inr (.inr rfl)), hb.1, hb.2⟩

/-- What holds while one is pushed. -/
structure QI (W : World) (base g : Nat) (v0 v1 v2 : Value) (h : Nat → Int) (n0 : Nat) (fs : List Int) (pc : Int) (on : Bool) (n1 : Nat) (gs : List Int) (n2 : Nat) (hs : List Int) (b4 b5 b6 b7 b8 b9 : Bool) (s8 s9 s10 s11 s12 s13 : Value) (w : World) : Prop where
  pre : b7 = false → Below W.heap.size W w
  l4 : b4 = true → s8 = v2
  l5 : b5 = true → s9 = HelpV h
  one : b7 = false → b6 = true → ∃ q, s10 = .slice (some ⟨q, 0, none⟩) 1 1 ∧ Box w q #[.int .i64 (h 0), .int .i64 (h 1), .int .i64 (h 2), .int .i64 (h 3)] 37 ∧ W.heap.size ≤ q
  dep : b7 = true → b4 = true ∧ b6 = true
  d6 : b6 = true → b5 = true
  post : b7 = true → Below base W w ∧ Box w g #[v2, v0, .int .i64 pc, .bool on, v1] 56 ∧ ThO w base v0 v1 s11 ⟨n0, fs, pc, on, n1, gs, n2 + 1, hs ++ helpL h⟩ ∧ ¬ In3 v0 v1 s11 g
  l8 : b8 = true → b7 = true ∧ s12 = .pointer (some ⟨g, 0, none⟩)
  l9 : b9 = true → b8 = true ∧ s13 = .pointer (some ⟨g, 0, none⟩)
def QR (W : World) (sz base g : Nat) (v0 v1 v2 : Value) (h : Nat → Int) (n0 : Nat) (fs : List Int) (pc : Int) (on : Bool) (n1 : Nat) (gs : List Int) (n2 : Nat) (hs : List Int) (l : Array Bool) (a : Act) (w : World) : Prop :=
  ∃ (b4 b5 b6 b7 b8 b9 : Bool) (s8 s9 s10 s11 s12 s13 : Value), l = #[true, true, true, true, b4, b5, b6, b7, b8, b9, false] ∧
    a = ⟨#[.pointer (some ⟨g, 0, none⟩), HelpV h, undef, .pointer (some ⟨sz, 0, none⟩), .pointer (some ⟨g, 0, none⟩), .pointer (some ⟨g, 0, none⟩), .pointer (some ⟨g, 0, none⟩), .pointer (some ⟨g, 0, none⟩), s8, s9, s10, s11, s12, s13], []⟩ ∧
    QI W base g v0 v1 v2 h n0 fs pc on n1 gs n2 hs b4 b5 b6 b7 b8 b9 s8 s9 s10 s11 s12 s13 w
end Go.Proofs.Ytemeklfkbjpnmas
