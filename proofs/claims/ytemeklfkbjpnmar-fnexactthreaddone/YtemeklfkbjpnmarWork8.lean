/- A worker: a Thread whose lists are its own. workerOf, thread; what is done to its Stack. -/
import Derived.Test.YtemeklfkbjpnmarClone8
import Derived.Test.YtemeklfkbjpnmarSpec8c
import Derived.Deep.RegionHeld3
namespace Go.Proofs.Ytemeklfkbjpnmar
open Go.ChangeShapes Go.WideShapes Go.ChangeAt Go.RowKit Go.Joins

noncomputable def threadL : List Oper := match Try.f70.body with
  | some (.seq _ (.seq (.region _ ops _) _)) => ops.toList
  | _ => []
/-- A worker of the call's own, in the block g: its Stack's list comes first. -/
structure WkO (w : World) (base g : Nat) (v0 v1 v2 : Value) (t : TD) : Prop where
  box : Box w g #[v2, v0, .int .i64 t.pc, .bool t.on, v1] 107
  thr : ThO w base v0 v1 v2 t
  low : base ≤ g
  out : ¬ In3 v0 v1 v2 g
theorem WkO.below {w w' : World} {base g : Nat} {v0 v1 v2 : Value} {t : TD} (h : WkO w base g v0 v1 v2 t) (hb : Below w.heap.size w w') : WkO w' base g v0 v1 v2 t :=
  ⟨h.box.below hb h.box.lt, h.thr.below hb (Nat.le_refl _), h.low, h.out⟩
set_option maxHeartbeats 4000000 in
set_option maxRecDepth 100000 in
theorem workerOf_any (v0 v1 v2 : Value) (t : TD) (w : World) (hT : ThAt w v0 v1 v2 t) :
    Calls Try.prog 68 #[ThV v0 v1 v2 t.pc t.on] w fun e w' => ∃ u0 u1 u2 g, e = .returned (.pointer (some ⟨g, 0, none⟩)) ∧ WkO w' w.heap.size g u0 u1 u2 t ∧ Below w.heap.size w w' := by
  obtain ⟨⟨a0, c0, rfl, e0, h0⟩, ⟨a1, c1, rfl, e1, h1⟩, ⟨a2, c2, rfl, e2, h2⟩⟩ := hT
  obtain ⟨n0, fs, pc, on, n1, gs, n2, hs⟩ := t
  simp only at h0 h1 h2 ⊢
  obtain ⟨sz, hsz⟩ : ∃ sz, w.heap.size = sz := ⟨_, rfl⟩
  obtain ⟨W, hW⟩ : ∃ W, w.alloc (.cells #[.slice a0 n0 c0, .int .i64 pc, .bool on, .slice a1 n1 c1, .slice a2 n2 c2] 46) = W := ⟨_, rfl⟩
  have hWs : W.heap.size = sz + 1 := by rw [← hW, ← hsz]; simp
  have hb0 : Below sz w W := by rw [← hW, ← hsz]; exact (Below.refl _ w).alloc (Nat.le_refl _) _
  have X0 : Hid (Box W sz #[.slice a0 n0 c0, .int .i64 pc, .bool on, .slice a1 n1 c1, .slice a2 n2 c2] 46) := by rw [← hW, ← hsz]; exact box_of w _ _
  have HW : Hid _ := hW
  have HSZ : Hid (w.heap.size = sz) := hsz
  have HB0 : Hid (Below sz w W) := hb0
  have HWS : Hid (W.heap.size = sz + 1) := hWs
  have L0 : Hid (LAt 3 W (.slice a0 n0 c0) n0 fs) := ⟨a0, c0, rfl, e0, h0.below hb0 (by omega)⟩
  have L1 : Hid (LAt 2 W (.slice a1 n1 c1) n1 gs) := ⟨a1, c1, rfl, e1, h1.below hb0 (by omega)⟩
  have L2 : Hid (LAt 4 W (.slice a2 n2 c2) n2 hs) := ⟨a2, c2, rfl, e2, h2.below hb0 (by omega)⟩
  have BOX : Hid (∀ w', Below W.heap.size W w' → w'.cell? ⟨sz, 0, none⟩ = some (.slice a0 n0 c0) ∧ w'.cell? ⟨sz, 1, none⟩ = some (.int .i64 pc) ∧ w'.cell? ⟨sz, 2, none⟩ = some (.bool on) ∧ w'.cell? ⟨sz, 3, none⟩ = some (.slice a1 n1 c1) ∧ w'.cell? ⟨sz, 4, none⟩ = some (.slice a2 n2 c2)) := fun w' hb => by
    obtain ⟨y0, y1, y2, y3, y4, _⟩ := (X0.out.below hb X0.out.lt).five
    exact ⟨y0, y1, y2, y3, y4⟩
  have K0 : Hid (∀ w', w' = W.drew → w'.cell? ⟨sz, 0, none⟩ = some (.slice a0 n0 c0) ∧ w'.cell? ⟨sz, 1, none⟩ = some (.int .i64 pc) ∧ w'.cell? ⟨sz, 2, none⟩ = some (.bool on) ∧ w'.cell? ⟨sz, 3, none⟩ = some (.slice a1 n1 c1) ∧ w'.cell? ⟨sz, 4, none⟩ = some (.slice a2 n2 c2)) := fun w' hw => by rw [hw]; exact BOX.out _ (Below.refl _ _).drew
  clear h0 h1 h2 hW hb0 hsz hWs e0 e1 e2
  go_enter Try.func68, Try.ntmps68
  go_wp2_with fail
  rw [HW.out]
  (try rw [HSZ.out])
  go_region_held3 (fun w' => w'.cell? ⟨sz, 0, none⟩ = some (.slice a0 n0 c0) ∧ w'.cell? ⟨sz, 1, none⟩ = some (.int .i64 pc) ∧ w'.cell? ⟨sz, 2, none⟩ = some (.bool on) ∧ w'.cell? ⟨sz, 3, none⟩ = some (.slice a1 n1 c1) ∧ w'.cell? ⟨sz, 4, none⟩ = some (.slice a2 n2 c2))
    (first | (with_reducible exact K4.out) | (with_reducible exact K3.out) | (with_reducible exact K2.out) | (with_reducible exact K1.out) | (exact K0.out _ rfl) | go_keep)
    (first
    | (go_at_call 96
       refine (cloneHelp _ n2 hs _ (L2.out.below (Below.refl W.heap.size W).drew (Nat.le_refl _))).mono ?_
       rintro e w1 ⟨u2, rfl, own1, hb1⟩
       obtain ⟨p2, d2, rfl, -⟩ := owns_slice own1
       have hb1' : Below W.heap.size W w1 := (Below.refl W.heap.size W).drew.trans hb1
       have HB1 : Hid (Below W.heap.size W w1) := hb1'
       have K1 : Hid (w1.cell? ⟨sz, 0, none⟩ = some (.slice a0 n0 c0) ∧ w1.cell? ⟨sz, 1, none⟩ = some (.int .i64 pc) ∧ w1.cell? ⟨sz, 2, none⟩ = some (.bool on) ∧ w1.cell? ⟨sz, 3, none⟩ = some (.slice a1 n1 c1) ∧ w1.cell? ⟨sz, 4, none⟩ = some (.slice a2 n2 c2)) := BOX.out _ hb1'
       have O1 : Hid (w1.ownsRow W.heap.size 62 4 (.slice p2 n2 d2) n2 (hs.map I)) := own1
       clear hb1 hb1' own1)
    | (go_at_call 60
       refine (cloneOp _ n0 fs _ (L0.out.below HB1.out (Nat.le_refl _))).mono ?_
       rintro e w2 ⟨u0, rfl, own2, hb2⟩
       obtain ⟨p0, d0, rfl, -⟩ := owns_slice own2
       have hb2' : Below W.heap.size W w2 := HB1.out.trans (hb2.mono HB1.out.size)
       have HB2 : Hid (Below W.heap.size W w2) := hb2'
       have HB12 : Hid (Below w1.heap.size w1 w2) := hb2
       have K2 : Hid (w2.cell? ⟨sz, 0, none⟩ = some (.slice a0 n0 c0) ∧ w2.cell? ⟨sz, 1, none⟩ = some (.int .i64 pc) ∧ w2.cell? ⟨sz, 2, none⟩ = some (.bool on) ∧ w2.cell? ⟨sz, 3, none⟩ = some (.slice a1 n1 c1) ∧ w2.cell? ⟨sz, 4, none⟩ = some (.slice a2 n2 c2)) := BOX.out _ hb2'
       have O2 : Hid (w2.ownsRow w1.heap.size 84 3 (.slice p0 n0 d0) n0 (fs.map I)) := own2
       clear hb2 hb2' own2)
    | (go_at_call 97
       refine (clonePair _ n1 gs _ (L1.out.below HB2.out (Nat.le_refl _))).mono ?_
       rintro e w3 ⟨u1, rfl, own3, hb3⟩
       obtain ⟨p1, d1, rfl, -⟩ := owns_slice own3
       have hb3' : Below W.heap.size W w3 := HB2.out.trans (hb3.mono HB2.out.size)
       have HB3 : Hid (Below W.heap.size W w3) := hb3'
       have HB23 : Hid (Below w2.heap.size w2 w3) := hb3
       have K3 : Hid (w3.cell? ⟨sz, 0, none⟩ = some (.slice a0 n0 c0) ∧ w3.cell? ⟨sz, 1, none⟩ = some (.int .i64 pc) ∧ w3.cell? ⟨sz, 2, none⟩ = some (.bool on) ∧ w3.cell? ⟨sz, 3, none⟩ = some (.slice a1 n1 c1) ∧ w3.cell? ⟨sz, 4, none⟩ = some (.slice a2 n2 c2)) := BOX.out _ hb3'
       have O3 : Hid (w3.ownsRow w2.heap.size 86 2 (.slice p1 n1 d1) n1 (gs.map I)) := own3
       have K4 : Hid (∀ o, (w3.alloc o).cell? ⟨sz, 0, none⟩ = some (.slice a0 n0 c0) ∧ (w3.alloc o).cell? ⟨sz, 1, none⟩ = some (.int .i64 pc) ∧ (w3.alloc o).cell? ⟨sz, 2, none⟩ = some (.bool on) ∧ (w3.alloc o).cell? ⟨sz, 3, none⟩ = some (.slice a1 n1 c1) ∧ (w3.alloc o).cell? ⟨sz, 4, none⟩ = some (.slice a2 n2 c2)) := fun o => BOX.out _ (hb3'.alloc hb3'.size _)
       clear hb3 hb3' own3))
  go_wp2
  go_ret
  have ts : ThO w3 sz (.slice p0 n0 d0) (.slice p1 n1 d1) (.slice p2 n2 d2) ⟨n0, fs, pc, on, n1, gs, n2, hs⟩ := by
    have hl := HWS.out
    have s1 := HB1.out.size
    have s2 := HB12.out.size
    refine ⟨own_weaken (owns_below O2.out HB23.out (Nat.le_refl _)) (by omega), own_weaken O3.out (by omega), own_weaken (owns_below (owns_below O1.out HB12.out (Nat.le_refl _)) HB23.out (Nat.le_refl _)) (by omega), fun k e e' => ?_, fun k e e' => ?_, fun k e e' => ?_⟩
    · have h1 := (O2.out.lt k e).2; have h2 := (O3.out.lt k e').1; omega
    · have h1 := (O2.out.lt k e).1; have h2 := (O1.out.lt k e').2; omega
    · have h1 := (O3.out.lt k e).1; have h2 := (O1.out.lt k e').2; omega
  have hl := HWS.out
  have s3 := HB3.out.size
  refine ⟨.slice p0 n0 d0, .slice p1 n1 d1, .slice p2 n2 d2, w3.heap.size, rfl, ?_, ?_⟩
  · rw [HSZ.out]
    exact ⟨box_of w3 _ _, ts.below ((Below.refl w3.heap.size w3).alloc (Nat.le_refl _) _) (Nat.le_refl _), by omega, fun hk => by have := (ts.blk hk).2; omega⟩
  · rw [HSZ.out]
    exact (HB0.out.trans (HB3.out.mono (by omega))).alloc (by omega) _

set_option maxHeartbeats 2000000 in
set_option maxRecDepth 100000 in
theorem thread_any (base g : Nat) (v0 v1 v2 : Value) (t : TD) (w : World) (h : WkO w base g v0 v1 v2 t) :
    Calls Try.prog 70 #[.pointer (some ⟨g, 0, none⟩)] w fun e w' => e = .returned (ThV v0 v1 v2 t.pc t.on) ∧ Below w.heap.size w w' := by
  obtain ⟨p0, d0, rfl, -⟩ := owns_slice h.thr.ops
  obtain ⟨p1, d1, rfl, -⟩ := owns_slice h.thr.got
  obtain ⟨p2, d2, rfl, -⟩ := owns_slice h.thr.stk
  obtain ⟨n0, fs, pc, on, n1, gs, n2, hs⟩ := t
  obtain ⟨y0, y1, y2, y3, y4, -⟩ := h.box.five
  have hg := h.box.lt
  simp only at y0 y1 y2 y3 y4 ⊢
  have hne : w.heap.size ≠ g := by omega
  obtain ⟨W, hW⟩ : ∃ W, w.alloc (.cells #[.slice none 0 0, .int .i64 0, .bool false, .slice none 0 0, .slice none 0 0] 46) = W := ⟨_, rfl⟩
  have hb0 : Below w.heap.size w W := by rw [← hW]; exact (Below.refl _ w).alloc (Nat.le_refl _) _
  have R0 : Hid (Box W w.heap.size #[.slice none 0 0, .int .i64 0, .bool false, .slice none 0 0, .slice none 0 0] 46) := by rw [← hW]; exact box_of w _ _
  obtain ⟨r0, r1, r2, r3, r4, f0, f1, f2, f3, f4⟩ := R0.out.five
  have z0 := (hb0.cell hg).trans y0
  have z1 := (hb0.cell hg).trans y1
  have z2 := (hb0.cell hg).trans y2
  have z3 := (hb0.cell hg).trans y3
  have z4 := (hb0.cell hg).trans y4
  have HB0 : Hid (Below w.heap.size w W) := hb0
  have HW : Hid _ := hW
  have BX : Hid (Box W g #[.slice p2 n2 d2, .slice p0 n0 d0, .int .i64 pc, .bool on, .slice p1 n1 d1] 107) := h.box.below hb0 hg
  have HNE : Hid (w.heap.size ≠ g) := hne
  clear h y0 y1 y2 y3 y4 hW hb0 r0 r1 r2 r3 r4 f0 f1 f2 f3 f4 z0 z1 z2 z3 z4
  go_enter Try.func70, Try.ntmps70
  go_wp2_with fail
  rw [HW.out]
  change (Code.region _ (List.toArray threadL) true).wp _ _ _ _
  refine wp_region_held_drew (S := fun w' => w'.cell? ⟨g, 0, none⟩ = some (.slice p2 n2 d2) ∧ w'.cell? ⟨g, 1, none⟩ = some (.slice p0 n0 d0) ∧ w'.cell? ⟨g, 2, none⟩ = some (.int .i64 pc) ∧ w'.cell? ⟨g, 3, none⟩ = some (.bool on) ∧ w'.cell? ⟨g, 4, none⟩ = some (.slice p1 n1 d1)) (by kernel_rfl) ?_ (fun hHeld => ?_)
  · obtain ⟨y0, y1, y2, y3, y4, _⟩ := BX.out.drew.five
    exact ⟨y0, y1, y2, y3, y4⟩
  obtain ⟨WD, hWD⟩ : ∃ WD, W.drew = WD := ⟨_, rfl⟩
  have BD : Hid (Box WD g #[.slice p2 n2 d2, .slice p0 n0 d0, .int .i64 pc, .bool on, .slice p1 n1 d1] 107) := by rw [← hWD]; exact BX.out.drew
  have RX : Hid (Box WD w.heap.size #[.slice none 0 0, .int .i64 0, .bool false, .slice none 0 0, .slice none 0 0] 46) := by rw [← hWD]; exact R0.out.drew
  have HBD : Hid (Below w.heap.size w WD) := by rw [← hWD]; exact HB0.out.drew
  rw [hWD] at hHeld ⊢
  clear hWD
  refine wpAnyH_take (i := 0) (oi := _) (v := .pointer (some ⟨g, 0, none⟩)) (by rw [List.getElem?_toArray]; exact rfl) (by kernel_rfl) (by kernel_rfl) (by kernel_rfl) (by intro _ _ _ h; exact h) (Or.inl ⟨by kernel_rfl, ?_⟩) hHeld ?_
  · intro w hSw; obtain ⟨y1, y2, y3, y4, y5⟩ := hSw; go_simp
  (try simp only [Act.put, List.setIfInBounds_toArray, List.set_cons_zero, List.set_cons_succ])
  refine wpAnyH_take (i := 1) (oi := _) (v := .pointer (some ⟨g, 0, none⟩)) (by rw [List.getElem?_toArray]; exact rfl) (by kernel_rfl) (by kernel_rfl) (by kernel_rfl) (by intro _ _ _ h; exact h) (Or.inl ⟨by kernel_rfl, ?_⟩) hHeld ?_
  · intro w hSw; obtain ⟨y1, y2, y3, y4, y5⟩ := hSw; go_simp
  (try simp only [Act.put, List.setIfInBounds_toArray, List.set_cons_zero, List.set_cons_succ])
  refine wpAnyH_take (i := 2) (oi := _) (v := .pointer (some ⟨g, 1, none⟩)) (by rw [List.getElem?_toArray]; exact rfl) (by kernel_rfl) (by kernel_rfl) (by kernel_rfl) (by intro _ _ _ h; exact h) (Or.inl ⟨by kernel_rfl, ?_⟩) hHeld ?_
  · intro w hSw; obtain ⟨y1, y2, y3, y4, y5⟩ := hSw; go_simp
  (try simp only [Act.put, List.setIfInBounds_toArray, List.set_cons_zero, List.set_cons_succ])
  refine wpAnyH_take (i := 3) (oi := _) (v := .slice p0 n0 d0) (by rw [List.getElem?_toArray]; exact rfl) (by kernel_rfl) (by kernel_rfl) (by kernel_rfl) (by intro _ _ _ h; exact h) (Or.inl ⟨by kernel_rfl, ?_⟩) hHeld ?_
  · intro w hSw; obtain ⟨y1, y2, y3, y4, y5⟩ := hSw; go_simp
  (try simp only [Act.put, List.setIfInBounds_toArray, List.set_cons_zero, List.set_cons_succ])
  refine wpAnyH_take (i := 4) (oi := _) (v := .pointer (some ⟨g, 0, none⟩)) (by rw [List.getElem?_toArray]; exact rfl) (by kernel_rfl) (by kernel_rfl) (by kernel_rfl) (by intro _ _ _ h; exact h) (Or.inl ⟨by kernel_rfl, ?_⟩) hHeld ?_
  · intro w hSw; obtain ⟨y1, y2, y3, y4, y5⟩ := hSw; go_simp
  (try simp only [Act.put, List.setIfInBounds_toArray, List.set_cons_zero, List.set_cons_succ])
  refine wpAnyH_take (i := 5) (oi := _) (v := .pointer (some ⟨g, 0, none⟩)) (by rw [List.getElem?_toArray]; exact rfl) (by kernel_rfl) (by kernel_rfl) (by kernel_rfl) (by intro _ _ _ h; exact h) (Or.inl ⟨by kernel_rfl, ?_⟩) hHeld ?_
  · intro w hSw; obtain ⟨y1, y2, y3, y4, y5⟩ := hSw; go_simp
  (try simp only [Act.put, List.setIfInBounds_toArray, List.set_cons_zero, List.set_cons_succ])
  refine wpAnyH_take (i := 6) (oi := _) (v := .pointer (some ⟨g, 2, none⟩)) (by rw [List.getElem?_toArray]; exact rfl) (by kernel_rfl) (by kernel_rfl) (by kernel_rfl) (by intro _ _ _ h; exact h) (Or.inl ⟨by kernel_rfl, ?_⟩) hHeld ?_
  · intro w hSw; obtain ⟨y1, y2, y3, y4, y5⟩ := hSw; go_simp
  (try simp only [Act.put, List.setIfInBounds_toArray, List.set_cons_zero, List.set_cons_succ])
  refine wpAnyH_take (i := 7) (oi := _) (v := .int .i64 pc) (by rw [List.getElem?_toArray]; exact rfl) (by kernel_rfl) (by kernel_rfl) (by kernel_rfl) (by intro _ _ _ h; exact h) (Or.inl ⟨by kernel_rfl, ?_⟩) hHeld ?_
  · intro w hSw; obtain ⟨y1, y2, y3, y4, y5⟩ := hSw; go_simp
  (try simp only [Act.put, List.setIfInBounds_toArray, List.set_cons_zero, List.set_cons_succ])
  refine wpAnyH_take (i := 8) (oi := _) (v := .pointer (some ⟨g, 0, none⟩)) (by rw [List.getElem?_toArray]; exact rfl) (by kernel_rfl) (by kernel_rfl) (by kernel_rfl) (by intro _ _ _ h; exact h) (Or.inl ⟨by kernel_rfl, ?_⟩) hHeld ?_
  · intro w hSw; obtain ⟨y1, y2, y3, y4, y5⟩ := hSw; go_simp
  (try simp only [Act.put, List.setIfInBounds_toArray, List.set_cons_zero, List.set_cons_succ])
  refine wpAnyH_take (i := 9) (oi := _) (v := .pointer (some ⟨g, 0, none⟩)) (by rw [List.getElem?_toArray]; exact rfl) (by kernel_rfl) (by kernel_rfl) (by kernel_rfl) (by intro _ _ _ h; exact h) (Or.inl ⟨by kernel_rfl, ?_⟩) hHeld ?_
  · intro w hSw; obtain ⟨y1, y2, y3, y4, y5⟩ := hSw; go_simp
  (try simp only [Act.put, List.setIfInBounds_toArray, List.set_cons_zero, List.set_cons_succ])
  refine wpAnyH_take (i := 10) (oi := _) (v := .pointer (some ⟨g, 3, none⟩)) (by rw [List.getElem?_toArray]; exact rfl) (by kernel_rfl) (by kernel_rfl) (by kernel_rfl) (by intro _ _ _ h; exact h) (Or.inl ⟨by kernel_rfl, ?_⟩) hHeld ?_
  · intro w hSw; obtain ⟨y1, y2, y3, y4, y5⟩ := hSw; go_simp
  (try simp only [Act.put, List.setIfInBounds_toArray, List.set_cons_zero, List.set_cons_succ])
  refine wpAnyH_take (i := 11) (oi := _) (v := .bool on) (by rw [List.getElem?_toArray]; exact rfl) (by kernel_rfl) (by kernel_rfl) (by kernel_rfl) (by intro _ _ _ h; exact h) (Or.inl ⟨by kernel_rfl, ?_⟩) hHeld ?_
  · intro w hSw; obtain ⟨y1, y2, y3, y4, y5⟩ := hSw; go_simp
  (try simp only [Act.put, List.setIfInBounds_toArray, List.set_cons_zero, List.set_cons_succ])
  refine wpAnyH_take (i := 12) (oi := _) (v := .pointer (some ⟨g, 0, none⟩)) (by rw [List.getElem?_toArray]; exact rfl) (by kernel_rfl) (by kernel_rfl) (by kernel_rfl) (by intro _ _ _ h; exact h) (Or.inl ⟨by kernel_rfl, ?_⟩) hHeld ?_
  · intro w hSw; obtain ⟨y1, y2, y3, y4, y5⟩ := hSw; go_simp
  (try simp only [Act.put, List.setIfInBounds_toArray, List.set_cons_zero, List.set_cons_succ])
  refine wpAnyH_take (i := 13) (oi := _) (v := .pointer (some ⟨g, 0, none⟩)) (by rw [List.getElem?_toArray]; exact rfl) (by kernel_rfl) (by kernel_rfl) (by kernel_rfl) (by intro _ _ _ h; exact h) (Or.inl ⟨by kernel_rfl, ?_⟩) hHeld ?_
  · intro w hSw; obtain ⟨y1, y2, y3, y4, y5⟩ := hSw; go_simp
  (try simp only [Act.put, List.setIfInBounds_toArray, List.set_cons_zero, List.set_cons_succ])
  refine wpAnyH_take (i := 14) (oi := _) (v := .pointer (some ⟨g, 4, none⟩)) (by rw [List.getElem?_toArray]; exact rfl) (by kernel_rfl) (by kernel_rfl) (by kernel_rfl) (by intro _ _ _ h; exact h) (Or.inl ⟨by kernel_rfl, ?_⟩) hHeld ?_
  · intro w hSw; obtain ⟨y1, y2, y3, y4, y5⟩ := hSw; go_simp
  (try simp only [Act.put, List.setIfInBounds_toArray, List.set_cons_zero, List.set_cons_succ])
  refine wpAnyH_take (i := 15) (oi := _) (v := .slice p1 n1 d1) (by rw [List.getElem?_toArray]; exact rfl) (by kernel_rfl) (by kernel_rfl) (by kernel_rfl) (by intro _ _ _ h; exact h) (Or.inl ⟨by kernel_rfl, ?_⟩) hHeld ?_
  · intro w hSw; obtain ⟨y1, y2, y3, y4, y5⟩ := hSw; go_simp
  (try simp only [Act.put, List.setIfInBounds_toArray, List.set_cons_zero, List.set_cons_succ])
  refine wpAnyH_take (i := 16) (oi := _) (v := .pointer (some ⟨g, 0, none⟩)) (by rw [List.getElem?_toArray]; exact rfl) (by kernel_rfl) (by kernel_rfl) (by kernel_rfl) (by intro _ _ _ h; exact h) (Or.inl ⟨by kernel_rfl, ?_⟩) hHeld ?_
  · intro w hSw; obtain ⟨y1, y2, y3, y4, y5⟩ := hSw; go_simp
  (try simp only [Act.put, List.setIfInBounds_toArray, List.set_cons_zero, List.set_cons_succ])
  refine wpAnyH_take (i := 17) (oi := _) (v := .pointer (some ⟨g, 0, none⟩)) (by rw [List.getElem?_toArray]; exact rfl) (by kernel_rfl) (by kernel_rfl) (by kernel_rfl) (by intro _ _ _ h; exact h) (Or.inl ⟨by kernel_rfl, ?_⟩) hHeld ?_
  · intro w hSw; obtain ⟨y1, y2, y3, y4, y5⟩ := hSw; go_simp
  (try simp only [Act.put, List.setIfInBounds_toArray, List.set_cons_zero, List.set_cons_succ])
  refine wpAnyH_take (i := 18) (oi := _) (v := .pointer (some ⟨g, 0, none⟩)) (by rw [List.getElem?_toArray]; exact rfl) (by kernel_rfl) (by kernel_rfl) (by kernel_rfl) (by intro _ _ _ h; exact h) (Or.inl ⟨by kernel_rfl, ?_⟩) hHeld ?_
  · intro w hSw; obtain ⟨y1, y2, y3, y4, y5⟩ := hSw; go_simp
  (try simp only [Act.put, List.setIfInBounds_toArray, List.set_cons_zero, List.set_cons_succ])
  refine wpAnyH_take (i := 19) (oi := _) (v := .pointer (some ⟨g, 0, none⟩)) (by rw [List.getElem?_toArray]; exact rfl) (by kernel_rfl) (by kernel_rfl) (by kernel_rfl) (by intro _ _ _ h; exact h) (Or.inl ⟨by kernel_rfl, ?_⟩) hHeld ?_
  · intro w hSw; obtain ⟨y1, y2, y3, y4, y5⟩ := hSw; go_simp
  (try simp only [Act.put, List.setIfInBounds_toArray, List.set_cons_zero, List.set_cons_succ])
  refine wpAnyH_take (i := 20) (oi := _) (v := .slice p2 n2 d2) (by rw [List.getElem?_toArray]; exact rfl) (by kernel_rfl) (by kernel_rfl) (by kernel_rfl) (by intro _ _ _ h; exact h) (Or.inl ⟨by kernel_rfl, ?_⟩) hHeld ?_
  · intro w hSw; obtain ⟨y1, y2, y3, y4, y5⟩ := hSw; go_simp
  (try simp only [Act.put, List.setIfInBounds_toArray, List.set_cons_zero, List.set_cons_succ])
  refine wpAnyH_take (i := 21) (oi := _) (v := .agg #[.slice p0 n0 d0, .int .i64 pc, .bool on, .slice p1 n1 d1, .slice p2 n2 d2]) (by rw [List.getElem?_toArray]; exact rfl) (by kernel_rfl) (by kernel_rfl) (by kernel_rfl) (by intro _ _ _ h; exact h) (Or.inl ⟨by kernel_rfl, ?_⟩) hHeld ?_
  · intro w hSw; obtain ⟨y1, y2, y3, y4, y5⟩ := hSw; go_simp
  (try simp only [Act.put, List.setIfInBounds_toArray, List.set_cons_zero, List.set_cons_succ])
  refine wpAnyH_ready (rs := [22]) (by kernel_rfl) (by simp) ?_
  refine AllReadyH.cons (o := _) (by rw [List.getElem?_toArray]; exact rfl) (fun K hK => ?_) AllReadyH.nil
  obtain ⟨r0, r1, r2, r3, r4, f0, f1, f2, f3, f4⟩ := RX.out.five
  rw [if_pos (by kernel_rfl)]
  go_simp
  refine hK.out _ _ ?_ (fun hHeld => ?_)
  · obtain ⟨y0, y1, y2, y3, y4, _⟩ := (((((BD.out.set (q := ⟨w.heap.size, 0, none⟩) (Ne.symm HNE.out) (.slice p0 n0 d0)).set (q := ⟨w.heap.size, 1, none⟩) (Ne.symm HNE.out) (.int .i64 pc)).set (q := ⟨w.heap.size, 2, none⟩) (Ne.symm HNE.out) (.bool on)).set (q := ⟨w.heap.size, 3, none⟩) (Ne.symm HNE.out) (.slice p1 n1 d1)).set (q := ⟨w.heap.size, 4, none⟩) (Ne.symm HNE.out) (.slice p2 n2 d2)).five
    exact ⟨y0, y1, y2, y3, y4⟩
  clear hK K
  (try simp only [Act.put, List.setIfInBounds_toArray, List.set_cons_zero, List.set_cons_succ])
  refine wpAnyH_done (by kernel_rfl) ?_ _
  obtain ⟨z0, z1, z2, z3, z4, _⟩ := (((((RX.out.put 0 (.slice p0 n0 d0)).put 1 (.int .i64 pc)).put 2 (.bool on)).put 3 (.slice p1 n1 d1)).put 4 (.slice p2 n2 d2)).five
  clear hHeld r0 r1 r2 r3 r4 f0 f1 f2 f3 f4
  go_wp2
  (try simp only [Exit.inBlock, Exit.then])
  refine bodyPost_ret (by simp [results, Try.results70, go_sem, z0, z1, z2, z3, z4]; try rfl) rfl ?_
  exact ⟨rfl, below_set5 HBD.out (Nat.le_refl _) _ _ _ _ _⟩

/-- Whom a worker helps last. -/
theorem WkO.last {w : World} {base g : Nat} {v0 v1 v2 : Value} {t : TD} (h : WkO w base g v0 v1 v2 t) (hn : t.n2 ≠ 0) : ∃ g2 cap, v2 = .slice (some ⟨g2, 0, none⟩) t.n2 cap ∧ g2 ≠ g ∧ base ≤ g2 ∧ g2 < w.heap.size := by
  rcases owns_forms h.thr.stk with ⟨-, hz⟩ | ⟨g2, cap, rfl⟩
  · exact absurd hz hn
  · have hb := h.thr.blk (k := g2) (.inr (.inr rfl))
    exact ⟨g2, cap, rfl, fun e => h.out (by subst e; exact .inr (.inr rfl)), hb.1, hb.2⟩

noncomputable def pushWL : List Oper := match Try.f69.body with
  | some (.seq _ (.region _ ops _)) => ops.toList
  | _ => []
/-- What holds while one is pushed. -/
structure QI (W : World) (base g : Nat) (v0 v1 v2 : Value) (h : Nat → Int) (n0 : Nat) (fs : List Int) (pc : Int) (on : Bool) (n1 : Nat) (gs : List Int) (n2 : Nat) (hs : List Int) (b4 b5 b6 b7 b8 b9 : Bool) (s8 s9 s10 s11 s12 s13 : Value) (w : World) : Prop where
  pre : b7 = false → Below W.heap.size W w
  l4 : b4 = true → s8 = v2
  l5 : b5 = true → s9 = HelpV h
  one : b7 = false → b6 = true → ∃ q, s10 = .slice (some ⟨q, 0, none⟩) 1 1 ∧ Box w q #[.int .i64 (h 0), .int .i64 (h 1), .int .i64 (h 2), .int .i64 (h 3)] 62 ∧ W.heap.size ≤ q
  dep : b7 = true → b4 = true ∧ b6 = true
  d6 : b6 = true → b5 = true
  post : b7 = true → Below base W w ∧ Box w g #[v2, v0, .int .i64 pc, .bool on, v1] 107 ∧ ThO w base v0 v1 s11 ⟨n0, fs, pc, on, n1, gs, n2 + 1, hs ++ helpL h⟩ ∧ ¬ In3 v0 v1 s11 g
  l8 : b8 = true → b7 = true ∧ s12 = .pointer (some ⟨g, 0, none⟩)
  l9 : b9 = true → b8 = true ∧ s13 = .pointer (some ⟨g, 0, none⟩)
def QR (W : World) (sz base g : Nat) (v0 v1 v2 : Value) (h : Nat → Int) (n0 : Nat) (fs : List Int) (pc : Int) (on : Bool) (n1 : Nat) (gs : List Int) (n2 : Nat) (hs : List Int) (l : Array Bool) (a : Act) (w : World) : Prop :=
  ∃ (b4 b5 b6 b7 b8 b9 : Bool) (s8 s9 s10 s11 s12 s13 : Value), l = #[true, true, true, true, b4, b5, b6, b7, b8, b9, false] ∧
    a = ⟨#[.pointer (some ⟨g, 0, none⟩), HelpV h, undef, .pointer (some ⟨sz, 0, none⟩), .pointer (some ⟨g, 0, none⟩), .pointer (some ⟨g, 0, none⟩), .pointer (some ⟨g, 0, none⟩), .pointer (some ⟨g, 0, none⟩), s8, s9, s10, s11, s12, s13], []⟩ ∧
    QI W base g v0 v1 v2 h n0 fs pc on n1 gs n2 hs b4 b5 b6 b7 b8 b9 s8 s9 s10 s11 s12 s13 w
set_option maxHeartbeats 2000000 in
set_option maxRecDepth 100000 in
theorem pushW_any (base g : Nat) (v0 v1 v2 : Value) (t : TD) (h : Nat → Int) (w : World) (hs : t.n2 ≤ 1048576) (hw : WkO w base g v0 v1 v2 t) :
    Calls Try.prog 69 #[.pointer (some ⟨g, 0, none⟩), HelpV h] w fun e w' => e = .returned (.tuple #[]) ∧ Below base w w' ∧ ∃ u, WkO w' base g v0 v1 u (t.push h) := by
  obtain ⟨i0, hi0, hz0, hz1, hz2⟩ := info_parts kInfoHelp
  obtain ⟨n0, fs, pc, on, n1, gs, n2, hs'⟩ := t
  simp only at hs
  have hg := hw.box.lt
  obtain ⟨p2, d2, rfl, -⟩ := owns_slice hw.thr.stk
  obtain ⟨W, hW⟩ : ∃ W, w.alloc (.cells #[.int .i64 (h 0), .int .i64 (h 1), .int .i64 (h 2), .int .i64 (h 3)] 62) = W := ⟨_, rfl⟩
  have hb0 : Below w.heap.size w W := by rw [← hW]; exact (Below.refl _ w).alloc (Nat.le_refl _) _
  have XH : Hid (Box W w.heap.size #[.int .i64 (h 0), .int .i64 (h 1), .int .i64 (h 2), .int .i64 (h 3)] 62) := by rw [← hW]; exact box_of w _ _
  have WK : Hid (WkO W base g v0 v1 (.slice p2 n2 d2) ⟨n0, fs, pc, on, n1, gs, n2, hs'⟩) := hw.below hb0
  have HB0 : Hid (Below w.heap.size w W) := hb0
  have HW : Hid _ := hW
  have hlow := hw.low
  have hsz : w.heap.size < W.heap.size := XH.out.lt
  clear hw hW hb0
  go_enter Try.func69, Try.ntmps69
  go_wp2_with fail
  rw [HW.out]
  change (Code.region _ (List.toArray pushWL) true).wp _ _ _ _
  refine wp_region_held_drew (S := fun _ => True) (by kernel_rfl) trivial (fun hHeld => ?_)
  refine wpAnyH_take (i := 0) (oi := _) (v := .pointer (some ⟨g, 0, none⟩)) (by rw [List.getElem?_toArray]; exact rfl) (by kernel_rfl) (by kernel_rfl) (by kernel_rfl) (by intro _ _ _ h; exact h) (Or.inl ⟨by kernel_rfl, ?_⟩) hHeld ?_
  · intro w hSw; go_simp
  (try simp only [Act.put, List.setIfInBounds_toArray, List.set_cons_zero, List.set_cons_succ])
  refine wpAnyH_take (i := 1) (oi := _) (v := .pointer (some ⟨g, 0, none⟩)) (by rw [List.getElem?_toArray]; exact rfl) (by kernel_rfl) (by kernel_rfl) (by kernel_rfl) (by intro _ _ _ h; exact h) (Or.inl ⟨by kernel_rfl, ?_⟩) hHeld ?_
  · intro w hSw; go_simp
  (try simp only [Act.put, List.setIfInBounds_toArray, List.set_cons_zero, List.set_cons_succ])
  refine wpAnyH_take (i := 2) (oi := _) (v := .pointer (some ⟨g, 0, none⟩)) (by rw [List.getElem?_toArray]; exact rfl) (by kernel_rfl) (by kernel_rfl) (by kernel_rfl) (by intro _ _ _ h; exact h) (Or.inl ⟨by kernel_rfl, ?_⟩) hHeld ?_
  · intro w hSw; go_simp
  (try simp only [Act.put, List.setIfInBounds_toArray, List.set_cons_zero, List.set_cons_succ])
  refine wpAnyH_take (i := 3) (oi := _) (v := .pointer (some ⟨g, 0, none⟩)) (by rw [List.getElem?_toArray]; exact rfl) (by kernel_rfl) (by kernel_rfl) (by kernel_rfl) (by intro _ _ _ h; exact h) (Or.inl ⟨by kernel_rfl, ?_⟩) hHeld ?_
  · intro w hSw; go_simp
  (try simp only [Act.put, List.setIfInBounds_toArray, List.set_cons_zero, List.set_cons_succ])
  refine wpAnyH_inv (z := 10) (R := QR W w.heap.size base g v0 v1 (.slice p2 n2 d2) h n0 fs pc on n1 gs n2 hs') (by kernel_rfl) (fun _ _ _ _ => trivial) (of_decide_eq_true (by kernel_rfl)) (waits_at (by kernel_rfl)) ?_ ?_ _ _ _ _ (by kernel_rfl) (of_decide_eq_true (by kernel_rfl)) (by kernel_rfl) (by kernel_rfl) ?_
  · rw [show (List.range (List.toArray pushWL).size).filter (· != 10) = [0, 1, 2, 3, 4, 5, 6, 7, 8, 9] by kernel_rfl]
    refine StepAll.skip (fun l a w' => by rintro ⟨b4, b5, b6, b7, b8, b9, s8, s9, s10, s11, s12, s13, rfl, rfl, J⟩; rfl) ?_
    refine StepAll.skip (fun l a w' => by rintro ⟨b4, b5, b6, b7, b8, b9, s8, s9, s10, s11, s12, s13, rfl, rfl, J⟩; rfl) ?_
    refine StepAll.skip (fun l a w' => by rintro ⟨b4, b5, b6, b7, b8, b9, s8, s9, s10, s11, s12, s13, rfl, rfl, J⟩; rfl) ?_
    refine StepAll.skip (fun l a w' => by rintro ⟨b4, b5, b6, b7, b8, b9, s8, s9, s10, s11, s12, s13, rfl, rfl, J⟩; rfl) ?_
    refine StepAll.cons (o := _) (by rw [List.getElem?_toArray]; exact rfl) ?_ ?_
    · rintro K' l a wx ⟨b4, b5, b6, b7, b8, b9, s8, s9, s10, s11, s12, s13, rfl, rfl, J⟩ hf he hK
      have h4 : b4 = false := by simpa using hf
      have h7 := no_of (fun q => (J.dep q).1) h4
      obtain ⟨y0, -⟩ := (WK.out.box.below (J.pre h7) WK.out.box.lt).five
      rw [if_pos (by kernel_rfl)]
      go_simp
      refine hK.out _ _ ?_
      exact ⟨true, b5, b6, b7, b8, b9, .slice p2 n2 d2, s9, s10, s11, s12, s13, rfl, rfl, { J with l4 := fun _ => rfl, dep := fun q => by rw [h7] at q; cases q }⟩
    refine StepAll.cons (o := _) (by rw [List.getElem?_toArray]; exact rfl) ?_ ?_
    · rintro K' l a wx ⟨b4, b5, b6, b7, b8, b9, s8, s9, s10, s11, s12, s13, rfl, rfl, J⟩ hf he hK
      have h5 : b5 = false := by simpa using hf
      have h6 := no_of J.d6 h5
      have h7 := no_of (fun q => (J.dep q).2) h6
      obtain ⟨x0, x1, x2, x3, -⟩ := (XH.out.below (J.pre h7) XH.out.lt).four
      rw [if_pos (by kernel_rfl)]
      go_simp
      refine hK.out _ _ ?_
      exact ⟨b4, true, b6, b7, b8, b9, s8, HelpV h, s10, s11, s12, s13, rfl, rfl, { J with l5 := fun _ => rfl, d6 := fun _ => rfl }⟩
    refine StepAll.cons (o := _) (by rw [List.getElem?_toArray]; exact rfl) ?_ ?_
    · rintro K' l a wx ⟨b4, b5, b6, b7, b8, b9, s8, s9, s10, s11, s12, s13, rfl, rfl, J⟩ hf he hK
      have h6 : b6 = false := by simpa using hf
      have h5 : b5 = true := by simpa using he ⟨5, .data⟩ (by simp) rfl
      have h7 := no_of (fun q => (J.dep q).2) h6
      have e5 := J.l5 h5
      subst e5
      rw [if_pos (by kernel_rfl)]
      go_simp
      refine hK.out _ _ ?_
      have hp := J.pre h7
      exact ⟨b4, b5, true, b7, b8, b9, s8, _, .slice (some ⟨wx.heap.size, 0, none⟩) 1 1, s11, s12, s13, rfl, rfl, ⟨fun _ => hp.alloc hp.size _, J.l4, J.l5, fun _ _ => ⟨wx.heap.size, rfl, box_of wx _ _, hp.size⟩, (fun q => by rw [h7] at q; cases q), fun _ => h5, (fun q => by rw [h7] at q; cases q), J.l8, J.l9⟩⟩
    refine StepAll.cons (o := _) (by rw [List.getElem?_toArray]; exact rfl) ?_ ?_
    · rintro K' l a wx ⟨b4, b5, b6, b7, b8, b9, s8, s9, s10, s11, s12, s13, rfl, rfl, J⟩ hf he hK
      have h7 : b7 = false := by simpa using hf
      have h4 : b4 = true := by simpa using he ⟨4, .data⟩ (by simp) rfl
      have h6 : b6 = true := by simpa using he ⟨6, .data⟩ (by simp) rfl
      have hp := J.pre h7
      have e4 := J.l4 h4
      obtain ⟨q, e1, e2, e3⟩ := J.one h7 h6
      have WX : WkO wx base g v0 v1 (.slice p2 n2 d2) ⟨n0, fs, pc, on, n1, gs, n2, hs'⟩ := WK.out.below hp
      have hbs : base ≤ wx.heap.size := by have := WX.box.lt; have := WX.low; omega
      refine step_append_any _ (by rfl) (.tmp 8) (.tmp 10) 44 (by rfl) base 62 i0 (.agg #[.int .i64 0, .int .i64 0, .int .i64 0, .int .i64 0]) 4 32 Try.underlying44 hi0 hz0 hz1 hz2 (by rfl) (by decide) (.slice p2 n2 d2) n2 (hs'.map I) (by exact e4) WX.thr.stk (some ⟨q, 0, none⟩) 1 1 (helpL h) (by exact e1) (fun e => by cases e) (one_kAt e2) (by unfold maxLen; omega) (by omega) hbs ?_
      intro v' w' own' gr at'
      rw [← List.map_append] at own'
      refine hK.out _ _ ?_
      refine ⟨b4, b5, b6, true, b8, b9, s8, s9, s10, v', s12, s13, rfl, rfl, ⟨(fun q => by cases q), J.l4, J.l5, (fun q => by cases q), fun _ => ⟨h4, h6⟩, J.d6, fun _ => ?_, fun q => ⟨rfl, (J.l8 q).2⟩, J.l9⟩⟩
      have bk : ∀ k, k < wx.heap.size → (Value.slice p2 n2 d2).ownBlock ≠ some k → w'.heap[k]? = wx.heap[k]? := fun k hk hn => gr.block k hk (fun e => hn e.symm)
      have sp : Sep3 v' v0 v1 := sep_like WX.thr.sep.rot.rot at' (fun k e => (WX.thr.ops.lt k e).2) (fun k e => (WX.thr.got.lt k e).2)
      refine ⟨(hp.mono (by have := WK.out.box.lt; have := WK.out.low; omega)).grown gr hbs (fun k e => (WX.thr.stk.lt k e).1), ?_, ⟨?_, ?_, own', sp.rot⟩, ?_⟩
      · exact (bk g WX.box.lt (fun e => WX.out (.inr (.inr e)))).trans WX.box
      · exact owns_heap WX.thr.ops fun k e => bk k (WX.thr.ops.lt k e).2 (WX.thr.sep.2.1 k e)
      · exact owns_heap WX.thr.got fun k e => bk k (WX.thr.got.lt k e).2 (WX.thr.sep.2.2 k e)
      · rintro (e | e | e)
        · exact WX.out (.inl e)
        · exact WX.out (.inr (.inl e))
        · rcases at' with h' | h'
          · exact WX.out (.inr (.inr (by rw [← h']; exact e)))
          · rw [h'] at e
            have := Option.some.inj e
            have := WX.box.lt
            omega
    refine StepAll.cons (o := _) (by rw [List.getElem?_toArray]; exact rfl) ?_ ?_
    · rintro K' l a wx ⟨b4, b5, b6, b7, b8, b9, s8, s9, s10, s11, s12, s13, rfl, rfl, J⟩ hf he hK
      have h7 : b7 = true := by simpa using he ⟨7, .phase⟩ (by simp) rfl
      rw [if_pos (by kernel_rfl)]
      go_simp
      refine hK.out _ _ ?_
      exact ⟨b4, b5, b6, b7, true, b9, s8, s9, s10, s11, .pointer (some ⟨g, 0, none⟩), s13, rfl, rfl, { J with l8 := fun _ => ⟨h7, rfl⟩, l9 := fun q => ⟨rfl, (J.l9 q).2⟩ }⟩
    refine StepAll.cons (o := _) (by rw [List.getElem?_toArray]; exact rfl) ?_ ?_
    · rintro K' l a wx ⟨b4, b5, b6, b7, b8, b9, s8, s9, s10, s11, s12, s13, rfl, rfl, J⟩ hf he hK
      have h8 : b8 = true := by simpa using he ⟨8, .data⟩ (by simp) rfl
      have e8 := (J.l8 h8).2
      subst e8
      rw [if_pos (by kernel_rfl)]
      go_simp
      refine hK.out _ _ ?_
      exact ⟨b4, b5, b6, b7, b8, true, s8, s9, s10, s11, _, .pointer (some ⟨g, 0, none⟩), rfl, rfl, { J with l9 := fun _ => ⟨h8, rfl⟩ }⟩
    exact StepAll.nil
  · refine last_step (o := _) (by rw [List.getElem?_toArray]; exact rfl) ?_
    rintro K' l a w2 ⟨b4, b5, b6, b7, b8, b9, s8, s9, s10, s11, s12, s13, rfl, rfl, J⟩ hall hK
    have h9 : b9 = true := by simpa using hall 9 (of_decide_eq_true (by kernel_rfl)) (by decide)
    obtain ⟨h8, rfl⟩ := J.l9 h9
    obtain ⟨bel, bx, tO, nin⟩ := J.post (J.l8 h8).1
    obtain ⟨p, d, rfl, -⟩ := owns_slice tO.stk
    obtain ⟨m0, m1, m2', m3, m4, k0, -⟩ := bx.five
    have BX : Hid (Box w2 g #[.slice p2 n2 d2, v0, .int .i64 pc, .bool on, v1] 107) := bx
    have TO : Hid (ThO w2 base v0 v1 (.slice p (n2 + 1) d) ⟨n0, fs, pc, on, n1, gs, n2 + 1, hs' ++ helpL h⟩) := tO
    have NI : Hid (¬ In3 v0 v1 (.slice p (n2 + 1) d) g) := nin
    have BL : Hid (Below base W w2) := bel
    clear J hall bel bx tO nin m1 m2' m3 m4
    rw [if_pos (by kernel_rfl)]
    go_simp
    refine hK.out _ _ trivial ?_
    clear hK K' m0 k0
    refine bodyPost_end (v := .tuple #[]) (by simp [results, Try.results69, go_sem]; try rfl) rfl ?_
    refine ⟨rfl, ?_, .slice p (n2 + 1) d, ⟨BX.out.put 0 _, TO.out.set (q := ⟨g, 0, none⟩) NI.out _, hlow, NI.out⟩⟩
    exact ((HB0.out.mono (by have := WK.out.box.lt; omega)).trans BL.out).setCell hlow _
  · exact ⟨false, false, false, false, false, false, undef, undef, undef, undef, undef, undef, rfl, rfl, ⟨fun _ => (Below.refl _ _).drew, (fun h => by cases h), (fun h => by cases h), (fun _ h => by cases h), (fun h => by cases h), (fun h => by cases h), (fun h => by cases h), (fun h => by cases h), (fun h => by cases h)⟩⟩
end Go.Proofs.Ytemeklfkbjpnmar
