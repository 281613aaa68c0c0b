/- The drawing of rows, walked: what is drawn lies in memory of its own, and the cursor alone is turned of what was there. -/
import Derived.Test.YtlnhmmpmnflagadPickI
import Derived.Test.YtlnhmmpmnflagadClone
import Derived.Test.YtlnhmmpmnflagadSpecRows
import Derived.Test.YtlnhmmpmnflagadSpecAfter
import Derived.Maps.AppendAt
import Derived.OwnWalk
import Derived.Deep.RegionHeld3
namespace Go.Proofs.Ytlnhmmpmnflagad
open Go.ChangeShapes Go.WideShapes Go.ChangeAt Go.RowKit

theorem far_drew {w w' : World} {row : Option Nat} (h : w.grownBy w' row) : w.grownBy w'.drew row := ⟨h.os, h.tape, h.output, h.size, h.block⟩
theorem far_only {p : Nat} {w w' : World} (h : Only p w w') : w.grownBy w' (some p) := ⟨h.os, h.tape, h.output, Nat.le_of_eq h.size.symm, fun k _ hk => h.block k (fun e => hk (by rw [e]))⟩
theorem far_below {w w' : World} (h : Below w.heap.size w w') (row : Option Nat) : w.grownBy w' row := ⟨h.os, h.tape, h.output, h.size, fun k hk _ => h.block k hk⟩
theorem far_below_of {w0 w w' : World} {row : Option Nat} (h0 : w0.grownBy w row) (h : Below w.heap.size w w') : w0.grownBy w' row := h0.trans (far_below h row)
theorem far_set {w0 w : World} {row : Option Nat} (h : w0.grownBy w row) {a : Addr} (ha : w0.heap.size ≤ a.block) (v : Value) : w0.grownBy (w.setCell a v) row :=
  ⟨h.os, h.tape, h.output, by simpa [World.setCell] using h.size, fun k hk hr => by rw [Below.heap_setCell _ _ _ _ (fun e => by omega)]; exact h.block k hk hr⟩
theorem far_cell {w w' : World} {p g o : Nat} {v : Value} (h : w.grownBy w' (some p)) (hv : w.cell? ⟨g, o, none⟩ = some v) (hg : g ≠ p) : w'.cell? ⟨g, o, none⟩ = some v := h.cell hv (by simpa using hg)
theorem cur_below {T : TypeId} {w w' : World} {p : Nat} {a : Option Addr} {n c : Nat} (h : Cur T w p a n c) (hb : Below w.heap.size w w') : Cur T w' p a n c :=
  h.keep fun k hk => hb.block k (Nat.lt_of_le_of_lt hk h.lt)
theorem cur_set {T : TypeId} {w : World} {p : Nat} {a : Option Addr} {n c : Nat} (h : Cur T w p a n c) {q : Addr} (hq : p < q.block) (v : Value) : Cur T (w.setCell q v) p a n c :=
  h.keep fun k hk => Below.heap_setCell _ _ _ _ (fun e => by omega)
theorem cur_alloc {T : TypeId} {w : World} {p : Nat} {a : Option Addr} {n c : Nat} (h : Cur T w p a n c) (o : Obj) : Cur T (w.alloc o) p a n c := cur_below h ((Below.refl _ w).alloc (Nat.le_refl _) o)
theorem own_only {p : Nat} {w w' : World} {base : Nat} {e : TypeId} {size : Nat} {v : Value} {n : Nat} {xs : List Value} (ho : w.ownsRow base e size v n xs) (h : w.grownBy w' (some p)) (hp : p < base) : w'.ownsRow base e size v n xs := by
  obtain ⟨h1, h2 | ⟨g, cap, cur, h3, h4, h5, h6⟩⟩ := ho
  · exact ⟨h1, .inl h2⟩
  · exact ⟨h1, .inr ⟨g, cap, cur, h3, h4, by rw [h.block g (Array.getElem?_eq_some_iff.1 h5).1 (by simp; omega)]; exact h5, h6⟩⟩
/-- Numbers of a drawn list. -/
def Small (xs : List Int) : Prop := ∀ x ∈ xs, -1 ≤ x ∧ x ≤ 7
theorem Small.wf {xs : List Int} (h : Small xs) : ∀ x ∈ xs, (Lit.int .i64 x).wf = true := fun x hx => WalkArith.wf_i64 (by have := h x hx; omega)
theorem Small.set {xs : List Int} (h : Small xs) (k : Nat) {v : Int} (hv : -1 ≤ v ∧ v ≤ 7) : Small (xs.set k v) := fun x hx => by
  rcases List.mem_or_eq_of_mem_set hx with h1 | rfl
  · exact h x h1
  · exact hv

theorem grown_box2 {w w1 : World} {u v : Value} {t : TypeId} (h : (w.alloc (.cells #[u, v] t)).grownBy w1 none) : w1.cell? ⟨w.heap.size, 0, none⟩ = some u ∧ w1.cell? ⟨w.heap.size, 1, none⟩ = some v ∧ w1.frozen? ⟨w.heap.size, 0, none⟩ = false ∧ w1.frozen? ⟨w.heap.size, 1, none⟩ = false ∧ Below w.heap.size w w1 := by
  have hb : Below (w.heap.size + 1) (w.alloc (.cells #[u, v] t)) w1 := (Below.refl _ _).grown h (by simp) (fun k e => by cases e)
  exact ⟨by rw [hb.cell (by simp)]; simp, by rw [hb.cell (by simp)]; simp, by rw [hb.frozen (by simp)]; simp, by rw [hb.frozen (by simp)]; simp, ((Below.refl _ w).alloc (Nat.le_refl _) _).trans (hb.mono (Nat.le_succ _))⟩
set_option maxHeartbeats 400000 in
theorem specRowsNew_own (w : World) :
    Calls Try.prog 49 #[] w fun e w' => e = .returned (.agg #[.slice (some ⟨w.heap.size + 1, 0, none⟩) 4 4, .int .i64 0]) ∧ w'.ownsRow (w.heap.size + 1) 3 1 (.slice (some ⟨w.heap.size + 1, 0, none⟩) 4 4) 4 (([0, 0, 0, 0] : List Int).map I) ∧ Below w.heap.size w w' := by
  obtain ⟨i0, hi, hz0, hz1, hz2⟩ := info_parts infoInt
  go_enter Try.func49, Try.ntmps49
  go_wp2_with (first | (at_make; refine wpList_make_full _ rfl _ _ 24 rfl (w.heap.size + 1) 3 i0 (.int .i64 0) 1 Try.underlying24 hi hz0 hz1 .i64 .i64 _ _ 4 rfl rfl rfl rfl (by rw [hz2]; omega) (by unfold maxLen; omega) (by simp) ?_; intro w1 own1 grow1; obtain ⟨c0, c1, f0, f1, hb1⟩ := grown_box2 grow1) | fail)
  (try simp only [Exit.inBlock, Exit.then])
  refine bodyPost_ret (by simp [results, Try.results49, go_sem, c0, c1]; try rfl) rfl ?_
  rw [show (madeCells (Value.int .i64 0).cells (4 * 1)).toList = (([0, 0, 0, 0] : List Int).map I) from (toList_madeCells_one _ _).trans rfl] at own1
  simp only [World.size_alloc] at own1
  refine ⟨rfl, ownsRow_setCell_below (ownsRow_setCell_below own1 (Nat.lt_succ_self _) _) (Nat.lt_succ_self _) _, (hb1.setCell (Nat.le_refl _) _).setCell (Nat.le_refl _) _⟩

theorem stored_box2 {w : World} {b : Nat} {u0 u1 : Value} (h0 : w.cell? ⟨b, 0, none⟩ = some u0) (h1 : w.cell? ⟨b, 1, none⟩ = some u1) (x y : Value) :
    ((w.setCell ⟨b, 0, none⟩ x).setCell ⟨b, 1, none⟩ y).cell? ⟨b, 0, none⟩ = some x ∧ ((w.setCell ⟨b, 0, none⟩ x).setCell ⟨b, 1, none⟩ y).cell? ⟨b, 1, none⟩ = some y := by
  refine ⟨?_, ?_⟩
  · rw [World.cell?_setCell_other _ _ _ _ (fun e => by cases e), World.cell?_setCell_same _ _ _ h0]
  · refine World.cell?_setCell_same _ _ _ (u := u1) ?_
    rw [World.cell?_setCell_other _ _ _ _ (fun e => by cases e)]
    exact h1
/-- A box for rows. -/
def RBox (w : World) (b : Nat) (a : Option Addr) (n c : Nat) (st : Int) : Prop := w.heap[b]? = some (.cells #[.slice a n c, .int .i64 st] 26)
theorem RBox.facts {w : World} {b n c : Nat} {a : Option Addr} {st : Int} (h : RBox w b a n c st) : w.cell? ⟨b, 0, none⟩ = some (.slice a n c) ∧ w.cell? ⟨b, 1, none⟩ = some (.int .i64 st) ∧ w.frozen? ⟨b, 0, none⟩ = false ∧ w.frozen? ⟨b, 1, none⟩ = false ∧ b < w.heap.size := by
  unfold RBox at h
  exact ⟨by simp [World.cell?, h], by simp [World.cell?, h], by simp [World.frozen?, h], by simp [World.frozen?, h], (Array.getElem?_eq_some_iff.1 h).1⟩
theorem RBox.far {w w' : World} {p b n c : Nat} {a : Option Addr} {st : Int} (h : RBox w b a n c st) (hg : w.grownBy w' (some p)) (hp : b ≠ p) : RBox w' b a n c st := by
  unfold RBox at h ⊢
  rw [hg.block b (Array.getElem?_eq_some_iff.1 h).1 (by simpa using hp)]
  exact h
theorem RBox.set {w : World} {b n c : Nat} {a : Option Addr} {st : Int} (h : RBox w b a n c st) {q : Addr} (hq : b ≠ q.block) (v : Value) : RBox (w.setCell q v) b a n c st := by
  unfold RBox at h ⊢
  rw [Below.heap_setCell _ _ _ _ hq]
  exact h
theorem rbox_new (w : World) (a : Option Addr) (n c : Nat) (st : Int) : RBox (w.alloc (.cells #[.slice a n c, .int .i64 st] 26)) w.heap.size a n c st := by
  show (w.heap.push _)[w.heap.size]? = _
  simp
/-- While rows are drawn. -/
structure DrawSt (w : World) (p : Nat) (a : Option Addr) (n c g b : Nat) (wr : World) (xs : List Int) (st : Int) : Prop where
  cur : Cur 67 wr p a n c
  far : w.grownBy wr (some p)
  own : wr.ownsRow g 3 1 (.slice (some ⟨g, 0, none⟩) 4 4) 4 (xs.map I)
  small : Small xs
  box : RBox wr b (some ⟨g, 0, none⟩) 4 4 st
  res : RBox wr w.heap.size none 0 0 0
section
variable {w wr wr' : World} {p n c g b : Nat} {a : Option Addr} {xs : List Int} {st : Int}
theorem DrawSt.only (h : DrawSt w p a n c g b wr xs st) (hp : p < w.heap.size) (hg : w.heap.size < g) (hb : g < b) (hC : Cur 67 wr' p a n c) (hO : Only p wr wr') : DrawSt w p a n c g b wr' xs st :=
  ⟨hC, h.far.trans (far_only hO), own_only h.own (far_only hO) (by omega), h.small, h.box.far (far_only hO) (by omega), h.res.far (far_only hO) (by omega)⟩
theorem DrawSt.below (h : DrawSt w p a n c g b wr xs st) (hp : p < w.heap.size) (hg : w.heap.size < g) (hb : g < b) (hB : Below wr.heap.size wr wr') : DrawSt w p a n c g b wr' xs st :=
  ⟨cur_below h.cur hB, far_below_of h.far hB, owns_below h.own hB (Nat.le_refl _), h.small, h.box.far (far_below hB (some p)) (by omega), h.res.far (far_below hB (some p)) (by omega)⟩
theorem DrawSt.store (h : DrawSt w p a n c g b wr xs st) (hp : p < w.heap.size) (hg : w.heap.size < g) (hb : g < b) (k : Nat) {v : Int} (hv : -1 ≤ v ∧ v ≤ 7) : DrawSt w p a n c g b (wr.setCell ⟨g, k, none⟩ (I v)) (xs.set k v) st := by
  refine ⟨cur_set h.cur (show p < g by omega) _, far_set h.far (show w.heap.size ≤ g by omega) _, ?_, h.small.set k hv, h.box.set (show b ≠ g by omega) _, h.res.set (show w.heap.size ≠ g by omega) _⟩
  rw [List.map_set]
  exact (h.own.stored k (I v)).1
theorem DrawSt.at (h : DrawSt w p a n c g b wr xs st) : IntAt wr (some ⟨g, 0, none⟩) 4 xs := own_intAt h.own (by omega)
end
theorem pick5 (x : Nat) (_ : x < 5) : 0 ≤ ([0, 0, 1, 3, 5] : List Int).getD x 0 ∧ ([0, 0, 1, 3, 5] : List Int).getD x 0 ≤ 5 := by
  rcases x with _ | _ | _ | _ | _ | x <;> first | decide | omega

set_option maxHeartbeats 1000000 in
theorem l3DrawRight_any (p : Nat) (a : Option Addr) (n c : Nat) (w : World) (hC : Cur 67 w p a n c) :
    Calls Try.prog 28 #[.pointer (some ⟨p, 0, none⟩)] w fun e w' => ∃ (g : Nat) (xs : List Int) (st : Int), e = .returned (.agg #[.slice (some ⟨g, 0, none⟩) 4 4, .int .i64 st]) ∧ w.heap.size < g ∧ w'.ownsRow g 3 1 (.slice (some ⟨g, 0, none⟩) 4 4) 4 (xs.map I) ∧ Small xs ∧ (0 ≤ st ∧ st ≤ 5) ∧ Cur 67 w' p a n c ∧ w.grownBy w' (some p) := by
  have HC : Hid (Cur 67 w p a n c) := hC
  have hpw := hC.lt
  clear hC
  go_enter Try.func28, Try.ntmps28
  go_wp2_with fail
  refine (specRowsNew_own _).mono ?_
  rintro e w1 ⟨rfl, own1, hb1⟩
  simp only [World.size_alloc] at own1 hb1
  have hs1 : w.heap.size + 1 + 1 < w1.heap.size := (own1.lt _ rfl).2
  have hbw : Below w.heap.size w w1 := ((Below.refl _ w).alloc (Nat.le_refl _) _).trans (hb1.mono (by omega))
  have S0 : DrawSt w p a n c (w.heap.size + 1 + 1) w1.heap.size (w1.alloc (.cells #[.slice (some ⟨w.heap.size + 1 + 1, 0, none⟩) 4 4, .int .i64 0] 26)) [0, 0, 0, 0] 0 :=
    ⟨cur_alloc (cur_below HC.out hbw) _, (far_below hbw _).trans (World.grownBy_alloc _ _ _), own1.alloc _, by intro x hx; simp at hx; omega, rbox_new _ _ _ _ _, ((rbox_new w none 0 0 0).far (p := p) (far_below (hb1.mono (by simp)) _) (by omega)).far (p := p) (World.grownBy_alloc _ _ _) (by omega)⟩
  obtain ⟨g, hg⟩ : ∃ g, g = w.heap.size + 1 + 1 := ⟨_, rfl⟩
  obtain ⟨b, hb⟩ : ∃ b, b = w1.heap.size := ⟨_, rfl⟩
  have HS0 : Hid (DrawSt w p a n c g b (w1.alloc (.cells #[.slice (some ⟨g, 0, none⟩) 4 4, .int .i64 0] 26)) [0, 0, 0, 0] 0) := by rw [hg, hb]; exact S0
  have hgw : w.heap.size < g := by omega
  have hgb : g < b := by omega
  clear S0 own1 hb1 hbw
  go_wp2_with fail
  rw [← hg, ← hb]
  clear hg hb hs1
  go_loopw [4] (fun i wr => ∃ (k : Nat) (xs : List Int), k ≤ 4 ∧ i = .int .i64 k ∧ DrawSt w p a n c g b wr xs 0) (fun i _ => 4 - (intOf i).toNat)
  case atStart => exact ⟨0, _, by omega, rfl, HS0.out⟩
  case round =>
    obtain ⟨k, xs, hk, rfl, hS⟩ := hrel
    have HS : Hid (DrawSt w p a n c g b wr xs 0) := hS
    clear hS
    by_cases hlt : k < 4
    · have hk0 : (0 : Int) ≤ (k : Int) := by omega
      have hk1 : (k : Int) < 4 := by omega
      go_wp2_with fail
      refine (l1Below_any p a n c 7 (by omega) (by omega) _ HS.out.cur).mono ?_
      rintro e w2 ⟨x, hx, rfl, hC2, hO2⟩
      have hS2 := HS.out.only hpw hgw hgb hC2 hO2
      obtain ⟨b0, b1, _⟩ := hS2.box.facts
      have HS2 : Hid (DrawSt w p a n c g b w2 xs 0) := hS2
      clear hC2 hO2 hS2
      go_wp2_with fail
      refine (specKeyOf_any _ 4 4 0 x xs _ HS2.out.at).mono ?_
      rintro e w3 ⟨⟨r, rfl, _⟩, hb3⟩
      have hS3 := HS2.out.below hpw hgw hgb hb3
      clear b0 b1
      obtain ⟨b0, b1, _⟩ := hS3.box.facts
      obtain ⟨u0, hu⟩ := own_cell hS3.own hlt
      have hz := hS3.own.frozenAt k
      have HS3 : Hid (DrawSt w p a n c g b w3 xs 0) := hS3
      clear hb3 hS3
      by_cases hr : r < 0
      · go_wp2
        exact ⟨⟨k + 1, _, by omega, by go_num, HS3.out.store hpw hgw hgb k (v := (x : Int)) (by omega)⟩, by simp [intOf]; omega⟩
      · go_wp2
        exact ⟨⟨k + 1, _, by omega, by go_num, HS3.out⟩, by simp [intOf]; omega⟩
    · obtain rfl : k = 4 := by omega
      go_wp2_with fail
      have hSa : DrawSt w p a n c g b (wr.alloc (.cells #[.int .i64 0, .int .i64 0, .int .i64 1, .int .i64 3, .int .i64 5] 3)) xs 0 := HS.out.below hpw hgw hgb ((Below.refl _ _).alloc (Nat.le_refl _) _)
      have hpr : p < wr.heap.size := HS.out.cur.lt
      refine (l1PickInt_any p a n c wr.heap.size 5 5 [0, 0, 1, 3, 5] (by omega) (by omega) _ hSa.cur (by omega) (fun i hi => by rcases i with _ | _ | _ | _ | _ | i <;> first | (simp; done) | omega)).mono ?_
      rintro e w2 ⟨x, hx, rfl, hC2, hO2⟩
      have hS2 := hSa.only hpw hgw hgb hC2 hO2
      obtain ⟨b0, b1, z0, z1, bl⟩ := hS2.box.facts
      obtain ⟨r0, r1, y0, y1, rl⟩ := hS2.res.facts
      have hst := pick5 x hx
      obtain ⟨st, hst1⟩ : ∃ st, ([0, 0, 1, 3, 5] : List Int).getD x 0 = st := ⟨_, rfl⟩
      rw [hst1] at hst
      rw [hst1]
      have HS2 : Hid (DrawSt w p a n c g b w2 xs 0) := hS2
      clear hC2 hO2 hS2 hst1 hSa
      go_wp2
      (try simp only [Exit.inBlock, Exit.then])
      have q := stored_box2 (w := w2.setCell ⟨b, 1, none⟩ (.int .i64 st)) (b := w.heap.size) (by rw [World.cell?_setCell_far _ _ _ _ (show b ≠ w.heap.size by omega)]; exact r0) (by rw [World.cell?_setCell_far _ _ _ _ (show b ≠ w.heap.size by omega)]; exact r1) (.slice (some ⟨g, 0, none⟩) 4 4) (.int .i64 st)
      refine bodyPost_ret (by simp [results, Try.results28, go_sem, q.1, q.2]; try rfl) rfl ?_
      exact ⟨g, xs, st, rfl, hgw, own_setCell_far (own_setCell_far (own_setCell_far HS2.out.own (by simp [Value.ownBlock]; omega) _) (by simp [Value.ownBlock]; omega) _) (by simp [Value.ownBlock]; omega) _, HS2.out.small, hst, cur_set (cur_set (cur_set HS2.out.cur (show p < b by omega) _) (show p < w.heap.size by omega) _) (show p < w.heap.size by omega) _, far_set (far_set (far_set HS2.out.far (show w.heap.size ≤ b by omega) _) (show w.heap.size ≤ w.heap.size by omega) _) (show w.heap.size ≤ w.heap.size by omega) _⟩

theorem IntAt.far {w w' : World} {p g o m : Nat} {xs : List Int} (h : IntAt w (some ⟨g, o, none⟩) m xs) (hg : w.grownBy w' (some p)) (hp : g ≠ p) : IntAt w' (some ⟨g, o, none⟩) m xs :=
  ⟨h.1, h.2.1, .inr ⟨g, o, rfl, fun i hi => far_cell hg (h.cells i hi) hp⟩⟩
theorem IntAt.two {w : World} {g : Nat} {xs : List Int} (h : IntAt w (some ⟨g, 0, none⟩) 4 xs) : IntAt w (some ⟨g, 0, none⟩) 2 (xs.take 2) := by
  have hl := h.1
  refine ⟨by simp; omega, by omega, .inr ⟨g, 0, rfl, fun i hi => ?_⟩⟩
  have h1 := h.cells i (by omega)
  rw [h1, List.getD_eq_getElem?_getD, List.getD_eq_getElem?_getD, List.getElem?_take_of_lt hi]
theorem Small.take {xs : List Int} (h : Small xs) (k : Nat) : Small (xs.take k) := fun x hx => h x (List.mem_of_mem_take hx)
/-- Rows as they are drawn: where they lie, and what they may be. -/
def RowsDrawn (w w' : World) (v : Value) (xs : List Int) : Prop :=
  ∃ (g m : Nat) (st : Int), v = .agg #[.slice (some ⟨g, 0, none⟩) m 4, .int .i64 st] ∧ w.heap.size < g ∧ (m = 4 ∨ m = 2) ∧ IntAt w' (some ⟨g, 0, none⟩) m xs ∧ Small xs ∧ (-1 ≤ st ∧ st ≤ 6)
theorem IntAt.set_far {w : World} {g o m : Nat} {xs : List Int} (h : IntAt w (some ⟨g, o, none⟩) m xs) {q : Addr} (hq : q.block ≠ g) (v : Value) : IntAt (w.setCell q v) (some ⟨g, o, none⟩) m xs :=
  ⟨h.1, h.2.1, .inr ⟨g, o, rfl, fun i hi => by rw [World.cell?_setCell_far _ _ _ _ hq]; exact h.cells i hi⟩⟩
/-- At the end of a drawing of rows. -/
structure DrawEnd (w : World) (p : Nat) (a : Option Addr) (n c g : Nat) (wr : World) (xs : List Int) : Prop where
  cur : Cur 67 wr p a n c
  far : w.grownBy wr (some p)
  here : IntAt wr (some ⟨g, 0, none⟩) 4 xs
  small : Small xs
  res : RBox wr w.heap.size none 0 0 0
theorem DrawSt.toEnd {w wr : World} {p n c g b : Nat} {a : Option Addr} {xs : List Int} {st : Int} (h : DrawSt w p a n c g b wr xs st) : DrawEnd w p a n c g wr xs := ⟨h.cur, h.far, h.at, h.small, h.res⟩
theorem DrawEnd.set {w wr : World} {p n c g : Nat} {a : Option Addr} {xs : List Int} (h : DrawEnd w p a n c g wr xs) (hp : p < w.heap.size) {q : Addr} (hq : q.block ≠ g) (hw : w.heap.size < q.block) (v : Value) : DrawEnd w p a n c g (wr.setCell q v) xs :=
  ⟨cur_set h.cur (by omega) _, far_set h.far (by omega) _, h.here.set_far hq _, h.small, h.res.set (by omega) _⟩
theorem DrawEnd.fin {w wr : World} {p n c g : Nat} {a : Option Addr} {xs : List Int} (h : DrawEnd w p a n c g wr xs) (hp : p < w.heap.size) (hg : w.heap.size < g) (x y : Value) :
    (((wr.setCell ⟨w.heap.size, 0, none⟩ x).setCell ⟨w.heap.size, 1, none⟩ y).cell? ⟨w.heap.size, 0, none⟩ = some x ∧ ((wr.setCell ⟨w.heap.size, 0, none⟩ x).setCell ⟨w.heap.size, 1, none⟩ y).cell? ⟨w.heap.size, 1, none⟩ = some y)
    ∧ IntAt ((wr.setCell ⟨w.heap.size, 0, none⟩ x).setCell ⟨w.heap.size, 1, none⟩ y) (some ⟨g, 0, none⟩) 4 xs ∧ Cur 67 ((wr.setCell ⟨w.heap.size, 0, none⟩ x).setCell ⟨w.heap.size, 1, none⟩ y) p a n c ∧ w.grownBy ((wr.setCell ⟨w.heap.size, 0, none⟩ x).setCell ⟨w.heap.size, 1, none⟩ y) (some p) := by
  obtain ⟨r0, r1, _⟩ := h.res.facts
  exact ⟨stored_box2 r0 r1 x y, (h.here.set_far (show w.heap.size ≠ g by omega) _).set_far (show w.heap.size ≠ g by omega) _, cur_set (cur_set h.cur (show p < w.heap.size from hp) _) (show p < w.heap.size from hp) _, far_set (far_set h.far (Nat.le_refl _) _) (Nat.le_refl _) _⟩
theorem pick3 (x : Nat) (_ : x < 3) : -1 ≤ ([-1, 6, 7] : List Int).getD x 0 ∧ ([-1, 6, 7] : List Int).getD x 0 ≤ 7 := by
  rcases x with _ | _ | _ | x <;> first | decide | omega
theorem pick3' (x : Nat) (_ : x < 3) : -1 ≤ ([-1, 5, 6] : List Int).getD x 0 ∧ ([-1, 5, 6] : List Int).getD x 0 ≤ 6 := by
  rcases x with _ | _ | _ | x <;> first | decide | omega

set_option maxHeartbeats 1000000 in
theorem l3Draw_any (p : Nat) (a : Option Addr) (n c : Nat) (w : World) (hC : Cur 67 w p a n c) :
    Calls Try.prog 19 #[.pointer (some ⟨p, 0, none⟩)] w fun e w' => ∃ v xs, e = .returned v ∧ RowsDrawn w w' v xs ∧ Cur 67 w' p a n c ∧ w.grownBy w' (some p) := by
  have HC : Hid (Cur 67 w p a n c) := hC
  have hpw := hC.lt
  clear hC
  go_enter Try.func19, Try.ntmps19
  go_wp2_with fail
  refine (l3DrawRight_any p a n c _ (cur_alloc HC.out _)).mono ?_
  rintro e w1 ⟨g, xs, st, rfl, hgw, own1, hsm, hst, hC1, hf1⟩
  simp only [World.size_alloc] at hgw
  have hg1 : g < w1.heap.size := (own1.lt _ rfl).2
  have S0 : DrawSt w p a n c g w1.heap.size (w1.alloc (.cells #[.slice (some ⟨g, 0, none⟩) 4 4, .int .i64 st] 26)) xs st :=
    ⟨cur_alloc hC1 _, ((World.grownBy_alloc w _ _).trans hf1).trans (World.grownBy_alloc _ _ _), own1.alloc _, hsm, rbox_new _ _ _ _ _, ((rbox_new w none 0 0 0).far hf1 (by omega)).far (p := p) (World.grownBy_alloc _ _ _) (by omega)⟩
  obtain ⟨b, hb⟩ : ∃ b, b = w1.heap.size := ⟨_, rfl⟩
  have HS0 : Hid (DrawSt w p a n c g b (w1.alloc (.cells #[.slice (some ⟨g, 0, none⟩) 4 4, .int .i64 st] 26)) xs st) := by rw [hb]; exact S0
  have hgb : g < b := by omega
  have hgw' : w.heap.size < g := by omega
  clear S0 own1 hC1 hf1 hsm hgw
  go_wp2_with fail
  rw [← hb]
  clear hb hg1
  refine (l1Below_any p a n c 8 (by omega) (by omega) _ HS0.out.cur).mono ?_
  rintro e w2 ⟨x, hx, rfl, hC2, hO2⟩
  have hS2 := HS0.out.only hpw hgw' hgb hC2 hO2
  obtain ⟨b0, b1, z0, z1, bl⟩ := hS2.box.facts
  obtain ⟨r0, r1, y0, y1, rl⟩ := hS2.res.facts
  obtain ⟨u0, hu0⟩ := own_cell hS2.own (show 0 < 4 by omega)
  obtain ⟨u1, hu1⟩ := own_cell hS2.own (show 1 < 4 by omega)
  obtain ⟨u3, hu3⟩ := own_cell hS2.own (show 3 < 4 by omega)
  have f0 := hS2.own.frozenAt 0
  have f1 := hS2.own.frozenAt 1
  have f3 := hS2.own.frozenAt 3
  have HS2 : Hid (DrawSt w p a n c g b w2 xs st) := hS2
  clear HS0 hC2 hO2 hS2
  rcases (show x = 0 ∨ x = 1 ∨ x = 2 ∨ x = 3 ∨ 4 ≤ x by omega) with rfl | rfl | rfl | rfl | h4
  · go_wp2_with fail
    go_region_held3 (fun w' => w'.cell? ⟨b, 0, none⟩ = some (.slice (some ⟨g, 0, none⟩) 4 4))
      (first | exact c0 | (rw [World.cell?_setCell_far _ _ _ _ (show g ≠ b by omega)]; exact c0) | go_keep)
      (first
      | (go_at_call 44
         have hSa : DrawSt w p a n c g b (w2.alloc (.cells #[.int .i64 (-1), .int .i64 6, .int .i64 7] 3)).drew xs st := HS2.out.below hpw hgw' hgb ((Below.refl _ _).alloc (Nat.le_refl _) _).drew
         refine (l1PickInt_any p a n c w2.heap.size 3 3 [-1, 6, 7] (by omega) (by omega) _ hSa.cur (by have := HS2.out.cur.lt; omega) (fun i hi => by rcases i with _ | _ | _ | i <;> first | (simp; done) | omega)).mono ?_
         rintro e w3 ⟨y, hy, rfl, hC3, hO3⟩
         have hS3 := hSa.only hpw hgw' hgb hC3 hO3
         have hyb := pick3 y hy
         obtain ⟨z, hz1⟩ : ∃ z, ([-1, 6, 7] : List Int).getD y 0 = z := ⟨_, rfl⟩
         rw [hz1] at hyb
         rw [hz1]
         obtain ⟨c0, c1, x0, x1, cl⟩ := hS3.box.facts
         obtain ⟨s0, s1, v0, v1, sl⟩ := hS3.res.facts
         obtain ⟨u4, hu4⟩ := own_cell hS3.own (show 1 < 4 by omega)
         have f4 := hS3.own.frozenAt 1
         have HS3 : Hid (DrawSt w p a n c g b w3 xs st) := hS3
         clear hSa hC3 hO3 hS3 hz1))
    go_wp2
    have HE : Hid (DrawEnd w p a n c g _ _) := (HS3.out.store hpw hgw' hgb 1 (v := z) hyb).toEnd
    have E := HE.out.fin hpw hgw' (.slice (some ⟨g, 0, none⟩) 4 4) (.int .i64 st)
    (try simp only [Exit.inBlock, Exit.then])
    refine bodyPost_ret (by simp [results, Try.results19, go_sem, E.1.1, E.1.2]; try rfl) rfl ?_
    exact ⟨_, _, rfl, ⟨g, 4, st, rfl, hgw', .inl rfl, E.2.1, HE.out.small, (by omega)⟩, E.2.2.1, E.2.2.2⟩
  · go_wp2
    have HE : Hid (DrawEnd w p a n c g _ _) := ((HS2.out.store hpw hgw' hgb 0 (v := 3) (by omega)).store hpw hgw' hgb 3 (v := 3) (by omega)).toEnd
    have E := HE.out.fin hpw hgw' (.slice (some ⟨g, 0, none⟩) 4 4) (.int .i64 st)
    (try simp only [Exit.inBlock, Exit.then])
    refine bodyPost_ret (by simp [results, Try.results19, go_sem, E.1.1, E.1.2]; try rfl) rfl ?_
    exact ⟨_, _, rfl, ⟨g, 4, st, rfl, hgw', .inl rfl, E.2.1, HE.out.small, (by omega)⟩, E.2.2.1, E.2.2.2⟩
  · go_wp2_with fail
    have hSa : DrawSt w p a n c g b (w2.alloc (.cells #[.int .i64 (-1), .int .i64 5, .int .i64 6] 3)) xs st := HS2.out.below hpw hgw' hgb ((Below.refl _ _).alloc (Nat.le_refl _) _)
    refine (l1PickInt_any p a n c w2.heap.size 3 3 [-1, 5, 6] (by omega) (by omega) _ hSa.cur (by have := HS2.out.cur.lt; omega) (fun i hi => by rcases i with _ | _ | _ | i <;> first | (simp; done) | omega)).mono ?_
    rintro e w3 ⟨y, hy, rfl, hC3, hO3⟩
    have hS3 := hSa.only hpw hgw' hgb hC3 hO3
    have hyb := pick3' y hy
    obtain ⟨z, hz1⟩ : ∃ z, ([-1, 5, 6] : List Int).getD y 0 = z := ⟨_, rfl⟩
    rw [hz1] at hyb
    rw [hz1]
    obtain ⟨c0, c1, x0, x1, cl⟩ := hS3.box.facts
    obtain ⟨s0, s1, v0, v1, sl⟩ := hS3.res.facts
    have HS3 : Hid (DrawSt w p a n c g b w3 xs st) := hS3
    clear hSa hC3 hO3 hS3 hz1
    go_wp2
    have HE : Hid (DrawEnd w p a n c g _ _) := HS3.out.toEnd.set hpw (q := ⟨b, 1, none⟩) (show b ≠ g by omega) (show w.heap.size < b by omega) (.int .i64 z)
    have E := HE.out.fin hpw hgw' (.slice (some ⟨g, 0, none⟩) 4 4) (.int .i64 z)
    (try simp only [Exit.inBlock, Exit.then])
    refine bodyPost_ret (by simp [results, Try.results19, go_sem, E.1.1, E.1.2]; try rfl) rfl ?_
    exact ⟨_, _, rfl, ⟨g, 4, z, rfl, hgw', .inl rfl, E.2.1, HE.out.small, (by omega)⟩, E.2.2.1, E.2.2.2⟩
  · go_wp2
    have HE : Hid (DrawEnd w p a n c g _ _) := HS2.out.toEnd.set hpw (q := ⟨b, 0, none⟩) (show b ≠ g by omega) (show w.heap.size < b by omega) (.slice (some ⟨g, 0, none⟩) 2 4)
    have E := HE.out.fin hpw hgw' (.slice (some ⟨g, 0, none⟩) 2 4) (.int .i64 st)
    (try simp only [Exit.inBlock, Exit.then])
    refine bodyPost_ret (by simp [results, Try.results19, go_sem, E.1.1, E.1.2]; try rfl) rfl ?_
    exact ⟨_, _, rfl, ⟨g, 2, st, rfl, hgw', .inr rfl, E.2.1.two, HE.out.small.take 2, (by omega)⟩, E.2.2.1, E.2.2.2⟩
  · have e0 : ((x : Int) == 0) = false := by simp; omega
    have e1 : ((x : Int) == 1) = false := by simp; omega
    have e2 : ((x : Int) == 2) = false := by simp; omega
    have e3 : ((x : Int) == 3) = false := by simp; omega
    go_wp2
    have HE : Hid (DrawEnd w p a n c g _ _) := HS2.out.toEnd
    have E := HE.out.fin hpw hgw' (.slice (some ⟨g, 0, none⟩) 4 4) (.int .i64 st)
    (try simp only [Exit.inBlock, Exit.then])
    refine bodyPost_ret (by simp [results, Try.results19, go_sem, E.1.1, E.1.2]; try rfl) rfl ?_
    exact ⟨_, _, rfl, ⟨g, 4, st, rfl, hgw', .inl rfl, E.2.1, HE.out.small, (by omega)⟩, E.2.2.1, E.2.2.2⟩
end Go.Proofs.Ytlnhmmpmnflagad
