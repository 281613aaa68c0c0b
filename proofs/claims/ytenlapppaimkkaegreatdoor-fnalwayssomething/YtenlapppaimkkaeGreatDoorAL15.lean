/- Texts joined: AfterD, DrawRows, DrawOps, ImplHow, AfterOk, DrawRight. -/
import Derived.Test.YtenlapppaimkkaeGreatDoorAL14
import Derived.Test.YtenlapppaimkkaeGreatDoorAL11
import Derived.Test.YtenlapppaimkkaeGreatDoorAL01
import Derived.Handy
import Derived.Maps.AppendAt
import Derived.OwnWalk
import Derived.Deep.RegionHeld3
/- What is said of results and of rows behind them (no program). -/
namespace Go.Proofs.YtenlapppaimkkaeGreatDoor
open Go.ChangeShapes Go.WideShapes Go.ChangeAt Go.RowKit

theorem codes (code : Int) : code = 1 ∨ code = 2 ∨ code = 3 ∨ code = 4 ∨ ((code == 1) = false ∧ (code == 2) = false ∧ (code == 3) = false ∧ (code == 4) = false) := by
  simp only [beq_eq_false_iff_ne, ne_eq]; omega
theorem says_iff {b : Bool} {P : Prop} [Decidable P] (h : b = true ↔ P) : Ending.returned (.bool b) = .returned (.bool (decide P)) := by
  rw [show b = decide P by cases b <;> simp at h ⊢ <;> exact h]
/-- The answer: that list, and whether it may come. -/
def DoneSays (e : Ending) (w' : World) (zs : List Int) (b : Bool) : Prop := ∃ (a' : Option Addr) (c' : Nat), e = .returned (.tuple #[.slice a' zs.length c', .bool b]) ∧ IntAt w' a' zs.length zs

theorem neb (a b : Int) : (a = b ∧ (a != b) = false) ∨ (¬ a = b ∧ (a != b) = true) := by
  by_cases h : a = b
  · exact .inl ⟨h, by simp [h]⟩
  · exact .inr ⟨h, by simp [h]⟩
theorem says_two {x y : Value} {b : Bool} {P : Prop} [Decidable P] (hx : x = y) (h : b = true ↔ P) : Ending.returned (.tuple #[x, .bool b]) = .returned (.tuple #[y, .bool (decide P)]) := by
  rw [hx, show b = decide P by cases b <;> simp at h ⊢ <;> exact h]
/-- What stands in memory of the three arguments, while nothing is written there. -/
def Args (w : World) (ra oa sa : Array Value) (wr : World) : Prop :=
  (∀ i u, ra[i]? = some u → wr.cell? ⟨w.heap.size, i, none⟩ = some u) ∧ (∀ i u, oa[i]? = some u → wr.cell? ⟨w.heap.size + 1, i, none⟩ = some u) ∧ (∀ i u, sa[i]? = some u → wr.cell? ⟨w.heap.size + 1 + 1, i, none⟩ = some u)
theorem args_at (w : World) (ra oa sa : Array Value) (T1 T2 T3 : TypeId) (wr : World) (h : Below (w.heap.size + 1 + 1 + 1) (((w.alloc (.cells ra T1)).alloc (.cells oa T2)).alloc (.cells sa T3)) wr) : Args w ra oa sa wr := by
  refine ⟨fun i u hu => ?_, fun i u hu => ?_, fun i u hu => ?_⟩
  · rw [h.cell (show w.heap.size < w.heap.size + 1 + 1 + 1 by omega), World.cell?_alloc_past _ _ _ (by simp; omega), World.cell?_alloc_past _ _ _ (by simp), World.cell?_alloc_at _ _ _ _ rfl]
    exact hu
  · rw [h.cell (show w.heap.size + 1 < w.heap.size + 1 + 1 + 1 by omega), World.cell?_alloc_past _ _ _ (by simp), World.cell?_alloc_at _ _ _ _ (by simp)]
    exact hu
  · rw [h.cell (show w.heap.size + 1 + 1 < w.heap.size + 1 + 1 + 1 by omega), World.cell?_alloc_at _ _ _ _ (by simp)]
    exact hu
/-- What stands in memory of the three arguments and of the answer's own place, while nothing is written there. -/
def Four (w : World) (ra oa sa va : Array Value) (wr : World) : Prop :=
  (∀ i u, ra[i]? = some u → wr.cell? ⟨w.heap.size, i, none⟩ = some u) ∧ (∀ i u, oa[i]? = some u → wr.cell? ⟨w.heap.size + 1, i, none⟩ = some u) ∧ (∀ i u, sa[i]? = some u → wr.cell? ⟨w.heap.size + 1 + 1, i, none⟩ = some u)
    ∧ (∀ i u, va[i]? = some u → wr.cell? ⟨w.heap.size + 1 + 1 + 1, i, none⟩ = some u) ∧ (∀ i, wr.frozen? ⟨w.heap.size + 1 + 1 + 1, i, none⟩ = false)
theorem four_at (w : World) (ra oa sa va : Array Value) (T1 T2 T3 T4 : TypeId) (wr : World) (h : Below (w.heap.size + 1 + 1 + 1 + 1) ((((w.alloc (.cells ra T1)).alloc (.cells oa T2)).alloc (.cells sa T3)).alloc (.cells va T4)) wr) : Four w ra oa sa va wr := by
  refine ⟨fun i u hu => ?_, fun i u hu => ?_, fun i u hu => ?_, fun i u hu => ?_, fun i => ?_⟩
  · rw [h.cell (show w.heap.size < w.heap.size + 1 + 1 + 1 + 1 by omega), World.cell?_alloc_past _ _ _ (by simp; omega), World.cell?_alloc_past _ _ _ (by simp; omega), World.cell?_alloc_past _ _ _ (by simp), World.cell?_alloc_at _ _ _ _ rfl]
    exact hu
  · rw [h.cell (show w.heap.size + 1 < w.heap.size + 1 + 1 + 1 + 1 by omega), World.cell?_alloc_past _ _ _ (by simp; try omega), World.cell?_alloc_past _ _ _ (by simp), World.cell?_alloc_at _ _ _ _ (by simp)]
    exact hu
  · rw [h.cell (show w.heap.size + 1 + 1 < w.heap.size + 1 + 1 + 1 + 1 by omega), World.cell?_alloc_past _ _ _ (by simp), World.cell?_alloc_at _ _ _ _ (by simp)]
    exact hu
  · rw [h.cell (show w.heap.size + 1 + 1 + 1 < w.heap.size + 1 + 1 + 1 + 1 by omega), World.cell?_alloc_at _ _ _ _ (by simp)]
    exact hu
  · rw [h.frozen (show w.heap.size + 1 + 1 + 1 < w.heap.size + 1 + 1 + 1 + 1 by omega)]
    simp [World.frozen?_alloc_at]

/-- The answer: new rows, as they are behind it. -/
def AfterSays (e : Ending) (w w' : World) (n : Nat) (A : List Int → Int → Prop) : Prop :=
  ∃ (zs : List Int) (st' : Int) (a' : Option Addr) (c' : Nat), e = .returned (.agg #[.slice a' n c', .int .i64 st']) ∧ A zs st' ∧ w'.ownsRow w.heap.size 3 1 (.slice a' n c') n (zs.map I)
end Go.Proofs.YtenlapppaimkkaeGreatDoor

/- The drawing of rows, walked: what is drawn lies in memory of its own, and the cursor alone is turned of what was there. -/
namespace Go.Proofs.YtenlapppaimkkaeGreatDoor
open Go.ChangeShapes Go.WideShapes Go.ChangeAt Go.RowKit

theorem far_only {p : Nat} {w w' : World} (h : Only p w w') : w.grownBy w' (some p) := ⟨h.os, h.tape, h.output, Nat.le_of_eq h.size.symm, fun k _ hk => h.block k (fun e => hk (by rw [e]))⟩
theorem cur_below {T : TypeId} {w w' : World} {p : Nat} {a : Option Addr} {n c : Nat} (h : Cur T w p a n c) (hb : Below w.heap.size w w') : Cur T w' p a n c :=
  h.keep fun k hk => hb.block k (Nat.lt_of_le_of_lt hk h.lt)
theorem cur_set {T : TypeId} {w : World} {p : Nat} {a : Option Addr} {n c : Nat} (h : Cur T w p a n c) {q : Addr} (hq : p < q.block) (v : Value) : Cur T (w.setCell q v) p a n c :=
  h.keep fun k hk => Below.heap_setCell _ _ _ _ (fun e => by omega)
theorem cur_alloc {T : TypeId} {w : World} {p : Nat} {a : Option Addr} {n c : Nat} (h : Cur T w p a n c) (o : Obj) : Cur T (w.alloc o) p a n c := cur_below h ((Below.refl _ w).alloc (Nat.le_refl _) o)
theorem own_only {p : Nat} {w w' : World} {base : Nat} {e : TypeId} {size : Nat} {v : Value} {n : Nat} {xs : List Value} (ho : w.ownsRow base e size v n xs) (h : w.grownBy w' (some p)) (hp : p < base) : w'.ownsRow base e size v n xs := by
  obtain ⟨h1, h2 | ⟨g, cap, cur, h3, h4, h5, h6⟩⟩ := ho
  · exact ⟨h1, .inl h2⟩
  · exact ⟨h1, .inr ⟨g, cap, cur, h3, h4, by rw [h.block g (Array.getElem?_eq_some_iff.1 h5).1 (by simp; omega)]; exact h5, h6⟩⟩
/-- Numbers of a drawn list. -/
def Small (xs : List Int) : Prop := ∀ x ∈ xs, -1 ≤ x ∧ x ≤ 7
theorem Small.wf {xs : List Int} (h : Small xs) : ∀ x ∈ xs, (Lit.int .i64 x).wf = true := fun x hx => WalkArith.wf_i64 (by have := h x hx; omega)
theorem Small.set {xs : List Int} (h : Small xs) (k : Nat) {v : Int} (hv : -1 ≤ v ∧ v ≤ 7) : Small (xs.set k v) := fun x hx => by
  rcases List.mem_or_eq_of_mem_set hx with h1 | rfl
  · exact h x h1
  · exact hv

theorem grown_box2 {w w1 : World} {u v : Value} {t : TypeId} (h : (w.alloc (.cells #[u, v] t)).grownBy w1 none) : w1.cell? ⟨w.heap.size, 0, none⟩ = some u ∧ w1.cell? ⟨w.heap.size, 1, none⟩ = some v ∧ w1.frozen? ⟨w.heap.size, 0, none⟩ = false ∧ w1.frozen? ⟨w.heap.size, 1, none⟩ = false ∧ Below w.heap.size w w1 := by
  have hb : Below (w.heap.size + 1) (w.alloc (.cells #[u, v] t)) w1 := (Below.refl _ _).grown h (by simp) (fun k e => by cases e)
  exact ⟨by rw [hb.cell (by simp)]; simp, by rw [hb.cell (by simp)]; simp, by rw [hb.frozen (by simp)]; simp, by rw [hb.frozen (by simp)]; simp, ((Below.refl _ w).alloc (Nat.le_refl _) _).trans (hb.mono (Nat.le_succ _))⟩
set_option maxHeartbeats 400000 in
theorem specRowsNew_own (w : World) :
    Calls Tryz.prog 42 #[] w fun e w' => e = .returned (.agg #[.slice (some ⟨w.heap.size + 1, 0, none⟩) 4 4, .int .i64 0]) ∧ w'.ownsRow (w.heap.size + 1) 3 1 (.slice (some ⟨w.heap.size + 1, 0, none⟩) 4 4) 4 (([0, 0, 0, 0] : List Int).map I) ∧ Below w.heap.size w w' := by
  obtain ⟨i0, hi, hz0, hz1, hz2⟩ := info_parts infoInt
  go_enter Tryz.func42, Tryz.ntmps42
  go_wp2_with (first | (at_make; refine wpList_make_full _ rfl _ _ 24 rfl (w.heap.size + 1) 3 i0 (.int .i64 0) 1 Tryz.underlying24 hi hz0 hz1 .i64 .i64 _ _ 4 rfl rfl rfl rfl (by rw [hz2]; omega) (by unfold maxLen; omega) (by simp) ?_; intro w1 own1 grow1; obtain ⟨c0, c1, f0, f1, hb1⟩ := grown_box2 grow1) | fail)
  (try simp only [Exit.inBlock, Exit.then])
  refine bodyPost_ret (by simp [results, Tryz.results42, go_sem, c0, c1]; try rfl) rfl ?_
  rw [show (madeCells (Value.int .i64 0).cells (4 * 1)).toList = (([0, 0, 0, 0] : List Int).map I) from (toList_madeCells_one _ _).trans rfl] at own1
  simp only [World.size_alloc] at own1
  refine ⟨rfl, ownsRow_setCell_below (ownsRow_setCell_below own1 (Nat.lt_succ_self _) _) (Nat.lt_succ_self _) _, (hb1.setCell (Nat.le_refl _) _).setCell (Nat.le_refl _) _⟩

theorem stored_box2 {w : World} {b : Nat} {u0 u1 : Value} (h0 : w.cell? ⟨b, 0, none⟩ = some u0) (h1 : w.cell? ⟨b, 1, none⟩ = some u1) (x y : Value) :
    ((w.setCell ⟨b, 0, none⟩ x).setCell ⟨b, 1, none⟩ y).cell? ⟨b, 0, none⟩ = some x ∧ ((w.setCell ⟨b, 0, none⟩ x).setCell ⟨b, 1, none⟩ y).cell? ⟨b, 1, none⟩ = some y := by
  refine ⟨?_, ?_⟩
  · rw [World.cell?_setCell_other _ _ _ _ (fun e => by cases e), World.cell?_setCell_same _ _ _ h0]
  · refine World.cell?_setCell_same _ _ _ (u := u1) ?_
    rw [World.cell?_setCell_other _ _ _ _ (fun e => by cases e)]
    exact h1
/-- A box for rows. -/
def RBox (w : World) (b : Nat) (a : Option Addr) (n c : Nat) (st : Int) : Prop := w.heap[b]? = some (.cells #[.slice a n c, .int .i64 st] 26)
theorem RBox.facts {w : World} {b n c : Nat} {a : Option Addr} {st : Int} (h : RBox w b a n c st) : w.cell? ⟨b, 0, none⟩ = some (.slice a n c) ∧ w.cell? ⟨b, 1, none⟩ = some (.int .i64 st) ∧ w.frozen? ⟨b, 0, none⟩ = false ∧ w.frozen? ⟨b, 1, none⟩ = false ∧ b < w.heap.size := by
  unfold RBox at h
  exact ⟨by simp [World.cell?, h], by simp [World.cell?, h], by simp [World.frozen?, h], by simp [World.frozen?, h], (Array.getElem?_eq_some_iff.1 h).1⟩
theorem RBox.far {w w' : World} {p b n c : Nat} {a : Option Addr} {st : Int} (h : RBox w b a n c st) (hg : w.grownBy w' (some p)) (hp : b ≠ p) : RBox w' b a n c st := by
  unfold RBox at h ⊢
  rw [hg.block b (Array.getElem?_eq_some_iff.1 h).1 (by simpa using hp)]
  exact h
theorem RBox.set {w : World} {b n c : Nat} {a : Option Addr} {st : Int} (h : RBox w b a n c st) {q : Addr} (hq : b ≠ q.block) (v : Value) : RBox (w.setCell q v) b a n c st := by
  unfold RBox at h ⊢
  rw [Below.heap_setCell _ _ _ _ hq]
  exact h
theorem rbox_new (w : World) (a : Option Addr) (n c : Nat) (st : Int) : RBox (w.alloc (.cells #[.slice a n c, .int .i64 st] 26)) w.heap.size a n c st := by
  show (w.heap.push _)[w.heap.size]? = _
  simp
/-- While rows are drawn. -/
structure DrawSt (w : World) (p : Nat) (a : Option Addr) (n c g b : Nat) (wr : World) (xs : List Int) (st : Int) : Prop where
  cur : Cur 82 wr p a n c
  far : w.grownBy wr (some p)
  own : wr.ownsRow g 3 1 (.slice (some ⟨g, 0, none⟩) 4 4) 4 (xs.map I)
  small : Small xs
  box : RBox wr b (some ⟨g, 0, none⟩) 4 4 st
  res : RBox wr w.heap.size none 0 0 0
section
variable {w wr wr' : World} {p n c g b : Nat} {a : Option Addr} {xs : List Int} {st : Int}
theorem DrawSt.only (h : DrawSt w p a n c g b wr xs st) (hp : p < w.heap.size) (hg : w.heap.size < g) (hb : g < b) (hC : Cur 82 wr' p a n c) (hO : Only p wr wr') : DrawSt w p a n c g b wr' xs st :=
  ⟨hC, h.far.trans (far_only hO), own_only h.own (far_only hO) (by omega), h.small, h.box.far (far_only hO) (by omega), h.res.far (far_only hO) (by omega)⟩
theorem DrawSt.below (h : DrawSt w p a n c g b wr xs st) (hp : p < w.heap.size) (hg : w.heap.size < g) (hb : g < b) (hB : Below wr.heap.size wr wr') : DrawSt w p a n c g b wr' xs st :=
  ⟨cur_below h.cur hB, far_below_of h.far hB, owns_below h.own hB (Nat.le_refl _), h.small, h.box.far (far_below hB (some p)) (by omega), h.res.far (far_below hB (some p)) (by omega)⟩
theorem DrawSt.store (h : DrawSt w p a n c g b wr xs st) (hp : p < w.heap.size) (hg : w.heap.size < g) (hb : g < b) (k : Nat) {v : Int} (hv : -1 ≤ v ∧ v ≤ 7) : DrawSt w p a n c g b (wr.setCell ⟨g, k, none⟩ (I v)) (xs.set k v) st := by
  refine ⟨cur_set h.cur (show p < g by omega) _, far_set h.far (show w.heap.size ≤ g by omega) _, ?_, h.small.set k hv, h.box.set (show b ≠ g by omega) _, h.res.set (show w.heap.size ≠ g by omega) _⟩
  rw [List.map_set]
  exact (h.own.stored k (I v)).1
theorem DrawSt.at (h : DrawSt w p a n c g b wr xs st) : IntAt wr (some ⟨g, 0, none⟩) 4 xs := own_intAt h.own (by omega)
end
theorem pick5 (x : Nat) (_ : x < 5) : 0 ≤ ([0, 0, 1, 3, 5] : List Int).getD x 0 ∧ ([0, 0, 1, 3, 5] : List Int).getD x 0 ≤ 5 := by
  rcases x with _ | _ | _ | _ | _ | x <;> first | decide | omega

set_option maxHeartbeats 1000000 in
theorem l3DrawRight_any (p : Nat) (a : Option Addr) (n c : Nat) (w : World) (hC : Cur 82 w p a n c) :
    Calls Tryz.prog 13 #[.pointer (some ⟨p, 0, none⟩)] w fun e w' => ∃ (g : Nat) (xs : List Int) (st : Int), e = .returned (.agg #[.slice (some ⟨g, 0, none⟩) 4 4, .int .i64 st]) ∧ w.heap.size < g ∧ w'.ownsRow g 3 1 (.slice (some ⟨g, 0, none⟩) 4 4) 4 (xs.map I) ∧ Small xs ∧ (0 ≤ st ∧ st ≤ 5) ∧ Cur 82 w' p a n c ∧ w.grownBy w' (some p) := by
  have HC : Hid (Cur 82 w p a n c) := hC
  have hpw := hC.lt
  clear hC
  go_enter Tryz.func13, Tryz.ntmps13
  go_wp2_with fail
  refine (specRowsNew_own _).mono ?_
  rintro e w1 ⟨rfl, own1, hb1⟩
  simp only [World.size_alloc] at own1 hb1
  have hs1 : w.heap.size + 1 + 1 < w1.heap.size := (own1.lt _ rfl).2
  have hbw : Below w.heap.size w w1 := ((Below.refl _ w).alloc (Nat.le_refl _) _).trans (hb1.mono (by omega))
  have S0 : DrawSt w p a n c (w.heap.size + 1 + 1) w1.heap.size (w1.alloc (.cells #[.slice (some ⟨w.heap.size + 1 + 1, 0, none⟩) 4 4, .int .i64 0] 26)) [0, 0, 0, 0] 0 :=
    ⟨cur_alloc (cur_below HC.out hbw) _, (far_below hbw _).trans (World.grownBy_alloc _ _ _), own1.alloc _, by intro x hx; simp at hx; omega, rbox_new _ _ _ _ _, ((rbox_new w none 0 0 0).far (p := p) (far_below (hb1.mono (by simp)) _) (by omega)).far (p := p) (World.grownBy_alloc _ _ _) (by omega)⟩
  obtain ⟨g, hg⟩ : ∃ g, g = w.heap.size + 1 + 1 := ⟨_, rfl⟩
  obtain ⟨b, hb⟩ : ∃ b, b = w1.heap.size := ⟨_, rfl⟩
  have HS0 : Hid (DrawSt w p a n c g b (w1.alloc (.cells #[.slice (some ⟨g, 0, none⟩) 4 4, .int .i64 0] 26)) [0, 0, 0, 0] 0) := by rw [hg, hb]; exact S0
  have hgw : w.heap.size < g := by omega
  have hgb : g < b := by omega
  clear S0 own1 hb1 hbw
  go_wp2_with fail
  rw [← hg, ← hb]
  clear hg hb hs1
  go_loopw [4] (fun i wr => ∃ (k : Nat) (xs : List Int), k ≤ 4 ∧ i = .int .i64 k ∧ DrawSt w p a n c g b wr xs 0) (fun i _ => 4 - (intOf i).toNat)
  case atStart => exact ⟨0, _, by omega, rfl, HS0.out⟩
  case round =>
    obtain ⟨k, xs, hk, rfl, hS⟩ := hrel
    have HS : Hid (DrawSt w p a n c g b wr xs 0) := hS
    clear hS
    by_cases hlt : k < 4
    · have hk0 : (0 : Int) ≤ (k : Int) := by omega
      have hk1 : (k : Int) < 4 := by omega
      go_wp2_with fail
      refine (l1Below_any p a n c 7 (by omega) (by omega) _ HS.out.cur).mono ?_
      rintro e w2 ⟨x, hx, rfl, hC2, hO2⟩
      have hS2 := HS.out.only hpw hgw hgb hC2 hO2
      obtain ⟨b0, b1, _⟩ := hS2.box.facts
      have HS2 : Hid (DrawSt w p a n c g b w2 xs 0) := hS2
      clear hC2 hO2 hS2
      go_wp2_with fail
      refine (specKeyOf_any _ 4 4 0 x xs _ HS2.out.at).mono ?_
      rintro e w3 ⟨⟨r, rfl, _⟩, hb3⟩
      have hS3 := HS2.out.below hpw hgw hgb hb3
      clear b0 b1
      obtain ⟨b0, b1, _⟩ := hS3.box.facts
      obtain ⟨u0, hu⟩ := own_cell hS3.own hlt
      have hz := hS3.own.frozenAt k
      have HS3 : Hid (DrawSt w p a n c g b w3 xs 0) := hS3
      clear hb3 hS3
      by_cases hr : r < 0
      · go_wp2
        exact ⟨⟨k + 1, _, by omega, by go_num, HS3.out.store hpw hgw hgb k (v := (x : Int)) (by omega)⟩, by simp [intOf]; omega⟩
      · go_wp2
        exact ⟨⟨k + 1, _, by omega, by go_num, HS3.out⟩, by simp [intOf]; omega⟩
    · obtain rfl : k = 4 := by omega
      go_wp2_with fail
      have hSa : DrawSt w p a n c g b (wr.alloc (.cells #[.int .i64 0, .int .i64 0, .int .i64 1, .int .i64 3, .int .i64 5] 3)) xs 0 := HS.out.below hpw hgw hgb ((Below.refl _ _).alloc (Nat.le_refl _) _)
      have hpr : p < wr.heap.size := HS.out.cur.lt
      refine (l1PickInt_any p a n c wr.heap.size 5 5 [0, 0, 1, 3, 5] (by omega) (by omega) _ hSa.cur (by omega) (fun i hi => by rcases i with _ | _ | _ | _ | _ | i <;> first | (simp; done) | omega)).mono ?_
      rintro e w2 ⟨x, hx, rfl, hC2, hO2⟩
      have hS2 := hSa.only hpw hgw hgb hC2 hO2
      obtain ⟨b0, b1, z0, z1, bl⟩ := hS2.box.facts
      obtain ⟨r0, r1, y0, y1, rl⟩ := hS2.res.facts
      have hst := pick5 x hx
      obtain ⟨st, hst1⟩ : ∃ st, ([0, 0, 1, 3, 5] : List Int).getD x 0 = st := ⟨_, rfl⟩
      rw [hst1] at hst
      rw [hst1]
      have HS2 : Hid (DrawSt w p a n c g b w2 xs 0) := hS2
      clear hC2 hO2 hS2 hst1 hSa
      go_wp2
      (try simp only [Exit.inBlock, Exit.then])
      have q := stored_box2 (w := w2.setCell ⟨b, 1, none⟩ (.int .i64 st)) (b := w.heap.size) (by rw [World.cell?_setCell_far _ _ _ _ (show b ≠ w.heap.size by omega)]; exact r0) (by rw [World.cell?_setCell_far _ _ _ _ (show b ≠ w.heap.size by omega)]; exact r1) (.slice (some ⟨g, 0, none⟩) 4 4) (.int .i64 st)
      refine bodyPost_ret (by simp [results, Tryz.results13, go_sem, q.1, q.2]; try rfl) rfl ?_
      exact ⟨g, xs, st, rfl, hgw, own_setCell_far (own_setCell_far (own_setCell_far HS2.out.own (by simp [Value.ownBlock]; omega) _) (by simp [Value.ownBlock]; omega) _) (by simp [Value.ownBlock]; omega) _, HS2.out.small, hst, cur_set (cur_set (cur_set HS2.out.cur (show p < b by omega) _) (show p < w.heap.size by omega) _) (show p < w.heap.size by omega) _, far_set (far_set (far_set HS2.out.far (show w.heap.size ≤ b by omega) _) (show w.heap.size ≤ w.heap.size by omega) _) (show w.heap.size ≤ w.heap.size by omega) _⟩

theorem IntAt.far {w w' : World} {p g o m : Nat} {xs : List Int} (h : IntAt w (some ⟨g, o, none⟩) m xs) (hg : w.grownBy w' (some p)) (hp : g ≠ p) : IntAt w' (some ⟨g, o, none⟩) m xs :=
  ⟨h.1, h.2.1, .inr ⟨g, o, rfl, fun i hi => far_cell hg (h.cells i hi) hp⟩⟩
theorem IntAt.two {w : World} {g : Nat} {xs : List Int} (h : IntAt w (some ⟨g, 0, none⟩) 4 xs) : IntAt w (some ⟨g, 0, none⟩) 2 (xs.take 2) := by
  have hl := h.1
  refine ⟨by simp; omega, by omega, .inr ⟨g, 0, rfl, fun i hi => ?_⟩⟩
  have h1 := h.cells i (by omega)
  rw [h1, List.getD_eq_getElem?_getD, List.getD_eq_getElem?_getD, List.getElem?_take_of_lt hi]
theorem Small.take {xs : List Int} (h : Small xs) (k : Nat) : Small (xs.take k) := fun x hx => h x (List.mem_of_mem_take hx)
/-- Rows as they are drawn: where they lie, and what they may be. -/
def RowsDrawn (w w' : World) (v : Value) (xs : List Int) : Prop :=
  ∃ (g m : Nat) (st : Int), v = .agg #[.slice (some ⟨g, 0, none⟩) m 4, .int .i64 st] ∧ w.heap.size < g ∧ (m = 4 ∨ m = 2) ∧ IntAt w' (some ⟨g, 0, none⟩) m xs ∧ Small xs ∧ (-1 ≤ st ∧ st ≤ 6)
theorem IntAt.set_far {w : World} {g o m : Nat} {xs : List Int} (h : IntAt w (some ⟨g, o, none⟩) m xs) {q : Addr} (hq : q.block ≠ g) (v : Value) : IntAt (w.setCell q v) (some ⟨g, o, none⟩) m xs :=
  ⟨h.1, h.2.1, .inr ⟨g, o, rfl, fun i hi => by rw [World.cell?_setCell_far _ _ _ _ hq]; exact h.cells i hi⟩⟩
/-- At the end of a drawing of rows. -/
structure DrawEnd (w : World) (p : Nat) (a : Option Addr) (n c g : Nat) (wr : World) (xs : List Int) : Prop where
  cur : Cur 82 wr p a n c
  far : w.grownBy wr (some p)
  here : IntAt wr (some ⟨g, 0, none⟩) 4 xs
  small : Small xs
  res : RBox wr w.heap.size none 0 0 0
theorem DrawSt.toEnd {w wr : World} {p n c g b : Nat} {a : Option Addr} {xs : List Int} {st : Int} (h : DrawSt w p a n c g b wr xs st) : DrawEnd w p a n c g wr xs := ⟨h.cur, h.far, h.at, h.small, h.res⟩
theorem DrawEnd.set {w wr : World} {p n c g : Nat} {a : Option Addr} {xs : List Int} (h : DrawEnd w p a n c g wr xs) (hp : p < w.heap.size) {q : Addr} (hq : q.block ≠ g) (hw : w.heap.size < q.block) (v : Value) : DrawEnd w p a n c g (wr.setCell q v) xs :=
  ⟨cur_set h.cur (by omega) _, far_set h.far (by omega) _, h.here.set_far hq _, h.small, h.res.set (by omega) _⟩
theorem DrawEnd.fin {w wr : World} {p n c g : Nat} {a : Option Addr} {xs : List Int} (h : DrawEnd w p a n c g wr xs) (hp : p < w.heap.size) (hg : w.heap.size < g) (x y : Value) :
    (((wr.setCell ⟨w.heap.size, 0, none⟩ x).setCell ⟨w.heap.size, 1, none⟩ y).cell? ⟨w.heap.size, 0, none⟩ = some x ∧ ((wr.setCell ⟨w.heap.size, 0, none⟩ x).setCell ⟨w.heap.size, 1, none⟩ y).cell? ⟨w.heap.size, 1, none⟩ = some y)
    ∧ IntAt ((wr.setCell ⟨w.heap.size, 0, none⟩ x).setCell ⟨w.heap.size, 1, none⟩ y) (some ⟨g, 0, none⟩) 4 xs ∧ Cur 82 ((wr.setCell ⟨w.heap.size, 0, none⟩ x).setCell ⟨w.heap.size, 1, none⟩ y) p a n c ∧ w.grownBy ((wr.setCell ⟨w.heap.size, 0, none⟩ x).setCell ⟨w.heap.size, 1, none⟩ y) (some p) := by
  obtain ⟨r0, r1, _⟩ := h.res.facts
  exact ⟨stored_box2 r0 r1 x y, (h.here.set_far (show w.heap.size ≠ g by omega) _).set_far (show w.heap.size ≠ g by omega) _, cur_set (cur_set h.cur (show p < w.heap.size from hp) _) (show p < w.heap.size from hp) _, far_set (far_set h.far (Nat.le_refl _) _) (Nat.le_refl _) _⟩
theorem pick3 (x : Nat) (_ : x < 3) : -1 ≤ ([-1, 6, 7] : List Int).getD x 0 ∧ ([-1, 6, 7] : List Int).getD x 0 ≤ 7 := by
  rcases x with _ | _ | _ | x <;> first | decide | omega
theorem pick3' (x : Nat) (_ : x < 3) : -1 ≤ ([-1, 5, 6] : List Int).getD x 0 ∧ ([-1, 5, 6] : List Int).getD x 0 ≤ 6 := by
  rcases x with _ | _ | _ | x <;> first | decide | omega

end Go.Proofs.YtenlapppaimkkaeGreatDoor

/- The drawing of ops, walked. -/
namespace Go.Proofs.YtenlapppaimkkaeGreatDoor
open Go.ChangeShapes Go.WideShapes Go.ChangeAt Go.RowKit

/-- A box for an op. -/
def OBox (w : World) (b : Nat) (kind k v : Int) : Prop := w.heap[b]? = some (.cells #[.int .i64 kind, .int .i64 k, .int .i64 v] 28)
theorem OBox.facts {w : World} {b : Nat} {kind k v : Int} (h : OBox w b kind k v) : w.cell? ⟨b, 0, none⟩ = some (.int .i64 kind) ∧ w.cell? ⟨b, 1, none⟩ = some (.int .i64 k) ∧ w.cell? ⟨b, 2, none⟩ = some (.int .i64 v) ∧ w.frozen? ⟨b, 0, none⟩ = false ∧ w.frozen? ⟨b, 1, none⟩ = false ∧ w.frozen? ⟨b, 2, none⟩ = false ∧ b < w.heap.size := by
  unfold OBox at h
  exact ⟨by simp [World.cell?, h], by simp [World.cell?, h], by simp [World.cell?, h], by simp [World.frozen?, h], by simp [World.frozen?, h], by simp [World.frozen?, h], (Array.getElem?_eq_some_iff.1 h).1⟩
theorem OBox.far {w w' : World} {p b : Nat} {kind k v : Int} (h : OBox w b kind k v) (hg : w.grownBy w' (some p)) (hp : b ≠ p) : OBox w' b kind k v := by
  unfold OBox at h ⊢
  rw [hg.block b (Array.getElem?_eq_some_iff.1 h).1 (by simpa using hp)]
  exact h
theorem OBox.set {w : World} {b : Nat} {kind k v : Int} (h : OBox w b kind k v) {q : Addr} (hq : b ≠ q.block) (u : Value) : OBox (w.setCell q u) b kind k v := by
  unfold OBox at h ⊢
  rw [Below.heap_setCell _ _ _ _ hq]
  exact h
theorem obox_new (w : World) (kind k v : Int) : OBox (w.alloc (.cells #[.int .i64 kind, .int .i64 k, .int .i64 v] 28)) w.heap.size kind k v := by
  show (w.heap.push _)[w.heap.size]? = _
  simp

theorem list_at (w : World) (xs : List Int) (g : Nat) (hg : w.heap.size = g) {cs : Array Value} (hc : cs = (xs.map I).toArray) : ∀ i, i < xs.length → (w.alloc (.cells cs 3)).cell? ⟨g, i, none⟩ = some (.int .i64 (xs.getD i 0)) := by
  intro i hi
  subst hg hc
  simp [World.cell?_alloc_at, List.getD, hi]
theorem OBox.put1 {w : World} {b : Nat} {kind k v : Int} (h : OBox w b kind k v) (x : Int) : OBox (w.setCell ⟨b, 1, none⟩ (.int .i64 x)) b kind x v := by
  unfold OBox at h ⊢
  obtain ⟨hlt, h'⟩ := Array.getElem?_eq_some_iff.1 h
  show (w.heap.modify b _)[b]? = _
  rw [Array.getElem?_eq_getElem (by simpa using hlt), Array.getElem_modify_self, h']
  rfl
theorem OBox.put2 {w : World} {b : Nat} {kind k v : Int} (h : OBox w b kind k v) (x : Int) : OBox (w.setCell ⟨b, 2, none⟩ (.int .i64 x)) b kind k x := by
  unfold OBox at h ⊢
  obtain ⟨hlt, h'⟩ := Array.getElem?_eq_some_iff.1 h
  show (w.heap.modify b _)[b]? = _
  rw [Array.getElem?_eq_getElem (by simpa using hlt), Array.getElem_modify_self, h']
  rfl
theorem OBox.put0 {w : World} {b : Nat} {kind k v : Int} (h : OBox w b kind k v) (x : Int) : OBox (w.setCell ⟨b, 0, none⟩ (.int .i64 x)) b x k v := by
  unfold OBox at h ⊢
  obtain ⟨hlt, h'⟩ := Array.getElem?_eq_some_iff.1 h
  show (w.heap.modify b _)[b]? = _
  rw [Array.getElem?_eq_getElem (by simpa using hlt), Array.getElem_modify_self, h']
  rfl
/-- While an op is drawn. -/
structure OpSt (w : World) (p : Nat) (a : Option Addr) (n c b : Nat) (wr : World) (kind k v : Int) : Prop where
  cur : Cur 82 wr p a n c
  far : w.grownBy wr (some p)
  box : OBox wr b kind k v
  res : OBox wr w.heap.size 0 0 0
section
variable {w wr wr' : World} {p n c b : Nat} {a : Option Addr} {kind k v : Int}
theorem OpSt.only (h : OpSt w p a n c b wr kind k v) (hp : p < w.heap.size) (hb : w.heap.size < b) (hC : Cur 82 wr' p a n c) (hO : Only p wr wr') : OpSt w p a n c b wr' kind k v :=
  ⟨hC, h.far.trans (far_only hO), h.box.far (far_only hO) (by omega), h.res.far (far_only hO) (by omega)⟩
theorem OpSt.put1 (h : OpSt w p a n c b wr kind k v) (hp : p < w.heap.size) (hb : w.heap.size < b) (x : Int) : OpSt w p a n c b (wr.setCell ⟨b, 1, none⟩ (.int .i64 x)) kind x v :=
  ⟨cur_set h.cur (show p < b by omega) _, far_set h.far (show w.heap.size ≤ b by omega) _, h.box.put1 x, h.res.set (show w.heap.size ≠ b by omega) _⟩
theorem OpSt.put2 (h : OpSt w p a n c b wr kind k v) (hp : p < w.heap.size) (hb : w.heap.size < b) (x : Int) : OpSt w p a n c b (wr.setCell ⟨b, 2, none⟩ (.int .i64 x)) kind k x :=
  ⟨cur_set h.cur (show p < b by omega) _, far_set h.far (show w.heap.size ≤ b by omega) _, h.box.put2 x, h.res.set (show w.heap.size ≠ b by omega) _⟩
theorem OpSt.put0 (h : OpSt w p a n c b wr kind k v) (hp : p < w.heap.size) (hb : w.heap.size < b) (x : Int) : OpSt w p a n c b (wr.setCell ⟨b, 0, none⟩ (.int .i64 x)) x k v :=
  ⟨cur_set h.cur (show p < b by omega) _, far_set h.far (show w.heap.size ≤ b by omega) _, h.box.put0 x, h.res.set (show w.heap.size ≠ b by omega) _⟩
/-- The answer's own box, when the op is laid there. -/
theorem OpSt.fin (h : OpSt w p a n c b wr kind k v) (hp : p < w.heap.size) (k1 k2 k3 : Int) :
    (OBox (((wr.setCell ⟨w.heap.size, 0, none⟩ (.int .i64 k1)).setCell ⟨w.heap.size, 1, none⟩ (.int .i64 k2)).setCell ⟨w.heap.size, 2, none⟩ (.int .i64 k3)) w.heap.size k1 k2 k3)
    ∧ Cur 82 (((wr.setCell ⟨w.heap.size, 0, none⟩ (.int .i64 k1)).setCell ⟨w.heap.size, 1, none⟩ (.int .i64 k2)).setCell ⟨w.heap.size, 2, none⟩ (.int .i64 k3)) p a n c
    ∧ w.grownBy (((wr.setCell ⟨w.heap.size, 0, none⟩ (.int .i64 k1)).setCell ⟨w.heap.size, 1, none⟩ (.int .i64 k2)).setCell ⟨w.heap.size, 2, none⟩ (.int .i64 k3)) (some p) :=
  ⟨((h.res.put0 k1).put1 k2).put2 k3, cur_set (cur_set (cur_set h.cur (show p < w.heap.size from hp) _) (show p < w.heap.size from hp) _) (show p < w.heap.size from hp) _, far_set (far_set (far_set h.far (Nat.le_refl _) _) (Nat.le_refl _) _) (Nat.le_refl _) _⟩
end
theorem l4Key_any (k : Int) (w : World) : Calls Tryz.prog 46 #[.int .i64 k] w fun e w' => e = .returned (.bool (decide (1 ≤ k ∧ k ≤ 4))) ∧ w' = w := by
  rcases tri 1 4 k (by decide) with ⟨h0, h1⟩ | ⟨h0, h1⟩ | ⟨h0, h1⟩
  · rw [show decide (1 ≤ k ∧ k ≤ 4) = true from decide_eq_true ⟨h0, h1⟩]
    go_enter Tryz.func46, Tryz.ntmps46
    go_wp2
    go_ret
    exact ⟨rfl, rfl⟩
  · rw [show decide (1 ≤ k ∧ k ≤ 4) = false from decide_eq_false (fun h => h0 h.1)]
    go_enter Tryz.func46, Tryz.ntmps46
    go_wp2
    go_ret
    exact ⟨rfl, rfl⟩
  · rw [show decide (1 ≤ k ∧ k ≤ 4) = false from decide_eq_false (fun h => h1 h.2)]
    go_enter Tryz.func46, Tryz.ntmps46
    go_wp2
    go_ret
    exact ⟨rfl, rfl⟩
theorem l4Val_any (k : Int) (w : World) : Calls Tryz.prog 47 #[.int .i64 k] w fun e w' => (∃ b : Bool, e = .returned (.bool b)) ∧ w' = w := by
  rcases eqb k 1 with ⟨h1, g1⟩ | ⟨h1, g1⟩ <;> rcases eqb k 2 with ⟨h2, g2⟩ | ⟨h2, g2⟩ <;> rcases eqb k 5 with ⟨h5, g5⟩ | ⟨h5, g5⟩ <;> rcases eqb k 10 with ⟨h9, g9⟩ | ⟨h9, g9⟩
  all_goals
    clear h1 h2 h5 h9
    go_enter Tryz.func47, Tryz.ntmps47
    go_wp2
    go_ret
    exact ⟨⟨_, rfl⟩, rfl⟩

set_option maxHeartbeats 2000000 in
theorem l4DrawRight_any (p : Nat) (a : Option Addr) (n c : Nat) (w : World) (hC : Cur 82 w p a n c) :
    Calls Tryz.prog 14 #[.pointer (some ⟨p, 0, none⟩)] w fun e w' => ∃ kind k v : Int, e = .returned (OpV kind k v) ∧ Cur 82 w' p a n c ∧ w.grownBy w' (some p) := by
  have HC : Hid (Cur 82 w p a n c) := hC
  have hpw := hC.lt
  clear hC
  go_enter Tryz.func14, Tryz.ntmps14
  go_wp2_with fail
  refine (l1PickInt_any p a n c (w.heap.size + 1) 14 14 [1, 1, 1, 2, 2, 3, 4, 5, 6, 7, 8, 9, 9, 10] (by omega) (by omega) _ (cur_alloc (cur_alloc HC.out _) _) (by omega) (by intro i hi; exact list_at _ [1, 1, 1, 2, 2, 3, 4, 5, 6, 7, 8, 9, 9, 10] _ (by simp) rfl i hi)).mono ?_
  rintro e w1 ⟨x, hx, rfl, hC1, hO1⟩
  obtain ⟨kind, hk1⟩ : ∃ kind, ([1, 1, 1, 2, 2, 3, 4, 5, 6, 7, 8, 9, 9, 10] : List Int).getD x 0 = kind := ⟨_, rfl⟩
  rw [hk1]
  have hsz : w1.heap.size = w.heap.size + 1 + 1 := by rw [hO1.size]; simp
  have S0 : OpSt w p a n c w1.heap.size (w1.alloc (.cells #[.int .i64 kind, .int .i64 0, .int .i64 0] 28)) kind 0 0 :=
    ⟨cur_alloc hC1 _, (((World.grownBy_alloc w _ _).trans (World.grownBy_alloc _ _ _)).trans (far_only hO1)).trans (World.grownBy_alloc _ _ _), obox_new _ _ _ _, (((obox_new w 0 0 0).far (p := p) (World.grownBy_alloc _ _ _) (by omega)).far (far_only hO1) (by omega)).far (p := p) (World.grownBy_alloc _ _ _) (by omega)⟩
  obtain ⟨b, hb⟩ : ∃ b, b = w.heap.size + 1 + 1 := ⟨_, rfl⟩
  obtain ⟨w2, hw2⟩ : ∃ w2, w2 = w1.alloc (.cells #[.int .i64 kind, .int .i64 0, .int .i64 0] 28) := ⟨_, rfl⟩
  rw [← hw2, hsz, ← hb] at S0
  have HS : Hid (OpSt w p a n c b w2 kind 0 0) := S0
  have hbw : w.heap.size < b := by omega
  clear S0 hC1 hO1 hk1 hx
  obtain ⟨b0, b1, b2, z0, z1, z2, bl⟩ := HS.out.box.facts
  obtain ⟨r0, r1, r2, y0, y1, y2, rl⟩ := HS.out.res.facts
  go_wp2_with fail
  rw [← hw2, ← hb]
  clear hw2 hb
  refine (l4Key_any kind _).mono ?_
  rintro e w3 ⟨rfl, rfl⟩
  by_cases hK : 1 ≤ kind ∧ kind ≤ 4
  · rw [show decide (1 ≤ kind ∧ kind ≤ 4) = true from decide_eq_true hK]
    have h6 : (kind == 6) = false := by simp; omega
    go_wp2_with fail
    refine (l1Below_any p a n c 4 (by omega) (by omega) _ HS.out.cur).mono ?_
    rintro e w4 ⟨x4, hx4, rfl, hC4, hO4⟩
    have hS4 := HS.out.only hpw hbw hC4 hO4
    clear b0 b1 b2 z0 z1 z2 bl r0 r1 r2 y0 y1 y2 rl
    obtain ⟨b0, b1, b2, z0, z1, z2, bl⟩ := hS4.box.facts
    obtain ⟨r0, r1, r2, y0, y1, y2, rl⟩ := hS4.res.facts
    have HS4 : Hid (OpSt w p a n c b w4 kind 0 0) := hS4
    clear hS4 hC4 hO4
    go_wp2_with fail
    refine (l4Val_any kind _).mono ?_
    rintro e w8 ⟨⟨bv, rfl⟩, rfl⟩
    cases bv
    · go_wp2
      have E := (HS4.out.put1 hpw hbw (x4 : Int)).fin hpw kind (x4 : Int) 0
      obtain ⟨q0, q1, q2, _⟩ := E.1.facts
      (try simp only [Exit.inBlock, Exit.then])
      refine bodyPost_ret (by simp [results, Tryz.results14, go_sem, q0, q1, q2]; try rfl) rfl ?_
      exact ⟨_, _, _, rfl, E.2.1, E.2.2⟩
    · go_wp2_with fail
      refine (l1Below_any p a n c 4 (by omega) (by omega) _ (HS4.out.put1 hpw hbw (x4 : Int)).cur).mono ?_
      rintro e w9 ⟨y, hy, rfl, hC9, hO9⟩
      have hS9 := (HS4.out.put1 hpw hbw (x4 : Int)).only hpw hbw hC9 hO9
      clear b0 b1 b2 z0 z1 z2 bl r0 r1 r2 y0 y1 y2 rl
      obtain ⟨b0, b1, b2, z0, z1, z2, bl⟩ := hS9.box.facts
      obtain ⟨r0, r1, r2, y0, y1, y2, rl⟩ := hS9.res.facts
      have HS9 : Hid (OpSt w p a n c b w9 kind (x4 : Int) 0) := hS9
      clear hS9 hC9 hO9
      go_wp2
      have E := (HS9.out.put2 hpw hbw (1 + (y : Int))).fin hpw kind (x4 : Int) (1 + (y : Int))
      obtain ⟨q0, q1, q2, _⟩ := E.1.facts
      (try simp only [Exit.inBlock, Exit.then])
      refine bodyPost_ret (by simp [results, Tryz.results14, go_sem, q0, q1, q2]; try rfl) rfl ?_
      exact ⟨_, _, _, rfl, E.2.1, E.2.2⟩
  · rw [show decide (1 ≤ kind ∧ kind ≤ 4) = false from decide_eq_false hK]
    rcases eqb kind 6 with ⟨h6, h6'⟩ | ⟨h6, h6'⟩
    · clear h6
      go_wp2_with fail
      refine (l1Below_any p a n c 3 (by omega) (by omega) _ HS.out.cur).mono ?_
      rintro e w4 ⟨x4, hx4, rfl, hC4, hO4⟩
      have hS4 := HS.out.only hpw hbw hC4 hO4
      clear b0 b1 b2 z0 z1 z2 bl r0 r1 r2 y0 y1 y2 rl
      obtain ⟨b0, b1, b2, z0, z1, z2, bl⟩ := hS4.box.facts
      obtain ⟨r0, r1, r2, y0, y1, y2, rl⟩ := hS4.res.facts
      have HS4 : Hid (OpSt w p a n c b w4 kind 0 0) := hS4
      clear hS4 hC4 hO4
      go_wp2_with fail
      refine (l4Val_any kind _).mono ?_
      rintro e w8 ⟨⟨bv, rfl⟩, rfl⟩
      cases bv
      · go_wp2
        have E := (HS4.out.put1 hpw hbw (x4 : Int)).fin hpw kind (x4 : Int) 0
        obtain ⟨q0, q1, q2, _⟩ := E.1.facts
        (try simp only [Exit.inBlock, Exit.then])
        refine bodyPost_ret (by simp [results, Tryz.results14, go_sem, q0, q1, q2]; try rfl) rfl ?_
        exact ⟨_, _, _, rfl, E.2.1, E.2.2⟩
      · go_wp2_with fail
        refine (l1Below_any p a n c 4 (by omega) (by omega) _ (HS4.out.put1 hpw hbw (x4 : Int)).cur).mono ?_
        rintro e w9 ⟨y, hy, rfl, hC9, hO9⟩
        have hS9 := (HS4.out.put1 hpw hbw (x4 : Int)).only hpw hbw hC9 hO9
        clear b0 b1 b2 z0 z1 z2 bl r0 r1 r2 y0 y1 y2 rl
        obtain ⟨b0, b1, b2, z0, z1, z2, bl⟩ := hS9.box.facts
        obtain ⟨r0, r1, r2, y0, y1, y2, rl⟩ := hS9.res.facts
        have HS9 : Hid (OpSt w p a n c b w9 kind (x4 : Int) 0) := hS9
        clear hS9 hC9 hO9
        go_wp2
        have E := (HS9.out.put2 hpw hbw (1 + (y : Int))).fin hpw kind (x4 : Int) (1 + (y : Int))
        obtain ⟨q0, q1, q2, _⟩ := E.1.facts
        (try simp only [Exit.inBlock, Exit.then])
        refine bodyPost_ret (by simp [results, Tryz.results14, go_sem, q0, q1, q2]; try rfl) rfl ?_
        exact ⟨_, _, _, rfl, E.2.1, E.2.2⟩
    · clear h6
      go_wp2_with fail
      refine (l4Val_any kind _).mono ?_
      rintro e w8 ⟨⟨bv, rfl⟩, rfl⟩
      cases bv
      · go_wp2
        have E := HS.out.fin hpw kind 0 0
        obtain ⟨q0, q1, q2, _⟩ := E.1.facts
        (try simp only [Exit.inBlock, Exit.then])
        refine bodyPost_ret (by simp [results, Tryz.results14, go_sem, q0, q1, q2]; try rfl) rfl ?_
        exact ⟨_, _, _, rfl, E.2.1, E.2.2⟩
      · go_wp2_with fail
        refine (l1Below_any p a n c 4 (by omega) (by omega) _ HS.out.cur).mono ?_
        rintro e w9 ⟨y, hy, rfl, hC9, hO9⟩
        have hS9 := HS.out.only hpw hbw hC9 hO9
        clear b0 b1 b2 z0 z1 z2 bl r0 r1 r2 y0 y1 y2 rl
        obtain ⟨b0, b1, b2, z0, z1, z2, bl⟩ := hS9.box.facts
        obtain ⟨r0, r1, r2, y0, y1, y2, rl⟩ := hS9.res.facts
        have HS9 : Hid (OpSt w p a n c b w9 kind 0 0) := hS9
        clear hS9 hC9 hO9
        go_wp2
        have E := (HS9.out.put2 hpw hbw (1 + (y : Int))).fin hpw kind 0 (1 + (y : Int))
        obtain ⟨q0, q1, q2, _⟩ := E.1.facts
        (try simp only [Exit.inBlock, Exit.then])
        refine bodyPost_ret (by simp [results, Tryz.results14, go_sem, q0, q1, q2]; try rfl) rfl ?_
        exact ⟨_, _, _, rfl, E.2.1, E.2.2⟩
end Go.Proofs.YtenlapppaimkkaeGreatDoor

/- impl.KeyOf and impl.HowMany, walked at four numbers. -/
namespace Go.Proofs.YtenlapppaimkkaeGreatDoor
open Go.ChangeShapes Go.WideShapes Go.ChangeAt Go.RowKit Go.Maps

/-- The look-up in the map of holdersOf. -/
theorem look_row {H : Type} {w : World} {base b n : Nat} {D : DataW H} {R : Value → Option (DataW H × List MemPlace)} {xs : List Int} (h : w.ownsMap Tryz.prog 3 R b n D) (hR : RowsIn R w base) (hD : HD xs D) (v : Int) (h0 : v ≠ 0) (hw : (Lit.int .i64 v).wf = true) :
    ∃ (p : Option Addr) (l c : Nat), (Instr.lookup 78 (.map (some b)) (.int .i64 v) false).run Tryz.prog w = .ok (.slice p l c) w ∧ ((posK xs 4 v = [] ∧ l = 0) ∨ (posK xs 4 v ≠ [] ∧ w.ownsInts base 3 .i64 (.slice p l c) (posK xs 4 v))) := by
  obtain ⟨es, clock, hb, F, _, rfl⟩ := h
  have hkey : keyOf Tryz.prog 3 (.int .i64 v) = some (.int .i64 v) := keyOf_int_mk Tryz.underlying3 hw
  rcases Maps.fit_look false mapLaw Tryz.underlying78 (zeroInts w) hb F hkey with ⟨hrun, _, hat⟩ | ⟨e0, y, _, _, hrun, hRv, hat, _⟩
  · refine ⟨none, 0, 0, hrun, .inl ⟨?_, rfl⟩⟩
    have h1 := Maps.has_false_of_atKey hat
    rw [(hD v).1] at h1
    have h2 := of_decide_eq_false h1
    by_cases hp : posK xs 4 v = []
    · exact hp
    · exact absurd ⟨h0, hp⟩ h2
  · obtain ⟨_, hp, ho⟩ := step_row hR hD hRv hat
    obtain ⟨⟨p, l, c⟩, e1⟩ := row_slice ho
    rw [e1] at ho hrun
    exact ⟨p, l, c, hrun, .inr ⟨hp, ho⟩⟩

theorem posK_four (xs : List Int) (v : Int) : posK xs 4 v = (if xs.getD 0 0 = v then [0] else []) ++ (if xs.getD 1 0 = v then [1] else []) ++ (if xs.getD 2 0 = v then [2] else []) ++ (if xs.getD 3 0 = v then [3] else []) := by
  have h : ∀ k : Nat, posK xs (k + 1) v = posK xs k v ++ (if xs.getD k 0 = v then [(k : Int)] else []) := fun k => by
    split
    · exact posK_same (by assumption)
    · rw [posK_other (by assumption), List.append_nil]
  rw [h 3, h 2, h 1, h 0, posK_zero]
  rfl
theorem posK_len (xs : List Int) (v : Int) : ((posK xs 4 v).length : Int) = (if xs.getD 0 0 = v then 1 else 0) + (if xs.getD 1 0 = v then 1 else 0) + (if xs.getD 2 0 = v then 1 else 0) + (if xs.getD 3 0 = v then 1 else 0) := by
  rw [posK_four]
  split <;> split <;> split <;> split <;> rfl
theorem posK_le (xs : List Int) (v : Int) : (posK xs 4 v).length ≤ 4 := by
  rw [posK_four]
  split <;> split <;> split <;> split <;> decide
theorem keyN_none {xs : List Int} {v : Int} (h : posK xs 4 v = []) : keyN xs v = -1 := by
  rw [posK_four] at h
  unfold keyN
  split <;> (try split) <;> (try split) <;> (try split) <;> simp_all
theorem keyN_some {xs : List Int} {v : Int} (h : posK xs 4 v ≠ []) : (posK xs 4 v).getD 0 0 = keyN xs v := by
  rw [posK_four] at h ⊢
  unfold keyN
  split <;> (try split) <;> (try split) <;> (try split) <;> simp_all

set_option maxHeartbeats 1000000 in
set_option maxRecDepth 100000 in
theorem implKeyOf_four (a : Option Addr) (st v : Int) (xs : List Int) (w : World) (hA : IntAt w a 4 xs) (hi : ∀ x ∈ xs, (Lit.int .i64 x).wf = true) (hv : 1 ≤ v ∧ v ≤ 6) :
    Calls Tryz.prog 11 #[.agg #[.slice a 4 4, .int .i64 st], .int .i64 v] w fun e w' => e = .returned (.int .i64 (keyN xs v)) ∧ Below w.heap.size w w' := by
  have HA : Hid (IntAt w a 4 xs) := hA
  have HI : Hid (∀ x ∈ xs, (Lit.int .i64 x).wf = true) := hi
  obtain ⟨B, hB⟩ : ∃ B, keyN xs v = B := ⟨_, rfl⟩
  rw [hB]
  have HB : Hid (keyN xs v = B) := hB
  clear hA hi hB
  go_enter Tryz.func11, Tryz.ntmps11
  go_wp2_with fail
  refine (holdersOf_four Unit a st xs _ (HA.out.below ((Below.refl _ w).alloc (Nat.le_refl _) _) (Nat.le_refl _)) HI.out).mono ?_
  rintro e w1 ⟨rfl, hb0, R, D, hown, hR, hD⟩
  have hb1 : Below w.heap.size w w1 := ((Below.refl _ w).alloc (Nat.le_refl _) _).trans (hb0.mono (by simp))
  clear hb0
  simp only [World.size_alloc] at hown hR
  obtain ⟨p, l, c, hrun, hc⟩ := look_row hown hR hD v (by omega) (WalkArith.wf_i64 (by omega))
  clear hown hR hD
  rcases hc with ⟨hp, rfl⟩ | ⟨hp, ho⟩
  · have HP : Hid (posK xs 4 v = []) := hp
    clear hp
    go_wp2
    go_ret
    exact ⟨by rw [← HB.out, keyN_none HP.out]; rfl, hb1⟩
  · obtain rfl := row_len ho
    obtain ⟨g, rfl, hg, _⟩ := row_intAt ho hp (posK_le xs v)
    rw [keyN_some hp, HB.out] at hg
    have h4 := posK_le xs v
    have h5 : 0 < (posK xs 4 v).length := List.length_pos_iff.2 hp
    obtain ⟨q, hq⟩ : ∃ q, (posK xs 4 v).length = q := ⟨_, rfl⟩
    rw [hq] at hrun h4 h5
    clear hp ho hq
    by_cases h1 : q = 1
    · subst h1
      go_wp2
      go_ret
      exact ⟨rfl, hb1⟩
    · have h6 : ((q : Int) == 1) = false := by simp; omega
      have h7 : 1 < q := by omega
      go_wp2_with fail
      refine (implValOk_any v _).mono ?_
      rintro e w2 ⟨rfl, rfl⟩
      rw [show decide (1 ≤ v ∧ v ≤ 6) = true from decide_eq_true hv]
      go_wp2
      go_ret
      exact ⟨rfl, hb1⟩

/-- What is told of those that have come. -/
def mkH (left : Lit → Bool) (x : Int) : Int := if left (.int .i64 x) = true then 0 else x
/-- How many of those that have come are of the class c. -/
def cntH (xs : List Int) (left : Lit → Bool) (c : Int) : Int := bitW (mkH left (xs.getD 0 0)) c + bitW (mkH left (xs.getD 1 0)) c + bitW (mkH left (xs.getD 2 0)) c + bitW (mkH left (xs.getD 3 0)) c
theorem cntH_le (xs : List Int) (left : Lit → Bool) (c : Int) : 0 ≤ cntH xs left c ∧ cntH xs left c ≤ 4 := by
  unfold cntH
  have h0 := bitW_le (mkH left (xs.getD 0 0)) c
  have h1 := bitW_le (mkH left (xs.getD 1 0)) c
  have h2 := bitW_le (mkH left (xs.getD 2 0)) c
  have h3 := bitW_le (mkH left (xs.getD 3 0)) c
  omega
theorem bitW_mkH {left : Lit → Bool} {x : Int} (y c : Int) (hl : left (.int .i64 x) = true) :
    bitW (mkH (fun z => left z && !z.sameKey (.int .i64 x)) y) c = bitW (mkH left y) c + (if y = x then bitW x c else 0) := by
  unfold mkH
  by_cases h : y = x
  · subst h
    simp [sameKey_int, hl, bitW_zero]
  · simp [sameKey_int, h]
theorem cntH_step {xs : List Int} {left : Lit → Bool} {x : Int} (c : Int) (hl : left (.int .i64 x) = true) :
    cntH xs (fun z => left z && !z.sameKey (.int .i64 x)) c = cntH xs left c + (if bitW x c = 1 then ((posK xs 4 x).length : Int) else 0) := by
  have hb := bitW_le x c
  unfold cntH
  rw [bitW_mkH _ c hl, bitW_mkH _ c hl, bitW_mkH _ c hl, bitW_mkH _ c hl, posK_len]
  by_cases h : bitW x c = 1
  · rw [h, if_pos rfl]
    omega
  · have h0 : bitW x c = 0 := by omega
    rw [h0]
    simp
theorem cntH_none {xs : List Int} {left : Lit → Bool} (c : Int) (h : ∀ i, i < 4 → xs.getD i 0 ≠ 0 → left (.int .i64 (xs.getD i 0)) = true) : cntH xs left c = 0 := by
  have h1 : ∀ i, i < 4 → bitW (mkH left (xs.getD i 0)) c = 0 := fun i hi => by
    unfold mkH
    split
    · exact bitW_zero
    · by_cases h0 : xs.getD i 0 = 0
      · rw [h0]; exact bitW_zero
      · exact absurd (h i hi h0) (by assumption)
  unfold cntH
  rw [h1 0 (by omega), h1 1 (by omega), h1 2 (by omega), h1 3 (by omega)]
  rfl
theorem cntH_all {xs : List Int} {left : Lit → Bool} (c : Int) (h : ∀ z, left z = false) : cntH xs left c = cntK xs c 4 := by
  have h1 : ∀ y, mkH left y = y := fun y => by unfold mkH; rw [h]; rfl
  unfold cntH
  rw [h1, h1, h1, h1, cntK_four]
  rfl

set_option maxHeartbeats 1000000 in
set_option maxRecDepth 100000 in
theorem implHowMany_four (a : Option Addr) (st c : Int) (xs : List Int) (w : World) (hA : IntAt w a 4 xs) (hi : ∀ x ∈ xs, (Lit.int .i64 x).wf = true) :
    Calls Tryz.prog 74 #[.agg #[.slice a 4 4, .int .i64 st], .int .i64 c] w fun e w' => e = .returned (.int .i64 (cntK xs c 4)) ∧ Below w.heap.size w w' := by
  have HA : Hid (IntAt w a 4 xs) := hA
  have HI : Hid (∀ x ∈ xs, (Lit.int .i64 x).wf = true) := hi
  clear hA hi
  go_enter Tryz.func74, Tryz.ntmps74
  go_wp2_with fail
  refine (holdersOf_four Unit a st xs _ (HA.out.below ((Below.refl _ w).alloc (Nat.le_refl _) _) (Nat.le_refl _)) HI.out).mono ?_
  rintro e w1 ⟨rfl, hb1, R, D, hown, hR, hD⟩
  have hbw : Below w.heap.size w w1 := ((Below.refl _ w).alloc (Nat.le_refl _) _).trans (hb1.mono (by simp))
  have hsz1 := hown.lt
  simp only [World.size_alloc] at hown hR hsz1
  have HR : Hid (RowsIn R w1 (w.heap.size + 1 + 2)) := hR
  have HD1 : Hid (HD xs D) := hD
  clear hb1 hR hD
  go_wp2_with (first | (at_range; refine wpList_range_own _ rfl _ 78 rfl 3 24 mapLaw Tryz.underlying78 R (w.heap.size + 1 + 1) 4 D rfl hown ?_; intro w2 hrg0 hg0 hs2) | fail)
  go_frame
  have hb2 : Below w1.heap.size w1 w2 := (Below.refl _ _).grown hg0 (Nat.le_refl _) (fun k e => by cases e)
  clear hown hg0
  go_loopw [5] (fun q wr => ∃ left cnt, q = .int .i64 (cntH xs left c) ∧ wr.ranges Tryz.prog 3 R (w.heap.size + 1 + 1) w1.heap.size 4 D left cnt ∧ Below w1.heap.size w1 wr) (fun _ wr => wr.rangeLeft (w.heap.size + 1 + 1) w1.heap.size)
  case atStart =>
    refine ⟨_, _, ?_, hrg0, hb2⟩
    rw [cntH_none c]
    intro i hi h0
    show Maps.has D _ = true
    rw [(HD1.out _).1]
    refine decide_eq_true ⟨h0, ?_⟩
    have hm : ((i : Nat) : Int) ∈ posK xs 4 (xs.getD i 0) := List.mem_map.2 ⟨i, List.mem_filter.2 ⟨List.mem_range.2 hi, by simp⟩, rfl⟩
    exact List.ne_nil_of_mem hm
  case round =>
    obtain ⟨left, cnt, rfl, hrg, hbr⟩ := hrel
    clear hrg0 hb2
    go_wp2_with (first | (at_next; refine wpList_next_rows _ rfl _ rfl R HR.out (w.heap.size + 1 + 1) w1.heap.size 4 D HD1.out left cnt rfl hrg ?_ ?_) | fail)
    · intro _ hl0
      go_wp2
      go_ret
      exact ⟨by rw [cntH_all c hl0]; rfl, hbw.trans (hbr.mono hbw.size)⟩
    · intro x p l c' w3 cnt3 hlx hx0 hpx hrow hrg3 hlt hg3 hs3 hen
      have hb3 : Below w1.heap.size w1 w3 := hbr.grown hg3 hbr.size (fun k e => by cases e; exact Nat.le_refl _)
      have hb03 := hbw.trans (hb3.mono hbw.size)
      obtain rfl := row_len hrow
      have hq := cntH_le xs left c
      have h4 := posK_le xs x
      have hst := cntH_step (xs := xs) c hlx
      obtain ⟨q, hq1⟩ : ∃ q, cntH xs left c = q := ⟨_, rfl⟩
      obtain ⟨m, hm1⟩ : ∃ m, (posK xs 4 x).length = m := ⟨_, rfl⟩
      rw [hq1, hm1] at hst
      rw [hq1] at hq ⊢
      rw [hm1] at h4 hen ⊢
      have HS : Hid (cntH xs (fun z => left z && !z.sameKey (.int .i64 x)) c = q + if bitW x c = 1 then (m : Int) else 0) := hst
      clear hrow hg3 hpx hst hq1 hm1
      go_wp2_with fail
      refine (implValOk_any x _).mono ?_
      rintro e w4 ⟨rfl, rfl⟩
      by_cases hv : 1 ≤ x ∧ x ≤ 6
      · rw [show decide (1 ≤ x ∧ x ≤ 6) = true from decide_eq_true hv]
        go_wp2_with fail
        refine (implClassOf_any x _).mono ?_
        rintro e w5 ⟨rfl, rfl⟩
        rcases eqb (classN x) c with ⟨g0, g1⟩ | ⟨g0, g1⟩
        · have hbit : Hid (bitW x c = 1) := by unfold bitW; exact if_pos ⟨hv, g0⟩
          go_wp2
          refine ⟨⟨_, _, ?_, hrg3, hb3⟩, by rw [hrg3.left_eq, hrg.left_eq]; omega⟩
          rw [HS.out, if_pos hbit.out]
        · have hbit : Hid (bitW x c = 0) := by unfold bitW; exact if_neg (fun h => g0 h.2)
          go_wp2
          refine ⟨⟨_, _, ?_, hrg3, hb3⟩, by rw [hrg3.left_eq, hrg.left_eq]; omega⟩
          rw [HS.out, hbit.out]
          simp
      · rw [show decide (1 ≤ x ∧ x ≤ 6) = false from decide_eq_false hv]
        have hbit : Hid (bitW x c = 0) := by unfold bitW; exact if_neg (fun h => hv h.1)
        go_wp2
        refine ⟨⟨_, _, ?_, hrg3, hb3⟩, by rw [hrg3.left_eq, hrg.left_eq]; omega⟩
        rw [HS.out, hbit.out]
        simp
end Go.Proofs.YtenlapppaimkkaeGreatDoor

/- What comes of what is allowed is right (no program). -/
namespace Go.Proofs.YtenlapppaimkkaeGreatDoor

theorem four_of {xs : List Int} (h : xs.length = 4) : ∃ y0 y1 y2 y3, xs = [y0, y1, y2, y3] := by
  match xs, h with
  | [y0, y1, y2, y3], _ => exact ⟨y0, y1, y2, y3, rfl⟩
/-- What is held is right, and no two keys hold the same. -/
def OkFour (y0 y1 y2 y3 : Int) : Prop :=
  (y0 = 0 ∨ (1 ≤ y0 ∧ y0 ≤ 6)) ∧ (y1 = 0 ∨ (1 ≤ y1 ∧ y1 ≤ 6)) ∧ (y2 = 0 ∨ (1 ≤ y2 ∧ y2 ≤ 6)) ∧ (y3 = 0 ∨ (1 ≤ y3 ∧ y3 ≤ 6))
  ∧ (y0 = 0 ∨ (y0 ≠ y1 ∧ y0 ≠ y2 ∧ y0 ≠ y3)) ∧ (y1 = 0 ∨ (y1 ≠ y2 ∧ y1 ≠ y3)) ∧ (y2 = 0 ∨ y2 ≠ y3)
theorem good_len {xs : List Int} {x : Int} (h : Good xs x) : (1 ≤ x ∧ x ≤ 6) ∧ (if xs.getD 0 0 = x then 1 else 0) + (if xs.getD 1 0 = x then 1 else 0) + (if xs.getD 2 0 = x then 1 else 0) + (if xs.getD 3 0 = x then 1 else 0) ≤ (1 : Int) := by
  have h2 := h.2
  rw [← posK_len]
  exact ⟨h.1, by omega⟩
theorem posK_ne {xs : List Int} {x : Int} (h : xs.getD 0 0 = x ∨ xs.getD 1 0 = x ∨ xs.getD 2 0 = x ∨ xs.getD 3 0 = x) : posK xs 4 x ≠ [] := by
  intro e
  have hl := posK_len xs x
  rw [e] at hl
  simp only [List.length_nil] at hl
  rcases h with h | h | h | h <;> simp only [h, if_true] at hl <;> (repeat' split at hl) <;> omega
theorem okFour_iff (y0 y1 y2 y3 st : Int) : OkRows [y0, y1, y2, y3] st ↔ ((0 ≤ st ∧ st ≤ 5) ∧ OkFour y0 y1 y2 y3) := by
  constructor
  · rintro ⟨_, h0, h1, h⟩
    refine ⟨⟨h0, h1⟩, ?_⟩
    have g : ∀ x, x ≠ 0 → (y0 = x ∨ y1 = x ∨ y2 = x ∨ y3 = x) → (1 ≤ x ∧ x ≤ 6) ∧ (if y0 = x then 1 else 0) + (if y1 = x then 1 else 0) + (if y2 = x then 1 else 0) + (if y3 = x then 1 else 0) ≤ (1 : Int) := fun x hx hh => good_len (h x hx (posK_ne (by simpa using hh)))
    have g0 := g y0
    have g1 := g y1
    have g2 := g y2
    have g3 := g y3
    unfold OkFour
    clear g h
    simp only [true_or, or_true, if_true, forall_const] at g0 g1 g2 g3
    refine ⟨?_, ?_, ?_, ?_, ?_, ?_, ?_⟩
    · rcases Decidable.em (y0 = 0) with e | e
      · exact .inl e
      · exact .inr (g0 e).1
    · rcases Decidable.em (y1 = 0) with e | e
      · exact .inl e
      · exact .inr (g1 e).1
    · rcases Decidable.em (y2 = 0) with e | e
      · exact .inl e
      · exact .inr (g2 e).1
    · rcases Decidable.em (y3 = 0) with e | e
      · exact .inl e
      · exact .inr (g3 e).1
    · rcases Decidable.em (y0 = 0) with e | e
      · exact .inl e
      · have q := (g0 e).2
        refine .inr ⟨?_, ?_, ?_⟩ <;> (intro e2; simp only [← e2, if_true] at q; (repeat' split at q) <;> omega)
    · rcases Decidable.em (y1 = 0) with e | e
      · exact .inl e
      · have q := (g1 e).2
        refine .inr ⟨?_, ?_⟩ <;> (intro e2; simp only [← e2, if_true] at q; (repeat' split at q) <;> omega)
    · rcases Decidable.em (y2 = 0) with e | e
      · exact .inl e
      · have q := (g2 e).2
        refine .inr ?_
        intro e2; simp only [← e2, if_true] at q; (repeat' split at q) <;> omega
  · rintro ⟨⟨h0, h1⟩, h⟩
    refine ⟨rfl, h0, h1, fun x hx hp => ?_⟩
    unfold OkFour at h
    have hmem : y0 = x ∨ y1 = x ∨ y2 = x ∨ y3 = x := by
      rcases Decidable.em (y0 = x ∨ y1 = x ∨ y2 = x ∨ y3 = x) with e | e
      · exact e
      · exfalso
        apply hp
        rw [posK_four]
        simp only [not_or] at e
        simp [e]
    refine ⟨by omega, ?_⟩
    have hl := posK_len [y0, y1, y2, y3] x
    simp only [List.getD_cons_zero, List.getD_cons_succ] at hl
    have : ((posK [y0, y1, y2, y3] 4 x).length : Int) ≤ 1 := by
      rw [hl]
      (repeat' split) <;> omega
    omega

theorem keyN_lt {y0 y1 y2 y3 v : Int} (h : keyN [y0, y1, y2, y3] v < 0) : y0 ≠ v ∧ y1 ≠ v ∧ y2 ≠ v ∧ y3 ≠ v := by
  unfold keyN at h
  simp only [List.getD_cons_zero, List.getD_cons_succ] at h
  (repeat' split at h) <;> first | omega | (refine ⟨?_, ?_, ?_, ?_⟩ <;> assumption)
theorem keyN_eq {y0 y1 y2 y3 v k : Int} (h : keyN [y0, y1, y2, y3] v = k) (hk : 0 ≤ k) : (k = 0 ∧ y0 = v) ∨ (k = 1 ∧ y1 = v) ∨ (k = 2 ∧ y2 = v) ∨ (k = 3 ∧ y3 = v) := by
  unfold keyN at h
  simp only [List.getD_cons_zero, List.getD_cons_succ] at h
  (repeat' split at h) <;> omega

set_option maxHeartbeats 1000000 in
theorem after_ok {xs : List Int} {st kind k v : Int} {ys zs : List Int} {st' : Int} (hA : AllowM xs st kind k v 0 ys) (h : AfterM xs st kind k v 0 ys zs st') : OkRows zs st' := by
  rcases h with ⟨_, _, h⟩ | ⟨h, _⟩
  case inr => exact absurd ⟨hA, rfl⟩ h
  obtain ⟨hok, hop, hA⟩ := hA
  rcases hA with ⟨h0, _⟩ | ⟨_, hD, _⟩
  · exact absurd rfl h0
  obtain ⟨y0, y1, y2, y3, rfl⟩ := four_of hok.1
  have hf := (okFour_iff y0 y1 y2 y3 st).1 hok
  obtain ⟨hk, hkey, hval⟩ := hop
  unfold KeyGood at hkey
  unfold ValGood at hval
  unfold DoneM atK at hD
  rcases h with ⟨hkd, rfl, rfl⟩ | ⟨hkd, rfl, rfl⟩ | ⟨hkd, rfl, rfl⟩ | ⟨hkd, rfl, rfl⟩
  · have hk4 : 0 ≤ k ∧ k ≤ 3 := by omega
    have hv : 1 ≤ v ∧ v ≤ 6 := by omega
    have hcase : (keyN [y0, y1, y2, y3] v < 0) ∨ keyN [y0, y1, y2, y3] v = k := by omega
    have hne : (k = 0 ∨ y0 ≠ v) ∧ (k = 1 ∨ y1 ≠ v) ∧ (k = 2 ∨ y2 ≠ v) ∧ (k = 3 ∨ y3 ≠ v) := by
      rcases hcase with h1 | h1
      · have := keyN_lt h1; omega
      · have e := keyN_eq h1 hk4.1
        obtain ⟨_, hf2⟩ := hf
        unfold OkFour at hf2
        omega
    clear hD hcase hkey hval hk hkd hok
    obtain ⟨hst, hf⟩ := hf
    unfold OkFour at hf
    rcases (show k = 0 ∨ k = 1 ∨ k = 2 ∨ k = 3 by omega) with rfl | rfl | rfl | rfl
    · show OkRows [v, y1, y2, y3] _
      rw [okFour_iff]
      refine ⟨hst, ?_⟩
      have n : y1 ≠ v ∧ y2 ≠ v ∧ y3 ≠ v := by omega
      clear hne
      unfold OkFour
      refine ⟨?_, ?_, ?_, ?_, ?_, ?_, ?_⟩ <;> omega
    · show OkRows [y0, v, y2, y3] _
      rw [okFour_iff]
      refine ⟨hst, ?_⟩
      have n : y0 ≠ v ∧ y2 ≠ v ∧ y3 ≠ v := by omega
      clear hne
      unfold OkFour
      refine ⟨?_, ?_, ?_, ?_, ?_, ?_, ?_⟩ <;> omega
    · show OkRows [y0, y1, v, y3] _
      rw [okFour_iff]
      refine ⟨hst, ?_⟩
      have n : y0 ≠ v ∧ y1 ≠ v ∧ y3 ≠ v := by omega
      clear hne
      unfold OkFour
      refine ⟨?_, ?_, ?_, ?_, ?_, ?_, ?_⟩ <;> omega
    · show OkRows [y0, y1, y2, v] _
      rw [okFour_iff]
      refine ⟨hst, ?_⟩
      have n : y0 ≠ v ∧ y1 ≠ v ∧ y2 ≠ v := by omega
      clear hne
      unfold OkFour
      refine ⟨?_, ?_, ?_, ?_, ?_, ?_, ?_⟩ <;> omega
  · have hk4 : 0 ≤ k ∧ k ≤ 3 := by omega
    clear hD hkey hval hk hkd hok
    obtain ⟨hst, hf⟩ := hf
    unfold OkFour at hf
    rcases (show k = 0 ∨ k = 1 ∨ k = 2 ∨ k = 3 by omega) with rfl | rfl | rfl | rfl
    · show OkRows [0, y1, y2, y3] _
      rw [okFour_iff]
      refine ⟨hst, ?_⟩
      unfold OkFour
      refine ⟨?_, ?_, ?_, ?_, ?_, ?_, ?_⟩ <;> omega
    · show OkRows [y0, 0, y2, y3] _
      rw [okFour_iff]
      refine ⟨hst, ?_⟩
      unfold OkFour
      refine ⟨?_, ?_, ?_, ?_, ?_, ?_, ?_⟩ <;> omega
    · show OkRows [y0, y1, 0, y3] _
      rw [okFour_iff]
      refine ⟨hst, ?_⟩
      unfold OkFour
      refine ⟨?_, ?_, ?_, ?_, ?_, ?_, ?_⟩ <;> omega
    · show OkRows [y0, y1, y2, 0] _
      rw [okFour_iff]
      refine ⟨hst, ?_⟩
      unfold OkFour
      refine ⟨?_, ?_, ?_, ?_, ?_, ?_, ?_⟩ <;> omega
  · rw [okFour_iff]
    refine ⟨?_, hf.2⟩
    omega
  · exact hok
end Go.Proofs.YtenlapppaimkkaeGreatDoor

/- Drawn rows that are right, drawn ops that can be asked. -/
namespace Go.Proofs.YtenlapppaimkkaeGreatDoor
open Go.ChangeShapes Go.WideShapes Go.ChangeAt Go.RowKit

/-- The rows are right, and nothing is held from key k on. -/
def OkTo (xs : List Int) (k : Nat) : Prop := ∃ y0 y1 y2 y3 : Int, xs = [y0, y1, y2, y3] ∧ OkFour y0 y1 y2 y3 ∧ (k ≤ 0 → y0 = 0) ∧ (k ≤ 1 → y1 = 0) ∧ (k ≤ 2 → y2 = 0) ∧ (k ≤ 3 → y3 = 0)
theorem okTo_zero : OkTo [0, 0, 0, 0] 0 := ⟨0, 0, 0, 0, rfl, by unfold OkFour; omega, fun _ => rfl, fun _ => rfl, fun _ => rfl, fun _ => rfl⟩
theorem okTo_step {xs : List Int} {k : Nat} (h : OkTo xs k) : OkTo xs (k + 1) := by
  obtain ⟨y0, y1, y2, y3, e, h, h0, h1, h2, h3⟩ := h
  exact ⟨y0, y1, y2, y3, e, h, fun _ => by omega, fun _ => h1 (by omega), fun _ => h2 (by omega), fun _ => h3 (by omega)⟩
theorem KeyIs.none {xs : List Int} {n : Nat} {v r : Int} (h : KeyIs xs n v r) (hr : r < 0) : ∀ i, i < n → xs.getD i 0 ≠ v := by
  rcases h with ⟨_, h⟩ | ⟨i, _, rfl, _⟩
  · exact h
  · omega
theorem okTo_set {xs : List Int} {k x : Nat} (h : OkTo xs k) (hk : k < 4) (hx : (x : Int) < 7) (hn : ∀ i, i < 4 → xs.getD i 0 ≠ (x : Int)) : OkTo (xs.set k (x : Int)) (k + 1) := by
  obtain ⟨y0, y1, y2, y3, rfl, h, h0, h1, h2, h3⟩ := h
  have n0 := hn 0 (by omega)
  have n1 := hn 1 (by omega)
  have n2 := hn 2 (by omega)
  have n3 := hn 3 (by omega)
  simp only [List.getD_cons_zero, List.getD_cons_succ] at n0 n1 n2 n3
  unfold OkFour at h
  rcases k with _ | _ | _ | _ | k
  · refine ⟨(x : Int), y1, y2, y3, rfl, ?_, fun h => by omega, fun _ => h1 (by omega), fun _ => h2 (by omega), fun _ => h3 (by omega)⟩; unfold OkFour; omega
  · refine ⟨y0, (x : Int), y2, y3, rfl, ?_, fun h => by omega, fun h => by omega, fun _ => h2 (by omega), fun _ => h3 (by omega)⟩; unfold OkFour; omega
  · refine ⟨y0, y1, (x : Int), y3, rfl, ?_, fun h => by omega, fun h => by omega, fun h => by omega, fun _ => h3 (by omega)⟩; unfold OkFour; omega
  · refine ⟨y0, y1, y2, (x : Int), rfl, ?_, fun h => by omega, fun h => by omega, fun h => by omega, fun h => by omega⟩; unfold OkFour; omega
  · omega
theorem okTo_rows {xs : List Int} {k : Nat} {st : Int} (h : OkTo xs k) (hs : 0 ≤ st ∧ st ≤ 5) : OkRows xs st := by
  obtain ⟨y0, y1, y2, y3, rfl, h, _⟩ := h
  exact (okFour_iff y0 y1 y2 y3 st).2 ⟨hs, h⟩

set_option maxHeartbeats 1000000 in
theorem l3DrawRight_ok (p : Nat) (a : Option Addr) (n c : Nat) (w : World) (hC : Cur 82 w p a n c) :
    Calls Tryz.prog 13 #[.pointer (some ⟨p, 0, none⟩)] w fun e w' => ∃ (g : Nat) (xs : List Int) (st : Int), e = .returned (.agg #[.slice (some ⟨g, 0, none⟩) 4 4, .int .i64 st]) ∧ w.heap.size < g ∧ w'.ownsRow g 3 1 (.slice (some ⟨g, 0, none⟩) 4 4) 4 (xs.map I) ∧ OkRows xs st ∧ Cur 82 w' p a n c ∧ w.grownBy w' (some p) := by
  have HC : Hid (Cur 82 w p a n c) := hC
  have hpw := hC.lt
  clear hC
  go_enter Tryz.func13, Tryz.ntmps13
  go_wp2_with fail
  refine (specRowsNew_own _).mono ?_
  rintro e w1 ⟨rfl, own1, hb1⟩
  simp only [World.size_alloc] at own1 hb1
  have hs1 : w.heap.size + 1 + 1 < w1.heap.size := (own1.lt _ rfl).2
  have hbw : Below w.heap.size w w1 := ((Below.refl _ w).alloc (Nat.le_refl _) _).trans (hb1.mono (by omega))
  have S0 : DrawSt w p a n c (w.heap.size + 1 + 1) w1.heap.size (w1.alloc (.cells #[.slice (some ⟨w.heap.size + 1 + 1, 0, none⟩) 4 4, .int .i64 0] 26)) [0, 0, 0, 0] 0 :=
    ⟨cur_alloc (cur_below HC.out hbw) _, (far_below hbw _).trans (World.grownBy_alloc _ _ _), own1.alloc _, by intro x hx; simp at hx; omega, rbox_new _ _ _ _ _, ((rbox_new w none 0 0 0).far (p := p) (far_below (hb1.mono (by simp)) _) (by omega)).far (p := p) (World.grownBy_alloc _ _ _) (by omega)⟩
  obtain ⟨g, hg⟩ : ∃ g, g = w.heap.size + 1 + 1 := ⟨_, rfl⟩
  obtain ⟨b, hb⟩ : ∃ b, b = w1.heap.size := ⟨_, rfl⟩
  have HS0 : Hid (DrawSt w p a n c g b (w1.alloc (.cells #[.slice (some ⟨g, 0, none⟩) 4 4, .int .i64 0] 26)) [0, 0, 0, 0] 0) := by rw [hg, hb]; exact S0
  have hgw : w.heap.size < g := by omega
  have hgb : g < b := by omega
  clear S0 own1 hb1 hbw
  go_wp2_with fail
  rw [← hg, ← hb]
  clear hg hb hs1
  go_loopw [4] (fun i wr => ∃ (k : Nat) (xs : List Int), k ≤ 4 ∧ i = .int .i64 k ∧ DrawSt w p a n c g b wr xs 0 ∧ OkTo xs k) (fun i _ => 4 - (intOf i).toNat)
  case atStart => exact ⟨0, _, by omega, rfl, HS0.out, okTo_zero⟩
  case round =>
    obtain ⟨k, xs, hk, rfl, hS, hok⟩ := hrel
    have HO : Hid (OkTo xs k) := hok
    clear hok
    have HS : Hid (DrawSt w p a n c g b wr xs 0) := hS
    clear hS
    by_cases hlt : k < 4
    · have hk0 : (0 : Int) ≤ (k : Int) := by omega
      have hk1 : (k : Int) < 4 := by omega
      go_wp2_with fail
      refine (l1Below_any p a n c 7 (by omega) (by omega) _ HS.out.cur).mono ?_
      rintro e w2 ⟨x, hx, rfl, hC2, hO2⟩
      have hS2 := HS.out.only hpw hgw hgb hC2 hO2
      obtain ⟨b0, b1, _⟩ := hS2.box.facts
      have HS2 : Hid (DrawSt w p a n c g b w2 xs 0) := hS2
      clear hC2 hO2 hS2
      go_wp2_with fail
      refine (specKeyOf_any _ 4 4 0 x xs _ HS2.out.at).mono ?_
      rintro e w3 ⟨⟨r, rfl, hkey⟩, hb3⟩
      have HK : Hid (KeyIs xs 4 (x : Int) r ∧ (x : Int) < 7) := ⟨hkey, hx⟩
      clear hkey
      have hS3 := HS2.out.below hpw hgw hgb hb3
      clear b0 b1
      obtain ⟨b0, b1, _⟩ := hS3.box.facts
      obtain ⟨u0, hu⟩ := own_cell hS3.own hlt
      have hz := hS3.own.frozenAt k
      have HS3 : Hid (DrawSt w p a n c g b w3 xs 0) := hS3
      clear hb3 hS3
      by_cases hr : r < 0
      · go_wp2
        exact ⟨⟨k + 1, _, by omega, by go_num, HS3.out.store hpw hgw hgb k (v := (x : Int)) (by omega), okTo_set HO.out hlt HK.out.2 (HK.out.1.none hr)⟩, by simp [intOf]; omega⟩
      · go_wp2
        exact ⟨⟨k + 1, _, by omega, by go_num, HS3.out, okTo_step HO.out⟩, by simp [intOf]; omega⟩
    · obtain rfl : k = 4 := by omega
      go_wp2_with fail
      have hSa : DrawSt w p a n c g b (wr.alloc (.cells #[.int .i64 0, .int .i64 0, .int .i64 1, .int .i64 3, .int .i64 5] 3)) xs 0 := HS.out.below hpw hgw hgb ((Below.refl _ _).alloc (Nat.le_refl _) _)
      have hpr : p < wr.heap.size := HS.out.cur.lt
      refine (l1PickInt_any p a n c wr.heap.size 5 5 [0, 0, 1, 3, 5] (by omega) (by omega) _ hSa.cur (by omega) (fun i hi => by rcases i with _ | _ | _ | _ | _ | i <;> first | (simp; done) | omega)).mono ?_
      rintro e w2 ⟨x, hx, rfl, hC2, hO2⟩
      have hS2 := hSa.only hpw hgw hgb hC2 hO2
      obtain ⟨b0, b1, z0, z1, bl⟩ := hS2.box.facts
      obtain ⟨r0, r1, y0, y1, rl⟩ := hS2.res.facts
      have hst := pick5 x hx
      obtain ⟨st, hst1⟩ : ∃ st, ([0, 0, 1, 3, 5] : List Int).getD x 0 = st := ⟨_, rfl⟩
      rw [hst1] at hst
      rw [hst1]
      have HS2 : Hid (DrawSt w p a n c g b w2 xs 0) := hS2
      clear hC2 hO2 hS2 hst1 hSa
      go_wp2
      (try simp only [Exit.inBlock, Exit.then])
      have q := stored_box2 (w := w2.setCell ⟨b, 1, none⟩ (.int .i64 st)) (b := w.heap.size) (by rw [World.cell?_setCell_far _ _ _ _ (show b ≠ w.heap.size by omega)]; exact r0) (by rw [World.cell?_setCell_far _ _ _ _ (show b ≠ w.heap.size by omega)]; exact r1) (.slice (some ⟨g, 0, none⟩) 4 4) (.int .i64 st)
      refine bodyPost_ret (by simp [results, Tryz.results13, go_sem, q.1, q.2]; try rfl) rfl ?_
      exact ⟨g, xs, st, rfl, hgw, own_setCell_far (own_setCell_far (own_setCell_far HS2.out.own (by simp [Value.ownBlock]; omega) _) (by simp [Value.ownBlock]; omega) _) (by simp [Value.ownBlock]; omega) _, okTo_rows HO.out hst, cur_set (cur_set (cur_set HS2.out.cur (show p < b by omega) _) (show p < w.heap.size by omega) _) (show p < w.heap.size by omega) _, far_set (far_set (far_set HS2.out.far (show w.heap.size ≤ b by omega) _) (show w.heap.size ≤ w.heap.size by omega) _) (show w.heap.size ≤ w.heap.size by omega) _⟩

theorem l4Val_is (k : Int) (w : World) : Calls Tryz.prog 47 #[.int .i64 k] w fun e w' => e = .returned (.bool (decide (k = 1 ∨ k = 2 ∨ k = 5 ∨ k = 10))) ∧ w' = w := by
  by_cases hv : k = 1 ∨ k = 2 ∨ k = 5 ∨ k = 10
  · rw [decide_eq_true hv]
    rcases eqb k 1 with ⟨h1, g1⟩ | ⟨h1, g1⟩ <;> rcases eqb k 2 with ⟨h2, g2⟩ | ⟨h2, g2⟩ <;> rcases eqb k 5 with ⟨h5, g5⟩ | ⟨h5, g5⟩ <;> rcases eqb k 10 with ⟨h9, g9⟩ | ⟨h9, g9⟩
    all_goals first
      | (exfalso; omega)
      | (clear h1 h2 h5 h9 hv
         go_enter Tryz.func47, Tryz.ntmps47
         go_wp2
         go_ret
         exact ⟨rfl, rfl⟩)
  · rw [decide_eq_false hv]
    rcases eqb k 1 with ⟨h1, g1⟩ | ⟨h1, g1⟩ <;> rcases eqb k 2 with ⟨h2, g2⟩ | ⟨h2, g2⟩ <;> rcases eqb k 5 with ⟨h5, g5⟩ | ⟨h5, g5⟩ <;> rcases eqb k 10 with ⟨h9, g9⟩ | ⟨h9, g9⟩
    all_goals first
      | (exfalso; omega)
      | (clear h1 h2 h5 h9 hv
         go_enter Tryz.func47, Tryz.ntmps47
         go_wp2
         go_ret
         exact ⟨rfl, rfl⟩)
theorem pick14 (x : Nat) (_ : x < 14) : 1 ≤ ([1, 1, 1, 2, 2, 3, 4, 5, 6, 7, 8, 9, 9, 10] : List Int).getD x 0 ∧ ([1, 1, 1, 2, 2, 3, 4, 5, 6, 7, 8, 9, 9, 10] : List Int).getD x 0 ≤ 10 := by
  rcases x with _ | _ | _ | _ | _ | _ | _ | _ | _ | _ | _ | _ | _ | _ | x <;> first | decide | omega
theorem opGood_key {kind : Int} {x : Nat} (h : 1 ≤ kind ∧ kind ≤ 10) (hK : 1 ≤ kind ∧ kind ≤ 4) (hx : (x : Int) < 4) (hb : decide (kind = 1 ∨ kind = 2 ∨ kind = 5 ∨ kind = 10) = false) : OpGood kind (x : Int) 0 := by
  have hb := of_decide_eq_false hb
  unfold OpGood KeyGood ValGood; omega
theorem opGood_keyV {kind : Int} {x y : Nat} (h : 1 ≤ kind ∧ kind ≤ 10) (hK : 1 ≤ kind ∧ kind ≤ 4) (hx : (x : Int) < 4) (hy : (y : Int) < 4) (hb : decide (kind = 1 ∨ kind = 2 ∨ kind = 5 ∨ kind = 10) = true) : OpGood kind (x : Int) (1 + (y : Int)) := by
  have hb := of_decide_eq_true hb
  unfold OpGood KeyGood ValGood; omega
theorem opGood_cnt {kind : Int} {x : Nat} (h : kind = 6) (hx : (x : Int) < 3) (hb : decide (kind = 1 ∨ kind = 2 ∨ kind = 5 ∨ kind = 10) = false) : OpGood kind (x : Int) 0 := by
  have hb := of_decide_eq_false hb
  unfold OpGood KeyGood ValGood; omega
theorem opGood_no {kind : Int} (h : 1 ≤ kind ∧ kind ≤ 10) (hb : decide (kind = 1 ∨ kind = 2 ∨ kind = 5 ∨ kind = 10) = false) : OpGood kind 0 0 := by
  have hb := of_decide_eq_false hb
  unfold OpGood KeyGood ValGood; omega
theorem opGood_val {kind : Int} {y : Nat} (h : 1 ≤ kind ∧ kind ≤ 10) (hy : (y : Int) < 4) (hb : decide (kind = 1 ∨ kind = 2 ∨ kind = 5 ∨ kind = 10) = true) : OpGood kind 0 (1 + (y : Int)) := by
  have hb := of_decide_eq_true hb
  unfold OpGood KeyGood ValGood; omega

set_option maxHeartbeats 2000000 in
theorem l4DrawRight_ok (p : Nat) (a : Option Addr) (n c : Nat) (w : World) (hC : Cur 82 w p a n c) :
    Calls Tryz.prog 14 #[.pointer (some ⟨p, 0, none⟩)] w fun e w' => ∃ kind k v : Int, e = .returned (OpV kind k v) ∧ OpGood kind k v ∧ Cur 82 w' p a n c ∧ w.grownBy w' (some p) := by
  have HC : Hid (Cur 82 w p a n c) := hC
  have hpw := hC.lt
  clear hC
  go_enter Tryz.func14, Tryz.ntmps14
  go_wp2_with fail
  refine (l1PickInt_any p a n c (w.heap.size + 1) 14 14 [1, 1, 1, 2, 2, 3, 4, 5, 6, 7, 8, 9, 9, 10] (by omega) (by omega) _ (cur_alloc (cur_alloc HC.out _) _) (by omega) (by intro i hi; exact list_at _ [1, 1, 1, 2, 2, 3, 4, 5, 6, 7, 8, 9, 9, 10] _ (by simp) rfl i hi)).mono ?_
  rintro e w1 ⟨x, hx, rfl, hC1, hO1⟩
  obtain ⟨kind, hk1⟩ : ∃ kind, ([1, 1, 1, 2, 2, 3, 4, 5, 6, 7, 8, 9, 9, 10] : List Int).getD x 0 = kind := ⟨_, rfl⟩
  rw [hk1]
  have hsz : w1.heap.size = w.heap.size + 1 + 1 := by rw [hO1.size]; simp
  have S0 : OpSt w p a n c w1.heap.size (w1.alloc (.cells #[.int .i64 kind, .int .i64 0, .int .i64 0] 28)) kind 0 0 :=
    ⟨cur_alloc hC1 _, (((World.grownBy_alloc w _ _).trans (World.grownBy_alloc _ _ _)).trans (far_only hO1)).trans (World.grownBy_alloc _ _ _), obox_new _ _ _ _, (((obox_new w 0 0 0).far (p := p) (World.grownBy_alloc _ _ _) (by omega)).far (far_only hO1) (by omega)).far (p := p) (World.grownBy_alloc _ _ _) (by omega)⟩
  obtain ⟨b, hb⟩ : ∃ b, b = w.heap.size + 1 + 1 := ⟨_, rfl⟩
  obtain ⟨w2, hw2⟩ : ∃ w2, w2 = w1.alloc (.cells #[.int .i64 kind, .int .i64 0, .int .i64 0] 28) := ⟨_, rfl⟩
  rw [← hw2, hsz, ← hb] at S0
  have HS : Hid (OpSt w p a n c b w2 kind 0 0) := S0
  have hbw : w.heap.size < b := by omega
  have HKD : Hid (1 ≤ kind ∧ kind ≤ 10) := by rw [← hk1]; exact pick14 x hx
  clear S0 hC1 hO1 hk1 hx
  obtain ⟨b0, b1, b2, z0, z1, z2, bl⟩ := HS.out.box.facts
  obtain ⟨r0, r1, r2, y0, y1, y2, rl⟩ := HS.out.res.facts
  go_wp2_with fail
  rw [← hw2, ← hb]
  clear hw2 hb
  refine (l4Key_any kind _).mono ?_
  rintro e w3 ⟨rfl, rfl⟩
  by_cases hK : 1 ≤ kind ∧ kind ≤ 4
  · rw [show decide (1 ≤ kind ∧ kind ≤ 4) = true from decide_eq_true hK]
    have h6 : (kind == 6) = false := by simp; omega
    go_wp2_with fail
    refine (l1Below_any p a n c 4 (by omega) (by omega) _ HS.out.cur).mono ?_
    rintro e w4 ⟨x4, hx4, rfl, hC4, hO4⟩
    have hS4 := HS.out.only hpw hbw hC4 hO4
    clear b0 b1 b2 z0 z1 z2 bl r0 r1 r2 y0 y1 y2 rl
    obtain ⟨b0, b1, b2, z0, z1, z2, bl⟩ := hS4.box.facts
    obtain ⟨r0, r1, r2, y0, y1, y2, rl⟩ := hS4.res.facts
    have HS4 : Hid (OpSt w p a n c b w4 kind 0 0) := hS4
    clear hS4 hC4 hO4
    go_wp2_with fail
    refine (l4Val_is kind _).mono ?_
    rintro e w8 ⟨rfl, rfl⟩
    obtain ⟨bv, hbv⟩ : ∃ b, decide (kind = 1 ∨ kind = 2 ∨ kind = 5 ∨ kind = 10) = b := ⟨_, rfl⟩
    rw [hbv]
    have HBV : Hid (decide (kind = 1 ∨ kind = 2 ∨ kind = 5 ∨ kind = 10) = bv) := hbv
    clear hbv
    cases bv
    · go_wp2
      have E := (HS4.out.put1 hpw hbw (x4 : Int)).fin hpw kind (x4 : Int) 0
      obtain ⟨q0, q1, q2, _⟩ := E.1.facts
      (try simp only [Exit.inBlock, Exit.then])
      refine bodyPost_ret (by simp [results, Tryz.results14, go_sem, q0, q1, q2]; try rfl) rfl ?_
      exact ⟨_, _, _, rfl, opGood_key HKD.out hK (x := x4) hx4 HBV.out, E.2.1, E.2.2⟩
    · go_wp2_with fail
      refine (l1Below_any p a n c 4 (by omega) (by omega) _ (HS4.out.put1 hpw hbw (x4 : Int)).cur).mono ?_
      rintro e w9 ⟨y, hy, rfl, hC9, hO9⟩
      have hS9 := (HS4.out.put1 hpw hbw (x4 : Int)).only hpw hbw hC9 hO9
      clear b0 b1 b2 z0 z1 z2 bl r0 r1 r2 y0 y1 y2 rl
      obtain ⟨b0, b1, b2, z0, z1, z2, bl⟩ := hS9.box.facts
      obtain ⟨r0, r1, r2, y0, y1, y2, rl⟩ := hS9.res.facts
      have HS9 : Hid (OpSt w p a n c b w9 kind (x4 : Int) 0) := hS9
      clear hS9 hC9 hO9
      go_wp2
      have E := (HS9.out.put2 hpw hbw (1 + (y : Int))).fin hpw kind (x4 : Int) (1 + (y : Int))
      obtain ⟨q0, q1, q2, _⟩ := E.1.facts
      (try simp only [Exit.inBlock, Exit.then])
      refine bodyPost_ret (by simp [results, Tryz.results14, go_sem, q0, q1, q2]; try rfl) rfl ?_
      exact ⟨_, _, _, rfl, opGood_keyV HKD.out hK hx4 hy HBV.out, E.2.1, E.2.2⟩
  · rw [show decide (1 ≤ kind ∧ kind ≤ 4) = false from decide_eq_false hK]
    rcases eqb kind 6 with ⟨h6, h6'⟩ | ⟨h6, h6'⟩
    · have H6 : Hid (kind = 6) := h6
      clear h6
      go_wp2_with fail
      refine (l1Below_any p a n c 3 (by omega) (by omega) _ HS.out.cur).mono ?_
      rintro e w4 ⟨x4, hx4, rfl, hC4, hO4⟩
      have hS4 := HS.out.only hpw hbw hC4 hO4
      clear b0 b1 b2 z0 z1 z2 bl r0 r1 r2 y0 y1 y2 rl
      obtain ⟨b0, b1, b2, z0, z1, z2, bl⟩ := hS4.box.facts
      obtain ⟨r0, r1, r2, y0, y1, y2, rl⟩ := hS4.res.facts
      have HS4 : Hid (OpSt w p a n c b w4 kind 0 0) := hS4
      clear hS4 hC4 hO4
      go_wp2_with fail
      refine (l4Val_is kind _).mono ?_
      rintro e w8 ⟨rfl, rfl⟩
      obtain ⟨bv, hbv⟩ : ∃ b, decide (kind = 1 ∨ kind = 2 ∨ kind = 5 ∨ kind = 10) = b := ⟨_, rfl⟩
      rw [hbv]
      have HBV : Hid (decide (kind = 1 ∨ kind = 2 ∨ kind = 5 ∨ kind = 10) = bv) := hbv
      clear hbv
      cases bv
      · go_wp2
        have E := (HS4.out.put1 hpw hbw (x4 : Int)).fin hpw kind (x4 : Int) 0
        obtain ⟨q0, q1, q2, _⟩ := E.1.facts
        (try simp only [Exit.inBlock, Exit.then])
        refine bodyPost_ret (by simp [results, Tryz.results14, go_sem, q0, q1, q2]; try rfl) rfl ?_
        exact ⟨_, _, _, rfl, opGood_cnt H6.out hx4 HBV.out, E.2.1, E.2.2⟩
      · go_wp2_with fail
        refine (l1Below_any p a n c 4 (by omega) (by omega) _ (HS4.out.put1 hpw hbw (x4 : Int)).cur).mono ?_
        rintro e w9 ⟨y, hy, rfl, hC9, hO9⟩
        have hS9 := (HS4.out.put1 hpw hbw (x4 : Int)).only hpw hbw hC9 hO9
        clear b0 b1 b2 z0 z1 z2 bl r0 r1 r2 y0 y1 y2 rl
        obtain ⟨b0, b1, b2, z0, z1, z2, bl⟩ := hS9.box.facts
        obtain ⟨r0, r1, r2, y0, y1, y2, rl⟩ := hS9.res.facts
        have HS9 : Hid (OpSt w p a n c b w9 kind (x4 : Int) 0) := hS9
        clear hS9 hC9 hO9
        go_wp2
        have E := (HS9.out.put2 hpw hbw (1 + (y : Int))).fin hpw kind (x4 : Int) (1 + (y : Int))
        obtain ⟨q0, q1, q2, _⟩ := E.1.facts
        (try simp only [Exit.inBlock, Exit.then])
        refine bodyPost_ret (by simp [results, Tryz.results14, go_sem, q0, q1, q2]; try rfl) rfl ?_
        exact absurd HBV.out (by rw [H6.out]; decide)
    · have H6 : Hid (¬ kind = 6) := h6
      clear h6
      go_wp2_with fail
      refine (l4Val_is kind _).mono ?_
      rintro e w8 ⟨rfl, rfl⟩
      obtain ⟨bv, hbv⟩ : ∃ b, decide (kind = 1 ∨ kind = 2 ∨ kind = 5 ∨ kind = 10) = b := ⟨_, rfl⟩
      rw [hbv]
      have HBV : Hid (decide (kind = 1 ∨ kind = 2 ∨ kind = 5 ∨ kind = 10) = bv) := hbv
      clear hbv
      cases bv
      · go_wp2
        have E := HS.out.fin hpw kind 0 0
        obtain ⟨q0, q1, q2, _⟩ := E.1.facts
        (try simp only [Exit.inBlock, Exit.then])
        refine bodyPost_ret (by simp [results, Tryz.results14, go_sem, q0, q1, q2]; try rfl) rfl ?_
        exact ⟨_, _, _, rfl, opGood_no HKD.out HBV.out, E.2.1, E.2.2⟩
      · go_wp2_with fail
        refine (l1Below_any p a n c 4 (by omega) (by omega) _ HS.out.cur).mono ?_
        rintro e w9 ⟨y, hy, rfl, hC9, hO9⟩
        have hS9 := HS.out.only hpw hbw hC9 hO9
        clear b0 b1 b2 z0 z1 z2 bl r0 r1 r2 y0 y1 y2 rl
        obtain ⟨b0, b1, b2, z0, z1, z2, bl⟩ := hS9.box.facts
        obtain ⟨r0, r1, r2, y0, y1, y2, rl⟩ := hS9.res.facts
        have HS9 : Hid (OpSt w p a n c b w9 kind 0 0) := hS9
        clear hS9 hC9 hO9
        go_wp2
        have E := (HS9.out.put2 hpw hbw (1 + (y : Int))).fin hpw kind 0 (1 + (y : Int))
        obtain ⟨q0, q1, q2, _⟩ := E.1.facts
        (try simp only [Exit.inBlock, Exit.then])
        refine bodyPost_ret (by simp [results, Tryz.results14, go_sem, q0, q1, q2]; try rfl) rfl ?_
        exact ⟨_, _, _, rfl, opGood_val HKD.out hy HBV.out, E.2.1, E.2.2⟩
end Go.Proofs.YtenlapppaimkkaeGreatDoor
