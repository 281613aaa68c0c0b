/- Texts joined: Far, OpM, AllowM, KeyOk, SpecOp, ResV, AfterD, DrawRows, DrawOps, ImplHow, AfterOk, DrawRight. -/
import Derived.Test.YtfanppifelajnaaDoorRows
import Derived.WalkKit
import Derived.ProofKit
import Derived.Below
import Derived.Maps.AppendAt
import Derived.OwnWalk
import Derived.Test.YtfanppifelajnaaDoorTB01
import Derived.Test.YtfanppifelajnaaDoorTB02
import Derived.Test.YtfanppifelajnaaDoorTB03
import Derived.Handy
import Derived.Test.YtfanppifelajnaaDoorTB04
import Derived.Deep.RegionHeld3
set_option maxHeartbeats 1000000
set_option maxRecDepth 100000
namespace Go.Proofs.YtfanppifelajnaaDoor
section
open Go.ChangeShapes Go.WideShapes Go.ChangeAt Go.RowKit
theorem far_below {w w' : World} (h : Below w.heap.size w w') (row : Option Nat) : w.grownBy w' row := ⟨h.os, h.tape, h.output, h.size, fun k hk _ => h.block k hk⟩
theorem far_below_of {w0 w w' : World} {row : Option Nat} (h0 : w0.grownBy w row) (h : Below w.heap.size w w') : w0.grownBy w' row := h0.trans (far_below h row)
theorem far_set {w0 w : World} {row : Option Nat} (h : w0.grownBy w row) {a : Addr} (ha : w0.heap.size ≤ a.block) (v : Value) : w0.grownBy (w.setCell a v) row :=
 ⟨h.os, h.tape, h.output, by simpa [World.setCell] using h.size, fun k hk hr => by rw [Below.heap_setCell _ _ _ _ (fun e => by omega)]; exact h.block k hk hr⟩
theorem far_cell {w w' : World} {p g o : Nat} {v : Value} (h : w.grownBy w' (some p)) (hv : w.cell? ⟨g, o, none⟩ = some v) (hg : g ≠ p) : w'.cell? ⟨g, o, none⟩ = some v := h.cell hv (by simpa using hg)
end
def KeyGood (kind k : Int) : Prop := (kind ≤ 4 ∧ 0 ≤ k ∧ k ≤ 3) ∨ (kind = 6 ∧ 0 ≤ k ∧ k ≤ 2) ∨ (4 < kind ∧ kind ≠ 6 ∧ k = 0)
def ValGood (kind v : Int) : Prop := ((kind = 1 ∨ kind = 2 ∨ kind = 5 ∨ kind = 10) ∧ 1 ≤ v ∧ v ≤ 6) ∨ (¬ (kind = 1 ∨ kind = 2 ∨ kind = 5 ∨ kind = 10) ∧ v = 0)
def OpGood (kind k v : Int) : Prop := (1 ≤ kind ∧ kind ≤ 10) ∧ KeyGood kind k ∧ ValGood kind v
instance (kind k : Int) : Decidable (KeyGood kind k) := by unfold KeyGood; infer_instance
instance (kind v : Int) : Decidable (ValGood kind v) := by unfold ValGood; infer_instance
instance (kind k v : Int) : Decidable (OpGood kind k v) := by unfold OpGood; infer_instance
abbrev OpV (kind k v : Int) : Value := .agg #[.int .i64 kind, .int .i64 k, .int .i64 v]
def keyN (xs : List Int) (v : Int) : Int :=
 if xs.getD 0 0 = v then 0 else if xs.getD 1 0 = v then 1 else if xs.getD 2 0 = v then 2 else if xs.getD 3 0 = v then 3 else -1
theorem keyN_is (xs : List Int) (v : Int) : KeyIs xs 4 v (keyN xs v) := by
 unfold keyN
 split
 · exact .inr ⟨0, by omega, rfl, by assumption, fun j hj => by omega⟩
 split
 · exact .inr ⟨1, by omega, rfl, by assumption, fun j hj => by obtain rfl : j = 0 := by omega
                                                               assumption⟩
 split
 · exact .inr ⟨2, by omega, rfl, by assumption, fun j hj => by rcases (show j = 0 ∨ j = 1 by omega) with rfl | rfl <;> assumption⟩
 split
 · exact .inr ⟨3, by omega, rfl, by assumption, fun j hj => by rcases (show j = 0 ∨ j = 1 ∨ j = 2 by omega) with rfl | rfl | rfl <;> assumption⟩
 · exact .inl ⟨rfl, fun j hj => by rcases (show j = 0 ∨ j = 1 ∨ j = 2 ∨ j = 3 by omega) with rfl | rfl | rfl | rfl <;> assumption⟩
theorem KeyIs.keyN {xs : List Int} {v r : Int} (h : KeyIs xs 4 v r) : r = keyN xs v := h.one (keyN_is xs v)
abbrev atK (xs : List Int) (k : Int) : Int := xs.getD k.toNat 0
def FailsM (xs : List Int) (st kind k v code : Int) : Prop :=
 (code = 1 ∧ kind = 1 ∧ atK xs k ≠ 0) ∨ (code = 2 ∧ (kind = 1 ∨ kind = 2) ∧ 0 ≤ keyN xs v)
 ∨ (code = 3 ∧ (((kind = 2 ∨ kind = 3 ∨ kind = 4) ∧ atK xs k = 0) ∨ (kind = 5 ∧ keyN xs v < 0) ∨ (kind = 10 ∧ st = 5 ∧ keyN xs v < 0)))
 ∨ (code = 4 ∧ ((kind = 8 ∧ st ≠ 0) ∨ (kind = 9 ∧ (st = 0 ∨ st = 5)) ∨ (kind = 10 ∧ st ≠ 5)))
def DoneM (xs : List Int) (st kind k v : Int) : Prop :=
 (kind = 1 ∧ atK xs k = 0 ∧ keyN xs v < 0) ∨ (kind = 2 ∧ atK xs k ≠ 0 ∧ (keyN xs v < 0 ∨ keyN xs v = k)) ∨ (kind = 3 ∧ atK xs k ≠ 0) ∨ (kind = 4 ∧ atK xs k ≠ 0)
 ∨ (kind = 5 ∧ 0 ≤ keyN xs v) ∨ kind = 6 ∨ kind = 7 ∨ (kind = 8 ∧ st = 0) ∨ (kind = 9 ∧ 1 ≤ st ∧ st ≤ 4) ∨ (kind = 10 ∧ st = 5 ∧ 0 ≤ keyN xs v)
def listM (xs : List Int) (kind k v : Int) : List Int :=
 if kind = 4 then [atK xs k] else if kind = 5 ∨ kind = 10 then [keyN xs v] else if kind = 6 then [cntK xs k 4] else if kind = 7 then xs else []
def AllowM (xs : List Int) (st kind k v code : Int) (ys : List Int) : Prop :=
 OkRows xs st ∧ OpGood kind k v ∧ ((code ≠ 0 ∧ ys = [] ∧ FailsM xs st kind k v code) ∨ (code = 0 ∧ DoneM xs st kind k v ∧ listM xs kind k v = ys))
def AfterM (xs : List Int) (st kind k v code : Int) (ys zs : List Int) (st' : Int) : Prop :=
 (AllowM xs st kind k v code ys ∧ code = 0 ∧ (((kind = 1 ∨ kind = 2) ∧ zs = xs.set k.toNat v ∧ st' = st) ∨ (kind = 3 ∧ zs = xs.set k.toNat 0 ∧ st' = st)
   ∨ ((kind = 8 ∨ kind = 9) ∧ zs = xs ∧ st' = st + 1) ∨ ((4 ≤ kind ∧ kind ≤ 7 ∨ kind = 10) ∧ zs = xs ∧ st' = st)))
 ∨ (¬ (AllowM xs st kind k v code ys ∧ code = 0) ∧ zs = xs ∧ st' = st)
theorem AfterM.one {xs : List Int} {st kind k v code : Int} {ys zs zs2 : List Int} {s1 s2 : Int} (h : AfterM xs st kind k v code ys zs s1) (g : AfterM xs st kind k v code ys zs2 s2) : zs = zs2 ∧ s1 = s2 := by
 rcases h with ⟨ha, hc, h⟩ | ⟨hn, h1, h2⟩
 · rcases g with ⟨_, _, g⟩ | ⟨gn, _⟩
   · rcases h with ⟨h0, rfl, rfl⟩ | ⟨h0, rfl, rfl⟩ | ⟨h0, rfl, rfl⟩ | ⟨h0, rfl, rfl⟩ <;> rcases g with ⟨g0, rfl, rfl⟩ | ⟨g0, rfl, rfl⟩ | ⟨g0, rfl, rfl⟩ | ⟨g0, rfl, rfl⟩ <;> first | exact ⟨rfl, rfl⟩ | (exfalso; omega)
   · exact absurd ⟨ha, hc⟩ gn
 · rcases g with ⟨ga, gc, _⟩ | ⟨_, g1, g2⟩
   · exact absurd ⟨ga, gc⟩ hn
   · exact ⟨h1.trans g1.symm, h2.trans g2.symm⟩
instance (xs : List Int) (st kind k v code : Int) : Decidable (FailsM xs st kind k v code) := by unfold FailsM; infer_instance
instance (xs : List Int) (st kind k v : Int) : Decidable (DoneM xs st kind k v) := by unfold DoneM; infer_instance
section
open Go.ChangeShapes Go.WideShapes Go.ChangeAt Go.RowKit


end
abbrev ResV (code : Int) (a : Option Addr) (n c : Nat) : Value := .agg #[.int .i64 code, .slice a n c]
section
open Go.ChangeShapes Go.WideShapes Go.ChangeAt Go.RowKit
def DoneSays (e : Ending) (w' : World) (zs : List Int) (b : Bool) : Prop := ∃ (a' : Option Addr) (c' : Nat), e = .returned (.tuple #[.slice a' zs.length c', .bool b]) ∧ IntAt w' a' zs.length zs
def Args (w : World) (ra oa sa : Array Value) (wr : World) : Prop :=
 (∀ i u, ra[i]? = some u → wr.cell? ⟨w.heap.size, i, none⟩ = some u) ∧ (∀ i u, oa[i]? = some u → wr.cell? ⟨w.heap.size + 1, i, none⟩ = some u) ∧ (∀ i u, sa[i]? = some u → wr.cell? ⟨w.heap.size + 1 + 1, i, none⟩ = some u)
def Four (w : World) (ra oa sa va : Array Value) (wr : World) : Prop :=
 (∀ i u, ra[i]? = some u → wr.cell? ⟨w.heap.size, i, none⟩ = some u) ∧ (∀ i u, oa[i]? = some u → wr.cell? ⟨w.heap.size + 1, i, none⟩ = some u) ∧ (∀ i u, sa[i]? = some u → wr.cell? ⟨w.heap.size + 1 + 1, i, none⟩ = some u)
   ∧ (∀ i u, va[i]? = some u → wr.cell? ⟨w.heap.size + 1 + 1 + 1, i, none⟩ = some u) ∧ (∀ i, wr.frozen? ⟨w.heap.size + 1 + 1 + 1, i, none⟩ = false)
def AfterSays (e : Ending) (w w' : World) (n : Nat) (A : List Int → Int → Prop) : Prop :=
 ∃ (zs : List Int) (st' : Int) (a' : Option Addr) (c' : Nat), e = .returned (.agg #[.slice a' n c', .int .i64 st']) ∧ A zs st' ∧ w'.ownsRow w.heap.size 3 1 (.slice a' n c') n (zs.map I)
theorem far_only {p : Nat} {w w' : World} (h : Only p w w') : w.grownBy w' (some p) := ⟨h.os, h.tape, h.output, Nat.le_of_eq h.size.symm, fun k _ hk => h.block k (fun e => hk (by rw [e]))⟩
theorem cur_below {T : TypeId} {w w' : World} {p : Nat} {a : Option Addr} {n c : Nat} (h : Cur T w p a n c) (hb : Below w.heap.size w w') : Cur T w' p a n c :=
 h.keep fun k hk => hb.block k (Nat.lt_of_le_of_lt hk h.lt)
theorem cur_set {T : TypeId} {w : World} {p : Nat} {a : Option Addr} {n c : Nat} (h : Cur T w p a n c) {q : Addr} (hq : p < q.block) (v : Value) : Cur T (w.setCell q v) p a n c :=
 h.keep fun k hk => Below.heap_setCell _ _ _ _ (fun e => by omega)
theorem cur_alloc {T : TypeId} {w : World} {p : Nat} {a : Option Addr} {n c : Nat} (h : Cur T w p a n c) (o : Obj) : Cur T (w.alloc o) p a n c := cur_below h ((Below.refl _ w).alloc (Nat.le_refl _) o)
theorem own_only {p : Nat} {w w' : World} {base : Nat} {e : TypeId} {size : Nat} {v : Value} {n : Nat} {xs : List Value} (ho : w.ownsRow base e size v n xs) (h : w.grownBy w' (some p)) (hp : p < base) : w'.ownsRow base e size v n xs := by
 obtain ⟨h1, h2 | ⟨g, cap, cur, h3, h4, h5, h6⟩⟩ := ho
 · exact ⟨h1, .inl h2⟩
 · exact ⟨h1, .inr ⟨g, cap, cur, h3, h4, by rw [h.block g (Array.getElem?_eq_some_iff.1 h5).1 (by simp; omega)]; exact h5, h6⟩⟩
def Small (xs : List Int) : Prop := ∀ x ∈ xs, -1 ≤ x ∧ x ≤ 7
theorem Small.wf {xs : List Int} (h : Small xs) : ∀ x ∈ xs, (Lit.int .i64 x).wf = true := fun x hx => WalkArith.wf_i64 (by have := h x hx; omega)
theorem Small.set {xs : List Int} (h : Small xs) (k : Nat) {v : Int} (hv : -1 ≤ v ∧ v ≤ 7) : Small (xs.set k v) := fun x hx => by
 rcases List.mem_or_eq_of_mem_set hx with h1 | rfl
 · exact h x h1
 · exact hv
theorem grown_box2 {w w1 : World} {u v : Value} {t : TypeId} (h : (w.alloc (.cells #[u, v] t)).grownBy w1 none) : w1.cell? ⟨w.heap.size, 0, none⟩ = some u ∧ w1.cell? ⟨w.heap.size, 1, none⟩ = some v ∧ w1.frozen? ⟨w.heap.size, 0, none⟩ = false ∧ w1.frozen? ⟨w.heap.size, 1, none⟩ = false ∧ Below w.heap.size w w1 := by
 have hb : Below (w.heap.size + 1) (w.alloc (.cells #[u, v] t)) w1 := (Below.refl _ _).grown h (by simp) (fun k e => by cases e)
 exact ⟨by rw [hb.cell (by simp)]; simp, by rw [hb.cell (by simp)]; simp, by rw [hb.frozen (by simp)]; simp, by rw [hb.frozen (by simp)]; simp, ((Below.refl _ w).alloc (Nat.le_refl _) _).trans (hb.mono (Nat.le_succ _))⟩
theorem specRowsNew_own (w : World) :
   Calls Tryd.prog 56 #[] w fun e w' => e = .returned (.agg #[.slice (some ⟨w.heap.size + 1, 0, none⟩) 4 4, .int .i64 0]) ∧ w'.ownsRow (w.heap.size + 1) 3 1 (.slice (some ⟨w.heap.size + 1, 0, none⟩) 4 4) 4 (([0, 0, 0, 0] : List Int).map I) ∧ Below w.heap.size w w' := by
 obtain ⟨i0, hi, hz0, hz1, hz2⟩ := info_parts infoInt
 go_enter Tryd.func56, Tryd.ntmps56
 go_wp2_with (first | (at_make; refine wpList_make_full _ rfl _ _ 24 rfl (w.heap.size + 1) 3 i0 (.int .i64 0) 1 Tryd.underlying24 hi hz0 hz1 .i64 .i64 _ _ 4 rfl rfl rfl rfl (by rw [hz2]; omega) (by unfold maxLen; omega) (by simp) ?_; intro w1 own1 grow1; obtain ⟨c0, c1, f0, f1, hb1⟩ := grown_box2 grow1) | fail)
 (try simp only [Exit.inBlock, Exit.then])
 refine bodyPost_ret (by simp [results, Tryd.results56, go_sem, c0, c1]; try rfl) rfl ?_
 rw [show (madeCells (Value.int .i64 0).cells (4 * 1)).toList = (([0, 0, 0, 0] : List Int).map I) from (toList_madeCells_one _ _).trans rfl] at own1
 simp only [World.size_alloc] at own1
 refine ⟨rfl, ownsRow_setCell_below (ownsRow_setCell_below own1 (Nat.lt_succ_self _) _) (Nat.lt_succ_self _) _, (hb1.setCell (Nat.le_refl _) _).setCell (Nat.le_refl _) _⟩
theorem stored_box2 {w : World} {b : Nat} {u0 u1 : Value} (h0 : w.cell? ⟨b, 0, none⟩ = some u0) (h1 : w.cell? ⟨b, 1, none⟩ = some u1) (x y : Value) :
   ((w.setCell ⟨b, 0, none⟩ x).setCell ⟨b, 1, none⟩ y).cell? ⟨b, 0, none⟩ = some x ∧ ((w.setCell ⟨b, 0, none⟩ x).setCell ⟨b, 1, none⟩ y).cell? ⟨b, 1, none⟩ = some y := by
 refine ⟨?_, ?_⟩
 · rw [World.cell?_setCell_other _ _ _ _ (fun e => by cases e), World.cell?_setCell_same _ _ _ h0]
 · refine World.cell?_setCell_same _ _ _ (u := u1) ?_
   rw [World.cell?_setCell_other _ _ _ _ (fun e => by cases e)]
   exact h1
def RBox (w : World) (b : Nat) (a : Option Addr) (n c : Nat) (st : Int) : Prop := w.heap[b]? = some (.cells #[.slice a n c, .int .i64 st] 32)
theorem RBox.facts {w : World} {b n c : Nat} {a : Option Addr} {st : Int} (h : RBox w b a n c st) : w.cell? ⟨b, 0, none⟩ = some (.slice a n c) ∧ w.cell? ⟨b, 1, none⟩ = some (.int .i64 st) ∧ w.frozen? ⟨b, 0, none⟩ = false ∧ w.frozen? ⟨b, 1, none⟩ = false ∧ b < w.heap.size := by
 unfold RBox at h
 exact ⟨by simp [World.cell?, h], by simp [World.cell?, h], by simp [World.frozen?, h], by simp [World.frozen?, h], (Array.getElem?_eq_some_iff.1 h).1⟩
theorem RBox.far {w w' : World} {p b n c : Nat} {a : Option Addr} {st : Int} (h : RBox w b a n c st) (hg : w.grownBy w' (some p)) (hp : b ≠ p) : RBox w' b a n c st := by
 unfold RBox at h ⊢
 rw [hg.block b (Array.getElem?_eq_some_iff.1 h).1 (by simpa using hp)]
 exact h
theorem RBox.set {w : World} {b n c : Nat} {a : Option Addr} {st : Int} (h : RBox w b a n c st) {q : Addr} (hq : b ≠ q.block) (v : Value) : RBox (w.setCell q v) b a n c st := by
 unfold RBox at h ⊢
 rw [Below.heap_setCell _ _ _ _ hq]
 exact h
theorem rbox_new (w : World) (a : Option Addr) (n c : Nat) (st : Int) : RBox (w.alloc (.cells #[.slice a n c, .int .i64 st] 32)) w.heap.size a n c st := by
 show (w.heap.push _)[w.heap.size]? = _
 simp
structure DrawSt (w : World) (p : Nat) (a : Option Addr) (n c g b : Nat) (wr : World) (xs : List Int) (st : Int) : Prop where
 cur : Cur 55 wr p a n c
 far : w.grownBy wr (some p)
 own : wr.ownsRow g 3 1 (.slice (some ⟨g, 0, none⟩) 4 4) 4 (xs.map I)
 small : Small xs
 box : RBox wr b (some ⟨g, 0, none⟩) 4 4 st
 res : RBox wr w.heap.size none 0 0 0
section
variable {w wr wr' : World} {p n c g b : Nat} {a : Option Addr} {xs : List Int} {st : Int}
theorem DrawSt.only (h : DrawSt w p a n c g b wr xs st) (hp : p < w.heap.size) (hg : w.heap.size < g) (hb : g < b) (hC : Cur 55 wr' p a n c) (hO : Only p wr wr') : DrawSt w p a n c g b wr' xs st :=
 ⟨hC, h.far.trans (far_only hO), own_only h.own (far_only hO) (by omega), h.small, h.box.far (far_only hO) (by omega), h.res.far (far_only hO) (by omega)⟩
theorem DrawSt.below (h : DrawSt w p a n c g b wr xs st) (hp : p < w.heap.size) (hg : w.heap.size < g) (hb : g < b) (hB : Below wr.heap.size wr wr') : DrawSt w p a n c g b wr' xs st :=
 ⟨cur_below h.cur hB, far_below_of h.far hB, owns_below h.own hB (Nat.le_refl _), h.small, h.box.far (far_below hB (some p)) (by omega), h.res.far (far_below hB (some p)) (by omega)⟩
theorem DrawSt.store (h : DrawSt w p a n c g b wr xs st) (hp : p < w.heap.size) (hg : w.heap.size < g) (hb : g < b) (k : Nat) {v : Int} (hv : -1 ≤ v ∧ v ≤ 7) : DrawSt w p a n c g b (wr.setCell ⟨g, k, none⟩ (I v)) (xs.set k v) st := by
 refine ⟨cur_set h.cur (show p < g by omega) _, far_set h.far (show w.heap.size ≤ g by omega) _, ?_, h.small.set k hv, h.box.set (show b ≠ g by omega) _, h.res.set (show w.heap.size ≠ g by omega) _⟩
 rw [List.map_set]
 exact (h.own.stored k (I v)).1
theorem DrawSt.at (h : DrawSt w p a n c g b wr xs st) : IntAt wr (some ⟨g, 0, none⟩) 4 xs := own_intAt h.own (by omega)
end
theorem pick5 (x : Nat) (_ : x < 5) : 0 ≤ ([0, 0, 1, 3, 5] : List Int).getD x 0 ∧ ([0, 0, 1, 3, 5] : List Int).getD x 0 ≤ 5 := by
 rcases x with _ | _ | _ | _ | _ | x <;> first | decide | omega
theorem IntAt.far {w w' : World} {p g o m : Nat} {xs : List Int} (h : IntAt w (some ⟨g, o, none⟩) m xs) (hg : w.grownBy w' (some p)) (hp : g ≠ p) : IntAt w' (some ⟨g, o, none⟩) m xs :=
 ⟨h.1, h.2.1, .inr ⟨g, o, rfl, fun i hi => far_cell hg (h.cells i hi) hp⟩⟩
theorem IntAt.two {w : World} {g : Nat} {xs : List Int} (h : IntAt w (some ⟨g, 0, none⟩) 4 xs) : IntAt w (some ⟨g, 0, none⟩) 2 (xs.take 2) := by
 have hl := h.1
 refine ⟨by simp; omega, by omega, .inr ⟨g, 0, rfl, fun i hi => ?_⟩⟩
 have h1 := h.cells i (by omega)
 rw [h1, List.getD_eq_getElem?_getD, List.getD_eq_getElem?_getD, List.getElem?_take_of_lt hi]
theorem Small.take {xs : List Int} (h : Small xs) (k : Nat) : Small (xs.take k) := fun x hx => h x (List.mem_of_mem_take hx)
def RowsDrawn (w w' : World) (v : Value) (xs : List Int) : Prop :=
 ∃ (g m : Nat) (st : Int), v = .agg #[.slice (some ⟨g, 0, none⟩) m 4, .int .i64 st] ∧ w.heap.size < g ∧ (m = 4 ∨ m = 2) ∧ IntAt w' (some ⟨g, 0, none⟩) m xs ∧ Small xs ∧ (-1 ≤ st ∧ st ≤ 6)
theorem IntAt.set_far {w : World} {g o m : Nat} {xs : List Int} (h : IntAt w (some ⟨g, o, none⟩) m xs) {q : Addr} (hq : q.block ≠ g) (v : Value) : IntAt (w.setCell q v) (some ⟨g, o, none⟩) m xs :=
 ⟨h.1, h.2.1, .inr ⟨g, o, rfl, fun i hi => by rw [World.cell?_setCell_far _ _ _ _ hq]; exact h.cells i hi⟩⟩
structure DrawEnd (w : World) (p : Nat) (a : Option Addr) (n c g : Nat) (wr : World) (xs : List Int) : Prop where
 cur : Cur 55 wr p a n c
 far : w.grownBy wr (some p)
 here : IntAt wr (some ⟨g, 0, none⟩) 4 xs
 small : Small xs
 res : RBox wr w.heap.size none 0 0 0
theorem DrawEnd.set {w wr : World} {p n c g : Nat} {a : Option Addr} {xs : List Int} (h : DrawEnd w p a n c g wr xs) (hp : p < w.heap.size) {q : Addr} (hq : q.block ≠ g) (hw : w.heap.size < q.block) (v : Value) : DrawEnd w p a n c g (wr.setCell q v) xs :=
 ⟨cur_set h.cur (by omega) _, far_set h.far (by omega) _, h.here.set_far hq _, h.small, h.res.set (by omega) _⟩
section
variable {w wr wr' : World} {p n c b : Nat} {a : Option Addr} {kind k v : Int}
end
end
section
open Go.ChangeShapes Go.WideShapes Go.ChangeAt Go.RowKit Go.Maps
theorem posK_four (xs : List Int) (v : Int) : posK xs 4 v = (if xs.getD 0 0 = v then [0] else []) ++ (if xs.getD 1 0 = v then [1] else []) ++ (if xs.getD 2 0 = v then [2] else []) ++ (if xs.getD 3 0 = v then [3] else []) := by
 have h : ∀ k : Nat, posK xs (k + 1) v = posK xs k v ++ (if xs.getD k 0 = v then [(k : Int)] else []) := fun k => by
   split
   · exact posK_same (by assumption)
   · rw [posK_other (by assumption), List.append_nil]
 rw [h 3, h 2, h 1, h 0, posK_zero]
 rfl
theorem posK_len (xs : List Int) (v : Int) : ((posK xs 4 v).length : Int) = (if xs.getD 0 0 = v then 1 else 0) + (if xs.getD 1 0 = v then 1 else 0) + (if xs.getD 2 0 = v then 1 else 0) + (if xs.getD 3 0 = v then 1 else 0) := by
 rw [posK_four]
 split <;> split <;> split <;> split <;> rfl
def mkH (left : Lit → Bool) (x : Int) : Int := if left (.int .i64 x) = true then 0 else x
def cntH (xs : List Int) (left : Lit → Bool) (c : Int) : Int := bitW (mkH left (xs.getD 0 0)) c + bitW (mkH left (xs.getD 1 0)) c + bitW (mkH left (xs.getD 2 0)) c + bitW (mkH left (xs.getD 3 0)) c
end
def OkFour (y0 y1 y2 y3 : Int) : Prop :=
 (y0 = 0 ∨ (1 ≤ y0 ∧ y0 ≤ 6)) ∧ (y1 = 0 ∨ (1 ≤ y1 ∧ y1 ≤ 6)) ∧ (y2 = 0 ∨ (1 ≤ y2 ∧ y2 ≤ 6)) ∧ (y3 = 0 ∨ (1 ≤ y3 ∧ y3 ≤ 6))
 ∧ (y0 = 0 ∨ (y0 ≠ y1 ∧ y0 ≠ y2 ∧ y0 ≠ y3)) ∧ (y1 = 0 ∨ (y1 ≠ y2 ∧ y1 ≠ y3)) ∧ (y2 = 0 ∨ y2 ≠ y3)
theorem good_len {xs : List Int} {x : Int} (h : Good xs x) : (1 ≤ x ∧ x ≤ 6) ∧ (if xs.getD 0 0 = x then 1 else 0) + (if xs.getD 1 0 = x then 1 else 0) + (if xs.getD 2 0 = x then 1 else 0) + (if xs.getD 3 0 = x then 1 else 0) ≤ (1 : Int) := by
 have h2 := h.2
 rw [← posK_len]
 exact ⟨h.1, by omega⟩
theorem posK_ne {xs : List Int} {x : Int} (h : xs.getD 0 0 = x ∨ xs.getD 1 0 = x ∨ xs.getD 2 0 = x ∨ xs.getD 3 0 = x) : posK xs 4 x ≠ [] := by
 intro e
 have hl := posK_len xs x
 rw [e] at hl
 simp only [List.length_nil] at hl
 rcases h with h | h | h | h <;> simp only [h, if_true] at hl <;> (repeat' split at hl) <;> omega
theorem okFour_iff (y0 y1 y2 y3 st : Int) : OkRows [y0, y1, y2, y3] st ↔ ((0 ≤ st ∧ st ≤ 5) ∧ OkFour y0 y1 y2 y3) := by
 constructor
 · rintro ⟨_, h0, h1, h⟩
   refine ⟨⟨h0, h1⟩, ?_⟩
   have g : ∀ x, x ≠ 0 → (y0 = x ∨ y1 = x ∨ y2 = x ∨ y3 = x) → (1 ≤ x ∧ x ≤ 6) ∧ (if y0 = x then 1 else 0) + (if y1 = x then 1 else 0) + (if y2 = x then 1 else 0) + (if y3 = x then 1 else 0) ≤ (1 : Int) := fun x hx hh => good_len (h x hx (posK_ne (by simpa using hh)))
   have g0 := g y0
   have g1 := g y1
   have g2 := g y2
   have g3 := g y3
   unfold OkFour
   clear g h
   simp only [true_or, or_true, if_true, forall_const] at g0 g1 g2 g3
   refine ⟨?_, ?_, ?_, ?_, ?_, ?_, ?_⟩
   · rcases Decidable.em (y0 = 0) with e | e
     · exact .inl e
     · exact .inr (g0 e).1
   · rcases Decidable.em (y1 = 0) with e | e
     · exact .inl e
     · exact .inr (g1 e).1
   · rcases Decidable.em (y2 = 0) with e | e
     · exact .inl e
     · exact .inr (g2 e).1
   · rcases Decidable.em (y3 = 0) with e | e
     · exact .inl e
     · exact .inr (g3 e).1
   · rcases Decidable.em (y0 = 0) with e | e
     · exact .inl e
     · have q := (g0 e).2
       refine .inr ⟨?_, ?_, ?_⟩ <;> (intro e2; simp only [← e2, if_true] at q; (repeat' split at q) <;> omega)
   · rcases Decidable.em (y1 = 0) with e | e
     · exact .inl e
     · have q := (g1 e).2
       refine .inr ⟨?_, ?_⟩ <;> (intro e2; simp only [← e2, if_true] at q; (repeat' split at q) <;> omega)
   · rcases Decidable.em (y2 = 0) with e | e
     · exact .inl e
     · have q := (g2 e).2
       refine .inr ?_
       intro e2; simp only [← e2, if_true] at q; (repeat' split at q) <;> omega
 · rintro ⟨⟨h0, h1⟩, h⟩
   refine ⟨rfl, h0, h1, fun x hx hp => ?_⟩
   unfold OkFour at h
   have hmem : y0 = x ∨ y1 = x ∨ y2 = x ∨ y3 = x := by
     rcases Decidable.em (y0 = x ∨ y1 = x ∨ y2 = x ∨ y3 = x) with e | e
     · exact e
     · exfalso
       apply hp
       rw [posK_four]
       simp only [not_or] at e
       simp [e]
   refine ⟨by omega, ?_⟩
   have hl := posK_len [y0, y1, y2, y3] x
   simp only [List.getD_cons_zero, List.getD_cons_succ] at hl
   have : ((posK [y0, y1, y2, y3] 4 x).length : Int) ≤ 1 := by
     rw [hl]
     (repeat' split) <;> omega
   omega
section
open Go.ChangeShapes Go.WideShapes Go.ChangeAt Go.RowKit
def OkTo (xs : List Int) (k : Nat) : Prop := ∃ y0 y1 y2 y3 : Int, xs = [y0, y1, y2, y3] ∧ OkFour y0 y1 y2 y3 ∧ (k ≤ 0 → y0 = 0) ∧ (k ≤ 1 → y1 = 0) ∧ (k ≤ 2 → y2 = 0) ∧ (k ≤ 3 → y3 = 0)
theorem okTo_zero : OkTo [0, 0, 0, 0] 0 := ⟨0, 0, 0, 0, rfl, by unfold OkFour; omega, fun _ => rfl, fun _ => rfl, fun _ => rfl, fun _ => rfl⟩
theorem okTo_step {xs : List Int} {k : Nat} (h : OkTo xs k) : OkTo xs (k + 1) := by
 obtain ⟨y0, y1, y2, y3, e, h, h0, h1, h2, h3⟩ := h
 exact ⟨y0, y1, y2, y3, e, h, fun _ => by omega, fun _ => h1 (by omega), fun _ => h2 (by omega), fun _ => h3 (by omega)⟩
theorem KeyIs.none {xs : List Int} {n : Nat} {v r : Int} (h : KeyIs xs n v r) (hr : r < 0) : ∀ i, i < n → xs.getD i 0 ≠ v := by
 rcases h with ⟨_, h⟩ | ⟨i, _, rfl, _⟩
 · exact h
 · omega
theorem okTo_set {xs : List Int} {k x : Nat} (h : OkTo xs k) (hk : k < 4) (hx : (x : Int) < 7) (hn : ∀ i, i < 4 → xs.getD i 0 ≠ (x : Int)) : OkTo (xs.set k (x : Int)) (k + 1) := by
 obtain ⟨y0, y1, y2, y3, rfl, h, h0, h1, h2, h3⟩ := h
 have n0 := hn 0 (by omega)
 have n1 := hn 1 (by omega)
 have n2 := hn 2 (by omega)
 have n3 := hn 3 (by omega)
 simp only [List.getD_cons_zero, List.getD_cons_succ] at n0 n1 n2 n3
 unfold OkFour at h
 rcases k with _ | _ | _ | _ | k
 · refine ⟨(x : Int), y1, y2, y3, rfl, ?_, fun h => by omega, fun _ => h1 (by omega), fun _ => h2 (by omega), fun _ => h3 (by omega)⟩; unfold OkFour; omega
 · refine ⟨y0, (x : Int), y2, y3, rfl, ?_, fun h => by omega, fun h => by omega, fun _ => h2 (by omega), fun _ => h3 (by omega)⟩; unfold OkFour; omega
 · refine ⟨y0, y1, (x : Int), y3, rfl, ?_, fun h => by omega, fun h => by omega, fun h => by omega, fun _ => h3 (by omega)⟩; unfold OkFour; omega
 · refine ⟨y0, y1, y2, (x : Int), rfl, ?_, fun h => by omega, fun h => by omega, fun h => by omega, fun h => by omega⟩; unfold OkFour; omega
 · omega
theorem okTo_rows {xs : List Int} {k : Nat} {st : Int} (h : OkTo xs k) (hs : 0 ≤ st ∧ st ≤ 5) : OkRows xs st := by
 obtain ⟨y0, y1, y2, y3, rfl, h, _⟩ := h
 exact (okFour_iff y0 y1 y2 y3 st).2 ⟨hs, h⟩
theorem l3DrawRight_ok (p : Nat) (a : Option Addr) (n c : Nat) (w : World) (hC : Cur 55 w p a n c) :
   Calls Tryd.prog 44 #[.pointer (some ⟨p, 0, none⟩)] w fun e w' => ∃ (g : Nat) (xs : List Int) (st : Int), e = .returned (.agg #[.slice (some ⟨g, 0, none⟩) 4 4, .int .i64 st]) ∧ w.heap.size < g ∧ w'.ownsRow g 3 1 (.slice (some ⟨g, 0, none⟩) 4 4) 4 (xs.map I) ∧ OkRows xs st ∧ Cur 55 w' p a n c ∧ w.grownBy w' (some p) := by
 have HC : Hid (Cur 55 w p a n c) := hC
 have hpw := hC.lt
 clear hC
 go_enter Tryd.func44, Tryd.ntmps44
 go_wp2_with fail
 refine (specRowsNew_own _).mono ?_
 rintro e w1 ⟨rfl, own1, hb1⟩
 simp only [World.size_alloc] at own1 hb1
 have hs1 : w.heap.size + 1 + 1 < w1.heap.size := (own1.lt _ rfl).2
 have hbw : Below w.heap.size w w1 := ((Below.refl _ w).alloc (Nat.le_refl _) _).trans (hb1.mono (by omega))
 have S0 : DrawSt w p a n c (w.heap.size + 1 + 1) w1.heap.size (w1.alloc (.cells #[.slice (some ⟨w.heap.size + 1 + 1, 0, none⟩) 4 4, .int .i64 0] 32)) [0, 0, 0, 0] 0 :=
   ⟨cur_alloc (cur_below HC.out hbw) _, (far_below hbw _).trans (World.grownBy_alloc _ _ _), own1.alloc _, by intro x hx; simp at hx; omega, rbox_new _ _ _ _ _, ((rbox_new w none 0 0 0).far (p := p) (far_below (hb1.mono (by simp)) _) (by omega)).far (p := p) (World.grownBy_alloc _ _ _) (by omega)⟩
 obtain ⟨g, hg⟩ : ∃ g, g = w.heap.size + 1 + 1 := ⟨_, rfl⟩
 obtain ⟨b, hb⟩ : ∃ b, b = w1.heap.size := ⟨_, rfl⟩
 have HS0 : Hid (DrawSt w p a n c g b (w1.alloc (.cells #[.slice (some ⟨g, 0, none⟩) 4 4, .int .i64 0] 32)) [0, 0, 0, 0] 0) := by rw [hg, hb]; exact S0
 have hgw : w.heap.size < g := by omega
 have hgb : g < b := by omega
 clear S0 own1 hb1 hbw
 go_wp2_with fail
 rw [← hg, ← hb]
 clear hg hb hs1
 go_loopw [4] (fun i wr => ∃ (k : Nat) (xs : List Int), k ≤ 4 ∧ i = .int .i64 k ∧ DrawSt w p a n c g b wr xs 0 ∧ OkTo xs k) (fun i _ => 4 - (intOf i).toNat)
 case atStart => exact ⟨0, _, by omega, rfl, HS0.out, okTo_zero⟩
 case round =>
   obtain ⟨k, xs, hk, rfl, hS, hok⟩ := hrel
   have HO : Hid (OkTo xs k) := hok
   clear hok
   have HS : Hid (DrawSt w p a n c g b wr xs 0) := hS
   clear hS
   by_cases hlt : k < 4
   · have hk0 : (0 : Int) ≤ (k : Int) := by omega
     have hk1 : (k : Int) < 4 := by omega
     go_wp2_with fail
     refine (l1Below_any p a n c 7 (by omega) (by omega) _ HS.out.cur).mono ?_
     rintro e w2 ⟨x, hx, rfl, hC2, hO2⟩
     have hS2 := HS.out.only hpw hgw hgb hC2 hO2
     obtain ⟨b0, b1, _⟩ := hS2.box.facts
     have HS2 : Hid (DrawSt w p a n c g b w2 xs 0) := hS2
     clear hC2 hO2 hS2
     go_wp2_with fail
     refine (specKeyOf_any _ 4 4 0 x xs _ HS2.out.at).mono ?_
     rintro e w3 ⟨⟨r, rfl, hkey⟩, hb3⟩
     have HK : Hid (KeyIs xs 4 (x : Int) r ∧ (x : Int) < 7) := ⟨hkey, hx⟩
     clear hkey
     have hS3 := HS2.out.below hpw hgw hgb hb3
     clear b0 b1
     obtain ⟨b0, b1, _⟩ := hS3.box.facts
     obtain ⟨u0, hu⟩ := own_cell hS3.own hlt
     have hz := hS3.own.frozenAt k
     have HS3 : Hid (DrawSt w p a n c g b w3 xs 0) := hS3
     clear hb3 hS3
     by_cases hr : r < 0
     · go_wp2
       exact ⟨⟨k + 1, _, by omega, by go_num, HS3.out.store hpw hgw hgb k (v := (x : Int)) (by omega), okTo_set HO.out hlt HK.out.2 (HK.out.1.none hr)⟩, by simp [intOf]; omega⟩
     · go_wp2
       exact ⟨⟨k + 1, _, by omega, by go_num, HS3.out, okTo_step HO.out⟩, by simp [intOf]; omega⟩
   · obtain rfl : k = 4 := by omega
     go_wp2_with fail
     have hSa : DrawSt w p a n c g b (wr.alloc (.cells #[.int .i64 0, .int .i64 0, .int .i64 1, .int .i64 3, .int .i64 5] 3)) xs 0 := HS.out.below hpw hgw hgb ((Below.refl _ _).alloc (Nat.le_refl _) _)
     have hpr : p < wr.heap.size := HS.out.cur.lt
     refine (l1PickInt_any p a n c wr.heap.size 5 5 [0, 0, 1, 3, 5] (by omega) (by omega) _ hSa.cur (by omega) (fun i hi => by rcases i with _ | _ | _ | _ | _ | i <;> first | (simp; done) | omega)).mono ?_
     rintro e w2 ⟨x, hx, rfl, hC2, hO2⟩
     have hS2 := hSa.only hpw hgw hgb hC2 hO2
     obtain ⟨b0, b1, z0, z1, bl⟩ := hS2.box.facts
     obtain ⟨r0, r1, y0, y1, rl⟩ := hS2.res.facts
     have hst := pick5 x hx
     obtain ⟨st, hst1⟩ : ∃ st, ([0, 0, 1, 3, 5] : List Int).getD x 0 = st := ⟨_, rfl⟩
     rw [hst1] at hst
     rw [hst1]
     have HS2 : Hid (DrawSt w p a n c g b w2 xs 0) := hS2
     clear hC2 hO2 hS2 hst1 hSa
     go_wp2
     (try simp only [Exit.inBlock, Exit.then])
     have q := stored_box2 (w := w2.setCell ⟨b, 1, none⟩ (.int .i64 st)) (b := w.heap.size) (by rw [World.cell?_setCell_far _ _ _ _ (show b ≠ w.heap.size by omega)]; exact r0) (by rw [World.cell?_setCell_far _ _ _ _ (show b ≠ w.heap.size by omega)]; exact r1) (.slice (some ⟨g, 0, none⟩) 4 4) (.int .i64 st)
     refine bodyPost_ret (by simp [results, Tryd.results44, go_sem, q.1, q.2]; try rfl) rfl ?_
     exact ⟨g, xs, st, rfl, hgw, own_setCell_far (own_setCell_far (own_setCell_far HS2.out.own (by simp [Value.ownBlock]; omega) _) (by simp [Value.ownBlock]; omega) _) (by simp [Value.ownBlock]; omega) _, okTo_rows HO.out hst, cur_set (cur_set (cur_set HS2.out.cur (show p < b by omega) _) (show p < w.heap.size by omega) _) (show p < w.heap.size by omega) _, far_set (far_set (far_set HS2.out.far (show w.heap.size ≤ b by omega) _) (show w.heap.size ≤ w.heap.size by omega) _) (show w.heap.size ≤ w.heap.size by omega) _⟩
end
end Go.Proofs.YtfanppifelajnaaDoor
