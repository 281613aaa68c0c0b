/- The program's Read, at any list of pairs and any place: what the last pair at that place says. -/
import Derived.Test.YtekafaoleniebapDoorPairRd
import Derived.RangeFuncNested
import Derived.RangeFuncBox
import Derived.RangeFuncLeaves
import Derived.Shelf.Abstract
import Derived.WalkKit
import Derived.OwnWalkIn
import Derived.TacticsInMore
import Derived.LoopNIn
import Derived.LoopIn
namespace Go.Proofs.YtekafaoleniebapDoor
open Go.ChangeShapes Go.WideShapes Go.ChangeAt Go.RowKit Go.Shelf
attribute [local go_sem] Oper.semAt_some

/-- What has come when k rounds are over: the last, the one before it, .. -/
def backTo (fs : List Int) (n k : Nat) : List (Nat × Int × Int) := (List.range k).map (fun t => (n - 1 - t, fs.getD ((n - 1 - t) * 2) 0, fs.getD ((n - 1 - t) * 2 + 1) 0))
theorem backTo_succ (fs : List Int) (n k : Nat) : backTo fs n (k + 1) = backTo fs n k ++ [(n - 1 - k, fs.getD ((n - 1 - k) * 2) 0, fs.getD ((n - 1 - k) * 2 + 1) 0)] := by simp [backTo, List.range_succ]
theorem backTo_length (fs : List Int) (n k : Nat) : (backTo fs n k).length = k := by simp [backTo]
theorem back_none {fs : List Int} {n : Nat} {at_ : Int} : ∀ {k : Nat}, k ≤ n → (∀ x ∈ backTo fs n k, x.2.1 ≠ at_) → readF fs at_ n = readF fs at_ (n - k)
  | 0, _, _ => rfl
  | k + 1, hk, h => by
    rw [backTo_succ] at h
    have e := h _ (List.mem_append.2 (.inr (List.mem_singleton.2 rfl)))
    rw [back_none (Nat.le_of_succ_le hk) (fun x hx => h x (List.mem_append.2 (.inl hx)))]
    rw [show n - k = n - 1 - k + 1 by omega, show n - (k + 1) = n - 1 - k by omega]
    show (if _ then _ else _) = _
    rw [if_neg e]
theorem back_some {fs : List Int} {n : Nat} {at_ : Int} {k : Nat} {pre : List (Nat × Int × Int)} {x : Nat × Int × Int} (hk : k ≤ n) (e : pre ++ [x] = backTo fs n k) (h : ∀ y ∈ pre, y.2.1 ≠ at_) (hx : x.2.1 = at_) : readF fs at_ n = (x.2.2, true) := by
  cases k with
  | zero => simp [backTo] at e
  | succ k =>
    rw [backTo_succ] at e
    obtain ⟨e1, e2⟩ := List.append_inj' e rfl
    obtain rfl := (List.cons.inj e2).1
    rw [back_none (Nat.le_of_succ_le hk) (e1 ▸ h)]
    rw [show n - k = n - 1 - k + 1 by omega]
    show (if _ then _ else _) = _
    rw [if_pos hx]

set_option maxRecDepth 100000 in
set_option maxHeartbeats 2000000 in
theorem back1_in (F : Fence) (m : Nat) (hf : F.fn 52) (hro : F.round = none) (hm : 1 ≤ m) (l Bs n₀ n c : Nat) (a : Option Addr) (fs : List Int) (J Jx : List (Nat × Int × Int) → World → Prop)
    (hY : ∀ pre x W, J pre W → pre.length < n → YieldAt F (m - 1) Tryd.prog l #[.int .i64 (x.1 : Int), .agg #[.int .i64 x.2.1, .int .i64 x.2.2]] W fun e W' =>
      (e = .returned (.bool true) ∧ J (pre ++ [x]) W' ∧ Below n₀ W W') ∨ (e = .returned (.bool false) ∧ Jx (pre ++ [x]) W'))
    (W : World) (hBs : Bs < n₀) (hs : W.cell? ⟨Bs, 0, none⟩ = some (.slice a n c)) (hp : PairAt W a n fs) (hn₀ : ∀ q, a = some q → 0 < n → q.block < n₀) (h0 : J [] W) :
    CallsIn F m Tryd.prog 52 #[.func (.yield l) #[] #[], .pointer (some ⟨Bs, 0, none⟩)] W fun e W' => (∃ v, e = .returned v) ∧
      ((∃ ys, ys = backTo fs n n ∧ J ys W') ∨ (∃ pre, (∃ k, k ≤ n ∧ pre = backTo fs n k) ∧ Jx pre W')) := by
  have hn := hp.2.1
  have HP : Hid (PairAt W a n fs) := hp
  have HN : Hid (∀ q, a = some q → 0 < n → q.block < n₀) := hn₀
  clear hp hn₀
  refine callsIn_of_wp Tryd.func52 rfl hf ?_ hro
  simp only [Tryd.ntmps52, List.size_toArray, List.length_cons, List.length_nil, Nat.reduceAdd, Nat.reduceSub, Array.replicate_succ, Array.replicate_zero, List.push_toArray, List.append_toArray, List.nil_append, List.cons_append]
  gi_wp2
  gi_loopw [3] (fun i wr => ∃ k : Nat, k ≤ n ∧ i = .int .i64 ((n : Int) - 1 - (k : Int)) ∧ J (backTo fs n k) wr ∧ Below n₀ W wr)
    (fun i _ => (intOf i + 1).toNat)
  case atStart => exact ⟨0, Nat.zero_le _, by go_num, h0, Below.refl _ _⟩
  case round =>
    obtain ⟨k, hk, rfl, hJs, hnx⟩ := hrel
    have hs' := (hnx.cell (p := ⟨Bs, 0, none⟩) hBs).trans hs
    by_cases hlt : k < n
    · rcases HP.out.2.2 with h0' | ⟨b, o, rfl, g1⟩
      · omega
      have hb := HN.out _ rfl (by omega)
      have e1 := (hnx.cell (p := ⟨b, o + (n - 1 - k) * 2, none⟩) hb).trans (g1 ((n - 1 - k) * 2) (by omega))
      have e2 := (hnx.cell (p := ⟨b, o + ((n - 1 - k) * 2 + 1), none⟩) hb).trans (g1 ((n - 1 - k) * 2 + 1) (by omega))
      obtain ⟨fn, tmps, assign, body, hy, hR⟩ := hY _ (n - 1 - k, fs.getD ((n - 1 - k) * 2) 0, fs.getD ((n - 1 - k) * 2 + 1) 0) wr hJs (by rw [backTo_length]; exact hlt)
      dsimp only at hy
      have hJ2 := backTo_succ fs n k
      obtain ⟨i, hi⟩ : ∃ i, n - 1 - k = i := ⟨_, rfl⟩
      obtain ⟨x, hx⟩ : ∃ x, fs.getD ((n - 1 - k) * 2) 0 = x := ⟨_, rfl⟩
      obtain ⟨y, hy'⟩ : ∃ y, fs.getD ((n - 1 - k) * 2 + 1) 0 = y := ⟨_, rfl⟩
      rw [hx, hy'] at hJ2 hR
      rw [hx] at hy e1
      rw [hy'] at hy e2
      unfold I at e1 e2
      clear hx hy'
      have hi' : (n : Int) - 1 - (k : Int) = (i : Int) := by omega
      rw [hi] at hy e1 e2
      rw [hi']
      rw [← Nat.add_assoc] at e2
      clear g1
      have HJ2 : Hid (backTo fs n (k + 1) = backTo fs n k ++ [(n - 1 - k, x, y)]) := hJ2
      clear hJ2
      gi_wp2
      refine hR.mono ?_
      rintro e W3 (⟨rfl, hJ3, hk3⟩ | ⟨rfl, hJx3⟩)
      · gi_wp2
        go_roundw
        case rel => exact ⟨k + 1, by omega, by go_num, by rw [HJ2.out]; exact hJ3, hnx.trans hk3⟩
        case measure => (simp [intOf]) <;> omega
      · gi_wp2
        refine bodyPost_ret (results_none rfl _ _ _) rfl ?_
        exact ⟨⟨_, rfl⟩, .inr ⟨_, ⟨k + 1, by omega, HJ2.out.symm⟩, hJx3⟩⟩
    · obtain rfl : k = n := by omega
      have hz : ¬ (0 ≤ (k : Int) - 1 - (k : Int)) := by omega
      gi_wp2
      go_end0
      first | exact ⟨⟨_, rfl⟩, .inl ⟨_, rfl, hJs⟩⟩ | exact ⟨⟨_, rfl⟩, .inl hJs⟩

set_option maxHeartbeats 1000000 in
theorem back_in (F : Fence) (m : Nat) (hf : F.fn 36) (hro : F.round = none) (a : Option Addr) (n c : Nat) (w : World) :
    CallsIn F m Tryd.prog 36 #[.slice a n c] w fun e w' => e = .returned (.func (.func 52) #[] #[.pointer (some ⟨w.heap.size, 0, none⟩)]) ∧ w' = w.alloc (.cells #[.slice a n c] 29) := by
  refine callsIn_of_wp Tryd.func36 rfl hf ?_ hro
  simp only [Tryd.ntmps36, List.size_toArray, List.length_cons, List.length_nil, Nat.reduceAdd, Nat.reduceSub, Array.replicate_succ, Array.replicate_zero, List.push_toArray, List.append_toArray, List.nil_append, List.cons_append]
  gi_wp2
  go_ret
  exact ⟨rfl, rfl⟩

theorem back_stops (F : Fence) (m : Nat) (hf : F.fn 52) (hro : F.round = none) (hm : 1 ≤ m) (Bs n₀ n c : Nat) (a : Option Addr) (fs : List Int) (w : World) (hBs : Bs < n₀) (hn₀ : n₀ ≤ w.heap.size)
    (hc : w.cell? ⟨Bs, 0, none⟩ = some (.slice a n c)) (hp : PairAt w a n fs) (hb : ∀ q, a = some q → 0 < n → q.block < n₀) :
    SeqStopsK F m Tryd.prog 52 #[.pointer (some ⟨Bs, 0, none⟩)] (fun x : Nat × Int × Int => #[Value.int .i64 (x.1 : Int), .agg #[.int .i64 x.2.1, .int .i64 x.2.2]]) (Below n₀) (fun ys => ys = backTo fs n n) (fun pre => ∃ k, k ≤ n ∧ pre = backTo fs n k) n w := fun l J Jx W hW _ _ hY h0 =>
  back1_in F m hf hro hm l Bs n₀ n c a fs J Jx hY W hBs ((hW.cell (p := ⟨Bs, 0, none⟩) (Nat.lt_of_lt_of_le hBs hn₀)).trans hc) (hp.below hW (Nat.le_refl _)) hb h0

theorem PairAt.lt {w : World} {a : Option Addr} {n : Nat} {fs : List Int} (h : PairAt w a n fs) : ∀ q, a = some q → 0 < n → q.block < w.heap.size := fun q e hn => by
  rcases h.2.2 with h0 | ⟨b, o, rfl, g⟩
  · omega
  · cases e; exact World.block_lt_of_cell? w _ (g 0 (by omega))

/-- A struct of two numbers lies in a box. -/
def Box2 (W : World) (B : Nat) (t : TypeId) (x y : Int) : Prop := W.heap[B]? = some (.cells #[.int .i64 x, .int .i64 y] t (0, 0))
theorem Box2.lt {W : World} {B : Nat} {t : TypeId} {x y : Int} (h : Box2 W B t x y) : B < W.heap.size := (Array.getElem?_eq_some_iff.1 h).1
theorem Box2.kept {W W' : World} {row : Option Nat} {B : Nat} {t : TypeId} {x y : Int} (h : Box2 W B t x y) (hg : W.grownBy W' row) (hne : some B ≠ row) : Box2 W' B t x y := (hg.block B h.lt hne).trans h
theorem Box2.fst {W : World} {B : Nat} {t : TypeId} {x y : Int} (h : Box2 W B t x y) : W.cell? ⟨B, 0, none⟩ = some (.int .i64 x) := by simp [World.cell?, show W.heap[B]? = _ from h]
theorem Box2.snd {W : World} {B : Nat} {t : TypeId} {x y : Int} (h : Box2 W B t x y) : W.cell? ⟨B, 1, none⟩ = some (.int .i64 y) := by simp [World.cell?, show W.heap[B]? = _ from h]
theorem box2_own {β : Type} (B : Nat) (t : TypeId) (x y : Int) : Own (fun (_ : β) W => Box2 W B t x y) := fun s X Y row hs hg hrow =>
  hs.kept hg (fun e' => by obtain ⟨o, ho, hc⟩ := hrow B e'.symm; rw [show X.heap[B]? = _ from hs] at ho; cases ho; cases hc)

set_option maxRecDepth 100000 in
set_option maxHeartbeats 2000000 in
theorem implRead_any (a : Option Addr) (n c : Nat) (at_ : Int) (fs : List Int) (w : World) (h : PairAt w a n fs) :
    Calls Tryd.prog 16 #[.slice a n c, .int .i64 at_] w fun e w' => e = .returned (.tuple #[.int .i64 (readF fs at_ n).1, .bool (readF fs at_ n).2]) ∧ Below w.heap.size w w' := by
  have HP : Hid (PairAt w a n fs) := h
  have HL : Hid (∀ q, a = some q → 0 < n → q.block < w.heap.size) := h.lt
  clear h
  refine (callsIn_wide (n := 3)).1 ?_
  have hro : Fence.wide.round = none := rfl
  refine callsIn_of_wp_marks Tryd.func16 rfl trivial ?_ hro
  simp only [Tryd.ntmps16, List.size_toArray, List.length_cons, List.length_nil, Nat.reduceAdd, Nat.reduceSub, Array.replicate_succ, Array.replicate_zero, List.push_toArray, List.append_toArray, List.nil_append, List.cons_append]
  gi_wp2_with (refine ⟨trivial, ?_⟩; gi_at_call 36; refine (back_in Fence.wide _ trivial hro _ _ _ _).mono ?_; rintro e w' ⟨rfl, rfl⟩)
  obtain ⟨W0, hW0⟩ : ∃ W0, (((w.alloc (.cells #[.int .i64 at_] 3)).alloc (.cells #[.int .i64 0] 3)).alloc (.cells #[.bool false] 4)).alloc (.cells #[.slice a n c] 29) = W0 := ⟨_, rfl⟩
  have hs0 : W0.heap.size = w.heap.size + 4 := by rw [← hW0]; simp
  have hBW : Below w.heap.size w W0 := by rw [← hW0]; exact ((((Below.refl _ w).alloc (Nat.le_refl _) _).alloc (by simp) _).alloc (by simp; omega) _).alloc (by simp; omega) _
  have b0 : Boxed W0 w.heap.size 3 (.int .i64 at_) := by rw [← hW0]; exact (((Boxed.new w _ _).alloc _).alloc _).alloc _
  have b1 : Boxed W0 (w.heap.size + 1) 3 (.int .i64 0) := by
    rw [← hW0]; have := Boxed.new (w.alloc (.cells #[.int .i64 at_] 3)) 3 (.int .i64 0); rw [World.size_alloc] at this; exact (this.alloc _).alloc _
  have b2 : Boxed W0 (w.heap.size + 1 + 1) 4 (.bool false) := by
    rw [← hW0]; have := Boxed.new ((w.alloc (.cells #[.int .i64 at_] 3)).alloc (.cells #[.int .i64 0] 3)) 4 (.bool false); rw [World.size_alloc, World.size_alloc] at this; exact this.alloc _
  have b3 : Boxed W0 (w.heap.size + 1 + 1 + 1) 29 (.slice a n c) := by
    rw [← hW0]; have := Boxed.new (((w.alloc (.cells #[.int .i64 at_] 3)).alloc (.cells #[.int .i64 0] 3)).alloc (.cells #[.bool false] 4)) 29 (.slice a n c); rw [World.size_alloc, World.size_alloc, World.size_alloc] at this; exact this
  rw [hW0]
  clear hW0
  refine wpIn_rangeFunc_ownH hro (by omega) (gf := 52) (lb := #[.pointer (some ⟨w.heap.size + 1 + 1 + 1, 0, none⟩)]) rfl trivial (enters_of Tryd.func52 (by kernel_rfl) rfl)
    (back_stops Fence.wide _ trivial hro (by omega) (w.heap.size + 1 + 1 + 1) W0.heap.size n c a fs W0 (by omega) (Nat.le_refl _) b3.cell (HP.out.below hBW (Nat.le_refl _)) (fun q e hn => by have := HL.out q e hn; omega)) belowK_t (belowK_b (Nat.le_refl _)) (Below.refl _ _) (fun _ => rfl)
    (fun pre W => ((∀ x ∈ pre, x.2.1 ≠ at_) ∧ Boxed W w.heap.size 3 (.int .i64 at_) ∧ Boxed W (w.heap.size + 1) 3 (.int .i64 0) ∧ Boxed W (w.heap.size + 1 + 1) 4 (.bool false) ∧ Boxed W (w.heap.size + 1 + 1 + 1) 29 (.slice a n c)) ∧ Below w.heap.size w W)
    (fun c pre W => (c = .ret ∧ ∃ pre' x, pre = pre' ++ [x] ∧ (∀ y ∈ pre', y.2.1 ≠ at_) ∧ x.2.1 = at_ ∧ Boxed W (w.heap.size + 1) 3 (.int .i64 x.2.2) ∧ Boxed W (w.heap.size + 1 + 1) 4 (.bool true)) ∧ Below w.heap.size w W)
    (OwnFrom.and (Own.from (fun s A B row hs hg hr => ⟨hs.1, boxed_own _ _ (fun _ => _) () A B row hs.2.1 hg hr, boxed_own _ _ (fun _ => _) () A B row hs.2.2.1 hg hr, boxed_own _ _ (fun _ => _) () A B row hs.2.2.2.1 hg hr, boxed_own _ _ (fun _ => _) () A B row hs.2.2.2.2 hg hr⟩) _) (ownFrom_below (Nat.le_refl _) (by omega)))
    (fun c => OwnFrom.and (Own.from (fun s A B row ⟨h1, p', x, h2, h3, h4, h5, h6⟩ hg hr => ⟨h1, p', x, h2, h3, h4, boxed_own _ _ (fun _ => _) () A B row h5 hg hr, boxed_own _ _ (fun _ => _) () A B row h6 hg hr⟩) _) (ownFrom_below (Nat.le_refl _) (by omega)))
    ⟨⟨by simp, b0, b1, b2, b3⟩, hBW⟩
    (fun x a' W => ∃ Bx, w.heap.size + 1 + 1 < Bx ∧ Box2 W Bx 39 x.2.1 x.2.2 ∧ a' = { tmps := #[.slice a n c, .int .i64 at_, undef, .pointer (some ⟨w.heap.size, 0, none⟩), .pointer (some ⟨w.heap.size + 1, 0, none⟩), .pointer (some ⟨w.heap.size + 1 + 1, 0, none⟩), undef, .pointer (some ⟨Bx, 0, none⟩), .slice a n c, .func (.func 52) #[] #[.pointer (some ⟨w.heap.size + 1 + 1 + 1, 0, none⟩)], .int .i64 (x.1 : Int), .agg #[.int .i64 x.2.1, .int .i64 x.2.2], undef, undef, undef, undef, undef, undef], defers := [] })
    (fun x a' => Own.from (fun s A B row ⟨Bx, h1, h2, h3⟩ hg hr => ⟨Bx, h1, box2_own _ _ _ _ () A B row h2 hg hr, h3⟩) _) ?assign ?body ?done ?stop
  case assign =>
    rintro l pre x W K ⟨⟨hp, c0, c1, c2, c3⟩, hB⟩ hK
    gi_wp2
    exact hK _ _ ((KeepsOthers.alloc _ _).from _) ((Below.refl _ W).grown (World.grownBy_alloc W _ none) (by have := c3.lt; omega) (fun k e => by cases e)) ⟨⟨hp, c0.alloc _, c1.alloc _, c2.alloc _, c3.alloc _⟩, hB.alloc hB.size _⟩ ⟨W.heap.size, c2.lt, World.alloc_heap_new W _, rfl⟩
  case body =>
    rintro l pre x a' W hl ⟨r, hr⟩ ⟨⟨hp, c0, c1, c2, c3⟩, hB⟩ ⟨Bx, hBx, bX, rfl⟩ hlt
    have e0 := c0.cell
    have e1 := c1.cell
    have e2 := c2.cell
    have f1 := c1.frozen
    have f2 := c2.frozen
    have x1 := bX.fst
    have x2 := bX.snd
    by_cases hx : x.2.1 = at_
    · have hxb : (x.2.1 == at_) = true := by simpa using hx
      gi_wp2
      exact ⟨((KeepsOthers.setCell _ _ _).trans (KeepsOthers.setCell _ _ _)).from _, ⟨rfl, pre, x, rfl, hp, hx, (c1.set _).other (by omega) _, (c2.other (by omega) _).set _⟩,
        (hB.setCell (p := ⟨w.heap.size + 1, 0, none⟩) (by simp) _).setCell (p := ⟨w.heap.size + 1 + 1, 0, none⟩) (by simp; omega) _⟩
    · have hxb : (x.2.1 == at_) = false := by simpa using hx
      gi_wp2
      exact ⟨(KeepsOthers.refl _).from _, Below.refl _ _, ⟨fun y hy => (List.mem_append.1 hy).elim (hp y) (fun e => (List.mem_singleton.1 e) ▸ hx), c0, c1, c2, c3⟩, hB⟩
  case done =>
    rintro D xs W hD rfl ⟨⟨hp, c0, c1, c2, c3⟩, hB⟩ hK
    have e1 := c1.cell
    have e2 := c2.cell
    have f1 := c1.frozen
    have f2 := c2.frozen
    gi_wp2
    have hK' := ((KeepsOthers.setCell W ⟨w.heap.size + 1, 0, none⟩ (.int .i64 0)).trans (KeepsOthers.setCell _ ⟨w.heap.size + 1 + 1, 0, none⟩ (.bool false))).same D _ hK rfl
    have g1 : Boxed _ (w.heap.size + 1) 3 (.int .i64 0) := (c1.set (.int .i64 0)).other (B' := w.heap.size + 1 + 1) (by omega) (.bool false)
    have g2 : Boxed _ (w.heap.size + 1 + 1) 4 (.bool false) := (c2.other (B' := w.heap.size + 1) (by omega) (.int .i64 0)).set (.bool false)
    refine ⟨by simp, .inl ⟨_, _, rfl, run_takeDeferred hK', ?_⟩⟩
    have i1 := cell_kept g1.cell (grownBy_putObj' _ D (.deferred none)) (fun r e => by cases e; exact ⟨_, hK', rfl⟩)
    have i2 := cell_kept g2.cell (grownBy_putObj' _ D (.deferred none)) (fun r e => by cases e; exact ⟨_, hK', rfl⟩)
    have hz : readF fs at_ n = (0, false) := by rw [back_none (Nat.le_refl _) hp, Nat.sub_self]; rfl
    refine ⟨.tuple #[.int .i64 0, .bool false], ?_, by rw [hz], ((hB.setCell (p := ⟨w.heap.size + 1, 0, none⟩) (by simp) _).setCell (p := ⟨w.heap.size + 1 + 1, 0, none⟩) (by simp; omega) _).trans (belowK_b (w := w) (Nat.le_refl _) _ D _ _ (by omega) hK' rfl rfl)⟩
    simp [results, Tryd.f16, go_sem, i1, i2]
  case stop =>
    rintro D c pre W hD ⟨k, hk, rfl⟩ ⟨⟨rfl, pre', x, h2, h3, h4, h5, h6⟩, hB⟩ hK
    gi_wp2
    refine ⟨by simp, .inl ⟨_, _, rfl, run_takeDeferred hK, ?_⟩⟩
    have i1 := cell_kept h5.cell (grownBy_putObj' _ D (.deferred none)) (fun r e => by cases e; exact ⟨_, hK, rfl⟩)
    have i2 := cell_kept h6.cell (grownBy_putObj' _ D (.deferred none)) (fun r e => by cases e; exact ⟨_, hK, rfl⟩)
    refine ⟨.tuple #[.int .i64 x.2.2, .bool true], ?_, by rw [back_some hk h2.symm h3 h4], hB.trans (belowK_b (w := w) (Nat.le_refl _) _ D _ _ (by omega) hK rfl rfl)⟩
    simp [results, Tryd.f16, go_sem, i1, i2]
end Go.Proofs.YtekafaoleniebapDoor
