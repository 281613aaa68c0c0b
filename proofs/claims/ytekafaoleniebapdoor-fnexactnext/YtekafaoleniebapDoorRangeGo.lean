/- A range over a function whose rounds are known ahead: `go x` says whether the round at x goes on. What the function tells ahead of the first that does not, comes; then the loop is left by a return. -/
import Derived.RangeFuncNested
import Derived.RangeFuncBox
import Derived.Test.YtekafaoleniebapDoorFar
namespace Go.Proofs.YtekafaoleniebapDoor
open Go.ChangeShapes Go.WideShapes Go.ChangeAt Go.RowKit

/-- What abides new blocks. -/
def Grows {α : Type} (J : List α → World → Prop) : Prop := ∀ s W W', J s W → W.grownBy W' none → J s W'

/-- What a round that goes on keeps: all that lay below n₀; and every block that is no cells of the types ts. -/
structure Kp (n₀ : Nat) (ts : List TypeId) (A B : World) : Prop where
  low : Below n₀ A B
  keep : ∀ k, k < A.heap.size → (∀ cs t r, A.heap[k]? = some (.cells cs t r) → t ∉ ts) → B.heap[k]? = A.heap[k]?
theorem Kp.of_below {n₀ : Nat} {ts : List TypeId} {A B : World} (h : Below A.heap.size A B) (hn : n₀ ≤ A.heap.size) : Kp n₀ ts A B := ⟨h.mono hn, fun k hk _ => h.block k hk⟩
theorem Kp.trans {n₀ : Nat} {ts : List TypeId} {A B C : World} (h : Kp n₀ ts A B) (k : Kp n₀ ts B C) : Kp n₀ ts A C :=
  ⟨h.low.trans k.low, fun i hi hc => by
    have e := h.keep i hi hc
    exact (k.keep i (Nat.lt_of_lt_of_le hi h.low.size) (fun cs t r h' => hc cs t r (e.symm.trans h'))).trans e⟩
theorem Kp.cells {n₀ : Nat} {ts : List TypeId} {A B : World} (h : Kp n₀ ts A B) {k : Nat} {cs : Array Value} {t : TypeId} {r : Nat × Nat} (hk : A.heap[k]? = some (.cells cs t r)) (ht : t ∉ ts) : B.heap[k]? = some (.cells cs t r) :=
  (h.keep k (Array.getElem?_eq_some_iff.1 hk).1 (fun cs' t' r' h' => by rw [hk] at h'; cases h'; exact ht)).trans hk

/-- What a round that does not go on keeps: every block of cells that are not of the types ts. -/
structure Kx (ts : List TypeId) (A B : World) : Prop where
  size : A.heap.size ≤ B.heap.size
  keep : ∀ (k : Nat) (cs : Array Value) (t : TypeId) (r : Nat × Nat), A.heap[k]? = some (Obj.cells cs t r) → t ∉ ts → B.heap[k]? = some (Obj.cells cs t r)
theorem Kp.kx {n₀ : Nat} {ts : List TypeId} {A B : World} (h : Kp n₀ ts A B) : Kx ts A B := ⟨h.low.size, fun _ _ _ _ hk ht => h.cells hk ht⟩
theorem Kx.trans {ts : List TypeId} {A B C : World} (h : Kx ts A B) (k : Kx ts B C) : Kx ts A C := ⟨Nat.le_trans h.size k.size, fun i cs t r hk ht => k.keep i cs t r (h.keep i cs t r hk ht) ht⟩

/-- One call of yield, of which it is known whether it goes on. -/
def Rounds {α : Type} (P : Program) (l : Nat) (encs : α → Array Value) (go : α → Bool) (n₀ : Nat) (ts : List TypeId) (J Jx : List α → World → Prop) : Prop :=
  ∀ pre x W, pre.length < 100 → J pre W → YieldAt Fence.wide 3 P l (encs x) W fun e W' => e = .returned (.bool (go x)) ∧ (go x = true → J (pre ++ [x]) W' ∧ Kp n₀ ts W W') ∧ (go x = false → Jx (pre ++ [x]) W' ∧ Kx ts W W')

/-- The function value tells L, till a round does not go on. -/
def SeqGo {α : Type} (P : Program) (g : Nat) (lb : Array Value) (encs : α → Array Value) (go : α → Bool) (n₀ : Nat) (ts : List TypeId) (L : List α) (w : World) : Prop :=
  ∀ (l : Nat) (J Jx : List α → World → Prop) (W : World), Below w.heap.size w W → Grows J → Grows Jx → Rounds P l encs go n₀ ts J Jx → J [] W →
    Calls P g (#[.func (.yield l) #[] #[]] ++ lb) W fun e W' => (∃ v, e = .returned v) ∧
      ((∀ x ∈ L, go x = true) → J L W') ∧ (∀ pre x rest, L = pre ++ x :: rest → (∀ y ∈ pre, go y = true) → go x = false → Jx (pre ++ [x]) W')

theorem wp_rangeFunc_go {α : Type} {P : Program} {g : Operand} {ps : Array Tmp} {assign body : Code} {Q : Exit → Act → World → Prop} {a : Act} {w : World}
    {gf : Nat} {lb : Array Value} (hg : a.eval g = .func (.func gf) #[] lb) (eg : ∀ args w, (callFunc gf args).run P w = .ok (.enter gf args) w)
    {encs : α → Array Value} {go : α → Bool} {n₀ : Nat} {ts : List TypeId} {L : List α} (hseq : SeqGo P gf lb encs go n₀ ts L w) (hn : n₀ ≤ w.heap.size) (hps : ∀ x, (encs x).size = ps.size)
    (I Ix : List α → World → Prop) (hI : OwnFrom w.heap.size I) (hIx : OwnFrom w.heap.size Ix) (h0 : I [] w) (Ax : α → Act → World → Prop) (hAx : ∀ x a', OwnFrom w.heap.size (fun (_ : Unit) W => Ax x a' W))
    (hassign : ∀ (l : Nat) (pre : List α) (x : α) (W : World) (K : Act → World → Prop), w.heap.size + 1 < W.heap.size → pre.length < 100 → I pre W → (∀ a' W', W.grownBy W' none → I pre W' → Ax x a' W' → K a' W') →
      assign.wpIn (Fence.wide.inRound l) 3 P (Exit.then K (fun _ _ _ => False)) { tmps := (ps.zip (encs x)).foldl (fun t (p, v) => t.setIfInBounds p v) a.tmps, defers := [] } W)
    (hbody : ∀ (l : Nat) (pre : List α) (x : α) (a' : Act) (W : World), w.heap.size + 1 < W.heap.size → pre.length < 100 → I pre W → Ax x a' W → body.wpIn (Fence.wide.inRound l) 3 P (fun e _ W' =>
      (W'.heap[w.heap.size]? = W.heap[w.heap.size]? ∧ W'.heap[w.heap.size + 1]? = W.heap[w.heap.size + 1]?) ∧ ((e = .normal ∧ go x = true ∧ Kp n₀ ts W W' ∧ I (pre ++ [x]) W') ∨ (e = .ret ∧ go x = false ∧ Kx ts W W' ∧ Ix (pre ++ [x]) W'))) a' W)
    (hdone : ∀ (W : World), (∀ x ∈ L, go x = true) → I L W → W.heap[w.heap.size]? = some (.deferred (some [])) → Q .normal { a with defers := { target := .collected w.heap.size, args := #[] } :: a.defers } W)
    (hstop : ∀ (pre : List α) (x : α) (rest : List α) (W : World), L = pre ++ x :: rest → (∀ y ∈ pre, go y = true) → go x = false → Ix (pre ++ [x]) W → W.heap[w.heap.size]? = some (.deferred (some [])) → Code.ret.wp P Q { a with defers := { target := .collected w.heap.size, args := #[] } :: a.defers } W) :
    (Code.rangeFunc g ps assign body).wp P Q a w := by
  refine (wpIn_wide (n := 4)).1 (wpIn_rangeFunc ?_)
  intro fn hfn
  -- the loop's record, and the worlds in which it lies
  let R : LoopState → Option Code → Loop := fun st pe => { state := st, pending := pe, fn, tmps := a.tmps, params := ps, assign, body, defers := w.heap.size }
  let W1 := (w.alloc (.deferred (some []))).alloc (.loop (R .ready none))
  have s1 : W1.heap.size = w.heap.size + 1 + 1 := by show ((w.alloc _).alloc _).heap.size = _; simp
  have g1 : w.grownBy W1 none := (World.grownBy_alloc w _ none).trans (World.grownBy_alloc _ _ none)
  have L1 : W1.heap[w.heap.size + 1]? = some (.loop (R .ready none)) := by
    have := World.alloc_heap_new (w.alloc (.deferred (some []))) (.loop (R .ready none)); rwa [World.size_alloc] at this
  have D1 : W1.heap[w.heap.size]? = some (.deferred (some [])) := (Below.heap_alloc _ _ _ (by simp)).trans (World.alloc_heap_new w _)
  have b1 : Below w.heap.size w W1 := (Below.refl _ _).grown g1 (Nat.le_refl _) (fun k e => by cases e)
  refine ⟨w.heap.size + 1, [{ target := .collected w.heap.size, args := #[] }], W1, { target := .fn (.func gf) lb, args := #[.func (.yield (w.heap.size + 1)) #[] #[]] }, W1, gf,
    #[.func (.yield (w.heap.size + 1)) #[] #[]] ++ lb, W1, run_enterLoop_outer _ _ _ _ _, ?_, fun _ _ => trivial, ?_, fun _ => by omega, callsIn_wide.2 ?_⟩
  · simp only [resolve, hg]
    simp [go_sem]
  · simp [invoke, go_sem, eg]
  refine (hseq (w.heap.size + 1)
    (fun pre W => I pre W ∧ W.heap[w.heap.size + 1]? = some (.loop (R .ready none)) ∧ W.heap[w.heap.size]? = some (.deferred (some [])))
    (fun pre W => Ix pre W ∧ W.heap[w.heap.size + 1]? = some (.loop (R .done (some .ret))) ∧ W.heap[w.heap.size]? = some (.deferred (some []))) W1 b1 ?_ ?_ ?_
    ⟨hI _ _ _ _ h0 g1 (fun r e => by cases e), L1, D1⟩).mono ?_
  · intro s A C ⟨h1, h2, h3⟩ hgr
    exact ⟨hI _ _ _ _ h1 hgr (fun r e => by cases e), (hgr.block _ (Array.getElem?_eq_some_iff.1 h2).1 (by simp)).trans h2, (hgr.block _ (Array.getElem?_eq_some_iff.1 h3).1 (by simp)).trans h3⟩
  · intro s A C ⟨h1, h2, h3⟩ hgr
    exact ⟨hIx _ _ _ _ h1 hgr (fun r e => by cases e), (hgr.block _ (Array.getElem?_eq_some_iff.1 h2).1 (by simp)).trans h2, (hgr.block _ (Array.getElem?_eq_some_iff.1 h3).1 (by simp)).trans h3⟩
  · -- a round
    rintro pre x W hlen ⟨i0, l0, d0⟩
    refine ⟨fn, _, assign, body, run_yield (P := P) (args := encs x) l0 (hps x), roundIn_of_wpIn hfn (hassign _ pre x W _ (Array.getElem?_eq_some_iff.1 l0).1 hlen i0 ?_)⟩
    intro a' Wa ga ia ax
    have la := (ga.block _ (Array.getElem?_eq_some_iff.1 l0).1 (by simp)).trans l0
    have da := (ga.block _ (Array.getElem?_eq_some_iff.1 d0).1 (by simp)).trans d0
    have za := (Array.getElem?_eq_some_iff.1 la).1
    refine ⟨_, run_beginRound la rfl, ?_⟩
    let Wb := Wa.putObj (w.heap.size + 1) (.loop { R .ready none with state := .busy })
    have lb' : Wb.heap[w.heap.size + 1]? = some (.loop { R .ready none with state := .busy }) := World.putObj_heap_same za
    have db : Wb.heap[w.heap.size]? = some (.deferred (some [])) := (World.putObj_heap_other (by omega)).trans da
    have ub : Below n₀ Wa Wb := (Below.refl n₀ Wa).grown (grownBy_putObj' Wa _ _) (by omega) (fun k e => by cases e; omega)
    have ua : Below n₀ W Wa := (Below.refl n₀ W).grown ga (by have := (Array.getElem?_eq_some_iff.1 l0).1; omega) (fun k e => by cases e)
    refine wpIn_mono (hbody _ pre x a' Wb (by show w.heap.size + 1 < (Wa.putObj _ _).heap.size; simpa using za) hlen (hI.putObj _ ia (by omega) la rfl) ((hAx x a').putObj (s := ()) _ ax (by omega) la rfl)) ?_
    rintro e a3 W3 ⟨⟨q1, q2⟩, ⟨rfl, hgo, u3, i3⟩ | ⟨rfl, hgo, u3, i3⟩⟩
    · have l3 := q2.trans lb'
      have z3 := (Array.getElem?_eq_some_iff.1 l3).1
      have ud : Below n₀ W3 (W3.putObj (w.heap.size + 1) (.loop { R .ready none with state := .ready, pending := none })) := (Below.refl n₀ W3).grown (grownBy_putObj' W3 _ _) (by omega) (fun k e => by cases e; omega)
      refine ⟨_, _, run_endRound (P := P) none l3, by rw [hgo]; rfl, fun _ => ⟨⟨hI.putObj _ i3 (by omega) l3 rfl, World.putObj_heap_same z3, (World.putObj_heap_other (by omega)).trans (q1.trans db)⟩, ⟨((ua.trans ub).trans u3.low).trans ud, fun k hk hc => ?_⟩⟩, fun h => by rw [hgo] at h; cases h⟩
      by_cases hkl : k = w.heap.size + 1
      · rw [hkl, World.putObj_heap_same z3, l0]; rfl
      · have e1 : Wb.heap[k]? = W.heap[k]? := (World.putObj_heap_other hkl).trans (ga.block k hk (by simp))
        have z : k < Wb.heap.size := by show k < (Wa.putObj _ _).heap.size; rw [World.putObj_size]; exact Nat.lt_of_lt_of_le hk ga.size
        exact (World.putObj_heap_other hkl).trans ((u3.keep k z (fun cs t r h' => hc cs t r (e1.symm.trans h'))).trans e1)
    · have l3 := q2.trans lb'
      have z3 := (Array.getElem?_eq_some_iff.1 l3).1
      refine ⟨_, _, run_endRound (P := P) (some .ret) l3, by rw [hgo]; rfl, (fun h => by rw [hgo] at h; cases h), fun _ => ⟨⟨hIx.putObj _ i3 (by omega) l3 rfl, World.putObj_heap_same z3, (World.putObj_heap_other (by omega)).trans (q1.trans db)⟩, ?_⟩⟩
      refine ⟨Nat.le_trans ua.size (Nat.le_trans ub.size (Nat.le_trans u3.size (by rw [World.putObj_size]; exact Nat.le_refl _))), fun k cs t r hk ht => ?_⟩
      have hkl : k ≠ w.heap.size + 1 := fun e => by rw [e, l0] at hk; cases hk
      have zk := (Array.getElem?_eq_some_iff.1 hk).1
      have e1 : Wb.heap[k]? = some (.cells cs t r) := ((World.putObj_heap_other hkl).trans (ga.block k zk (by simp))).trans hk
      exact (World.putObj_heap_other hkl).trans (u3.keep k cs t r e1 ht)
  · -- behind
    rintro e W2 ⟨⟨v, rfl⟩, hall, hsome⟩
    by_cases hg' : ∀ x ∈ L, go x = true
    · obtain ⟨i2, l2, d2⟩ := hall hg'
      exact ⟨none, _, run_endLoop (P := P) l2 (by simp [R]), hdone _ hg' (hI.putObj _ i2 (by omega) l2 rfl) ((World.putObj_heap_other (by omega)).trans d2)⟩
    · have hsplit : ∃ pre x rest, L = pre ++ x :: rest ∧ (∀ y ∈ pre, go y = true) ∧ go x = false := by
        clear hseq hdone hstop hall hsome
        induction L with
        | nil => exact absurd (fun x hx => by cases hx) hg'
        | cons y t ih =>
          cases hy : go y with
          | false => exact ⟨[], y, t, rfl, (fun z hz => by cases hz), hy⟩
          | true =>
            obtain ⟨pre, x, rest, e1, e2, e3⟩ := ih (fun h => hg' (fun z hz => by
              rcases List.mem_cons.1 hz with rfl | hz
              · exact hy
              · exact h z hz))
            exact ⟨y :: pre, x, rest, by rw [e1]; rfl, (fun z hz => by
              rcases List.mem_cons.1 hz with rfl | hz
              · exact hy
              · exact e2 z hz), e3⟩
      obtain ⟨pre, x, rest, e1, e2, e3⟩ := hsplit
      obtain ⟨i2, l2, d2⟩ := hsome pre x rest e1 e2 e3
      exact ⟨some .ret, _, run_endLoop (P := P) l2 (by simp [R]), wpIn_wide.2 (hstop pre x rest _ e1 e2 e3 (hIx.putObj _ i2 (by omega) l2 rfl) ((World.putObj_heap_other (by omega)).trans d2))⟩
end Go.Proofs.YtekafaoleniebapDoor
