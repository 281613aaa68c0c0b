/- Texts joined: DatI, SchC, DatM, DatN, DatA, TextS, AppB, AppI, Cur, Far, DrawF, DatO, DatVf, VasC, VasO, OwnV. -/
import Derived.Test.YtmgofehafjogfaaSH01
import Derived.Lib.SmallJoins
import Derived.WalkKit
import Derived.WalkSmall
import Derived.ProofKit
import Derived.Test.YtmgofehafjogfaaRows
import Derived.Lib.UnsafeStr
import Derived.Laws.IdiomStrings
import Derived.Laws.BytesArg
import Derived.Laws.AppendOwn
import Derived.Deep.RegionLaw
import Derived.Below
import Derived.Maps.AppendAt
import Derived.OwnWalk
import Derived.Deep.Slices
import Derived.Deep.RegionHeld3
import Derived.Deep.Cut
import Derived.Handy
set_option maxHeartbeats 200000
set_option maxRecDepth 100000
namespace Go.Proofs.Ytmgofehafjogfaa
section
open Go.ChangeShapes Go.WideShapes Go.ChangeAt Go.RowKit Go.Joins
inductive In (w : World) : Value → Cel → Prop
  | i (x : Int) : In w (.int .i64 x) (.i x)
  | b (x : Bool) : In w (.bool x) (.b x)
  | s (x : ByteArray) (hx : x.size ≤ 9223372036854775807) : In w (.string x) (.s x)
  | l (a : Option Addr) (T : TypeId) (k n c : Nat) (cs : List Cel) (vs : List Value) (h1 : vs.length = n * k) (h2 : cs.length = n * k) (hn : n ≤ 9223372036854775807)
      (h3 : n = 0 ∨ ∃ b o, a = some ⟨b, o, none⟩ ∧ ∀ j, j < n * k → w.cell? ⟨b, o + j, none⟩ = vs[j]?) (h4 : ∀ (j : Nat) (v : Value) (c : Cel), vs[j]? = some v → cs[j]? = some c → In w v c) : In w (.slice a n c) (.l T k n cs)
def InL (w : World) (vs : List Value) (cs : List Cel) : Prop := vs.length = cs.length ∧ ∀ (j : Nat) (v : Value) (c : Cel), vs[j]? = some v → cs[j]? = some c → In w v c
theorem In.on {w w' : World} {v : Value} {c : Cel} (h : In w v c) {B : Nat} (hb : Below B w w') (hB : w.heap.size ≤ B) : In w' v c := by
  induction h with
  | i x => exact .i x
  | b x => exact .b x
  | s x hx => exact .s x hx
  | l a T k n c cs vs h1 h2 hn h3 h4 ih =>
    refine .l a T k n c cs vs h1 h2 hn ?_ ih
    rcases h3 with h3 | ⟨b, o, e, g⟩
    · exact .inl h3
    · refine .inr ⟨b, o, e, fun j hj => ?_⟩
      have h5 := g j hj
      have h6 : w.cell? ⟨b, o + j, none⟩ = some (vs[j]'(by omega)) := by rw [h5, List.getElem?_eq_getElem (by omega)]
      rw [hb.cell (show b < B from Nat.lt_of_lt_of_le (World.block_lt_of_cell? w _ h6) hB)]
      exact h5
theorem InL.on {w w' : World} {vs : List Value} {cs : List Cel} (h : InL w vs cs) {B : Nat} (hb : Below B w w') (hB : w.heap.size ≤ B) : InL w' vs cs :=
  ⟨h.1, fun j v c hv hc => (h.2 j v c hv hc).on hb hB⟩
theorem big_mem : ∀ {cs : List Cel} {j : Nat} {c : Cel}, cs[j]? = some c → c.big ≤ bigL cs
  | [], _, _, h => by simp at h
  | d :: cs, 0, c, h => by simp at h; subst h; simp [bigL]
  | d :: cs, j + 1, c, h => by
    have := big_mem (cs := cs) (j := j) (by simpa using h)
    simp only [bigL]; omega
theorem In.at {w : World} {v : Value} {c : Cel} (h : In w v c) (hb : c.big ≤ 2097152) : At false w v c := by
  induction h with
  | i x => exact .i x
  | b x => exact .b x
  | s x hx => exact .s x
  | l a T k n c cs vs h1 h2 hn h3 h4 ih =>
    simp only [Cel.big] at hb
    exact .l a T k n c cs vs h1 h2 (by omega) (fun h => by cases h) h3 fun j v c hv hc => ih j v c hv hc (by have := big_mem hc; omega)
theorem InL.at {w : World} {vs : List Value} {cs : List Cel} (h : InL w vs cs) (hb : bigL cs ≤ 2097152) : AtL false w vs cs :=
  ⟨h.1, fun j v c hv hc => (h.2 j v c hv hc).at (by have := big_mem hc; omega)⟩
theorem InL.nil {w : World} : InL w [] [] := ⟨rfl, fun j v c hv _ => by simp at hv⟩
theorem InL.cons {w : World} {v : Value} {c : Cel} {vs : List Value} {cs : List Cel} (h : In w v c) (hs : InL w vs cs) : InL w (v :: vs) (c :: cs) := by
  refine ⟨by simp [hs.1], fun j v' c' hv hc => ?_⟩
  cases j with
  | zero => simp at hv hc; subst hv hc; exact h
  | succ j => simp at hv hc; exact hs.2 j v' c' hv hc
theorem InL.nilE {w : World} {vs : List Value} (h : InL w vs []) : vs = [] := List.length_eq_zero_iff.1 h.1
theorem InL.consE {w : World} {vs : List Value} {c : Cel} {cs : List Cel} (h : InL w vs (c :: cs)) : ∃ v vs', vs = v :: vs' ∧ In w v c ∧ InL w vs' cs := by
  match vs, h with
  | [], h => have := h.1; simp at this
  | v :: vs', h => exact ⟨v, vs', rfl, h.2 0 v c rfl rfl, ⟨by have := h.1; simpa using this, fun j v' c' hv hc => h.2 (j + 1) v' c' (by simpa using hv) (by simpa using hc)⟩⟩
theorem In.int {w : World} {v : Value} {x : Int} (h : In w v (.i x)) : v = .int .i64 x := by cases h; rfl
theorem In.bool {w : World} {v : Value} {x : Bool} (h : In w v (.b x)) : v = .bool x := by cases h; rfl
theorem In.str {w : World} {v : Value} {x : ByteArray} (h : In w v (.s x)) : v = .string x := by cases h; rfl
theorem In.openL {w : World} {v : Value} {T : TypeId} {k n : Nat} {cs : List Cel} (h : In w v (.l T k n cs)) : ∃ (a : Option Addr) (c : Nat) (vs : List Value), v = .slice a n c ∧ vs.length = n * k ∧ cs.length = n * k ∧ n ≤ 9223372036854775807 ∧
    (n = 0 ∨ ∃ b o, a = some ⟨b, o, none⟩ ∧ ∀ j, j < n * k → w.cell? ⟨b, o + j, none⟩ = vs[j]?) ∧ ∀ (j : Nat) (v : Value) (c : Cel), vs[j]? = some v → cs[j]? = some c → In w v c := by
  cases h with
  | l a T k n c cs vs h1 h2 hn h3 h4 => exact ⟨a, c, vs, rfl, h1, h2, hn, h3, h4⟩
def Ty.flat : Ty → Bool
  | .i => true
  | .b => true
  | _ => false
def Left (w : World) (m : Nat) (l : Int) (e : Ending) (w' : World) : Prop := Below w.heap.size w w' ∧ ((∃ r : Int, e = .returned (.int .i64 r) ∧ (m : Int) ≤ l ∧ r = l - (m : Int)) ∨ (e = .returned (.int .i64 (-1)) ∧ l < (m : Int)))
structure One (w W : World) (A : Array Value) (T : TypeId) : Prop where
  a : Box W w.heap.size A T
  on : Below w.heap.size w W
theorem One.call {w W W' : World} {A : Array Value} {T : TypeId} (h : One w W A T) (hb : Below W.heap.size W W') : One w W' A T := ⟨h.a.below hb h.a.lt, h.on.trans (hb.mono h.on.size)⟩
def colD (r : List Cel) : Col3 := (textC (nthC r 0), numC (nthC r 1), boolC (nthC r 2))
def colsD (cs : List Cel) (n : Nat) : List Col3 := (List.range n).map fun i => colD (row cs 3 i)
def idxD (r : List Cel) : Idx3 := (textC (nthC r 0), nums (listC (nthC r 1)), boolC (nthC r 2))
def idxsD (cs : List Cel) (n : Nat) : List Idx3 := (List.range n).map fun i => idxD (row cs 3 i)
def schD (cs : List Cel) : SchD := ⟨colsD (listC (nthC cs 0)) (lenC (nthC cs 0)), nums (listC (nthC cs 1)), idxsD (listC (nthC cs 2)) (lenC (nthC cs 2))⟩
theorem ints_of {w : World} {v : Value} {n : Nat} {cs : List Cel} (h : At true w v (.l 3 1 n cs)) (hs : Has (.l 3 1 n cs) (.l 3 1 [.i])) : ∃ a c, v = .slice a n c ∧ IntAt w a n (nums cs) ∧ n ≤ 2097152 ∧ n ≤ c := by
  obtain ⟨a, c, vs, rfl, h1, h2, hn, hq, h3, h4⟩ := h.openL
  refine ⟨a, c, rfl, ⟨by unfold nums; rw [List.length_map]; omega, by omega, ?_⟩, hn, (hq rfl).2⟩
  rcases h3 with h0 | ⟨b, o, rfl, hc⟩
  · exact .inl h0
  · refine .inr ⟨b, o, rfl, fun j hj => ?_⟩
    rw [hc j (by omega)]
    have hv : vs[j]? = some (vs[j]'(by omega)) := List.getElem?_eq_getElem (by omega)
    have hcj : cs[j]? = some (cs[j]'(by omega)) := List.getElem?_eq_getElem (by omega)
    have hat := h4 j _ _ hv hcj
    obtain ⟨x, hx⟩ : ∃ x, cs[j]'(by omega) = .i x := by
      cases hs with
      | l _ _ _ _ _ hk hl hh =>
        have ht := hh j _ _ hcj (show ([.i] : List Ty)[j % 1]? = some .i by rw [Nat.mod_one]; rfl)
        exact ht.int
    rw [hx] at hat
    rw [hv, hat.int]
    have : (nums cs).getD j 0 = x := by
      unfold nums
      have hjc : j < cs.length := by omega
      simp [List.getD, hjc, hx, numC]
    rw [this]
theorem cols_of {w : World} {v : Value} {n : Nat} {cs : List Cel} (h : At true w v (.l 75 3 n cs)) (hs : Has (.l 75 3 n cs) (.l 75 3 tyCol)) : ∃ a c, v = .slice a n c ∧ ColsAt w a n (colsD cs n) ∧ n ≤ c := by
  obtain ⟨a, c, vs, rfl, h1, h2, hn, hq, h3, h4⟩ := h.openL
  refine ⟨a, c, rfl, ⟨by simp [colsD], hn, ?_⟩, (hq rfl).2⟩
  rcases h3 with h0 | ⟨b, o, rfl, hc⟩
  · exact .inl h0
  · refine .inr ⟨b, o, rfl, fun i x hx => ?_⟩
    have hi : i < n := by have := (List.getElem?_eq_some_iff.1 hx).1; simpa [colsD] using this
    have hx' : x = colD (row cs 3 i) := by
      have := (List.getElem?_eq_some_iff.1 hx).2
      rw [← this]
      simp [colsD]
    have hA := rowVals h1 h2 h4 hi
    have hH := hs.rowL hi
    have hcv : ∀ r, r < 3 → w.cell? ⟨b, o + (i * 3 + r), none⟩ = ((vs.drop (i * 3)).take 3)[r]? := fun r hr => by
      rw [List.getElem?_take_of_lt hr, List.getElem?_drop]
      exact hc (i * 3 + r) (by omega)
    subst hx'
    obtain ⟨rs, hrs⟩ : ∃ rs, row cs 3 i = rs := ⟨_, rfl⟩
    obtain ⟨ws, hws⟩ : ∃ ws, (vs.drop (i * 3)).take 3 = ws := ⟨_, rfl⟩
    rw [hrs] at hA hH ⊢
    rw [hws] at hA hcv
    obtain ⟨x0, r0, rfl, T0, hH0⟩ := hH.cons
    obtain ⟨x1, r1, rfl, T1, hH1⟩ := hH0.cons
    obtain ⟨x2, r2, rfl, T2, hH2⟩ := hH1.cons
    obtain rfl := hH2.nil
    obtain ⟨v0, vr0, rfl, A0, hA0⟩ := hA.consE
    obtain ⟨v1, vr1, rfl, A1, hA1⟩ := hA0.consE
    obtain ⟨v2, vr2, rfl, A2, hA2⟩ := hA1.consE
    obtain rfl := hA2.nilE
    obtain ⟨y0, rfl⟩ := T0.str
    obtain rfl := A0.str
    obtain ⟨y1, rfl⟩ := T1.int
    obtain rfl := A1.int
    obtain ⟨y2, rfl⟩ := T2.bool
    obtain rfl := A2.bool
    exact ⟨hcv 0 (by omega), by have := hcv 1 (by omega); rw [Nat.add_assoc]; exact this, by have := hcv 2 (by omega); rw [Nat.add_assoc]; exact this⟩
theorem idxs_of {w : World} {v : Value} {n : Nat} {cs : List Cel} (h : At true w v (.l 105 3 n cs)) (hs : Has (.l 105 3 n cs) (.l 105 3 tyIndex)) : ∃ a c, v = .slice a n c ∧ IdxAt w a n (idxsD cs n) ∧ n ≤ c := by
  obtain ⟨a, c, vs, rfl, h1, h2, hn, hq, h3, h4⟩ := h.openL
  refine ⟨a, c, rfl, ⟨by simp [idxsD], hn, ?_⟩, (hq rfl).2⟩
  rcases h3 with h0 | ⟨b, o, rfl, hc⟩
  · exact .inl h0
  · refine .inr ⟨b, o, rfl, fun i x hx => ?_⟩
    have hi : i < n := by have := (List.getElem?_eq_some_iff.1 hx).1; simpa [idxsD] using this
    have hx' : x = idxD (row cs 3 i) := by
      have := (List.getElem?_eq_some_iff.1 hx).2
      rw [← this]
      simp [idxsD]
    have hA := rowVals h1 h2 h4 hi
    have hH := hs.rowL hi
    have hcv : ∀ r, r < 3 → w.cell? ⟨b, o + (i * 3 + r), none⟩ = ((vs.drop (i * 3)).take 3)[r]? := fun r hr => by
      rw [List.getElem?_take_of_lt hr, List.getElem?_drop]
      exact hc (i * 3 + r) (by omega)
    subst hx'
    obtain ⟨rs, hrs⟩ : ∃ rs, row cs 3 i = rs := ⟨_, rfl⟩
    obtain ⟨ws, hws⟩ : ∃ ws, (vs.drop (i * 3)).take 3 = ws := ⟨_, rfl⟩
    rw [hrs] at hA hH ⊢
    rw [hws] at hA hcv
    obtain ⟨x0, r0, rfl, T0, hH0⟩ := hH.cons
    obtain ⟨x1, r1, rfl, T1, hH1⟩ := hH0.cons
    obtain ⟨x2, r2, rfl, T2, hH2⟩ := hH1.cons
    obtain rfl := hH2.nil
    obtain ⟨v0, vr0, rfl, A0, hA0⟩ := hA.consE
    obtain ⟨v1, vr1, rfl, A1, hA1⟩ := hA0.consE
    obtain ⟨v2, vr2, rfl, A2, hA2⟩ := hA1.consE
    obtain rfl := hA2.nilE
    obtain ⟨y0, rfl⟩ := T0.str
    obtain rfl := A0.str
    obtain ⟨m1, ds1, rfl, -⟩ := T1.list
    obtain ⟨ai, ci, rfl, hia, hn2, hnc⟩ := ints_of A1 T1
    obtain ⟨y2, rfl⟩ := T2.bool
    obtain rfl := A2.bool
    exact ⟨hcv 0 (by omega), ⟨ai, _, ci, (by have := hcv 1 (by omega); rw [Nat.add_assoc]; exact this), hnc, hn2, hia⟩, by have := hcv 2 (by omega); rw [Nat.add_assoc]; exact this⟩
theorem sch_of {w : World} {us : List Value} {cs : List Cel} (h : AtL true w us cs) (hs : HasL cs tySchema) : ∃ a1 n1 c1 a2 n2 c2 a3 n3 c3, us = [.slice a1 n1 c1, .slice a2 n2 c2, .slice a3 n3 c3] ∧ SchAt w a1 n1 c1 a2 n2 c2 a3 n3 c3 (schD cs) := by
  obtain ⟨x0, r0, rfl, T0, hH0⟩ := hs.cons
  obtain ⟨x1, r1, rfl, T1, hH1⟩ := hH0.cons
  obtain ⟨x2, r2, rfl, T2, hH2⟩ := hH1.cons
  obtain rfl := hH2.nil
  obtain ⟨v0, vr0, rfl, A0, hA0⟩ := h.consE
  obtain ⟨v1, vr1, rfl, A1, hA1⟩ := hA0.consE
  obtain ⟨v2, vr2, rfl, A2, hA2⟩ := hA1.consE
  obtain rfl := hA2.nilE
  obtain ⟨n0, l0, rfl, _⟩ := T0.list
  obtain ⟨n1, l1, rfl, _⟩ := T1.list
  obtain ⟨n2, l2, rfl, _⟩ := T2.list
  obtain ⟨a0, c0, rfl, g0, q0⟩ := cols_of A0 T0
  obtain ⟨a1, c1, rfl, g1, p1, q1⟩ := ints_of A1 T1
  obtain ⟨a2, c2, rfl, g2, q2⟩ := idxs_of A2 T2
  exact ⟨a0, n0, c0, a1, n1, c1, a2, n2, c2, rfl, ⟨g0, g1, g2, q0, q1, q2, p1⟩⟩
structure SchSz (S : SchD) : Prop where
  cols : ∀ x ∈ S.cols, x.1.size ≤ 1048576
  idx : ∀ x ∈ S.idx, x.1.size ≤ 1048576
structure Kept (S : Nat → Prop) (w w' : World) : Prop where
  on : Below 0 w w'
  oth : ∀ x, x < w.heap.size → ¬ S x → w'.heap[x]? = w.heap[x]?
theorem Kept.refl (S : Nat → Prop) (w : World) : Kept S w w := ⟨Below.refl _ _, fun _ _ _ => rfl⟩
theorem Kept.trans {S : Nat → Prop} {w w1 w2 : World} (h : Kept S w w1) (h' : Kept S w1 w2) : Kept S w w2 :=
  ⟨h.on.trans h'.on, fun x hx hS => (h'.oth x (Nat.lt_of_lt_of_le hx h.on.size) hS).trans (h.oth x hx hS)⟩
theorem Kept.mono {S S' : Nat → Prop} {w w' : World} (h : Kept S w w') (hS : ∀ x, S x → S' x) : Kept S' w w' := ⟨h.on, fun x hx hn => h.oth x hx fun hs => hn (hS x hs)⟩
theorem Kept.set {S : Nat → Prop} {w w' : World} (h : Kept S w w') {g i : Nat} (hg : S g) (v : Value) : Kept S w (w'.setCell ⟨g, i, none⟩ v) :=
  ⟨h.on.setCell (Nat.zero_le _) v, fun x hx hn => (Below.heap_setCell _ _ _ _ (fun e => by
    have e : x = g := e
    exact hn (by rw [e]; exact hg))).trans (h.oth x hx hn)⟩
theorem Kept.below {S : Nat → Prop} {w w' : World} (h : Kept S w w') {B : Nat} (hS : ∀ x, S x → B ≤ x) (hB : B ≤ w.heap.size) : Below B w w' :=
  ⟨h.on.os, h.on.tape, h.on.output, h.on.size, fun k hk => h.oth k (by omega) fun hs => by have := hS k hs; omega⟩
theorem Own.put {w : World} {base : Nat} {g n cap : Nat} {T : TypeId} {k : Nat} {cs : List Cel} {S : Nat → Prop} (h : Own w base (.slice (some ⟨g, 0, none⟩) n cap) (.l T k n cs) S) {j : Nat} {c c' : Cel} (hc : cs[j]? = some c) (h0 : ∀ v Sj, Own w base v c Sj → ∀ x, ¬ Sj x) {u : Value} (hu : ∀ w' Sj, (∀ x, ¬ Sj x) → Own w' base u c' Sj) :
    Own (w.setCell ⟨g, j, none⟩ u) base (.slice (some ⟨g, 0, none⟩) n cap) (.l T k n (cs.set j c')) S := by
  cases h with
  | l g cap T k n cs vs S Ss h1 h2 hn h4 h5 h6 h7 =>
    have hj : j < cs.length := (List.getElem?_eq_some_iff.1 hc).1
    have hl := h1.1
    have hv : vs[j]? = some (vs[j]'(by omega)) := List.getElem?_eq_getElem (by omega)
    have hz := h0 _ _ (h4 j _ _ hv hc)
    refine .l g cap T k n _ (vs.set j u) S Ss (h1.stored j u).1 (by simpa using h2) hn (fun i v d hvi hdi => ?_) h5 h6 h7
    by_cases hij : j = i
    · subst hij
      rw [List.getElem?_set_self (by omega)] at hvi hdi
      cases hvi
      cases hdi
      exact hu _ _ hz
    · rw [List.getElem?_set_ne hij] at hvi hdi
      exact (h4 i v d hvi hdi).heap fun x hx => Below.heap_setCell _ _ _ _ (fun e => h5 i (by have e : x = g := e; rw [← e]; exact hx))
theorem own_i {w : World} {base : Nat} {y : Int} (v : Value) (Sj : Nat → Prop) (h : Own w base v (.i y) Sj) : ∀ x, ¬ Sj x := by cases h; assumption
theorem own_b {w : World} {base : Nat} {y : Bool} (v : Value) (Sj : Nat → Prop) (h : Own w base v (.b y) Sj) : ∀ x, ¬ Sj x := by cases h; assumption
theorem Own.putI {w : World} {base : Nat} {g n cap : Nat} {T : TypeId} {k : Nat} {cs : List Cel} {S : Nat → Prop} (h : Own w base (.slice (some ⟨g, 0, none⟩) n cap) (.l T k n cs) S) {j : Nat} {y : Int} (hc : cs[j]? = some (.i y)) (z : Int) :
    Own (w.setCell ⟨g, j, none⟩ (.int .i64 z)) base (.slice (some ⟨g, 0, none⟩) n cap) (.l T k n (cs.set j (.i z))) S := h.put hc own_i fun _ _ hS => .i z _ hS
theorem Own.putB {w : World} {base : Nat} {g n cap : Nat} {T : TypeId} {k : Nat} {cs : List Cel} {S : Nat → Prop} (h : Own w base (.slice (some ⟨g, 0, none⟩) n cap) (.l T k n cs) S) {j : Nat} {y : Bool} (hc : cs[j]? = some (.b y)) (z : Bool) :
    Own (w.setCell ⟨g, j, none⟩ (.bool z)) base (.slice (some ⟨g, 0, none⟩) n cap) (.l T k n (cs.set j (.b z))) S := h.put hc own_b fun _ _ hS => .b z _ hS
def Marked (tx : Int → ByteArray) (w : World) (base : Nat) (v : Value) (c : Cel) (S : Nat → Prop) (q : Int) (e : Ending) (w' : World) : Prop := e = .returned (.int .i64 (q + (c.cnt : Int))) ∧ Own w' base v (c.mark tx q) S ∧ Kept S w w'
def SaysD (w : World) (x : Int) (e : Ending) (w' : World) : Prop := e = .returned (.int .i64 x) ∧ Below w.heap.size w w'
def topL (tx : Int → ByteArray) : List Cel → Int → List Cel
  | [], _ => []
  | .l T k n cs :: r, q => .l T k n (markL tx cs q) :: topL tx r (q + (cntL cs : Int))
  | .i x :: r, q => .i x :: topL tx r q
  | .b x :: r, q => .b x :: topL tx r q
  | .s x :: r, q => .s x :: topL tx r q
def tcnt : List Cel → Nat
  | [] => 0
  | .l _ _ _ cs :: r => cntL cs + tcnt r
  | .i _ :: r => tcnt r
  | .b _ :: r => tcnt r
  | .s _ :: r => tcnt r
theorem OwnL.set {w : World} {b : Nat} {vs : List Value} {cs : List Cel} {S S' : Nat → Prop} (h : OwnL w b vs cs S) (hS : ∀ x, S x ↔ S' x) : OwnL w b vs cs S' := by
  obtain ⟨l, Ss, h1, h2, h3⟩ := h
  exact ⟨l, Ss, h1, h2, fun x => (hS x).symm.trans (h3 x)⟩
theorem OwnL.none {w : World} {b : Nat} {S : Nat → Prop} (h : OwnL w b [] [] S) : ∀ x, ¬ S x := fun x hx => by
  obtain ⟨_, Ss, _, _, h3⟩ := h
  obtain ⟨j, hj, _⟩ := (h3 x).1 hx
  simp at hj
theorem OwnL.one {w : World} {b : Nat} {v : Value} {c : Cel} {S : Nat → Prop} (h : OwnL w b [v] [c] S) : Own w b v c S := by
  obtain ⟨S0, S1, h0, h1, -, hS⟩ := h.parts
  exact h0.set fun x => ⟨fun hx => (hS x).2 (.inl hx), fun hx => ((hS x).1 hx).resolve_right (h1.none x)⟩
abbrev Part := List Value × List Cel × (Nat → Prop)
structure Mg (w W : World) (base : Nat) (S : Nat → Prop) (A : Array Value) (T : TypeId) (R : List Part) : Prop where
  a : Box W w.heap.size A T
  on : Below 0 w W
  oth : ∀ x, x < w.heap.size → ¬ S x → W.heap[x]? = w.heap[x]?
  lt : ∀ x, S x → x < w.heap.size
  o : ∀ r ∈ R, OwnL W base r.1 r.2.1 r.2.2
  d : R.Pairwise (fun p q => ∀ x, p.2.2 x → ¬ q.2.2 x)
  u : ∀ x, S x ↔ ∃ r ∈ R, r.2.2 x
theorem Mg.step {w W W' : World} {base : Nat} {S Sf : Nat → Prop} {A : Array Value} {T : TypeId} {pre post : List Part} {vs : List Value} {cs cs' : List Cel} (h : Mg w W base S A T (pre ++ (vs, cs, Sf) :: post)) (ho : OwnL W' base vs cs' Sf) (hk : Kept Sf W W') : Mg w W' base S A T (pre ++ (vs, cs', Sf) :: post) := by
  have sub : ∀ x, Sf x → S x := fun x hx => (h.u x).2 ⟨(vs, cs, Sf), by simp, hx⟩
  have lt : ∀ x, x < w.heap.size → x < W.heap.size := fun x hx => Nat.lt_of_lt_of_le hx h.on.size
  have hd := List.pairwise_append.1 h.d
  have hd2 := List.pairwise_cons.1 hd.2.1
  refine ⟨?_, h.on.trans hk.on, fun x hx hn => (hk.oth x (lt x hx) fun hs => hn (sub x hs)).trans (h.oth x hx hn), h.lt, fun r hr => ?_, ?_, fun x => ?_⟩
  · exact (hk.oth _ h.a.lt fun hs => by have := h.lt _ (sub _ hs); omega).trans h.a
  · have keep : r ∈ pre ++ (vs, cs, Sf) :: post → (∀ x, r.2.2 x → ¬ Sf x) → OwnL W' base r.1 r.2.1 r.2.2 := fun hr hn => (h.o r hr).heap fun x hx => hk.oth x ((h.o r hr).lt x hx).2 (hn x hx)
    rcases List.mem_append.1 hr with hr | hr
    · exact keep (List.mem_append.2 (.inl hr)) (fun x hx => hd.2.2 r hr _ (List.mem_cons_self ..) x hx)
    · rcases List.mem_cons.1 hr with rfl | hr
      · exact ho
      · exact keep (List.mem_append.2 (.inr (List.mem_cons_of_mem _ hr))) (fun x hx hs => hd2.1 r hr x hs hx)
  · refine List.pairwise_append.2 ⟨hd.1, List.pairwise_cons.2 ⟨fun r hr => hd2.1 r hr, hd2.2⟩, fun r hr q hq => ?_⟩
    rcases List.mem_cons.1 hq with rfl | hq
    · exact hd.2.2 r hr (vs, cs, Sf) (List.mem_cons_self ..)
    · exact hd.2.2 r hr q (List.mem_cons_of_mem _ hq)
  · rw [h.u x]
    constructor
    · rintro ⟨r, hr, hx⟩
      rcases List.mem_append.1 hr with hr | hr
      · exact ⟨r, List.mem_append.2 (.inl hr), hx⟩
      · rcases List.mem_cons.1 hr with rfl | hr
        · exact ⟨(vs, cs', Sf), by simp, hx⟩
        · exact ⟨r, List.mem_append.2 (.inr (List.mem_cons_of_mem _ hr)), hx⟩
    · rintro ⟨r, hr, hx⟩
      rcases List.mem_append.1 hr with hr | hr
      · exact ⟨r, List.mem_append.2 (.inl hr), hx⟩
      · rcases List.mem_cons.1 hr with rfl | hr
        · exact ⟨(vs, cs, Sf), by simp, hx⟩
        · exact ⟨r, List.mem_append.2 (.inr (List.mem_cons_of_mem _ hr)), hx⟩
theorem Mg.at {w W : World} {base : Nat} {S Sf : Nat → Prop} {A : Array Value} {T : TypeId} {pre post : List Part} {vs : List Value} {cs : List Cel} (h : Mg w W base S A T (pre ++ (vs, cs, Sf) :: post)) : OwnL W base vs cs Sf := h.o (vs, cs, Sf) (by simp)
theorem Mg.all {w W : World} {base : Nat} {S : Nat → Prop} {A : Array Value} {T : TypeId} {R : List Part} (h : Mg w W base S A T R) : OwnL W base (R.flatMap (·.1)) (R.flatMap (·.2.1)) S ∧ Kept S w W := ⟨(owns_all h.o h.d).set fun x => (h.u x).symm, h.on, h.oth⟩
def MarkedL (tx : Int → ByteArray) (w : World) (base : Nat) (vs : List Value) (cs : List Cel) (S : Nat → Prop) (q : Int) (e : Ending) (w' : World) : Prop := e = .returned (.int .i64 (q + (tcnt cs : Int))) ∧ OwnL w' base vs (topL tx cs q) S ∧ Kept S w w'
theorem Own.open9 {w : World} {base : Nat} {v : Value} {T : TypeId} {k n : Nat} {cs : List Cel} {S : Nat → Prop} (h : Own w base v (.l T k n cs) S) : ∃ vs, w.ownsRow base T k v n vs ∧
    ∀ (v' : Value) (w' : World) (us : List Value) (rs : List Cel) (S' : Nat → Prop), OwnL w base us rs S' → (∀ x, S' x → ¬ S x) → rs.length = k → n + 1 ≤ 2097152 → w'.ownsRow base T k v' (n + 1) (vs ++ us) → w.grownBy w' v.ownBlock → (v'.ownBlock = v.ownBlock ∨ v'.ownBlock = some w.heap.size) →
      ∃ S'', Own w' base v' (.l T k (n + 1) (cs ++ rs)) S'' ∧ ∀ x, S'' x → S x ∨ S' x ∨ x = w.heap.size := by
  have key : ∃ (vs : List Value) (Ss : Nat → Nat → Prop), w.ownsRow base T k v n vs ∧ cs.length = n * k ∧ (∀ (j : Nat) (u : Value) (c : Cel), vs[j]? = some u → cs[j]? = some c → Own w base u c (Ss j)) ∧ (∀ j x, j < n * k → Ss j x → S x) ∧ (∀ j g, v.ownBlock = some g → ¬ Ss j g) ∧ (∀ g, v.ownBlock = some g → S g) ∧ ∀ i j x, i ≠ j → Ss i x → ¬ Ss j x := by
    cases h with
    | nil T k S hS => exact ⟨[], fun _ _ => False, World.ownsRow_nil _ _ _ _, by simp, (fun j u c hu _ => by simp at hu), (fun j x hj => by simp at hj), (fun j g e => by cases e), (fun g e => by cases e), fun _ _ _ _ h => h.elim⟩
    | l g cap T k n cs vs S Ss h1 h2 hn h4 h5 h6 h7 =>
      exact ⟨vs, Ss, h1, h2, h4, fun j x hj hx => (h7 x).2 (.inr ⟨j, hj, hx⟩), fun j g' e => by have e2 : g = g' := Option.some.inj e; rw [← e2]; exact h5 j, fun g' e => by have e2 : g = g' := Option.some.inj e; rw [← e2]; exact (h7 g).2 (.inl rfl), h6⟩
  obtain ⟨vs, Ss, h1, h2, h4, hsub, h5, hg, h6⟩ := key
  have hlv := h1.1
  refine ⟨vs, h1, fun v' w' us rs S' hu hd hk hn hrow hgrow hwhere => ?_⟩
  obtain ⟨hul, Us, u1, u2, u3⟩ := hu
  have hus : us.length = k := by omega
  have hlt : ∀ x, S x → x < w.heap.size := fun x hx => (h.lt x hx).2
  have hlt' : ∀ x, S' x → x < w.heap.size := fun x hx => by
    obtain ⟨j, hj, hx⟩ := (u3 x).1 hx
    exact ((u1 j _ _ (List.getElem?_eq_getElem hj) (List.getElem?_eq_getElem (by omega))).lt x hx).2
  have keepS : ∀ j x, j < n * k → Ss j x → w'.heap[x]? = w.heap[x]? := fun j x hj hx => hgrow.block x (hlt x (hsub j x hj hx)) (fun e => h5 j x e.symm hx)
  have keepU : ∀ j x, j < us.length → Us j x → w'.heap[x]? = w.heap[x]? := fun j x hj hx => hgrow.block x (hlt' x ((u3 x).2 ⟨j, hj, hx⟩)) (fun e => hd x ((u3 x).2 ⟨j, hj, hx⟩) (hg x e.symm))
  rcases owns_forms hrow with ⟨-, h0⟩ | ⟨g, cap, rfl⟩
  · omega
  have hgg : v.ownBlock = some g ∨ g = w.heap.size := by
    rcases hwhere with e | e
    · exact .inl (by rw [← e]; rfl)
    · exact .inr (Option.some.inj e)
  have hnS : ∀ j, j < n * k → ¬ Ss j g := fun j hj hx => by
    rcases hgg with e | e
    · exact h5 j g e hx
    · have := hlt g (hsub j g hj hx); omega
  have hnU : ∀ j, j < us.length → ¬ Us j g := fun j hj hx => by
    have hs' : S' g := (u3 g).2 ⟨j, hj, hx⟩
    rcases hgg with e | e
    · exact hd g hs' (hg g e)
    · have := hlt' g hs'; omega
  refine ⟨fun x => x = g ∨ ∃ j, j < (n + 1) * k ∧ (if j < n * k then Ss j else Us (j - n * k)) x, .l g cap T k (n + 1) (cs ++ rs) (vs ++ us) _ (fun j => if j < n * k then Ss j else if j < (n + 1) * k then Us (j - n * k) else fun _ => False) hrow (by rw [List.length_append, h2, hk, Nat.succ_mul]) hn ?_ ?_ ?_ ?_, ?_⟩
  · intro j u c hu hc
    by_cases hj : j < n * k
    · rw [List.getElem?_append_left (by omega)] at hu
      rw [List.getElem?_append_left (by omega)] at hc
      rw [if_pos hj]
      exact (h4 j u c hu hc).heap fun x hx => keepS j x hj hx
    · rw [List.getElem?_append_right (by omega), hlv] at hu
      rw [List.getElem?_append_right (by omega), h2] at hc
      have hjj : j - n * k < us.length := (List.getElem?_eq_some_iff.1 hu).1
      rw [if_neg hj, if_pos (by rw [Nat.succ_mul]; omega)]
      exact (u1 _ u c hu hc).heap fun x hx => keepU _ x hjj hx
  · intro j
    show ¬ (if j < n * k then Ss j else if j < (n + 1) * k then Us (j - n * k) else fun _ => False) g
    split
    · rename_i hj; exact hnS j hj
    · split
      · rename_i hj hj'; exact hnU _ (by rw [Nat.succ_mul] at hj'; omega)
      · exact fun h => h
  · intro i j x hij
    show (if i < n * k then Ss i else if i < (n + 1) * k then Us (i - n * k) else fun _ => False) x → ¬ (if j < n * k then Ss j else if j < (n + 1) * k then Us (j - n * k) else fun _ => False) x
    by_cases hi : i < n * k
    · rw [if_pos hi]
      intro hx
      by_cases hj : j < n * k
      · rw [if_pos hj]; exact h6 i j x hij hx
      · rw [if_neg hj]
        split
        · rename_i hj'
          exact fun hx' => hd x ((u3 x).2 ⟨_, by rw [Nat.succ_mul] at hj'; omega, hx'⟩) (hsub i x hi hx)
        · exact fun h => h
    · rw [if_neg hi]
      split
      · rename_i hi'
        intro hx
        by_cases hj : j < n * k
        · rw [if_pos hj]
          exact fun hx' => hd x ((u3 x).2 ⟨_, by rw [Nat.succ_mul] at hi'; omega, hx⟩) (hsub j x hj hx')
        · rw [if_neg hj]
          split
          · exact u2 _ _ x (by omega) hx
          · exact fun h => h
      · exact fun h => h.elim
  · intro x
    constructor
    · rintro (rfl | ⟨j, hj, hx⟩)
      · exact .inl rfl
      · refine .inr ⟨j, hj, ?_⟩
        by_cases hj2 : j < n * k
        · rw [if_pos hj2] at hx ⊢; exact hx
        · rw [if_neg hj2] at hx ⊢; rw [if_pos hj]; exact hx
    · rintro (rfl | ⟨j, hj, hx⟩)
      · exact .inl rfl
      · refine .inr ⟨j, hj, ?_⟩
        by_cases hj2 : j < n * k
        · rw [if_pos hj2] at hx ⊢; exact hx
        · rw [if_neg hj2, if_pos hj] at hx; rw [if_neg hj2]; exact hx
  · rintro x (rfl | ⟨j, hj, hx⟩)
    · rcases hgg with e | e
      · exact .inl (hg x e)
      · exact .inr (.inr e)
    · by_cases hj2 : j < n * k
      · rw [if_pos hj2] at hx; exact .inl (hsub j x hj2 hx)
      · rw [if_neg hj2] at hx; exact .inr (.inl ((u3 x).2 ⟨_, by rw [Nat.succ_mul] at hj; omega, hx⟩))
end
section
open Go.ChangeShapes Go.WideShapes Go.RowKit
def TextSays (e : Ending) (l : List UInt8) : Prop := ∃ s : ByteArray, e = .returned (.string s) ∧ s.data.toList = l
end
section
open Go.ChangeShapes Go.WideShapes Go.ChangeAt Go.RowKit
open Go.Lib (byteCells byteCells_length byteCells_append)

abbrev BOwn (w : World) (base : Nat) (v : Value) (l : List UInt8) : Prop := w.ownsRow base 5 1 v l.length (byteCells l)
theorem add_plain (b o j : Nat) : (⟨b, o, none⟩ : Addr).add j = ⟨b, o + j, none⟩ := by unfold Addr.add; split <;> simp_all
theorem own_block {w : World} {base : Nat} {e : TypeId} {size n : Nat} {v : Value} {xs : List Value} (h : w.ownsRow base e size v n xs) : ∀ k, v.ownBlock = some k → base ≤ k := by
  intro k hk
  rcases h.2 with ⟨rfl, _⟩ | ⟨g, cap, cur, rfl, hg, _⟩
  · cases hk
  · cases hk; exact hg
theorem below_app {a w w' : World} {B : Nat} {v : Value} (hb : Below B a w) (hs : B ≤ w.heap.size) (hv : ∀ k, v.ownBlock = some k → B ≤ k) (hg : w.grownBy w' v.ownBlock) : Below B a w' := hb.grown hg hs hv
abbrev IOwn (w : World) (base : Nat) (v : Value) (l : List Int) : Prop := w.ownsRow base 3 1 v l.length (l.map I)
end
section
open Go.RowKit
theorem and255 (x : Int) : bits .and .i64 x 255 = x % 256 := by
  have e : ((BitVec.ofInt 64 x) &&& (BitVec.ofInt 64 255)).toNat = (x % 256).toNat := by
    rw [BitVec.toNat_and, BitVec.toNat_ofInt, BitVec.toNat_ofInt, show ((255 : Int) % ((2 ^ 64 : Nat) : Int)).toNat = 2 ^ 8 - 1 by decide, Nat.and_two_pow_sub_one_eq_mod]
    omega
  show IntKind.i64.wrap (((BitVec.ofInt 64 x) &&& (BitVec.ofInt 64 255)).toNat : Int) = _
  rw [e, IntKind.wrap_i64]
  omega

structure Only (p : Nat) (w w' : World) : Prop where
  os : w'.os = w.os
  tape : w'.tape = w.tape
  output : w'.output = w.output
  size : w'.heap.size = w.heap.size
  block : ∀ k, k ≠ p → w'.heap[k]? = w.heap[k]?
theorem Only.refl (p : Nat) (w : World) : Only p w w := ⟨rfl, rfl, rfl, rfl, fun _ _ => rfl⟩
theorem Only.trans {p : Nat} {a b c : World} (h : Only p a b) (k : Only p b c) : Only p a c :=
  ⟨k.os.trans h.os, k.tape.trans h.tape, k.output.trans h.output, k.size.trans h.size, fun i hi => (k.block i hi).trans (h.block i hi)⟩
theorem Only.drew {p : Nat} {a b : World} (h : Only p a b) : Only p a b.drew := ⟨h.os, h.tape, h.output, h.size, h.block⟩
theorem Only.setCell {p : Nat} {a b : World} (h : Only p a b) (o : Nat) (v : Value) : Only p a (b.setCell ⟨p, o, none⟩ v) :=
  h.trans ⟨rfl, rfl, rfl, by simp [World.setCell], fun k hk => Below.heap_setCell _ _ _ _ hk⟩
theorem Only.below {p : Nat} {w w' : World} (h : Only p w w') {B : Nat} (hB : B ≤ p) : Below B w w' :=
  ⟨h.os, h.tape, h.output, Nat.le_of_eq h.size.symm, fun k hk => h.block k (by omega)⟩
theorem Only.owns {p : Nat} {w w' : World} (h : Only p w w') {base : Nat} {e : TypeId} {size : Nat} {v : Value} {n : Nat} {xs : List Value} (ho : w.ownsRow base e size v n xs) (hp : p < base) : w'.ownsRow base e size v n xs := by
  obtain ⟨h1, h2 | ⟨g, cap, cur, h3, h4, h5, h6⟩⟩ := ho
  · exact ⟨h1, .inl h2⟩
  · exact ⟨h1, .inr ⟨g, cap, cur, h3, h4, by rw [h.block g (by omega)]; exact h5, h6⟩⟩

def BytesAt (w : World) (p : Nat) (a : Option Addr) (n : Nat) : Prop :=
  n = 0 ∨ ∃ b o, a = some ⟨b, o, none⟩ ∧ b < p ∧ ∀ j, j < n → ∃ z : Nat, z ≤ 255 ∧ w.cell? ⟨b, o + j, none⟩ = some (.int .u8 (z : Int))
theorem BytesAt.keep {w w' : World} {p : Nat} {a : Option Addr} {n : Nat} (h : BytesAt w p a n) (hb : ∀ k, k < p → w'.heap[k]? = w.heap[k]?) : BytesAt w' p a n := by
  rcases h with h | ⟨b, o, h1, h2, h3⟩
  · exact .inl h
  · refine .inr ⟨b, o, h1, h2, fun j hj => ?_⟩
    obtain ⟨z, h4, h5⟩ := h3 j hj
    exact ⟨z, h4, by rw [World.cell?_of_block (w := w) (hb b h2)]; exact h5⟩
theorem BytesAt.mono {w : World} {p q : Nat} {a : Option Addr} {n : Nat} (h : BytesAt w p a n) (hq : p ≤ q) : BytesAt w q a n := by
  rcases h with h | ⟨b, o, h1, h2, h3⟩
  · exact .inl h
  · exact .inr ⟨b, o, h1, by omega, h3⟩

def CurIs (T : TypeId) (w : World) (p : Nat) (a : Option Addr) (n c : Nat) (i h : Int) : Prop :=
  w.heap[p]? = some (.cells #[.slice a n c, .int .i64 i, .int .i64 h] T (0, 0))
def Cur (T : TypeId) (w : World) (p : Nat) (a : Option Addr) (n c : Nat) : Prop :=
  (∃ i h : Int, CurIs T w p a n c i h ∧ 0 ≤ i ∧ i ≤ n) ∧ BytesAt w p a n ∧ n ≤ 1048576
theorem Cur.keep {T : TypeId} {w w' : World} {p : Nat} {a : Option Addr} {n c : Nat} (h : Cur T w p a n c) (hb : ∀ k, k ≤ p → w'.heap[k]? = w.heap[k]?) : Cur T w' p a n c := by
  obtain ⟨⟨i, x, h1, h2⟩, h3, h4⟩ := h
  exact ⟨⟨i, x, by unfold CurIs; rw [hb p (Nat.le_refl _)]; exact h1, h2⟩, h3.keep (fun k hk => hb k (by omega)), h4⟩
theorem Cur.lt {T : TypeId} {w : World} {p : Nat} {a : Option Addr} {n c : Nat} (h : Cur T w p a n c) : p < w.heap.size := by
  obtain ⟨⟨i, x, h1, h2⟩, h3, h4⟩ := h
  exact (Array.getElem?_eq_some_iff.1 h1).1
theorem CurIs.cell {T : TypeId} {w : World} {p : Nat} {a : Option Addr} {n c : Nat} {i x : Int} (h : CurIs T w p a n c i x) :
    w.cell? ⟨p, 0, none⟩ = some (.slice a n c) ∧ w.cell? ⟨p, 1, none⟩ = some (.int .i64 i) ∧ w.cell? ⟨p, 2, none⟩ = some (.int .i64 x) := by
  unfold CurIs at h
  simp [World.cell?, h]
theorem CurIs.frozen {T : TypeId} {w : World} {p : Nat} {a : Option Addr} {n c : Nat} {i x : Int} (h : CurIs T w p a n c i x) (j : Nat) : w.frozen? ⟨p, j, none⟩ = false := by
  unfold CurIs at h
  simp [World.frozen?, h]
theorem CurIs.set1 {T : TypeId} {w : World} {p : Nat} {a : Option Addr} {n c : Nat} {i x : Int} (h : CurIs T w p a n c i x) (i' : Int) : CurIs T (w.setCell ⟨p, 1, none⟩ (.int .i64 i')) p a n c i' x := by
  unfold CurIs at h ⊢
  obtain ⟨hlt, h'⟩ := Array.getElem?_eq_some_iff.1 h
  show (w.heap.modify p _)[p]? = _
  rw [Array.getElem?_eq_getElem (by simpa using hlt), Array.getElem_modify_self, h']
  rfl
theorem CurIs.set2 {T : TypeId} {w : World} {p : Nat} {a : Option Addr} {n c : Nat} {i x : Int} (h : CurIs T w p a n c i x) (x' : Int) : CurIs T (w.setCell ⟨p, 2, none⟩ (.int .i64 x')) p a n c i x' := by
  unfold CurIs at h ⊢
  obtain ⟨hlt, h'⟩ := Array.getElem?_eq_some_iff.1 h
  show (w.heap.modify p _)[p]? = _
  rw [Array.getElem?_eq_getElem (by simpa using hlt), Array.getElem_modify_self, h']
  rfl
theorem CurIs.drew {T : TypeId} {w : World} {p : Nat} {a : Option Addr} {n c : Nat} {i x : Int} (h : CurIs T w p a n c i x) : CurIs T w.drew p a n c i x := h

theorem byte_fin {C D : Prop} (V : Int) (hC : C) (hD : D) : ∃ x : Nat, x ≤ 255 ∧ Ending.returned (.int .i64 (V % 256)) = .returned (.int .i64 (x : Int)) ∧ C ∧ D :=
  ⟨(V % 256).toNat, by omega, by rw [show (((V % 256).toNat : Nat) : Int) = V % 256 by omega], hC, hD⟩
theorem cur_of {T : TypeId} {w w' : World} {p : Nat} {a : Option Addr} {n c : Nat} {i x : Int} (hO : Only p w w') (hB : BytesAt w p a n) (hI : CurIs T w' p a n c i x) (h0 : 0 ≤ i) (h1 : i ≤ n) (hn : n ≤ 1048576) : Cur T w' p a n c :=
  ⟨⟨i, x, hI, h0, h1⟩, hB.keep (fun k hk => hO.block k (by omega)), hn⟩
theorem below_fin {C D : Prop} {x : Nat} {m : Int} (h0 : 1 ≤ m) (hC : C) (hD : D) : ∃ y : Nat, (y : Int) < m ∧ Ending.returned (.int .i64 ((x : Int) % m)) = .returned (.int .i64 (y : Int)) ∧ C ∧ D := by
  obtain ⟨q, rfl⟩ : ∃ q : Nat, m = (q : Int) := ⟨m.toNat, by omega⟩
  have := Nat.mod_lt x (show 0 < q by omega)
  exact ⟨x % q, by omega, by rw [Int.natCast_emod], hC, hD⟩
theorem cur_new {T : TypeId} {w : World} {a : Option Addr} {n c : Nat} {x : Int} (hB : BytesAt w w.heap.size a n) (hn : n ≤ 1048576) : Cur T (w.alloc (.cells #[.slice a n c, .int .i64 0, .int .i64 x] T)) w.heap.size a n c :=
  ⟨⟨0, x, heap_alloc_new w _, by omega, by omega⟩, hB.keep (fun k hk => Below.heap_alloc _ _ _ hk), hn⟩
theorem Only.cell {p : Nat} {w w' : World} (h : Only p w w') {g o : Nat} (hg : g ≠ p) : w'.cell? ⟨g, o, none⟩ = w.cell? ⟨g, o, none⟩ := World.cell?_of_block (w := w) (h.block g hg)
end
section
open Go.ChangeShapes Go.WideShapes Go.ChangeAt Go.RowKit
theorem far_below {w w' : World} (h : Below w.heap.size w w') (row : Option Nat) : w.grownBy w' row := ⟨h.os, h.tape, h.output, h.size, fun k hk _ => h.block k hk⟩
theorem far_set {w0 w : World} {row : Option Nat} (h : w0.grownBy w row) {a : Addr} (ha : w0.heap.size ≤ a.block) (v : Value) : w0.grownBy (w.setCell a v) row :=
  ⟨h.os, h.tape, h.output, by simpa [World.setCell] using h.size, fun k hk hr => by rw [Below.heap_setCell _ _ _ _ (fun e => by omega)]; exact h.block k hk hr⟩
theorem far_only {p : Nat} {w w' : World} (h : Only p w w') : w.grownBy w' (some p) := ⟨h.os, h.tape, h.output, Nat.le_of_eq h.size.symm, fun k _ hk => h.block k (fun e => hk (by rw [e]))⟩
theorem cur_below {T : TypeId} {w w' : World} {p : Nat} {a : Option Addr} {n c : Nat} (h : Cur T w p a n c) (hb : Below w.heap.size w w') : Cur T w' p a n c :=
  h.keep fun k hk => hb.block k (Nat.lt_of_le_of_lt hk h.lt)
theorem cur_set {T : TypeId} {w : World} {p : Nat} {a : Option Addr} {n c : Nat} (h : Cur T w p a n c) {q : Addr} (hq : p < q.block) (v : Value) : Cur T (w.setCell q v) p a n c :=
  h.keep fun k hk => Below.heap_setCell _ _ _ _ (fun e => by omega)
theorem cur_alloc {T : TypeId} {w : World} {p : Nat} {a : Option Addr} {n c : Nat} (h : Cur T w p a n c) (o : Obj) : Cur T (w.alloc o) p a n c := cur_below h ((Below.refl _ w).alloc (Nat.le_refl _) o)
theorem own_only {p : Nat} {w w' : World} {base : Nat} {e : TypeId} {size : Nat} {v : Value} {n : Nat} {xs : List Value} (ho : w.ownsRow base e size v n xs) (h : w.grownBy w' (some p)) (hp : p < base) : w'.ownsRow base e size v n xs := by
  obtain ⟨h1, h2 | ⟨g, cap, cur, h3, h4, h5, h6⟩⟩ := ho
  · exact ⟨h1, .inl h2⟩
  · exact ⟨h1, .inr ⟨g, cap, cur, h3, h4, by rw [h.block g (Array.getElem?_eq_some_iff.1 h5).1 (by simp; omega)]; exact h5, h6⟩⟩
theorem Box.farG {w w' : World} {b p : Nat} {cs : Array Value} {T : TypeId} (h : Box w b cs T) (hg : w.grownBy w' (some p)) (hp : ¬ b = p) : Box w' b cs T := by
  unfold Box at h ⊢
  rw [hg.block b (Array.getElem?_eq_some_iff.1 h).1 (by simpa using hp)]
  exact h
theorem Box.only {w w' : World} {b p : Nat} {cs : Array Value} {T : TypeId} (h : Box w b cs T) (hO : Only p w w') (hp : ¬ b = p) : Box w' b cs T := h.farG (far_only hO) hp
theorem far_alloc {w0 w : World} {row : Option Nat} (h : w0.grownBy w row) (o : Obj) : w0.grownBy (w.alloc o) row := h.trans (World.grownBy_alloc _ _ _)
end
section
open Go.ChangeShapes Go.WideShapes Go.ChangeAt Go.RowKit Go.Joins
inductive Flat (P : Program) : TypeId → List Ty → Prop
  | i (t : TypeId) (h : P.underlying t = some (.int .i64)) : Flat P t [.i]
  | b (t : TypeId) (h : P.underlying t = some .bool) : Flat P t [.b]
  | s (t : TypeId) (h : P.underlying t = some .string) : Flat P t [.s]
  | l (t e T : TypeId) (k : Nat) (fs : List Ty) (h : P.underlying t = some (.slice e)) (hk : fs.length = k) (hk0 : 0 < k) (hc : P.cellsOf e = k) (hf : Flat P e fs) : Flat P t [.l T k fs]
  | st (t : TypeId) (Fs : Array Field) (gs : List (List Ty)) (h : P.underlying t = some (.struct Fs)) (hl : gs.length = Fs.size) (hc : P.cellsOf t = gs.flatten.length)
      (ho : ∀ (i : Nat) (f : Field) (g : List Ty), Fs[i]? = some f → gs[i]? = some g → f.offset = (gs.take i).flatten.length ∧ P.cellsOf f.type = g.length) (hf : ∀ (i : Nat) (f : Field) (g : List Ty), Fs[i]? = some f → gs[i]? = some g → Flat P f.type g) : Flat P t gs.flatten
theorem InL.app {w : World} : ∀ {vs : List Value} {cs : List Cel} {vs' : List Value} {cs' : List Cel}, InL w vs cs → InL w vs' cs' → InL w (vs ++ vs') (cs ++ cs')
  | vs, [], _, _, h, h' => by obtain rfl := h.nilE; exact h'
  | vs, c :: cs, _, _, h, h' => by
    obtain ⟨v, vs, rfl, h0, h1⟩ := h.consE
    exact InL.cons h0 (InL.app h1 h')
theorem HasL.mk {c : Cel} {t : Ty} {cs : List Cel} {fs : List Ty} (h : Has c t) (hs : HasL cs fs) : HasL (c :: cs) (t :: fs) := by
  refine ⟨by simp [hs.1], fun j c' t' hc ht => ?_⟩
  cases j with
  | zero => simp at hc ht; subst hc ht; exact h
  | succ j => simp at hc ht; exact hs.2 j c' t' hc ht
theorem HasL.none : HasL [] [] := ⟨rfl, fun j c t hc _ => by simp at hc⟩
theorem HasL.app : ∀ {cs : List Cel} {fs : List Ty} {cs' : List Cel} {fs' : List Ty}, HasL cs fs → HasL cs' fs' → HasL (cs ++ cs') (fs ++ fs')
  | cs, [], _, _, h, h' => by obtain rfl := h.nil; exact h'
  | cs, t :: fs, _, _, h, h' => by
    obtain ⟨c, cs, rfl, h0, h1⟩ := h.cons
    exact HasL.mk h0 (HasL.app h1 h')
inductive WfC : Cel → Prop
  | i (x : Int) (h : (Lit.int .i64 x).wf = true) : WfC (.i x)
  | b (x : Bool) : WfC (.b x)
  | s (x : ByteArray) : WfC (.s x)
  | l (T : TypeId) (k n : Nat) (cs : List Cel) (h : ∀ (j : Nat) (c : Cel), cs[j]? = some c → WfC c) : WfC (.l T k n cs)
def WfL (ds : List Cel) : Prop := ∀ (j : Nat) (c : Cel), ds[j]? = some c → WfC c
theorem WfL.nil : WfL [] := fun j c h => by simp at h
theorem WfL.cons {c : Cel} {ds : List Cel} (h : WfC c) (hs : WfL ds) : WfL (c :: ds) := fun j d hd => by
  cases j with
  | zero => simp at hd; subst hd; exact h
  | succ j => exact hs j d (by simpa using hd)
theorem WfL.app {ds es : List Cel} (h : WfL ds) (h' : WfL es) : WfL (ds ++ es) := fun j c hc => by
  by_cases hj : j < ds.length
  · rw [List.getElem?_append_left hj] at hc; exact h j c hc
  · rw [List.getElem?_append_right (by omega)] at hc; exact h' _ c hc
set_option linter.unusedSimpArgs false
def va3 (r : List Cel) : Va3 := (numC (nthC r 0), numC (nthC r 1), textC (nthC r 2))
def vasD (cs : List Cel) (n : Nat) : List Va3 := (List.range n).map fun i => va3 (row cs 3 i)
end
section
open Go.ChangeShapes Go.WideShapes Go.ChangeAt Go.RowKit
def vaC : List Va3 → List Value
  | [] => []
  | x :: L => .int .i64 x.1 :: .int .i64 x.2.1 :: .string x.2.2 :: vaC L
theorem vaC_length : ∀ L : List Va3, (vaC L).length = L.length * 3
  | [] => rfl
  | x :: L => by rw [vaC]; simp [vaC_length L]; omega
theorem vaC_append : ∀ L M : List Va3, vaC (L ++ M) = vaC L ++ vaC M
  | [], _ => rfl
  | x :: L, M => by
    show vaC (x :: (L ++ M)) = _
    rw [vaC, vaC, vaC_append L M]
    rfl
theorem vaC_at : ∀ {L : List Va3} {i : Nat} {x : Va3}, L[i]? = some x → (vaC L)[i * 3]? = some (.int .i64 x.1) ∧ (vaC L)[i * 3 + 1]? = some (.int .i64 x.2.1) ∧ (vaC L)[i * 3 + 2]? = some (.string x.2.2)
  | [], _, _, h => by simp at h
  | y :: L, 0, x, h => by
    simp at h
    subst h
    exact ⟨rfl, rfl, rfl⟩
  | y :: L, i + 1, x, h => by
    have h1 := vaC_at (L := L) (i := i) (x := x) (by simpa using h)
    rw [vaC, show (i + 1) * 3 = i * 3 + 1 + 1 + 1 by omega]
    exact h1
theorem vaC_one {L : List Va3} : ∀ u ∈ vaC L, u.oneCell' = true := by
  induction L with
  | nil => intro u hu; cases hu
  | cons x L ih =>
    intro u hu
    rw [vaC] at hu
    rcases List.mem_cons.1 hu with rfl | hu
    · rfl
    rcases List.mem_cons.1 hu with rfl | hu
    · rfl
    rcases List.mem_cons.1 hu with rfl | hu
    · rfl
    exact ih u hu
abbrev VOwn (w : World) (base : Nat) (v : Value) (L : List Va3) : Prop := w.ownsRow base 43 3 v L.length (vaC L)
theorem own_vas {w : World} {base : Nat} {v : Value} {L : List Va3} (h : VOwn w base v L) (hn : L.length ≤ 2097152) : ∃ a c, v = .slice a L.length c ∧ L.length ≤ c ∧ VasAt w a L.length L := by
  rcases h.2 with ⟨rfl, h0⟩ | ⟨g, cap, cur, rfl, _, _, hc, _⟩
  · exact ⟨none, 0, by rw [h0], by omega, rfl, hn, .inl h0⟩
  · refine ⟨_, cap, rfl, hc, rfl, hn, .inr ⟨g, 0, rfl, fun i x hi => ?_⟩⟩
    obtain ⟨h1, h2, h3⟩ := vaC_at hi
    rw [Nat.zero_add]
    exact ⟨own_cellV h h1, own_cellV h h2, own_cellV h h3⟩
theorem infoVal : (Try.prog.info? 43).map (fun i => (i.zero, i.size, i.bytes)) = some (some (.agg #[.int .i64 0, .int .i64 0, .string ⟨#[]⟩]), 3, 32) := by kernel_rfl
theorem vown_nil (w : World) {base g : Nat} (hg : w.heap.size = g) (hb : base ≤ g) : VOwn (w.alloc (.cells #[] 43)) base (.slice (some ⟨g, 0, none⟩) 0 0) [] := by
  subst hg
  exact ⟨rfl, .inr ⟨_, 0, #[], rfl, hb, heap_alloc_new w _, Nat.le_refl _, by unfold maxLen; omega, rfl, rfl⟩⟩
theorem vnews (w : World) (g : Nat) (hg : w.heap.size = g) (x : Va3) : ∀ j u, (vaC [x])[j]? = some u → (w.alloc (.cells #[.int .i64 x.1, .int .i64 x.2.1, .string x.2.2] 43)).cell? ((⟨g, 0, none⟩ : Addr).add j) = some u := by
  intro j u hj
  subst hg
  rw [add_plain, Nat.zero_add, (box_of w #[.int .i64 x.1, .int .i64 x.2.1, .string x.2.2] 43).cell j]
  simpa [vaC] using hj
theorem list_appV {ops : Array Oper} {rest : List Oper} {o : Oper} {a : Act} (w : World) {Q : Exit → Act → World → Prop} (hg : o.guard = none) (s x : Operand)
    (ho : o.op = .call { callee := .builtin .append, args := #[s, x], argTypes := #[29, 29] })
    (base : Nat) (v : Value) (L : List Va3) (hs : a.eval s = v) (hown : VOwn w base v L)
    (ad : Addr) (m c : Nat) (M : List Va3) (hM : M.length = m) (hx : a.eval x = .slice (some ad) m c) (hnews : ∀ j u, (vaC M)[j]? = some u → w.cell? (ad.add j) = some u)
    (hle : L.length + m ≤ 2097152) (hbase : base ≤ w.heap.size)
    (h : ∀ v' w', VOwn w' base v' (L ++ M) → (∀ a' : World, ∀ B : Nat, B ≤ base → Below B a' w → Below B a' w') → (v' = .slice none 0 0 ↔ v = .slice none 0 0 ∧ m = 0) → wpList Try.prog ops Q rest (a.put o.dst v') w') : wpList Try.prog ops Q (o :: rest) a w := by
  obtain ⟨i0, hi, hz0, hz1, hz2⟩ := info_parts infoVal
  refine wpList_append_own w hg s x 29 ho base 43 i0 _ 3 32 Try.underlying29 hi hz0 hz1 hz2 (by rfl) (by decide) v L.length (vaC L) hs hown ad m c (vaC M) hx (by rw [vaC_length, hM]) hnews vaC_one (by unfold maxLen; omega) (by omega) hbase ?_
  intro v' w' hown' hgrow hnil
  refine h v' w' ?_ (fun a' B hB hb => below_app hb (Nat.le_trans hB hbase) (fun k hk => Nat.le_trans hB (own_block hown k hk)) hgrow) hnil
  unfold VOwn
  rw [vaC_append, List.length_append, hM]
  exact hown'
end
section
open Go.ChangeShapes Go.WideShapes Go.ChangeAt Go.RowKit Go.Joins
open Go.Lib (byteCells byteCells_length byteCells_append)
end
end Go.Proofs.Ytmgofehafjogfaa
