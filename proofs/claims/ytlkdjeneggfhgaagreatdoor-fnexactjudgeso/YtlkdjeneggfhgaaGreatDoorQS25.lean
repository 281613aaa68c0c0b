/- Texts joined: DatI, DatM, DatN, DatD, DatO. -/
import Derived.Test.YtlkdjeneggfhgaaGreatDoorQS24
import Derived.Deep.RegionHeld3
import Derived.Deep.Cut
import Derived.Handy
import Derived.Deep.Slices
set_option maxHeartbeats 200000
set_option maxRecDepth 100000
namespace Go.Proofs.YtlkdjeneggfhgaaGreatDoor
section
open Go.ChangeShapes Go.WideShapes Go.ChangeAt Go.RowKit Go.Joins
inductive In (w : World) : Value → Cel → Prop
 | i (x : Int) : In w (.int .i64 x) (.i x)
 | b (x : Bool) : In w (.bool x) (.b x)
 | s (x : ByteArray) : In w (.string x) (.s x)
 | l (a : Option Addr) (T : TypeId) (k n c : Nat) (cs : List Cel) (vs : List Value) (h1 : vs.length = n * k) (h2 : cs.length = n * k) (hn : n ≤ 9223372036854775807)
     (h3 : n = 0 ∨ ∃ b o, a = some ⟨b, o, none⟩ ∧ ∀ j, j < n * k → w.cell? ⟨b, o + j, none⟩ = vs[j]?) (h4 : ∀ (j : Nat) (v : Value) (c : Cel), vs[j]? = some v → cs[j]? = some c → In w v c) : In w (.slice a n c) (.l T k n cs)
def InL (w : World) (vs : List Value) (cs : List Cel) : Prop := vs.length = cs.length ∧ ∀ (j : Nat) (v : Value) (c : Cel), vs[j]? = some v → cs[j]? = some c → In w v c
theorem In.on {w w' : World} {v : Value} {c : Cel} (h : In w v c) {B : Nat} (hb : Below B w w') (hB : w.heap.size ≤ B) : In w' v c := by
 induction h with
 | i x => exact .i x
 | b x => exact .b x
 | s x => exact .s x
 | l a T k n c cs vs h1 h2 hn h3 h4 ih =>
   refine .l a T k n c cs vs h1 h2 hn ?_ ih
   rcases h3 with h3 | ⟨b, o, e, g⟩
   · exact .inl h3
   · refine .inr ⟨b, o, e, fun j hj => ?_⟩
     have h5 := g j hj
     have h6 : w.cell? ⟨b, o + j, none⟩ = some (vs[j]'(by omega)) := by rw [h5, List.getElem?_eq_getElem (by omega)]
     rw [hb.cell (show b < B from Nat.lt_of_lt_of_le (World.block_lt_of_cell? w _ h6) hB)]
     exact h5
theorem InL.on {w w' : World} {vs : List Value} {cs : List Cel} (h : InL w vs cs) {B : Nat} (hb : Below B w w') (hB : w.heap.size ≤ B) : InL w' vs cs :=
 ⟨h.1, fun j v c hv hc => (h.2 j v c hv hc).on hb hB⟩
theorem big_mem : ∀ {cs : List Cel} {j : Nat} {c : Cel}, cs[j]? = some c → c.big ≤ bigL cs
 | [], _, _, h => by simp at h
 | d :: cs, 0, c, h => by simp at h; subst h; simp [bigL]
 | d :: cs, j + 1, c, h => by
   have := big_mem (cs := cs) (j := j) (by simpa using h)
   simp only [bigL]; omega
theorem In.at {w : World} {v : Value} {c : Cel} (h : In w v c) (hb : c.big ≤ 2097152) : At false w v c := by
 induction h with
 | i x => exact .i x
 | b x => exact .b x
 | s x => exact .s x
 | l a T k n c cs vs h1 h2 hn h3 h4 ih =>
   simp only [Cel.big] at hb
   exact .l a T k n c cs vs h1 h2 (by omega) (fun h => by cases h) h3 fun j v c hv hc => ih j v c hv hc (by have := big_mem hc; omega)
theorem InL.at {w : World} {vs : List Value} {cs : List Cel} (h : InL w vs cs) (hb : bigL cs ≤ 2097152) : AtL false w vs cs :=
 ⟨h.1, fun j v c hv hc => (h.2 j v c hv hc).at (by have := big_mem hc; omega)⟩
theorem InL.nil {w : World} : InL w [] [] := ⟨rfl, fun j v c hv _ => by simp at hv⟩
theorem InL.cons {w : World} {v : Value} {c : Cel} {vs : List Value} {cs : List Cel} (h : In w v c) (hs : InL w vs cs) : InL w (v :: vs) (c :: cs) := by
 refine ⟨by simp [hs.1], fun j v' c' hv hc => ?_⟩
 cases j with
 | zero => simp at hv hc; subst hv hc; exact h
 | succ j => simp at hv hc; exact hs.2 j v' c' hv hc
theorem InL.nilE {w : World} {vs : List Value} (h : InL w vs []) : vs = [] := List.length_eq_zero_iff.1 h.1
theorem InL.consE {w : World} {vs : List Value} {c : Cel} {cs : List Cel} (h : InL w vs (c :: cs)) : ∃ v vs', vs = v :: vs' ∧ In w v c ∧ InL w vs' cs := by
 match vs, h with
 | [], h => have := h.1; simp at this
 | v :: vs', h => exact ⟨v, vs', rfl, h.2 0 v c rfl rfl, ⟨by have := h.1; simpa using this, fun j v' c' hv hc => h.2 (j + 1) v' c' (by simpa using hv) (by simpa using hc)⟩⟩
theorem InL.c1 {w : World} {vs : List Value} {c0 : Cel} (h : InL w vs [c0]) : ∃ v0, vs = [v0] ∧ In w v0 c0 := by
 obtain ⟨v0, r0, rfl, T0, h0⟩ := h.consE
 obtain rfl := h0.nilE
 exact ⟨_, rfl, T0⟩
theorem InL.c2 {w : World} {vs : List Value} {c0 c1 : Cel} (h : InL w vs [c0, c1]) : ∃ v0 v1, vs = [v0, v1] ∧ In w v0 c0 ∧ In w v1 c1 := by
 obtain ⟨v0, r0, rfl, T0, h0⟩ := h.consE
 obtain ⟨v1, r1, rfl, T1, h1⟩ := h0.consE
 obtain rfl := h1.nilE
 exact ⟨_, _, rfl, T0, T1⟩
theorem InL.c3 {w : World} {vs : List Value} {c0 c1 c2 : Cel} (h : InL w vs [c0, c1, c2]) : ∃ v0 v1 v2, vs = [v0, v1, v2] ∧ In w v0 c0 ∧ In w v1 c1 ∧ In w v2 c2 := by
 obtain ⟨v0, r0, rfl, T0, h0⟩ := h.consE
 obtain ⟨v1, r1, rfl, T1, h1⟩ := h0.consE
 obtain ⟨v2, r2, rfl, T2, h2⟩ := h1.consE
 obtain rfl := h2.nilE
 exact ⟨_, _, _, rfl, T0, T1, T2⟩
theorem InL.c4 {w : World} {vs : List Value} {c0 c1 c2 c3 : Cel} (h : InL w vs [c0, c1, c2, c3]) : ∃ v0 v1 v2 v3, vs = [v0, v1, v2, v3] ∧ In w v0 c0 ∧ In w v1 c1 ∧ In w v2 c2 ∧ In w v3 c3 := by
 obtain ⟨v0, r0, rfl, T0, h0⟩ := h.consE
 obtain ⟨v1, r1, rfl, T1, h1⟩ := h0.consE
 obtain ⟨v2, r2, rfl, T2, h2⟩ := h1.consE
 obtain ⟨v3, r3, rfl, T3, h3⟩ := h2.consE
 obtain rfl := h3.nilE
 exact ⟨_, _, _, _, rfl, T0, T1, T2, T3⟩
theorem InL.c5 {w : World} {vs : List Value} {c0 c1 c2 c3 c4 : Cel} (h : InL w vs [c0, c1, c2, c3, c4]) : ∃ v0 v1 v2 v3 v4, vs = [v0, v1, v2, v3, v4] ∧ In w v0 c0 ∧ In w v1 c1 ∧ In w v2 c2 ∧ In w v3 c3 ∧ In w v4 c4 := by
 obtain ⟨v0, r0, rfl, T0, h0⟩ := h.consE
 obtain ⟨v1, r1, rfl, T1, h1⟩ := h0.consE
 obtain ⟨v2, r2, rfl, T2, h2⟩ := h1.consE
 obtain ⟨v3, r3, rfl, T3, h3⟩ := h2.consE
 obtain ⟨v4, r4, rfl, T4, h4⟩ := h3.consE
 obtain rfl := h4.nilE
 exact ⟨_, _, _, _, _, rfl, T0, T1, T2, T3, T4⟩
theorem InL.c8 {w : World} {vs : List Value} {c0 c1 c2 c3 c4 c5 c6 c7 : Cel} (h : InL w vs [c0, c1, c2, c3, c4, c5, c6, c7]) : ∃ v0 v1 v2 v3 v4 v5 v6 v7, vs = [v0, v1, v2, v3, v4, v5, v6, v7] ∧ In w v0 c0 ∧ In w v1 c1 ∧ In w v2 c2 ∧ In w v3 c3 ∧ In w v4 c4 ∧ In w v5 c5 ∧ In w v6 c6 ∧ In w v7 c7 := by
 obtain ⟨v0, r0, rfl, T0, h0⟩ := h.consE
 obtain ⟨v1, r1, rfl, T1, h1⟩ := h0.consE
 obtain ⟨v2, r2, rfl, T2, h2⟩ := h1.consE
 obtain ⟨v3, r3, rfl, T3, h3⟩ := h2.consE
 obtain ⟨v4, r4, rfl, T4, h4⟩ := h3.consE
 obtain ⟨v5, r5, rfl, T5, h5⟩ := h4.consE
 obtain ⟨v6, r6, rfl, T6, h6⟩ := h5.consE
 obtain ⟨v7, r7, rfl, T7, h7⟩ := h6.consE
 obtain rfl := h7.nilE
 exact ⟨_, _, _, _, _, _, _, _, rfl, T0, T1, T2, T3, T4, T5, T6, T7⟩
theorem InL.c9 {w : World} {vs : List Value} {c0 c1 c2 c3 c4 c5 c6 c7 c8 : Cel} (h : InL w vs [c0, c1, c2, c3, c4, c5, c6, c7, c8]) : ∃ v0 v1 v2 v3 v4 v5 v6 v7 v8, vs = [v0, v1, v2, v3, v4, v5, v6, v7, v8] ∧ In w v0 c0 ∧ In w v1 c1 ∧ In w v2 c2 ∧ In w v3 c3 ∧ In w v4 c4 ∧ In w v5 c5 ∧ In w v6 c6 ∧ In w v7 c7 ∧ In w v8 c8 := by
 obtain ⟨v0, r0, rfl, T0, h0⟩ := h.consE
 obtain ⟨v1, r1, rfl, T1, h1⟩ := h0.consE
 obtain ⟨v2, r2, rfl, T2, h2⟩ := h1.consE
 obtain ⟨v3, r3, rfl, T3, h3⟩ := h2.consE
 obtain ⟨v4, r4, rfl, T4, h4⟩ := h3.consE
 obtain ⟨v5, r5, rfl, T5, h5⟩ := h4.consE
 obtain ⟨v6, r6, rfl, T6, h6⟩ := h5.consE
 obtain ⟨v7, r7, rfl, T7, h7⟩ := h6.consE
 obtain ⟨v8, r8, rfl, T8, h8⟩ := h7.consE
 obtain rfl := h8.nilE
 exact ⟨_, _, _, _, _, _, _, _, _, rfl, T0, T1, T2, T3, T4, T5, T6, T7, T8⟩
theorem In.int {w : World} {v : Value} {x : Int} (h : In w v (.i x)) : v = .int .i64 x := by cases h; rfl
theorem In.bool {w : World} {v : Value} {x : Bool} (h : In w v (.b x)) : v = .bool x := by cases h; rfl
theorem In.openL {w : World} {v : Value} {T : TypeId} {k n : Nat} {cs : List Cel} (h : In w v (.l T k n cs)) : ∃ (a : Option Addr) (c : Nat) (vs : List Value), v = .slice a n c ∧ vs.length = n * k ∧ cs.length = n * k ∧ n ≤ 9223372036854775807 ∧
   (n = 0 ∨ ∃ b o, a = some ⟨b, o, none⟩ ∧ ∀ j, j < n * k → w.cell? ⟨b, o + j, none⟩ = vs[j]?) ∧ ∀ (j : Nat) (v : Value) (c : Cel), vs[j]? = some v → cs[j]? = some c → In w v c := by
 cases h with
 | l a T k n c cs vs h1 h2 hn h3 h4 => exact ⟨a, c, vs, rfl, h1, h2, hn, h3, h4⟩
theorem rowIn {w : World} {k n j : Nat} {cs : List Cel} {vs : List Value} (h1 : vs.length = n * k) (h2 : cs.length = n * k) (h4 : ∀ (j : Nat) (v : Value) (c : Cel), vs[j]? = some v → cs[j]? = some c → In w v c) (hj : j < n) : InL w ((vs.drop (j * k)).take k) (row cs k j) := by
 have hle : j * k + k ≤ n * k := by rw [← Nat.succ_mul]; exact Nat.mul_le_mul_right k hj
 refine ⟨by rw [rowL_len h2 hj, List.length_take, List.length_drop, h1]; omega, fun i v c hv hc => ?_⟩
 have hi : i < k := by have := (List.getElem?_eq_some_iff.1 hc).1; rw [rowL_len h2 hj] at this; exact this
 rw [row_at hi] at hc
 rw [List.getElem?_take_of_lt hi, List.getElem?_drop] at hv
 exact h4 _ v c hv hc
def Ty.flat : Ty → Bool
 | .i => true
 | .b => true
 | _ => false
theorem bigL_zero : ∀ {cs : List Cel}, (∀ (j : Nat) (c : Cel), cs[j]? = some c → c.big = 0) → bigL cs = 0
 | [], _ => rfl
 | c :: cs, h => by
   have h0 := h 0 c rfl
   have h1 := bigL_zero (cs := cs) fun j c' hc => h (j + 1) c' (by simpa using hc)
   simp only [bigL]; omega
theorem big_flat {T : TypeId} {k n : Nat} {cs : List Cel} {fs : List Ty} (h : Has (.l T k n cs) (.l T k fs)) (hf : fs.all Ty.flat = true) : bigL cs = 0 := by
 cases h with
 | l _ _ _ _ _ hk h1 h2 =>
   refine bigL_zero fun j c hc => ?_
   have hj : j < n * k := by have := (List.getElem?_eq_some_iff.1 hc).1; omega
   have hk0 : 0 < k := by
     rcases Nat.eq_zero_or_pos k with h0 | h0
     · rw [h0] at hj; simp at hj
     · exact h0
   have hm : j % k < fs.length := by rw [hk]; exact Nat.mod_lt _ hk0
   have ht : fs[j % k]? = some (fs[j % k]'hm) := List.getElem?_eq_getElem hm
   have h3 := h2 j c _ hc ht
   have h4 : Ty.flat (fs[j % k]'hm) = true := (List.all_eq_true.1 hf) _ (List.getElem_mem hm)
   revert h3 h4
   generalize fs[j % k]'hm = t
   intro h3 h4
   cases h3 <;> simp [Ty.flat, Cel.big] at h4 ⊢
def Left (w : World) (m : Nat) (l : Int) (e : Ending) (w' : World) : Prop := Below w.heap.size w w' ∧ ((∃ r : Int, e = .returned (.int .i64 r) ∧ (m : Int) ≤ l ∧ r = l - (m : Int)) ∨ (e = .returned (.int .i64 (-1)) ∧ l < (m : Int)))
structure One (w W : World) (A : Array Value) (T : TypeId) : Prop where
 a : Box W w.heap.size A T
 on : Below w.heap.size w W
theorem one_new (w : World) (A : Array Value) (T : TypeId) : One w (w.alloc (.cells A T)) A T := ⟨box_of w A T, (Below.refl _ w).alloc (Nat.le_refl _) _⟩
theorem One.call {w W W' : World} {A : Array Value} {T : TypeId} (h : One w W A T) (hb : Below W.heap.size W W') : One w W' A T := ⟨h.a.below hb h.a.lt, h.on.trans (hb.mono h.on.size)⟩
structure Kept (S : Nat → Prop) (w w' : World) : Prop where
 on : Below 0 w w'
 oth : ∀ x, x < w.heap.size → ¬ S x → w'.heap[x]? = w.heap[x]?
theorem Kept.refl (S : Nat → Prop) (w : World) : Kept S w w := ⟨Below.refl _ _, fun _ _ _ => rfl⟩
theorem Kept.trans {S : Nat → Prop} {w w1 w2 : World} (h : Kept S w w1) (h' : Kept S w1 w2) : Kept S w w2 :=
 ⟨h.on.trans h'.on, fun x hx hS => (h'.oth x (Nat.lt_of_lt_of_le hx h.on.size) hS).trans (h.oth x hx hS)⟩
theorem Kept.mono {S S' : Nat → Prop} {w w' : World} (h : Kept S w w') (hS : ∀ x, S x → S' x) : Kept S' w w' := ⟨h.on, fun x hx hn => h.oth x hx fun hs => hn (hS x hs)⟩
theorem Kept.set {S : Nat → Prop} {w w' : World} (h : Kept S w w') {g i : Nat} (hg : S g) (v : Value) : Kept S w (w'.setCell ⟨g, i, none⟩ v) :=
 ⟨h.on.setCell (Nat.zero_le _) v, fun x hx hn => (Below.heap_setCell _ _ _ _ (fun e => by
   have e : x = g := e
   exact hn (by rw [e]; exact hg))).trans (h.oth x hx hn)⟩
theorem Kept.below {S : Nat → Prop} {w w' : World} (h : Kept S w w') {B : Nat} (hS : ∀ x, S x → B ≤ x) (hB : B ≤ w.heap.size) : Below B w w' :=
 ⟨h.on.os, h.on.tape, h.on.output, h.on.size, fun k hk => h.oth k (by omega) fun hs => by have := hS k hs; omega⟩
theorem Own.put {w : World} {base : Nat} {g n cap : Nat} {T : TypeId} {k : Nat} {cs : List Cel} {S : Nat → Prop} (h : Own w base (.slice (some ⟨g, 0, none⟩) n cap) (.l T k n cs) S) {j : Nat} {c c' : Cel} (hc : cs[j]? = some c) (h0 : ∀ v Sj, Own w base v c Sj → ∀ x, ¬ Sj x) {u : Value} (hu : ∀ w' Sj, (∀ x, ¬ Sj x) → Own w' base u c' Sj) :
   Own (w.setCell ⟨g, j, none⟩ u) base (.slice (some ⟨g, 0, none⟩) n cap) (.l T k n (cs.set j c')) S := by
 cases h with
 | l g cap T k n cs vs S Ss h1 h2 hn h4 h5 h6 h7 =>
   have hj : j < cs.length := (List.getElem?_eq_some_iff.1 hc).1
   have hl := h1.1
   have hv : vs[j]? = some (vs[j]'(by omega)) := List.getElem?_eq_getElem (by omega)
   have hz := h0 _ _ (h4 j _ _ hv hc)
   refine .l g cap T k n _ (vs.set j u) S Ss (h1.stored j u).1 (by simpa using h2) hn (fun i v d hvi hdi => ?_) h5 h6 h7
   by_cases hij : j = i
   · subst hij
     rw [List.getElem?_set_self (by omega)] at hvi hdi
     cases hvi
     cases hdi
     exact hu _ _ hz
   · rw [List.getElem?_set_ne hij] at hvi hdi
     exact (h4 i v d hvi hdi).heap fun x hx => Below.heap_setCell _ _ _ _ (fun e => h5 i (by have e : x = g := e; rw [← e]; exact hx))
def Marked (tx : Int → ByteArray) (w : World) (base : Nat) (v : Value) (c : Cel) (S : Nat → Prop) (q : Int) (e : Ending) (w' : World) : Prop := e = .returned (.int .i64 (q + (c.cnt : Int))) ∧ Own w' base v (c.mark tx q) S ∧ Kept S w w'
def SaysD (w : World) (x : Int) (e : Ending) (w' : World) : Prop := e = .returned (.int .i64 x) ∧ Below w.heap.size w w'
def topL (tx : Int → ByteArray) : List Cel → Int → List Cel
 | [], _ => []
 | .l T k n cs :: r, q => .l T k n (markL tx cs q) :: topL tx r (q + (cntL cs : Int))
 | .i x :: r, q => .i x :: topL tx r q
 | .b x :: r, q => .b x :: topL tx r q
 | .s x :: r, q => .s x :: topL tx r q
def tcnt : List Cel → Nat
 | [] => 0
 | .l _ _ _ cs :: r => cntL cs + tcnt r
 | .i _ :: r => tcnt r
 | .b _ :: r => tcnt r
 | .s _ :: r => tcnt r
theorem OwnL.set {w : World} {b : Nat} {vs : List Value} {cs : List Cel} {S S' : Nat → Prop} (h : OwnL w b vs cs S) (hS : ∀ x, S x ↔ S' x) : OwnL w b vs cs S' := by
 obtain ⟨l, Ss, h1, h2, h3⟩ := h
 exact ⟨l, Ss, h1, h2, fun x => (hS x).symm.trans (h3 x)⟩
theorem OwnL.none {w : World} {b : Nat} {S : Nat → Prop} (h : OwnL w b [] [] S) : ∀ x, ¬ S x := fun x hx => by
 obtain ⟨_, Ss, _, _, h3⟩ := h
 obtain ⟨j, hj, _⟩ := (h3 x).1 hx
 simp at hj
theorem OwnL.one {w : World} {b : Nat} {v : Value} {c : Cel} {S : Nat → Prop} (h : OwnL w b [v] [c] S) : Own w b v c S := by
 obtain ⟨S0, S1, h0, h1, -, hS⟩ := h.parts
 exact h0.set fun x => ⟨fun hx => (hS x).2 (.inl hx), fun hx => ((hS x).1 hx).resolve_right (h1.none x)⟩
theorem OwnL.cut : ∀ {cs1 : List Cel} {vs1 vs2 : List Value} {cs2 : List Cel} {w : World} {b : Nat} {S : Nat → Prop}, vs1.length = cs1.length → OwnL w b (vs1 ++ vs2) (cs1 ++ cs2) S → ∃ S1 S2, OwnL w b vs1 cs1 S1 ∧ OwnL w b vs2 cs2 S2 ∧ (∀ x, S1 x → ¬ S2 x) ∧ ∀ x, S x ↔ S1 x ∨ S2 x
 | [], vs1, vs2, cs2, w, b, S, hl, h => by
   obtain rfl : vs1 = [] := List.length_eq_zero_iff.1 hl
   exact ⟨fun _ => False, S, OwnL.nil (fun _ h => h), h, fun _ h => h.elim, fun x => by simp⟩
 | c :: cs1, [], vs2, cs2, w, b, S, hl, h => by simp at hl
 | c :: cs1, v :: vs1, vs2, cs2, w, b, S, hl, h => by
   obtain ⟨S0, S', h0, h1, hd, hS⟩ := OwnL.parts h
   obtain ⟨S1, S2, g1, g2, gd, gS⟩ := OwnL.cut (cs1 := cs1) (vs1 := vs1) (by simpa using hl) h1
   refine ⟨fun x => S0 x ∨ S1 x, S2, OwnL.cons h0 g1 (fun x hx hx' => hd x hx ((gS x).2 (.inl hx'))) (fun _ => Iff.rfl), g2, fun x hx hx' => ?_, fun x => ?_⟩
   · rcases hx with hx | hx
     · exact hd x hx ((gS x).2 (.inr hx'))
     · exact gd x hx hx'
   · rw [hS x, gS x, or_assoc]
abbrev Part := List Value × List Cel × (Nat → Prop)
structure Mg (w W : World) (base : Nat) (S : Nat → Prop) (A : Array Value) (T : TypeId) (R : List Part) : Prop where
 a : Box W w.heap.size A T
 on : Below 0 w W
 oth : ∀ x, x < w.heap.size → ¬ S x → W.heap[x]? = w.heap[x]?
 lt : ∀ x, S x → x < w.heap.size
 o : ∀ r ∈ R, OwnL W base r.1 r.2.1 r.2.2
 d : R.Pairwise (fun p q => ∀ x, p.2.2 x → ¬ q.2.2 x)
 u : ∀ x, S x ↔ ∃ r ∈ R, r.2.2 x
theorem Mg.step {w W W' : World} {base : Nat} {S Sf : Nat → Prop} {A : Array Value} {T : TypeId} {pre post : List Part} {vs : List Value} {cs cs' : List Cel} (h : Mg w W base S A T (pre ++ (vs, cs, Sf) :: post)) (ho : OwnL W' base vs cs' Sf) (hk : Kept Sf W W') : Mg w W' base S A T (pre ++ (vs, cs', Sf) :: post) := by
 have sub : ∀ x, Sf x → S x := fun x hx => (h.u x).2 ⟨(vs, cs, Sf), by simp, hx⟩
 have lt : ∀ x, x < w.heap.size → x < W.heap.size := fun x hx => Nat.lt_of_lt_of_le hx h.on.size
 have hd := List.pairwise_append.1 h.d
 have hd2 := List.pairwise_cons.1 hd.2.1
 refine ⟨?_, h.on.trans hk.on, fun x hx hn => (hk.oth x (lt x hx) fun hs => hn (sub x hs)).trans (h.oth x hx hn), h.lt, fun r hr => ?_, ?_, fun x => ?_⟩
 · exact (hk.oth _ h.a.lt fun hs => by have := h.lt _ (sub _ hs); omega).trans h.a
 · have keep : r ∈ pre ++ (vs, cs, Sf) :: post → (∀ x, r.2.2 x → ¬ Sf x) → OwnL W' base r.1 r.2.1 r.2.2 := fun hr hn => (h.o r hr).heap fun x hx => hk.oth x ((h.o r hr).lt x hx).2 (hn x hx)
   rcases List.mem_append.1 hr with hr | hr
   · exact keep (List.mem_append.2 (.inl hr)) (fun x hx => hd.2.2 r hr _ (List.mem_cons_self ..) x hx)
   · rcases List.mem_cons.1 hr with rfl | hr
     · exact ho
     · exact keep (List.mem_append.2 (.inr (List.mem_cons_of_mem _ hr))) (fun x hx hs => hd2.1 r hr x hs hx)
 · refine List.pairwise_append.2 ⟨hd.1, List.pairwise_cons.2 ⟨fun r hr => hd2.1 r hr, hd2.2⟩, fun r hr q hq => ?_⟩
   rcases List.mem_cons.1 hq with rfl | hq
   · exact hd.2.2 r hr (vs, cs, Sf) (List.mem_cons_self ..)
   · exact hd.2.2 r hr q (List.mem_cons_of_mem _ hq)
 · rw [h.u x]
   constructor
   · rintro ⟨r, hr, hx⟩
     rcases List.mem_append.1 hr with hr | hr
     · exact ⟨r, List.mem_append.2 (.inl hr), hx⟩
     · rcases List.mem_cons.1 hr with rfl | hr
       · exact ⟨(vs, cs', Sf), by simp, hx⟩
       · exact ⟨r, List.mem_append.2 (.inr (List.mem_cons_of_mem _ hr)), hx⟩
   · rintro ⟨r, hr, hx⟩
     rcases List.mem_append.1 hr with hr | hr
     · exact ⟨r, List.mem_append.2 (.inl hr), hx⟩
     · rcases List.mem_cons.1 hr with rfl | hr
       · exact ⟨(vs, cs, Sf), by simp, hx⟩
       · exact ⟨r, List.mem_append.2 (.inr (List.mem_cons_of_mem _ hr)), hx⟩
theorem Mg.at {w W : World} {base : Nat} {S Sf : Nat → Prop} {A : Array Value} {T : TypeId} {pre post : List Part} {vs : List Value} {cs : List Cel} (h : Mg w W base S A T (pre ++ (vs, cs, Sf) :: post)) : OwnL W base vs cs Sf := h.o (vs, cs, Sf) (by simp)
theorem Mg.all {w W : World} {base : Nat} {S : Nat → Prop} {A : Array Value} {T : TypeId} {R : List Part} (h : Mg w W base S A T R) : OwnL W base (R.flatMap (·.1)) (R.flatMap (·.2.1)) S ∧ Kept S w W := ⟨(owns_all h.o h.d).set fun x => (h.u x).symm, h.on, h.oth⟩
def MarkedL (tx : Int → ByteArray) (w : World) (base : Nat) (vs : List Value) (cs : List Cel) (S : Nat → Prop) (q : Int) (e : Ending) (w' : World) : Prop := e = .returned (.int .i64 (q + (tcnt cs : Int))) ∧ OwnL w' base vs (topL tx cs q) S ∧ Kept S w w'
set_option linter.unusedSimpArgs false
def tyOp : List Ty := [(.i), (.i), (.i)]
def tyPair : List Ty := [(.i), (.i)]
def tyHelp : List Ty := [(.i), (.i), (.i), (.i)]
def tyEntry : List Ty := [(.i), (.i), (.i)]
def tyWord : List Ty := [(.i), (.i), (.i)]
def tyRes : List Ty := [(.i), (.l 3 1 [.i])]
def tyRows : List Ty := [(.l 3 1 [.i]), (.i)]
def tyThread : List Ty := [(.l 59 3 tyOp), (.i), (.b), (.l 161 2 tyPair), (.l 163 4 tyHelp)]
def tyDesc : List Ty := [(.i), (.i), (.l 154 3 tyEntry), (.i), (.l 3 1 [.i])]
def tyMem : List Ty := [(.l 151 3 tyWord), (.l 149 5 tyDesc)]
def tyCall : List Ty := [(.i), (.i), (.i), (.i), (.i), (.i), (.i), (.i), (.l 3 1 [.i])]
def tyMachine : List Ty := [(.l 151 3 tyWord), (.l 149 5 tyDesc), (.l 107 5 tyThread), (.i), (.l 63 9 tyCall), (.l 3 1 [.i]), (.l 3 1 [.i]), (.i)]
inductive Flat (P : Program) : TypeId → List Ty → Prop
 | i (t : TypeId) (h : P.underlying t = some (.int .i64)) : Flat P t [.i]
 | b (t : TypeId) (h : P.underlying t = some .bool) : Flat P t [.b]
 | s (t : TypeId) (h : P.underlying t = some .string) : Flat P t [.s]
 | l (t e T : TypeId) (k : Nat) (fs : List Ty) (h : P.underlying t = some (.slice e)) (hk : fs.length = k) (hk0 : 0 < k) (hc : P.cellsOf e = k) (hf : Flat P e fs) : Flat P t [.l T k fs]
 | st (t : TypeId) (Fs : Array Field) (gs : List (List Ty)) (h : P.underlying t = some (.struct Fs)) (hl : gs.length = Fs.size) (hc : P.cellsOf t = gs.flatten.length)
     (ho : ∀ (i : Nat) (f : Field) (g : List Ty), Fs[i]? = some f → gs[i]? = some g → f.offset = (gs.take i).flatten.length ∧ P.cellsOf f.type = g.length) (hf : ∀ (i : Nat) (f : Field) (g : List Ty), Fs[i]? = some f → gs[i]? = some g → Flat P f.type g) : Flat P t gs.flatten
theorem InL.app {w : World} : ∀ {vs : List Value} {cs : List Cel} {vs' : List Value} {cs' : List Cel}, InL w vs cs → InL w vs' cs' → InL w (vs ++ vs') (cs ++ cs')
 | vs, [], _, _, h, h' => by obtain rfl := h.nilE; exact h'
 | vs, c :: cs, _, _, h, h' => by
   obtain ⟨v, vs, rfl, h0, h1⟩ := h.consE
   exact InL.cons h0 (InL.app h1 h')
theorem HasL.mk {c : Cel} {t : Ty} {cs : List Cel} {fs : List Ty} (h : Has c t) (hs : HasL cs fs) : HasL (c :: cs) (t :: fs) := by
 refine ⟨by simp [hs.1], fun j c' t' hc ht => ?_⟩
 cases j with
 | zero => simp at hc ht; subst hc ht; exact h
 | succ j => simp at hc ht; exact hs.2 j c' t' hc ht
theorem HasL.none : HasL [] [] := ⟨rfl, fun j c t hc _ => by simp at hc⟩
theorem HasL.app : ∀ {cs : List Cel} {fs : List Ty} {cs' : List Cel} {fs' : List Ty}, HasL cs fs → HasL cs' fs' → HasL (cs ++ cs') (fs ++ fs')
 | cs, [], _, _, h, h' => by obtain rfl := h.nil; exact h'
 | cs, t :: fs, _, _, h, h' => by
   obtain ⟨c, cs, rfl, h0, h1⟩ := h.cons
   exact HasL.mk h0 (HasL.app h1 h')
inductive WfC : Cel → Prop
 | i (x : Int) (h : (Lit.int .i64 x).wf = true) : WfC (.i x)
 | b (x : Bool) : WfC (.b x)
 | s (x : ByteArray) : WfC (.s x)
 | l (T : TypeId) (k n : Nat) (cs : List Cel) (h : ∀ (j : Nat) (c : Cel), cs[j]? = some c → WfC c) : WfC (.l T k n cs)
def WfL (ds : List Cel) : Prop := ∀ (j : Nat) (c : Cel), ds[j]? = some c → WfC c
theorem WfL.nil : WfL [] := fun j c h => by simp at h
theorem WfL.cons {c : Cel} {ds : List Cel} (h : WfC c) (hs : WfL ds) : WfL (c :: ds) := fun j d hd => by
 cases j with
 | zero => simp at hd; subst hd; exact h
 | succ j => exact hs j d (by simpa using hd)
theorem WfL.app {ds es : List Cel} (h : WfL ds) (h' : WfL es) : WfL (ds ++ es) := fun j c hc => by
 by_cases hj : j < ds.length
 · rw [List.getElem?_append_left hj] at hc; exact h j c hc
 · rw [List.getElem?_append_right (by omega)] at hc; exact h' _ c hc
theorem parts_in {W : World} : ∀ (gs : List (List Ty)) (cs : List Value), cs.length = gs.flatten.length → (∀ (i : Nat) (g : List Ty), gs[i]? = some g → ∃ d, InL W ((cs.drop (gs.take i).flatten.length).take g.length) d ∧ HasL d g ∧ WfL d) → ∃ ds, InL W cs ds ∧ HasL ds gs.flatten ∧ WfL ds
 | [], cs, hl, _ => by
   obtain rfl : cs = [] := List.length_eq_zero_iff.1 (by simpa using hl)
   exact ⟨[], InL.nil, HasL.none, WfL.nil⟩
 | g :: gs, cs, hl, h => by
   simp only [List.flatten_cons, List.length_append] at hl
   obtain ⟨d, h1, h2, h3⟩ := h 0 g rfl
   obtain ⟨ds, g1, g2, g3⟩ := parts_in gs (cs.drop g.length) (by rw [List.length_drop]; omega) (fun i g' hg => by
     have := h (i + 1) g' (by simpa using hg)
     simpa [List.drop_drop] using this)
   refine ⟨d ++ ds, ?_, ?_, h3.app g3⟩
   · have := InL.app h1 g1
     simpa using this
   · simpa using HasL.app h2 g2
theorem flat_len {α : Type} {f : Nat → List α} {k : Nat} : ∀ (n : Nat), (∀ i, i < n → (f i).length = k) → ((List.range n).flatMap f).length = n * k
 | 0, _ => by simp
 | n + 1, h => by
   rw [List.range_succ, List.flatMap_append, List.length_append, flat_len n (fun i hi => h i (by omega))]
   simp [h n (by omega), Nat.succ_mul]
theorem flat_at {α : Type} {f : Nat → List α} {k : Nat} : ∀ (n : Nat), (∀ i, i < n → (f i).length = k) → ∀ i r, i < n → r < k → ((List.range n).flatMap f)[i * k + r]? = (f i)[r]?
 | 0, _, i, _, hi, _ => by omega
 | n + 1, h, i, r, hi, hr => by
   have hl := flat_len n (fun i hi => h i (by omega)) (f := f)
   rw [List.range_succ, List.flatMap_append]
   by_cases hin : i < n
   · have hle : i * k + k ≤ n * k := by rw [← Nat.succ_mul]; exact Nat.mul_le_mul_right k hin
     rw [List.getElem?_append_left (by omega)]
     exact flat_at n (fun i hi => h i (by omega)) i r hin hr
   · obtain rfl : i = n := by omega
     rw [List.getElem?_append_right (by omega), hl, Nat.add_sub_cancel_left]
     simp
theorem spot_none {w : World} {a : Addr} {v : Value} (h : w.cell? a = some v) : a.spot = none := by
 unfold World.cell? at h
 split at h
 · split at h
   · cases h
   · rename_i hs
     cases e : a.spot with
     | none => rfl
     | some x => rw [e] at hs; exact absurd rfl hs
 · cases h
theorem open_flat {H : Type} {enc : TypeId × Value → H} {P : Program} {W : World} {base : Nat} {held : Bool} {t : TypeId} {fs : List Ty} (hf : Flat P t fs) : ∀ {fuel : Nat} {cs : List Value} {x : DataW H × List MemPlace}, DataW.trod enc P W base (fun _ => true) held fuel t cs = some x → ∃ ds, InL W cs ds ∧ HasL ds fs ∧ WfL ds := by
 induction hf with
 | i t h =>
   intro fuel cs x hx
   obtain ⟨z, rfl, _, hz⟩ := DataW.trod_int h hx
   exact ⟨[.i z], InL.cons (.i z) InL.nil, HasL.mk (.i z) HasL.none, WfL.cons (.i z hz) WfL.nil⟩
 | b t h =>
   intro fuel cs x hx
   obtain ⟨z, rfl, _⟩ := DataW.trod_bool h hx
   exact ⟨[.b z], InL.cons (.b z) InL.nil, HasL.mk (.b z) HasL.none, WfL.cons (.b z) WfL.nil⟩
 | s t h =>
   intro fuel cs x hx
   obtain ⟨z, rfl, _, _⟩ := DataW.trod_string h hx
   exact ⟨[.s z], InL.cons (.s z) InL.nil, HasL.mk (.s z) HasL.none, WfL.cons (.s z) WfL.nil⟩
 | l t e T k fs h hk hk0 hc hf ih =>
   intro fuel cs x hx
   rcases Go.Deep.open_slice h hx with ⟨rfl, _⟩ | ⟨a, len, cap, m, fu, D, Pl, rfl, hb, hl, hm, hmm, _, hx⟩
   · exact ⟨[.l T k 0 []], InL.cons (.l none T k 0 0 [] [] (by simp) (by simp) (by omega) (.inl rfl) (fun j v c hv _ => by simp at hv)) InL.nil, HasL.mk (.l T k 0 [] fs hk (by simp) (fun j c t hc _ => by simp at hc)) HasL.none, WfL.cons (.l T k 0 [] (fun j c h => by simp at h)) WfL.nil⟩
   · have hlm : len ≤ m := by rw [hmm]; split <;> omega
     have each : ∀ i, i < len → ∃ z : List Value × List Cel, z.1.length = k ∧ (∀ r, r < k → W.cell? (a.add (i * k + r)) = z.1[r]?) ∧ InL W z.1 z.2 ∧ HasL z.2 fs ∧ WfL z.2 := by
       intro i hi
       obtain ⟨cs', h1, h2⟩ := hx i (by omega)
       rw [hc] at h1
       obtain ⟨_, hlen, hcell⟩ := World.cells?_some h1
       obtain ⟨ds, g1, g2, g3⟩ := ih h2
       refine ⟨(cs', ds), hlen, fun r hr => ?_, g1, g2, g3⟩
       have := hcell r (by omega)
       rw [Go.Deep.add_add] at this
       rw [this, List.getElem?_eq_getElem (by omega)]
     obtain ⟨z, hz⟩ := Go.Deep.choose_lt each
     have l1 : ∀ i, i < len → (z i).1.length = k := fun i hi => (hz i hi).1
     have l2 : ∀ i, i < len → (z i).2.length = k := fun i hi => by rw [(hz i hi).2.2.2.1.1, hk]
     refine ⟨[.l T k len ((List.range len).flatMap fun i => (z i).2)], InL.cons (.l (some a) T k len cap _ ((List.range len).flatMap fun i => (z i).1) (flat_len len l1) (flat_len len l2) (by unfold maxLen at hm; omega) ?_ (fun j v c hv hc => ?_)) InL.nil, HasL.mk (.l T k len _ fs hk (flat_len len l2) (fun j c t hc ht => ?_)) HasL.none, WfL.cons (.l T k len _ (fun j c hc => ?_)) WfL.nil⟩
     · by_cases h0 : len = 0
       · exact .inl h0
       · have hc0 := (hz 0 (by omega)).2.1 0 (by omega)
         rw [List.getElem?_eq_getElem (by rw [l1 0 (by omega)]; omega)] at hc0
         have hs := spot_none hc0
         obtain ⟨bl, off, sp⟩ := a
         have hs : sp = none := by simpa [Addr.add] using hs
         subst hs
         refine .inr ⟨bl, off, rfl, fun j hj => ?_⟩
         have hjd : j = (j / k) * k + j % k := by rw [Nat.mul_comm]; exact (Nat.div_add_mod j k).symm
         have hd : j / k < len := Nat.div_lt_of_lt_mul (by rwa [Nat.mul_comm])
         have hm' : j % k < k := Nat.mod_lt _ (by omega)
         have := (hz (j / k) hd).2.1 (j % k) hm'
         rw [← hjd] at this
         rw [show (⟨bl, off, none⟩ : Addr).add j = ⟨bl, off + j, none⟩ by simp [Addr.add]] at this
         rw [this]
         conv => rhs; rw [hjd]
         exact (flat_at len l1 _ _ hd hm').symm
     · have hj : j < len * k := by have := (List.getElem?_eq_some_iff.1 hv).1; rwa [flat_len len l1] at this
       have hjd : j = (j / k) * k + j % k := by rw [Nat.mul_comm]; exact (Nat.div_add_mod j k).symm
       have hd : j / k < len := Nat.div_lt_of_lt_mul (by rwa [Nat.mul_comm])
       have hm' : j % k < k := Nat.mod_lt _ hk0
       rw [hjd, flat_at len l1 _ _ hd hm'] at hv
       rw [hjd, flat_at len l2 _ _ hd hm'] at hc
       exact (hz (j / k) hd).2.2.1.2 _ v c hv hc
     · have hj : j < len * k := by have := (List.getElem?_eq_some_iff.1 hc).1; rwa [flat_len len l2] at this
       have hjd : j = (j / k) * k + j % k := by rw [Nat.mul_comm]; exact (Nat.div_add_mod j k).symm
       have hd : j / k < len := Nat.div_lt_of_lt_mul (by rwa [Nat.mul_comm])
       have hm' : j % k < k := Nat.mod_lt _ hk0
       rw [hjd, flat_at len l2 _ _ hd hm'] at hc
       exact (hz (j / k) hd).2.2.2.1.2 _ c t hc ht
     · have hj : j < len * k := by have := (List.getElem?_eq_some_iff.1 hc).1; rwa [flat_len len l2] at this
       have hjd : j = (j / k) * k + j % k := by rw [Nat.mul_comm]; exact (Nat.div_add_mod j k).symm
       have hd : j / k < len := Nat.div_lt_of_lt_mul (by rwa [Nat.mul_comm])
       have hm' : j % k < k := Nat.mod_lt _ hk0
       rw [hjd, flat_at len l2 _ _ hd hm'] at hc
       exact (hz (j / k) hd).2.2.2.2 _ c hc
 | st t Fs gs h hl hc ho hf ih =>
   intro fuel cs x hx
   obtain ⟨xs, n, _, _, hlen, hxl, hxf⟩ := DataW.trod_struct h hx
   refine parts_in gs cs (by omega) fun i g hg => ?_
   have hi : i < Fs.size := by have := (List.getElem?_eq_some_iff.1 hg).1; omega
   have hF : Fs[i]? = some Fs[i] := Array.getElem?_eq_getElem hi
   have h1 := hxf i _ hF
   rw [(ho i _ g hF hg).1, (ho i _ g hF hg).2, List.getElem?_eq_getElem (by omega)] at h1
   exact ih i _ g hF hg h1
theorem open_st {H : Type} {enc : TypeId × Value → H} {P : Program} {W : World} {base b0 : Nat} {held : Bool} {t : TypeId} {Fs : Array Field} {fs : List Ty} {v : Value} {d : DataW H} {p : List MemPlace} (hu : P.underlying t = some (.struct Fs)) (hf : Flat P t fs)
   (hv : Value.okWide P W .any b0 t v) (h : DataW.Trod enc P W base (fun _ => true) held t v d p) : ∃ vs ds, v = .agg vs.toArray ∧ InL W vs ds ∧ HasL ds fs ∧ WfL ds := by
 obtain ⟨cs, rfl, _⟩ := okWide_struct hu hv
 obtain ⟨fuel, hx⟩ := h
 obtain ⟨ds, h1, h2, h3⟩ := open_flat hf hx
 exact ⟨cs.toList, ds, by simp, by simpa [Value.cells] using h1, h2, h3⟩
end
end Go.Proofs.YtlkdjeneggfhgaaGreatDoor
