/- Texts joined: DatF, DatI, DatM, DatN, DatD. -/
import Derived.Test.YtbfolanfbagofaaGreatDoorQA19
import Derived.Test.YtbfolanfbagofaaGreatDoorQA01
import Derived.Deep.RegionHeld3
import Derived.Deep.Cut
import Derived.Handy
set_option maxHeartbeats 200000
set_option maxRecDepth 100000
namespace Go.Proofs.YtbfolanfbagofaaGreatDoor
section
open Go.ChangeShapes Go.WideShapes Go.ChangeAt Go.RowKit Go.Joins
inductive Ty where
 | i
 | b
 | s
 | l (T : TypeId) (k : Nat) (fs : List Ty)
inductive Has : Cel → Ty → Prop
 | i (x : Int) : Has (.i x) .i
 | b (x : Bool) : Has (.b x) .b
 | s (x : ByteArray) : Has (.s x) .s
 | l (T : TypeId) (k n : Nat) (cs : List Cel) (fs : List Ty) (hk : fs.length = k) (h1 : cs.length = n * k) (h2 : ∀ (j : Nat) (c : Cel) (t : Ty), cs[j]? = some c → fs[j % k]? = some t → Has c t) : Has (.l T k n cs) (.l T k fs)
def HasL (cs : List Cel) (fs : List Ty) : Prop := cs.length = fs.length ∧ ∀ (j : Nat) (c : Cel) (t : Ty), cs[j]? = some c → fs[j]? = some t → Has c t
def row (cs : List Cel) (k j : Nat) : List Cel := (cs.drop (j * k)).take k
theorem rowL_len {cs : List Cel} {k n j : Nat} (h : cs.length = n * k) (hj : j < n) : (row cs k j).length = k := by
 unfold row
 rw [List.length_take, List.length_drop, h]
 have : j * k + k ≤ n * k := by rw [← Nat.succ_mul]; exact Nat.mul_le_mul_right k hj
 omega
theorem row_at {cs : List Cel} {k j i : Nat} (hi : i < k) : (row cs k j)[i]? = cs[j * k + i]? := by
 unfold row
 rw [List.getElem?_take_of_lt hi, List.getElem?_drop]
theorem row_split {cs : List Cel} {k j : Nat} : cs.take ((j + 1) * k) = cs.take (j * k) ++ row cs k j := by
 unfold row
 rw [Nat.succ_mul, List.take_add]
theorem Has.rowL {T : TypeId} {k n : Nat} {cs : List Cel} {fs : List Ty} (h : Has (.l T k n cs) (.l T k fs)) {j : Nat} (hj : j < n) : HasL (row cs k j) fs := by
 cases h with
 | l _ _ _ _ _ hk h1 h2 =>
   refine ⟨by rw [rowL_len h1 hj, hk], fun i c t hc ht => ?_⟩
   have hi : i < k := by have := (List.getElem?_eq_some_iff.1 ht).1; omega
   rw [row_at hi] at hc
   refine h2 (j * k + i) c t hc ?_
   rw [show (j * k + i) % k = i by rw [Nat.add_comm, Nat.add_mul_mod_self_right, Nat.mod_eq_of_lt hi]]
   exact ht
theorem HasL.nil {cs : List Cel} (h : HasL cs []) : cs = [] := List.length_eq_zero_iff.1 h.1
theorem HasL.cons {cs : List Cel} {t : Ty} {fs : List Ty} (h : HasL cs (t :: fs)) : ∃ c cs', cs = c :: cs' ∧ Has c t ∧ HasL cs' fs := by
 match cs, h with
 | [], h => have := h.1; simp at this
 | c :: cs', h => exact ⟨c, cs', rfl, h.2 0 c t rfl rfl, ⟨by have := h.1; simpa using this, fun j c' t' hc ht => h.2 (j + 1) c' t' (by simpa using hc) (by simpa using ht)⟩⟩
theorem HasL.c1 {cs : List Cel} {t0 : Ty} (h : HasL cs [t0]) : ∃ c0, cs = [c0] ∧ Has c0 t0 := by
 obtain ⟨c0, r0, rfl, T0, h0⟩ := h.cons
 obtain rfl := h0.nil
 exact ⟨_, rfl, T0⟩
theorem HasL.c2 {cs : List Cel} {t0 t1 : Ty} (h : HasL cs [t0, t1]) : ∃ c0 c1, cs = [c0, c1] ∧ Has c0 t0 ∧ Has c1 t1 := by
 obtain ⟨c0, r0, rfl, T0, h0⟩ := h.cons
 obtain ⟨c1, r1, rfl, T1, h1⟩ := h0.cons
 obtain rfl := h1.nil
 exact ⟨_, _, rfl, T0, T1⟩
theorem HasL.c3 {cs : List Cel} {t0 t1 t2 : Ty} (h : HasL cs [t0, t1, t2]) : ∃ c0 c1 c2, cs = [c0, c1, c2] ∧ Has c0 t0 ∧ Has c1 t1 ∧ Has c2 t2 := by
 obtain ⟨c0, r0, rfl, T0, h0⟩ := h.cons
 obtain ⟨c1, r1, rfl, T1, h1⟩ := h0.cons
 obtain ⟨c2, r2, rfl, T2, h2⟩ := h1.cons
 obtain rfl := h2.nil
 exact ⟨_, _, _, rfl, T0, T1, T2⟩
theorem HasL.c4 {cs : List Cel} {t0 t1 t2 t3 : Ty} (h : HasL cs [t0, t1, t2, t3]) : ∃ c0 c1 c2 c3, cs = [c0, c1, c2, c3] ∧ Has c0 t0 ∧ Has c1 t1 ∧ Has c2 t2 ∧ Has c3 t3 := by
 obtain ⟨c0, r0, rfl, T0, h0⟩ := h.cons
 obtain ⟨c1, r1, rfl, T1, h1⟩ := h0.cons
 obtain ⟨c2, r2, rfl, T2, h2⟩ := h1.cons
 obtain ⟨c3, r3, rfl, T3, h3⟩ := h2.cons
 obtain rfl := h3.nil
 exact ⟨_, _, _, _, rfl, T0, T1, T2, T3⟩
theorem HasL.c5 {cs : List Cel} {t0 t1 t2 t3 t4 : Ty} (h : HasL cs [t0, t1, t2, t3, t4]) : ∃ c0 c1 c2 c3 c4, cs = [c0, c1, c2, c3, c4] ∧ Has c0 t0 ∧ Has c1 t1 ∧ Has c2 t2 ∧ Has c3 t3 ∧ Has c4 t4 := by
 obtain ⟨c0, r0, rfl, T0, h0⟩ := h.cons
 obtain ⟨c1, r1, rfl, T1, h1⟩ := h0.cons
 obtain ⟨c2, r2, rfl, T2, h2⟩ := h1.cons
 obtain ⟨c3, r3, rfl, T3, h3⟩ := h2.cons
 obtain ⟨c4, r4, rfl, T4, h4⟩ := h3.cons
 obtain rfl := h4.nil
 exact ⟨_, _, _, _, _, rfl, T0, T1, T2, T3, T4⟩
theorem HasL.c8 {cs : List Cel} {t0 t1 t2 t3 t4 t5 t6 t7 : Ty} (h : HasL cs [t0, t1, t2, t3, t4, t5, t6, t7]) : ∃ c0 c1 c2 c3 c4 c5 c6 c7, cs = [c0, c1, c2, c3, c4, c5, c6, c7] ∧ Has c0 t0 ∧ Has c1 t1 ∧ Has c2 t2 ∧ Has c3 t3 ∧ Has c4 t4 ∧ Has c5 t5 ∧ Has c6 t6 ∧ Has c7 t7 := by
 obtain ⟨c0, r0, rfl, T0, h0⟩ := h.cons
 obtain ⟨c1, r1, rfl, T1, h1⟩ := h0.cons
 obtain ⟨c2, r2, rfl, T2, h2⟩ := h1.cons
 obtain ⟨c3, r3, rfl, T3, h3⟩ := h2.cons
 obtain ⟨c4, r4, rfl, T4, h4⟩ := h3.cons
 obtain ⟨c5, r5, rfl, T5, h5⟩ := h4.cons
 obtain ⟨c6, r6, rfl, T6, h6⟩ := h5.cons
 obtain ⟨c7, r7, rfl, T7, h7⟩ := h6.cons
 obtain rfl := h7.nil
 exact ⟨_, _, _, _, _, _, _, _, rfl, T0, T1, T2, T3, T4, T5, T6, T7⟩
theorem HasL.c9 {cs : List Cel} {t0 t1 t2 t3 t4 t5 t6 t7 t8 : Ty} (h : HasL cs [t0, t1, t2, t3, t4, t5, t6, t7, t8]) : ∃ c0 c1 c2 c3 c4 c5 c6 c7 c8, cs = [c0, c1, c2, c3, c4, c5, c6, c7, c8] ∧ Has c0 t0 ∧ Has c1 t1 ∧ Has c2 t2 ∧ Has c3 t3 ∧ Has c4 t4 ∧ Has c5 t5 ∧ Has c6 t6 ∧ Has c7 t7 ∧ Has c8 t8 := by
 obtain ⟨c0, r0, rfl, T0, h0⟩ := h.cons
 obtain ⟨c1, r1, rfl, T1, h1⟩ := h0.cons
 obtain ⟨c2, r2, rfl, T2, h2⟩ := h1.cons
 obtain ⟨c3, r3, rfl, T3, h3⟩ := h2.cons
 obtain ⟨c4, r4, rfl, T4, h4⟩ := h3.cons
 obtain ⟨c5, r5, rfl, T5, h5⟩ := h4.cons
 obtain ⟨c6, r6, rfl, T6, h6⟩ := h5.cons
 obtain ⟨c7, r7, rfl, T7, h7⟩ := h6.cons
 obtain ⟨c8, r8, rfl, T8, h8⟩ := h7.cons
 obtain rfl := h8.nil
 exact ⟨_, _, _, _, _, _, _, _, _, rfl, T0, T1, T2, T3, T4, T5, T6, T7, T8⟩
theorem Has.int {c : Cel} (h : Has c .i) : ∃ x, c = .i x := by cases h; exact ⟨_, rfl⟩
theorem Has.bool {c : Cel} (h : Has c .b) : ∃ x, c = .b x := by cases h; exact ⟨_, rfl⟩
theorem Has.list {c : Cel} {T : TypeId} {k : Nat} {fs : List Ty} (h : Has c (.l T k fs)) : ∃ n cs, c = .l T k n cs ∧ cs.length = n * k := by cases h; exact ⟨_, _, rfl, by assumption⟩
mutual
def Cel.cnt : Cel → Nat
 | .i _ => 1
 | .b _ => 1
 | .s _ => 1
 | .l _ _ _ cs => cntL cs
def cntL : List Cel → Nat
 | [] => 0
 | c :: cs => c.cnt + cntL cs
end
mutual
def Cel.mark (tx : Int → ByteArray) : Cel → Int → Cel
 | .i _, q => .i q
 | .b _, q => .b (q % 3 == 0)
 | .s _, q => .s (tx q)
 | .l T k n cs, q => .l T k n (markL tx cs q)
def markL (tx : Int → ByteArray) : List Cel → Int → List Cel
 | [], _ => []
 | c :: cs, q => c.mark tx q :: markL tx cs (q + (c.cnt : Int))
end
mutual
def Cel.big : Cel → Nat
 | .i _ => 0
 | .b _ => 0
 | .s x => x.size
 | .l _ _ n cs => n + bigL cs
def bigL : List Cel → Nat
 | [] => 0
 | c :: cs => c.big + bigL cs
end
theorem bigL_append (a b : List Cel) : bigL (a ++ b) = bigL a + bigL b := by
 induction a with
 | nil => simp [bigL]
 | cons c a ih => simp [bigL, ih]; omega
theorem Own.inner {w w' : World} {base : Nat} {g n cap : Nat} {T : TypeId} {k : Nat} {cs : List Cel} {S : Nat → Prop} (h : Own w base (.slice (some ⟨g, 0, none⟩) n cap) (.l T k n cs) S) {j : Nat} {c c' : Cel} (hc : cs[j]? = some c)
   (hw : ∀ v Sj, w.cell? ⟨g, j, none⟩ = some v → Own w base v c Sj → (∀ x, Sj x → S x) → ¬ Sj g → Own w' base v c' Sj ∧ ∀ x, S x → ¬ Sj x → w'.heap[x]? = w.heap[x]?) :
   Own w' base (.slice (some ⟨g, 0, none⟩) n cap) (.l T k n (cs.set j c')) S := by
 cases h with
 | l g cap T k n cs vs S Ss h1 h2 hn h4 h5 h6 h7 =>
   have hj : j < cs.length := (List.getElem?_eq_some_iff.1 hc).1
   have hl := h1.1
   have hv : vs[j]? = some (vs[j]'(by omega)) := List.getElem?_eq_getElem (by omega)
   have sub : ∀ i x, i < n * k → Ss i x → S x := fun i x hi hx => (h7 x).2 (.inr ⟨i, hi, hx⟩)
   obtain ⟨ho, he⟩ := hw _ (Ss j) (own_cellV h1 hv) (h4 j _ _ hv hc) (fun x => sub j x (by omega)) (h5 j)
   refine .l g cap T k n _ vs S Ss (owns_heap h1 fun x hx => ?_) (by simpa using h2) hn (fun i v d hvi hdi => ?_) h5 h6 h7
   · cases hx
     exact he g ((h7 g).2 (.inl rfl)) (h5 j)
   · by_cases hij : j = i
     · subst hij
       rw [List.getElem?_set_self hj] at hdi
       cases hdi
       rw [hv] at hvi
       cases hvi
       exact ho
     · rw [List.getElem?_set_ne hij] at hdi
       have hi : i < n * k := by have := (List.getElem?_eq_some_iff.1 hvi).1; omega
       exact (h4 i v d hvi hdi).heap fun x hx => he x (sub i x hi hx) (h6 i j x (Ne.symm hij) hx)
theorem At.openL {q : Bool} {w : World} {v : Value} {T : TypeId} {k n : Nat} {cs : List Cel} (h : At q w v (.l T k n cs)) : ∃ (a : Option Addr) (c : Nat) (vs : List Value), v = .slice a n c ∧ vs.length = n * k ∧ cs.length = n * k ∧ n ≤ 2097152 ∧ (q = true → (a = none → c = 0) ∧ n ≤ c) ∧
   (n = 0 ∨ ∃ b o, a = some ⟨b, o, none⟩ ∧ ∀ j, j < n * k → w.cell? ⟨b, o + j, none⟩ = vs[j]?) ∧ ∀ (j : Nat) (v : Value) (c : Cel), vs[j]? = some v → cs[j]? = some c → At q w v c := by
 cases h with
 | l a T k n c cs vs h1 h2 hn hc h3 h4 => exact ⟨a, c, vs, rfl, h1, h2, hn, hc, h3, h4⟩
theorem At.int {q : Bool} {w : World} {v : Value} {x : Int} (h : At q w v (.i x)) : v = .int .i64 x := by cases h; rfl
theorem At.bool {q : Bool} {w : World} {v : Value} {x : Bool} (h : At q w v (.b x)) : v = .bool x := by cases h; rfl
theorem At.slice {q : Bool} {w : World} {v : Value} {T : TypeId} {k n : Nat} {cs : List Cel} (h : At q w v (.l T k n cs)) : ∃ a c, v = .slice a n c := by
 obtain ⟨a, c, _, e, _⟩ := h.openL
 exact ⟨a, c, e⟩
theorem AtL.nilE {q : Bool} {w : World} {vs : List Value} (h : AtL q w vs []) : vs = [] := List.length_eq_zero_iff.1 h.1
theorem AtL.consE {q : Bool} {w : World} {vs : List Value} {c : Cel} {cs : List Cel} (h : AtL q w vs (c :: cs)) : ∃ v vs', vs = v :: vs' ∧ At q w v c ∧ AtL q w vs' cs := by
 match vs, h with
 | [], h => have := h.1; simp at this
 | v :: vs', h => exact ⟨v, vs', rfl, h.head, h.tail⟩
theorem AtL.c1 {q : Bool} {w : World} {vs : List Value} {c0 : Cel} (h : AtL q w vs [c0]) : ∃ v0, vs = [v0] ∧ At q w v0 c0 := by
 obtain ⟨v0, r0, rfl, T0, h0⟩ := h.consE
 obtain rfl := h0.nilE
 exact ⟨_, rfl, T0⟩
theorem AtL.c2 {q : Bool} {w : World} {vs : List Value} {c0 c1 : Cel} (h : AtL q w vs [c0, c1]) : ∃ v0 v1, vs = [v0, v1] ∧ At q w v0 c0 ∧ At q w v1 c1 := by
 obtain ⟨v0, r0, rfl, T0, h0⟩ := h.consE
 obtain ⟨v1, r1, rfl, T1, h1⟩ := h0.consE
 obtain rfl := h1.nilE
 exact ⟨_, _, rfl, T0, T1⟩
theorem AtL.c3 {q : Bool} {w : World} {vs : List Value} {c0 c1 c2 : Cel} (h : AtL q w vs [c0, c1, c2]) : ∃ v0 v1 v2, vs = [v0, v1, v2] ∧ At q w v0 c0 ∧ At q w v1 c1 ∧ At q w v2 c2 := by
 obtain ⟨v0, r0, rfl, T0, h0⟩ := h.consE
 obtain ⟨v1, r1, rfl, T1, h1⟩ := h0.consE
 obtain ⟨v2, r2, rfl, T2, h2⟩ := h1.consE
 obtain rfl := h2.nilE
 exact ⟨_, _, _, rfl, T0, T1, T2⟩
theorem AtL.c4 {q : Bool} {w : World} {vs : List Value} {c0 c1 c2 c3 : Cel} (h : AtL q w vs [c0, c1, c2, c3]) : ∃ v0 v1 v2 v3, vs = [v0, v1, v2, v3] ∧ At q w v0 c0 ∧ At q w v1 c1 ∧ At q w v2 c2 ∧ At q w v3 c3 := by
 obtain ⟨v0, r0, rfl, T0, h0⟩ := h.consE
 obtain ⟨v1, r1, rfl, T1, h1⟩ := h0.consE
 obtain ⟨v2, r2, rfl, T2, h2⟩ := h1.consE
 obtain ⟨v3, r3, rfl, T3, h3⟩ := h2.consE
 obtain rfl := h3.nilE
 exact ⟨_, _, _, _, rfl, T0, T1, T2, T3⟩
theorem AtL.c5 {q : Bool} {w : World} {vs : List Value} {c0 c1 c2 c3 c4 : Cel} (h : AtL q w vs [c0, c1, c2, c3, c4]) : ∃ v0 v1 v2 v3 v4, vs = [v0, v1, v2, v3, v4] ∧ At q w v0 c0 ∧ At q w v1 c1 ∧ At q w v2 c2 ∧ At q w v3 c3 ∧ At q w v4 c4 := by
 obtain ⟨v0, r0, rfl, T0, h0⟩ := h.consE
 obtain ⟨v1, r1, rfl, T1, h1⟩ := h0.consE
 obtain ⟨v2, r2, rfl, T2, h2⟩ := h1.consE
 obtain ⟨v3, r3, rfl, T3, h3⟩ := h2.consE
 obtain ⟨v4, r4, rfl, T4, h4⟩ := h3.consE
 obtain rfl := h4.nilE
 exact ⟨_, _, _, _, _, rfl, T0, T1, T2, T3, T4⟩
theorem AtL.c8 {q : Bool} {w : World} {vs : List Value} {c0 c1 c2 c3 c4 c5 c6 c7 : Cel} (h : AtL q w vs [c0, c1, c2, c3, c4, c5, c6, c7]) : ∃ v0 v1 v2 v3 v4 v5 v6 v7, vs = [v0, v1, v2, v3, v4, v5, v6, v7] ∧ At q w v0 c0 ∧ At q w v1 c1 ∧ At q w v2 c2 ∧ At q w v3 c3 ∧ At q w v4 c4 ∧ At q w v5 c5 ∧ At q w v6 c6 ∧ At q w v7 c7 := by
 obtain ⟨v0, r0, rfl, T0, h0⟩ := h.consE
 obtain ⟨v1, r1, rfl, T1, h1⟩ := h0.consE
 obtain ⟨v2, r2, rfl, T2, h2⟩ := h1.consE
 obtain ⟨v3, r3, rfl, T3, h3⟩ := h2.consE
 obtain ⟨v4, r4, rfl, T4, h4⟩ := h3.consE
 obtain ⟨v5, r5, rfl, T5, h5⟩ := h4.consE
 obtain ⟨v6, r6, rfl, T6, h6⟩ := h5.consE
 obtain ⟨v7, r7, rfl, T7, h7⟩ := h6.consE
 obtain rfl := h7.nilE
 exact ⟨_, _, _, _, _, _, _, _, rfl, T0, T1, T2, T3, T4, T5, T6, T7⟩
theorem AtL.c9 {q : Bool} {w : World} {vs : List Value} {c0 c1 c2 c3 c4 c5 c6 c7 c8 : Cel} (h : AtL q w vs [c0, c1, c2, c3, c4, c5, c6, c7, c8]) : ∃ v0 v1 v2 v3 v4 v5 v6 v7 v8, vs = [v0, v1, v2, v3, v4, v5, v6, v7, v8] ∧ At q w v0 c0 ∧ At q w v1 c1 ∧ At q w v2 c2 ∧ At q w v3 c3 ∧ At q w v4 c4 ∧ At q w v5 c5 ∧ At q w v6 c6 ∧ At q w v7 c7 ∧ At q w v8 c8 := by
 obtain ⟨v0, r0, rfl, T0, h0⟩ := h.consE
 obtain ⟨v1, r1, rfl, T1, h1⟩ := h0.consE
 obtain ⟨v2, r2, rfl, T2, h2⟩ := h1.consE
 obtain ⟨v3, r3, rfl, T3, h3⟩ := h2.consE
 obtain ⟨v4, r4, rfl, T4, h4⟩ := h3.consE
 obtain ⟨v5, r5, rfl, T5, h5⟩ := h4.consE
 obtain ⟨v6, r6, rfl, T6, h6⟩ := h5.consE
 obtain ⟨v7, r7, rfl, T7, h7⟩ := h6.consE
 obtain ⟨v8, r8, rfl, T8, h8⟩ := h7.consE
 obtain rfl := h8.nilE
 exact ⟨_, _, _, _, _, _, _, _, _, rfl, T0, T1, T2, T3, T4, T5, T6, T7, T8⟩
theorem OwnL.nilE {w : World} {base : Nat} {vs : List Value} {S : Nat → Prop} (h : OwnL w base vs [] S) : vs = [] := List.length_eq_zero_iff.1 h.1
theorem OwnL.consE {w : World} {base : Nat} {vs : List Value} {c : Cel} {cs : List Cel} {S : Nat → Prop} (h : OwnL w base vs (c :: cs) S) : ∃ v vs', vs = v :: vs' := by
 match vs, h with
 | [], h => have := h.1; simp at this
 | v :: vs', _ => exact ⟨v, vs', rfl⟩
theorem rowVals {q : Bool} {w : World} {k n j : Nat} {cs : List Cel} {vs : List Value} (h1 : vs.length = n * k) (h2 : cs.length = n * k) (h4 : ∀ (j : Nat) (v : Value) (c : Cel), vs[j]? = some v → cs[j]? = some c → At q w v c) (hj : j < n) : AtL q w ((vs.drop (j * k)).take k) (row cs k j) := by
 have hle : j * k + k ≤ n * k := by rw [← Nat.succ_mul]; exact Nat.mul_le_mul_right k hj
 refine ⟨by rw [rowL_len h2 hj, List.length_take, List.length_drop, h1]; omega, fun i v c hv hc => ?_⟩
 have hi : i < k := by have := (List.getElem?_eq_some_iff.1 hc).1; rw [rowL_len h2 hj] at this; exact this
 rw [row_at hi] at hc
 rw [List.getElem?_take_of_lt hi, List.getElem?_drop] at hv
 exact h4 _ v c hv hc
def stores (w : World) (g p : Nat) : List Value → World
 | [] => w
 | u :: us => stores (w.setCell ⟨g, p, none⟩ u) g (p + 1) us
theorem stores_below {g B : Nat} (hB : B ≤ g) {w0 : World} : ∀ (us : List Value) (w : World) (p : Nat), Below B w0 w → Below B w0 (stores w g p us)
 | [], _, _, h => h
 | u :: us, _, _, h => stores_below hB us _ _ (h.setCell hB u)
def over (ps : List Cel) (p : Nat) : List Cel → List Cel
 | [] => ps
 | c :: cs => over (ps.set p c) (p + 1) cs
theorem over_len : ∀ (cs ps : List Cel) (p : Nat), (over ps p cs).length = ps.length
 | [], _, _ => rfl
 | c :: cs, ps, p => (over_len cs _ _).trans (by simp)
theorem over_take : ∀ (cs ps : List Cel) (p : Nat), p + cs.length ≤ ps.length → (over ps p cs).take (p + cs.length) = ps.take p ++ cs
 | [], ps, p, _ => by simp [over]
 | c :: cs, ps, p, h => by
   simp only [List.length_cons] at h
   have ih := over_take cs (ps.set p c) (p + 1) (by simp; omega)
   rw [show p + (c :: cs).length = p + 1 + cs.length by simp; omega, over, ih]
   rw [List.take_succ_eq_append_getElem (by simp; omega)]
   simp [List.take_set_of_le (Nat.le_refl _)]
theorem Own.storeL : ∀ {us : List Value} {rs : List Cel} {w : World} {base g n cap : Nat} {T : TypeId} {k : Nat} {ps : List Cel} {S S' : Nat → Prop} {p : Nat}, Own w base (.slice (some ⟨g, 0, none⟩) n cap) (.l T k n ps) S → OwnL w base us rs S' → (∀ x, S' x → ¬ S x) → p + rs.length ≤ n * k →
   ∃ S'', Own (stores w g p us) base (.slice (some ⟨g, 0, none⟩) n cap) (.l T k n (over ps p rs)) S'' ∧ ∀ x, S'' x → S x ∨ S' x
 | us, [], w, base, g, n, cap, T, k, ps, S, S', p, h, hu, _, _ => by
   obtain rfl := hu.nilE
   exact ⟨S, h, fun x hx => .inl hx⟩
 | us, c :: rs, w, base, g, n, cap, T, k, ps, S, S', p, h, hu, hd, hp => by
   obtain ⟨u, us', rfl⟩ := hu.consE
   obtain ⟨S0, S1, h0, h1, hd01, hS⟩ := hu.parts
   simp only [List.length_cons] at hp
   obtain ⟨Sa, oa, ga, sa, ta⟩ := h.store (show p < n * k by omega) h0 (fun x hx => hd x ((hS x).2 (.inl hx)))
   have hg : S g := by
     rcases h.forms with ⟨e, _⟩ | ⟨g', cap', e, _, hg⟩
     · cases e
     · cases e; exact hg
   have h1' : OwnL (w.setCell ⟨g, p, none⟩ u) base us' rs S1 := h1.heap fun x hx => Below.heap_setCell _ _ _ _ (fun e => by
     have e : x = g := e
     exact hd x ((hS x).2 (.inr hx)) (by rw [e]; exact hg))
   obtain ⟨S'', o, s⟩ := Own.storeL (p := p + 1) oa h1' (fun x hx hxa => by
     rcases sa x hxa with h' | h'
     · exact hd x ((hS x).2 (.inr hx)) h'
     · exact hd01 x h' hx) (by omega)
   exact ⟨S'', o, fun x hx => by
     rcases s x hx with h' | h'
     · rcases sa x h' with h'' | h''
       · exact .inl h''
       · exact .inr ((hS x).2 (.inl h''))
     · exact .inr ((hS x).2 (.inr h'))⟩
theorem own_made {w : World} {g n : Nat} {T : TypeId} {k : Nat} {vs zv : List Value} {zc : List Cel} (h : w.ownsRow g T k (.slice (some ⟨g, 0, none⟩) n n) n vs) (hn : n ≤ 2097152) (hk : zc.length = k) (hz : ∀ (j : Nat) (v : Value), vs[j]? = some v → zv[j % k]? = some v) (hzc : ∀ (i : Nat) (v : Value) (c : Cel), zv[i]? = some v → zc[i]? = some c → ∀ w', Own w' g v c (fun _ => False)) :
   ∃ ps, ps.length = n * k ∧ Own w g (.slice (some ⟨g, 0, none⟩) n n) (.l T k n ps) (fun x => x = g) := by
 refine ⟨(List.range (n * k)).map fun j => zc.getD (j % k) (.i 0), by simp, ?_⟩
 have hl := h.1
 refine .l g n T k n _ vs _ (fun _ _ => False) h (by simp) hn (fun j v c hv hc => ?_) (fun _ h => h) (fun _ _ _ _ h => h.elim) (fun x => by simp)
 have hj : j < n * k := by have := (List.getElem?_eq_some_iff.1 hv).1; omega
 have hk0 : 0 < k := by
   rcases Nat.eq_zero_or_pos k with h0 | h0
   · rw [h0] at hj; simp at hj
   · exact h0
 have hm : j % k < zc.length := by rw [hk]; exact Nat.mod_lt _ hk0
 simp [hj] at hc
 subst hc
 refine hzc (j % k) v _ (hz j v hv) ?_ w
 rw [List.getElem?_eq_getElem hm]
 rfl
def RetL (w : World) (cs : List Cel) (e : Ending) (w' : World) : Prop := Below w.heap.size w w' ∧ ∃ us S, e = .returned (.agg us.toArray) ∧ OwnL w' w.heap.size us cs S
def Ret (w : World) (c : Cel) (e : Ending) (w' : World) : Prop := Below w.heap.size w w' ∧ ∃ u S, e = .returned u ∧ Own w' w.heap.size u c S
theorem made_at {z : Array Value} {m j : Nat} {v : Value} (h : (madeCells z m).toList[j]? = some v) (hz : 0 < z.size) : z.toList[j % z.size]? = some v := by
 have hj : j < m := by have := (List.getElem?_eq_some_iff.1 h).1; simpa [madeCells] using this
 have hm : j % z.size < z.size := Nat.mod_lt _ hz
 simp [madeCells, hj] at h
 rw [← h]
 simp [hm]
theorem OwnL.app : ∀ {vs : List Value} {cs : List Cel} {w : World} {b : Nat} {vs' : List Value} {cs' : List Cel} {S S' : Nat → Prop}, OwnL w b vs cs S → OwnL w b vs' cs' S' → (∀ x, S x → ¬ S' x) → OwnL w b (vs ++ vs') (cs ++ cs') (fun x => S x ∨ S' x)
 | vs, [], w, b, vs', cs', S, S', h, h', _ => by
   obtain rfl := h.nilE
   have hn : ∀ x, ¬ S x := fun x hx => by
     obtain ⟨_, Ss, _, _, h3⟩ := h
     obtain ⟨j, hj, _⟩ := (h3 x).1 hx
     simp at hj
   obtain ⟨l, Ss, h1, h2, h3⟩ := h'
   exact ⟨l, Ss, h1, h2, fun x => ⟨fun hx => (h3 x).1 (hx.resolve_left (hn x)), fun hx => .inr ((h3 x).2 hx)⟩⟩
 | vs, c :: cs, w, b, vs', cs', S, S', h, h', hd => by
   obtain ⟨v, vs, rfl⟩ := h.consE
   obtain ⟨S0, S1, h0, h1, hd01, hS⟩ := h.parts
   exact OwnL.cons h0 (OwnL.app h1 h' fun x hx => hd x ((hS x).2 (.inr hx))) (fun x hx hx' => by
     rcases hx' with hx' | hx'
     · exact hd01 x hx hx'
     · exact hd x ((hS x).2 (.inl hx)) hx') (fun x => by rw [hS x, or_assoc])
structure Mk (w W : World) (A Z C : Array Value) (TA TO : TypeId) (R : List (List Value × List Cel × (Nat → Prop))) : Prop where
 a : Box W w.heap.size A TA
 z : Box W (w.heap.size + 1) Z TO
 c : Box W (w.heap.size + 1 + 1) C TO
 b : Below w.heap.size w W
 o : ∀ r ∈ R, OwnL W (w.heap.size + 3) r.1 r.2.1 r.2.2
 d : R.Pairwise (fun p q => ∀ x, p.2.2 x → ¬ q.2.2 x)
theorem mk_new (w : World) (A Z C : Array Value) (TA TO : TypeId) : Mk w (((w.alloc (.cells A TA)).alloc (.cells Z TO)).alloc (.cells C TO)) A Z C TA TO [] := by
 refine ⟨((box_of w A TA).alloc _).alloc _, ?_, ?_, (((Below.refl _ w).alloc (Nat.le_refl _) _).alloc (by simp) _).alloc (by simp; omega) _, (fun r hr => by simp at hr), List.Pairwise.nil⟩
 · have := (box_of (w.alloc (.cells A TA)) Z TO).alloc (.cells C TO)
   rwa [World.size_alloc] at this
 · have := box_of ((w.alloc (.cells A TA)).alloc (.cells Z TO)) C TO
   rwa [World.size_alloc, World.size_alloc] at this
theorem Mk.store {w W : World} {A Z C : Array Value} {TA TO : TypeId} {R : List (List Value × List Cel × (Nat → Prop))} (h : Mk w W A Z C TA TO R) (i : Nat) (v : Value) : Mk w (W.setCell ⟨w.heap.size + 1 + 1, i, none⟩ v) A Z (C.setIfInBounds i v) TA TO R :=
 ⟨h.a.set (by simp; omega) v, h.z.set (by simp) v, h.c.put i v, h.b.setCell (by simp; omega) v, fun r hr => (h.o r hr).heap fun x hx => Below.heap_setCell _ _ _ _ (fun e => by
   have e : x = w.heap.size + 1 + 1 := e
   have := ((h.o r hr).lt x hx).1
   omega), h.d⟩
theorem Mk.storeZ {w W : World} {A Z C : Array Value} {TA TO : TypeId} {R : List (List Value × List Cel × (Nat → Prop))} (h : Mk w W A Z C TA TO R) (i : Nat) (v : Value) : Mk w (W.setCell ⟨w.heap.size + 1, i, none⟩ v) A (Z.setIfInBounds i v) C TA TO R :=
 ⟨h.a.set (by simp) v, h.z.put i v, h.c.set (by simp) v, h.b.setCell (by simp) v, fun r hr => (h.o r hr).heap fun x hx => Below.heap_setCell _ _ _ _ (fun e => by
   have e : x = w.heap.size + 1 := e
   have := ((h.o r hr).lt x hx).1
   omega), h.d⟩
theorem Mk.call {w W W' : World} {A Z C : Array Value} {TA TO : TypeId} {R : List (List Value × List Cel × (Nat → Prop))} (h : Mk w W A Z C TA TO R) (hb : Below W.heap.size W W') {us : List Value} {cs : List Cel} {S : Nat → Prop} (o : OwnL W' W.heap.size us cs S) : Mk w W' A Z C TA TO (R ++ [(us, cs, S)]) := by
 have hc := h.c.lt
 have hs := h.b.size
 refine ⟨h.a.below hb h.a.lt, h.z.below hb h.z.lt, h.c.below hb hc, h.b.trans (hb.mono hs), fun r hr => ?_, ?_⟩
 · rcases List.mem_append.1 hr with hr | hr
   · exact (h.o r hr).on hb (Nat.le_refl _)
   · simp at hr
     subst hr
     exact o.weaken (by omega)
 · refine List.pairwise_append.2 ⟨h.d, by simp, fun r hr q hq x hx => ?_⟩
   simp at hq
   subst hq
   intro hx'
   have h1 := ((h.o r hr).lt x hx).2
   have h2 := (o.lt x hx').1
   omega
theorem Mk.call1 {w W W' : World} {A Z C : Array Value} {TA TO : TypeId} {R : List (List Value × List Cel × (Nat → Prop))} (h : Mk w W A Z C TA TO R) (hb : Below W.heap.size W W') {u : Value} {c : Cel} {S : Nat → Prop} (o : Own W' W.heap.size u c S) : Mk w W' A Z C TA TO (R ++ [([u], [c], S)]) :=
 h.call hb (OwnL.cons o (OwnL.nil (S := fun _ => False) (fun _ h => h)) (fun _ _ h => h) (fun _ => by simp))
theorem Mk.num {w W : World} {A Z C : Array Value} {TA TO : TypeId} {R : List (List Value × List Cel × (Nat → Prop))} (h : Mk w W A Z C TA TO R) {v : Value} {c : Cel} (hv : ∀ base, Own W base v c (fun _ => False)) : Mk w W A Z C TA TO (R ++ [([v], [c], fun _ => False)]) := by
 refine ⟨h.a, h.z, h.c, h.b, fun r hr => ?_, ?_⟩
 · rcases List.mem_append.1 hr with hr | hr
   · exact h.o r hr
   · simp at hr
     subst hr
     exact OwnL.cons (hv _) (OwnL.nil (S := fun _ => False) (fun _ h => h)) (fun _ h => h.elim) (fun _ => by simp)
 · refine List.pairwise_append.2 ⟨h.d, by simp, fun r hr q hq x hx => ?_⟩
   simp at hq
   subst hq
   exact fun h => h
theorem owns_all {W : World} {b : Nat} : ∀ {R : List (List Value × List Cel × (Nat → Prop))}, (∀ r ∈ R, OwnL W b r.1 r.2.1 r.2.2) → R.Pairwise (fun p q => ∀ x, p.2.2 x → ¬ q.2.2 x) → OwnL W b (R.flatMap (·.1)) (R.flatMap (·.2.1)) (fun x => ∃ r ∈ R, r.2.2 x)
 | [], _, _ => OwnL.nil (fun x h => by simp at h)
 | r :: R, h, hd => by
   have hp := List.pairwise_cons.1 hd
   have h1 := OwnL.app (h r (by simp)) (owns_all (fun q hq => h q (by simp [hq])) hp.2) (fun x hx ⟨q, hq, hx'⟩ => hp.1 q hq x hx hx')
   obtain ⟨l, Ss, g1, g2, g3⟩ := h1
   refine ⟨l, Ss, g1, g2, fun x => ?_⟩
   exact Iff.trans (by simp) (g3 x)
theorem Mk.all {w W : World} {A Z C : Array Value} {TA TO : TypeId} {R : List (List Value × List Cel × (Nat → Prop))} (h : Mk w W A Z C TA TO R) : OwnL W w.heap.size (R.flatMap (·.1)) (R.flatMap (·.2.1)) (fun x => ∃ r ∈ R, r.2.2 x) := (owns_all h.o h.d).weaken (by omega)
def Yes (w : World) (e : Ending) (w' : World) : Prop := e = .returned (.bool true) ∧ Below w.heap.size w w'
structure Two (w W : World) (A B : Array Value) (T : TypeId) : Prop where
 a : Box W w.heap.size A T
 b : Box W (w.heap.size + 1) B T
 on : Below w.heap.size w W
theorem two_new (w : World) (A B : Array Value) (T : TypeId) : Two w ((w.alloc (.cells A T)).alloc (.cells B T)) A B T := by
 refine ⟨(box_of w A T).alloc _, ?_, ((Below.refl _ w).alloc (Nat.le_refl _) _).alloc (by simp) _⟩
 have := box_of (w.alloc (.cells A T)) B T
 rwa [World.size_alloc] at this
theorem Two.call {w W W' : World} {A B : Array Value} {T : TypeId} (h : Two w W A B T) (hb : Below W.heap.size W W') : Two w W' A B T :=
 ⟨h.a.below hb h.a.lt, h.b.below hb h.b.lt, h.on.trans (hb.mono h.on.size)⟩
theorem rowAt {w wr : World} {p o n k j : Nat} {vs : List Value} (hb : Below w.heap.size w wr) (hj : j < n) (g : ∀ j, j < n * k → w.cell? ⟨p, o + j, none⟩ = vs[j]?) (hl : vs.length = n * k) : ∀ i, i < k → wr.cell? ⟨p, o + (j * k + i), none⟩ = ((vs.drop (j * k)).take k)[i]? := fun i hi => by
 have hle : (j + 1) * k ≤ n * k := Nat.mul_le_mul_right k hj
 rw [Nat.succ_mul] at hle
 have h5 := g (j * k + i) (by omega)
 rw [List.getElem?_take_of_lt hi, List.getElem?_drop, ← h5]
 have h6 : w.cell? ⟨p, o + (j * k + i), none⟩ = some (vs[j * k + i]'(by omega)) := by rw [h5, List.getElem?_eq_getElem (by omega)]
 exact hb.cell (show p < w.heap.size from World.block_lt_of_cell? w _ h6)
inductive In (w : World) : Value → Cel → Prop
 | i (x : Int) : In w (.int .i64 x) (.i x)
 | b (x : Bool) : In w (.bool x) (.b x)
 | s (x : ByteArray) : In w (.string x) (.s x)
 | l (a : Option Addr) (T : TypeId) (k n c : Nat) (cs : List Cel) (vs : List Value) (h1 : vs.length = n * k) (h2 : cs.length = n * k) (hn : n ≤ 9223372036854775807)
     (h3 : n = 0 ∨ ∃ b o, a = some ⟨b, o, none⟩ ∧ ∀ j, j < n * k → w.cell? ⟨b, o + j, none⟩ = vs[j]?) (h4 : ∀ (j : Nat) (v : Value) (c : Cel), vs[j]? = some v → cs[j]? = some c → In w v c) : In w (.slice a n c) (.l T k n cs)
def InL (w : World) (vs : List Value) (cs : List Cel) : Prop := vs.length = cs.length ∧ ∀ (j : Nat) (v : Value) (c : Cel), vs[j]? = some v → cs[j]? = some c → In w v c
theorem In.on {w w' : World} {v : Value} {c : Cel} (h : In w v c) {B : Nat} (hb : Below B w w') (hB : w.heap.size ≤ B) : In w' v c := by
 induction h with
 | i x => exact .i x
 | b x => exact .b x
 | s x => exact .s x
 | l a T k n c cs vs h1 h2 hn h3 h4 ih =>
   refine .l a T k n c cs vs h1 h2 hn ?_ ih
   rcases h3 with h3 | ⟨b, o, e, g⟩
   · exact .inl h3
   · refine .inr ⟨b, o, e, fun j hj => ?_⟩
     have h5 := g j hj
     have h6 : w.cell? ⟨b, o + j, none⟩ = some (vs[j]'(by omega)) := by rw [h5, List.getElem?_eq_getElem (by omega)]
     rw [hb.cell (show b < B from Nat.lt_of_lt_of_le (World.block_lt_of_cell? w _ h6) hB)]
     exact h5
theorem InL.on {w w' : World} {vs : List Value} {cs : List Cel} (h : InL w vs cs) {B : Nat} (hb : Below B w w') (hB : w.heap.size ≤ B) : InL w' vs cs :=
 ⟨h.1, fun j v c hv hc => (h.2 j v c hv hc).on hb hB⟩
theorem big_mem : ∀ {cs : List Cel} {j : Nat} {c : Cel}, cs[j]? = some c → c.big ≤ bigL cs
 | [], _, _, h => by simp at h
 | d :: cs, 0, c, h => by simp at h; subst h; simp [bigL]
 | d :: cs, j + 1, c, h => by
   have := big_mem (cs := cs) (j := j) (by simpa using h)
   simp only [bigL]; omega
theorem In.at {w : World} {v : Value} {c : Cel} (h : In w v c) (hb : c.big ≤ 2097152) : At false w v c := by
 induction h with
 | i x => exact .i x
 | b x => exact .b x
 | s x => exact .s x
 | l a T k n c cs vs h1 h2 hn h3 h4 ih =>
   simp only [Cel.big] at hb
   exact .l a T k n c cs vs h1 h2 (by omega) (fun h => by cases h) h3 fun j v c hv hc => ih j v c hv hc (by have := big_mem hc; omega)
theorem InL.at {w : World} {vs : List Value} {cs : List Cel} (h : InL w vs cs) (hb : bigL cs ≤ 2097152) : AtL false w vs cs :=
 ⟨h.1, fun j v c hv hc => (h.2 j v c hv hc).at (by have := big_mem hc; omega)⟩
theorem InL.nil {w : World} : InL w [] [] := ⟨rfl, fun j v c hv _ => by simp at hv⟩
theorem InL.cons {w : World} {v : Value} {c : Cel} {vs : List Value} {cs : List Cel} (h : In w v c) (hs : InL w vs cs) : InL w (v :: vs) (c :: cs) := by
 refine ⟨by simp [hs.1], fun j v' c' hv hc => ?_⟩
 cases j with
 | zero => simp at hv hc; subst hv hc; exact h
 | succ j => simp at hv hc; exact hs.2 j v' c' hv hc
theorem InL.nilE {w : World} {vs : List Value} (h : InL w vs []) : vs = [] := List.length_eq_zero_iff.1 h.1
theorem InL.consE {w : World} {vs : List Value} {c : Cel} {cs : List Cel} (h : InL w vs (c :: cs)) : ∃ v vs', vs = v :: vs' ∧ In w v c ∧ InL w vs' cs := by
 match vs, h with
 | [], h => have := h.1; simp at this
 | v :: vs', h => exact ⟨v, vs', rfl, h.2 0 v c rfl rfl, ⟨by have := h.1; simpa using this, fun j v' c' hv hc => h.2 (j + 1) v' c' (by simpa using hv) (by simpa using hc)⟩⟩
theorem InL.c1 {w : World} {vs : List Value} {c0 : Cel} (h : InL w vs [c0]) : ∃ v0, vs = [v0] ∧ In w v0 c0 := by
 obtain ⟨v0, r0, rfl, T0, h0⟩ := h.consE
 obtain rfl := h0.nilE
 exact ⟨_, rfl, T0⟩
theorem InL.c2 {w : World} {vs : List Value} {c0 c1 : Cel} (h : InL w vs [c0, c1]) : ∃ v0 v1, vs = [v0, v1] ∧ In w v0 c0 ∧ In w v1 c1 := by
 obtain ⟨v0, r0, rfl, T0, h0⟩ := h.consE
 obtain ⟨v1, r1, rfl, T1, h1⟩ := h0.consE
 obtain rfl := h1.nilE
 exact ⟨_, _, rfl, T0, T1⟩
theorem InL.c3 {w : World} {vs : List Value} {c0 c1 c2 : Cel} (h : InL w vs [c0, c1, c2]) : ∃ v0 v1 v2, vs = [v0, v1, v2] ∧ In w v0 c0 ∧ In w v1 c1 ∧ In w v2 c2 := by
 obtain ⟨v0, r0, rfl, T0, h0⟩ := h.consE
 obtain ⟨v1, r1, rfl, T1, h1⟩ := h0.consE
 obtain ⟨v2, r2, rfl, T2, h2⟩ := h1.consE
 obtain rfl := h2.nilE
 exact ⟨_, _, _, rfl, T0, T1, T2⟩
theorem InL.c4 {w : World} {vs : List Value} {c0 c1 c2 c3 : Cel} (h : InL w vs [c0, c1, c2, c3]) : ∃ v0 v1 v2 v3, vs = [v0, v1, v2, v3] ∧ In w v0 c0 ∧ In w v1 c1 ∧ In w v2 c2 ∧ In w v3 c3 := by
 obtain ⟨v0, r0, rfl, T0, h0⟩ := h.consE
 obtain ⟨v1, r1, rfl, T1, h1⟩ := h0.consE
 obtain ⟨v2, r2, rfl, T2, h2⟩ := h1.consE
 obtain ⟨v3, r3, rfl, T3, h3⟩ := h2.consE
 obtain rfl := h3.nilE
 exact ⟨_, _, _, _, rfl, T0, T1, T2, T3⟩
theorem InL.c5 {w : World} {vs : List Value} {c0 c1 c2 c3 c4 : Cel} (h : InL w vs [c0, c1, c2, c3, c4]) : ∃ v0 v1 v2 v3 v4, vs = [v0, v1, v2, v3, v4] ∧ In w v0 c0 ∧ In w v1 c1 ∧ In w v2 c2 ∧ In w v3 c3 ∧ In w v4 c4 := by
 obtain ⟨v0, r0, rfl, T0, h0⟩ := h.consE
 obtain ⟨v1, r1, rfl, T1, h1⟩ := h0.consE
 obtain ⟨v2, r2, rfl, T2, h2⟩ := h1.consE
 obtain ⟨v3, r3, rfl, T3, h3⟩ := h2.consE
 obtain ⟨v4, r4, rfl, T4, h4⟩ := h3.consE
 obtain rfl := h4.nilE
 exact ⟨_, _, _, _, _, rfl, T0, T1, T2, T3, T4⟩
theorem InL.c8 {w : World} {vs : List Value} {c0 c1 c2 c3 c4 c5 c6 c7 : Cel} (h : InL w vs [c0, c1, c2, c3, c4, c5, c6, c7]) : ∃ v0 v1 v2 v3 v4 v5 v6 v7, vs = [v0, v1, v2, v3, v4, v5, v6, v7] ∧ In w v0 c0 ∧ In w v1 c1 ∧ In w v2 c2 ∧ In w v3 c3 ∧ In w v4 c4 ∧ In w v5 c5 ∧ In w v6 c6 ∧ In w v7 c7 := by
 obtain ⟨v0, r0, rfl, T0, h0⟩ := h.consE
 obtain ⟨v1, r1, rfl, T1, h1⟩ := h0.consE
 obtain ⟨v2, r2, rfl, T2, h2⟩ := h1.consE
 obtain ⟨v3, r3, rfl, T3, h3⟩ := h2.consE
 obtain ⟨v4, r4, rfl, T4, h4⟩ := h3.consE
 obtain ⟨v5, r5, rfl, T5, h5⟩ := h4.consE
 obtain ⟨v6, r6, rfl, T6, h6⟩ := h5.consE
 obtain ⟨v7, r7, rfl, T7, h7⟩ := h6.consE
 obtain rfl := h7.nilE
 exact ⟨_, _, _, _, _, _, _, _, rfl, T0, T1, T2, T3, T4, T5, T6, T7⟩
theorem InL.c9 {w : World} {vs : List Value} {c0 c1 c2 c3 c4 c5 c6 c7 c8 : Cel} (h : InL w vs [c0, c1, c2, c3, c4, c5, c6, c7, c8]) : ∃ v0 v1 v2 v3 v4 v5 v6 v7 v8, vs = [v0, v1, v2, v3, v4, v5, v6, v7, v8] ∧ In w v0 c0 ∧ In w v1 c1 ∧ In w v2 c2 ∧ In w v3 c3 ∧ In w v4 c4 ∧ In w v5 c5 ∧ In w v6 c6 ∧ In w v7 c7 ∧ In w v8 c8 := by
 obtain ⟨v0, r0, rfl, T0, h0⟩ := h.consE
 obtain ⟨v1, r1, rfl, T1, h1⟩ := h0.consE
 obtain ⟨v2, r2, rfl, T2, h2⟩ := h1.consE
 obtain ⟨v3, r3, rfl, T3, h3⟩ := h2.consE
 obtain ⟨v4, r4, rfl, T4, h4⟩ := h3.consE
 obtain ⟨v5, r5, rfl, T5, h5⟩ := h4.consE
 obtain ⟨v6, r6, rfl, T6, h6⟩ := h5.consE
 obtain ⟨v7, r7, rfl, T7, h7⟩ := h6.consE
 obtain ⟨v8, r8, rfl, T8, h8⟩ := h7.consE
 obtain rfl := h8.nilE
 exact ⟨_, _, _, _, _, _, _, _, _, rfl, T0, T1, T2, T3, T4, T5, T6, T7, T8⟩
theorem In.int {w : World} {v : Value} {x : Int} (h : In w v (.i x)) : v = .int .i64 x := by cases h; rfl
theorem In.bool {w : World} {v : Value} {x : Bool} (h : In w v (.b x)) : v = .bool x := by cases h; rfl
theorem In.openL {w : World} {v : Value} {T : TypeId} {k n : Nat} {cs : List Cel} (h : In w v (.l T k n cs)) : ∃ (a : Option Addr) (c : Nat) (vs : List Value), v = .slice a n c ∧ vs.length = n * k ∧ cs.length = n * k ∧ n ≤ 9223372036854775807 ∧
   (n = 0 ∨ ∃ b o, a = some ⟨b, o, none⟩ ∧ ∀ j, j < n * k → w.cell? ⟨b, o + j, none⟩ = vs[j]?) ∧ ∀ (j : Nat) (v : Value) (c : Cel), vs[j]? = some v → cs[j]? = some c → In w v c := by
 cases h with
 | l a T k n c cs vs h1 h2 hn h3 h4 => exact ⟨a, c, vs, rfl, h1, h2, hn, h3, h4⟩
theorem rowIn {w : World} {k n j : Nat} {cs : List Cel} {vs : List Value} (h1 : vs.length = n * k) (h2 : cs.length = n * k) (h4 : ∀ (j : Nat) (v : Value) (c : Cel), vs[j]? = some v → cs[j]? = some c → In w v c) (hj : j < n) : InL w ((vs.drop (j * k)).take k) (row cs k j) := by
 have hle : j * k + k ≤ n * k := by rw [← Nat.succ_mul]; exact Nat.mul_le_mul_right k hj
 refine ⟨by rw [rowL_len h2 hj, List.length_take, List.length_drop, h1]; omega, fun i v c hv hc => ?_⟩
 have hi : i < k := by have := (List.getElem?_eq_some_iff.1 hc).1; rw [rowL_len h2 hj] at this; exact this
 rw [row_at hi] at hc
 rw [List.getElem?_take_of_lt hi, List.getElem?_drop] at hv
 exact h4 _ v c hv hc
def Ty.flat : Ty → Bool
 | .i => true
 | .b => true
 | _ => false
theorem bigL_zero : ∀ {cs : List Cel}, (∀ (j : Nat) (c : Cel), cs[j]? = some c → c.big = 0) → bigL cs = 0
 | [], _ => rfl
 | c :: cs, h => by
   have h0 := h 0 c rfl
   have h1 := bigL_zero (cs := cs) fun j c' hc => h (j + 1) c' (by simpa using hc)
   simp only [bigL]; omega
theorem big_flat {T : TypeId} {k n : Nat} {cs : List Cel} {fs : List Ty} (h : Has (.l T k n cs) (.l T k fs)) (hf : fs.all Ty.flat = true) : bigL cs = 0 := by
 cases h with
 | l _ _ _ _ _ hk h1 h2 =>
   refine bigL_zero fun j c hc => ?_
   have hj : j < n * k := by have := (List.getElem?_eq_some_iff.1 hc).1; omega
   have hk0 : 0 < k := by
     rcases Nat.eq_zero_or_pos k with h0 | h0
     · rw [h0] at hj; simp at hj
     · exact h0
   have hm : j % k < fs.length := by rw [hk]; exact Nat.mod_lt _ hk0
   have ht : fs[j % k]? = some (fs[j % k]'hm) := List.getElem?_eq_getElem hm
   have h3 := h2 j c _ hc ht
   have h4 : Ty.flat (fs[j % k]'hm) = true := (List.all_eq_true.1 hf) _ (List.getElem_mem hm)
   revert h3 h4
   generalize fs[j % k]'hm = t
   intro h3 h4
   cases h3 <;> simp [Ty.flat, Cel.big] at h4 ⊢
def Left (w : World) (m : Nat) (l : Int) (e : Ending) (w' : World) : Prop := Below w.heap.size w w' ∧ ((∃ r : Int, e = .returned (.int .i64 r) ∧ (m : Int) ≤ l ∧ r = l - (m : Int)) ∨ (e = .returned (.int .i64 (-1)) ∧ l < (m : Int)))
structure One (w W : World) (A : Array Value) (T : TypeId) : Prop where
 a : Box W w.heap.size A T
 on : Below w.heap.size w W
theorem one_new (w : World) (A : Array Value) (T : TypeId) : One w (w.alloc (.cells A T)) A T := ⟨box_of w A T, (Below.refl _ w).alloc (Nat.le_refl _) _⟩
theorem One.call {w W W' : World} {A : Array Value} {T : TypeId} (h : One w W A T) (hb : Below W.heap.size W W') : One w W' A T := ⟨h.a.below hb h.a.lt, h.on.trans (hb.mono h.on.size)⟩
structure Kept (S : Nat → Prop) (w w' : World) : Prop where
 on : Below 0 w w'
 oth : ∀ x, x < w.heap.size → ¬ S x → w'.heap[x]? = w.heap[x]?
theorem Kept.refl (S : Nat → Prop) (w : World) : Kept S w w := ⟨Below.refl _ _, fun _ _ _ => rfl⟩
theorem Kept.trans {S : Nat → Prop} {w w1 w2 : World} (h : Kept S w w1) (h' : Kept S w1 w2) : Kept S w w2 :=
 ⟨h.on.trans h'.on, fun x hx hS => (h'.oth x (Nat.lt_of_lt_of_le hx h.on.size) hS).trans (h.oth x hx hS)⟩
theorem Kept.mono {S S' : Nat → Prop} {w w' : World} (h : Kept S w w') (hS : ∀ x, S x → S' x) : Kept S' w w' := ⟨h.on, fun x hx hn => h.oth x hx fun hs => hn (hS x hs)⟩
theorem Kept.set {S : Nat → Prop} {w w' : World} (h : Kept S w w') {g i : Nat} (hg : S g) (v : Value) : Kept S w (w'.setCell ⟨g, i, none⟩ v) :=
 ⟨h.on.setCell (Nat.zero_le _) v, fun x hx hn => (Below.heap_setCell _ _ _ _ (fun e => by
   have e : x = g := e
   exact hn (by rw [e]; exact hg))).trans (h.oth x hx hn)⟩
theorem Kept.below {S : Nat → Prop} {w w' : World} (h : Kept S w w') {B : Nat} (hS : ∀ x, S x → B ≤ x) (hB : B ≤ w.heap.size) : Below B w w' :=
 ⟨h.on.os, h.on.tape, h.on.output, h.on.size, fun k hk => h.oth k (by omega) fun hs => by have := hS k hs; omega⟩
theorem Own.put {w : World} {base : Nat} {g n cap : Nat} {T : TypeId} {k : Nat} {cs : List Cel} {S : Nat → Prop} (h : Own w base (.slice (some ⟨g, 0, none⟩) n cap) (.l T k n cs) S) {j : Nat} {c c' : Cel} (hc : cs[j]? = some c) (h0 : ∀ v Sj, Own w base v c Sj → ∀ x, ¬ Sj x) {u : Value} (hu : ∀ w' Sj, (∀ x, ¬ Sj x) → Own w' base u c' Sj) :
   Own (w.setCell ⟨g, j, none⟩ u) base (.slice (some ⟨g, 0, none⟩) n cap) (.l T k n (cs.set j c')) S := by
 cases h with
 | l g cap T k n cs vs S Ss h1 h2 hn h4 h5 h6 h7 =>
   have hj : j < cs.length := (List.getElem?_eq_some_iff.1 hc).1
   have hl := h1.1
   have hv : vs[j]? = some (vs[j]'(by omega)) := List.getElem?_eq_getElem (by omega)
   have hz := h0 _ _ (h4 j _ _ hv hc)
   refine .l g cap T k n _ (vs.set j u) S Ss (h1.stored j u).1 (by simpa using h2) hn (fun i v d hvi hdi => ?_) h5 h6 h7
   by_cases hij : j = i
   · subst hij
     rw [List.getElem?_set_self (by omega)] at hvi hdi
     cases hvi
     cases hdi
     exact hu _ _ hz
   · rw [List.getElem?_set_ne hij] at hvi hdi
     exact (h4 i v d hvi hdi).heap fun x hx => Below.heap_setCell _ _ _ _ (fun e => h5 i (by have e : x = g := e; rw [← e]; exact hx))
def Marked (tx : Int → ByteArray) (w : World) (base : Nat) (v : Value) (c : Cel) (S : Nat → Prop) (q : Int) (e : Ending) (w' : World) : Prop := e = .returned (.int .i64 (q + (c.cnt : Int))) ∧ Own w' base v (c.mark tx q) S ∧ Kept S w w'
def SaysD (w : World) (x : Int) (e : Ending) (w' : World) : Prop := e = .returned (.int .i64 x) ∧ Below w.heap.size w w'
def topL (tx : Int → ByteArray) : List Cel → Int → List Cel
 | [], _ => []
 | .l T k n cs :: r, q => .l T k n (markL tx cs q) :: topL tx r (q + (cntL cs : Int))
 | .i x :: r, q => .i x :: topL tx r q
 | .b x :: r, q => .b x :: topL tx r q
 | .s x :: r, q => .s x :: topL tx r q
def tcnt : List Cel → Nat
 | [] => 0
 | .l _ _ _ cs :: r => cntL cs + tcnt r
 | .i _ :: r => tcnt r
 | .b _ :: r => tcnt r
 | .s _ :: r => tcnt r
theorem OwnL.set {w : World} {b : Nat} {vs : List Value} {cs : List Cel} {S S' : Nat → Prop} (h : OwnL w b vs cs S) (hS : ∀ x, S x ↔ S' x) : OwnL w b vs cs S' := by
 obtain ⟨l, Ss, h1, h2, h3⟩ := h
 exact ⟨l, Ss, h1, h2, fun x => (hS x).symm.trans (h3 x)⟩
theorem OwnL.none {w : World} {b : Nat} {S : Nat → Prop} (h : OwnL w b [] [] S) : ∀ x, ¬ S x := fun x hx => by
 obtain ⟨_, Ss, _, _, h3⟩ := h
 obtain ⟨j, hj, _⟩ := (h3 x).1 hx
 simp at hj
theorem OwnL.one {w : World} {b : Nat} {v : Value} {c : Cel} {S : Nat → Prop} (h : OwnL w b [v] [c] S) : Own w b v c S := by
 obtain ⟨S0, S1, h0, h1, -, hS⟩ := h.parts
 exact h0.set fun x => ⟨fun hx => (hS x).2 (.inl hx), fun hx => ((hS x).1 hx).resolve_right (h1.none x)⟩
theorem OwnL.cut : ∀ {cs1 : List Cel} {vs1 vs2 : List Value} {cs2 : List Cel} {w : World} {b : Nat} {S : Nat → Prop}, vs1.length = cs1.length → OwnL w b (vs1 ++ vs2) (cs1 ++ cs2) S → ∃ S1 S2, OwnL w b vs1 cs1 S1 ∧ OwnL w b vs2 cs2 S2 ∧ (∀ x, S1 x → ¬ S2 x) ∧ ∀ x, S x ↔ S1 x ∨ S2 x
 | [], vs1, vs2, cs2, w, b, S, hl, h => by
   obtain rfl : vs1 = [] := List.length_eq_zero_iff.1 hl
   exact ⟨fun _ => False, S, OwnL.nil (fun _ h => h), h, fun _ h => h.elim, fun x => by simp⟩
 | c :: cs1, [], vs2, cs2, w, b, S, hl, h => by simp at hl
 | c :: cs1, v :: vs1, vs2, cs2, w, b, S, hl, h => by
   obtain ⟨S0, S', h0, h1, hd, hS⟩ := OwnL.parts h
   obtain ⟨S1, S2, g1, g2, gd, gS⟩ := OwnL.cut (cs1 := cs1) (vs1 := vs1) (by simpa using hl) h1
   refine ⟨fun x => S0 x ∨ S1 x, S2, OwnL.cons h0 g1 (fun x hx hx' => hd x hx ((gS x).2 (.inl hx'))) (fun _ => Iff.rfl), g2, fun x hx hx' => ?_, fun x => ?_⟩
   · rcases hx with hx | hx
     · exact hd x hx ((gS x).2 (.inr hx'))
     · exact gd x hx hx'
   · rw [hS x, gS x, or_assoc]
abbrev Part := List Value × List Cel × (Nat → Prop)
structure Mg (w W : World) (base : Nat) (S : Nat → Prop) (A : Array Value) (T : TypeId) (R : List Part) : Prop where
 a : Box W w.heap.size A T
 on : Below 0 w W
 oth : ∀ x, x < w.heap.size → ¬ S x → W.heap[x]? = w.heap[x]?
 lt : ∀ x, S x → x < w.heap.size
 o : ∀ r ∈ R, OwnL W base r.1 r.2.1 r.2.2
 d : R.Pairwise (fun p q => ∀ x, p.2.2 x → ¬ q.2.2 x)
 u : ∀ x, S x ↔ ∃ r ∈ R, r.2.2 x
theorem Mg.step {w W W' : World} {base : Nat} {S Sf : Nat → Prop} {A : Array Value} {T : TypeId} {pre post : List Part} {vs : List Value} {cs cs' : List Cel} (h : Mg w W base S A T (pre ++ (vs, cs, Sf) :: post)) (ho : OwnL W' base vs cs' Sf) (hk : Kept Sf W W') : Mg w W' base S A T (pre ++ (vs, cs', Sf) :: post) := by
 have sub : ∀ x, Sf x → S x := fun x hx => (h.u x).2 ⟨(vs, cs, Sf), by simp, hx⟩
 have lt : ∀ x, x < w.heap.size → x < W.heap.size := fun x hx => Nat.lt_of_lt_of_le hx h.on.size
 have hd := List.pairwise_append.1 h.d
 have hd2 := List.pairwise_cons.1 hd.2.1
 refine ⟨?_, h.on.trans hk.on, fun x hx hn => (hk.oth x (lt x hx) fun hs => hn (sub x hs)).trans (h.oth x hx hn), h.lt, fun r hr => ?_, ?_, fun x => ?_⟩
 · exact (hk.oth _ h.a.lt fun hs => by have := h.lt _ (sub _ hs); omega).trans h.a
 · have keep : r ∈ pre ++ (vs, cs, Sf) :: post → (∀ x, r.2.2 x → ¬ Sf x) → OwnL W' base r.1 r.2.1 r.2.2 := fun hr hn => (h.o r hr).heap fun x hx => hk.oth x ((h.o r hr).lt x hx).2 (hn x hx)
   rcases List.mem_append.1 hr with hr | hr
   · exact keep (List.mem_append.2 (.inl hr)) (fun x hx => hd.2.2 r hr _ (List.mem_cons_self ..) x hx)
   · rcases List.mem_cons.1 hr with rfl | hr
     · exact ho
     · exact keep (List.mem_append.2 (.inr (List.mem_cons_of_mem _ hr))) (fun x hx hs => hd2.1 r hr x hs hx)
 · refine List.pairwise_append.2 ⟨hd.1, List.pairwise_cons.2 ⟨fun r hr => hd2.1 r hr, hd2.2⟩, fun r hr q hq => ?_⟩
   rcases List.mem_cons.1 hq with rfl | hq
   · exact hd.2.2 r hr (vs, cs, Sf) (List.mem_cons_self ..)
   · exact hd.2.2 r hr q (List.mem_cons_of_mem _ hq)
 · rw [h.u x]
   constructor
   · rintro ⟨r, hr, hx⟩
     rcases List.mem_append.1 hr with hr | hr
     · exact ⟨r, List.mem_append.2 (.inl hr), hx⟩
     · rcases List.mem_cons.1 hr with rfl | hr
       · exact ⟨(vs, cs', Sf), by simp, hx⟩
       · exact ⟨r, List.mem_append.2 (.inr (List.mem_cons_of_mem _ hr)), hx⟩
   · rintro ⟨r, hr, hx⟩
     rcases List.mem_append.1 hr with hr | hr
     · exact ⟨r, List.mem_append.2 (.inl hr), hx⟩
     · rcases List.mem_cons.1 hr with rfl | hr
       · exact ⟨(vs, cs, Sf), by simp, hx⟩
       · exact ⟨r, List.mem_append.2 (.inr (List.mem_cons_of_mem _ hr)), hx⟩
theorem Mg.at {w W : World} {base : Nat} {S Sf : Nat → Prop} {A : Array Value} {T : TypeId} {pre post : List Part} {vs : List Value} {cs : List Cel} (h : Mg w W base S A T (pre ++ (vs, cs, Sf) :: post)) : OwnL W base vs cs Sf := h.o (vs, cs, Sf) (by simp)
theorem Mg.all {w W : World} {base : Nat} {S : Nat → Prop} {A : Array Value} {T : TypeId} {R : List Part} (h : Mg w W base S A T R) : OwnL W base (R.flatMap (·.1)) (R.flatMap (·.2.1)) S ∧ Kept S w W := ⟨(owns_all h.o h.d).set fun x => (h.u x).symm, h.on, h.oth⟩
def MarkedL (tx : Int → ByteArray) (w : World) (base : Nat) (vs : List Value) (cs : List Cel) (S : Nat → Prop) (q : Int) (e : Ending) (w' : World) : Prop := e = .returned (.int .i64 (q + (tcnt cs : Int))) ∧ OwnL w' base vs (topL tx cs q) S ∧ Kept S w w'
set_option linter.unusedSimpArgs false
def tyOp : List Ty := [(.i), (.i), (.i)]
def tyPair : List Ty := [(.i), (.i)]
def tyHelp : List Ty := [(.i), (.i), (.i), (.i)]
def tyEntry : List Ty := [(.i), (.i), (.i)]
def tyWord : List Ty := [(.i), (.i), (.i)]
def tyRes : List Ty := [(.i), (.l 3 1 [.i])]
def tyRows : List Ty := [(.l 3 1 [.i]), (.i)]
def tyThread : List Ty := [(.l 81 3 tyOp), (.i), (.b), (.l 168 2 tyPair), (.l 170 4 tyHelp)]
def tyDesc : List Ty := [(.i), (.i), (.l 161 3 tyEntry), (.i), (.l 3 1 [.i])]
def tyMem : List Ty := [(.l 125 3 tyWord), (.l 130 5 tyDesc)]
def tyCall : List Ty := [(.i), (.i), (.i), (.i), (.i), (.i), (.i), (.i), (.l 3 1 [.i])]
def tyMachine : List Ty := [(.l 125 3 tyWord), (.l 130 5 tyDesc), (.l 92 5 tyThread), (.i), (.l 84 9 tyCall), (.l 3 1 [.i]), (.l 3 1 [.i]), (.i)]
end
end Go.Proofs.YtbfolanfbagofaaGreatDoor
