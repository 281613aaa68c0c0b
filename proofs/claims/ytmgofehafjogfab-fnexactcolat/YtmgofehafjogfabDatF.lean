/- What the laws' own functions reckon of data: how many cells are marked, what they are marked with, how great it is; a list's row; what is turned within a list. No program. -/
import Derived.Test.YtmgofehafjogfabDat
import Derived.Test.YtmgofehafjogfabBoxN
namespace Go.Proofs.Ytmgofehafjogfab
open Go.ChangeShapes Go.WideShapes Go.ChangeAt Go.RowKit Go.Joins

/-- The shape of a cell's data. -/
inductive Ty where
  | i
  | b
  | s
  | l (T : TypeId) (k : Nat) (fs : List Ty)
inductive Has : Cel → Ty → Prop
  | i (x : Int) : Has (.i x) .i
  | b (x : Bool) : Has (.b x) .b
  | s (x : ByteArray) : Has (.s x) .s
  | l (T : TypeId) (k n : Nat) (cs : List Cel) (fs : List Ty) (hk : fs.length = k) (h1 : cs.length = n * k) (h2 : ∀ (j : Nat) (c : Cel) (t : Ty), cs[j]? = some c → fs[j % k]? = some t → Has c t) : Has (.l T k n cs) (.l T k fs)
def HasL (cs : List Cel) (fs : List Ty) : Prop := cs.length = fs.length ∧ ∀ (j : Nat) (c : Cel) (t : Ty), cs[j]? = some c → fs[j]? = some t → Has c t
/-- Row number j. -/
def row (cs : List Cel) (k j : Nat) : List Cel := (cs.drop (j * k)).take k
theorem rowL_len {cs : List Cel} {k n j : Nat} (h : cs.length = n * k) (hj : j < n) : (row cs k j).length = k := by
  unfold row
  rw [List.length_take, List.length_drop, h]
  have : j * k + k ≤ n * k := by rw [← Nat.succ_mul]; exact Nat.mul_le_mul_right k hj
  omega
theorem row_at {cs : List Cel} {k j i : Nat} (hi : i < k) : (row cs k j)[i]? = cs[j * k + i]? := by
  unfold row
  rw [List.getElem?_take_of_lt hi, List.getElem?_drop]
theorem row_split {cs : List Cel} {k j : Nat} : cs.take ((j + 1) * k) = cs.take (j * k) ++ row cs k j := by
  unfold row
  rw [Nat.succ_mul, List.take_add]
theorem Has.rowL {T : TypeId} {k n : Nat} {cs : List Cel} {fs : List Ty} (h : Has (.l T k n cs) (.l T k fs)) {j : Nat} (hj : j < n) : HasL (row cs k j) fs := by
  cases h with
  | l _ _ _ _ _ hk h1 h2 =>
    refine ⟨by rw [rowL_len h1 hj, hk], fun i c t hc ht => ?_⟩
    have hi : i < k := by have := (List.getElem?_eq_some_iff.1 ht).1; omega
    rw [row_at hi] at hc
    refine h2 (j * k + i) c t hc ?_
    rw [show (j * k + i) % k = i by rw [Nat.add_comm, Nat.add_mul_mod_self_right, Nat.mod_eq_of_lt hi]]
    exact ht
theorem HasL.nil {cs : List Cel} (h : HasL cs []) : cs = [] := List.length_eq_zero_iff.1 h.1
theorem HasL.cons {cs : List Cel} {t : Ty} {fs : List Ty} (h : HasL cs (t :: fs)) : ∃ c cs', cs = c :: cs' ∧ Has c t ∧ HasL cs' fs := by
  match cs, h with
  | [], h => have := h.1; simp at this
  | c :: cs', h => exact ⟨c, cs', rfl, h.2 0 c t rfl rfl, ⟨by have := h.1; simpa using this, fun j c' t' hc ht => h.2 (j + 1) c' t' (by simpa using hc) (by simpa using ht)⟩⟩
theorem Has.int {c : Cel} (h : Has c .i) : ∃ x, c = .i x := by cases h; exact ⟨_, rfl⟩
theorem Has.bool {c : Cel} (h : Has c .b) : ∃ x, c = .b x := by cases h; exact ⟨_, rfl⟩
theorem Has.str {c : Cel} (h : Has c .s) : ∃ x, c = .s x := by cases h; exact ⟨_, rfl⟩
theorem Has.list {c : Cel} {T : TypeId} {k : Nat} {fs : List Ty} (h : Has c (.l T k fs)) : ∃ n cs, c = .l T k n cs ∧ cs.length = n * k := by cases h; exact ⟨_, _, rfl, by assumption⟩

mutual
/-- How many cells are marked. -/
def Cel.cnt : Cel → Nat
  | .i _ => 1
  | .b _ => 1
  | .s _ => 1
  | .l _ _ _ cs => cntL cs
def cntL : List Cel → Nat
  | [] => 0
  | c :: cs => c.cnt + cntL cs
end
mutual
/-- The data, marked from q on; tx: what a text is marked with. -/
def Cel.mark (tx : Int → ByteArray) : Cel → Int → Cel
  | .i _, q => .i q
  | .b _, q => .b (q % 3 == 0)
  | .s _, q => .s (tx q)
  | .l T k n cs, q => .l T k n (markL tx cs q)
def markL (tx : Int → ByteArray) : List Cel → Int → List Cel
  | [], _ => []
  | c :: cs, q => c.mark tx q :: markL tx cs (q + (c.cnt : Int))
end
mutual
/-- How many structs there are in all its lists, and bytes in its texts. -/
def Cel.big : Cel → Nat
  | .i _ => 0
  | .b _ => 0
  | .s x => x.size
  | .l _ _ n cs => n + bigL cs
def bigL : List Cel → Nat
  | [] => 0
  | c :: cs => c.big + bigL cs
end
theorem cntL_append (a b : List Cel) : cntL (a ++ b) = cntL a + cntL b := by
  induction a with
  | nil => simp [cntL]
  | cons c a ih => simp [cntL, ih]; omega
theorem markL_append (tx : Int → ByteArray) (a b : List Cel) (q : Int) : markL tx (a ++ b) q = markL tx a q ++ markL tx b (q + (cntL a : Int)) := by
  induction a generalizing q with
  | nil => simp [markL, cntL]
  | cons c a ih => simp only [List.cons_append, markL, ih, cntL, List.cons_append]; rw [show q + (c.cnt : Int) + (cntL a : Int) = q + ((c.cnt + cntL a : Nat) : Int) by push_cast; omega]
theorem markL_len (tx : Int → ByteArray) (a : List Cel) (q : Int) : (markL tx a q).length = a.length := by
  induction a generalizing q with
  | nil => rfl
  | cons c a ih => simp [markL, ih]
theorem bigL_append (a b : List Cel) : bigL (a ++ b) = bigL a + bigL b := by
  induction a with
  | nil => simp [bigL]
  | cons c a ih => simp [bigL, ih]; omega
mutual
theorem Cel.mark_cnt (tx : Int → ByteArray) : ∀ (c : Cel) (q : Int), (c.mark tx q).cnt = c.cnt
  | .i _, _ => by simp [Cel.mark, Cel.cnt]
  | .b _, _ => by simp [Cel.mark, Cel.cnt]
  | .s _, _ => by simp [Cel.mark, Cel.cnt]
  | .l _ _ _ cs, q => by simp only [Cel.mark, Cel.cnt]; exact markL_cnt tx cs q
theorem markL_cnt (tx : Int → ByteArray) : ∀ (cs : List Cel) (q : Int), cntL (markL tx cs q) = cntL cs
  | [], _ => rfl
  | c :: cs, q => by simp only [markL, cntL]; rw [Cel.mark_cnt tx c q, markL_cnt tx cs _]
end
/-- What is turned within a cell of a list of the call's own, in its own blocks alone. -/
theorem Own.inner {w w' : World} {base : Nat} {g n cap : Nat} {T : TypeId} {k : Nat} {cs : List Cel} {S : Nat → Prop} (h : Own w base (.slice (some ⟨g, 0, none⟩) n cap) (.l T k n cs) S) {j : Nat} {c c' : Cel} (hc : cs[j]? = some c)
    (hw : ∀ v Sj, w.cell? ⟨g, j, none⟩ = some v → Own w base v c Sj → (∀ x, Sj x → S x) → ¬ Sj g → Own w' base v c' Sj ∧ ∀ x, S x → ¬ Sj x → w'.heap[x]? = w.heap[x]?) :
    Own w' base (.slice (some ⟨g, 0, none⟩) n cap) (.l T k n (cs.set j c')) S := by
  cases h with
  | l g cap T k n cs vs S Ss h1 h2 hn h4 h5 h6 h7 =>
    have hj : j < cs.length := (List.getElem?_eq_some_iff.1 hc).1
    have hl := h1.1
    have hv : vs[j]? = some (vs[j]'(by omega)) := List.getElem?_eq_getElem (by omega)
    have sub : ∀ i x, i < n * k → Ss i x → S x := fun i x hi hx => (h7 x).2 (.inr ⟨i, hi, hx⟩)
    obtain ⟨ho, he⟩ := hw _ (Ss j) (own_cellV h1 hv) (h4 j _ _ hv hc) (fun x => sub j x (by omega)) (h5 j)
    refine .l g cap T k n _ vs S Ss (owns_heap h1 fun x hx => ?_) (by simpa using h2) hn (fun i v d hvi hdi => ?_) h5 h6 h7
    · cases hx
      exact he g ((h7 g).2 (.inl rfl)) (h5 j)
    · by_cases hij : j = i
      · subst hij
        rw [List.getElem?_set_self hj] at hdi
        cases hdi
        rw [hv] at hvi
        cases hvi
        exact ho
      · rw [List.getElem?_set_ne hij] at hdi
        have hi : i < n * k := by have := (List.getElem?_eq_some_iff.1 hvi).1; omega
        exact (h4 i v d hvi hdi).heap fun x hx => he x (sub i x hi hx) (h6 i j x (Ne.symm hij) hx)

/-- A list that is read, opened. -/
theorem At.openL {q : Bool} {w : World} {v : Value} {T : TypeId} {k n : Nat} {cs : List Cel} (h : At q w v (.l T k n cs)) : ∃ (a : Option Addr) (c : Nat) (vs : List Value), v = .slice a n c ∧ vs.length = n * k ∧ cs.length = n * k ∧ n ≤ 2097152 ∧ (q = true → (a = none → c = 0) ∧ n ≤ c) ∧
    (n = 0 ∨ ∃ b o, a = some ⟨b, o, none⟩ ∧ ∀ j, j < n * k → w.cell? ⟨b, o + j, none⟩ = vs[j]?) ∧ ∀ (j : Nat) (v : Value) (c : Cel), vs[j]? = some v → cs[j]? = some c → At q w v c := by
  cases h with
  | l a T k n c cs vs h1 h2 hn hc h3 h4 => exact ⟨a, c, vs, rfl, h1, h2, hn, hc, h3, h4⟩
theorem At.int {q : Bool} {w : World} {v : Value} {x : Int} (h : At q w v (.i x)) : v = .int .i64 x := by cases h; rfl
theorem At.bool {q : Bool} {w : World} {v : Value} {x : Bool} (h : At q w v (.b x)) : v = .bool x := by cases h; rfl
theorem At.str {q : Bool} {w : World} {v : Value} {x : ByteArray} (h : At q w v (.s x)) : v = .string x := by cases h; rfl
theorem At.slice {q : Bool} {w : World} {v : Value} {T : TypeId} {k n : Nat} {cs : List Cel} (h : At q w v (.l T k n cs)) : ∃ a c, v = .slice a n c := by
  obtain ⟨a, c, _, e, _⟩ := h.openL
  exact ⟨a, c, e⟩
theorem AtL.nilE {q : Bool} {w : World} {vs : List Value} (h : AtL q w vs []) : vs = [] := List.length_eq_zero_iff.1 h.1
theorem AtL.consE {q : Bool} {w : World} {vs : List Value} {c : Cel} {cs : List Cel} (h : AtL q w vs (c :: cs)) : ∃ v vs', vs = v :: vs' ∧ At q w v c ∧ AtL q w vs' cs := by
  match vs, h with
  | [], h => have := h.1; simp at this
  | v :: vs', h => exact ⟨v, vs', rfl, h.head, h.tail⟩
theorem OwnL.nilE {w : World} {base : Nat} {vs : List Value} {S : Nat → Prop} (h : OwnL w base vs [] S) : vs = [] := List.length_eq_zero_iff.1 h.1
theorem OwnL.consE {w : World} {base : Nat} {vs : List Value} {c : Cel} {cs : List Cel} {S : Nat → Prop} (h : OwnL w base vs (c :: cs) S) : ∃ v vs', vs = v :: vs' := by
  match vs, h with
  | [], h => have := h.1; simp at this
  | v :: vs', _ => exact ⟨v, vs', rfl⟩
/-- Row j of a list that is read: what stands in its cells. -/
theorem rowVals {q : Bool} {w : World} {k n j : Nat} {cs : List Cel} {vs : List Value} (h1 : vs.length = n * k) (h2 : cs.length = n * k) (h4 : ∀ (j : Nat) (v : Value) (c : Cel), vs[j]? = some v → cs[j]? = some c → At q w v c) (hj : j < n) : AtL q w ((vs.drop (j * k)).take k) (row cs k j) := by
  have hle : j * k + k ≤ n * k := by rw [← Nat.succ_mul]; exact Nat.mul_le_mul_right k hj
  refine ⟨by rw [rowL_len h2 hj, List.length_take, List.length_drop, h1]; omega, fun i v c hv hc => ?_⟩
  have hi : i < k := by have := (List.getElem?_eq_some_iff.1 hc).1; rw [rowL_len h2 hj] at this; exact this
  rw [row_at hi] at hc
  rw [List.getElem?_take_of_lt hi, List.getElem?_drop] at hv
  exact h4 _ v c hv hc
/-- Stores one behind the other into a block. -/
def stores (w : World) (g p : Nat) : List Value → World
  | [] => w
  | u :: us => stores (w.setCell ⟨g, p, none⟩ u) g (p + 1) us
theorem stores_other {g : Nat} : ∀ (us : List Value) (w : World) (p x : Nat), x ≠ g → (stores w g p us).heap[x]? = w.heap[x]?
  | [], _, _, _, _ => rfl
  | _ :: us, _, _, _, hx => (stores_other us _ _ _ hx).trans (Below.heap_setCell _ _ _ _ hx)
theorem stores_size {g : Nat} : ∀ (us : List Value) (w : World) (p : Nat), (stores w g p us).heap.size = w.heap.size
  | [], _, _ => rfl
  | _ :: us, _, _ => (stores_size us _ _).trans (size_setCell _ _ _)
theorem stores_below {g B : Nat} (hB : B ≤ g) {w0 : World} : ∀ (us : List Value) (w : World) (p : Nat), Below B w0 w → Below B w0 (stores w g p us)
  | [], _, _, h => h
  | u :: us, _, _, h => stores_below hB us _ _ (h.setCell hB u)
/-- Data put over a list's data from a place on. -/
def over (ps : List Cel) (p : Nat) : List Cel → List Cel
  | [] => ps
  | c :: cs => over (ps.set p c) (p + 1) cs
theorem over_len : ∀ (cs ps : List Cel) (p : Nat), (over ps p cs).length = ps.length
  | [], _, _ => rfl
  | c :: cs, ps, p => (over_len cs _ _).trans (by simp)
theorem over_take : ∀ (cs ps : List Cel) (p : Nat), p + cs.length ≤ ps.length → (over ps p cs).take (p + cs.length) = ps.take p ++ cs
  | [], ps, p, _ => by simp [over]
  | c :: cs, ps, p, h => by
    simp only [List.length_cons] at h
    have ih := over_take cs (ps.set p c) (p + 1) (by simp; omega)
    rw [show p + (c :: cs).length = p + 1 + cs.length by simp; omega, over, ih]
    rw [List.take_succ_eq_append_getElem (by simp; omega)]
    simp [List.take_set_of_le (Nat.le_refl _)]
theorem Own.storeL : ∀ {us : List Value} {rs : List Cel} {w : World} {base g n cap : Nat} {T : TypeId} {k : Nat} {ps : List Cel} {S S' : Nat → Prop} {p : Nat}, Own w base (.slice (some ⟨g, 0, none⟩) n cap) (.l T k n ps) S → OwnL w base us rs S' → (∀ x, S' x → ¬ S x) → p + rs.length ≤ n * k →
    ∃ S'', Own (stores w g p us) base (.slice (some ⟨g, 0, none⟩) n cap) (.l T k n (over ps p rs)) S'' ∧ ∀ x, S'' x → S x ∨ S' x
  | us, [], w, base, g, n, cap, T, k, ps, S, S', p, h, hu, _, _ => by
    obtain rfl := hu.nilE
    exact ⟨S, h, fun x hx => .inl hx⟩
  | us, c :: rs, w, base, g, n, cap, T, k, ps, S, S', p, h, hu, hd, hp => by
    obtain ⟨u, us', rfl⟩ := hu.consE
    obtain ⟨S0, S1, h0, h1, hd01, hS⟩ := hu.parts
    simp only [List.length_cons] at hp
    obtain ⟨Sa, oa, ga, sa, ta⟩ := h.store (show p < n * k by omega) h0 (fun x hx => hd x ((hS x).2 (.inl hx)))
    have hg : S g := by
      rcases h.forms with ⟨e, _⟩ | ⟨g', cap', e, _, hg⟩
      · cases e
      · cases e; exact hg
    have h1' : OwnL (w.setCell ⟨g, p, none⟩ u) base us' rs S1 := h1.heap fun x hx => Below.heap_setCell _ _ _ _ (fun e => by
      have e : x = g := e
      exact hd x ((hS x).2 (.inr hx)) (by rw [e]; exact hg))
    obtain ⟨S'', o, s⟩ := Own.storeL (p := p + 1) oa h1' (fun x hx hxa => by
      rcases sa x hxa with h' | h'
      · exact hd x ((hS x).2 (.inr hx)) h'
      · exact hd01 x h' hx) (by omega)
    exact ⟨S'', o, fun x hx => by
      rcases s x hx with h' | h'
      · rcases sa x h' with h'' | h''
        · exact .inl h''
        · exact .inr ((hS x).2 (.inl h''))
      · exact .inr ((hS x).2 (.inr h'))⟩
/-- A list of zero cells that was made. -/
theorem own_made {w : World} {g n : Nat} {T : TypeId} {k : Nat} {vs zv : List Value} {zc : List Cel} (h : w.ownsRow g T k (.slice (some ⟨g, 0, none⟩) n n) n vs) (hn : n ≤ 2097152) (hk : zc.length = k) (hz : ∀ (j : Nat) (v : Value), vs[j]? = some v → zv[j % k]? = some v) (hzc : ∀ (i : Nat) (v : Value) (c : Cel), zv[i]? = some v → zc[i]? = some c → ∀ w', Own w' g v c (fun _ => False)) :
    ∃ ps, ps.length = n * k ∧ Own w g (.slice (some ⟨g, 0, none⟩) n n) (.l T k n ps) (fun x => x = g) := by
  refine ⟨(List.range (n * k)).map fun j => zc.getD (j % k) (.i 0), by simp, ?_⟩
  have hl := h.1
  refine .l g n T k n _ vs _ (fun _ _ => False) h (by simp) hn (fun j v c hv hc => ?_) (fun _ h => h) (fun _ _ _ _ h => h.elim) (fun x => by simp)
  have hj : j < n * k := by have := (List.getElem?_eq_some_iff.1 hv).1; omega
  have hk0 : 0 < k := by
    rcases Nat.eq_zero_or_pos k with h0 | h0
    · rw [h0] at hj; simp at hj
    · exact h0
  have hm : j % k < zc.length := by rw [hk]; exact Nat.mod_lt _ hk0
  simp [hj] at hc
  subst hc
  refine hzc (j % k) v _ (hz j v hv) ?_ w
  rw [List.getElem?_eq_getElem hm]
  rfl
/-- What a function that makes a struct, or a list, answers. -/
def RetL (w : World) (cs : List Cel) (e : Ending) (w' : World) : Prop := Below w.heap.size w w' ∧ ∃ us S, e = .returned (.agg us.toArray) ∧ OwnL w' w.heap.size us cs S
def Ret (w : World) (c : Cel) (e : Ending) (w' : World) : Prop := Below w.heap.size w w' ∧ ∃ u S, e = .returned u ∧ Own w' w.heap.size u c S
theorem made_at {z : Array Value} {m j : Nat} {v : Value} (h : (madeCells z m).toList[j]? = some v) (hz : 0 < z.size) : z.toList[j % z.size]? = some v := by
  have hj : j < m := by have := (List.getElem?_eq_some_iff.1 h).1; simpa [madeCells] using this
  have hm : j % z.size < z.size := Nat.mod_lt _ hz
  simp [madeCells, hj] at h
  rw [← h]
  simp [hm]
theorem OwnL.app : ∀ {vs : List Value} {cs : List Cel} {w : World} {b : Nat} {vs' : List Value} {cs' : List Cel} {S S' : Nat → Prop}, OwnL w b vs cs S → OwnL w b vs' cs' S' → (∀ x, S x → ¬ S' x) → OwnL w b (vs ++ vs') (cs ++ cs') (fun x => S x ∨ S' x)
  | vs, [], w, b, vs', cs', S, S', h, h', _ => by
    obtain rfl := h.nilE
    have hn : ∀ x, ¬ S x := fun x hx => by
      obtain ⟨_, Ss, _, _, h3⟩ := h
      obtain ⟨j, hj, _⟩ := (h3 x).1 hx
      simp at hj
    obtain ⟨l, Ss, h1, h2, h3⟩ := h'
    exact ⟨l, Ss, h1, h2, fun x => ⟨fun hx => (h3 x).1 (hx.resolve_left (hn x)), fun hx => .inr ((h3 x).2 hx)⟩⟩
  | vs, c :: cs, w, b, vs', cs', S, S', h, h', hd => by
    obtain ⟨v, vs, rfl⟩ := h.consE
    obtain ⟨S0, S1, h0, h1, hd01, hS⟩ := h.parts
    exact OwnL.cons h0 (OwnL.app h1 h' fun x hx => hd x ((hS x).2 (.inr hx))) (fun x hx hx' => by
      rcases hx' with hx' | hx'
      · exact hd01 x hx hx'
      · exact hd x ((hS x).2 (.inl hx)) hx') (fun x => by rw [hS x, or_assoc])
/-- While a struct is made: the argument's box, the answer's, that of what is made; what was made so far. -/
structure Mk (w W : World) (A Z C : Array Value) (TA TO : TypeId) (R : List (List Value × List Cel × (Nat → Prop))) : Prop where
  a : Box W w.heap.size A TA
  z : Box W (w.heap.size + 1) Z TO
  c : Box W (w.heap.size + 1 + 1) C TO
  b : Below w.heap.size w W
  o : ∀ r ∈ R, OwnL W (w.heap.size + 3) r.1 r.2.1 r.2.2
  d : R.Pairwise (fun p q => ∀ x, p.2.2 x → ¬ q.2.2 x)
theorem mk_new (w : World) (A Z C : Array Value) (TA TO : TypeId) : Mk w (((w.alloc (.cells A TA)).alloc (.cells Z TO)).alloc (.cells C TO)) A Z C TA TO [] := by
  refine ⟨((box_of w A TA).alloc _).alloc _, ?_, ?_, (((Below.refl _ w).alloc (Nat.le_refl _) _).alloc (by simp) _).alloc (by simp; omega) _, (fun r hr => by simp at hr), List.Pairwise.nil⟩
  · have := (box_of (w.alloc (.cells A TA)) Z TO).alloc (.cells C TO)
    rwa [World.size_alloc] at this
  · have := box_of ((w.alloc (.cells A TA)).alloc (.cells Z TO)) C TO
    rwa [World.size_alloc, World.size_alloc] at this
theorem Mk.store {w W : World} {A Z C : Array Value} {TA TO : TypeId} {R : List (List Value × List Cel × (Nat → Prop))} (h : Mk w W A Z C TA TO R) (i : Nat) (v : Value) : Mk w (W.setCell ⟨w.heap.size + 1 + 1, i, none⟩ v) A Z (C.setIfInBounds i v) TA TO R :=
  ⟨h.a.set (by simp; omega) v, h.z.set (by simp) v, h.c.put i v, h.b.setCell (by simp; omega) v, fun r hr => (h.o r hr).heap fun x hx => Below.heap_setCell _ _ _ _ (fun e => by
    have e : x = w.heap.size + 1 + 1 := e
    have := ((h.o r hr).lt x hx).1
    omega), h.d⟩
theorem Mk.storeZ {w W : World} {A Z C : Array Value} {TA TO : TypeId} {R : List (List Value × List Cel × (Nat → Prop))} (h : Mk w W A Z C TA TO R) (i : Nat) (v : Value) : Mk w (W.setCell ⟨w.heap.size + 1, i, none⟩ v) A (Z.setIfInBounds i v) C TA TO R :=
  ⟨h.a.set (by simp) v, h.z.put i v, h.c.set (by simp) v, h.b.setCell (by simp) v, fun r hr => (h.o r hr).heap fun x hx => Below.heap_setCell _ _ _ _ (fun e => by
    have e : x = w.heap.size + 1 := e
    have := ((h.o r hr).lt x hx).1
    omega), h.d⟩
theorem Mk.call {w W W' : World} {A Z C : Array Value} {TA TO : TypeId} {R : List (List Value × List Cel × (Nat → Prop))} (h : Mk w W A Z C TA TO R) (hb : Below W.heap.size W W') {us : List Value} {cs : List Cel} {S : Nat → Prop} (o : OwnL W' W.heap.size us cs S) : Mk w W' A Z C TA TO (R ++ [(us, cs, S)]) := by
  have hc := h.c.lt
  have hs := h.b.size
  refine ⟨h.a.below hb h.a.lt, h.z.below hb h.z.lt, h.c.below hb hc, h.b.trans (hb.mono hs), fun r hr => ?_, ?_⟩
  · rcases List.mem_append.1 hr with hr | hr
    · exact (h.o r hr).on hb (Nat.le_refl _)
    · simp at hr
      subst hr
      exact o.weaken (by omega)
  · refine List.pairwise_append.2 ⟨h.d, by simp, fun r hr q hq x hx => ?_⟩
    simp at hq
    subst hq
    intro hx'
    have h1 := ((h.o r hr).lt x hx).2
    have h2 := (o.lt x hx').1
    omega
theorem Mk.call1 {w W W' : World} {A Z C : Array Value} {TA TO : TypeId} {R : List (List Value × List Cel × (Nat → Prop))} (h : Mk w W A Z C TA TO R) (hb : Below W.heap.size W W') {u : Value} {c : Cel} {S : Nat → Prop} (o : Own W' W.heap.size u c S) : Mk w W' A Z C TA TO (R ++ [([u], [c], S)]) :=
  h.call hb (OwnL.cons o (OwnL.nil (S := fun _ => False) (fun _ h => h)) (fun _ _ h => h) (fun _ => by simp))
theorem Mk.num {w W : World} {A Z C : Array Value} {TA TO : TypeId} {R : List (List Value × List Cel × (Nat → Prop))} (h : Mk w W A Z C TA TO R) {v : Value} {c : Cel} (hv : ∀ base, Own W base v c (fun _ => False)) : Mk w W A Z C TA TO (R ++ [([v], [c], fun _ => False)]) := by
  refine ⟨h.a, h.z, h.c, h.b, fun r hr => ?_, ?_⟩
  · rcases List.mem_append.1 hr with hr | hr
    · exact h.o r hr
    · simp at hr
      subst hr
      exact OwnL.cons (hv _) (OwnL.nil (S := fun _ => False) (fun _ h => h)) (fun _ h => h.elim) (fun _ => by simp)
  · refine List.pairwise_append.2 ⟨h.d, by simp, fun r hr q hq x hx => ?_⟩
    simp at hq
    subst hq
    exact fun h => h
theorem owns_all {W : World} {b : Nat} : ∀ {R : List (List Value × List Cel × (Nat → Prop))}, (∀ r ∈ R, OwnL W b r.1 r.2.1 r.2.2) → R.Pairwise (fun p q => ∀ x, p.2.2 x → ¬ q.2.2 x) → OwnL W b (R.flatMap (·.1)) (R.flatMap (·.2.1)) (fun x => ∃ r ∈ R, r.2.2 x)
  | [], _, _ => OwnL.nil (fun x h => by simp at h)
  | r :: R, h, hd => by
    have hp := List.pairwise_cons.1 hd
    have h1 := OwnL.app (h r (by simp)) (owns_all (fun q hq => h q (by simp [hq])) hp.2) (fun x hx ⟨q, hq, hx'⟩ => hp.1 q hq x hx hx')
    obtain ⟨l, Ss, g1, g2, g3⟩ := h1
    refine ⟨l, Ss, g1, g2, fun x => ?_⟩
    exact Iff.trans (by simp) (g3 x)
theorem Mk.all {w W : World} {A Z C : Array Value} {TA TO : TypeId} {R : List (List Value × List Cel × (Nat → Prop))} (h : Mk w W A Z C TA TO R) : OwnL W w.heap.size (R.flatMap (·.1)) (R.flatMap (·.2.1)) (fun x => ∃ r ∈ R, r.2.2 x) := (owns_all h.o h.d).weaken (by omega)
def Yes (w : World) (e : Ending) (w' : World) : Prop := e = .returned (.bool true) ∧ Below w.heap.size w w'
/-- While two structs are compared: their boxes. -/
structure Two (w W : World) (A B : Array Value) (T : TypeId) : Prop where
  a : Box W w.heap.size A T
  b : Box W (w.heap.size + 1) B T
  on : Below w.heap.size w W
theorem two_new (w : World) (A B : Array Value) (T : TypeId) : Two w ((w.alloc (.cells A T)).alloc (.cells B T)) A B T := by
  refine ⟨(box_of w A T).alloc _, ?_, ((Below.refl _ w).alloc (Nat.le_refl _) _).alloc (by simp) _⟩
  have := box_of (w.alloc (.cells A T)) B T
  rwa [World.size_alloc] at this
theorem Two.call {w W W' : World} {A B : Array Value} {T : TypeId} (h : Two w W A B T) (hb : Below W.heap.size W W') : Two w W' A B T :=
  ⟨h.a.below hb h.a.lt, h.b.below hb h.b.lt, h.on.trans (hb.mono h.on.size)⟩
end Go.Proofs.Ytmgofehafjogfab
