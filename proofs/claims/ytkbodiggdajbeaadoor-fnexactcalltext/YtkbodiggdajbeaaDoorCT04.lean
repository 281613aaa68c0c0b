/- Texts joined: DatF, DatI, DatM, DatN, DatD, DatO, EntriesM, DescM, ValM, Wrd1, Wrds, Ent1, Ents, Ints, ResL, Desc, SpecEntries, SpecWord, SpecDesc, SpecMem. -/
import Derived.Test.YtkbodiggdajbeaaDoorCT03
import Derived.Test.YtkbodiggdajbeaaDoorCT01
import Derived.Deep.RegionHeld3
import Derived.Deep.Cut
import Derived.Handy
import Derived.Deep.Slices
import Derived.Test.YtkbodiggdajbeaaDoorRows
import Derived.WalkKit
import Derived.ProofKit
import Derived.WalkSmall
import Derived.OpenShut
import Derived.Test.YtkbodiggdajbeaaDoorCT02
import Derived.ChangeOld
import Derived.Lib.SmallJoins
import Derived.Deep.QuietTactic
import Derived.BigQuiet
/- What the laws' own functions reckon of data: how many cells are marked, what they are marked with, how great it is; a list's row; what is turned within a list. No program. -/
namespace Go.Proofs.YtkbodiggdajbeaaDoor
open Go.ChangeShapes Go.WideShapes Go.ChangeAt Go.RowKit Go.Joins

/-- The shape of a cell's data. -/
inductive Ty where
  | i
  | b
  | s
  | l (T : TypeId) (k : Nat) (fs : List Ty)
inductive Has : Cel → Ty → Prop
  | i (x : Int) : Has (.i x) .i
  | b (x : Bool) : Has (.b x) .b
  | s (x : ByteArray) : Has (.s x) .s
  | l (T : TypeId) (k n : Nat) (cs : List Cel) (fs : List Ty) (hk : fs.length = k) (h1 : cs.length = n * k) (h2 : ∀ (j : Nat) (c : Cel) (t : Ty), cs[j]? = some c → fs[j % k]? = some t → Has c t) : Has (.l T k n cs) (.l T k fs)
def HasL (cs : List Cel) (fs : List Ty) : Prop := cs.length = fs.length ∧ ∀ (j : Nat) (c : Cel) (t : Ty), cs[j]? = some c → fs[j]? = some t → Has c t
/-- Row number j. -/
def row (cs : List Cel) (k j : Nat) : List Cel := (cs.drop (j * k)).take k
theorem rowL_len {cs : List Cel} {k n j : Nat} (h : cs.length = n * k) (hj : j < n) : (row cs k j).length = k := by
  unfold row
  rw [List.length_take, List.length_drop, h]
  have : j * k + k ≤ n * k := by rw [← Nat.succ_mul]; exact Nat.mul_le_mul_right k hj
  omega
theorem row_at {cs : List Cel} {k j i : Nat} (hi : i < k) : (row cs k j)[i]? = cs[j * k + i]? := by
  unfold row
  rw [List.getElem?_take_of_lt hi, List.getElem?_drop]
theorem row_split {cs : List Cel} {k j : Nat} : cs.take ((j + 1) * k) = cs.take (j * k) ++ row cs k j := by
  unfold row
  rw [Nat.succ_mul, List.take_add]
theorem Has.rowL {T : TypeId} {k n : Nat} {cs : List Cel} {fs : List Ty} (h : Has (.l T k n cs) (.l T k fs)) {j : Nat} (hj : j < n) : HasL (row cs k j) fs := by
  cases h with
  | l _ _ _ _ _ hk h1 h2 =>
    refine ⟨by rw [rowL_len h1 hj, hk], fun i c t hc ht => ?_⟩
    have hi : i < k := by have := (List.getElem?_eq_some_iff.1 ht).1; omega
    rw [row_at hi] at hc
    refine h2 (j * k + i) c t hc ?_
    rw [show (j * k + i) % k = i by rw [Nat.add_comm, Nat.add_mul_mod_self_right, Nat.mod_eq_of_lt hi]]
    exact ht
theorem HasL.nil {cs : List Cel} (h : HasL cs []) : cs = [] := List.length_eq_zero_iff.1 h.1
theorem HasL.cons {cs : List Cel} {t : Ty} {fs : List Ty} (h : HasL cs (t :: fs)) : ∃ c cs', cs = c :: cs' ∧ Has c t ∧ HasL cs' fs := by
  match cs, h with
  | [], h => have := h.1; simp at this
  | c :: cs', h => exact ⟨c, cs', rfl, h.2 0 c t rfl rfl, ⟨by have := h.1; simpa using this, fun j c' t' hc ht => h.2 (j + 1) c' t' (by simpa using hc) (by simpa using ht)⟩⟩
theorem Has.int {c : Cel} (h : Has c .i) : ∃ x, c = .i x := by cases h; exact ⟨_, rfl⟩
theorem Has.bool {c : Cel} (h : Has c .b) : ∃ x, c = .b x := by cases h; exact ⟨_, rfl⟩
theorem Has.str {c : Cel} (h : Has c .s) : ∃ x, c = .s x := by cases h; exact ⟨_, rfl⟩
theorem Has.list {c : Cel} {T : TypeId} {k : Nat} {fs : List Ty} (h : Has c (.l T k fs)) : ∃ n cs, c = .l T k n cs ∧ cs.length = n * k := by cases h; exact ⟨_, _, rfl, by assumption⟩

mutual
/-- How many cells are marked. -/
def Cel.cnt : Cel → Nat
  | .i _ => 1
  | .b _ => 1
  | .s _ => 1
  | .l _ _ _ cs => cntL cs
def cntL : List Cel → Nat
  | [] => 0
  | c :: cs => c.cnt + cntL cs
end
mutual
/-- The data, marked from q on; tx: what a text is marked with. -/
def Cel.mark (tx : Int → ByteArray) : Cel → Int → Cel
  | .i _, q => .i q
  | .b _, q => .b (q % 3 == 0)
  | .s _, q => .s (tx q)
  | .l T k n cs, q => .l T k n (markL tx cs q)
def markL (tx : Int → ByteArray) : List Cel → Int → List Cel
  | [], _ => []
  | c :: cs, q => c.mark tx q :: markL tx cs (q + (c.cnt : Int))
end
mutual
/-- How many structs there are in all its lists, and bytes in its texts. -/
def Cel.big : Cel → Nat
  | .i _ => 0
  | .b _ => 0
  | .s x => x.size
  | .l _ _ n cs => n + bigL cs
def bigL : List Cel → Nat
  | [] => 0
  | c :: cs => c.big + bigL cs
end
theorem cntL_append (a b : List Cel) : cntL (a ++ b) = cntL a + cntL b := by
  induction a with
  | nil => simp [cntL]
  | cons c a ih => simp [cntL, ih]; omega
theorem markL_append (tx : Int → ByteArray) (a b : List Cel) (q : Int) : markL tx (a ++ b) q = markL tx a q ++ markL tx b (q + (cntL a : Int)) := by
  induction a generalizing q with
  | nil => simp [markL, cntL]
  | cons c a ih => simp only [List.cons_append, markL, ih, cntL, List.cons_append]; rw [show q + (c.cnt : Int) + (cntL a : Int) = q + ((c.cnt + cntL a : Nat) : Int) by push_cast; omega]
theorem markL_len (tx : Int → ByteArray) (a : List Cel) (q : Int) : (markL tx a q).length = a.length := by
  induction a generalizing q with
  | nil => rfl
  | cons c a ih => simp [markL, ih]
theorem bigL_append (a b : List Cel) : bigL (a ++ b) = bigL a + bigL b := by
  induction a with
  | nil => simp [bigL]
  | cons c a ih => simp [bigL, ih]; omega
mutual
theorem Cel.mark_cnt (tx : Int → ByteArray) : ∀ (c : Cel) (q : Int), (c.mark tx q).cnt = c.cnt
  | .i _, _ => by simp [Cel.mark, Cel.cnt]
  | .b _, _ => by simp [Cel.mark, Cel.cnt]
  | .s _, _ => by simp [Cel.mark, Cel.cnt]
  | .l _ _ _ cs, q => by simp only [Cel.mark, Cel.cnt]; exact markL_cnt tx cs q
theorem markL_cnt (tx : Int → ByteArray) : ∀ (cs : List Cel) (q : Int), cntL (markL tx cs q) = cntL cs
  | [], _ => rfl
  | c :: cs, q => by simp only [markL, cntL]; rw [Cel.mark_cnt tx c q, markL_cnt tx cs _]
end
/-- What is turned within a cell of a list of the call's own, in its own blocks alone. -/
theorem Own.inner {w w' : World} {base : Nat} {g n cap : Nat} {T : TypeId} {k : Nat} {cs : List Cel} {S : Nat → Prop} (h : Own w base (.slice (some ⟨g, 0, none⟩) n cap) (.l T k n cs) S) {j : Nat} {c c' : Cel} (hc : cs[j]? = some c)
    (hw : ∀ v Sj, w.cell? ⟨g, j, none⟩ = some v → Own w base v c Sj → (∀ x, Sj x → S x) → ¬ Sj g → Own w' base v c' Sj ∧ ∀ x, S x → ¬ Sj x → w'.heap[x]? = w.heap[x]?) :
    Own w' base (.slice (some ⟨g, 0, none⟩) n cap) (.l T k n (cs.set j c')) S := by
  cases h with
  | l g cap T k n cs vs S Ss h1 h2 hn h4 h5 h6 h7 =>
    have hj : j < cs.length := (List.getElem?_eq_some_iff.1 hc).1
    have hl := h1.1
    have hv : vs[j]? = some (vs[j]'(by omega)) := List.getElem?_eq_getElem (by omega)
    have sub : ∀ i x, i < n * k → Ss i x → S x := fun i x hi hx => (h7 x).2 (.inr ⟨i, hi, hx⟩)
    obtain ⟨ho, he⟩ := hw _ (Ss j) (own_cellV h1 hv) (h4 j _ _ hv hc) (fun x => sub j x (by omega)) (h5 j)
    refine .l g cap T k n _ vs S Ss (owns_heap h1 fun x hx => ?_) (by simpa using h2) hn (fun i v d hvi hdi => ?_) h5 h6 h7
    · cases hx
      exact he g ((h7 g).2 (.inl rfl)) (h5 j)
    · by_cases hij : j = i
      · subst hij
        rw [List.getElem?_set_self hj] at hdi
        cases hdi
        rw [hv] at hvi
        cases hvi
        exact ho
      · rw [List.getElem?_set_ne hij] at hdi
        have hi : i < n * k := by have := (List.getElem?_eq_some_iff.1 hvi).1; omega
        exact (h4 i v d hvi hdi).heap fun x hx => he x (sub i x hi hx) (h6 i j x (Ne.symm hij) hx)

/-- A list that is read, opened. -/
theorem At.openL {q : Bool} {w : World} {v : Value} {T : TypeId} {k n : Nat} {cs : List Cel} (h : At q w v (.l T k n cs)) : ∃ (a : Option Addr) (c : Nat) (vs : List Value), v = .slice a n c ∧ vs.length = n * k ∧ cs.length = n * k ∧ n ≤ 2097152 ∧ (q = true → (a = none → c = 0) ∧ n ≤ c) ∧
    (n = 0 ∨ ∃ b o, a = some ⟨b, o, none⟩ ∧ ∀ j, j < n * k → w.cell? ⟨b, o + j, none⟩ = vs[j]?) ∧ ∀ (j : Nat) (v : Value) (c : Cel), vs[j]? = some v → cs[j]? = some c → At q w v c := by
  cases h with
  | l a T k n c cs vs h1 h2 hn hc h3 h4 => exact ⟨a, c, vs, rfl, h1, h2, hn, hc, h3, h4⟩
theorem At.int {q : Bool} {w : World} {v : Value} {x : Int} (h : At q w v (.i x)) : v = .int .i64 x := by cases h; rfl
theorem At.bool {q : Bool} {w : World} {v : Value} {x : Bool} (h : At q w v (.b x)) : v = .bool x := by cases h; rfl
theorem At.str {q : Bool} {w : World} {v : Value} {x : ByteArray} (h : At q w v (.s x)) : v = .string x := by cases h; rfl
theorem At.slice {q : Bool} {w : World} {v : Value} {T : TypeId} {k n : Nat} {cs : List Cel} (h : At q w v (.l T k n cs)) : ∃ a c, v = .slice a n c := by
  obtain ⟨a, c, _, e, _⟩ := h.openL
  exact ⟨a, c, e⟩
theorem AtL.nilE {q : Bool} {w : World} {vs : List Value} (h : AtL q w vs []) : vs = [] := List.length_eq_zero_iff.1 h.1
theorem AtL.consE {q : Bool} {w : World} {vs : List Value} {c : Cel} {cs : List Cel} (h : AtL q w vs (c :: cs)) : ∃ v vs', vs = v :: vs' ∧ At q w v c ∧ AtL q w vs' cs := by
  match vs, h with
  | [], h => have := h.1; simp at this
  | v :: vs', h => exact ⟨v, vs', rfl, h.head, h.tail⟩
theorem OwnL.nilE {w : World} {base : Nat} {vs : List Value} {S : Nat → Prop} (h : OwnL w base vs [] S) : vs = [] := List.length_eq_zero_iff.1 h.1
theorem OwnL.consE {w : World} {base : Nat} {vs : List Value} {c : Cel} {cs : List Cel} {S : Nat → Prop} (h : OwnL w base vs (c :: cs) S) : ∃ v vs', vs = v :: vs' := by
  match vs, h with
  | [], h => have := h.1; simp at this
  | v :: vs', _ => exact ⟨v, vs', rfl⟩
/-- Row j of a list that is read: what stands in its cells. -/
theorem rowVals {q : Bool} {w : World} {k n j : Nat} {cs : List Cel} {vs : List Value} (h1 : vs.length = n * k) (h2 : cs.length = n * k) (h4 : ∀ (j : Nat) (v : Value) (c : Cel), vs[j]? = some v → cs[j]? = some c → At q w v c) (hj : j < n) : AtL q w ((vs.drop (j * k)).take k) (row cs k j) := by
  have hle : j * k + k ≤ n * k := by rw [← Nat.succ_mul]; exact Nat.mul_le_mul_right k hj
  refine ⟨by rw [rowL_len h2 hj, List.length_take, List.length_drop, h1]; omega, fun i v c hv hc => ?_⟩
  have hi : i < k := by have := (List.getElem?_eq_some_iff.1 hc).1; rw [rowL_len h2 hj] at this; exact this
  rw [row_at hi] at hc
  rw [List.getElem?_take_of_lt hi, List.getElem?_drop] at hv
  exact h4 _ v c hv hc
/-- Stores one behind the other into a block. -/
def stores (w : World) (g p : Nat) : List Value → World
  | [] => w
  | u :: us => stores (w.setCell ⟨g, p, none⟩ u) g (p + 1) us
theorem stores_other {g : Nat} : ∀ (us : List Value) (w : World) (p x : Nat), x ≠ g → (stores w g p us).heap[x]? = w.heap[x]?
  | [], _, _, _, _ => rfl
  | _ :: us, _, _, _, hx => (stores_other us _ _ _ hx).trans (Below.heap_setCell _ _ _ _ hx)
theorem stores_size {g : Nat} : ∀ (us : List Value) (w : World) (p : Nat), (stores w g p us).heap.size = w.heap.size
  | [], _, _ => rfl
  | _ :: us, _, _ => (stores_size us _ _).trans (size_setCell _ _ _)
theorem stores_below {g B : Nat} (hB : B ≤ g) {w0 : World} : ∀ (us : List Value) (w : World) (p : Nat), Below B w0 w → Below B w0 (stores w g p us)
  | [], _, _, h => h
  | u :: us, _, _, h => stores_below hB us _ _ (h.setCell hB u)
/-- Data put over a list's data from a place on. -/
def over (ps : List Cel) (p : Nat) : List Cel → List Cel
  | [] => ps
  | c :: cs => over (ps.set p c) (p + 1) cs
theorem over_len : ∀ (cs ps : List Cel) (p : Nat), (over ps p cs).length = ps.length
  | [], _, _ => rfl
  | c :: cs, ps, p => (over_len cs _ _).trans (by simp)
theorem over_take : ∀ (cs ps : List Cel) (p : Nat), p + cs.length ≤ ps.length → (over ps p cs).take (p + cs.length) = ps.take p ++ cs
  | [], ps, p, _ => by simp [over]
  | c :: cs, ps, p, h => by
    simp only [List.length_cons] at h
    have ih := over_take cs (ps.set p c) (p + 1) (by simp; omega)
    rw [show p + (c :: cs).length = p + 1 + cs.length by simp; omega, over, ih]
    rw [List.take_succ_eq_append_getElem (by simp; omega)]
    simp [List.take_set_of_le (Nat.le_refl _)]
theorem Own.storeL : ∀ {us : List Value} {rs : List Cel} {w : World} {base g n cap : Nat} {T : TypeId} {k : Nat} {ps : List Cel} {S S' : Nat → Prop} {p : Nat}, Own w base (.slice (some ⟨g, 0, none⟩) n cap) (.l T k n ps) S → OwnL w base us rs S' → (∀ x, S' x → ¬ S x) → p + rs.length ≤ n * k →
    ∃ S'', Own (stores w g p us) base (.slice (some ⟨g, 0, none⟩) n cap) (.l T k n (over ps p rs)) S'' ∧ ∀ x, S'' x → S x ∨ S' x
  | us, [], w, base, g, n, cap, T, k, ps, S, S', p, h, hu, _, _ => by
    obtain rfl := hu.nilE
    exact ⟨S, h, fun x hx => .inl hx⟩
  | us, c :: rs, w, base, g, n, cap, T, k, ps, S, S', p, h, hu, hd, hp => by
    obtain ⟨u, us', rfl⟩ := hu.consE
    obtain ⟨S0, S1, h0, h1, hd01, hS⟩ := hu.parts
    simp only [List.length_cons] at hp
    obtain ⟨Sa, oa, ga, sa, ta⟩ := h.store (show p < n * k by omega) h0 (fun x hx => hd x ((hS x).2 (.inl hx)))
    have hg : S g := by
      rcases h.forms with ⟨e, _⟩ | ⟨g', cap', e, _, hg⟩
      · cases e
      · cases e; exact hg
    have h1' : OwnL (w.setCell ⟨g, p, none⟩ u) base us' rs S1 := h1.heap fun x hx => Below.heap_setCell _ _ _ _ (fun e => by
      have e : x = g := e
      exact hd x ((hS x).2 (.inr hx)) (by rw [e]; exact hg))
    obtain ⟨S'', o, s⟩ := Own.storeL (p := p + 1) oa h1' (fun x hx hxa => by
      rcases sa x hxa with h' | h'
      · exact hd x ((hS x).2 (.inr hx)) h'
      · exact hd01 x h' hx) (by omega)
    exact ⟨S'', o, fun x hx => by
      rcases s x hx with h' | h'
      · rcases sa x h' with h'' | h''
        · exact .inl h''
        · exact .inr ((hS x).2 (.inl h''))
      · exact .inr ((hS x).2 (.inr h'))⟩
/-- A list of zero cells that was made. -/
theorem own_made {w : World} {g n : Nat} {T : TypeId} {k : Nat} {vs zv : List Value} {zc : List Cel} (h : w.ownsRow g T k (.slice (some ⟨g, 0, none⟩) n n) n vs) (hn : n ≤ 2097152) (hk : zc.length = k) (hz : ∀ (j : Nat) (v : Value), vs[j]? = some v → zv[j % k]? = some v) (hzc : ∀ (i : Nat) (v : Value) (c : Cel), zv[i]? = some v → zc[i]? = some c → ∀ w', Own w' g v c (fun _ => False)) :
    ∃ ps, ps.length = n * k ∧ Own w g (.slice (some ⟨g, 0, none⟩) n n) (.l T k n ps) (fun x => x = g) := by
  refine ⟨(List.range (n * k)).map fun j => zc.getD (j % k) (.i 0), by simp, ?_⟩
  have hl := h.1
  refine .l g n T k n _ vs _ (fun _ _ => False) h (by simp) hn (fun j v c hv hc => ?_) (fun _ h => h) (fun _ _ _ _ h => h.elim) (fun x => by simp)
  have hj : j < n * k := by have := (List.getElem?_eq_some_iff.1 hv).1; omega
  have hk0 : 0 < k := by
    rcases Nat.eq_zero_or_pos k with h0 | h0
    · rw [h0] at hj; simp at hj
    · exact h0
  have hm : j % k < zc.length := by rw [hk]; exact Nat.mod_lt _ hk0
  simp [hj] at hc
  subst hc
  refine hzc (j % k) v _ (hz j v hv) ?_ w
  rw [List.getElem?_eq_getElem hm]
  rfl
/-- What a function that makes a struct, or a list, answers. -/
def RetL (w : World) (cs : List Cel) (e : Ending) (w' : World) : Prop := Below w.heap.size w w' ∧ ∃ us S, e = .returned (.agg us.toArray) ∧ OwnL w' w.heap.size us cs S
def Ret (w : World) (c : Cel) (e : Ending) (w' : World) : Prop := Below w.heap.size w w' ∧ ∃ u S, e = .returned u ∧ Own w' w.heap.size u c S
theorem made_at {z : Array Value} {m j : Nat} {v : Value} (h : (madeCells z m).toList[j]? = some v) (hz : 0 < z.size) : z.toList[j % z.size]? = some v := by
  have hj : j < m := by have := (List.getElem?_eq_some_iff.1 h).1; simpa [madeCells] using this
  have hm : j % z.size < z.size := Nat.mod_lt _ hz
  simp [madeCells, hj] at h
  rw [← h]
  simp [hm]
theorem OwnL.app : ∀ {vs : List Value} {cs : List Cel} {w : World} {b : Nat} {vs' : List Value} {cs' : List Cel} {S S' : Nat → Prop}, OwnL w b vs cs S → OwnL w b vs' cs' S' → (∀ x, S x → ¬ S' x) → OwnL w b (vs ++ vs') (cs ++ cs') (fun x => S x ∨ S' x)
  | vs, [], w, b, vs', cs', S, S', h, h', _ => by
    obtain rfl := h.nilE
    have hn : ∀ x, ¬ S x := fun x hx => by
      obtain ⟨_, Ss, _, _, h3⟩ := h
      obtain ⟨j, hj, _⟩ := (h3 x).1 hx
      simp at hj
    obtain ⟨l, Ss, h1, h2, h3⟩ := h'
    exact ⟨l, Ss, h1, h2, fun x => ⟨fun hx => (h3 x).1 (hx.resolve_left (hn x)), fun hx => .inr ((h3 x).2 hx)⟩⟩
  | vs, c :: cs, w, b, vs', cs', S, S', h, h', hd => by
    obtain ⟨v, vs, rfl⟩ := h.consE
    obtain ⟨S0, S1, h0, h1, hd01, hS⟩ := h.parts
    exact OwnL.cons h0 (OwnL.app h1 h' fun x hx => hd x ((hS x).2 (.inr hx))) (fun x hx hx' => by
      rcases hx' with hx' | hx'
      · exact hd01 x hx hx'
      · exact hd x ((hS x).2 (.inl hx)) hx') (fun x => by rw [hS x, or_assoc])
/-- While a struct is made: the argument's box, the answer's, that of what is made; what was made so far. -/
structure Mk (w W : World) (A Z C : Array Value) (TA TO : TypeId) (R : List (List Value × List Cel × (Nat → Prop))) : Prop where
  a : Box W w.heap.size A TA
  z : Box W (w.heap.size + 1) Z TO
  c : Box W (w.heap.size + 1 + 1) C TO
  b : Below w.heap.size w W
  o : ∀ r ∈ R, OwnL W (w.heap.size + 3) r.1 r.2.1 r.2.2
  d : R.Pairwise (fun p q => ∀ x, p.2.2 x → ¬ q.2.2 x)
theorem mk_new (w : World) (A Z C : Array Value) (TA TO : TypeId) : Mk w (((w.alloc (.cells A TA)).alloc (.cells Z TO)).alloc (.cells C TO)) A Z C TA TO [] := by
  refine ⟨((box_of w A TA).alloc _).alloc _, ?_, ?_, (((Below.refl _ w).alloc (Nat.le_refl _) _).alloc (by simp) _).alloc (by simp; omega) _, (fun r hr => by simp at hr), List.Pairwise.nil⟩
  · have := (box_of (w.alloc (.cells A TA)) Z TO).alloc (.cells C TO)
    rwa [World.size_alloc] at this
  · have := box_of ((w.alloc (.cells A TA)).alloc (.cells Z TO)) C TO
    rwa [World.size_alloc, World.size_alloc] at this
theorem Mk.store {w W : World} {A Z C : Array Value} {TA TO : TypeId} {R : List (List Value × List Cel × (Nat → Prop))} (h : Mk w W A Z C TA TO R) (i : Nat) (v : Value) : Mk w (W.setCell ⟨w.heap.size + 1 + 1, i, none⟩ v) A Z (C.setIfInBounds i v) TA TO R :=
  ⟨h.a.set (by simp; omega) v, h.z.set (by simp) v, h.c.put i v, h.b.setCell (by simp; omega) v, fun r hr => (h.o r hr).heap fun x hx => Below.heap_setCell _ _ _ _ (fun e => by
    have e : x = w.heap.size + 1 + 1 := e
    have := ((h.o r hr).lt x hx).1
    omega), h.d⟩
theorem Mk.storeZ {w W : World} {A Z C : Array Value} {TA TO : TypeId} {R : List (List Value × List Cel × (Nat → Prop))} (h : Mk w W A Z C TA TO R) (i : Nat) (v : Value) : Mk w (W.setCell ⟨w.heap.size + 1, i, none⟩ v) A (Z.setIfInBounds i v) C TA TO R :=
  ⟨h.a.set (by simp) v, h.z.put i v, h.c.set (by simp) v, h.b.setCell (by simp) v, fun r hr => (h.o r hr).heap fun x hx => Below.heap_setCell _ _ _ _ (fun e => by
    have e : x = w.heap.size + 1 := e
    have := ((h.o r hr).lt x hx).1
    omega), h.d⟩
theorem Mk.call {w W W' : World} {A Z C : Array Value} {TA TO : TypeId} {R : List (List Value × List Cel × (Nat → Prop))} (h : Mk w W A Z C TA TO R) (hb : Below W.heap.size W W') {us : List Value} {cs : List Cel} {S : Nat → Prop} (o : OwnL W' W.heap.size us cs S) : Mk w W' A Z C TA TO (R ++ [(us, cs, S)]) := by
  have hc := h.c.lt
  have hs := h.b.size
  refine ⟨h.a.below hb h.a.lt, h.z.below hb h.z.lt, h.c.below hb hc, h.b.trans (hb.mono hs), fun r hr => ?_, ?_⟩
  · rcases List.mem_append.1 hr with hr | hr
    · exact (h.o r hr).on hb (Nat.le_refl _)
    · simp at hr
      subst hr
      exact o.weaken (by omega)
  · refine List.pairwise_append.2 ⟨h.d, by simp, fun r hr q hq x hx => ?_⟩
    simp at hq
    subst hq
    intro hx'
    have h1 := ((h.o r hr).lt x hx).2
    have h2 := (o.lt x hx').1
    omega
theorem Mk.call1 {w W W' : World} {A Z C : Array Value} {TA TO : TypeId} {R : List (List Value × List Cel × (Nat → Prop))} (h : Mk w W A Z C TA TO R) (hb : Below W.heap.size W W') {u : Value} {c : Cel} {S : Nat → Prop} (o : Own W' W.heap.size u c S) : Mk w W' A Z C TA TO (R ++ [([u], [c], S)]) :=
  h.call hb (OwnL.cons o (OwnL.nil (S := fun _ => False) (fun _ h => h)) (fun _ _ h => h) (fun _ => by simp))
theorem Mk.num {w W : World} {A Z C : Array Value} {TA TO : TypeId} {R : List (List Value × List Cel × (Nat → Prop))} (h : Mk w W A Z C TA TO R) {v : Value} {c : Cel} (hv : ∀ base, Own W base v c (fun _ => False)) : Mk w W A Z C TA TO (R ++ [([v], [c], fun _ => False)]) := by
  refine ⟨h.a, h.z, h.c, h.b, fun r hr => ?_, ?_⟩
  · rcases List.mem_append.1 hr with hr | hr
    · exact h.o r hr
    · simp at hr
      subst hr
      exact OwnL.cons (hv _) (OwnL.nil (S := fun _ => False) (fun _ h => h)) (fun _ h => h.elim) (fun _ => by simp)
  · refine List.pairwise_append.2 ⟨h.d, by simp, fun r hr q hq x hx => ?_⟩
    simp at hq
    subst hq
    exact fun h => h
theorem owns_all {W : World} {b : Nat} : ∀ {R : List (List Value × List Cel × (Nat → Prop))}, (∀ r ∈ R, OwnL W b r.1 r.2.1 r.2.2) → R.Pairwise (fun p q => ∀ x, p.2.2 x → ¬ q.2.2 x) → OwnL W b (R.flatMap (·.1)) (R.flatMap (·.2.1)) (fun x => ∃ r ∈ R, r.2.2 x)
  | [], _, _ => OwnL.nil (fun x h => by simp at h)
  | r :: R, h, hd => by
    have hp := List.pairwise_cons.1 hd
    have h1 := OwnL.app (h r (by simp)) (owns_all (fun q hq => h q (by simp [hq])) hp.2) (fun x hx ⟨q, hq, hx'⟩ => hp.1 q hq x hx hx')
    obtain ⟨l, Ss, g1, g2, g3⟩ := h1
    refine ⟨l, Ss, g1, g2, fun x => ?_⟩
    exact Iff.trans (by simp) (g3 x)
theorem Mk.all {w W : World} {A Z C : Array Value} {TA TO : TypeId} {R : List (List Value × List Cel × (Nat → Prop))} (h : Mk w W A Z C TA TO R) : OwnL W w.heap.size (R.flatMap (·.1)) (R.flatMap (·.2.1)) (fun x => ∃ r ∈ R, r.2.2 x) := (owns_all h.o h.d).weaken (by omega)
def Yes (w : World) (e : Ending) (w' : World) : Prop := e = .returned (.bool true) ∧ Below w.heap.size w w'
/-- While two structs are compared: their boxes. -/
structure Two (w W : World) (A B : Array Value) (T : TypeId) : Prop where
  a : Box W w.heap.size A T
  b : Box W (w.heap.size + 1) B T
  on : Below w.heap.size w W
theorem two_new (w : World) (A B : Array Value) (T : TypeId) : Two w ((w.alloc (.cells A T)).alloc (.cells B T)) A B T := by
  refine ⟨(box_of w A T).alloc _, ?_, ((Below.refl _ w).alloc (Nat.le_refl _) _).alloc (by simp) _⟩
  have := box_of (w.alloc (.cells A T)) B T
  rwa [World.size_alloc] at this
theorem Two.call {w W W' : World} {A B : Array Value} {T : TypeId} (h : Two w W A B T) (hb : Below W.heap.size W W') : Two w W' A B T :=
  ⟨h.a.below hb h.a.lt, h.b.below hb h.b.lt, h.on.trans (hb.mono h.on.size)⟩
end Go.Proofs.YtkbodiggdajbeaaDoor

/- Data that came in, of any length; how great it is. No program. -/
namespace Go.Proofs.YtkbodiggdajbeaaDoor
open Go.ChangeShapes Go.WideShapes Go.ChangeAt Go.RowKit Go.Joins

/-- Data that came in: lists of any length. -/
inductive In (w : World) : Value → Cel → Prop
  | i (x : Int) : In w (.int .i64 x) (.i x)
  | b (x : Bool) : In w (.bool x) (.b x)
  | s (x : ByteArray) : In w (.string x) (.s x)
  | l (a : Option Addr) (T : TypeId) (k n c : Nat) (cs : List Cel) (vs : List Value) (h1 : vs.length = n * k) (h2 : cs.length = n * k) (hn : n ≤ 9223372036854775807)
      (h3 : n = 0 ∨ ∃ b o, a = some ⟨b, o, none⟩ ∧ ∀ j, j < n * k → w.cell? ⟨b, o + j, none⟩ = vs[j]?) (h4 : ∀ (j : Nat) (v : Value) (c : Cel), vs[j]? = some v → cs[j]? = some c → In w v c) : In w (.slice a n c) (.l T k n cs)
def InL (w : World) (vs : List Value) (cs : List Cel) : Prop := vs.length = cs.length ∧ ∀ (j : Nat) (v : Value) (c : Cel), vs[j]? = some v → cs[j]? = some c → In w v c
theorem In.on {w w' : World} {v : Value} {c : Cel} (h : In w v c) {B : Nat} (hb : Below B w w') (hB : w.heap.size ≤ B) : In w' v c := by
  induction h with
  | i x => exact .i x
  | b x => exact .b x
  | s x => exact .s x
  | l a T k n c cs vs h1 h2 hn h3 h4 ih =>
    refine .l a T k n c cs vs h1 h2 hn ?_ ih
    rcases h3 with h3 | ⟨b, o, e, g⟩
    · exact .inl h3
    · refine .inr ⟨b, o, e, fun j hj => ?_⟩
      have h5 := g j hj
      have h6 : w.cell? ⟨b, o + j, none⟩ = some (vs[j]'(by omega)) := by rw [h5, List.getElem?_eq_getElem (by omega)]
      rw [hb.cell (show b < B from Nat.lt_of_lt_of_le (World.block_lt_of_cell? w _ h6) hB)]
      exact h5
theorem InL.on {w w' : World} {vs : List Value} {cs : List Cel} (h : InL w vs cs) {B : Nat} (hb : Below B w w') (hB : w.heap.size ≤ B) : InL w' vs cs :=
  ⟨h.1, fun j v c hv hc => (h.2 j v c hv hc).on hb hB⟩
theorem big_mem : ∀ {cs : List Cel} {j : Nat} {c : Cel}, cs[j]? = some c → c.big ≤ bigL cs
  | [], _, _, h => by simp at h
  | d :: cs, 0, c, h => by simp at h; subst h; simp [bigL]
  | d :: cs, j + 1, c, h => by
    have := big_mem (cs := cs) (j := j) (by simpa using h)
    simp only [bigL]; omega
/-- What came in and is not too great can be read. -/
theorem In.at {w : World} {v : Value} {c : Cel} (h : In w v c) (hb : c.big ≤ 2097152) : At false w v c := by
  induction h with
  | i x => exact .i x
  | b x => exact .b x
  | s x => exact .s x
  | l a T k n c cs vs h1 h2 hn h3 h4 ih =>
    simp only [Cel.big] at hb
    exact .l a T k n c cs vs h1 h2 (by omega) (fun h => by cases h) h3 fun j v c hv hc => ih j v c hv hc (by have := big_mem hc; omega)
theorem InL.at {w : World} {vs : List Value} {cs : List Cel} (h : InL w vs cs) (hb : bigL cs ≤ 2097152) : AtL false w vs cs :=
  ⟨h.1, fun j v c hv hc => (h.2 j v c hv hc).at (by have := big_mem hc; omega)⟩
theorem InL.nil {w : World} : InL w [] [] := ⟨rfl, fun j v c hv _ => by simp at hv⟩
theorem InL.cons {w : World} {v : Value} {c : Cel} {vs : List Value} {cs : List Cel} (h : In w v c) (hs : InL w vs cs) : InL w (v :: vs) (c :: cs) := by
  refine ⟨by simp [hs.1], fun j v' c' hv hc => ?_⟩
  cases j with
  | zero => simp at hv hc; subst hv hc; exact h
  | succ j => simp at hv hc; exact hs.2 j v' c' hv hc
theorem InL.nilE {w : World} {vs : List Value} (h : InL w vs []) : vs = [] := List.length_eq_zero_iff.1 h.1
theorem InL.consE {w : World} {vs : List Value} {c : Cel} {cs : List Cel} (h : InL w vs (c :: cs)) : ∃ v vs', vs = v :: vs' ∧ In w v c ∧ InL w vs' cs := by
  match vs, h with
  | [], h => have := h.1; simp at this
  | v :: vs', h => exact ⟨v, vs', rfl, h.2 0 v c rfl rfl, ⟨by have := h.1; simpa using this, fun j v' c' hv hc => h.2 (j + 1) v' c' (by simpa using hv) (by simpa using hc)⟩⟩
theorem In.int {w : World} {v : Value} {x : Int} (h : In w v (.i x)) : v = .int .i64 x := by cases h; rfl
theorem In.bool {w : World} {v : Value} {x : Bool} (h : In w v (.b x)) : v = .bool x := by cases h; rfl
theorem In.str {w : World} {v : Value} {x : ByteArray} (h : In w v (.s x)) : v = .string x := by cases h; rfl
theorem In.openL {w : World} {v : Value} {T : TypeId} {k n : Nat} {cs : List Cel} (h : In w v (.l T k n cs)) : ∃ (a : Option Addr) (c : Nat) (vs : List Value), v = .slice a n c ∧ vs.length = n * k ∧ cs.length = n * k ∧ n ≤ 9223372036854775807 ∧
    (n = 0 ∨ ∃ b o, a = some ⟨b, o, none⟩ ∧ ∀ j, j < n * k → w.cell? ⟨b, o + j, none⟩ = vs[j]?) ∧ ∀ (j : Nat) (v : Value) (c : Cel), vs[j]? = some v → cs[j]? = some c → In w v c := by
  cases h with
  | l a T k n c cs vs h1 h2 hn h3 h4 => exact ⟨a, c, vs, rfl, h1, h2, hn, h3, h4⟩
theorem rowIn {w : World} {k n j : Nat} {cs : List Cel} {vs : List Value} (h1 : vs.length = n * k) (h2 : cs.length = n * k) (h4 : ∀ (j : Nat) (v : Value) (c : Cel), vs[j]? = some v → cs[j]? = some c → In w v c) (hj : j < n) : InL w ((vs.drop (j * k)).take k) (row cs k j) := by
  have hle : j * k + k ≤ n * k := by rw [← Nat.succ_mul]; exact Nat.mul_le_mul_right k hj
  refine ⟨by rw [rowL_len h2 hj, List.length_take, List.length_drop, h1]; omega, fun i v c hv hc => ?_⟩
  have hi : i < k := by have := (List.getElem?_eq_some_iff.1 hc).1; rw [rowL_len h2 hj] at this; exact this
  rw [row_at hi] at hc
  rw [List.getElem?_take_of_lt hi, List.getElem?_drop] at hv
  exact h4 _ v c hv hc
def Ty.flat : Ty → Bool
  | .i => true
  | .b => true
  | _ => false
theorem bigL_zero : ∀ {cs : List Cel}, (∀ (j : Nat) (c : Cel), cs[j]? = some c → c.big = 0) → bigL cs = 0
  | [], _ => rfl
  | c :: cs, h => by
    have h0 := h 0 c rfl
    have h1 := bigL_zero (cs := cs) fun j c' hc => h (j + 1) c' (by simpa using hc)
    simp only [bigL]; omega
theorem big_flat {T : TypeId} {k n : Nat} {cs : List Cel} {fs : List Ty} (h : Has (.l T k n cs) (.l T k fs)) (hf : fs.all Ty.flat = true) : bigL cs = 0 := by
  cases h with
  | l _ _ _ _ _ hk h1 h2 =>
    refine bigL_zero fun j c hc => ?_
    have hj : j < n * k := by have := (List.getElem?_eq_some_iff.1 hc).1; omega
    have hk0 : 0 < k := by
      rcases Nat.eq_zero_or_pos k with h0 | h0
      · rw [h0] at hj; simp at hj
      · exact h0
    have hm : j % k < fs.length := by rw [hk]; exact Nat.mod_lt _ hk0
    have ht : fs[j % k]? = some (fs[j % k]'hm) := List.getElem?_eq_getElem hm
    have h3 := h2 j c _ hc ht
    have h4 : Ty.flat (fs[j % k]'hm) = true := (List.all_eq_true.1 hf) _ (List.getElem_mem hm)
    revert h3 h4
    generalize fs[j % k]'hm = t
    intro h3 h4
    cases h3 <;> simp [Ty.flat, Cel.big] at h4 ⊢
def Left (w : World) (m : Nat) (l : Int) (e : Ending) (w' : World) : Prop := Below w.heap.size w w' ∧ ((∃ r : Int, e = .returned (.int .i64 r) ∧ (m : Int) ≤ l ∧ r = l - (m : Int)) ∨ (e = .returned (.int .i64 (-1)) ∧ l < (m : Int)))
/-- While a struct is gone through: its box. -/
structure One (w W : World) (A : Array Value) (T : TypeId) : Prop where
  a : Box W w.heap.size A T
  on : Below w.heap.size w W
theorem one_new (w : World) (A : Array Value) (T : TypeId) : One w (w.alloc (.cells A T)) A T := ⟨box_of w A T, (Below.refl _ w).alloc (Nat.le_refl _) _⟩
theorem One.call {w W W' : World} {A : Array Value} {T : TypeId} (h : One w W A T) (hb : Below W.heap.size W W') : One w W' A T := ⟨h.a.below hb h.a.lt, h.on.trans (hb.mono h.on.size)⟩
end Go.Proofs.YtkbodiggdajbeaaDoor

/- Data that is marked in its place: what a call writes into the lists it owns. No program. -/
namespace Go.Proofs.YtkbodiggdajbeaaDoor
open Go.ChangeShapes Go.WideShapes Go.ChangeAt Go.RowKit Go.Joins

/-- Nothing was turned but blocks of S. -/
structure Kept (S : Nat → Prop) (w w' : World) : Prop where
  on : Below 0 w w'
  oth : ∀ x, x < w.heap.size → ¬ S x → w'.heap[x]? = w.heap[x]?
theorem Kept.refl (S : Nat → Prop) (w : World) : Kept S w w := ⟨Below.refl _ _, fun _ _ _ => rfl⟩
theorem Kept.trans {S : Nat → Prop} {w w1 w2 : World} (h : Kept S w w1) (h' : Kept S w1 w2) : Kept S w w2 :=
  ⟨h.on.trans h'.on, fun x hx hS => (h'.oth x (Nat.lt_of_lt_of_le hx h.on.size) hS).trans (h.oth x hx hS)⟩
theorem Kept.mono {S S' : Nat → Prop} {w w' : World} (h : Kept S w w') (hS : ∀ x, S x → S' x) : Kept S' w w' := ⟨h.on, fun x hx hn => h.oth x hx fun hs => hn (hS x hs)⟩
theorem Kept.set {S : Nat → Prop} {w w' : World} (h : Kept S w w') {g i : Nat} (hg : S g) (v : Value) : Kept S w (w'.setCell ⟨g, i, none⟩ v) :=
  ⟨h.on.setCell (Nat.zero_le _) v, fun x hx hn => (Below.heap_setCell _ _ _ _ (fun e => by
    have e : x = g := e
    exact hn (by rw [e]; exact hg))).trans (h.oth x hx hn)⟩
theorem Kept.grow {S : Nat → Prop} {w w' w2 : World} (h : Kept S w w') (hb : Below w'.heap.size w' w2) : Kept S w w2 :=
  ⟨h.on.trans (hb.mono (Nat.zero_le _)), fun x hx hn => (hb.block x (Nat.lt_of_lt_of_le hx h.on.size)).trans (h.oth x hx hn)⟩
theorem Kept.below {S : Nat → Prop} {w w' : World} (h : Kept S w w') {B : Nat} (hS : ∀ x, S x → B ≤ x) (hB : B ≤ w.heap.size) : Below B w w' :=
  ⟨h.on.os, h.on.tape, h.on.output, h.on.size, fun k hk => h.oth k (by omega) fun hs => by have := hS k hs; omega⟩
theorem cell_ne (w : World) {g i j : Nat} (h : i ≠ j) (u : Value) : (w.setCell ⟨g, i, none⟩ u).cell? ⟨g, j, none⟩ = w.cell? ⟨g, j, none⟩ := World.cell?_setCell_other _ _ _ _ (fun e => by simp only [Addr.mk.injEq] at e; omega)
/-- A cell that is a list: what is marked within it. -/
theorem Own.lensL {w : World} {base : Nat} {g n cap : Nat} {T : TypeId} {k : Nat} {cs : List Cel} {S : Nat → Prop} (h : Own w base (.slice (some ⟨g, 0, none⟩) n cap) (.l T k n cs) S) {j : Nat} {c : Cel} (hc : cs[j]? = some c) :
    ∃ v Sj, w.cell? ⟨g, j, none⟩ = some v ∧ Own w base v c Sj ∧ (∀ x, Sj x → S x) ∧ ∀ w' c', Own w' base v c' Sj → (∀ x, S x → ¬ Sj x → w'.heap[x]? = w.heap[x]?) → Own w' base (.slice (some ⟨g, 0, none⟩) n cap) (.l T k n (cs.set j c')) S := by
  cases h with
  | l g cap T k n cs vs S Ss h1 h2 hn h4 h5 h6 h7 =>
    have hj : j < cs.length := (List.getElem?_eq_some_iff.1 hc).1
    have hl := h1.1
    have hv : vs[j]? = some (vs[j]'(by omega)) := List.getElem?_eq_getElem (by omega)
    have sub : ∀ i x, i < n * k → Ss i x → S x := fun i x hi hx => (h7 x).2 (.inr ⟨i, hi, hx⟩)
    refine ⟨_, Ss j, own_cellV h1 hv, h4 j _ _ hv hc, fun x => sub j x (by omega), fun w' c' ho he => ?_⟩
    refine .l g cap T k n _ vs S Ss (owns_heap h1 fun x hx => ?_) (by simpa using h2) hn (fun i v d hvi hdi => ?_) h5 h6 h7
    · cases hx
      exact he g ((h7 g).2 (.inl rfl)) (h5 j)
    · by_cases hij : j = i
      · subst hij
        rw [List.getElem?_set_self hj] at hdi
        cases hdi
        rw [hv] at hvi
        cases hvi
        exact ho
      · rw [List.getElem?_set_ne hij] at hdi
        have hi : i < n * k := by have := (List.getElem?_eq_some_iff.1 hvi).1; omega
        exact (h4 i v d hvi hdi).heap fun x hx => he x (sub i x hi hx) (h6 i j x (Ne.symm hij) hx)
/-- A cell that is a number or a flag, written. -/
theorem Own.put {w : World} {base : Nat} {g n cap : Nat} {T : TypeId} {k : Nat} {cs : List Cel} {S : Nat → Prop} (h : Own w base (.slice (some ⟨g, 0, none⟩) n cap) (.l T k n cs) S) {j : Nat} {c c' : Cel} (hc : cs[j]? = some c) (h0 : ∀ v Sj, Own w base v c Sj → ∀ x, ¬ Sj x) {u : Value} (hu : ∀ w' Sj, (∀ x, ¬ Sj x) → Own w' base u c' Sj) :
    Own (w.setCell ⟨g, j, none⟩ u) base (.slice (some ⟨g, 0, none⟩) n cap) (.l T k n (cs.set j c')) S := by
  cases h with
  | l g cap T k n cs vs S Ss h1 h2 hn h4 h5 h6 h7 =>
    have hj : j < cs.length := (List.getElem?_eq_some_iff.1 hc).1
    have hl := h1.1
    have hv : vs[j]? = some (vs[j]'(by omega)) := List.getElem?_eq_getElem (by omega)
    have hz := h0 _ _ (h4 j _ _ hv hc)
    refine .l g cap T k n _ (vs.set j u) S Ss (h1.stored j u).1 (by simpa using h2) hn (fun i v d hvi hdi => ?_) h5 h6 h7
    by_cases hij : j = i
    · subst hij
      rw [List.getElem?_set_self (by omega)] at hvi hdi
      cases hvi
      cases hdi
      exact hu _ _ hz
    · rw [List.getElem?_set_ne hij] at hvi hdi
      exact (h4 i v d hvi hdi).heap fun x hx => Below.heap_setCell _ _ _ _ (fun e => h5 i (by have e : x = g := e; rw [← e]; exact hx))
theorem own_i {w : World} {base : Nat} {y : Int} (v : Value) (Sj : Nat → Prop) (h : Own w base v (.i y) Sj) : ∀ x, ¬ Sj x := by cases h; assumption
theorem own_b {w : World} {base : Nat} {y : Bool} (v : Value) (Sj : Nat → Prop) (h : Own w base v (.b y) Sj) : ∀ x, ¬ Sj x := by cases h; assumption
theorem Own.putI {w : World} {base : Nat} {g n cap : Nat} {T : TypeId} {k : Nat} {cs : List Cel} {S : Nat → Prop} (h : Own w base (.slice (some ⟨g, 0, none⟩) n cap) (.l T k n cs) S) {j : Nat} {y : Int} (hc : cs[j]? = some (.i y)) (z : Int) :
    Own (w.setCell ⟨g, j, none⟩ (.int .i64 z)) base (.slice (some ⟨g, 0, none⟩) n cap) (.l T k n (cs.set j (.i z))) S := h.put hc own_i fun _ _ hS => .i z _ hS
theorem Own.putB {w : World} {base : Nat} {g n cap : Nat} {T : TypeId} {k : Nat} {cs : List Cel} {S : Nat → Prop} (h : Own w base (.slice (some ⟨g, 0, none⟩) n cap) (.l T k n cs) S) {j : Nat} {y : Bool} (hc : cs[j]? = some (.b y)) (z : Bool) :
    Own (w.setCell ⟨g, j, none⟩ (.bool z)) base (.slice (some ⟨g, 0, none⟩) n cap) (.l T k n (cs.set j (.b z))) S := h.put hc own_b fun _ _ hS => .b z _ hS
/-- What a function that marks answers. -/
def Marked (tx : Int → ByteArray) (w : World) (base : Nat) (v : Value) (c : Cel) (S : Nat → Prop) (q : Int) (e : Ending) (w' : World) : Prop := e = .returned (.int .i64 (q + (c.cnt : Int))) ∧ Own w' base v (c.mark tx q) S ∧ Kept S w w'
theorem over_mid : ∀ (C A B : List Cel), C.length ≤ B.length → over (A ++ B) A.length C = A ++ C ++ B.drop C.length
  | [], A, B, _ => by simp [over]
  | c :: C, A, B, h => by
    match B, h with
    | [], h => simp at h
    | b :: B, h =>
      simp only [over]
      have e : (A ++ b :: B).set A.length c = (A ++ [c]) ++ B := by simp
      rw [e]
      have := over_mid C (A ++ [c]) B (by simpa using h)
      rw [List.length_append] at this
      simp only [List.length_singleton] at this
      rw [this]
      simp
theorem mark_row (tx : Int → ByteArray) {cs : List Cel} {k n j : Nat} (hl : cs.length = n * k) (hj : j < n) (q : Int) :
    over (markL tx (cs.take (j * k)) q ++ cs.drop (j * k)) (j * k) (markL tx (row cs k j) (q + (cntL (cs.take (j * k)) : Int))) = markL tx (cs.take ((j + 1) * k)) q ++ cs.drop ((j + 1) * k) := by
  have hle : j * k + k ≤ n * k := by rw [← Nat.succ_mul]; exact Nat.mul_le_mul_right k hj
  have hA : (markL tx (cs.take (j * k)) q).length = j * k := by rw [markL_len, List.length_take]; omega
  have := over_mid (markL tx (row cs k j) (q + (cntL (cs.take (j * k)) : Int))) (markL tx (cs.take (j * k)) q) (cs.drop (j * k)) (by rw [markL_len, rowL_len hl hj, List.length_drop]; omega)
  rw [hA] at this
  rw [this, markL_len, rowL_len hl hj, List.drop_drop, ← Nat.succ_mul, row_split, markL_append]
theorem mark_at (tx : Int → ByteArray) {cs : List Cel} {p i : Nat} (hp : p ≤ cs.length) (q : Int) : (markL tx (cs.take p) q ++ cs.drop p)[p + i]? = cs[p + i]? := by
  have hA : (markL tx (cs.take p) q).length = p := by rw [markL_len, List.length_take]; omega
  rw [List.getElem?_append_right (by omega), hA, List.getElem?_drop]
  congr 1; omega
theorem cnt_split {cs : List Cel} {k j : Nat} : cntL (cs.take ((j + 1) * k)) = cntL (cs.take (j * k)) + cntL (row cs k j) := by rw [row_split, cntL_append]
theorem cnt_le {cs : List Cel} {p : Nat} : cntL (cs.take p) ≤ cntL cs := by
  have := cntL_append (cs.take p) (cs.drop p)
  rw [List.take_append_drop] at this
  omega
theorem markL_drop (tx : Int → ByteArray) (cs : List Cel) (p : Nat) (q : Int) : (markL tx cs q).drop p = markL tx (cs.drop p) (q + (cntL (cs.take p) : Int)) := by
  by_cases hp : p ≤ cs.length
  · have h := markL_append tx (cs.take p) (cs.drop p) q
    rw [List.take_append_drop] at h
    rw [h, List.drop_left' (by rw [markL_len, List.length_take]; omega)]
  · rw [List.drop_eq_nil_of_le (by rw [markL_len]; omega), List.drop_eq_nil_of_le (by omega)]
    rfl
theorem markL_take (tx : Int → ByteArray) (cs : List Cel) (p : Nat) (q : Int) : (markL tx cs q).take p = markL tx (cs.take p) q := by
  by_cases hp : p ≤ cs.length
  · have h := markL_append tx (cs.take p) (cs.drop p) q
    rw [List.take_append_drop] at h
    rw [h, List.take_left' (by rw [markL_len, List.length_take]; omega)]
  · rw [List.take_of_length_le (by rw [markL_len]; omega), List.take_of_length_le (by omega)]
theorem row_mark (tx : Int → ByteArray) (cs : List Cel) (k j : Nat) (q : Int) : row (markL tx cs q) k j = markL tx (row cs k j) (q + (cntL (cs.take (j * k)) : Int)) := by
  unfold row
  rw [markL_drop, markL_take]
def SaysD (w : World) (x : Int) (e : Ending) (w' : World) : Prop := e = .returned (.int .i64 x) ∧ Below w.heap.size w w'
end Go.Proofs.YtkbodiggdajbeaaDoor

/- A struct whose lists are marked: its parts, one by one. No program. -/
namespace Go.Proofs.YtkbodiggdajbeaaDoor
open Go.ChangeShapes Go.WideShapes Go.ChangeAt Go.RowKit Go.Joins

/-- A struct's lists, marked; its own numbers stay. -/
def topL (tx : Int → ByteArray) : List Cel → Int → List Cel
  | [], _ => []
  | .l T k n cs :: r, q => .l T k n (markL tx cs q) :: topL tx r (q + (cntL cs : Int))
  | .i x :: r, q => .i x :: topL tx r q
  | .b x :: r, q => .b x :: topL tx r q
  | .s x :: r, q => .s x :: topL tx r q
def tcnt : List Cel → Nat
  | [] => 0
  | .l _ _ _ cs :: r => cntL cs + tcnt r
  | .i _ :: r => tcnt r
  | .b _ :: r => tcnt r
  | .s _ :: r => tcnt r
theorem OwnL.set {w : World} {b : Nat} {vs : List Value} {cs : List Cel} {S S' : Nat → Prop} (h : OwnL w b vs cs S) (hS : ∀ x, S x ↔ S' x) : OwnL w b vs cs S' := by
  obtain ⟨l, Ss, h1, h2, h3⟩ := h
  exact ⟨l, Ss, h1, h2, fun x => (hS x).symm.trans (h3 x)⟩
theorem OwnL.none {w : World} {b : Nat} {S : Nat → Prop} (h : OwnL w b [] [] S) : ∀ x, ¬ S x := fun x hx => by
  obtain ⟨_, Ss, _, _, h3⟩ := h
  obtain ⟨j, hj, _⟩ := (h3 x).1 hx
  simp at hj
theorem OwnL.one {w : World} {b : Nat} {v : Value} {c : Cel} {S : Nat → Prop} (h : OwnL w b [v] [c] S) : Own w b v c S := by
  obtain ⟨S0, S1, h0, h1, -, hS⟩ := h.parts
  exact h0.set fun x => ⟨fun hx => (hS x).2 (.inl hx), fun hx => ((hS x).1 hx).resolve_right (h1.none x)⟩
theorem Own.oneL {w : World} {b : Nat} {v : Value} {c : Cel} {S : Nat → Prop} (h : Own w b v c S) : OwnL w b [v] [c] S :=
  OwnL.cons h (OwnL.nil (S := fun _ => False) (fun _ h => h)) (fun _ _ h => h) (fun _ => by simp)
theorem OwnL.cut : ∀ {cs1 : List Cel} {vs1 vs2 : List Value} {cs2 : List Cel} {w : World} {b : Nat} {S : Nat → Prop}, vs1.length = cs1.length → OwnL w b (vs1 ++ vs2) (cs1 ++ cs2) S → ∃ S1 S2, OwnL w b vs1 cs1 S1 ∧ OwnL w b vs2 cs2 S2 ∧ (∀ x, S1 x → ¬ S2 x) ∧ ∀ x, S x ↔ S1 x ∨ S2 x
  | [], vs1, vs2, cs2, w, b, S, hl, h => by
    obtain rfl : vs1 = [] := List.length_eq_zero_iff.1 hl
    exact ⟨fun _ => False, S, OwnL.nil (fun _ h => h), h, fun _ h => h.elim, fun x => by simp⟩
  | c :: cs1, [], vs2, cs2, w, b, S, hl, h => by simp at hl
  | c :: cs1, v :: vs1, vs2, cs2, w, b, S, hl, h => by
    obtain ⟨S0, S', h0, h1, hd, hS⟩ := OwnL.parts h
    obtain ⟨S1, S2, g1, g2, gd, gS⟩ := OwnL.cut (cs1 := cs1) (vs1 := vs1) (by simpa using hl) h1
    refine ⟨fun x => S0 x ∨ S1 x, S2, OwnL.cons h0 g1 (fun x hx hx' => hd x hx ((gS x).2 (.inl hx'))) (fun _ => Iff.rfl), g2, fun x hx hx' => ?_, fun x => ?_⟩
    · rcases hx with hx | hx
      · exact hd x hx ((gS x).2 (.inr hx'))
      · exact gd x hx hx'
    · rw [hS x, gS x, or_assoc]
abbrev Part := List Value × List Cel × (Nat → Prop)
theorem owns_cut {w : World} {b : Nat} : ∀ {G : List (List Value × List Cel)} {S : Nat → Prop}, (∀ p ∈ G, p.1.length = p.2.length) → OwnL w b (G.flatMap (·.1)) (G.flatMap (·.2)) S →
    ∃ R : List Part, R.map (fun r => (r.1, r.2.1)) = G ∧ (∀ r ∈ R, OwnL w b r.1 r.2.1 r.2.2) ∧ R.Pairwise (fun p q => ∀ x, p.2.2 x → ¬ q.2.2 x) ∧ ∀ x, S x ↔ ∃ r ∈ R, r.2.2 x
  | [], S, _, h => ⟨[], rfl, fun r hr => by simp at hr, List.Pairwise.nil, fun x => ⟨fun hx => absurd hx (OwnL.none h x), fun ⟨r, hr, _⟩ => by simp at hr⟩⟩
  | (vs, cs) :: G, S, hG, h => by
    obtain ⟨S1, S2, g1, g2, gd, gS⟩ := OwnL.cut (hG (vs, cs) (by simp)) (by simpa using h)
    obtain ⟨R, e, o, d, u⟩ := owns_cut (fun p hp => hG p (by simp [hp])) g2
    refine ⟨(vs, cs, S1) :: R, by simp [e], fun r hr => ?_, List.pairwise_cons.2 ⟨fun r hr x hx hx' => gd x hx ((u x).2 ⟨r, hr, hx'⟩), d⟩, fun x => ?_⟩
    · rcases List.mem_cons.1 hr with rfl | hr
      · exact g1
      · exact o r hr
    · rw [gS x, u x]; simp
/-- While a struct's lists are marked. -/
structure Mg (w W : World) (base : Nat) (S : Nat → Prop) (A : Array Value) (T : TypeId) (R : List Part) : Prop where
  a : Box W w.heap.size A T
  on : Below 0 w W
  oth : ∀ x, x < w.heap.size → ¬ S x → W.heap[x]? = w.heap[x]?
  lt : ∀ x, S x → x < w.heap.size
  o : ∀ r ∈ R, OwnL W base r.1 r.2.1 r.2.2
  d : R.Pairwise (fun p q => ∀ x, p.2.2 x → ¬ q.2.2 x)
  u : ∀ x, S x ↔ ∃ r ∈ R, r.2.2 x
theorem mg_new {w : World} {base : Nat} {S : Nat → Prop} {R : List Part} (A : Array Value) (T : TypeId) (o : ∀ r ∈ R, OwnL w base r.1 r.2.1 r.2.2) (d : R.Pairwise (fun p q => ∀ x, p.2.2 x → ¬ q.2.2 x)) (u : ∀ x, S x ↔ ∃ r ∈ R, r.2.2 x) : Mg w (w.alloc (.cells A T)) base S A T R := by
  have hb : Below w.heap.size w (w.alloc (.cells A T)) := (Below.refl _ w).alloc (Nat.le_refl _) _
  exact ⟨box_of w A T, hb.mono (Nat.zero_le _), fun x hx _ => hb.block x hx, fun x hx => by
    obtain ⟨r, hr, hx⟩ := (u x).1 hx
    exact ((o r hr).lt x hx).2, fun r hr => (o r hr).on hb (Nat.le_refl _), d, u⟩
theorem Mg.step {w W W' : World} {base : Nat} {S Sf : Nat → Prop} {A : Array Value} {T : TypeId} {pre post : List Part} {vs : List Value} {cs cs' : List Cel} (h : Mg w W base S A T (pre ++ (vs, cs, Sf) :: post)) (ho : OwnL W' base vs cs' Sf) (hk : Kept Sf W W') : Mg w W' base S A T (pre ++ (vs, cs', Sf) :: post) := by
  have sub : ∀ x, Sf x → S x := fun x hx => (h.u x).2 ⟨(vs, cs, Sf), by simp, hx⟩
  have lt : ∀ x, x < w.heap.size → x < W.heap.size := fun x hx => Nat.lt_of_lt_of_le hx h.on.size
  have hd := List.pairwise_append.1 h.d
  have hd2 := List.pairwise_cons.1 hd.2.1
  refine ⟨?_, h.on.trans hk.on, fun x hx hn => (hk.oth x (lt x hx) fun hs => hn (sub x hs)).trans (h.oth x hx hn), h.lt, fun r hr => ?_, ?_, fun x => ?_⟩
  · exact (hk.oth _ h.a.lt fun hs => by have := h.lt _ (sub _ hs); omega).trans h.a
  · have keep : r ∈ pre ++ (vs, cs, Sf) :: post → (∀ x, r.2.2 x → ¬ Sf x) → OwnL W' base r.1 r.2.1 r.2.2 := fun hr hn => (h.o r hr).heap fun x hx => hk.oth x ((h.o r hr).lt x hx).2 (hn x hx)
    rcases List.mem_append.1 hr with hr | hr
    · exact keep (List.mem_append.2 (.inl hr)) (fun x hx => hd.2.2 r hr _ (List.mem_cons_self ..) x hx)
    · rcases List.mem_cons.1 hr with rfl | hr
      · exact ho
      · exact keep (List.mem_append.2 (.inr (List.mem_cons_of_mem _ hr))) (fun x hx hs => hd2.1 r hr x hs hx)
  · refine List.pairwise_append.2 ⟨hd.1, List.pairwise_cons.2 ⟨fun r hr => hd2.1 r hr, hd2.2⟩, fun r hr q hq => ?_⟩
    rcases List.mem_cons.1 hq with rfl | hq
    · exact hd.2.2 r hr (vs, cs, Sf) (List.mem_cons_self ..)
    · exact hd.2.2 r hr q (List.mem_cons_of_mem _ hq)
  · rw [h.u x]
    constructor
    · rintro ⟨r, hr, hx⟩
      rcases List.mem_append.1 hr with hr | hr
      · exact ⟨r, List.mem_append.2 (.inl hr), hx⟩
      · rcases List.mem_cons.1 hr with rfl | hr
        · exact ⟨(vs, cs', Sf), by simp, hx⟩
        · exact ⟨r, List.mem_append.2 (.inr (List.mem_cons_of_mem _ hr)), hx⟩
    · rintro ⟨r, hr, hx⟩
      rcases List.mem_append.1 hr with hr | hr
      · exact ⟨r, List.mem_append.2 (.inl hr), hx⟩
      · rcases List.mem_cons.1 hr with rfl | hr
        · exact ⟨(vs, cs, Sf), by simp, hx⟩
        · exact ⟨r, List.mem_append.2 (.inr (List.mem_cons_of_mem _ hr)), hx⟩
theorem Mg.at {w W : World} {base : Nat} {S Sf : Nat → Prop} {A : Array Value} {T : TypeId} {pre post : List Part} {vs : List Value} {cs : List Cel} (h : Mg w W base S A T (pre ++ (vs, cs, Sf) :: post)) : OwnL W base vs cs Sf := h.o (vs, cs, Sf) (by simp)
theorem Mg.all {w W : World} {base : Nat} {S : Nat → Prop} {A : Array Value} {T : TypeId} {R : List Part} (h : Mg w W base S A T R) : OwnL W base (R.flatMap (·.1)) (R.flatMap (·.2.1)) S ∧ Kept S w W := ⟨(owns_all h.o h.d).set fun x => (h.u x).symm, h.on, h.oth⟩
def MarkedL (tx : Int → ByteArray) (w : World) (base : Nat) (vs : List Value) (cs : List Cel) (S : Nat → Prop) (q : Int) (e : Ending) (w' : World) : Prop := e = .returned (.int .i64 (q + (tcnt cs : Int))) ∧ OwnL w' base vs (topL tx cs q) S ∧ Kept S w w'
end Go.Proofs.YtkbodiggdajbeaaDoor

/- The laws' own functions on data. -/
namespace Go.Proofs.YtkbodiggdajbeaaDoor
open Go.ChangeShapes Go.WideShapes Go.ChangeAt Go.RowKit Go.Joins
set_option linter.unusedSimpArgs false

def tyOp : List Ty := [(.i), (.i), (.i)]
def tyPair : List Ty := [(.i), (.i)]
def tyHelp : List Ty := [(.i), (.i), (.i), (.i)]
def tyEntry : List Ty := [(.i), (.i), (.i)]
def tyWord : List Ty := [(.i), (.i), (.i)]
def tyRes : List Ty := [(.i), (.l 3 1 [.i])]
def tyRows : List Ty := [(.l 3 1 [.i]), (.i)]
def tyCall : List Ty := [(.i), (.i), (.i), (.i), (.i), (.i), (.i), (.i), (.l 3 1 [.i])]
end Go.Proofs.YtkbodiggdajbeaaDoor

/- Data that came in, opened by its shape. -/
namespace Go.Proofs.YtkbodiggdajbeaaDoor
open Go.ChangeShapes Go.WideShapes Go.ChangeAt Go.RowKit Go.Joins

/-- The type's cells have these shapes. -/
inductive Flat (P : Program) : TypeId → List Ty → Prop
  | i (t : TypeId) (h : P.underlying t = some (.int .i64)) : Flat P t [.i]
  | b (t : TypeId) (h : P.underlying t = some .bool) : Flat P t [.b]
  | s (t : TypeId) (h : P.underlying t = some .string) : Flat P t [.s]
  | l (t e T : TypeId) (k : Nat) (fs : List Ty) (h : P.underlying t = some (.slice e)) (hk : fs.length = k) (hk0 : 0 < k) (hc : P.cellsOf e = k) (hf : Flat P e fs) : Flat P t [.l T k fs]
  | st (t : TypeId) (Fs : Array Field) (gs : List (List Ty)) (h : P.underlying t = some (.struct Fs)) (hl : gs.length = Fs.size) (hc : P.cellsOf t = gs.flatten.length)
      (ho : ∀ (i : Nat) (f : Field) (g : List Ty), Fs[i]? = some f → gs[i]? = some g → f.offset = (gs.take i).flatten.length ∧ P.cellsOf f.type = g.length) (hf : ∀ (i : Nat) (f : Field) (g : List Ty), Fs[i]? = some f → gs[i]? = some g → Flat P f.type g) : Flat P t gs.flatten
theorem InL.app {w : World} : ∀ {vs : List Value} {cs : List Cel} {vs' : List Value} {cs' : List Cel}, InL w vs cs → InL w vs' cs' → InL w (vs ++ vs') (cs ++ cs')
  | vs, [], _, _, h, h' => by obtain rfl := h.nilE; exact h'
  | vs, c :: cs, _, _, h, h' => by
    obtain ⟨v, vs, rfl, h0, h1⟩ := h.consE
    exact InL.cons h0 (InL.app h1 h')
theorem HasL.mk {c : Cel} {t : Ty} {cs : List Cel} {fs : List Ty} (h : Has c t) (hs : HasL cs fs) : HasL (c :: cs) (t :: fs) := by
  refine ⟨by simp [hs.1], fun j c' t' hc ht => ?_⟩
  cases j with
  | zero => simp at hc ht; subst hc ht; exact h
  | succ j => simp at hc ht; exact hs.2 j c' t' hc ht
theorem HasL.none : HasL [] [] := ⟨rfl, fun j c t hc _ => by simp at hc⟩
theorem HasL.app : ∀ {cs : List Cel} {fs : List Ty} {cs' : List Cel} {fs' : List Ty}, HasL cs fs → HasL cs' fs' → HasL (cs ++ cs') (fs ++ fs')
  | cs, [], _, _, h, h' => by obtain rfl := h.nil; exact h'
  | cs, t :: fs, _, _, h, h' => by
    obtain ⟨c, cs, rfl, h0, h1⟩ := h.cons
    exact HasL.mk h0 (HasL.app h1 h')
/-- The numbers are such as an int can be. -/
inductive WfC : Cel → Prop
  | i (x : Int) (h : (Lit.int .i64 x).wf = true) : WfC (.i x)
  | b (x : Bool) : WfC (.b x)
  | s (x : ByteArray) : WfC (.s x)
  | l (T : TypeId) (k n : Nat) (cs : List Cel) (h : ∀ (j : Nat) (c : Cel), cs[j]? = some c → WfC c) : WfC (.l T k n cs)
def WfL (ds : List Cel) : Prop := ∀ (j : Nat) (c : Cel), ds[j]? = some c → WfC c
theorem WfL.nil : WfL [] := fun j c h => by simp at h
theorem WfL.cons {c : Cel} {ds : List Cel} (h : WfC c) (hs : WfL ds) : WfL (c :: ds) := fun j d hd => by
  cases j with
  | zero => simp at hd; subst hd; exact h
  | succ j => exact hs j d (by simpa using hd)
theorem WfL.app {ds es : List Cel} (h : WfL ds) (h' : WfL es) : WfL (ds ++ es) := fun j c hc => by
  by_cases hj : j < ds.length
  · rw [List.getElem?_append_left hj] at hc; exact h j c hc
  · rw [List.getElem?_append_right (by omega)] at hc; exact h' _ c hc
theorem parts_in {W : World} : ∀ (gs : List (List Ty)) (cs : List Value), cs.length = gs.flatten.length → (∀ (i : Nat) (g : List Ty), gs[i]? = some g → ∃ d, InL W ((cs.drop (gs.take i).flatten.length).take g.length) d ∧ HasL d g ∧ WfL d) → ∃ ds, InL W cs ds ∧ HasL ds gs.flatten ∧ WfL ds
  | [], cs, hl, _ => by
    obtain rfl : cs = [] := List.length_eq_zero_iff.1 (by simpa using hl)
    exact ⟨[], InL.nil, HasL.none, WfL.nil⟩
  | g :: gs, cs, hl, h => by
    simp only [List.flatten_cons, List.length_append] at hl
    obtain ⟨d, h1, h2, h3⟩ := h 0 g rfl
    obtain ⟨ds, g1, g2, g3⟩ := parts_in gs (cs.drop g.length) (by rw [List.length_drop]; omega) (fun i g' hg => by
      have := h (i + 1) g' (by simpa using hg)
      simpa [List.drop_drop] using this)
    refine ⟨d ++ ds, ?_, ?_, h3.app g3⟩
    · have := InL.app h1 g1
      simpa using this
    · simpa using HasL.app h2 g2
theorem flat_len {α : Type} {f : Nat → List α} {k : Nat} : ∀ (n : Nat), (∀ i, i < n → (f i).length = k) → ((List.range n).flatMap f).length = n * k
  | 0, _ => by simp
  | n + 1, h => by
    rw [List.range_succ, List.flatMap_append, List.length_append, flat_len n (fun i hi => h i (by omega))]
    simp [h n (by omega), Nat.succ_mul]
theorem flat_at {α : Type} {f : Nat → List α} {k : Nat} : ∀ (n : Nat), (∀ i, i < n → (f i).length = k) → ∀ i r, i < n → r < k → ((List.range n).flatMap f)[i * k + r]? = (f i)[r]?
  | 0, _, i, _, hi, _ => by omega
  | n + 1, h, i, r, hi, hr => by
    have hl := flat_len n (fun i hi => h i (by omega)) (f := f)
    rw [List.range_succ, List.flatMap_append]
    by_cases hin : i < n
    · have hle : i * k + k ≤ n * k := by rw [← Nat.succ_mul]; exact Nat.mul_le_mul_right k hin
      rw [List.getElem?_append_left (by omega)]
      exact flat_at n (fun i hi => h i (by omega)) i r hin hr
    · obtain rfl : i = n := by omega
      rw [List.getElem?_append_right (by omega), hl, Nat.add_sub_cancel_left]
      simp
theorem spot_none {w : World} {a : Addr} {v : Value} (h : w.cell? a = some v) : a.spot = none := by
  unfold World.cell? at h
  split at h
  · split at h
    · cases h
    · rename_i hs
      cases e : a.spot with
      | none => rfl
      | some x => rw [e] at hs; exact absurd rfl hs
  · cases h
theorem open_flat {H : Type} {enc : TypeId × Value → H} {P : Program} {W : World} {base : Nat} {held : Bool} {t : TypeId} {fs : List Ty} (hf : Flat P t fs) : ∀ {fuel : Nat} {cs : List Value} {x : DataW H × List MemPlace}, DataW.trod enc P W base (fun _ => true) held fuel t cs = some x → ∃ ds, InL W cs ds ∧ HasL ds fs ∧ WfL ds := by
  induction hf with
  | i t h =>
    intro fuel cs x hx
    obtain ⟨z, rfl, _, hz⟩ := DataW.trod_int h hx
    exact ⟨[.i z], InL.cons (.i z) InL.nil, HasL.mk (.i z) HasL.none, WfL.cons (.i z hz) WfL.nil⟩
  | b t h =>
    intro fuel cs x hx
    obtain ⟨z, rfl, _⟩ := DataW.trod_bool h hx
    exact ⟨[.b z], InL.cons (.b z) InL.nil, HasL.mk (.b z) HasL.none, WfL.cons (.b z) WfL.nil⟩
  | s t h =>
    intro fuel cs x hx
    obtain ⟨z, rfl, _, _⟩ := DataW.trod_string h hx
    exact ⟨[.s z], InL.cons (.s z) InL.nil, HasL.mk (.s z) HasL.none, WfL.cons (.s z) WfL.nil⟩
  | l t e T k fs h hk hk0 hc hf ih =>
    intro fuel cs x hx
    rcases Go.Deep.open_slice h hx with ⟨rfl, _⟩ | ⟨a, len, cap, m, fu, D, Pl, rfl, hb, hl, hm, hmm, _, hx⟩
    · exact ⟨[.l T k 0 []], InL.cons (.l none T k 0 0 [] [] (by simp) (by simp) (by omega) (.inl rfl) (fun j v c hv _ => by simp at hv)) InL.nil, HasL.mk (.l T k 0 [] fs hk (by simp) (fun j c t hc _ => by simp at hc)) HasL.none, WfL.cons (.l T k 0 [] (fun j c h => by simp at h)) WfL.nil⟩
    · have hlm : len ≤ m := by rw [hmm]; split <;> omega
      have each : ∀ i, i < len → ∃ z : List Value × List Cel, z.1.length = k ∧ (∀ r, r < k → W.cell? (a.add (i * k + r)) = z.1[r]?) ∧ InL W z.1 z.2 ∧ HasL z.2 fs ∧ WfL z.2 := by
        intro i hi
        obtain ⟨cs', h1, h2⟩ := hx i (by omega)
        rw [hc] at h1
        obtain ⟨_, hlen, hcell⟩ := World.cells?_some h1
        obtain ⟨ds, g1, g2, g3⟩ := ih h2
        refine ⟨(cs', ds), hlen, fun r hr => ?_, g1, g2, g3⟩
        have := hcell r (by omega)
        rw [Go.Deep.add_add] at this
        rw [this, List.getElem?_eq_getElem (by omega)]
      obtain ⟨z, hz⟩ := Go.Deep.choose_lt each
      have l1 : ∀ i, i < len → (z i).1.length = k := fun i hi => (hz i hi).1
      have l2 : ∀ i, i < len → (z i).2.length = k := fun i hi => by rw [(hz i hi).2.2.2.1.1, hk]
      refine ⟨[.l T k len ((List.range len).flatMap fun i => (z i).2)], InL.cons (.l (some a) T k len cap _ ((List.range len).flatMap fun i => (z i).1) (flat_len len l1) (flat_len len l2) (by unfold maxLen at hm; omega) ?_ (fun j v c hv hc => ?_)) InL.nil, HasL.mk (.l T k len _ fs hk (flat_len len l2) (fun j c t hc ht => ?_)) HasL.none, WfL.cons (.l T k len _ (fun j c hc => ?_)) WfL.nil⟩
      · by_cases h0 : len = 0
        · exact .inl h0
        · have hc0 := (hz 0 (by omega)).2.1 0 (by omega)
          rw [List.getElem?_eq_getElem (by rw [l1 0 (by omega)]; omega)] at hc0
          have hs := spot_none hc0
          obtain ⟨bl, off, sp⟩ := a
          have hs : sp = none := by simpa [Addr.add] using hs
          subst hs
          refine .inr ⟨bl, off, rfl, fun j hj => ?_⟩
          have hjd : j = (j / k) * k + j % k := by rw [Nat.mul_comm]; exact (Nat.div_add_mod j k).symm
          have hd : j / k < len := Nat.div_lt_of_lt_mul (by rwa [Nat.mul_comm])
          have hm' : j % k < k := Nat.mod_lt _ (by omega)
          have := (hz (j / k) hd).2.1 (j % k) hm'
          rw [← hjd] at this
          rw [show (⟨bl, off, none⟩ : Addr).add j = ⟨bl, off + j, none⟩ by simp [Addr.add]] at this
          rw [this]
          conv => rhs; rw [hjd]
          exact (flat_at len l1 _ _ hd hm').symm
      · have hj : j < len * k := by have := (List.getElem?_eq_some_iff.1 hv).1; rwa [flat_len len l1] at this
        have hjd : j = (j / k) * k + j % k := by rw [Nat.mul_comm]; exact (Nat.div_add_mod j k).symm
        have hd : j / k < len := Nat.div_lt_of_lt_mul (by rwa [Nat.mul_comm])
        have hm' : j % k < k := Nat.mod_lt _ hk0
        rw [hjd, flat_at len l1 _ _ hd hm'] at hv
        rw [hjd, flat_at len l2 _ _ hd hm'] at hc
        exact (hz (j / k) hd).2.2.1.2 _ v c hv hc
      · have hj : j < len * k := by have := (List.getElem?_eq_some_iff.1 hc).1; rwa [flat_len len l2] at this
        have hjd : j = (j / k) * k + j % k := by rw [Nat.mul_comm]; exact (Nat.div_add_mod j k).symm
        have hd : j / k < len := Nat.div_lt_of_lt_mul (by rwa [Nat.mul_comm])
        have hm' : j % k < k := Nat.mod_lt _ hk0
        rw [hjd, flat_at len l2 _ _ hd hm'] at hc
        exact (hz (j / k) hd).2.2.2.1.2 _ c t hc ht
      · have hj : j < len * k := by have := (List.getElem?_eq_some_iff.1 hc).1; rwa [flat_len len l2] at this
        have hjd : j = (j / k) * k + j % k := by rw [Nat.mul_comm]; exact (Nat.div_add_mod j k).symm
        have hd : j / k < len := Nat.div_lt_of_lt_mul (by rwa [Nat.mul_comm])
        have hm' : j % k < k := Nat.mod_lt _ hk0
        rw [hjd, flat_at len l2 _ _ hd hm'] at hc
        exact (hz (j / k) hd).2.2.2.2 _ c hc
  | st t Fs gs h hl hc ho hf ih =>
    intro fuel cs x hx
    obtain ⟨xs, n, _, _, hlen, hxl, hxf⟩ := DataW.trod_struct h hx
    refine parts_in gs cs (by omega) fun i g hg => ?_
    have hi : i < Fs.size := by have := (List.getElem?_eq_some_iff.1 hg).1; omega
    have hF : Fs[i]? = some Fs[i] := Array.getElem?_eq_getElem hi
    have h1 := hxf i _ hF
    rw [(ho i _ g hF hg).1, (ho i _ g hF hg).2, List.getElem?_eq_getElem (by omega)] at h1
    exact ih i _ g hF hg h1
/-- A struct that came in, opened. -/
theorem open_st {H : Type} {enc : TypeId × Value → H} {P : Program} {W : World} {base b0 : Nat} {held : Bool} {t : TypeId} {Fs : Array Field} {fs : List Ty} {v : Value} {d : DataW H} {p : List MemPlace} (hu : P.underlying t = some (.struct Fs)) (hf : Flat P t fs)
    (hv : Value.okWide P W .any b0 t v) (h : DataW.Trod enc P W base (fun _ => true) held t v d p) : ∃ vs ds, v = .agg vs.toArray ∧ InL W vs ds ∧ HasL ds fs ∧ WfL ds := by
  obtain ⟨cs, rfl, _⟩ := okWide_struct hu hv
  obtain ⟨fuel, hx⟩ := h
  obtain ⟨ds, h1, h2, h3⟩ := open_flat hf hx
  exact ⟨cs.toList, ds, by simp, by simpa [Value.cells] using h1, h2, h3⟩
end Go.Proofs.YtkbodiggdajbeaaDoor

/- Which entry of a list is at a place: the first; no program. -/
namespace Go.Proofs.YtkbodiggdajbeaaDoor

def idxF (es : List Int) (at_ : Int) : Nat → Nat → Nat
  | 0, k => k
  | f + 1, k => if es.getD (k * 3) 0 = at_ then k else idxF es at_ f (k + 1)
theorem idxF_eq {es : List Int} {at_ : Int} : ∀ {f k K : Nat}, k ≤ K → K ≤ k + f → (∀ i, k ≤ i → i < K → es.getD (i * 3) 0 ≠ at_) → (K < k + f → es.getD (K * 3) 0 = at_) → idxF es at_ f k = K
  | 0, k, K, h1, h2, _, _ => by unfold idxF; omega
  | f + 1, k, K, h1, h2, h3, h4 => by
    unfold idxF
    by_cases e : k = K
    · subst e
      rw [if_pos (h4 (by omega))]
    · rw [if_neg (h3 k (Nat.le_refl _) (by omega))]
      exact idxF_eq (by omega) (by omega) (fun i hi => h3 i (by omega)) (fun h => h4 (by omega))
/-- The place in the list of the first entry at at_; n: there is none. -/
def idxE (es : List Int) (n : Nat) (at_ : Int) : Nat := idxF es at_ n 0
theorem idxE_eq {es : List Int} {at_ : Int} {n k : Nat} (h1 : k ≤ n) (h2 : ∀ i, i < k → es.getD (i * 3) 0 ≠ at_) (h3 : k < n → es.getD (k * 3) 0 = at_) : idxE es n at_ = k :=
  idxF_eq (Nat.zero_le _) (by omega) (fun i _ hi => h2 i hi) (fun h => h3 (by omega))
def entM (es : List Int) (n : Nat) (at_ : Int) : Int × Int × Int × Bool :=
  if idxE es n at_ < n then (es.getD (idxE es n at_ * 3) 0, es.getD (idxE es n at_ * 3 + 1) 0, es.getD (idxE es n at_ * 3 + 2) 0, true) else (0, 0, 0, false)
theorem entM_yes {es : List Int} {at_ : Int} {n k : Nat} (h : idxE es n at_ = k) (hk : k < n) : entM es n at_ = (es.getD (k * 3) 0, es.getD (k * 3 + 1) 0, es.getD (k * 3 + 2) 0, true) := by
  unfold entM; rw [h, if_pos hk]
theorem entM_no {es : List Int} {at_ : Int} {n : Nat} (h : idxE es n at_ = n) : entM es n at_ = (0, 0, 0, false) := by
  unfold entM; rw [h, if_neg (by omega)]
end Go.Proofs.YtkbodiggdajbeaaDoor

/- When a Desc is right: as the document says; no program. -/
namespace Go.Proofs.YtkbodiggdajbeaaDoor

/-- The entry at i is one that a Desc may have there. -/
def entOk (es : List Int) (i : Nat) : Prop :=
  (0 ≤ es.getD (i * 3) 0 ∧ es.getD (i * 3) 0 ≤ 19) ∧ (0 ≤ es.getD (i * 3 + 1) 0 ∧ es.getD (i * 3 + 1) 0 ≤ 1000) ∧ (0 ≤ es.getD (i * 3 + 2) 0 ∧ es.getD (i * 3 + 2) 0 ≤ 1000) ∧ (0 < i → es.getD ((i - 1) * 3) 0 < es.getD (i * 3) 0)
instance (es : List Int) (i : Nat) : Decidable (entOk es i) := by unfold entOk; infer_instance
/-- What the next place must be at least. -/
def leastE (es : List Int) (k : Nat) : Int := if k = 0 then 0 else es.getD ((k - 1) * 3) 0 + 1
theorem leastE_ok {es : List Int} {k : Nat} (h : ∀ i, i < k → entOk es i) : 0 ≤ leastE es k ∧ leastE es k ≤ 20 := by
  unfold leastE
  split
  · omega
  · have := h (k - 1) (by omega)
    unfold entOk at this
    omega
theorem entOk_iff {es : List Int} {k : Nat} (h : ∀ i, i < k → entOk es i) : entOk es k ↔ (inB (es.getD (k * 3) 0) (leastE es k) 19 = true ∧ inB (es.getD (k * 3 + 1) 0) 0 1000 = true ∧ inB (es.getD (k * 3 + 2) 0) 0 1000 = true) := by
  have h0 := leastE_ok h
  unfold inB entOk
  simp only [decide_eq_true_eq]
  have e : leastE es k ≤ es.getD (k * 3) 0 ↔ (0 ≤ es.getD (k * 3) 0 ∧ (0 < k → es.getD ((k - 1) * 3) 0 < es.getD (k * 3) 0)) := by
    constructor
    · intro h1
      refine ⟨by omega, fun hk => ?_⟩
      unfold leastE at h1
      rw [if_neg (by omega)] at h1
      omega
    · rintro ⟨h1, h2⟩
      unfold leastE
      split
      · exact h1
      · have := h2 (by omega); omega
  rw [e]
  constructor
  · rintro ⟨⟨a, b⟩, c, d, f⟩; exact ⟨⟨⟨a, f⟩, b⟩, c, d⟩
  · rintro ⟨⟨⟨a, f⟩, b⟩, c, d⟩; exact ⟨⟨a, b⟩, c, d, f⟩
theorem entOk_low {es : List Int} : ∀ {k : Nat}, (∀ i, i < k → entOk es i) → ∀ i, i < k → (i : Int) ≤ es.getD (i * 3) 0
  | k, h, 0, hi => by have := (h 0 hi).1.1; simpa using this
  | k, h, i + 1, hi => by
    have ih := entOk_low h i (by omega)
    have h2 := (h (i + 1) hi).2.2.2 (by omega)
    rw [Nat.add_sub_cancel] at h2
    omega
theorem entOk_few {es : List Int} {k : Nat} (h : ∀ i, i < k → entOk es i) : k ≤ 20 := by
  by_cases hk : k = 0
  · omega
  · have h1 := entOk_low h (k - 1) (by omega)
    have h2 := (h (k - 1) (by omega)).1.2
    omega
def descOkM (sq st : Int) (en : Nat) (es : List Int) (cd : Int) (rn : Nat) : Bool :=
  if sq = 0 then decide (st = 0 ∧ en = 0 ∧ cd = 0 ∧ rn = 0) else (inB sq 1 1000000 && (inB st 1 3 && decide (∀ i, i < en → entOk es i)))
end Go.Proofs.YtkbodiggdajbeaaDoor

/- What words and marks mean: as the document says; no program. Descs in memory. -/
namespace Go.Proofs.YtkbodiggdajbeaaDoor
open Go.RowKit

/-- What a Desc holds. -/
structure DK where
  sq : Int
  st : Int
  en : Nat
  es : List Int
  cd : Int
  rn : Nat
  rs : List Int
instance : Inhabited DK := ⟨⟨0, 0, 0, [], 0, 0, []⟩⟩
def dk (ds : List DK) (i : Nat) : DK := ds.getD i default
/-- What a word means. -/
def wordM (x t s : Int) (ds : List DK) (at_ : Int) : Int :=
  if t = 0 then x else if inB t 1 ds.length = true then
    (if (dk ds (t - 1).toNat).sq = s ∧ (dk ds (t - 1).toNat).st = 2 then (entM (dk ds (t - 1).toNat).es (dk ds (t - 1).toNat).en at_).2.2.1 else (entM (dk ds (t - 1).toNat).es (dk ds (t - 1).toNat).en at_).2.1) else 0
def valM (fs : List Int) (m : Nat) (ds : List DK) (at_ : Int) : Int :=
  if 0 ≤ at_ ∧ at_ < (m : Int) then wordM (fs.getD (at_.toNat * 3) 0) (fs.getD (at_.toNat * 3 + 1) 0) (fs.getD (at_.toNat * 3 + 2) 0) ds at_ else 0
/-- The five cells of a Desc. -/
def Five (w : World) (b p : Nat) (d : DK) (ea : Option Addr) (ec : Nat) (ra : Option Addr) (rc : Nat) : Prop :=
  w.cell? ⟨b, p, none⟩ = some (I d.sq) ∧ w.cell? ⟨b, p + 1, none⟩ = some (I d.st) ∧ w.cell? ⟨b, p + 2, none⟩ = some (.slice ea d.en ec) ∧ w.cell? ⟨b, p + 3, none⟩ = some (I d.cd) ∧ w.cell? ⟨b, p + 4, none⟩ = some (.slice ra d.rn rc)
theorem Five.below {w w' : World} {b p : Nat} {d : DK} {ea : Option Addr} {ec : Nat} {ra : Option Addr} {rc : Nat} (h : Five w b p d ea ec ra rc) {B : Nat} (hb : Below B w w') (hB : w.heap.size ≤ B) : Five w' b p d ea ec ra rc := by
  have hlt : b < B := Nat.lt_of_lt_of_le (World.block_lt_of_cell? w _ h.1) hB
  obtain ⟨h0, h1, h2, h3, h4⟩ := h
  exact ⟨(hb.cell hlt).trans h0, (hb.cell hlt).trans h1, (hb.cell hlt).trans h2, (hb.cell hlt).trans h3, (hb.cell hlt).trans h4⟩
/-- n Descs lie there. -/
def DescAt (w : World) (a : Option Addr) (n : Nat) (ds : List DK) : Prop :=
  ds.length = n ∧ n ≤ 1048576 ∧ (n = 0 ∨ ∃ b o, a = some ⟨b, o, none⟩ ∧ ∀ i, i < n → ∃ ea ec ra rc, Five w b (o + i * 5) (dk ds i) ea ec ra rc ∧ TripAt w ea (dk ds i).en (dk ds i).es ∧ IntAt w ra (dk ds i).rn (dk ds i).rs)
theorem DescAt.below {w w' : World} {a : Option Addr} {n : Nat} {ds : List DK} (h : DescAt w a n ds) {B : Nat} (hb : Below B w w') (hB : w.heap.size ≤ B) : DescAt w' a n ds := by
  obtain ⟨h1, h2, h3 | ⟨b, o, h3, h4⟩⟩ := h
  · exact ⟨h1, h2, .inl h3⟩
  · refine ⟨h1, h2, .inr ⟨b, o, h3, fun i hi => ?_⟩⟩
    obtain ⟨ea, ec, ra, rc, h5, h6, h7⟩ := h4 i hi
    exact ⟨ea, ec, ra, rc, h5.below hb hB, h6.below hb hB, h7.below hb hB⟩
end Go.Proofs.YtkbodiggdajbeaaDoor

/- A word: as a value; the law's own function on one. -/
namespace Go.Proofs.YtkbodiggdajbeaaDoor
open Go.ChangeShapes Go.WideShapes Go.ChangeAt Go.RowKit

abbrev WordV (x y z : Int) : Value := .agg #[.int .i64 x, .int .i64 y, .int .i64 z]
end Go.Proofs.YtkbodiggdajbeaaDoor

/- Lists of words: the law's own functions on them. -/
namespace Go.Proofs.YtkbodiggdajbeaaDoor
open Go.ChangeShapes Go.WideShapes Go.ChangeAt Go.RowKit

end Go.Proofs.YtkbodiggdajbeaaDoor

/- An entry: as a value; the law's own function on one. -/
namespace Go.Proofs.YtkbodiggdajbeaaDoor
open Go.ChangeShapes Go.WideShapes Go.ChangeAt Go.RowKit

abbrev EntryV (x y z : Int) : Value := .agg #[.int .i64 x, .int .i64 y, .int .i64 z]
end Go.Proofs.YtkbodiggdajbeaaDoor

/- Lists of entries: the law's own functions on them. -/
namespace Go.Proofs.YtkbodiggdajbeaaDoor
open Go.ChangeShapes Go.WideShapes Go.ChangeAt Go.RowKit

end Go.Proofs.YtkbodiggdajbeaaDoor

/- The laws' own helpers toIntS and eqIntS, walked: a new list of the same numbers; whether two lists of numbers are alike. -/
namespace Go.Proofs.YtkbodiggdajbeaaDoor
open Go.ChangeShapes Go.WideShapes Go.ChangeAt Go.RowKit

set_option maxHeartbeats 400000 in
theorem eqIntS_any (a1 a2 : Option Addr) (n1 n2 c1 c2 : Nat) (xs ys : List Int) (w : World) (h1 : IntAt w a1 n1 xs) (h2 : IntAt w a2 n2 ys) :
    Calls Tryd.prog 30 #[.slice a1 n1 c1, .slice a2 n2 c2] w fun e w' => e = .returned (.bool (decide (xs = ys))) ∧ ∃ m, w' = w.drewN m := by
  obtain ⟨l1, b1, h1⟩ := h1
  obtain ⟨l2, b2, h2⟩ := h2
  have H1 : Hid (n1 = 0 ∨ ∃ b o, a1 = some ⟨b, o, none⟩ ∧ ∀ i, i < n1 → w.cell? ⟨b, o + i, none⟩ = some (I (xs.getD i 0))) := h1
  have H2 : Hid (n2 = 0 ∨ ∃ b o, a2 = some ⟨b, o, none⟩ ∧ ∀ i, i < n2 → w.cell? ⟨b, o + i, none⟩ = some (I (ys.getD i 0))) := h2
  have L1 : Hid (xs.length = n1) := l1
  have L2 : Hid (ys.length = n2) := l2
  clear h1 h2 l1 l2
  by_cases hn : n1 = n2
  · subst hn
    go_enter Tryd.func30, Tryd.ntmps30
    go_wp2
    go_loopw [5] (fun i wr => ∃ k m : Nat, k ≤ n1 ∧ i = .int .i64 k ∧ xs.take k = ys.take k ∧ wr = w.drewN m) (fun i _ => n1 - (intOf i).toNat)
    case atStart => exact ⟨0, 0, Nat.zero_le _, rfl, rfl, rfl⟩
    case round =>
      obtain ⟨k, m, hk, rfl, ht, rfl⟩ := hrel
      have HT : Hid (xs.take k = ys.take k) := ht
      clear ht
      by_cases hlt : k < n1
      · rcases H1.out with h | ⟨p1, o1, rfl, g1⟩
        · omega
        rcases H2.out with h | ⟨p2, o2, rfl, g2⟩
        · omega
        obtain ⟨x, hx⟩ : ∃ x, xs.getD k 0 = x := ⟨_, rfl⟩
        obtain ⟨y, hy⟩ : ∃ y, ys.getD k 0 = y := ⟨_, rfl⟩
        have e1 := g1 k hlt
        have e2 := g2 k hlt
        rw [hx] at e1
        rw [hy] at e2
        have HX : Hid (xs.getD k 0 = x) := hx
        have HY : Hid (ys.getD k 0 = y) := hy
        clear g1 g2 hx hy
        go_wp2
        go_region
        go_wp2
        · have hd : (x != y) = true := by assumption
          go_ret
          refine ⟨?_, m + 1, rfl⟩
          have e : xs ≠ ys := fun e => by rw [← HX.out, ← HY.out, e] at hd; simp at hd
          simp [e]
        · have hd : (x != y) = false := by assumption
          have l1 := L1.out
          have l2 := L2.out
          exact ⟨⟨k + 1, m + 1, by omega, by go_num, take_nextI (by omega) (by omega) HT.out (by rw [HX.out, HY.out]; simpa using hd), rfl⟩, by simp [intOf]; omega⟩
      · go_wp2
        go_ret
        refine ⟨?_, m, rfl⟩
        have e : xs = ys := by
          have := HT.out
          rwa [List.take_of_length_le (by have := L1.out; omega), List.take_of_length_le (by have := L2.out; omega)] at this
        simp [e]
  · have hz : ((n1 : Int) != (n2 : Int)) = true := by simp; omega
    go_enter Tryd.func30, Tryd.ntmps30
    go_wp2
    go_ret
    refine ⟨?_, 0, rfl⟩
    have e : xs ≠ ys := fun e => hn (by rw [← L1.out, ← L2.out, e])
    simp [e]

/-- What has been written of a list so far: the first k of xs, noughts behind them. -/
def upto (xs : List Int) (k n : Nat) : List Int := xs.take k ++ List.replicate (n - k) 0
theorem upto_step {xs : List Int} {k n : Nat} (hx : xs.length = n) (h : k < n) : (((upto xs k n).map I).set k (I (xs.getD k 0))) = (upto xs (k + 1) n).map I := by
  rw [← List.map_set]
  congr 1
  unfold upto
  have hl : (xs.take k).length = k := by rw [List.length_take]; omega
  rw [List.set_append_right _ _ (by omega), hl, Nat.sub_self, show n - k = (n - (k + 1)) + 1 by omega, List.replicate_succ, List.set_cons_zero,
    List.take_succ_eq_append_getElem (show k < xs.length by omega), List.append_assoc]
  simp [List.getD, show k < xs.length by omega]
theorem upto_end {xs : List Int} {n : Nat} (hx : xs.length = n) : upto xs n n = xs := by
  unfold upto
  rw [List.take_of_length_le (by omega)]; simp

set_option maxHeartbeats 400000 in
theorem toIntS_any (a : Option Addr) (n c : Nat) (xs : List Int) (w : World) (h : IntAt w a n xs) :
    Calls Tryd.prog 28 #[.slice a n c] w fun e w' => e = .returned (.slice (some ⟨w.heap.size, 0, none⟩) n n) ∧ w'.ownsRow w.heap.size 3 1 (.slice (some ⟨w.heap.size, 0, none⟩) n n) n (xs.map I) ∧ Below w.heap.size w w' := by
  have HA := h
  have HH : Hid (IntAt w a n xs) := HA
  obtain ⟨l1, b1, _⟩ := h
  have L1 : Hid (xs.length = n) := l1
  clear l1 HA
  obtain ⟨i0, hi, hz0, hz1, hz2⟩ := info_parts infoInt
  go_enter Tryd.func28, Tryd.ntmps28
  go_wp2_with (at_make; refine wpList_make_full _ rfl _ _ 24 rfl w.heap.size 3 i0 (.int .i64 0) 1 Tryd.underlying24 hi hz0 hz1 .i64 .i64 _ _ n rfl rfl rfl rfl (by rw [hz2]; omega) (by unfold maxLen; omega) (Nat.le_refl _) ?_; intro w1 own1 grow1)
  have own0 : w1.ownsRow w.heap.size 3 1 (.slice (some ⟨w.heap.size, 0, none⟩) n n) n ((upto xs 0 n).map I) := by
    have e : (madeCells (Value.int .i64 0).cells (n * 1)).toList = (upto xs 0 n).map I := by
      rw [Nat.mul_one]
      exact (toList_madeCells_one _ _).trans (by simp [upto])
    rwa [e] at own1
  have hb1 : Below w.heap.size w w1 := (Below.refl _ _).grown grow1 (Nat.le_refl _) (fun k e => by cases e)
  clear own1 grow1
  go_loopw [4] (fun i wr => ∃ k : Nat, k ≤ n ∧ i = .int .i64 (k : Int) ∧ wr.ownsRow w.heap.size 3 1 (.slice (some ⟨w.heap.size, 0, none⟩) n n) n ((upto xs k n).map I) ∧ Below w.heap.size w wr) (fun i _ => n - (intOf i).toNat)
  case atStart => exact ⟨0, Nat.zero_le _, rfl, own0, hb1⟩
  case round =>
    obtain ⟨k, hk, rfl, ho, hb⟩ := hrel
    clear own0 hb1
    by_cases hlt : k < n
    · rcases (HH.out.below hb (Nat.le_refl _)).2.2 with h0 | ⟨p1, o1, rfl, g1⟩
      · omega
      have e1 := g1 k hlt
      obtain ⟨x, hx⟩ : ∃ x, xs.getD k 0 = x := ⟨_, rfl⟩
      rw [hx] at e1
      have hst := ho.stored k (I x)
      rw [← hx, upto_step L1.out hlt, hx] at hst
      have HS : Hid ((wr.setCell ⟨w.heap.size, k, none⟩ (I x)).ownsRow w.heap.size 3 1 (.slice (some ⟨w.heap.size, 0, none⟩) n n) n ((upto xs (k + 1) n).map I)) := hst.1
      have hf := ho.frozenAt k
      obtain ⟨u, hc⟩ := own_cell ho hlt
      clear g1 hx hst ho
      go_wp2
      go_roundw
      case rel => exact ⟨k + 1, by omega, by go_num, HS.out, hb.setCell (Nat.le_refl _) _⟩
      case measure => simp [intOf]; omega
    · obtain rfl : k = n := by omega
      rw [upto_end L1.out] at ho
      go_wp2
      go_ret
      exact ⟨rfl, ho, hb⟩
end Go.Proofs.YtkbodiggdajbeaaDoor

/- The laws' own helpers for results, walked: toRes (a new result that reads alike), szRes, szRows told exactly, eqRes; a result that came in, opened. -/
namespace Go.Proofs.YtkbodiggdajbeaaDoor
open Go.ChangeShapes Go.WideShapes Go.ChangeAt Go.RowKit Go.Joins

set_option maxHeartbeats 1000000 in
theorem toRes_any (a : Option Addr) (n c : Nat) (st : Int) (xs : List Int) (w : World) (h : IntAt w a n xs) :
    Calls Tryd.prog 20 #[ResV st a n c] w fun e w' => e = .returned (ResV st (some ⟨w.heap.size + 3, 0, none⟩) n n) ∧ w'.ownsRow (w.heap.size + 3) 3 1 (.slice (some ⟨w.heap.size + 3, 0, none⟩) n n) n (xs.map I) ∧ Below w.heap.size w w' := by
  have HA : Hid (IntAt w a n xs) := h
  clear h
  go_enter Tryd.func20, Tryd.ntmps20
  go_wp2_with fail
  have hb0 : Below w.heap.size w (((w.alloc (.cells #[.int .i64 st, .slice a n c] 26)).alloc (.cells #[.int .i64 0, .slice none 0 0] 32)).alloc (.cells #[.int .i64 st, .slice none 0 0] 32)) :=
    (((Below.refl _ w).alloc (Nat.le_refl _) _).alloc (by simp) _).alloc (by simp; omega) _
  refine (toIntS_any a n c xs _ (HA.out.below hb0 (Nat.le_refl _))).mono ?_
  rintro e w1 ⟨rfl, own1, hb1⟩
  simp only [World.size_alloc] at own1 hb1
  have hs1 := hb1.size
  simp only [World.size_alloc] at hs1
  have c10 : w1.cell? ⟨w.heap.size + 1, 0, none⟩ = some (.int .i64 0) := by rw [hb1.cell (show w.heap.size + 1 < w.heap.size + 1 + 1 + 1 by omega)]; simp [World.cell?_alloc_past, World.cell?_alloc_at]
  have c11 : w1.cell? ⟨w.heap.size + 1, 1, none⟩ = some (.slice none 0 0) := by rw [hb1.cell (show w.heap.size + 1 < w.heap.size + 1 + 1 + 1 by omega)]; simp [World.cell?_alloc_past, World.cell?_alloc_at]
  have c20 : w1.cell? ⟨w.heap.size + 1 + 1, 0, none⟩ = some (.int .i64 st) := by rw [hb1.cell (show w.heap.size + 1 + 1 < w.heap.size + 1 + 1 + 1 by omega)]; simp [World.cell?_alloc_at]
  have c21 : w1.cell? ⟨w.heap.size + 1 + 1, 1, none⟩ = some (.slice none 0 0) := by rw [hb1.cell (show w.heap.size + 1 + 1 < w.heap.size + 1 + 1 + 1 by omega)]; simp [World.cell?_alloc_at]
  have f10 : w1.frozen? ⟨w.heap.size + 1, 0, none⟩ = false := by rw [hb1.frozen (show w.heap.size + 1 < w.heap.size + 1 + 1 + 1 by omega)]; simp [World.frozen?_alloc_past, World.frozen?_alloc_at]
  have f11 : w1.frozen? ⟨w.heap.size + 1, 1, none⟩ = false := by rw [hb1.frozen (show w.heap.size + 1 < w.heap.size + 1 + 1 + 1 by omega)]; simp [World.frozen?_alloc_past, World.frozen?_alloc_at]
  have f20 : w1.frozen? ⟨w.heap.size + 1 + 1, 0, none⟩ = false := by rw [hb1.frozen (show w.heap.size + 1 + 1 < w.heap.size + 1 + 1 + 1 by omega)]; simp [World.frozen?_alloc_at]
  have f21 : w1.frozen? ⟨w.heap.size + 1 + 1, 1, none⟩ = false := by rw [hb1.frozen (show w.heap.size + 1 + 1 < w.heap.size + 1 + 1 + 1 by omega)]; simp [World.frozen?_alloc_at]
  have hbw : Below w.heap.size w w1 := hb0.trans (hb1.mono (by omega))
  have HO : Hid (w1.ownsRow (w.heap.size + 1 + 1 + 1) 3 1 (.slice (some ⟨w.heap.size + 1 + 1 + 1, 0, none⟩) n n) n (xs.map I)) := own1
  clear hb0 hb1 own1
  go_wp2
  (try simp only [Exit.inBlock, Exit.then])
  refine bodyPost_ret (by simp [results, Tryd.results20, go_sem, c10, c11]; try rfl) rfl ?_
  exact ⟨rfl, ownsRow_setCell_below (ownsRow_setCell_below (ownsRow_setCell_below HO.out (by simp) _) (by simp) _) (by simp) _,
    ((hbw.setCell (by simp; omega) _).setCell (by simp) _).setCell (by simp) _⟩

theorem toRes_g (a : Option Addr) (n c : Nat) (st : Int) (xs : List Int) (w : World) (h : IntAt w a n xs) :
    Calls Tryd.prog 20 #[ResV st a n c] w fun e w' => ∃ g : Nat, e = .returned (ResV st (some ⟨g, 0, none⟩) n n) ∧ w.heap.size ≤ g ∧ w'.ownsRow g 3 1 (.slice (some ⟨g, 0, none⟩) n n) n (xs.map I) ∧ Below w.heap.size w w' :=
  (toRes_any a n c st xs w h).mono fun _ _ ⟨h1, h2, h3⟩ => ⟨_, h1, by omega, h2, h3⟩
theorem szRes_fits (a : Option Addr) (n c : Nat) (st left : Int) (w : World) (h0 : 0 ≤ left) (h1 : left ≤ 1048576) (hn : (n : Int) ≤ left) :
    Calls Tryd.prog 15 #[ResV st a n c, .int .i64 left] w fun e w' => e = .returned (.int .i64 (left - (n : Int))) ∧ Below w.heap.size w w' := by
  have h2 : ¬ (left - (n : Int) < 0) := by omega
  go_enter Tryd.func15, Tryd.ntmps15
  go_wp2
  go_ret
  exact ⟨rfl, (Below.refl _ _).alloc (Nat.le_refl _) _⟩
theorem szRes_big (a : Option Addr) (n c : Nat) (st left : Int) (w : World) (h0 : 0 ≤ left) (h1 : left ≤ 1048576) (hn : ¬ (n : Int) ≤ left) (hm : n ≤ 9223372036854775807) :
    Calls Tryd.prog 15 #[ResV st a n c, .int .i64 left] w fun e w' => e = .returned (.int .i64 (-1)) ∧ Below w.heap.size w w' := by
  have h2 : left - (n : Int) < 0 := by omega
  go_enter Tryd.func15, Tryd.ntmps15
  go_wp2
  go_ret
  exact ⟨rfl, (Below.refl _ _).alloc (Nat.le_refl _) _⟩

set_option maxHeartbeats 1000000 in
theorem eqRes_same (a1 a2 : Option Addr) (n1 n2 c1 c2 : Nat) (st : Int) (xs : List Int) (w : World) (h1 : IntAt w a1 n1 xs) (h2 : IntAt w a2 n2 xs) :
    Calls Tryd.prog 25 #[ResV st a1 n1 c1, ResV st a2 n2 c2] w fun e w' => e = .returned (.bool true) ∧ Below w.heap.size w w' := by
  have H1 : Hid (IntAt w a1 n1 xs) := h1
  have H2 : Hid (IntAt w a2 n2 xs) := h2
  clear h1 h2
  go_enter Tryd.func25, Tryd.ntmps25
  go_wp2_with fail
  have hb0 : Below w.heap.size w ((w.alloc (.cells #[.int .i64 st, .slice a1 n1 c1] 32)).alloc (.cells #[.int .i64 st, .slice a2 n2 c2] 32)) := ((Below.refl _ w).alloc (Nat.le_refl _) _).alloc (by simp) _
  refine (eqIntS_any a1 a2 n1 n2 c1 c2 xs xs _ (H1.out.below hb0 (Nat.le_refl _)) (H2.out.below hb0 (Nat.le_refl _))).mono ?_
  rintro e w1 ⟨rfl, m, rfl⟩
  have hb1 := below_drewN hb0 m
  clear hb0
  rw [show decide (xs = xs) = true from decide_eq_true rfl]
  go_wp2
  go_ret
  exact ⟨rfl, hb1⟩

theorem cellsRes : Tryd.prog.cellsOf 26 = 2 := by kernel_rfl
set_option maxRecDepth 100000 in
theorem open_res {H : Type} {enc : TypeId × Value → H} {W : World} {base b0 : Nat} {held : Bool} {v : Value} {d : DataW H} {p : List MemPlace}
    (hv : Value.okWide Tryd.prog W .any b0 26 v) (h : DataW.Trod enc Tryd.prog W base (fun _ => true) held 26 v d p) :
    ∃ (a : Option Addr) (n c : Nat) (st : Int) (xs : List Int), v = ResV st a n c ∧ n ≤ 9223372036854775807 ∧ (∀ x ∈ xs, (Lit.int .i64 x).wf = true) ∧ (n ≤ 1099511627776 → IntAt W a n xs) := by
  obtain ⟨v0, v1, y0, y1, m, rfl, rfl, rfl, h1, h0⟩ := open_agg2 Tryd.underlying26 (by kernel_rfl) cellsRes hv h
  obtain ⟨st, e1, rfl, w1⟩ := DataW.trod_int Tryd.underlying3 h1
  obtain rfl : v0 = .int .i64 st := by simpa using e1
  rcases open_ints Tryd.underlying24 Tryd.underlying3 (by kernel_rfl) h0 with ⟨hcs, _⟩ | ⟨x, l, cc, zs, hcs, _, hl, hm, hz, _, hcell, hwz⟩
  · obtain rfl : v1 = .slice none 0 0 := by simpa using hcs
    exact ⟨none, 0, 0, st, [], rfl, by omega, fun x hx => by simp at hx, fun _ => ⟨rfl, by omega, .inl rfl⟩⟩
  · obtain rfl : v1 = .slice (some x) l cc := by simpa using hcs
    refine ⟨some x, l, cc, st, zs.take l, rfl, by unfold maxLen at hm; omega, fun x hx => hwz x (List.mem_of_mem_take hx), fun hn => ⟨by simp at hz; rw [List.length_take]; omega, hn, ?_⟩⟩
    by_cases h0 : l = 0
    · exact .inl h0
    · simp at hz
      obtain ⟨b, o, rfl, hc⟩ := ints_at hcell (by omega)
      refine .inr ⟨b, o, rfl, fun i hi => ?_⟩
      rw [hc i (by omega)]
      simp [List.getD, hi]
end Go.Proofs.YtkbodiggdajbeaaDoor

/- Descs: as values; the laws' own functions on one. -/
namespace Go.Proofs.YtkbodiggdajbeaaDoor
open Go.ChangeShapes Go.WideShapes Go.ChangeAt Go.RowKit

/-- A Desc as a value: Seq, Status, List, Res's code and list. -/
abbrev DescV (sq st : Int) (ea : Option Addr) (en ec : Nat) (cd : Int) (ra : Option Addr) (rn rc : Nat) : Value := .agg #[.int .i64 sq, .int .i64 st, .slice ea en ec, .int .i64 cd, .slice ra rn rc]
abbrev DescC (sq st : Int) (ea : Option Addr) (en ec : Nat) (cd : Int) (ra : Option Addr) (rn rc : Nat) : Array Value := #[.int .i64 sq, .int .i64 st, .slice ea en ec, .int .i64 cd, .slice ra rn rc]
theorem Box.desc {w : World} {b : Nat} {T : TypeId} {sq st cd : Int} {ea ra : Option Addr} {en ec rn rc : Nat} (h : Box w b (DescC sq st ea en ec cd ra rn rc) T) :
    w.cell? ⟨b, 0, none⟩ = some (.int .i64 sq) ∧ w.cell? ⟨b, 1, none⟩ = some (.int .i64 st) ∧ w.cell? ⟨b, 2, none⟩ = some (.slice ea en ec) ∧ w.cell? ⟨b, 3, none⟩ = some (.int .i64 cd) ∧ w.cell? ⟨b, 4, none⟩ = some (.slice ra rn rc) ∧
    w.frozen? ⟨b, 0, none⟩ = false ∧ w.frozen? ⟨b, 1, none⟩ = false ∧ w.frozen? ⟨b, 2, none⟩ = false ∧ w.frozen? ⟨b, 3, none⟩ = false ∧ w.frozen? ⟨b, 4, none⟩ = false :=
  ⟨h.cell 0, h.cell 1, h.cell 2, h.cell 3, h.cell 4, h.frozen 0, h.frozen 1, h.frozen 2, h.frozen 3, h.frozen 4⟩

end Go.Proofs.YtkbodiggdajbeaaDoor

/- spec.Entries, walked at any Desc and any place. -/
namespace Go.Proofs.YtkbodiggdajbeaaDoor
open Go.ChangeShapes Go.WideShapes Go.ChangeAt Go.RowKit

theorem Box.three {w : World} {b : Nat} {T : TypeId} {x y z : Value} (h : Box w b #[x, y, z] T) :
    w.cell? ⟨b, 0, none⟩ = some x ∧ w.cell? ⟨b, 1, none⟩ = some y ∧ w.cell? ⟨b, 2, none⟩ = some z ∧ w.frozen? ⟨b, 0, none⟩ = false ∧ w.frozen? ⟨b, 1, none⟩ = false ∧ w.frozen? ⟨b, 2, none⟩ = false :=
  ⟨h.cell 0, h.cell 1, h.cell 2, h.frozen 0, h.frozen 1, h.frozen 2⟩
end Go.Proofs.YtkbodiggdajbeaaDoor

/- spec.WordOk, walked at any word and any number of threads. -/
namespace Go.Proofs.YtkbodiggdajbeaaDoor
open Go.ChangeShapes Go.WideShapes Go.ChangeAt Go.RowKit Go.Joins

/-- A number from 0 to 1000, or a mark of one of so many threads. -/
def wordOkM (n t s th : Int) : Bool := if t = 0 then (decide (s = 0) && inB n 0 1000) else (decide (n = 0) && (inB t 1 th && inB s 1 1000000))
end Go.Proofs.YtkbodiggdajbeaaDoor

/- spec.DescOk, walked at any Desc. -/
namespace Go.Proofs.YtkbodiggdajbeaaDoor
open Go.ChangeShapes Go.WideShapes Go.ChangeAt Go.RowKit

theorem l1In_yes {x lo hi : Int} (h : inB x lo hi = true) (w : World) : Calls Tryd.prog 35 #[.int .i64 x, .int .i64 lo, .int .i64 hi] w fun e w' => e = .returned (.bool true) ∧ w' = w := by
  have := l1In_g x lo hi w
  rwa [h] at this
theorem l1In_not {x lo hi : Int} (h : inB x lo hi = false) (w : World) : Calls Tryd.prog 35 #[.int .i64 x, .int .i64 lo, .int .i64 hi] w fun e w' => e = .returned (.bool false) ∧ w' = w := by
  have := l1In_g x lo hi w
  rwa [h] at this
/-- What one round of the loop asks. -/
theorem entOk_iff2 {es : List Int} {k : Nat} : entOk es k ↔ (inB (es.getD (k * 3) 0) 0 19 = true ∧ inB (es.getD (k * 3 + 1) 0) 0 1000 = true ∧ inB (es.getD (k * 3 + 2) 0) 0 1000 = true ∧ (0 < k → es.getD ((k - 1) * 3) 0 < es.getD (k * 3) 0)) := by
  unfold inB entOk
  simp only [decide_eq_true_eq]

end Go.Proofs.YtkbodiggdajbeaaDoor

/- spec.MemOk, walked at any words and Descs. -/
namespace Go.Proofs.YtkbodiggdajbeaaDoor
open Go.ChangeShapes Go.WideShapes Go.ChangeAt Go.RowKit

abbrev MemV (wa : Option Addr) (m wc : Nat) (da : Option Addr) (n dc : Nat) : Value := .agg #[.slice wa m wc, .slice da n dc]
def DescGood (d : DK) : Prop := descOkM d.sq d.st d.en d.es d.cd d.rn = true
/-- A word that can be: a number, or a mark of a try that has an entry there. -/
def WordGood (fs : List Int) (ds : List DK) (i : Nat) : Prop :=
  wordOkM (fs.getD (i * 3) 0) (fs.getD (i * 3 + 1) 0) (fs.getD (i * 3 + 2) 0) ds.length = true ∧
  (0 < fs.getD (i * 3 + 1) 0 → (entM (dk ds (fs.getD (i * 3 + 1) 0 - 1).toNat).es (dk ds (fs.getD (i * 3 + 1) 0 - 1).toNat).en i).2.2.2 = true ∧ (dk ds (fs.getD (i * 3 + 1) 0 - 1).toNat).sq = fs.getD (i * 3 + 2) 0)
def MemGood (fs : List Int) (m : Nat) (ds : List DK) : Prop := m = 20 ∧ (1 ≤ ds.length ∧ ds.length ≤ 4) ∧ (∀ i, i < ds.length → DescGood (dk ds i)) ∧ ∀ i, i < m → WordGood fs ds i
/-- The lists of the Descs are as long as there is room for, at most. -/
def CapAt (w : World) (a : Option Addr) (n : Nat) (ds : List DK) : Prop :=
  n = 0 ∨ ∃ b o, a = some ⟨b, o, none⟩ ∧ ∀ i, i < n → ∃ ea ec, w.cell? ⟨b, o + i * 5 + 2, none⟩ = some (.slice ea (dk ds i).en ec) ∧ (dk ds i).en ≤ ec
theorem CapAt.below {w w' : World} {a : Option Addr} {n : Nat} {ds : List DK} (h : CapAt w a n ds) {B : Nat} (hb : Below B w w') (hB : w.heap.size ≤ B) : CapAt w' a n ds := by
  rcases h with h | ⟨b, o, h1, h2⟩
  · exact .inl h
  · refine .inr ⟨b, o, h1, fun i hi => ?_⟩
    obtain ⟨ea, ec, h3, h4⟩ := h2 i hi
    exact ⟨ea, ec, (hb.cell (Nat.lt_of_lt_of_le (World.block_lt_of_cell? w _ h3) hB)).trans h3, h4⟩
theorem below7 {B : Nat} {w w' : World} (h : Below B w w') : ∀ n, Below B w (w'.drewN n)
  | 0 => h
  | n + 1 => (below7 h n).drew
theorem wordOkM_t {n t s th : Int} (h : wordOkM n t s th = true) : 0 ≤ t ∧ (0 < t → t ≤ th) := by
  unfold wordOkM at h
  split at h
  · omega
  · simp only [Bool.and_eq_true] at h
    have := inB_val h.2.1
    omega

end Go.Proofs.YtkbodiggdajbeaaDoor
