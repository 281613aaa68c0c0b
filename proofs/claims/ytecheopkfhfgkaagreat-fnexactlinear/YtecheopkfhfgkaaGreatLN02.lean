/- Texts joined: DatI, DatM, DatN, DatD, DatO, OpM, Quad, KRow, InB, Mch, EntriesM, DescM, ValM, Wrd1, Wrds, Ent1, Ents, ResV. -/
import Derived.Test.YtecheopkfhfgkaaGreatLN01
import Derived.Deep.RegionHeld3
import Derived.Deep.Cut
import Derived.Handy
import Derived.Deep.Slices
import Derived.Test.YtecheopkfhfgkaaGreatRows
import Derived.WalkKit
import Derived.ProofKit
import Derived.Lib.LazyBuf
set_option maxHeartbeats 200000
set_option maxRecDepth 100000
namespace Go.Proofs.YtecheopkfhfgkaaGreat
section
open Go.ChangeShapes Go.WideShapes Go.ChangeAt Go.RowKit Go.Joins
inductive In (w : World) : Value → Cel → Prop
  | i (x : Int) : In w (.int .i64 x) (.i x)
  | b (x : Bool) : In w (.bool x) (.b x)
  | s (x : ByteArray) : In w (.string x) (.s x)
  | l (a : Option Addr) (T : TypeId) (k n c : Nat) (cs : List Cel) (vs : List Value) (h1 : vs.length = n * k) (h2 : cs.length = n * k) (hn : n ≤ 9223372036854775807)
      (h3 : n = 0 ∨ ∃ b o, a = some ⟨b, o, none⟩ ∧ ∀ j, j < n * k → w.cell? ⟨b, o + j, none⟩ = vs[j]?) (h4 : ∀ (j : Nat) (v : Value) (c : Cel), vs[j]? = some v → cs[j]? = some c → In w v c) : In w (.slice a n c) (.l T k n cs)
def InL (w : World) (vs : List Value) (cs : List Cel) : Prop := vs.length = cs.length ∧ ∀ (j : Nat) (v : Value) (c : Cel), vs[j]? = some v → cs[j]? = some c → In w v c
theorem In.on {w w' : World} {v : Value} {c : Cel} (h : In w v c) {B : Nat} (hb : Below B w w') (hB : w.heap.size ≤ B) : In w' v c := by
  induction h with
  | i x => exact .i x
  | b x => exact .b x
  | s x => exact .s x
  | l a T k n c cs vs h1 h2 hn h3 h4 ih =>
    refine .l a T k n c cs vs h1 h2 hn ?_ ih
    rcases h3 with h3 | ⟨b, o, e, g⟩
    · exact .inl h3
    · refine .inr ⟨b, o, e, fun j hj => ?_⟩
      have h5 := g j hj
      have h6 : w.cell? ⟨b, o + j, none⟩ = some (vs[j]'(by omega)) := by rw [h5, List.getElem?_eq_getElem (by omega)]
      rw [hb.cell (show b < B from Nat.lt_of_lt_of_le (World.block_lt_of_cell? w _ h6) hB)]
      exact h5
theorem InL.on {w w' : World} {vs : List Value} {cs : List Cel} (h : InL w vs cs) {B : Nat} (hb : Below B w w') (hB : w.heap.size ≤ B) : InL w' vs cs :=
  ⟨h.1, fun j v c hv hc => (h.2 j v c hv hc).on hb hB⟩
theorem big_mem : ∀ {cs : List Cel} {j : Nat} {c : Cel}, cs[j]? = some c → c.big ≤ bigL cs
  | [], _, _, h => by simp at h
  | d :: cs, 0, c, h => by simp at h; subst h; simp [bigL]
  | d :: cs, j + 1, c, h => by
    have := big_mem (cs := cs) (j := j) (by simpa using h)
    simp only [bigL]; omega
theorem In.at {w : World} {v : Value} {c : Cel} (h : In w v c) (hb : c.big ≤ 2097152) : At false w v c := by
  induction h with
  | i x => exact .i x
  | b x => exact .b x
  | s x => exact .s x
  | l a T k n c cs vs h1 h2 hn h3 h4 ih =>
    simp only [Cel.big] at hb
    exact .l a T k n c cs vs h1 h2 (by omega) (fun h => by cases h) h3 fun j v c hv hc => ih j v c hv hc (by have := big_mem hc; omega)
theorem InL.at {w : World} {vs : List Value} {cs : List Cel} (h : InL w vs cs) (hb : bigL cs ≤ 2097152) : AtL false w vs cs :=
  ⟨h.1, fun j v c hv hc => (h.2 j v c hv hc).at (by have := big_mem hc; omega)⟩
theorem InL.nil {w : World} : InL w [] [] := ⟨rfl, fun j v c hv _ => by simp at hv⟩
theorem InL.cons {w : World} {v : Value} {c : Cel} {vs : List Value} {cs : List Cel} (h : In w v c) (hs : InL w vs cs) : InL w (v :: vs) (c :: cs) := by
  refine ⟨by simp [hs.1], fun j v' c' hv hc => ?_⟩
  cases j with
  | zero => simp at hv hc; subst hv hc; exact h
  | succ j => simp at hv hc; exact hs.2 j v' c' hv hc
theorem InL.nilE {w : World} {vs : List Value} (h : InL w vs []) : vs = [] := List.length_eq_zero_iff.1 h.1
theorem InL.consE {w : World} {vs : List Value} {c : Cel} {cs : List Cel} (h : InL w vs (c :: cs)) : ∃ v vs', vs = v :: vs' ∧ In w v c ∧ InL w vs' cs := by
  match vs, h with
  | [], h => have := h.1; simp at this
  | v :: vs', h => exact ⟨v, vs', rfl, h.2 0 v c rfl rfl, ⟨by have := h.1; simpa using this, fun j v' c' hv hc => h.2 (j + 1) v' c' (by simpa using hv) (by simpa using hc)⟩⟩
theorem In.int {w : World} {v : Value} {x : Int} (h : In w v (.i x)) : v = .int .i64 x := by cases h; rfl
theorem In.bool {w : World} {v : Value} {x : Bool} (h : In w v (.b x)) : v = .bool x := by cases h; rfl
theorem In.openL {w : World} {v : Value} {T : TypeId} {k n : Nat} {cs : List Cel} (h : In w v (.l T k n cs)) : ∃ (a : Option Addr) (c : Nat) (vs : List Value), v = .slice a n c ∧ vs.length = n * k ∧ cs.length = n * k ∧ n ≤ 9223372036854775807 ∧
    (n = 0 ∨ ∃ b o, a = some ⟨b, o, none⟩ ∧ ∀ j, j < n * k → w.cell? ⟨b, o + j, none⟩ = vs[j]?) ∧ ∀ (j : Nat) (v : Value) (c : Cel), vs[j]? = some v → cs[j]? = some c → In w v c := by
  cases h with
  | l a T k n c cs vs h1 h2 hn h3 h4 => exact ⟨a, c, vs, rfl, h1, h2, hn, h3, h4⟩
theorem rowIn {w : World} {k n j : Nat} {cs : List Cel} {vs : List Value} (h1 : vs.length = n * k) (h2 : cs.length = n * k) (h4 : ∀ (j : Nat) (v : Value) (c : Cel), vs[j]? = some v → cs[j]? = some c → In w v c) (hj : j < n) : InL w ((vs.drop (j * k)).take k) (row cs k j) := by
  have hle : j * k + k ≤ n * k := by rw [← Nat.succ_mul]; exact Nat.mul_le_mul_right k hj
  refine ⟨by rw [rowL_len h2 hj, List.length_take, List.length_drop, h1]; omega, fun i v c hv hc => ?_⟩
  have hi : i < k := by have := (List.getElem?_eq_some_iff.1 hc).1; rw [rowL_len h2 hj] at this; exact this
  rw [row_at hi] at hc
  rw [List.getElem?_take_of_lt hi, List.getElem?_drop] at hv
  exact h4 _ v c hv hc
def Ty.flat : Ty → Bool
  | .i => true
  | .b => true
  | _ => false
theorem bigL_zero : ∀ {cs : List Cel}, (∀ (j : Nat) (c : Cel), cs[j]? = some c → c.big = 0) → bigL cs = 0
  | [], _ => rfl
  | c :: cs, h => by
    have h0 := h 0 c rfl
    have h1 := bigL_zero (cs := cs) fun j c' hc => h (j + 1) c' (by simpa using hc)
    simp only [bigL]; omega
theorem big_flat {T : TypeId} {k n : Nat} {cs : List Cel} {fs : List Ty} (h : Has (.l T k n cs) (.l T k fs)) (hf : fs.all Ty.flat = true) : bigL cs = 0 := by
  cases h with
  | l _ _ _ _ _ hk h1 h2 =>
    refine bigL_zero fun j c hc => ?_
    have hj : j < n * k := by have := (List.getElem?_eq_some_iff.1 hc).1; omega
    have hk0 : 0 < k := by
      rcases Nat.eq_zero_or_pos k with h0 | h0
      · rw [h0] at hj; simp at hj
      · exact h0
    have hm : j % k < fs.length := by rw [hk]; exact Nat.mod_lt _ hk0
    have ht : fs[j % k]? = some (fs[j % k]'hm) := List.getElem?_eq_getElem hm
    have h3 := h2 j c _ hc ht
    have h4 : Ty.flat (fs[j % k]'hm) = true := (List.all_eq_true.1 hf) _ (List.getElem_mem hm)
    revert h3 h4
    generalize fs[j % k]'hm = t
    intro h3 h4
    cases h3 <;> simp [Ty.flat, Cel.big] at h4 ⊢
def Left (w : World) (m : Nat) (l : Int) (e : Ending) (w' : World) : Prop := Below w.heap.size w w' ∧ ((∃ r : Int, e = .returned (.int .i64 r) ∧ (m : Int) ≤ l ∧ r = l - (m : Int)) ∨ (e = .returned (.int .i64 (-1)) ∧ l < (m : Int)))
structure One (w W : World) (A : Array Value) (T : TypeId) : Prop where
  a : Box W w.heap.size A T
  on : Below w.heap.size w W
theorem one_new (w : World) (A : Array Value) (T : TypeId) : One w (w.alloc (.cells A T)) A T := ⟨box_of w A T, (Below.refl _ w).alloc (Nat.le_refl _) _⟩
theorem One.call {w W W' : World} {A : Array Value} {T : TypeId} (h : One w W A T) (hb : Below W.heap.size W W') : One w W' A T := ⟨h.a.below hb h.a.lt, h.on.trans (hb.mono h.on.size)⟩
structure Kept (S : Nat → Prop) (w w' : World) : Prop where
  on : Below 0 w w'
  oth : ∀ x, x < w.heap.size → ¬ S x → w'.heap[x]? = w.heap[x]?
theorem Kept.refl (S : Nat → Prop) (w : World) : Kept S w w := ⟨Below.refl _ _, fun _ _ _ => rfl⟩
theorem Kept.trans {S : Nat → Prop} {w w1 w2 : World} (h : Kept S w w1) (h' : Kept S w1 w2) : Kept S w w2 :=
  ⟨h.on.trans h'.on, fun x hx hS => (h'.oth x (Nat.lt_of_lt_of_le hx h.on.size) hS).trans (h.oth x hx hS)⟩
theorem Kept.mono {S S' : Nat → Prop} {w w' : World} (h : Kept S w w') (hS : ∀ x, S x → S' x) : Kept S' w w' := ⟨h.on, fun x hx hn => h.oth x hx fun hs => hn (hS x hs)⟩
theorem Kept.set {S : Nat → Prop} {w w' : World} (h : Kept S w w') {g i : Nat} (hg : S g) (v : Value) : Kept S w (w'.setCell ⟨g, i, none⟩ v) :=
  ⟨h.on.setCell (Nat.zero_le _) v, fun x hx hn => (Below.heap_setCell _ _ _ _ (fun e => by
    have e : x = g := e
    exact hn (by rw [e]; exact hg))).trans (h.oth x hx hn)⟩
theorem Kept.below {S : Nat → Prop} {w w' : World} (h : Kept S w w') {B : Nat} (hS : ∀ x, S x → B ≤ x) (hB : B ≤ w.heap.size) : Below B w w' :=
  ⟨h.on.os, h.on.tape, h.on.output, h.on.size, fun k hk => h.oth k (by omega) fun hs => by have := hS k hs; omega⟩
theorem Own.put {w : World} {base : Nat} {g n cap : Nat} {T : TypeId} {k : Nat} {cs : List Cel} {S : Nat → Prop} (h : Own w base (.slice (some ⟨g, 0, none⟩) n cap) (.l T k n cs) S) {j : Nat} {c c' : Cel} (hc : cs[j]? = some c) (h0 : ∀ v Sj, Own w base v c Sj → ∀ x, ¬ Sj x) {u : Value} (hu : ∀ w' Sj, (∀ x, ¬ Sj x) → Own w' base u c' Sj) :
    Own (w.setCell ⟨g, j, none⟩ u) base (.slice (some ⟨g, 0, none⟩) n cap) (.l T k n (cs.set j c')) S := by
  cases h with
  | l g cap T k n cs vs S Ss h1 h2 hn h4 h5 h6 h7 =>
    have hj : j < cs.length := (List.getElem?_eq_some_iff.1 hc).1
    have hl := h1.1
    have hv : vs[j]? = some (vs[j]'(by omega)) := List.getElem?_eq_getElem (by omega)
    have hz := h0 _ _ (h4 j _ _ hv hc)
    refine .l g cap T k n _ (vs.set j u) S Ss (h1.stored j u).1 (by simpa using h2) hn (fun i v d hvi hdi => ?_) h5 h6 h7
    by_cases hij : j = i
    · subst hij
      rw [List.getElem?_set_self (by omega)] at hvi hdi
      cases hvi
      cases hdi
      exact hu _ _ hz
    · rw [List.getElem?_set_ne hij] at hvi hdi
      exact (h4 i v d hvi hdi).heap fun x hx => Below.heap_setCell _ _ _ _ (fun e => h5 i (by have e : x = g := e; rw [← e]; exact hx))
def Marked (tx : Int → ByteArray) (w : World) (base : Nat) (v : Value) (c : Cel) (S : Nat → Prop) (q : Int) (e : Ending) (w' : World) : Prop := e = .returned (.int .i64 (q + (c.cnt : Int))) ∧ Own w' base v (c.mark tx q) S ∧ Kept S w w'
def SaysD (w : World) (x : Int) (e : Ending) (w' : World) : Prop := e = .returned (.int .i64 x) ∧ Below w.heap.size w w'
def topL (tx : Int → ByteArray) : List Cel → Int → List Cel
  | [], _ => []
  | .l T k n cs :: r, q => .l T k n (markL tx cs q) :: topL tx r (q + (cntL cs : Int))
  | .i x :: r, q => .i x :: topL tx r q
  | .b x :: r, q => .b x :: topL tx r q
  | .s x :: r, q => .s x :: topL tx r q
def tcnt : List Cel → Nat
  | [] => 0
  | .l _ _ _ cs :: r => cntL cs + tcnt r
  | .i _ :: r => tcnt r
  | .b _ :: r => tcnt r
  | .s _ :: r => tcnt r
theorem OwnL.set {w : World} {b : Nat} {vs : List Value} {cs : List Cel} {S S' : Nat → Prop} (h : OwnL w b vs cs S) (hS : ∀ x, S x ↔ S' x) : OwnL w b vs cs S' := by
  obtain ⟨l, Ss, h1, h2, h3⟩ := h
  exact ⟨l, Ss, h1, h2, fun x => (hS x).symm.trans (h3 x)⟩
theorem OwnL.none {w : World} {b : Nat} {S : Nat → Prop} (h : OwnL w b [] [] S) : ∀ x, ¬ S x := fun x hx => by
  obtain ⟨_, Ss, _, _, h3⟩ := h
  obtain ⟨j, hj, _⟩ := (h3 x).1 hx
  simp at hj
theorem OwnL.one {w : World} {b : Nat} {v : Value} {c : Cel} {S : Nat → Prop} (h : OwnL w b [v] [c] S) : Own w b v c S := by
  obtain ⟨S0, S1, h0, h1, -, hS⟩ := h.parts
  exact h0.set fun x => ⟨fun hx => (hS x).2 (.inl hx), fun hx => ((hS x).1 hx).resolve_right (h1.none x)⟩
abbrev Part := List Value × List Cel × (Nat → Prop)
structure Mg (w W : World) (base : Nat) (S : Nat → Prop) (A : Array Value) (T : TypeId) (R : List Part) : Prop where
  a : Box W w.heap.size A T
  on : Below 0 w W
  oth : ∀ x, x < w.heap.size → ¬ S x → W.heap[x]? = w.heap[x]?
  lt : ∀ x, S x → x < w.heap.size
  o : ∀ r ∈ R, OwnL W base r.1 r.2.1 r.2.2
  d : R.Pairwise (fun p q => ∀ x, p.2.2 x → ¬ q.2.2 x)
  u : ∀ x, S x ↔ ∃ r ∈ R, r.2.2 x
theorem Mg.step {w W W' : World} {base : Nat} {S Sf : Nat → Prop} {A : Array Value} {T : TypeId} {pre post : List Part} {vs : List Value} {cs cs' : List Cel} (h : Mg w W base S A T (pre ++ (vs, cs, Sf) :: post)) (ho : OwnL W' base vs cs' Sf) (hk : Kept Sf W W') : Mg w W' base S A T (pre ++ (vs, cs', Sf) :: post) := by
  have sub : ∀ x, Sf x → S x := fun x hx => (h.u x).2 ⟨(vs, cs, Sf), by simp, hx⟩
  have lt : ∀ x, x < w.heap.size → x < W.heap.size := fun x hx => Nat.lt_of_lt_of_le hx h.on.size
  have hd := List.pairwise_append.1 h.d
  have hd2 := List.pairwise_cons.1 hd.2.1
  refine ⟨?_, h.on.trans hk.on, fun x hx hn => (hk.oth x (lt x hx) fun hs => hn (sub x hs)).trans (h.oth x hx hn), h.lt, fun r hr => ?_, ?_, fun x => ?_⟩
  · exact (hk.oth _ h.a.lt fun hs => by have := h.lt _ (sub _ hs); omega).trans h.a
  · have keep : r ∈ pre ++ (vs, cs, Sf) :: post → (∀ x, r.2.2 x → ¬ Sf x) → OwnL W' base r.1 r.2.1 r.2.2 := fun hr hn => (h.o r hr).heap fun x hx => hk.oth x ((h.o r hr).lt x hx).2 (hn x hx)
    rcases List.mem_append.1 hr with hr | hr
    · exact keep (List.mem_append.2 (.inl hr)) (fun x hx => hd.2.2 r hr _ (List.mem_cons_self ..) x hx)
    · rcases List.mem_cons.1 hr with rfl | hr
      · exact ho
      · exact keep (List.mem_append.2 (.inr (List.mem_cons_of_mem _ hr))) (fun x hx hs => hd2.1 r hr x hs hx)
  · refine List.pairwise_append.2 ⟨hd.1, List.pairwise_cons.2 ⟨fun r hr => hd2.1 r hr, hd2.2⟩, fun r hr q hq => ?_⟩
    rcases List.mem_cons.1 hq with rfl | hq
    · exact hd.2.2 r hr (vs, cs, Sf) (List.mem_cons_self ..)
    · exact hd.2.2 r hr q (List.mem_cons_of_mem _ hq)
  · rw [h.u x]
    constructor
    · rintro ⟨r, hr, hx⟩
      rcases List.mem_append.1 hr with hr | hr
      · exact ⟨r, List.mem_append.2 (.inl hr), hx⟩
      · rcases List.mem_cons.1 hr with rfl | hr
        · exact ⟨(vs, cs', Sf), by simp, hx⟩
        · exact ⟨r, List.mem_append.2 (.inr (List.mem_cons_of_mem _ hr)), hx⟩
    · rintro ⟨r, hr, hx⟩
      rcases List.mem_append.1 hr with hr | hr
      · exact ⟨r, List.mem_append.2 (.inl hr), hx⟩
      · rcases List.mem_cons.1 hr with rfl | hr
        · exact ⟨(vs, cs, Sf), by simp, hx⟩
        · exact ⟨r, List.mem_append.2 (.inr (List.mem_cons_of_mem _ hr)), hx⟩
theorem Mg.at {w W : World} {base : Nat} {S Sf : Nat → Prop} {A : Array Value} {T : TypeId} {pre post : List Part} {vs : List Value} {cs : List Cel} (h : Mg w W base S A T (pre ++ (vs, cs, Sf) :: post)) : OwnL W base vs cs Sf := h.o (vs, cs, Sf) (by simp)
theorem Mg.all {w W : World} {base : Nat} {S : Nat → Prop} {A : Array Value} {T : TypeId} {R : List Part} (h : Mg w W base S A T R) : OwnL W base (R.flatMap (·.1)) (R.flatMap (·.2.1)) S ∧ Kept S w W := ⟨(owns_all h.o h.d).set fun x => (h.u x).symm, h.on, h.oth⟩
def MarkedL (tx : Int → ByteArray) (w : World) (base : Nat) (vs : List Value) (cs : List Cel) (S : Nat → Prop) (q : Int) (e : Ending) (w' : World) : Prop := e = .returned (.int .i64 (q + (tcnt cs : Int))) ∧ OwnL w' base vs (topL tx cs q) S ∧ Kept S w w'
set_option linter.unusedSimpArgs false

def tyOp : List Ty := [(.i), (.i), (.i)]
def tyPair : List Ty := [(.i), (.i)]
def tyHelp : List Ty := [(.i), (.i), (.i), (.i)]
def tyEntry : List Ty := [(.i), (.i), (.i)]
def tyWord : List Ty := [(.i), (.i), (.i)]
def tyRes : List Ty := [(.i), (.l 3 1 [.i])]
def tyRows : List Ty := [(.l 3 1 [.i]), (.i)]
def tyCall : List Ty := [(.i), (.i), (.i), (.i), (.i), (.i), (.i), (.i), (.l 3 1 [.i])]
inductive Flat (P : Program) : TypeId → List Ty → Prop
  | i (t : TypeId) (h : P.underlying t = some (.int .i64)) : Flat P t [.i]
  | b (t : TypeId) (h : P.underlying t = some .bool) : Flat P t [.b]
  | s (t : TypeId) (h : P.underlying t = some .string) : Flat P t [.s]
  | l (t e T : TypeId) (k : Nat) (fs : List Ty) (h : P.underlying t = some (.slice e)) (hk : fs.length = k) (hk0 : 0 < k) (hc : P.cellsOf e = k) (hf : Flat P e fs) : Flat P t [.l T k fs]
  | st (t : TypeId) (Fs : Array Field) (gs : List (List Ty)) (h : P.underlying t = some (.struct Fs)) (hl : gs.length = Fs.size) (hc : P.cellsOf t = gs.flatten.length)
      (ho : ∀ (i : Nat) (f : Field) (g : List Ty), Fs[i]? = some f → gs[i]? = some g → f.offset = (gs.take i).flatten.length ∧ P.cellsOf f.type = g.length) (hf : ∀ (i : Nat) (f : Field) (g : List Ty), Fs[i]? = some f → gs[i]? = some g → Flat P f.type g) : Flat P t gs.flatten
theorem InL.app {w : World} : ∀ {vs : List Value} {cs : List Cel} {vs' : List Value} {cs' : List Cel}, InL w vs cs → InL w vs' cs' → InL w (vs ++ vs') (cs ++ cs')
  | vs, [], _, _, h, h' => by obtain rfl := h.nilE; exact h'
  | vs, c :: cs, _, _, h, h' => by
    obtain ⟨v, vs, rfl, h0, h1⟩ := h.consE
    exact InL.cons h0 (InL.app h1 h')
theorem HasL.mk {c : Cel} {t : Ty} {cs : List Cel} {fs : List Ty} (h : Has c t) (hs : HasL cs fs) : HasL (c :: cs) (t :: fs) := by
  refine ⟨by simp [hs.1], fun j c' t' hc ht => ?_⟩
  cases j with
  | zero => simp at hc ht; subst hc ht; exact h
  | succ j => simp at hc ht; exact hs.2 j c' t' hc ht
theorem HasL.none : HasL [] [] := ⟨rfl, fun j c t hc _ => by simp at hc⟩
theorem HasL.app : ∀ {cs : List Cel} {fs : List Ty} {cs' : List Cel} {fs' : List Ty}, HasL cs fs → HasL cs' fs' → HasL (cs ++ cs') (fs ++ fs')
  | cs, [], _, _, h, h' => by obtain rfl := h.nil; exact h'
  | cs, t :: fs, _, _, h, h' => by
    obtain ⟨c, cs, rfl, h0, h1⟩ := h.cons
    exact HasL.mk h0 (HasL.app h1 h')
inductive WfC : Cel → Prop
  | i (x : Int) (h : (Lit.int .i64 x).wf = true) : WfC (.i x)
  | b (x : Bool) : WfC (.b x)
  | s (x : ByteArray) : WfC (.s x)
  | l (T : TypeId) (k n : Nat) (cs : List Cel) (h : ∀ (j : Nat) (c : Cel), cs[j]? = some c → WfC c) : WfC (.l T k n cs)
def WfL (ds : List Cel) : Prop := ∀ (j : Nat) (c : Cel), ds[j]? = some c → WfC c
theorem WfL.nil : WfL [] := fun j c h => by simp at h
theorem WfL.cons {c : Cel} {ds : List Cel} (h : WfC c) (hs : WfL ds) : WfL (c :: ds) := fun j d hd => by
  cases j with
  | zero => simp at hd; subst hd; exact h
  | succ j => exact hs j d (by simpa using hd)
theorem WfL.app {ds es : List Cel} (h : WfL ds) (h' : WfL es) : WfL (ds ++ es) := fun j c hc => by
  by_cases hj : j < ds.length
  · rw [List.getElem?_append_left hj] at hc; exact h j c hc
  · rw [List.getElem?_append_right (by omega)] at hc; exact h' _ c hc
theorem parts_in {W : World} : ∀ (gs : List (List Ty)) (cs : List Value), cs.length = gs.flatten.length → (∀ (i : Nat) (g : List Ty), gs[i]? = some g → ∃ d, InL W ((cs.drop (gs.take i).flatten.length).take g.length) d ∧ HasL d g ∧ WfL d) → ∃ ds, InL W cs ds ∧ HasL ds gs.flatten ∧ WfL ds
  | [], cs, hl, _ => by
    obtain rfl : cs = [] := List.length_eq_zero_iff.1 (by simpa using hl)
    exact ⟨[], InL.nil, HasL.none, WfL.nil⟩
  | g :: gs, cs, hl, h => by
    simp only [List.flatten_cons, List.length_append] at hl
    obtain ⟨d, h1, h2, h3⟩ := h 0 g rfl
    obtain ⟨ds, g1, g2, g3⟩ := parts_in gs (cs.drop g.length) (by rw [List.length_drop]; omega) (fun i g' hg => by
      have := h (i + 1) g' (by simpa using hg)
      simpa [List.drop_drop] using this)
    refine ⟨d ++ ds, ?_, ?_, h3.app g3⟩
    · have := InL.app h1 g1
      simpa using this
    · simpa using HasL.app h2 g2
theorem flat_len {α : Type} {f : Nat → List α} {k : Nat} : ∀ (n : Nat), (∀ i, i < n → (f i).length = k) → ((List.range n).flatMap f).length = n * k
  | 0, _ => by simp
  | n + 1, h => by
    rw [List.range_succ, List.flatMap_append, List.length_append, flat_len n (fun i hi => h i (by omega))]
    simp [h n (by omega), Nat.succ_mul]
theorem flat_at {α : Type} {f : Nat → List α} {k : Nat} : ∀ (n : Nat), (∀ i, i < n → (f i).length = k) → ∀ i r, i < n → r < k → ((List.range n).flatMap f)[i * k + r]? = (f i)[r]?
  | 0, _, i, _, hi, _ => by omega
  | n + 1, h, i, r, hi, hr => by
    have hl := flat_len n (fun i hi => h i (by omega)) (f := f)
    rw [List.range_succ, List.flatMap_append]
    by_cases hin : i < n
    · have hle : i * k + k ≤ n * k := by rw [← Nat.succ_mul]; exact Nat.mul_le_mul_right k hin
      rw [List.getElem?_append_left (by omega)]
      exact flat_at n (fun i hi => h i (by omega)) i r hin hr
    · obtain rfl : i = n := by omega
      rw [List.getElem?_append_right (by omega), hl, Nat.add_sub_cancel_left]
      simp
theorem spot_none {w : World} {a : Addr} {v : Value} (h : w.cell? a = some v) : a.spot = none := by
  unfold World.cell? at h
  split at h
  · split at h
    · cases h
    · rename_i hs
      cases e : a.spot with
      | none => rfl
      | some x => rw [e] at hs; exact absurd rfl hs
  · cases h
theorem open_flat {H : Type} {enc : TypeId × Value → H} {P : Program} {W : World} {base : Nat} {held : Bool} {t : TypeId} {fs : List Ty} (hf : Flat P t fs) : ∀ {fuel : Nat} {cs : List Value} {x : DataW H × List MemPlace}, DataW.trod enc P W base (fun _ => true) held fuel t cs = some x → ∃ ds, InL W cs ds ∧ HasL ds fs ∧ WfL ds := by
  induction hf with
  | i t h =>
    intro fuel cs x hx
    obtain ⟨z, rfl, _, hz⟩ := DataW.trod_int h hx
    exact ⟨[.i z], InL.cons (.i z) InL.nil, HasL.mk (.i z) HasL.none, WfL.cons (.i z hz) WfL.nil⟩
  | b t h =>
    intro fuel cs x hx
    obtain ⟨z, rfl, _⟩ := DataW.trod_bool h hx
    exact ⟨[.b z], InL.cons (.b z) InL.nil, HasL.mk (.b z) HasL.none, WfL.cons (.b z) WfL.nil⟩
  | s t h =>
    intro fuel cs x hx
    obtain ⟨z, rfl, _, _⟩ := DataW.trod_string h hx
    exact ⟨[.s z], InL.cons (.s z) InL.nil, HasL.mk (.s z) HasL.none, WfL.cons (.s z) WfL.nil⟩
  | l t e T k fs h hk hk0 hc hf ih =>
    intro fuel cs x hx
    rcases Go.Deep.open_slice h hx with ⟨rfl, _⟩ | ⟨a, len, cap, m, fu, D, Pl, rfl, hb, hl, hm, hmm, _, hx⟩
    · exact ⟨[.l T k 0 []], InL.cons (.l none T k 0 0 [] [] (by simp) (by simp) (by omega) (.inl rfl) (fun j v c hv _ => by simp at hv)) InL.nil, HasL.mk (.l T k 0 [] fs hk (by simp) (fun j c t hc _ => by simp at hc)) HasL.none, WfL.cons (.l T k 0 [] (fun j c h => by simp at h)) WfL.nil⟩
    · have hlm : len ≤ m := by rw [hmm]; split <;> omega
      have each : ∀ i, i < len → ∃ z : List Value × List Cel, z.1.length = k ∧ (∀ r, r < k → W.cell? (a.add (i * k + r)) = z.1[r]?) ∧ InL W z.1 z.2 ∧ HasL z.2 fs ∧ WfL z.2 := by
        intro i hi
        obtain ⟨cs', h1, h2⟩ := hx i (by omega)
        rw [hc] at h1
        obtain ⟨_, hlen, hcell⟩ := World.cells?_some h1
        obtain ⟨ds, g1, g2, g3⟩ := ih h2
        refine ⟨(cs', ds), hlen, fun r hr => ?_, g1, g2, g3⟩
        have := hcell r (by omega)
        rw [Go.Deep.add_add] at this
        rw [this, List.getElem?_eq_getElem (by omega)]
      obtain ⟨z, hz⟩ := Go.Deep.choose_lt each
      have l1 : ∀ i, i < len → (z i).1.length = k := fun i hi => (hz i hi).1
      have l2 : ∀ i, i < len → (z i).2.length = k := fun i hi => by rw [(hz i hi).2.2.2.1.1, hk]
      refine ⟨[.l T k len ((List.range len).flatMap fun i => (z i).2)], InL.cons (.l (some a) T k len cap _ ((List.range len).flatMap fun i => (z i).1) (flat_len len l1) (flat_len len l2) (by unfold maxLen at hm; omega) ?_ (fun j v c hv hc => ?_)) InL.nil, HasL.mk (.l T k len _ fs hk (flat_len len l2) (fun j c t hc ht => ?_)) HasL.none, WfL.cons (.l T k len _ (fun j c hc => ?_)) WfL.nil⟩
      · by_cases h0 : len = 0
        · exact .inl h0
        · have hc0 := (hz 0 (by omega)).2.1 0 (by omega)
          rw [List.getElem?_eq_getElem (by rw [l1 0 (by omega)]; omega)] at hc0
          have hs := spot_none hc0
          obtain ⟨bl, off, sp⟩ := a
          have hs : sp = none := by simpa [Addr.add] using hs
          subst hs
          refine .inr ⟨bl, off, rfl, fun j hj => ?_⟩
          have hjd : j = (j / k) * k + j % k := by rw [Nat.mul_comm]; exact (Nat.div_add_mod j k).symm
          have hd : j / k < len := Nat.div_lt_of_lt_mul (by rwa [Nat.mul_comm])
          have hm' : j % k < k := Nat.mod_lt _ (by omega)
          have := (hz (j / k) hd).2.1 (j % k) hm'
          rw [← hjd] at this
          rw [show (⟨bl, off, none⟩ : Addr).add j = ⟨bl, off + j, none⟩ by simp [Addr.add]] at this
          rw [this]
          conv => rhs; rw [hjd]
          exact (flat_at len l1 _ _ hd hm').symm
      · have hj : j < len * k := by have := (List.getElem?_eq_some_iff.1 hv).1; rwa [flat_len len l1] at this
        have hjd : j = (j / k) * k + j % k := by rw [Nat.mul_comm]; exact (Nat.div_add_mod j k).symm
        have hd : j / k < len := Nat.div_lt_of_lt_mul (by rwa [Nat.mul_comm])
        have hm' : j % k < k := Nat.mod_lt _ hk0
        rw [hjd, flat_at len l1 _ _ hd hm'] at hv
        rw [hjd, flat_at len l2 _ _ hd hm'] at hc
        exact (hz (j / k) hd).2.2.1.2 _ v c hv hc
      · have hj : j < len * k := by have := (List.getElem?_eq_some_iff.1 hc).1; rwa [flat_len len l2] at this
        have hjd : j = (j / k) * k + j % k := by rw [Nat.mul_comm]; exact (Nat.div_add_mod j k).symm
        have hd : j / k < len := Nat.div_lt_of_lt_mul (by rwa [Nat.mul_comm])
        have hm' : j % k < k := Nat.mod_lt _ hk0
        rw [hjd, flat_at len l2 _ _ hd hm'] at hc
        exact (hz (j / k) hd).2.2.2.1.2 _ c t hc ht
      · have hj : j < len * k := by have := (List.getElem?_eq_some_iff.1 hc).1; rwa [flat_len len l2] at this
        have hjd : j = (j / k) * k + j % k := by rw [Nat.mul_comm]; exact (Nat.div_add_mod j k).symm
        have hd : j / k < len := Nat.div_lt_of_lt_mul (by rwa [Nat.mul_comm])
        have hm' : j % k < k := Nat.mod_lt _ hk0
        rw [hjd, flat_at len l2 _ _ hd hm'] at hc
        exact (hz (j / k) hd).2.2.2.2 _ c hc
  | st t Fs gs h hl hc ho hf ih =>
    intro fuel cs x hx
    obtain ⟨xs, n, _, _, hlen, hxl, hxf⟩ := DataW.trod_struct h hx
    refine parts_in gs cs (by omega) fun i g hg => ?_
    have hi : i < Fs.size := by have := (List.getElem?_eq_some_iff.1 hg).1; omega
    have hF : Fs[i]? = some Fs[i] := Array.getElem?_eq_getElem hi
    have h1 := hxf i _ hF
    rw [(ho i _ g hF hg).1, (ho i _ g hF hg).2, List.getElem?_eq_getElem (by omega)] at h1
    exact ih i _ g hF hg h1
theorem open_st {H : Type} {enc : TypeId × Value → H} {P : Program} {W : World} {base b0 : Nat} {held : Bool} {t : TypeId} {Fs : Array Field} {fs : List Ty} {v : Value} {d : DataW H} {p : List MemPlace} (hu : P.underlying t = some (.struct Fs)) (hf : Flat P t fs)
    (hv : Value.okWide P W .any b0 t v) (h : DataW.Trod enc P W base (fun _ => true) held t v d p) : ∃ vs ds, v = .agg vs.toArray ∧ InL W vs ds ∧ HasL ds fs ∧ WfL ds := by
  obtain ⟨cs, rfl, _⟩ := okWide_struct hu hv
  obtain ⟨fuel, hx⟩ := h
  obtain ⟨ds, h1, h2, h3⟩ := open_flat hf hx
  exact ⟨cs.toList, ds, by simp, by simpa [Value.cells] using h1, h2, h3⟩
end
def KeyGood (kind k : Int) : Prop := (kind ≤ 4 ∧ 0 ≤ k ∧ k ≤ 3) ∨ (kind = 6 ∧ 0 ≤ k ∧ k ≤ 2) ∨ (4 < kind ∧ kind ≠ 6 ∧ k = 0)
def ValGood (kind v : Int) : Prop := ((kind = 1 ∨ kind = 2 ∨ kind = 5 ∨ kind = 10) ∧ 1 ≤ v ∧ v ≤ 6) ∨ (¬ (kind = 1 ∨ kind = 2 ∨ kind = 5 ∨ kind = 10) ∧ v = 0)
def OpGood (kind k v : Int) : Prop := (1 ≤ kind ∧ kind ≤ 10) ∧ KeyGood kind k ∧ ValGood kind v
instance (kind k : Int) : Decidable (KeyGood kind k) := by unfold KeyGood; infer_instance
instance (kind v : Int) : Decidable (ValGood kind v) := by unfold ValGood; infer_instance
instance (kind k v : Int) : Decidable (OpGood kind k v) := by unfold OpGood; infer_instance

theorem kinds {kind : Int} (h : 1 ≤ kind ∧ kind ≤ 10) : kind = 1 ∨ kind = 2 ∨ kind = 3 ∨ kind = 4 ∨ kind = 5 ∨ kind = 6 ∨ kind = 7 ∨ kind = 8 ∨ kind = 9 ∨ kind = 10 := by omega
abbrev OpV (kind k v : Int) : Value := .agg #[.int .i64 kind, .int .i64 k, .int .i64 v]

theorem says_true {P : Prop} [Decidable P] (h : P) : Ending.returned (.bool true) = .returned (.bool (decide P)) := by rw [decide_eq_true h]
theorem says_false {P : Prop} [Decidable P] (h : ¬ P) : Ending.returned (.bool false) = .returned (.bool (decide P)) := by rw [decide_eq_false h]
theorem good_of {kind k v : Int} {P Q : Prop} (h : 1 ≤ kind ∧ kind ≤ 10) (hp : KeyGood kind k ↔ P) (hq : ValGood kind v ↔ Q) : OpGood kind k v ↔ (P ∧ Q) :=
  ⟨fun g => ⟨hp.1 g.2.1, hq.1 g.2.2⟩, fun g => ⟨h, hp.2 g.1, hq.2 g.2⟩⟩
theorem eqb (a b : Int) : (a = b ∧ (a == b) = true) ∨ (¬ a = b ∧ (a == b) = false) := by
  by_cases h : a = b
  · exact .inl ⟨h, by simp [h]⟩
  · exact .inr ⟨h, by simp [h]⟩
theorem tri (a b x : Int) (h : a ≤ b) : (a ≤ x ∧ x ≤ b) ∨ (¬ a ≤ x ∧ x ≤ b) ∨ (a ≤ x ∧ ¬ x ≤ b) := by omega
section
open Go.ChangeShapes Go.WideShapes Go.ChangeAt Go.RowKit Go.Joins
def QuadAt (w : World) (a : Option Addr) (n : Nat) (fs : List Int) : Prop :=
  fs.length = n * 4 ∧ n ≤ 1048576 ∧ (n = 0 ∨ ∃ b o, a = some ⟨b, o, none⟩ ∧ ∀ i, i < n * 4 → w.cell? ⟨b, o + i, none⟩ = some (I (fs.getD i 0)))
theorem QuadAt.below {w w' : World} {a : Option Addr} {n : Nat} {fs : List Int} (h : QuadAt w a n fs) {B : Nat} (hb : Below B w w') (hB : w.heap.size ≤ B) : QuadAt w' a n fs := by
  obtain ⟨h1, h2, h3 | ⟨b, o, h3, h4⟩⟩ := h
  · exact ⟨h1, h2, .inl h3⟩
  · refine ⟨h1, h2, .inr ⟨b, o, h3, fun i hi => ?_⟩⟩
    have h5 := h4 i hi
    rw [hb.cell (show b < B from Nat.lt_of_lt_of_le (World.block_lt_of_cell? w _ h5) hB)]
    exact h5
def flat4 (f : Nat → Int × Int × Int × Int) (n : Nat) : List Int := (List.range n).flatMap fun i => [(f i).1, (f i).2.1, (f i).2.2.1, (f i).2.2.2]
def KAt (k : Nat) (w : World) (a : Option Addr) (n : Nat) (fs : List Int) : Prop :=
  fs.length = n * k ∧ n ≤ 2097152 ∧ (n = 0 ∨ ∃ b o, a = some ⟨b, o, none⟩ ∧ ∀ i, i < n * k → w.cell? ⟨b, o + i, none⟩ = some (I (fs.getD i 0)))
theorem KAt.below {k : Nat} {w w' : World} {a : Option Addr} {n : Nat} {fs : List Int} (h : KAt k w a n fs) {B : Nat} (hb : Below B w w') (hB : w.heap.size ≤ B) : KAt k w' a n fs := by
  obtain ⟨h1, h2, h3 | ⟨b, o, h3, h4⟩⟩ := h
  · exact ⟨h1, h2, .inl h3⟩
  · refine ⟨h1, h2, .inr ⟨b, o, h3, fun i hi => ?_⟩⟩
    have h5 := h4 i hi
    rw [hb.cell (show b < B from Nat.lt_of_lt_of_le (World.block_lt_of_cell? w _ h5) hB)]
    exact h5
theorem own_emptyK {w : World} {base : Nat} {T : TypeId} {size : Nat} (hb : base ≤ w.heap.size) : (w.alloc (.cells #[] T)).ownsRow base T size (.slice (some ⟨w.heap.size, 0, none⟩) 0 0) 0 [] :=
  ⟨by simp, .inr ⟨w.heap.size, 0, #[], rfl, hb, (by show (w.heap.push _)[w.heap.size]? = _; simp), Nat.le_refl _, by unfold maxLen; omega, by simp, by simp⟩⟩
theorem KAt.src {k : Nat} {w : World} {ad : Addr} {n : Nat} {es : List Int} (h : KAt k w (some ad) n es) : ∀ j v, (es.map I)[j]? = some v → w.cell? (ad.add j) = some v := by
  intro j v hj
  rw [List.getElem?_map] at hj
  have hl : j < es.length := by
    rcases Nat.lt_or_ge j es.length with h1 | h1
    · exact h1
    · rw [List.getElem?_eq_none h1] at hj; cases hj
  rcases h.2.2 with h0 | ⟨b, o, he, g⟩
  · have := h.1; rw [h0] at this; omega
  · cases he
    have h1 := g j (by have := h.1; omega)
    have e : (⟨b, o, none⟩ : Addr).add j = ⟨b, o + j, none⟩ := by simp [Addr.add]
    rw [e, h1]
    rw [List.getElem?_eq_getElem hl] at hj
    simpa [List.getD, hl] using hj
theorem newsK {es : List Int} : ∀ v ∈ es.map I, v.oneCell' = true := by
  intro v hv
  simp at hv
  obtain ⟨x, _, rfl⟩ := hv
  rfl
theorem KAt.nilE {k : Nat} {w : World} {n : Nat} {es : List Int} (h : KAt k w none n es) : n = 0 ∧ es = [] := by
  have h0 : n = 0 := by
    rcases h.2.2 with h0 | ⟨_, _, he, _⟩
    · exact h0
    · cases he
  exact ⟨h0, List.length_eq_zero_iff.1 (by have := h.1; rw [h0] at this; simpa using this)⟩
theorem Asc.two {zs : List Int} {k q : Int} {j : Nat} (h : Asc zs k (j * 2)) (hl : j * 2 + 1 < zs.length) (hq : k + (j : Int) * 2 = q) : Asc (List.set (List.set zs (j * 2) (q)) (j * 2 + 1) (q + 1)) k ((j + 1) * 2) := by
  intro i hi
  by_cases e1 : i = j * 2 + 1
  · subst e1
    rw [List.getElem?_set_self (by (try simp only [List.length_set]); omega)]
    congr 1; push_cast; omega
  rw [List.getElem?_set_ne (by omega)]
  by_cases e0 : i = j * 2
  · subst e0
    rw [List.getElem?_set_self (by (try simp only [List.length_set]); omega)]
    congr 1; push_cast; omega
  rw [List.getElem?_set_ne (by omega)]
  exact h i (by omega)
theorem Asc.four {zs : List Int} {k q : Int} {j : Nat} (h : Asc zs k (j * 4)) (hl : j * 4 + 3 < zs.length) (hq : k + (j : Int) * 4 = q) : Asc (List.set (List.set (List.set (List.set zs (j * 4) (q)) (j * 4 + 1) (q + 1)) (j * 4 + 2) (q + 1 + 1)) (j * 4 + 3) (q + 1 + 1 + 1)) k ((j + 1) * 4) := by
  intro i hi
  by_cases e3 : i = j * 4 + 3
  · subst e3
    rw [List.getElem?_set_self (by (try simp only [List.length_set]); omega)]
    congr 1; push_cast; omega
  rw [List.getElem?_set_ne (by omega)]
  by_cases e2 : i = j * 4 + 2
  · subst e2
    rw [List.getElem?_set_self (by (try simp only [List.length_set]); omega)]
    congr 1; push_cast; omega
  rw [List.getElem?_set_ne (by omega)]
  by_cases e1 : i = j * 4 + 1
  · subst e1
    rw [List.getElem?_set_self (by (try simp only [List.length_set]); omega)]
    congr 1; push_cast; omega
  rw [List.getElem?_set_ne (by omega)]
  by_cases e0 : i = j * 4
  · subst e0
    rw [List.getElem?_set_self (by (try simp only [List.length_set]); omega)]
    congr 1; push_cast; omega
  rw [List.getElem?_set_ne (by omega)]
  exact h i (by omega)
end
section
open Go.ChangeShapes Go.WideShapes Go.ChangeAt Go.RowKit
def inB (x lo hi : Int) : Bool := decide (lo ≤ x ∧ x ≤ hi)
end
section
open Go.ChangeShapes Go.WideShapes Go.ChangeAt Go.RowKit Go.Joins
structure ThD where
  n0 : Nat
  fs : List Int
  pc : Int
  on : Bool
  n1 : Nat
  gs : List Int
  n2 : Nat
  hs : List Int
structure CaD where
  t : Int
  kd : Int
  k : Int
  v : Int
  st : Int
  ln : Int
  en : Int
  cd : Int
structure ThL (w : World) (a0 a1 a2 : Option Addr) (t : ThD) : Prop where
  ops : KAt 3 w a0 t.n0 t.fs
  got : KAt 2 w a1 t.n1 t.gs
  stk : KAt 4 w a2 t.n2 t.hs
theorem ThL.below {w w' : World} {a0 a1 a2 : Option Addr} {t : ThD} (h : ThL w a0 a1 a2 t) {B : Nat} (hb : Below B w w') (hB : w.heap.size ≤ B) : ThL w' a0 a1 a2 t :=
  ⟨h.ops.below hb hB, h.got.below hb hB, h.stk.below hb hB⟩
def ThC (w : World) (b p : Nat) (t : ThD) (a0 : Option Addr) (c0 : Nat) (a1 : Option Addr) (c1 : Nat) (a2 : Option Addr) (c2 : Nat) : Prop :=
  w.cell? ⟨b, p, none⟩ = some (.slice a0 t.n0 c0) ∧ w.cell? ⟨b, p + 1, none⟩ = some (I t.pc) ∧ w.cell? ⟨b, p + 2, none⟩ = some (.bool t.on) ∧ w.cell? ⟨b, p + 3, none⟩ = some (.slice a1 t.n1 c1) ∧ w.cell? ⟨b, p + 4, none⟩ = some (.slice a2 t.n2 c2)
theorem ThC.below {w w' : World} {b p : Nat} {t : ThD} {a0 a1 a2 : Option Addr} {c0 c1 c2 : Nat} (h : ThC w b p t a0 c0 a1 c1 a2 c2) {B : Nat} (hb : Below B w w') (hB : w.heap.size ≤ B) : ThC w' b p t a0 c0 a1 c1 a2 c2 := by
  have hlt : b < B := Nat.lt_of_lt_of_le (World.block_lt_of_cell? w _ h.1) hB
  obtain ⟨h0, h1, h2, h3, h4⟩ := h
  exact ⟨(hb.cell hlt).trans h0, (hb.cell hlt).trans h1, (hb.cell hlt).trans h2, (hb.cell hlt).trans h3, (hb.cell hlt).trans h4⟩
def ThsAt (w : World) (a : Option Addr) (n : Nat) (ts : Nat → ThD) : Prop :=
  n ≤ 2097152 ∧ (n = 0 ∨ ∃ b o, a = some ⟨b, o, none⟩ ∧ ∀ i, i < n → ∃ a0 c0 a1 c1 a2 c2, ThC w b (o + i * 5) (ts i) a0 c0 a1 c1 a2 c2 ∧ ThL w a0 a1 a2 (ts i) ∧ (ts i).n0 ≤ c0 ∧ (ts i).n1 ≤ c1 ∧ (ts i).n2 ≤ c2)
theorem ThsAt.below {w w' : World} {a : Option Addr} {n : Nat} {ts : Nat → ThD} (h : ThsAt w a n ts) {B : Nat} (hb : Below B w w') (hB : w.heap.size ≤ B) : ThsAt w' a n ts := by
  obtain ⟨h1, h2 | ⟨b, o, h3, h4⟩⟩ := h
  · exact ⟨h1, .inl h2⟩
  · refine ⟨h1, .inr ⟨b, o, h3, fun i hi => ?_⟩⟩
    obtain ⟨a0, c0, a1, c1, a2, c2, h5, h6, h7⟩ := h4 i hi
    exact ⟨a0, c0, a1, c1, a2, c2, h5.below hb hB, h6.below hb hB, h7⟩
def CaC (w : World) (b p : Nat) (c : CaD) (v : Value) : Prop :=
  w.cell? ⟨b, p, none⟩ = some (I c.t) ∧ w.cell? ⟨b, p + 1, none⟩ = some (I c.kd) ∧ w.cell? ⟨b, p + 2, none⟩ = some (I c.k) ∧ w.cell? ⟨b, p + 3, none⟩ = some (I c.v) ∧ w.cell? ⟨b, p + 4, none⟩ = some (I c.st) ∧ w.cell? ⟨b, p + 5, none⟩ = some (I c.ln) ∧ w.cell? ⟨b, p + 6, none⟩ = some (I c.en) ∧ w.cell? ⟨b, p + 7, none⟩ = some (I c.cd) ∧ w.cell? ⟨b, p + 8, none⟩ = some v
theorem CaC.below {w w' : World} {b p : Nat} {c : CaD} {v : Value} (h : CaC w b p c v) {B : Nat} (hb : Below B w w') (hB : w.heap.size ≤ B) : CaC w' b p c v := by
  have hlt : b < B := Nat.lt_of_lt_of_le (World.block_lt_of_cell? w _ h.1) hB
  obtain ⟨h0, h1, h2, h3, h4, h5, h6, h7, h8⟩ := h
  exact ⟨(hb.cell hlt).trans h0, (hb.cell hlt).trans h1, (hb.cell hlt).trans h2, (hb.cell hlt).trans h3, (hb.cell hlt).trans h4, (hb.cell hlt).trans h5, (hb.cell hlt).trans h6, (hb.cell hlt).trans h7, (hb.cell hlt).trans h8⟩
abbrev CaV (c : CaD) (v : Value) : Value := .agg #[.int .i64 c.t, .int .i64 c.kd, .int .i64 c.k, .int .i64 c.v, .int .i64 c.st, .int .i64 c.ln, .int .i64 c.en, .int .i64 c.cd, v]
abbrev CaA (c : CaD) (v : Value) : Array Value := #[.int .i64 c.t, .int .i64 c.kd, .int .i64 c.k, .int .i64 c.v, .int .i64 c.st, .int .i64 c.ln, .int .i64 c.en, .int .i64 c.cd, v]
def CasAt (w : World) (a : Option Addr) (n : Nat) (f : Nat → CaD) : Prop :=
  n ≤ 2097152 ∧ (n = 0 ∨ ∃ b o, a = some ⟨b, o, none⟩ ∧ ∀ i, i < n → ∃ ra rn rc, CaC w b (o + i * 9) (f i) (.slice ra rn rc))
theorem CasAt.below {w w' : World} {a : Option Addr} {n : Nat} {f : Nat → CaD} (h : CasAt w a n f) {B : Nat} (hb : Below B w w') (hB : w.heap.size ≤ B) : CasAt w' a n f := by
  obtain ⟨h1, h2 | ⟨b, o, h3, h4⟩⟩ := h
  · exact ⟨h1, .inl h2⟩
  · refine ⟨h1, .inr ⟨b, o, h3, fun i hi => ?_⟩⟩
    obtain ⟨ra, rn, rc, h5⟩ := h4 i hi
    exact ⟨ra, rn, rc, h5.below hb hB⟩

def OpAt (fs : List Int) (i : Nat) : Prop := OpGood (fs.getD (i * 3) 0) (fs.getD (i * 3 + 1) 0) (fs.getD (i * 3 + 2) 0)
instance (fs : List Int) (i : Nat) : Decidable (OpAt fs i) := by unfold OpAt; infer_instance
def GotAt (gs : List Int) (i : Nat) : Bool := inB (gs.getD (i * 2) 0) 0 19 && inB (gs.getD (i * 2 + 1) 0) 0 1000
def HelpAt (hs : List Int) (n : Nat) (i : Nat) : Bool := inB (hs.getD (i * 4) 0) 0 ((n : Int) - 1) && (inB (hs.getD (i * 4 + 1) 0) 1 1000000 && (inB (hs.getD (i * 4 + 2) 0) 0 20 && inB (hs.getD (i * 4 + 3) 0) 0 20))
structure ThGood (t : ThD) (n : Nat) : Prop where
  few : t.n0 ≤ 8
  pc : 0 ≤ t.pc ∧ t.pc ≤ t.n0
  on : t.on = true → t.pc < t.n0
  off : t.on = false → t.n1 = 0 ∧ t.n2 = 0
  got : t.n1 ≤ 12
  stk : t.n2 ≤ 2
  ops : ∀ i, i < t.n0 → OpAt t.fs i
  gots : ∀ i, i < t.n1 → GotAt t.gs i = true
  stks : ∀ i, i < t.n2 → HelpAt t.hs n i = true
def MomGood (x st tm : Int) : Bool := x == -1 || inB x st tm
def CaGood (n : Nat) (tm : Int) (c : CaD) : Bool := inB c.t 0 ((n : Int) - 1) && (decide (OpGood c.kd c.k c.v) && (inB c.st 0 tm && (MomGood c.ln c.st tm && MomGood c.en c.st tm)))
def soN (f : Nat → CaD) : Nat → Nat
  | 0 => 0
  | n + 1 => soN f n + if 0 ≤ (f n).ln then 1 else 0
def linAt (f : Nat → CaD) (os : List Int) (i : Nat) : Int := (f (os.getD i 0).toNat).ln
def OrdAt (f : Nat → CaD) (nc : Nat) (os : List Int) (i : Nat) : Prop :=
  inB (os.getD i 0) 0 ((nc : Int) - 1) = true ∧ 0 ≤ linAt f os i ∧ (0 < i → linAt f os (i - 1) ≤ linAt f os i) ∧ ∀ j, j < i → os.getD j 0 ≠ os.getD i 0
structure CallsGood (f : Nat → CaD) (nc : Nat) (os : List Int) (no nt : Nat) (tm : Int) : Prop where
  each : ∀ i, i < nc → CaGood nt tm (f i) = true
  ord : ∀ i, i < no → OrdAt f nc os i
  few : nc ≤ 40
  all : soN f nc = no
def callsL (f : Nat → CaD) (t : Int) : Nat → List CaD
  | 0 => []
  | n + 1 => callsL f t n ++ if (f n).t = t then [f n] else []
def TaskGood (x : ThD) (L : List CaD) : Prop :=
  if x.on = true then ∃ L' c, L = L' ++ [c] ∧ (c.kd = x.fs.getD (x.pc.toNat * 3) 0 ∧ c.k = x.fs.getD (x.pc.toNat * 3 + 1) 0 ∧ c.v = x.fs.getD (x.pc.toNat * 3 + 2) 0) ∧ c.en = -1 ∧ (L'.length : Int) = x.pc ∧ ∀ d ∈ L', 0 ≤ d.en
  else (L.length : Int) = x.pc ∧ ∀ d ∈ L, 0 ≤ d.en
def lastN (f : Nat → CaD) (t : Int) : Nat → Int
  | 0 => -1
  | n + 1 => if (f n).t = t then (n : Int) else lastN f t n
def endN (f : Nat → CaD) (t : Int) : Nat → Nat
  | 0 => 0
  | n + 1 => endN f t n + if (f n).t = t ∧ 0 ≤ (f n).en then 1 else 0
structure TaskSpec (f : Nat → CaD) (nc : Nat) (t : Int) (x : ThD) : Prop where
  ends : ∀ i, i < nc → (f i).t = t → 0 ≤ (f i).en ∨ (x.on = true ∧ (i : Int) = lastN f t nc)
  pc : (endN f t nc : Int) = x.pc
  last : x.on = true → 0 ≤ lastN f t nc ∧ (f (lastN f t nc).toNat).en = -1 ∧ ((f (lastN f t nc).toNat).kd = x.fs.getD (x.pc.toNat * 3) 0 ∧ (f (lastN f t nc).toNat).k = x.fs.getD (x.pc.toNat * 3 + 1) 0 ∧ (f (lastN f t nc).toNat).v = x.fs.getD (x.pc.toNat * 3 + 2) 0)
end
def idxF (es : List Int) (at_ : Int) : Nat → Nat → Nat
  | 0, k => k
  | f + 1, k => if es.getD (k * 3) 0 = at_ then k else idxF es at_ f (k + 1)
def idxE (es : List Int) (n : Nat) (at_ : Int) : Nat := idxF es at_ n 0
def entM (es : List Int) (n : Nat) (at_ : Int) : Int × Int × Int × Bool :=
  if idxE es n at_ < n then (es.getD (idxE es n at_ * 3) 0, es.getD (idxE es n at_ * 3 + 1) 0, es.getD (idxE es n at_ * 3 + 2) 0, true) else (0, 0, 0, false)
def entOk (es : List Int) (i : Nat) : Prop :=
  (0 ≤ es.getD (i * 3) 0 ∧ es.getD (i * 3) 0 ≤ 19) ∧ (0 ≤ es.getD (i * 3 + 1) 0 ∧ es.getD (i * 3 + 1) 0 ≤ 1000) ∧ (0 ≤ es.getD (i * 3 + 2) 0 ∧ es.getD (i * 3 + 2) 0 ≤ 1000) ∧ (0 < i → es.getD ((i - 1) * 3) 0 < es.getD (i * 3) 0)
instance (es : List Int) (i : Nat) : Decidable (entOk es i) := by unfold entOk; infer_instance
def leastE (es : List Int) (k : Nat) : Int := if k = 0 then 0 else es.getD ((k - 1) * 3) 0 + 1
def descOkM (sq st : Int) (en : Nat) (es : List Int) (cd : Int) (rn : Nat) : Bool :=
  if sq = 0 then decide (st = 0 ∧ en = 0 ∧ cd = 0 ∧ rn = 0) else (inB sq 1 1000000 && (inB st 1 3 && decide (∀ i, i < en → entOk es i)))
section
open Go.RowKit
structure DK where
  sq : Int
  st : Int
  en : Nat
  es : List Int
  cd : Int
  rn : Nat
  rs : List Int
instance : Inhabited DK := ⟨⟨0, 0, 0, [], 0, 0, []⟩⟩
def dk (ds : List DK) (i : Nat) : DK := ds.getD i default
def wordM (x t s : Int) (ds : List DK) (at_ : Int) : Int :=
  if t = 0 then x else if inB t 1 ds.length = true then
    (if (dk ds (t - 1).toNat).sq = s ∧ (dk ds (t - 1).toNat).st = 2 then (entM (dk ds (t - 1).toNat).es (dk ds (t - 1).toNat).en at_).2.2.1 else (entM (dk ds (t - 1).toNat).es (dk ds (t - 1).toNat).en at_).2.1) else 0
def valM (fs : List Int) (m : Nat) (ds : List DK) (at_ : Int) : Int :=
  if 0 ≤ at_ ∧ at_ < (m : Int) then wordM (fs.getD (at_.toNat * 3) 0) (fs.getD (at_.toNat * 3 + 1) 0) (fs.getD (at_.toNat * 3 + 2) 0) ds at_ else 0
def Five (w : World) (b p : Nat) (d : DK) (ea : Option Addr) (ec : Nat) (ra : Option Addr) (rc : Nat) : Prop :=
  w.cell? ⟨b, p, none⟩ = some (I d.sq) ∧ w.cell? ⟨b, p + 1, none⟩ = some (I d.st) ∧ w.cell? ⟨b, p + 2, none⟩ = some (.slice ea d.en ec) ∧ w.cell? ⟨b, p + 3, none⟩ = some (I d.cd) ∧ w.cell? ⟨b, p + 4, none⟩ = some (.slice ra d.rn rc)
theorem Five.below {w w' : World} {b p : Nat} {d : DK} {ea : Option Addr} {ec : Nat} {ra : Option Addr} {rc : Nat} (h : Five w b p d ea ec ra rc) {B : Nat} (hb : Below B w w') (hB : w.heap.size ≤ B) : Five w' b p d ea ec ra rc := by
  have hlt : b < B := Nat.lt_of_lt_of_le (World.block_lt_of_cell? w _ h.1) hB
  obtain ⟨h0, h1, h2, h3, h4⟩ := h
  exact ⟨(hb.cell hlt).trans h0, (hb.cell hlt).trans h1, (hb.cell hlt).trans h2, (hb.cell hlt).trans h3, (hb.cell hlt).trans h4⟩
def DescAt (w : World) (a : Option Addr) (n : Nat) (ds : List DK) : Prop :=
  ds.length = n ∧ n ≤ 1048576 ∧ (n = 0 ∨ ∃ b o, a = some ⟨b, o, none⟩ ∧ ∀ i, i < n → ∃ ea ec ra rc, Five w b (o + i * 5) (dk ds i) ea ec ra rc ∧ TripAt w ea (dk ds i).en (dk ds i).es ∧ IntAt w ra (dk ds i).rn (dk ds i).rs)
theorem DescAt.below {w w' : World} {a : Option Addr} {n : Nat} {ds : List DK} (h : DescAt w a n ds) {B : Nat} (hb : Below B w w') (hB : w.heap.size ≤ B) : DescAt w' a n ds := by
  obtain ⟨h1, h2, h3 | ⟨b, o, h3, h4⟩⟩ := h
  · exact ⟨h1, h2, .inl h3⟩
  · refine ⟨h1, h2, .inr ⟨b, o, h3, fun i hi => ?_⟩⟩
    obtain ⟨ea, ec, ra, rc, h5, h6, h7⟩ := h4 i hi
    exact ⟨ea, ec, ra, rc, h5.below hb hB, h6.below hb hB, h7.below hb hB⟩
end
section
open Go.ChangeShapes Go.WideShapes Go.ChangeAt Go.RowKit
abbrev WordV (x y z : Int) : Value := .agg #[.int .i64 x, .int .i64 y, .int .i64 z]

abbrev EntryV (x y z : Int) : Value := .agg #[.int .i64 x, .int .i64 y, .int .i64 z]

end
abbrev ResV (code : Int) (a : Option Addr) (n c : Nat) : Value := .agg #[.int .i64 code, .slice a n c]
end Go.Proofs.YtecheopkfhfgkaaGreat
