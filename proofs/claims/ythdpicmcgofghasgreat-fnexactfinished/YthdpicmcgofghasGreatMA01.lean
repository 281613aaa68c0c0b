/- Texts joined: Own, IntAt, BoxN, OpM, Trip, Quad. -/
import Derived.WalkKit
import Derived.Test.YthdpicmcgofghasGreatRows
import Derived.ProofKit
import Derived.WalkSmall
import Derived.OpenShut
import Derived.Below
import Derived.Handy
import Derived.Lib.SmallJoins
import Derived.Deep.Slices
import Derived.Deep.SlicePairs
import Derived.Deep.Strs
/- Small facts on lists that a call owns, of no program. -/
namespace Go.Proofs.YthdpicmcgofghasGreat
open Go.RowKit

theorem owns_below {w w' : World} {base : Nat} {e : TypeId} {size : Nat} {v : Value} {n : Nat} {xs : List Value} (h : w.ownsRow base e size v n xs) {B : Nat} (hb : Below B w w') (hB : w.heap.size ≤ B) : w'.ownsRow base e size v n xs := by
  obtain ⟨h1, h2 | ⟨g, cap, cur, h3, h4, h5, h6⟩⟩ := h
  · exact ⟨h1, .inl h2⟩
  · refine ⟨h1, .inr ⟨g, cap, cur, h3, h4, ?_, h6⟩⟩
    have := (Array.getElem?_eq_some_iff.1 h5).1
    rw [hb.block g (by omega)]
    exact h5

theorem own_cell {w : World} {base : Nat} {e : TypeId} {g n cap j : Nat} {xs : List Value} (h : w.ownsRow base e 1 (.slice (some ⟨g, 0, none⟩) n cap) n xs) (hj : j < n) : ∃ u, w.cell? ⟨g, j, none⟩ = some u := by
  have h1 := h.cellAt j (by omega)
  have h2 : j < xs.length := by rw [h.1]; omega
  exact ⟨xs[j], by rw [h1, List.getElem?_eq_getElem h2]⟩

theorem own_base {w : World} {base : Nat} {e : TypeId} {g n cap : Nat} {xs : List Value} (h : w.ownsRow base e 1 (.slice (some ⟨g, 0, none⟩) n cap) n xs) : base ≤ g ∧ g < w.heap.size := h.lt g rfl
end Go.Proofs.YthdpicmcgofghasGreat

/- Small facts on lists of numbers in memory. -/
namespace Go.Proofs.YthdpicmcgofghasGreat
open Go.ChangeShapes Go.WideShapes Go.ChangeAt Go.RowKit

/-- A number as a value. -/
abbrev I (x : Int) : Value := .int .i64 x
/-- The slice of address a and length n holds the numbers xs. -/
def IntAt (w : World) (a : Option Addr) (n : Nat) (xs : List Int) : Prop :=
  xs.length = n ∧ n ≤ 1099511627776 ∧ (n = 0 ∨ ∃ b o, a = some ⟨b, o, none⟩ ∧ ∀ i, i < n → w.cell? ⟨b, o + i, none⟩ = some (I (xs.getD i 0)))

theorem IntAt.below {w w' : World} {a : Option Addr} {n : Nat} {xs : List Int} (h : IntAt w a n xs) {B : Nat} (hb : Below B w w') (hB : w.heap.size ≤ B) : IntAt w' a n xs := by
  obtain ⟨h1, h2, h3 | ⟨b, o, h3, h4⟩⟩ := h
  · exact ⟨h1, h2, .inl h3⟩
  · refine ⟨h1, h2, .inr ⟨b, o, h3, fun i hi => ?_⟩⟩
    have h5 := h4 i hi
    have h6 := World.block_lt_of_cell? w _ h5
    rw [hb.cell (show _ < B from Nat.lt_of_lt_of_le h6 hB)]
    exact h5
theorem own_intAt {w : World} {base : Nat} {e : TypeId} {g n cap : Nat} {xs : List Int} (h : w.ownsRow base e 1 (.slice (some ⟨g, 0, none⟩) n cap) n (xs.map I)) (hn : n ≤ 1099511627776) : IntAt w (some ⟨g, 0, none⟩) n xs := by
  have hl : xs.length = n := by have := h.1; simpa using this
  refine ⟨hl, hn, .inr ⟨g, 0, rfl, fun i hi => ?_⟩⟩
  rw [Nat.zero_add, h.cellAt i (by omega), List.getElem?_map, List.getElem?_eq_getElem (by omega)]
  simp [List.getD, show i < xs.length by omega]

theorem take_nextI {xs ys : List Int} {k : Nat} (hx : k < xs.length) (hy : k < ys.length) (h : xs.take k = ys.take k) (e : xs.getD k 0 = ys.getD k 0) : xs.take (k + 1) = ys.take (k + 1) := by
  have e' : xs[k] = ys[k] := by simpa [List.getD, hx, hy] using e
  rw [List.take_succ_eq_append_getElem hx, List.take_succ_eq_append_getElem hy, h, e']

theorem infoInt : (Tryz.prog.info? 3).map (fun i => (i.zero, i.size, i.bytes)) = some (some (.int .i64 0), 1, 8) := by kernel_rfl
end Go.Proofs.YthdpicmcgofghasGreat

/- A block of cells that may all be written, as one fact: what it reads as, what keeps it, what a store into it makes of it; of no program. -/
namespace Go.Proofs.YthdpicmcgofghasGreat
open Go.RowKit

def Box (w : World) (b : Nat) (cs : Array Value) (T : TypeId) : Prop := w.heap[b]? = some (.cells cs T)
section
variable {w w' : World} {b : Nat} {cs : Array Value} {T : TypeId}
theorem Box.lt (h : Box w b cs T) : b < w.heap.size := (Array.getElem?_eq_some_iff.1 h).1
theorem Box.cell (h : Box w b cs T) (i : Nat) : w.cell? ⟨b, i, none⟩ = cs[i]? := by unfold Box at h; simp [World.cell?, h]
theorem Box.frozen (h : Box w b cs T) (i : Nat) : w.frozen? ⟨b, i, none⟩ = false := by unfold Box at h; simp [World.frozen?, h]
theorem Box.below (h : Box w b cs T) {B : Nat} (hb : Below B w w') (hB : b < B) : Box w' b cs T := by
  unfold Box at h ⊢
  rw [hb.block b hB]
  exact h
theorem Box.set (h : Box w b cs T) {q : Addr} (hq : b ≠ q.block) (v : Value) : Box (w.setCell q v) b cs T := by
  unfold Box at h ⊢
  rw [Below.heap_setCell _ _ _ _ hq]
  exact h
theorem Box.put (h : Box w b cs T) (i : Nat) (v : Value) : Box (w.setCell ⟨b, i, none⟩ v) b (cs.setIfInBounds i v) T := by
  unfold Box at h ⊢
  obtain ⟨hlt, h'⟩ := Array.getElem?_eq_some_iff.1 h
  show (w.heap.modify b _)[b]? = _
  rw [Array.getElem?_eq_getElem (by simpa using hlt), Array.getElem_modify_self, h']
  rfl
theorem Box.alloc (h : Box w b cs T) (o : Obj) : Box (w.alloc o) b cs T := h.below ((Below.refl w.heap.size w).alloc (Nat.le_refl _) o) h.lt
theorem box_of (w : World) (cs : Array Value) (T : TypeId) : Box (w.alloc (.cells cs T)) w.heap.size cs T := by
  show (w.heap.push _)[w.heap.size]? = _
  simp
theorem Box.drew (h : Box w b cs T) : Box w.drew b cs T := h
end
theorem size_setCell (w : World) (a : Addr) (v : Value) : (w.setCell a v).heap.size = w.heap.size := by simp [World.setCell]
end Go.Proofs.YthdpicmcgofghasGreat

/- What is asked, in plain words: which ops are right (no program). -/
namespace Go.Proofs.YthdpicmcgofghasGreat

/-- The key of an op of that kind is right. -/
def KeyGood (kind k : Int) : Prop := (kind ≤ 4 ∧ 0 ≤ k ∧ k ≤ 3) ∨ (kind = 6 ∧ 0 ≤ k ∧ k ≤ 2) ∨ (4 < kind ∧ kind ≠ 6 ∧ k = 0)
/-- What an op of that kind names is right. -/
def ValGood (kind v : Int) : Prop := ((kind = 1 ∨ kind = 2 ∨ kind = 5 ∨ kind = 10) ∧ 1 ≤ v ∧ v ≤ 6) ∨ (¬ (kind = 1 ∨ kind = 2 ∨ kind = 5 ∨ kind = 10) ∧ v = 0)
def OpGood (kind k v : Int) : Prop := (1 ≤ kind ∧ kind ≤ 10) ∧ KeyGood kind k ∧ ValGood kind v
instance (kind k : Int) : Decidable (KeyGood kind k) := by unfold KeyGood; infer_instance
instance (kind v : Int) : Decidable (ValGood kind v) := by unfold ValGood; infer_instance
instance (kind k v : Int) : Decidable (OpGood kind k v) := by unfold OpGood; infer_instance

theorem kinds {kind : Int} (h : 1 ≤ kind ∧ kind ≤ 10) : kind = 1 ∨ kind = 2 ∨ kind = 3 ∨ kind = 4 ∨ kind = 5 ∨ kind = 6 ∨ kind = 7 ∨ kind = 8 ∨ kind = 9 ∨ kind = 10 := by omega
/-- An op as a value. -/
abbrev OpV (kind k v : Int) : Value := .agg #[.int .i64 kind, .int .i64 k, .int .i64 v]

theorem says_true {P : Prop} [Decidable P] (h : P) : Ending.returned (.bool true) = .returned (.bool (decide P)) := by rw [decide_eq_true h]
theorem says_false {P : Prop} [Decidable P] (h : ¬ P) : Ending.returned (.bool false) = .returned (.bool (decide P)) := by rw [decide_eq_false h]
theorem good_of {kind k v : Int} {P Q : Prop} (h : 1 ≤ kind ∧ kind ≤ 10) (hp : KeyGood kind k ↔ P) (hq : ValGood kind v ↔ Q) : OpGood kind k v ↔ (P ∧ Q) :=
  ⟨fun g => ⟨hp.1 g.2.1, hq.1 g.2.2⟩, fun g => ⟨h, hp.2 g.1, hq.2 g.2⟩⟩
theorem eqb (a b : Int) : (a = b ∧ (a == b) = true) ∨ (¬ a = b ∧ (a == b) = false) := by
  by_cases h : a = b
  · exact .inl ⟨h, by simp [h]⟩
  · exact .inr ⟨h, by simp [h]⟩
theorem tri (a b x : Int) (h : a ≤ b) : (a ≤ x ∧ x ≤ b) ∨ (¬ a ≤ x ∧ x ≤ b) ∨ (a ≤ x ∧ ¬ x ≤ b) := by omega

end Go.Proofs.YthdpicmcgofghasGreat

/- Lists of three numbers each (entries, words), as they lie in memory, number by number. -/
namespace Go.Proofs.YthdpicmcgofghasGreat
open Go.ChangeShapes Go.WideShapes Go.ChangeAt Go.RowKit Go.Joins

theorem below_drewN6 {B : Nat} {w w' : World} (h : Below B w w') : ∀ n, Below B w (w'.drewN n)
  | 0 => h
  | n + 1 => by
    have := (below_drewN6 h n).drew
    exact this
/-- n threes lie there: 3 * n numbers. -/
def TripAt (w : World) (a : Option Addr) (n : Nat) (fs : List Int) : Prop :=
  fs.length = n * 3 ∧ n ≤ 1048576 ∧ (n = 0 ∨ ∃ b o, a = some ⟨b, o, none⟩ ∧ ∀ i, i < n * 3 → w.cell? ⟨b, o + i, none⟩ = some (I (fs.getD i 0)))
theorem TripAt.below {w w' : World} {a : Option Addr} {n : Nat} {fs : List Int} (h : TripAt w a n fs) {B : Nat} (hb : Below B w w') (hB : w.heap.size ≤ B) : TripAt w' a n fs := by
  obtain ⟨h1, h2, h3 | ⟨b, o, h3, h4⟩⟩ := h
  · exact ⟨h1, h2, .inl h3⟩
  · refine ⟨h1, h2, .inr ⟨b, o, h3, fun i hi => ?_⟩⟩
    have h5 := h4 i hi
    rw [hb.cell (show b < B from Nat.lt_of_lt_of_le (World.block_lt_of_cell? w _ h5) hB)]
    exact h5
theorem own_tripAt {w : World} {base : Nat} {e : TypeId} {g n cap : Nat} {fs : List Int} (h : w.ownsRow base e 3 (.slice (some ⟨g, 0, none⟩) n cap) n (fs.map I)) (hn : n ≤ 1048576) : TripAt w (some ⟨g, 0, none⟩) n fs := by
  have hl : fs.length = n * 3 := by have := h.1; simpa using this
  refine ⟨hl, hn, .inr ⟨g, 0, rfl, fun i hi => ?_⟩⟩
  rw [Nat.zero_add, h.cellAt i (by omega), List.getElem?_map, List.getElem?_eq_getElem (by omega)]
  simp [List.getD, show i < fs.length by omega]
/-- What has been laid of fs, nought behind it. -/
def uptoT (fs : List Int) (k n : Nat) : List Int := fs.take k ++ List.replicate (n - k) 0
theorem uptoT_step {fs : List Int} {k n : Nat} (hx : fs.length = n) (h : k < n) : (((uptoT fs k n).map I).set k (I (fs.getD k 0))) = (uptoT fs (k + 1) n).map I := by
  rw [← List.map_set]
  congr 1
  unfold uptoT
  have hl : (fs.take k).length = k := by rw [List.length_take]; omega
  rw [List.set_append_right _ _ (by omega), hl, Nat.sub_self, show n - k = (n - (k + 1)) + 1 by omega, List.replicate_succ, List.set_cons_zero,
    List.take_succ_eq_append_getElem (show k < fs.length by omega), List.append_assoc]
  simp [List.getD, show k < fs.length by omega]
theorem uptoT_end {fs : List Int} {n : Nat} (hx : fs.length = n) : uptoT fs n n = fs := by
  unfold uptoT
  rw [List.take_of_length_le (by omega)]; simp
theorem made_trips (n : Nat) : (madeCells (Value.agg #[.int .i64 0, .int .i64 0, .int .i64 0]).cells n).toList = List.replicate n (Value.int .i64 0) := by
  apply List.ext_getElem?
  intro j
  by_cases hj : j < n
  · have h2 : j % 3 = 0 ∨ j % 3 = 1 ∨ j % 3 = 2 := by omega
    rcases h2 with h2 | h2 | h2 <;> simp [madeCells, hj, Value.cells, h2]
  · simp [madeCells, hj]
theorem take_three {fs gs : List Int} {k : Nat} (hf : k * 3 + 2 < fs.length) (hg : k * 3 + 2 < gs.length) (h : fs.take (k * 3) = gs.take (k * 3)) (e1 : fs.getD (k * 3) 0 = gs.getD (k * 3) 0) (e2 : fs.getD (k * 3 + 1) 0 = gs.getD (k * 3 + 1) 0) (e3 : fs.getD (k * 3 + 2) 0 = gs.getD (k * 3 + 2) 0) : fs.take ((k + 1) * 3) = gs.take ((k + 1) * 3) := by
  rw [show (k + 1) * 3 = k * 3 + 1 + 1 + 1 by omega]
  exact take_nextI (by omega) (by omega) (take_nextI (by omega) (by omega) (take_nextI (by omega) (by omega) h e1) e2) e3

/-- The numbers of threes, one behind the other. -/
def flat3 (f : Nat → Int × Int × Int) (n : Nat) : List Int := (List.range n).flatMap fun i => [(f i).1, (f i).2.1, (f i).2.2]
theorem flat3_succ (f : Nat → Int × Int × Int) (n : Nat) : flat3 f (n + 1) = flat3 f n ++ [(f n).1, (f n).2.1, (f n).2.2] := by
  unfold flat3; rw [List.range_succ, List.flatMap_append]; simp
theorem flat3_len (f : Nat → Int × Int × Int) (n : Nat) : (flat3 f n).length = n * 3 := by
  induction n with
  | zero => rfl
  | succ n ih => rw [flat3_succ, List.length_append, ih]; simp; omega
theorem flat3_at (f : Nat → Int × Int × Int) (n : Nat) : ∀ i, i < n → (flat3 f n).getD (i * 3) 0 = (f i).1 ∧ (flat3 f n).getD (i * 3 + 1) 0 = (f i).2.1 ∧ (flat3 f n).getD (i * 3 + 2) 0 = (f i).2.2 := by
  induction n with
  | zero => intro i hi; omega
  | succ n ih =>
    intro i hi
    have hl := flat3_len f n
    rw [flat3_succ]
    simp only [List.getD_eq_getElem?_getD] at ih ⊢
    by_cases h : i < n
    · rw [List.getElem?_append_left (by omega), List.getElem?_append_left (by omega), List.getElem?_append_left (by omega)]
      exact ih i h
    · obtain rfl : i = n := by omega
      rw [List.getElem?_append_right (by omega), List.getElem?_append_right (by omega), List.getElem?_append_right (by omega), hl, Nat.sub_self, show i * 3 + 1 - i * 3 = 1 by omega, show i * 3 + 2 - i * 3 = 2 by omega]
      exact ⟨rfl, rfl, rfl⟩
theorem flat3_mem {f : Nat → Int × Int × Int} {n : Nat} {P : Int → Prop} (h : ∀ i, i < n → P (f i).1 ∧ P (f i).2.1 ∧ P (f i).2.2) : ∀ x ∈ flat3 f n, P x := by
  intro x hx
  unfold flat3 at hx
  obtain ⟨i, hi, hx⟩ := List.mem_flatMap.1 hx
  have := h i (List.mem_range.1 hi)
  simp only [List.mem_cons, List.not_mem_nil, or_false] at hx
  rcases hx with rfl | rfl | rfl
  · exact this.1
  · exact this.2.1
  · exact this.2.2

set_option maxRecDepth 100000 in
/-- A list of structs of three ints that came in, by its cells, opened. -/
theorem open_trips {H : Type} {enc : TypeId × Value → H} {W : World} {base : Nat} {held : Bool} {t e : TypeId} {f0 f1 f2 : Field} {fuel : Nat} {v : Value} {x : DataW H × List MemPlace}
    (ht : Tryz.prog.underlying t = some (.slice e)) (he : Tryz.prog.underlying e = some (.struct #[f0, f1, f2])) (ce : Tryz.prog.cellsOf e = 3) (o0 : f0.offset = 0) (o1 : f1.offset = 1) (o2 : f2.offset = 2)
    (c0 : Tryz.prog.cellsOf f0.type = 1) (c1 : Tryz.prog.cellsOf f1.type = 1) (c2 : Tryz.prog.cellsOf f2.type = 1) (i0 : Tryz.prog.underlying f0.type = some (.int .i64)) (i1 : Tryz.prog.underlying f1.type = some (.int .i64)) (i2 : Tryz.prog.underlying f2.type = some (.int .i64))
    (h : DataW.trod enc Tryz.prog W base (fun _ => true) held fuel t [v] = some x) :
    ∃ (a : Option Addr) (n c : Nat) (fs : List Int), v = .slice a n c ∧ n ≤ 9223372036854775807 ∧ (∀ x ∈ fs, (Lit.int .i64 x).wf = true) ∧ (n ≤ 1048576 → TripAt W a n fs) := by
  rcases Go.Deep.open_slice ht h with ⟨hcs, _⟩ | ⟨a, len, cap, m, k, D, Pl, hcs, hb, hl, hm, hmm, _, hx⟩
  · obtain rfl : v = .slice none 0 0 := by simpa using hcs
    exact ⟨none, 0, 0, [], rfl, by omega, fun x hx => by simp at hx, fun _ => ⟨rfl, by omega, .inl rfl⟩⟩
  · obtain rfl : v = .slice (some a) len cap := by simpa using hcs
    have hlm : len ≤ m := by rw [hmm]; split <;> omega
    have each : ∀ i, i < len → ∃ z : Int × Int × Int, W.cell? (a.add (i * 3)) = some (I z.1) ∧ W.cell? (a.add (i * 3 + 1)) = some (I z.2.1) ∧ W.cell? (a.add (i * 3 + 2)) = some (I z.2.2) ∧ (Lit.int .i64 z.1).wf = true ∧ (Lit.int .i64 z.2.1).wf = true ∧ (Lit.int .i64 z.2.2).wf = true := by
      intro i hi
      obtain ⟨cs', h1, h2⟩ := hx i (by omega)
      rw [ce] at h1
      obtain ⟨_, hlen, hcell⟩ := World.cells?_some h1
      obtain ⟨xs, k', hk, hxy, _, hxl, hf⟩ := DataW.trod_struct he h2
      match xs, hxl, cs', hlen with
      | [y0, y1, y2], _, [v0, v1, v2], _ =>
        have g0 := hf 0 f0 rfl
        have g1 := hf 1 f1 rfl
        have g2 := hf 2 f2 rfl
        simp [o0, o1, o2, c0, c1, c2] at g0 g1 g2
        have e0 := hcell 0 (by omega)
        have e1 := hcell 1 (by omega)
        have e2 := hcell 2 (by omega)
        rw [Go.Deep.add_add] at e0 e1 e2
        obtain ⟨z0, q0, _, w0⟩ := DataW.trod_int i0 g0
        obtain ⟨z1, q1, _, w1⟩ := DataW.trod_int i1 g1
        obtain ⟨z2, q2, _, w2⟩ := DataW.trod_int i2 g2
        obtain rfl : v0 = I z0 := by simpa using q0
        obtain rfl : v1 = I z1 := by simpa using q1
        obtain rfl : v2 = I z2 := by simpa using q2
        exact ⟨(z0, z1, z2), by simpa using e0, by simpa using e1, by simpa using e2, w0, w1, w2⟩
    obtain ⟨z, hz⟩ := Go.Deep.choose_lt each
    have hL := flat3_len z len
    have hAt := flat3_at z len
    refine ⟨some a, len, cap, flat3 z len, rfl, by unfold maxLen at hm; omega, flat3_mem fun i hi => ⟨(hz i hi).2.2.2.1, (hz i hi).2.2.2.2.1, (hz i hi).2.2.2.2.2⟩, fun hn => ⟨hL, hn, ?_⟩⟩
    by_cases h0 : len = 0
    · exact .inl h0
    · have hcells : ∀ i, i < (flat3 z len).length → W.cell? (a.add i) = some (.int .i64 ((flat3 z len).getD i 0)) := fun i hi => by
        rw [hL] at hi
        obtain ⟨c0, c1, c2, _⟩ := hz (i / 3) (by omega)
        have q := hAt (i / 3) (by omega)
        rcases (show i % 3 = 0 ∨ i % 3 = 1 ∨ i % 3 = 2 by omega) with e | e | e
        · have e' : i = i / 3 * 3 := by omega
          rw [e', c0, q.1]
        · have e' : i = i / 3 * 3 + 1 := by omega
          rw [e', c1, q.2.1]
        · have e' : i = i / 3 * 3 + 2 := by omega
          rw [e', c2, q.2.2]
      obtain ⟨b, o, rfl, hc⟩ := ints_at hcells (by omega)
      exact .inr ⟨b, o, rfl, fun i hi => hc i (by omega)⟩
end Go.Proofs.YthdpicmcgofghasGreat

/- Lists of four numbers each (helps), as they lie in memory, number by number. -/
namespace Go.Proofs.YthdpicmcgofghasGreat
open Go.ChangeShapes Go.WideShapes Go.ChangeAt Go.RowKit Go.Joins

/-- n fours lie there: 4 * n numbers. -/
def QuadAt (w : World) (a : Option Addr) (n : Nat) (fs : List Int) : Prop :=
  fs.length = n * 4 ∧ n ≤ 1048576 ∧ (n = 0 ∨ ∃ b o, a = some ⟨b, o, none⟩ ∧ ∀ i, i < n * 4 → w.cell? ⟨b, o + i, none⟩ = some (I (fs.getD i 0)))
theorem QuadAt.below {w w' : World} {a : Option Addr} {n : Nat} {fs : List Int} (h : QuadAt w a n fs) {B : Nat} (hb : Below B w w') (hB : w.heap.size ≤ B) : QuadAt w' a n fs := by
  obtain ⟨h1, h2, h3 | ⟨b, o, h3, h4⟩⟩ := h
  · exact ⟨h1, h2, .inl h3⟩
  · refine ⟨h1, h2, .inr ⟨b, o, h3, fun i hi => ?_⟩⟩
    have h5 := h4 i hi
    rw [hb.cell (show b < B from Nat.lt_of_lt_of_le (World.block_lt_of_cell? w _ h5) hB)]
    exact h5
theorem own_quadAt {w : World} {base : Nat} {e : TypeId} {g n cap : Nat} {fs : List Int} (h : w.ownsRow base e 4 (.slice (some ⟨g, 0, none⟩) n cap) n (fs.map I)) (hn : n ≤ 1048576) : QuadAt w (some ⟨g, 0, none⟩) n fs := by
  have hl : fs.length = n * 4 := by have := h.1; simpa using this
  refine ⟨hl, hn, .inr ⟨g, 0, rfl, fun i hi => ?_⟩⟩
  rw [Nat.zero_add, h.cellAt i (by omega), List.getElem?_map, List.getElem?_eq_getElem (by omega)]
  simp [List.getD, show i < fs.length by omega]
theorem made_quads (n : Nat) : (madeCells (Value.agg #[.int .i64 0, .int .i64 0, .int .i64 0, .int .i64 0]).cells n).toList = List.replicate n (Value.int .i64 0) := by
  apply List.ext_getElem?
  intro j
  by_cases hj : j < n
  · have h2 : j % 4 = 0 ∨ j % 4 = 1 ∨ j % 4 = 2 ∨ j % 4 = 3 := by omega
    rcases h2 with h2 | h2 | h2 | h2 <;> simp [madeCells, hj, Value.cells, h2]
  · simp [madeCells, hj]
theorem take_four {fs gs : List Int} {k : Nat} (hf : k * 4 + 3 < fs.length) (hg : k * 4 + 3 < gs.length) (h : fs.take (k * 4) = gs.take (k * 4)) (e1 : fs.getD (k * 4) 0 = gs.getD (k * 4) 0) (e2 : fs.getD (k * 4 + 1) 0 = gs.getD (k * 4 + 1) 0) (e3 : fs.getD (k * 4 + 2) 0 = gs.getD (k * 4 + 2) 0) (e4 : fs.getD (k * 4 + 3) 0 = gs.getD (k * 4 + 3) 0) : fs.take ((k + 1) * 4) = gs.take ((k + 1) * 4) := by
  rw [show (k + 1) * 4 = k * 4 + 1 + 1 + 1 + 1 by omega]
  exact take_nextI (by omega) (by omega) (take_nextI (by omega) (by omega) (take_nextI (by omega) (by omega) (take_nextI (by omega) (by omega) h e1) e2) e3) e4

/-- The numbers of fours, one behind the other. -/
def flat4 (f : Nat → Int × Int × Int × Int) (n : Nat) : List Int := (List.range n).flatMap fun i => [(f i).1, (f i).2.1, (f i).2.2.1, (f i).2.2.2]
theorem flat4_succ (f : Nat → Int × Int × Int × Int) (n : Nat) : flat4 f (n + 1) = flat4 f n ++ [(f n).1, (f n).2.1, (f n).2.2.1, (f n).2.2.2] := by
  unfold flat4; rw [List.range_succ, List.flatMap_append]; simp
theorem flat4_len (f : Nat → Int × Int × Int × Int) (n : Nat) : (flat4 f n).length = n * 4 := by
  induction n with
  | zero => rfl
  | succ n ih => rw [flat4_succ, List.length_append, ih]; simp; omega
theorem flat4_at (f : Nat → Int × Int × Int × Int) (n : Nat) : ∀ i, i < n → (flat4 f n).getD (i * 4) 0 = (f i).1 ∧ (flat4 f n).getD (i * 4 + 1) 0 = (f i).2.1 ∧ (flat4 f n).getD (i * 4 + 2) 0 = (f i).2.2.1 ∧ (flat4 f n).getD (i * 4 + 3) 0 = (f i).2.2.2 := by
  induction n with
  | zero => intro i hi; omega
  | succ n ih =>
    intro i hi
    have hl := flat4_len f n
    rw [flat4_succ]
    simp only [List.getD_eq_getElem?_getD] at ih ⊢
    by_cases h : i < n
    · rw [List.getElem?_append_left (by omega), List.getElem?_append_left (by omega), List.getElem?_append_left (by omega), List.getElem?_append_left (by omega)]
      exact ih i h
    · obtain rfl : i = n := by omega
      rw [List.getElem?_append_right (by omega), List.getElem?_append_right (by omega), List.getElem?_append_right (by omega), List.getElem?_append_right (by omega), hl, Nat.sub_self, show i * 4 + 1 - i * 4 = 1 by omega, show i * 4 + 2 - i * 4 = 2 by omega, show i * 4 + 3 - i * 4 = 3 by omega]
      exact ⟨rfl, rfl, rfl, rfl⟩
theorem flat4_mem {f : Nat → Int × Int × Int × Int} {n : Nat} {P : Int → Prop} (h : ∀ i, i < n → P (f i).1 ∧ P (f i).2.1 ∧ P (f i).2.2.1 ∧ P (f i).2.2.2) : ∀ x ∈ flat4 f n, P x := by
  intro x hx
  unfold flat4 at hx
  obtain ⟨i, hi, hx⟩ := List.mem_flatMap.1 hx
  have := h i (List.mem_range.1 hi)
  simp only [List.mem_cons, List.not_mem_nil, or_false] at hx
  rcases hx with rfl | rfl | rfl | rfl
  · exact this.1
  · exact this.2.1
  · exact this.2.2.1
  · exact this.2.2.2

set_option maxRecDepth 100000 in
/-- A list of structs of four ints that came in, by its cells, opened. -/
theorem open_quads {H : Type} {enc : TypeId × Value → H} {W : World} {base : Nat} {held : Bool} {t e : TypeId} {f0 f1 f2 f3 : Field} {fuel : Nat} {v : Value} {x : DataW H × List MemPlace}
    (ht : Tryz.prog.underlying t = some (.slice e)) (he : Tryz.prog.underlying e = some (.struct #[f0, f1, f2, f3])) (ce : Tryz.prog.cellsOf e = 4) (o0 : f0.offset = 0) (o1 : f1.offset = 1) (o2 : f2.offset = 2) (o3 : f3.offset = 3)
    (c0 : Tryz.prog.cellsOf f0.type = 1) (c1 : Tryz.prog.cellsOf f1.type = 1) (c2 : Tryz.prog.cellsOf f2.type = 1) (c3 : Tryz.prog.cellsOf f3.type = 1) (i0 : Tryz.prog.underlying f0.type = some (.int .i64)) (i1 : Tryz.prog.underlying f1.type = some (.int .i64)) (i2 : Tryz.prog.underlying f2.type = some (.int .i64)) (i3 : Tryz.prog.underlying f3.type = some (.int .i64))
    (h : DataW.trod enc Tryz.prog W base (fun _ => true) held fuel t [v] = some x) :
    ∃ (a : Option Addr) (n c : Nat) (fs : List Int), v = .slice a n c ∧ n ≤ 9223372036854775807 ∧ (∀ x ∈ fs, (Lit.int .i64 x).wf = true) ∧ (n ≤ 1048576 → QuadAt W a n fs) := by
  rcases Go.Deep.open_slice ht h with ⟨hcs, _⟩ | ⟨a, len, cap, m, k, D, Pl, hcs, hb, hl, hm, hmm, _, hx⟩
  · obtain rfl : v = .slice none 0 0 := by simpa using hcs
    exact ⟨none, 0, 0, [], rfl, by omega, fun x hx => by simp at hx, fun _ => ⟨rfl, by omega, .inl rfl⟩⟩
  · obtain rfl : v = .slice (some a) len cap := by simpa using hcs
    have hlm : len ≤ m := by rw [hmm]; split <;> omega
    have each : ∀ i, i < len → ∃ z : Int × Int × Int × Int, W.cell? (a.add (i * 4)) = some (I z.1) ∧ W.cell? (a.add (i * 4 + 1)) = some (I z.2.1) ∧ W.cell? (a.add (i * 4 + 2)) = some (I z.2.2.1) ∧ W.cell? (a.add (i * 4 + 3)) = some (I z.2.2.2) ∧ (Lit.int .i64 z.1).wf = true ∧ (Lit.int .i64 z.2.1).wf = true ∧ (Lit.int .i64 z.2.2.1).wf = true ∧ (Lit.int .i64 z.2.2.2).wf = true := by
      intro i hi
      obtain ⟨cs', h1, h2⟩ := hx i (by omega)
      rw [ce] at h1
      obtain ⟨_, hlen, hcell⟩ := World.cells?_some h1
      obtain ⟨xs, k', hk, hxy, _, hxl, hf⟩ := DataW.trod_struct he h2
      match xs, hxl, cs', hlen with
      | [y0, y1, y2, y3], _, [v0, v1, v2, v3], _ =>
        have g0 := hf 0 f0 rfl
        have g1 := hf 1 f1 rfl
        have g2 := hf 2 f2 rfl
        have g3 := hf 3 f3 rfl
        simp [o0, o1, o2, o3, c0, c1, c2, c3] at g0 g1 g2 g3
        have e0 := hcell 0 (by omega)
        have e1 := hcell 1 (by omega)
        have e2 := hcell 2 (by omega)
        have e3 := hcell 3 (by omega)
        rw [Go.Deep.add_add] at e0 e1 e2 e3
        obtain ⟨z0, q0, _, w0⟩ := DataW.trod_int i0 g0
        obtain ⟨z1, q1, _, w1⟩ := DataW.trod_int i1 g1
        obtain ⟨z2, q2, _, w2⟩ := DataW.trod_int i2 g2
        obtain ⟨z3, q3, _, w3⟩ := DataW.trod_int i3 g3
        obtain rfl : v0 = I z0 := by simpa using q0
        obtain rfl : v1 = I z1 := by simpa using q1
        obtain rfl : v2 = I z2 := by simpa using q2
        obtain rfl : v3 = I z3 := by simpa using q3
        exact ⟨(z0, z1, z2, z3), by simpa using e0, by simpa using e1, by simpa using e2, by simpa using e3, w0, w1, w2, w3⟩
    obtain ⟨z, hz⟩ := Go.Deep.choose_lt each
    have hL := flat4_len z len
    have hAt := flat4_at z len
    refine ⟨some a, len, cap, flat4 z len, rfl, by unfold maxLen at hm; omega, flat4_mem fun i hi => ⟨(hz i hi).2.2.2.2.1, (hz i hi).2.2.2.2.2.1, (hz i hi).2.2.2.2.2.2.1, (hz i hi).2.2.2.2.2.2.2⟩, fun hn => ⟨hL, hn, ?_⟩⟩
    by_cases h0 : len = 0
    · exact .inl h0
    · have hcells : ∀ i, i < (flat4 z len).length → W.cell? (a.add i) = some (.int .i64 ((flat4 z len).getD i 0)) := fun i hi => by
        rw [hL] at hi
        obtain ⟨c0, c1, c2, c3, _⟩ := hz (i / 4) (by omega)
        have q := hAt (i / 4) (by omega)
        rcases (show i % 4 = 0 ∨ i % 4 = 1 ∨ i % 4 = 2 ∨ i % 4 = 3 by omega) with e | e | e | e
        · have e' : i = i / 4 * 4 := by omega
          rw [e', c0, q.1]
        · have e' : i = i / 4 * 4 + 1 := by omega
          rw [e', c1, q.2.1]
        · have e' : i = i / 4 * 4 + 2 := by omega
          rw [e', c2, q.2.2.1]
        · have e' : i = i / 4 * 4 + 3 := by omega
          rw [e', c3, q.2.2.2]
      obtain ⟨b, o, rfl, hc⟩ := ints_at hcells (by omega)
      exact .inr ⟨b, o, rfl, fun i hi => hc i (by omega)⟩
end Go.Proofs.YthdpicmcgofghasGreat
