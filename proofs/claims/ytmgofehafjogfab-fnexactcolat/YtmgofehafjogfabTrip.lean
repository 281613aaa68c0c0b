/- Lists of three numbers each (entries, words), as they lie in memory, number by number. -/
import Derived.Test.YtmgofehafjogfabIntAt
import Derived.Handy
import Derived.Below
import Derived.Lib.SmallJoins
import Derived.Deep.Slices
import Derived.Deep.SlicePairs
import Derived.Deep.Strs
namespace Go.Proofs.Ytmgofehafjogfab
open Go.ChangeShapes Go.WideShapes Go.ChangeAt Go.RowKit Go.Joins

theorem below_drewN6 {B : Nat} {w w' : World} (h : Below B w w') : ∀ n, Below B w (w'.drewN n)
  | 0 => h
  | n + 1 => by
    have := (below_drewN6 h n).drew
    exact this
/-- n threes lie there: 3 * n numbers. -/
def TripAt (w : World) (a : Option Addr) (n : Nat) (fs : List Int) : Prop :=
  fs.length = n * 3 ∧ n ≤ 1048576 ∧ (n = 0 ∨ ∃ b o, a = some ⟨b, o, none⟩ ∧ ∀ i, i < n * 3 → w.cell? ⟨b, o + i, none⟩ = some (I (fs.getD i 0)))
theorem TripAt.below {w w' : World} {a : Option Addr} {n : Nat} {fs : List Int} (h : TripAt w a n fs) {B : Nat} (hb : Below B w w') (hB : w.heap.size ≤ B) : TripAt w' a n fs := by
  obtain ⟨h1, h2, h3 | ⟨b, o, h3, h4⟩⟩ := h
  · exact ⟨h1, h2, .inl h3⟩
  · refine ⟨h1, h2, .inr ⟨b, o, h3, fun i hi => ?_⟩⟩
    have h5 := h4 i hi
    rw [hb.cell (show b < B from Nat.lt_of_lt_of_le (World.block_lt_of_cell? w _ h5) hB)]
    exact h5
theorem own_tripAt {w : World} {base : Nat} {e : TypeId} {g n cap : Nat} {fs : List Int} (h : w.ownsRow base e 3 (.slice (some ⟨g, 0, none⟩) n cap) n (fs.map I)) (hn : n ≤ 1048576) : TripAt w (some ⟨g, 0, none⟩) n fs := by
  have hl : fs.length = n * 3 := by have := h.1; simpa using this
  refine ⟨hl, hn, .inr ⟨g, 0, rfl, fun i hi => ?_⟩⟩
  rw [Nat.zero_add, h.cellAt i (by omega), List.getElem?_map, List.getElem?_eq_getElem (by omega)]
  simp [List.getD, show i < fs.length by omega]
/-- What has been laid of fs, nought behind it. -/
def uptoT (fs : List Int) (k n : Nat) : List Int := fs.take k ++ List.replicate (n - k) 0
theorem uptoT_step {fs : List Int} {k n : Nat} (hx : fs.length = n) (h : k < n) : (((uptoT fs k n).map I).set k (I (fs.getD k 0))) = (uptoT fs (k + 1) n).map I := by
  rw [← List.map_set]
  congr 1
  unfold uptoT
  have hl : (fs.take k).length = k := by rw [List.length_take]; omega
  rw [List.set_append_right _ _ (by omega), hl, Nat.sub_self, show n - k = (n - (k + 1)) + 1 by omega, List.replicate_succ, List.set_cons_zero,
    List.take_succ_eq_append_getElem (show k < fs.length by omega), List.append_assoc]
  simp [List.getD, show k < fs.length by omega]
theorem uptoT_end {fs : List Int} {n : Nat} (hx : fs.length = n) : uptoT fs n n = fs := by
  unfold uptoT
  rw [List.take_of_length_le (by omega)]; simp
theorem made_trips (n : Nat) : (madeCells (Value.agg #[.int .i64 0, .int .i64 0, .int .i64 0]).cells n).toList = List.replicate n (Value.int .i64 0) := by
  apply List.ext_getElem?
  intro j
  by_cases hj : j < n
  · have h2 : j % 3 = 0 ∨ j % 3 = 1 ∨ j % 3 = 2 := by omega
    rcases h2 with h2 | h2 | h2 <;> simp [madeCells, hj, Value.cells, h2]
  · simp [madeCells, hj]
theorem take_three {fs gs : List Int} {k : Nat} (hf : k * 3 + 2 < fs.length) (hg : k * 3 + 2 < gs.length) (h : fs.take (k * 3) = gs.take (k * 3)) (e1 : fs.getD (k * 3) 0 = gs.getD (k * 3) 0) (e2 : fs.getD (k * 3 + 1) 0 = gs.getD (k * 3 + 1) 0) (e3 : fs.getD (k * 3 + 2) 0 = gs.getD (k * 3 + 2) 0) : fs.take ((k + 1) * 3) = gs.take ((k + 1) * 3) := by
  rw [show (k + 1) * 3 = k * 3 + 1 + 1 + 1 by omega]
  exact take_nextI (by omega) (by omega) (take_nextI (by omega) (by omega) (take_nextI (by omega) (by omega) h e1) e2) e3

/-- The numbers of threes, one behind the other. -/
def flat3 (f : Nat → Int × Int × Int) (n : Nat) : List Int := (List.range n).flatMap fun i => [(f i).1, (f i).2.1, (f i).2.2]
theorem flat3_succ (f : Nat → Int × Int × Int) (n : Nat) : flat3 f (n + 1) = flat3 f n ++ [(f n).1, (f n).2.1, (f n).2.2] := by
  unfold flat3; rw [List.range_succ, List.flatMap_append]; simp
theorem flat3_len (f : Nat → Int × Int × Int) (n : Nat) : (flat3 f n).length = n * 3 := by
  induction n with
  | zero => rfl
  | succ n ih => rw [flat3_succ, List.length_append, ih]; simp; omega
theorem flat3_at (f : Nat → Int × Int × Int) (n : Nat) : ∀ i, i < n → (flat3 f n).getD (i * 3) 0 = (f i).1 ∧ (flat3 f n).getD (i * 3 + 1) 0 = (f i).2.1 ∧ (flat3 f n).getD (i * 3 + 2) 0 = (f i).2.2 := by
  induction n with
  | zero => intro i hi; omega
  | succ n ih =>
    intro i hi
    have hl := flat3_len f n
    rw [flat3_succ]
    simp only [List.getD_eq_getElem?_getD] at ih ⊢
    by_cases h : i < n
    · rw [List.getElem?_append_left (by omega), List.getElem?_append_left (by omega), List.getElem?_append_left (by omega)]
      exact ih i h
    · obtain rfl : i = n := by omega
      rw [List.getElem?_append_right (by omega), List.getElem?_append_right (by omega), List.getElem?_append_right (by omega), hl, Nat.sub_self, show i * 3 + 1 - i * 3 = 1 by omega, show i * 3 + 2 - i * 3 = 2 by omega]
      exact ⟨rfl, rfl, rfl⟩
theorem flat3_mem {f : Nat → Int × Int × Int} {n : Nat} {P : Int → Prop} (h : ∀ i, i < n → P (f i).1 ∧ P (f i).2.1 ∧ P (f i).2.2) : ∀ x ∈ flat3 f n, P x := by
  intro x hx
  unfold flat3 at hx
  obtain ⟨i, hi, hx⟩ := List.mem_flatMap.1 hx
  have := h i (List.mem_range.1 hi)
  simp only [List.mem_cons, List.not_mem_nil, or_false] at hx
  rcases hx with rfl | rfl | rfl
  · exact this.1
  · exact this.2.1
  · exact this.2.2

set_option maxRecDepth 100000 in
/-- A list of structs of three ints that came in, by its cells, opened. -/
theorem open_trips {H : Type} {enc : TypeId × Value → H} {W : World} {base : Nat} {held : Bool} {t e : TypeId} {f0 f1 f2 : Field} {fuel : Nat} {v : Value} {x : DataW H × List MemPlace}
    (ht : Try.prog.underlying t = some (.slice e)) (he : Try.prog.underlying e = some (.struct #[f0, f1, f2])) (ce : Try.prog.cellsOf e = 3) (o0 : f0.offset = 0) (o1 : f1.offset = 1) (o2 : f2.offset = 2)
    (c0 : Try.prog.cellsOf f0.type = 1) (c1 : Try.prog.cellsOf f1.type = 1) (c2 : Try.prog.cellsOf f2.type = 1) (i0 : Try.prog.underlying f0.type = some (.int .i64)) (i1 : Try.prog.underlying f1.type = some (.int .i64)) (i2 : Try.prog.underlying f2.type = some (.int .i64))
    (h : DataW.trod enc Try.prog W base (fun _ => true) held fuel t [v] = some x) :
    ∃ (a : Option Addr) (n c : Nat) (fs : List Int), v = .slice a n c ∧ n ≤ 9223372036854775807 ∧ (∀ x ∈ fs, (Lit.int .i64 x).wf = true) ∧ (n ≤ 1048576 → TripAt W a n fs) := by
  rcases Go.Deep.open_slice ht h with ⟨hcs, _⟩ | ⟨a, len, cap, m, k, D, Pl, hcs, hb, hl, hm, hmm, _, hx⟩
  · obtain rfl : v = .slice none 0 0 := by simpa using hcs
    exact ⟨none, 0, 0, [], rfl, by omega, fun x hx => by simp at hx, fun _ => ⟨rfl, by omega, .inl rfl⟩⟩
  · obtain rfl : v = .slice (some a) len cap := by simpa using hcs
    have hlm : len ≤ m := by rw [hmm]; split <;> omega
    have each : ∀ i, i < len → ∃ z : Int × Int × Int, W.cell? (a.add (i * 3)) = some (I z.1) ∧ W.cell? (a.add (i * 3 + 1)) = some (I z.2.1) ∧ W.cell? (a.add (i * 3 + 2)) = some (I z.2.2) ∧ (Lit.int .i64 z.1).wf = true ∧ (Lit.int .i64 z.2.1).wf = true ∧ (Lit.int .i64 z.2.2).wf = true := by
      intro i hi
      obtain ⟨cs', h1, h2⟩ := hx i (by omega)
      rw [ce] at h1
      obtain ⟨_, hlen, hcell⟩ := World.cells?_some h1
      obtain ⟨xs, k', hk, hxy, _, hxl, hf⟩ := DataW.trod_struct he h2
      match xs, hxl, cs', hlen with
      | [y0, y1, y2], _, [v0, v1, v2], _ =>
        have g0 := hf 0 f0 rfl
        have g1 := hf 1 f1 rfl
        have g2 := hf 2 f2 rfl
        simp [o0, o1, o2, c0, c1, c2] at g0 g1 g2
        have e0 := hcell 0 (by omega)
        have e1 := hcell 1 (by omega)
        have e2 := hcell 2 (by omega)
        rw [Go.Deep.add_add] at e0 e1 e2
        obtain ⟨z0, q0, _, w0⟩ := DataW.trod_int i0 g0
        obtain ⟨z1, q1, _, w1⟩ := DataW.trod_int i1 g1
        obtain ⟨z2, q2, _, w2⟩ := DataW.trod_int i2 g2
        obtain rfl : v0 = I z0 := by simpa using q0
        obtain rfl : v1 = I z1 := by simpa using q1
        obtain rfl : v2 = I z2 := by simpa using q2
        exact ⟨(z0, z1, z2), by simpa using e0, by simpa using e1, by simpa using e2, w0, w1, w2⟩
    obtain ⟨z, hz⟩ := Go.Deep.choose_lt each
    have hL := flat3_len z len
    have hAt := flat3_at z len
    refine ⟨some a, len, cap, flat3 z len, rfl, by unfold maxLen at hm; omega, flat3_mem fun i hi => ⟨(hz i hi).2.2.2.1, (hz i hi).2.2.2.2.1, (hz i hi).2.2.2.2.2⟩, fun hn => ⟨hL, hn, ?_⟩⟩
    by_cases h0 : len = 0
    · exact .inl h0
    · have hcells : ∀ i, i < (flat3 z len).length → W.cell? (a.add i) = some (.int .i64 ((flat3 z len).getD i 0)) := fun i hi => by
        rw [hL] at hi
        obtain ⟨c0, c1, c2, _⟩ := hz (i / 3) (by omega)
        have q := hAt (i / 3) (by omega)
        rcases (show i % 3 = 0 ∨ i % 3 = 1 ∨ i % 3 = 2 by omega) with e | e | e
        · have e' : i = i / 3 * 3 := by omega
          rw [e', c0, q.1]
        · have e' : i = i / 3 * 3 + 1 := by omega
          rw [e', c1, q.2.1]
        · have e' : i = i / 3 * 3 + 2 := by omega
          rw [e', c2, q.2.2]
      obtain ⟨b, o, rfl, hc⟩ := ints_at hcells (by omega)
      exact .inr ⟨b, o, rfl, fun i hi => hc i (by omega)⟩
end Go.Proofs.Ytmgofehafjogfab
