/- Lists of four numbers each (helps), as they lie in memory, number by number. -/
import Derived.Test.YtkelhndijgakdaaDoorTrip
namespace Go.Proofs.YtkelhndijgakdaaDoor
open Go.ChangeShapes Go.WideShapes Go.ChangeAt Go.RowKit Go.Joins

/-- n fours lie there: 4 * n numbers. -/
def QuadAt (w : World) (a : Option Addr) (n : Nat) (fs : List Int) : Prop :=
  fs.length = n * 4 ∧ n ≤ 1048576 ∧ (n = 0 ∨ ∃ b o, a = some ⟨b, o, none⟩ ∧ ∀ i, i < n * 4 → w.cell? ⟨b, o + i, none⟩ = some (I (fs.getD i 0)))
theorem QuadAt.below {w w' : World} {a : Option Addr} {n : Nat} {fs : List Int} (h : QuadAt w a n fs) {B : Nat} (hb : Below B w w') (hB : w.heap.size ≤ B) : QuadAt w' a n fs := by
  obtain ⟨h1, h2, h3 | ⟨b, o, h3, h4⟩⟩ := h
  · exact ⟨h1, h2, .inl h3⟩
  · refine ⟨h1, h2, .inr ⟨b, o, h3, fun i hi => ?_⟩⟩
    have h5 := h4 i hi
    rw [hb.cell (show b < B from Nat.lt_of_lt_of_le (World.block_lt_of_cell? w _ h5) hB)]
    exact h5
theorem own_quadAt {w : World} {base : Nat} {e : TypeId} {g n cap : Nat} {fs : List Int} (h : w.ownsRow base e 4 (.slice (some ⟨g, 0, none⟩) n cap) n (fs.map I)) (hn : n ≤ 1048576) : QuadAt w (some ⟨g, 0, none⟩) n fs := by
  have hl : fs.length = n * 4 := by have := h.1; simpa using this
  refine ⟨hl, hn, .inr ⟨g, 0, rfl, fun i hi => ?_⟩⟩
  rw [Nat.zero_add, h.cellAt i (by omega), List.getElem?_map, List.getElem?_eq_getElem (by omega)]
  simp [List.getD, show i < fs.length by omega]
theorem made_quads (n : Nat) : (madeCells (Value.agg #[.int .i64 0, .int .i64 0, .int .i64 0, .int .i64 0]).cells n).toList = List.replicate n (Value.int .i64 0) := by
  apply List.ext_getElem?
  intro j
  by_cases hj : j < n
  · have h2 : j % 4 = 0 ∨ j % 4 = 1 ∨ j % 4 = 2 ∨ j % 4 = 3 := by omega
    rcases h2 with h2 | h2 | h2 | h2 <;> simp [madeCells, hj, Value.cells, h2]
  · simp [madeCells, hj]
theorem take_four {fs gs : List Int} {k : Nat} (hf : k * 4 + 3 < fs.length) (hg : k * 4 + 3 < gs.length) (h : fs.take (k * 4) = gs.take (k * 4)) (e1 : fs.getD (k * 4) 0 = gs.getD (k * 4) 0) (e2 : fs.getD (k * 4 + 1) 0 = gs.getD (k * 4 + 1) 0) (e3 : fs.getD (k * 4 + 2) 0 = gs.getD (k * 4 + 2) 0) (e4 : fs.getD (k * 4 + 3) 0 = gs.getD (k * 4 + 3) 0) : fs.take ((k + 1) * 4) = gs.take ((k + 1) * 4) := by
  rw [show (k + 1) * 4 = k * 4 + 1 + 1 + 1 + 1 by omega]
  exact take_nextI (by omega) (by omega) (take_nextI (by omega) (by omega) (take_nextI (by omega) (by omega) (take_nextI (by omega) (by omega) h e1) e2) e3) e4

/-- The numbers of fours, one behind the other. -/
def flat4 (f : Nat → Int × Int × Int × Int) (n : Nat) : List Int := (List.range n).flatMap fun i => [(f i).1, (f i).2.1, (f i).2.2.1, (f i).2.2.2]
theorem flat4_succ (f : Nat → Int × Int × Int × Int) (n : Nat) : flat4 f (n + 1) = flat4 f n ++ [(f n).1, (f n).2.1, (f n).2.2.1, (f n).2.2.2] := by
  unfold flat4; rw [List.range_succ, List.flatMap_append]; simp
theorem flat4_len (f : Nat → Int × Int × Int × Int) (n : Nat) : (flat4 f n).length = n * 4 := by
  induction n with
  | zero => rfl
  | succ n ih => rw [flat4_succ, List.length_append, ih]; simp; omega
theorem flat4_at (f : Nat → Int × Int × Int × Int) (n : Nat) : ∀ i, i < n → (flat4 f n).getD (i * 4) 0 = (f i).1 ∧ (flat4 f n).getD (i * 4 + 1) 0 = (f i).2.1 ∧ (flat4 f n).getD (i * 4 + 2) 0 = (f i).2.2.1 ∧ (flat4 f n).getD (i * 4 + 3) 0 = (f i).2.2.2 := by
  induction n with
  | zero => intro i hi; omega
  | succ n ih =>
    intro i hi
    have hl := flat4_len f n
    rw [flat4_succ]
    simp only [List.getD_eq_getElem?_getD] at ih ⊢
    by_cases h : i < n
    · rw [List.getElem?_append_left (by omega), List.getElem?_append_left (by omega), List.getElem?_append_left (by omega), List.getElem?_append_left (by omega)]
      exact ih i h
    · obtain rfl : i = n := by omega
      rw [List.getElem?_append_right (by omega), List.getElem?_append_right (by omega), List.getElem?_append_right (by omega), List.getElem?_append_right (by omega), hl, Nat.sub_self, show i * 4 + 1 - i * 4 = 1 by omega, show i * 4 + 2 - i * 4 = 2 by omega, show i * 4 + 3 - i * 4 = 3 by omega]
      exact ⟨rfl, rfl, rfl, rfl⟩
theorem flat4_mem {f : Nat → Int × Int × Int × Int} {n : Nat} {P : Int → Prop} (h : ∀ i, i < n → P (f i).1 ∧ P (f i).2.1 ∧ P (f i).2.2.1 ∧ P (f i).2.2.2) : ∀ x ∈ flat4 f n, P x := by
  intro x hx
  unfold flat4 at hx
  obtain ⟨i, hi, hx⟩ := List.mem_flatMap.1 hx
  have := h i (List.mem_range.1 hi)
  simp only [List.mem_cons, List.not_mem_nil, or_false] at hx
  rcases hx with rfl | rfl | rfl | rfl
  · exact this.1
  · exact this.2.1
  · exact this.2.2.1
  · exact this.2.2.2

set_option maxRecDepth 100000 in
/-- A list of structs of four ints that came in, by its cells, opened. -/
theorem open_quads {H : Type} {enc : TypeId × Value → H} {W : World} {base : Nat} {held : Bool} {t e : TypeId} {f0 f1 f2 f3 : Field} {fuel : Nat} {v : Value} {x : DataW H × List MemPlace}
    (ht : Tryd.prog.underlying t = some (.slice e)) (he : Tryd.prog.underlying e = some (.struct #[f0, f1, f2, f3])) (ce : Tryd.prog.cellsOf e = 4) (o0 : f0.offset = 0) (o1 : f1.offset = 1) (o2 : f2.offset = 2) (o3 : f3.offset = 3)
    (c0 : Tryd.prog.cellsOf f0.type = 1) (c1 : Tryd.prog.cellsOf f1.type = 1) (c2 : Tryd.prog.cellsOf f2.type = 1) (c3 : Tryd.prog.cellsOf f3.type = 1) (i0 : Tryd.prog.underlying f0.type = some (.int .i64)) (i1 : Tryd.prog.underlying f1.type = some (.int .i64)) (i2 : Tryd.prog.underlying f2.type = some (.int .i64)) (i3 : Tryd.prog.underlying f3.type = some (.int .i64))
    (h : DataW.trod enc Tryd.prog W base (fun _ => true) held fuel t [v] = some x) :
    ∃ (a : Option Addr) (n c : Nat) (fs : List Int), v = .slice a n c ∧ n ≤ 9223372036854775807 ∧ (∀ x ∈ fs, (Lit.int .i64 x).wf = true) ∧ (n ≤ 1048576 → QuadAt W a n fs) := by
  rcases Go.Deep.open_slice ht h with ⟨hcs, _⟩ | ⟨a, len, cap, m, k, D, Pl, hcs, hb, hl, hm, hmm, _, hx⟩
  · obtain rfl : v = .slice none 0 0 := by simpa using hcs
    exact ⟨none, 0, 0, [], rfl, by omega, fun x hx => by simp at hx, fun _ => ⟨rfl, by omega, .inl rfl⟩⟩
  · obtain rfl : v = .slice (some a) len cap := by simpa using hcs
    have hlm : len ≤ m := by rw [hmm]; split <;> omega
    have each : ∀ i, i < len → ∃ z : Int × Int × Int × Int, W.cell? (a.add (i * 4)) = some (I z.1) ∧ W.cell? (a.add (i * 4 + 1)) = some (I z.2.1) ∧ W.cell? (a.add (i * 4 + 2)) = some (I z.2.2.1) ∧ W.cell? (a.add (i * 4 + 3)) = some (I z.2.2.2) ∧ (Lit.int .i64 z.1).wf = true ∧ (Lit.int .i64 z.2.1).wf = true ∧ (Lit.int .i64 z.2.2.1).wf = true ∧ (Lit.int .i64 z.2.2.2).wf = true := by
      intro i hi
      obtain ⟨cs', h1, h2⟩ := hx i (by omega)
      rw [ce] at h1
      obtain ⟨_, hlen, hcell⟩ := World.cells?_some h1
      obtain ⟨xs, k', hk, hxy, _, hxl, hf⟩ := DataW.trod_struct he h2
      match xs, hxl, cs', hlen with
      | [y0, y1, y2, y3], _, [v0, v1, v2, v3], _ =>
        have g0 := hf 0 f0 rfl
        have g1 := hf 1 f1 rfl
        have g2 := hf 2 f2 rfl
        have g3 := hf 3 f3 rfl
        simp [o0, o1, o2, o3, c0, c1, c2, c3] at g0 g1 g2 g3
        have e0 := hcell 0 (by omega)
        have e1 := hcell 1 (by omega)
        have e2 := hcell 2 (by omega)
        have e3 := hcell 3 (by omega)
        rw [Go.Deep.add_add] at e0 e1 e2 e3
        obtain ⟨z0, q0, _, w0⟩ := DataW.trod_int i0 g0
        obtain ⟨z1, q1, _, w1⟩ := DataW.trod_int i1 g1
        obtain ⟨z2, q2, _, w2⟩ := DataW.trod_int i2 g2
        obtain ⟨z3, q3, _, w3⟩ := DataW.trod_int i3 g3
        obtain rfl : v0 = I z0 := by simpa using q0
        obtain rfl : v1 = I z1 := by simpa using q1
        obtain rfl : v2 = I z2 := by simpa using q2
        obtain rfl : v3 = I z3 := by simpa using q3
        exact ⟨(z0, z1, z2, z3), by simpa using e0, by simpa using e1, by simpa using e2, by simpa using e3, w0, w1, w2, w3⟩
    obtain ⟨z, hz⟩ := Go.Deep.choose_lt each
    have hL := flat4_len z len
    have hAt := flat4_at z len
    refine ⟨some a, len, cap, flat4 z len, rfl, by unfold maxLen at hm; omega, flat4_mem fun i hi => ⟨(hz i hi).2.2.2.2.1, (hz i hi).2.2.2.2.2.1, (hz i hi).2.2.2.2.2.2.1, (hz i hi).2.2.2.2.2.2.2⟩, fun hn => ⟨hL, hn, ?_⟩⟩
    by_cases h0 : len = 0
    · exact .inl h0
    · have hcells : ∀ i, i < (flat4 z len).length → W.cell? (a.add i) = some (.int .i64 ((flat4 z len).getD i 0)) := fun i hi => by
        rw [hL] at hi
        obtain ⟨c0, c1, c2, c3, _⟩ := hz (i / 4) (by omega)
        have q := hAt (i / 4) (by omega)
        rcases (show i % 4 = 0 ∨ i % 4 = 1 ∨ i % 4 = 2 ∨ i % 4 = 3 by omega) with e | e | e | e
        · have e' : i = i / 4 * 4 := by omega
          rw [e', c0, q.1]
        · have e' : i = i / 4 * 4 + 1 := by omega
          rw [e', c1, q.2.1]
        · have e' : i = i / 4 * 4 + 2 := by omega
          rw [e', c2, q.2.2.1]
        · have e' : i = i / 4 * 4 + 3 := by omega
          rw [e', c3, q.2.2.2]
      obtain ⟨b, o, rfl, hc⟩ := ints_at hcells (by omega)
      exact .inr ⟨b, o, rfl, fun i hi => hc i (by omega)⟩
end Go.Proofs.YtkelhndijgakdaaDoor
