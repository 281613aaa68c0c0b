/- Lists of structs of k numbers each, as they lie in memory, number by number. No program. -/
import Derived.Test.YtkelhndijgakdaaDoorQuad
import Derived.Test.YtkelhndijgakdaaDoorOwnsF
import Derived.Test.YtkelhndijgakdaaDoorClone
import Derived.Lib.LazyBuf
namespace Go.Proofs.YtkelhndijgakdaaDoor
open Go.ChangeShapes Go.WideShapes Go.ChangeAt Go.RowKit Go.Joins

/-- n structs of k numbers lie there. -/
def KAt (k : Nat) (w : World) (a : Option Addr) (n : Nat) (fs : List Int) : Prop :=
  fs.length = n * k ∧ n ≤ 2097152 ∧ (n = 0 ∨ ∃ b o, a = some ⟨b, o, none⟩ ∧ ∀ i, i < n * k → w.cell? ⟨b, o + i, none⟩ = some (I (fs.getD i 0)))
theorem KAt.below {k : Nat} {w w' : World} {a : Option Addr} {n : Nat} {fs : List Int} (h : KAt k w a n fs) {B : Nat} (hb : Below B w w') (hB : w.heap.size ≤ B) : KAt k w' a n fs := by
  obtain ⟨h1, h2, h3 | ⟨b, o, h3, h4⟩⟩ := h
  · exact ⟨h1, h2, .inl h3⟩
  · refine ⟨h1, h2, .inr ⟨b, o, h3, fun i hi => ?_⟩⟩
    have h5 := h4 i hi
    rw [hb.cell (show b < B from Nat.lt_of_lt_of_le (World.block_lt_of_cell? w _ h5) hB)]
    exact h5
theorem own_kAt {k : Nat} {w : World} {base : Nat} {e : TypeId} {g n cap : Nat} {fs : List Int} (h : w.ownsRow base e k (.slice (some ⟨g, 0, none⟩) n cap) n (fs.map I)) (hn : n ≤ 2097152) : KAt k w (some ⟨g, 0, none⟩) n fs := by
  have hl : fs.length = n * k := by have := h.1; simpa using this
  refine ⟨hl, hn, .inr ⟨g, 0, rfl, fun i hi => ?_⟩⟩
  rw [Nat.zero_add, h.cellAt i hi, List.getElem?_map, List.getElem?_eq_getElem (by omega)]
  simp [List.getD, show i < fs.length by omega]
theorem owns_kAt {k : Nat} {w : World} {base : Nat} {e : TypeId} {n c : Nat} {a : Option Addr} {fs : List Int} (h : w.ownsRow base e k (.slice a n c) n (fs.map I)) (hn : n ≤ 2097152) : KAt k w a n fs := by
  rcases owns_forms h with ⟨h2, h3⟩ | ⟨g, cap, hv⟩
  · subst h3
    exact ⟨by have := h.1; simpa using this, by omega, .inl rfl⟩
  · cases hv
    exact own_kAt h hn
theorem owns_v {k : Nat} {w : World} {base : Nat} {e : TypeId} {n : Nat} {v : Value} {fs : List Int} (h : w.ownsRow base e k v n (fs.map I)) (hn : n ≤ 2097152) : ∃ a c, v = .slice a n c ∧ n ≤ c ∧ KAt k w a n fs := by
  obtain ⟨a, c, rfl, hc⟩ := owns_slice h
  exact ⟨a, c, rfl, hc, owns_kAt h hn⟩
theorem own_emptyK {w : World} {base : Nat} {T : TypeId} {size : Nat} (hb : base ≤ w.heap.size) : (w.alloc (.cells #[] T)).ownsRow base T size (.slice (some ⟨w.heap.size, 0, none⟩) 0 0) 0 [] :=
  ⟨by simp, .inr ⟨w.heap.size, 0, #[], rfl, hb, (by show (w.heap.push _)[w.heap.size]? = _; simp), Nat.le_refl _, by unfold maxLen; omega, by simp, by simp⟩⟩
theorem eql_nilK {P : Program} (w : World) {t e : TypeId} {a : Option Addr} {l c : Nat} (h : P.underlying t = some (.slice e)) : (binOp .eql t (.slice a l c) (.slice none 0 0)).run P w = .ok (.bool a.isNone) w := by
  simp [binOp, run_equal_slice_nil w t e a l c h]
theorem KAt.src {k : Nat} {w : World} {ad : Addr} {n : Nat} {es : List Int} (h : KAt k w (some ad) n es) : ∀ j v, (es.map I)[j]? = some v → w.cell? (ad.add j) = some v := by
  intro j v hj
  rw [List.getElem?_map] at hj
  have hl : j < es.length := by
    rcases Nat.lt_or_ge j es.length with h1 | h1
    · exact h1
    · rw [List.getElem?_eq_none h1] at hj; cases hj
  rcases h.2.2 with h0 | ⟨b, o, he, g⟩
  · have := h.1; rw [h0] at this; omega
  · cases he
    have h1 := g j (by have := h.1; omega)
    have e : (⟨b, o, none⟩ : Addr).add j = ⟨b, o + j, none⟩ := by simp [Addr.add]
    rw [e, h1]
    rw [List.getElem?_eq_getElem hl] at hj
    simpa [List.getD, hl] using hj
theorem KAt.srcA {k : Nat} {w : World} {ad : Addr} {n : Nat} {es : List Int} {o : Obj} (h : KAt k w (some ad) n es) : ∀ j v, (es.map I)[j]? = some v → (w.alloc o).cell? (ad.add j) = some v := by
  intro j v hj
  have h1 := h.src j v hj
  rw [World.cell?_of_block (Below.heap_alloc _ _ _ (World.block_lt_of_cell? w _ h1))]
  exact h1
theorem newsK {es : List Int} : ∀ v ∈ es.map I, v.oneCell' = true := by
  intro v hv
  simp at hv
  obtain ⟨x, _, rfl⟩ := hv
  rfl
theorem KAt.nilE {k : Nat} {w : World} {n : Nat} {es : List Int} (h : KAt k w none n es) : n = 0 ∧ es = [] := by
  have h0 : n = 0 := by
    rcases h.2.2 with h0 | ⟨_, _, he, _⟩
    · exact h0
    · cases he
  exact ⟨h0, List.length_eq_zero_iff.1 (by have := h.1; rw [h0] at this; simpa using this)⟩
theorem KAt.cut {k m : Nat} {w : World} {a : Option Addr} {n : Nat} {fs : List Int} (h : KAt k w a n fs) (hm : m ≤ n) : KAt k w a m (fs.take (m * k)) := by
  have hl : m * k ≤ n * k := Nat.mul_le_mul_right k hm
  refine ⟨by rw [List.length_take, h.1]; omega, Nat.le_trans hm h.2.1, ?_⟩
  rcases h.2.2 with h0 | ⟨b, o, e, g⟩
  · exact .inl (by omega)
  · refine .inr ⟨b, o, e, fun i hi => ?_⟩
    rw [g i (by omega)]
    simp [List.getD, hi]
theorem KAt.of_trip {w : World} {a : Option Addr} {n : Nat} {fs : List Int} (h : TripAt w a n fs) : KAt 3 w a n fs := ⟨h.1, by have := h.2.1; omega, h.2.2⟩
theorem KAt.of_quad {w : World} {a : Option Addr} {n : Nat} {fs : List Int} (h : QuadAt w a n fs) : KAt 4 w a n fs := ⟨h.1, by have := h.2.1; omega, h.2.2⟩
theorem take_two' {fs gs : List Int} {k : Nat} (hf : k * 2 + 1 < fs.length) (hg : k * 2 + 1 < gs.length) (h : fs.take (k * 2) = gs.take (k * 2)) (e0 : fs.getD (k * 2) 0 = gs.getD (k * 2) 0) (e1 : fs.getD (k * 2 + 1) 0 = gs.getD (k * 2 + 1) 0) : fs.take ((k + 1) * 2) = gs.take ((k + 1) * 2) := by
  rw [show (k + 1) * 2 = k * 2 + 1 + 1 by omega]
  exact (take_nextI (by omega) (by omega) (take_nextI (by omega) (by omega) h e0) e1)
theorem take_three' {fs gs : List Int} {k : Nat} (hf : k * 3 + 2 < fs.length) (hg : k * 3 + 2 < gs.length) (h : fs.take (k * 3) = gs.take (k * 3)) (e0 : fs.getD (k * 3) 0 = gs.getD (k * 3) 0) (e1 : fs.getD (k * 3 + 1) 0 = gs.getD (k * 3 + 1) 0) (e2 : fs.getD (k * 3 + 2) 0 = gs.getD (k * 3 + 2) 0) : fs.take ((k + 1) * 3) = gs.take ((k + 1) * 3) := by
  rw [show (k + 1) * 3 = k * 3 + 1 + 1 + 1 by omega]
  exact (take_nextI (by omega) (by omega) (take_nextI (by omega) (by omega) (take_nextI (by omega) (by omega) h e0) e1) e2)
theorem take_four' {fs gs : List Int} {k : Nat} (hf : k * 4 + 3 < fs.length) (hg : k * 4 + 3 < gs.length) (h : fs.take (k * 4) = gs.take (k * 4)) (e0 : fs.getD (k * 4) 0 = gs.getD (k * 4) 0) (e1 : fs.getD (k * 4 + 1) 0 = gs.getD (k * 4 + 1) 0) (e2 : fs.getD (k * 4 + 2) 0 = gs.getD (k * 4 + 2) 0) (e3 : fs.getD (k * 4 + 3) 0 = gs.getD (k * 4 + 3) 0) : fs.take ((k + 1) * 4) = gs.take ((k + 1) * 4) := by
  rw [show (k + 1) * 4 = k * 4 + 1 + 1 + 1 + 1 by omega]
  exact (take_nextI (by omega) (by omega) (take_nextI (by omega) (by omega) (take_nextI (by omega) (by omega) (take_nextI (by omega) (by omega) h e0) e1) e2) e3)
theorem made_2 (n : Nat) : (madeCells (Value.agg #[.int .i64 0, .int .i64 0]).cells n).toList = List.replicate n (Value.int .i64 0) := by
  apply List.ext_getElem?
  intro j
  by_cases hj : j < n
  · have h2 : j % 2 = 0 ∨ j % 2 = 1 := by omega
    rcases h2 with h2 | h2 <;> simp [madeCells, hj, Value.cells, h2]
  · simp [madeCells, hj]
theorem made_3 (n : Nat) : (madeCells (Value.agg #[.int .i64 0, .int .i64 0, .int .i64 0]).cells n).toList = List.replicate n (Value.int .i64 0) := by
  apply List.ext_getElem?
  intro j
  by_cases hj : j < n
  · have h2 : j % 3 = 0 ∨ j % 3 = 1 ∨ j % 3 = 2 := by omega
    rcases h2 with h2 | h2 | h2 <;> simp [madeCells, hj, Value.cells, h2]
  · simp [madeCells, hj]
theorem made_4 (n : Nat) : (madeCells (Value.agg #[.int .i64 0, .int .i64 0, .int .i64 0, .int .i64 0]).cells n).toList = List.replicate n (Value.int .i64 0) := by
  apply List.ext_getElem?
  intro j
  by_cases hj : j < n
  · have h2 : j % 4 = 0 ∨ j % 4 = 1 ∨ j % 4 = 2 ∨ j % 4 = 3 := by omega
    rcases h2 with h2 | h2 | h2 | h2 <;> simp [madeCells, hj, Value.cells, h2]
  · simp [madeCells, hj]
theorem Asc.two {zs : List Int} {k q : Int} {j : Nat} (h : Asc zs k (j * 2)) (hl : j * 2 + 1 < zs.length) (hq : k + (j : Int) * 2 = q) : Asc (List.set (List.set zs (j * 2) (q)) (j * 2 + 1) (q + 1)) k ((j + 1) * 2) := by
  intro i hi
  by_cases e1 : i = j * 2 + 1
  · subst e1
    rw [List.getElem?_set_self (by (try simp only [List.length_set]); omega)]
    congr 1; push_cast; omega
  rw [List.getElem?_set_ne (by omega)]
  by_cases e0 : i = j * 2
  · subst e0
    rw [List.getElem?_set_self (by (try simp only [List.length_set]); omega)]
    congr 1; push_cast; omega
  rw [List.getElem?_set_ne (by omega)]
  exact h i (by omega)
theorem Asc.three' {zs : List Int} {k q : Int} {j : Nat} (h : Asc zs k (j * 3)) (hl : j * 3 + 2 < zs.length) (hq : k + (j : Int) * 3 = q) : Asc (List.set (List.set (List.set zs (j * 3) (q)) (j * 3 + 1) (q + 1)) (j * 3 + 2) (q + 1 + 1)) k ((j + 1) * 3) := by
  intro i hi
  by_cases e2 : i = j * 3 + 2
  · subst e2
    rw [List.getElem?_set_self (by (try simp only [List.length_set]); omega)]
    congr 1; push_cast; omega
  rw [List.getElem?_set_ne (by omega)]
  by_cases e1 : i = j * 3 + 1
  · subst e1
    rw [List.getElem?_set_self (by (try simp only [List.length_set]); omega)]
    congr 1; push_cast; omega
  rw [List.getElem?_set_ne (by omega)]
  by_cases e0 : i = j * 3
  · subst e0
    rw [List.getElem?_set_self (by (try simp only [List.length_set]); omega)]
    congr 1; push_cast; omega
  rw [List.getElem?_set_ne (by omega)]
  exact h i (by omega)
theorem Asc.four {zs : List Int} {k q : Int} {j : Nat} (h : Asc zs k (j * 4)) (hl : j * 4 + 3 < zs.length) (hq : k + (j : Int) * 4 = q) : Asc (List.set (List.set (List.set (List.set zs (j * 4) (q)) (j * 4 + 1) (q + 1)) (j * 4 + 2) (q + 1 + 1)) (j * 4 + 3) (q + 1 + 1 + 1)) k ((j + 1) * 4) := by
  intro i hi
  by_cases e3 : i = j * 4 + 3
  · subst e3
    rw [List.getElem?_set_self (by (try simp only [List.length_set]); omega)]
    congr 1; push_cast; omega
  rw [List.getElem?_set_ne (by omega)]
  by_cases e2 : i = j * 4 + 2
  · subst e2
    rw [List.getElem?_set_self (by (try simp only [List.length_set]); omega)]
    congr 1; push_cast; omega
  rw [List.getElem?_set_ne (by omega)]
  by_cases e1 : i = j * 4 + 1
  · subst e1
    rw [List.getElem?_set_self (by (try simp only [List.length_set]); omega)]
    congr 1; push_cast; omega
  rw [List.getElem?_set_ne (by omega)]
  by_cases e0 : i = j * 4
  · subst e0
    rw [List.getElem?_set_self (by (try simp only [List.length_set]); omega)]
    congr 1; push_cast; omega
  rw [List.getElem?_set_ne (by omega)]
  exact h i (by omega)

set_option maxRecDepth 100000 in
/-- A list of structs of two ints that came in, by its cells, opened. -/
theorem open_twos {H : Type} {enc : TypeId × Value → H} {W : World} {base : Nat} {held : Bool} {t e : TypeId} {f0 f1 : Field} {fuel : Nat} {v : Value} {x : DataW H × List MemPlace}
    (ht : Tryd.prog.underlying t = some (.slice e)) (he : Tryd.prog.underlying e = some (.struct #[f0, f1])) (ce : Tryd.prog.cellsOf e = 2) (o0 : f0.offset = 0) (o1 : f1.offset = 1)
    (c0 : Tryd.prog.cellsOf f0.type = 1) (c1 : Tryd.prog.cellsOf f1.type = 1) (i0 : Tryd.prog.underlying f0.type = some (.int .i64)) (i1 : Tryd.prog.underlying f1.type = some (.int .i64))
    (h : DataW.trod enc Tryd.prog W base (fun _ => true) held fuel t [v] = some x) :
    ∃ (a : Option Addr) (n c : Nat) (fs : List Int), v = .slice a n c ∧ n ≤ 9223372036854775807 ∧ (n ≤ 1048576 → KAt 2 W a n fs) := by
  rcases Go.Deep.open_slice ht h with ⟨hcs, _⟩ | ⟨a, len, cap, m, k, D, Pl, hcs, hb, hl, hm, hmm, _, hx⟩
  · obtain rfl : v = .slice none 0 0 := by simpa using hcs
    exact ⟨none, 0, 0, [], rfl, by omega, fun _ => ⟨rfl, by omega, .inl rfl⟩⟩
  · obtain rfl : v = .slice (some a) len cap := by simpa using hcs
    have hlm : len ≤ m := by rw [hmm]; split <;> omega
    have each : ∀ i, i < len → ∃ z : Int × Int, W.cell? (a.add (i * 2)) = some (I z.1) ∧ W.cell? (a.add (i * 2 + 1)) = some (I z.2) := by
      intro i hi
      obtain ⟨cs', h1, h2⟩ := hx i (by omega)
      rw [ce] at h1
      obtain ⟨_, hlen, hcell⟩ := World.cells?_some h1
      obtain ⟨xs, k', hk, hxy, _, hxl, hf⟩ := DataW.trod_struct he h2
      match xs, hxl, cs', hlen with
      | [y0, y1], _, [v0, v1], _ =>
        have g0 := hf 0 f0 rfl
        have g1 := hf 1 f1 rfl
        simp [o0, o1, c0, c1] at g0 g1
        have e0 := hcell 0 (by omega)
        have e1 := hcell 1 (by omega)
        rw [Go.Deep.add_add] at e0 e1
        obtain ⟨z0, q0, _, w0⟩ := DataW.trod_int i0 g0
        obtain ⟨z1, q1, _, w1⟩ := DataW.trod_int i1 g1
        obtain rfl : v0 = I z0 := by simpa using q0
        obtain rfl : v1 = I z1 := by simpa using q1
        exact ⟨(z0, z1), by simpa using e0, by simpa using e1⟩
    obtain ⟨z, hz⟩ := Go.Deep.choose_lt each
    have hl2 : ∀ n, ((List.range n).flatMap fun i => [(z i).1, (z i).2]).length = n * 2 := fun n => by
      induction n with
      | zero => rfl
      | succ n ih => rw [List.range_succ, List.flatMap_append, List.length_append, ih]; simp; omega
    have hat2 : ∀ n i, i < n → ((List.range n).flatMap fun i => [(z i).1, (z i).2]).getD (i * 2) 0 = (z i).1 ∧ ((List.range n).flatMap fun i => [(z i).1, (z i).2]).getD (i * 2 + 1) 0 = (z i).2 := fun n => by
      induction n with
      | zero => intro i hi; omega
      | succ n ih =>
        intro i hi
        have hl := hl2 n
        rw [List.range_succ, List.flatMap_append]
        simp only [List.getD_eq_getElem?_getD] at ih ⊢
        by_cases h : i < n
        · rw [List.getElem?_append_left (by omega), List.getElem?_append_left (by omega)]
          exact ih i h
        · obtain rfl : i = n := by omega
          rw [List.getElem?_append_right (by omega), List.getElem?_append_right (by omega), hl, Nat.sub_self, show i * 2 + 1 - i * 2 = 1 by omega]
          simp
    refine ⟨some a, len, cap, (List.range len).flatMap fun i => [(z i).1, (z i).2], rfl, by unfold maxLen at hm; omega, fun hn => ⟨hl2 len, by omega, ?_⟩⟩
    by_cases h0 : len = 0
    · exact .inl h0
    · have hcells : ∀ i, i < ((List.range len).flatMap fun i => [(z i).1, (z i).2]).length → W.cell? (a.add i) = some (.int .i64 (((List.range len).flatMap fun i => [(z i).1, (z i).2]).getD i 0)) := fun i hi => by
        rw [hl2 len] at hi
        obtain ⟨c0, c1⟩ := hz (i / 2) (by omega)
        have q := hat2 len (i / 2) (by omega)
        rcases (show i % 2 = 0 ∨ i % 2 = 1 by omega) with e | e
        · have e' : i = i / 2 * 2 := by omega
          rw [e', c0, q.1]
        · have e' : i = i / 2 * 2 + 1 := by omega
          rw [e', c1, q.2]
      obtain ⟨b, o, rfl, hc⟩ := ints_at hcells (by rw [hl2 len]; omega)
      exact .inr ⟨b, o, rfl, fun i hi => hc i (by rw [hl2 len]; omega)⟩
end Go.Proofs.YtkelhndijgakdaaDoor
