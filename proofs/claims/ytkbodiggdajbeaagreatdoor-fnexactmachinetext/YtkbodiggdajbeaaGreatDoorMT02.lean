/- Texts joined: KRow, InB, Mch, Txt15, Dig, SpecNums, StrAt, KeyOk, ValOk, SpecOp, SpecTx, ResV, SpecTx2, SpecTx3, EightB, SpecCt. -/
import Derived.Test.YtkbodiggdajbeaaGreatDoorMT01
import Derived.Lib.LazyBuf
import Derived.Test.YtkbodiggdajbeaaGreatDoorRows
import Derived.WalkKit
import Derived.ProofKit
import Derived.Laws.BytesArg
import Derived.WalkSmall
import Derived.Deep.RegionWith
import Derived.Deep.RegionHeld3
import Derived.Deep.Cut
import Derived.Handy
/- Lists of structs of k numbers each, as they lie in memory, number by number. No program. -/
namespace Go.Proofs.YtkbodiggdajbeaaGreatDoor
open Go.ChangeShapes Go.WideShapes Go.ChangeAt Go.RowKit Go.Joins

/-- n structs of k numbers lie there. -/
def KAt (k : Nat) (w : World) (a : Option Addr) (n : Nat) (fs : List Int) : Prop :=
  fs.length = n * k ∧ n ≤ 2097152 ∧ (n = 0 ∨ ∃ b o, a = some ⟨b, o, none⟩ ∧ ∀ i, i < n * k → w.cell? ⟨b, o + i, none⟩ = some (I (fs.getD i 0)))
theorem KAt.below {k : Nat} {w w' : World} {a : Option Addr} {n : Nat} {fs : List Int} (h : KAt k w a n fs) {B : Nat} (hb : Below B w w') (hB : w.heap.size ≤ B) : KAt k w' a n fs := by
  obtain ⟨h1, h2, h3 | ⟨b, o, h3, h4⟩⟩ := h
  · exact ⟨h1, h2, .inl h3⟩
  · refine ⟨h1, h2, .inr ⟨b, o, h3, fun i hi => ?_⟩⟩
    have h5 := h4 i hi
    rw [hb.cell (show b < B from Nat.lt_of_lt_of_le (World.block_lt_of_cell? w _ h5) hB)]
    exact h5
theorem own_kAt {k : Nat} {w : World} {base : Nat} {e : TypeId} {g n cap : Nat} {fs : List Int} (h : w.ownsRow base e k (.slice (some ⟨g, 0, none⟩) n cap) n (fs.map I)) (hn : n ≤ 2097152) : KAt k w (some ⟨g, 0, none⟩) n fs := by
  have hl : fs.length = n * k := by have := h.1; simpa using this
  refine ⟨hl, hn, .inr ⟨g, 0, rfl, fun i hi => ?_⟩⟩
  rw [Nat.zero_add, h.cellAt i hi, List.getElem?_map, List.getElem?_eq_getElem (by omega)]
  simp [List.getD, show i < fs.length by omega]
theorem owns_kAt {k : Nat} {w : World} {base : Nat} {e : TypeId} {n c : Nat} {a : Option Addr} {fs : List Int} (h : w.ownsRow base e k (.slice a n c) n (fs.map I)) (hn : n ≤ 2097152) : KAt k w a n fs := by
  rcases owns_forms h with ⟨h2, h3⟩ | ⟨g, cap, hv⟩
  · subst h3
    exact ⟨by have := h.1; simpa using this, by omega, .inl rfl⟩
  · cases hv
    exact own_kAt h hn
theorem owns_v {k : Nat} {w : World} {base : Nat} {e : TypeId} {n : Nat} {v : Value} {fs : List Int} (h : w.ownsRow base e k v n (fs.map I)) (hn : n ≤ 2097152) : ∃ a c, v = .slice a n c ∧ n ≤ c ∧ KAt k w a n fs := by
  obtain ⟨a, c, rfl, hc⟩ := owns_slice h
  exact ⟨a, c, rfl, hc, owns_kAt h hn⟩
theorem own_emptyK {w : World} {base : Nat} {T : TypeId} {size : Nat} (hb : base ≤ w.heap.size) : (w.alloc (.cells #[] T)).ownsRow base T size (.slice (some ⟨w.heap.size, 0, none⟩) 0 0) 0 [] :=
  ⟨by simp, .inr ⟨w.heap.size, 0, #[], rfl, hb, (by show (w.heap.push _)[w.heap.size]? = _; simp), Nat.le_refl _, by unfold maxLen; omega, by simp, by simp⟩⟩
theorem eql_nilK {P : Program} (w : World) {t e : TypeId} {a : Option Addr} {l c : Nat} (h : P.underlying t = some (.slice e)) : (binOp .eql t (.slice a l c) (.slice none 0 0)).run P w = .ok (.bool a.isNone) w := by
  simp [binOp, run_equal_slice_nil w t e a l c h]
theorem KAt.src {k : Nat} {w : World} {ad : Addr} {n : Nat} {es : List Int} (h : KAt k w (some ad) n es) : ∀ j v, (es.map I)[j]? = some v → w.cell? (ad.add j) = some v := by
  intro j v hj
  rw [List.getElem?_map] at hj
  have hl : j < es.length := by
    rcases Nat.lt_or_ge j es.length with h1 | h1
    · exact h1
    · rw [List.getElem?_eq_none h1] at hj; cases hj
  rcases h.2.2 with h0 | ⟨b, o, he, g⟩
  · have := h.1; rw [h0] at this; omega
  · cases he
    have h1 := g j (by have := h.1; omega)
    have e : (⟨b, o, none⟩ : Addr).add j = ⟨b, o + j, none⟩ := by simp [Addr.add]
    rw [e, h1]
    rw [List.getElem?_eq_getElem hl] at hj
    simpa [List.getD, hl] using hj
theorem KAt.srcA {k : Nat} {w : World} {ad : Addr} {n : Nat} {es : List Int} {o : Obj} (h : KAt k w (some ad) n es) : ∀ j v, (es.map I)[j]? = some v → (w.alloc o).cell? (ad.add j) = some v := by
  intro j v hj
  have h1 := h.src j v hj
  rw [World.cell?_of_block (Below.heap_alloc _ _ _ (World.block_lt_of_cell? w _ h1))]
  exact h1
theorem newsK {es : List Int} : ∀ v ∈ es.map I, v.oneCell' = true := by
  intro v hv
  simp at hv
  obtain ⟨x, _, rfl⟩ := hv
  rfl
theorem KAt.nilE {k : Nat} {w : World} {n : Nat} {es : List Int} (h : KAt k w none n es) : n = 0 ∧ es = [] := by
  have h0 : n = 0 := by
    rcases h.2.2 with h0 | ⟨_, _, he, _⟩
    · exact h0
    · cases he
  exact ⟨h0, List.length_eq_zero_iff.1 (by have := h.1; rw [h0] at this; simpa using this)⟩
theorem KAt.cut {k m : Nat} {w : World} {a : Option Addr} {n : Nat} {fs : List Int} (h : KAt k w a n fs) (hm : m ≤ n) : KAt k w a m (fs.take (m * k)) := by
  have hl : m * k ≤ n * k := Nat.mul_le_mul_right k hm
  refine ⟨by rw [List.length_take, h.1]; omega, Nat.le_trans hm h.2.1, ?_⟩
  rcases h.2.2 with h0 | ⟨b, o, e, g⟩
  · exact .inl (by omega)
  · refine .inr ⟨b, o, e, fun i hi => ?_⟩
    rw [g i (by omega)]
    simp [List.getD, hi]
theorem KAt.of_trip {w : World} {a : Option Addr} {n : Nat} {fs : List Int} (h : TripAt w a n fs) : KAt 3 w a n fs := ⟨h.1, by have := h.2.1; omega, h.2.2⟩
theorem KAt.of_quad {w : World} {a : Option Addr} {n : Nat} {fs : List Int} (h : QuadAt w a n fs) : KAt 4 w a n fs := ⟨h.1, by have := h.2.1; omega, h.2.2⟩
theorem take_two' {fs gs : List Int} {k : Nat} (hf : k * 2 + 1 < fs.length) (hg : k * 2 + 1 < gs.length) (h : fs.take (k * 2) = gs.take (k * 2)) (e0 : fs.getD (k * 2) 0 = gs.getD (k * 2) 0) (e1 : fs.getD (k * 2 + 1) 0 = gs.getD (k * 2 + 1) 0) : fs.take ((k + 1) * 2) = gs.take ((k + 1) * 2) := by
  rw [show (k + 1) * 2 = k * 2 + 1 + 1 by omega]
  exact (take_nextI (by omega) (by omega) (take_nextI (by omega) (by omega) h e0) e1)
theorem take_three' {fs gs : List Int} {k : Nat} (hf : k * 3 + 2 < fs.length) (hg : k * 3 + 2 < gs.length) (h : fs.take (k * 3) = gs.take (k * 3)) (e0 : fs.getD (k * 3) 0 = gs.getD (k * 3) 0) (e1 : fs.getD (k * 3 + 1) 0 = gs.getD (k * 3 + 1) 0) (e2 : fs.getD (k * 3 + 2) 0 = gs.getD (k * 3 + 2) 0) : fs.take ((k + 1) * 3) = gs.take ((k + 1) * 3) := by
  rw [show (k + 1) * 3 = k * 3 + 1 + 1 + 1 by omega]
  exact (take_nextI (by omega) (by omega) (take_nextI (by omega) (by omega) (take_nextI (by omega) (by omega) h e0) e1) e2)
theorem take_four' {fs gs : List Int} {k : Nat} (hf : k * 4 + 3 < fs.length) (hg : k * 4 + 3 < gs.length) (h : fs.take (k * 4) = gs.take (k * 4)) (e0 : fs.getD (k * 4) 0 = gs.getD (k * 4) 0) (e1 : fs.getD (k * 4 + 1) 0 = gs.getD (k * 4 + 1) 0) (e2 : fs.getD (k * 4 + 2) 0 = gs.getD (k * 4 + 2) 0) (e3 : fs.getD (k * 4 + 3) 0 = gs.getD (k * 4 + 3) 0) : fs.take ((k + 1) * 4) = gs.take ((k + 1) * 4) := by
  rw [show (k + 1) * 4 = k * 4 + 1 + 1 + 1 + 1 by omega]
  exact (take_nextI (by omega) (by omega) (take_nextI (by omega) (by omega) (take_nextI (by omega) (by omega) (take_nextI (by omega) (by omega) h e0) e1) e2) e3)
theorem made_2 (n : Nat) : (madeCells (Value.agg #[.int .i64 0, .int .i64 0]).cells n).toList = List.replicate n (Value.int .i64 0) := by
  apply List.ext_getElem?
  intro j
  by_cases hj : j < n
  · have h2 : j % 2 = 0 ∨ j % 2 = 1 := by omega
    rcases h2 with h2 | h2 <;> simp [madeCells, hj, Value.cells, h2]
  · simp [madeCells, hj]
theorem made_3 (n : Nat) : (madeCells (Value.agg #[.int .i64 0, .int .i64 0, .int .i64 0]).cells n).toList = List.replicate n (Value.int .i64 0) := by
  apply List.ext_getElem?
  intro j
  by_cases hj : j < n
  · have h2 : j % 3 = 0 ∨ j % 3 = 1 ∨ j % 3 = 2 := by omega
    rcases h2 with h2 | h2 | h2 <;> simp [madeCells, hj, Value.cells, h2]
  · simp [madeCells, hj]
theorem made_4 (n : Nat) : (madeCells (Value.agg #[.int .i64 0, .int .i64 0, .int .i64 0, .int .i64 0]).cells n).toList = List.replicate n (Value.int .i64 0) := by
  apply List.ext_getElem?
  intro j
  by_cases hj : j < n
  · have h2 : j % 4 = 0 ∨ j % 4 = 1 ∨ j % 4 = 2 ∨ j % 4 = 3 := by omega
    rcases h2 with h2 | h2 | h2 | h2 <;> simp [madeCells, hj, Value.cells, h2]
  · simp [madeCells, hj]
theorem Asc.two {zs : List Int} {k q : Int} {j : Nat} (h : Asc zs k (j * 2)) (hl : j * 2 + 1 < zs.length) (hq : k + (j : Int) * 2 = q) : Asc (List.set (List.set zs (j * 2) (q)) (j * 2 + 1) (q + 1)) k ((j + 1) * 2) := by
  intro i hi
  by_cases e1 : i = j * 2 + 1
  · subst e1
    rw [List.getElem?_set_self (by (try simp only [List.length_set]); omega)]
    congr 1; push_cast; omega
  rw [List.getElem?_set_ne (by omega)]
  by_cases e0 : i = j * 2
  · subst e0
    rw [List.getElem?_set_self (by (try simp only [List.length_set]); omega)]
    congr 1; push_cast; omega
  rw [List.getElem?_set_ne (by omega)]
  exact h i (by omega)
theorem Asc.three' {zs : List Int} {k q : Int} {j : Nat} (h : Asc zs k (j * 3)) (hl : j * 3 + 2 < zs.length) (hq : k + (j : Int) * 3 = q) : Asc (List.set (List.set (List.set zs (j * 3) (q)) (j * 3 + 1) (q + 1)) (j * 3 + 2) (q + 1 + 1)) k ((j + 1) * 3) := by
  intro i hi
  by_cases e2 : i = j * 3 + 2
  · subst e2
    rw [List.getElem?_set_self (by (try simp only [List.length_set]); omega)]
    congr 1; push_cast; omega
  rw [List.getElem?_set_ne (by omega)]
  by_cases e1 : i = j * 3 + 1
  · subst e1
    rw [List.getElem?_set_self (by (try simp only [List.length_set]); omega)]
    congr 1; push_cast; omega
  rw [List.getElem?_set_ne (by omega)]
  by_cases e0 : i = j * 3
  · subst e0
    rw [List.getElem?_set_self (by (try simp only [List.length_set]); omega)]
    congr 1; push_cast; omega
  rw [List.getElem?_set_ne (by omega)]
  exact h i (by omega)
theorem Asc.four {zs : List Int} {k q : Int} {j : Nat} (h : Asc zs k (j * 4)) (hl : j * 4 + 3 < zs.length) (hq : k + (j : Int) * 4 = q) : Asc (List.set (List.set (List.set (List.set zs (j * 4) (q)) (j * 4 + 1) (q + 1)) (j * 4 + 2) (q + 1 + 1)) (j * 4 + 3) (q + 1 + 1 + 1)) k ((j + 1) * 4) := by
  intro i hi
  by_cases e3 : i = j * 4 + 3
  · subst e3
    rw [List.getElem?_set_self (by (try simp only [List.length_set]); omega)]
    congr 1; push_cast; omega
  rw [List.getElem?_set_ne (by omega)]
  by_cases e2 : i = j * 4 + 2
  · subst e2
    rw [List.getElem?_set_self (by (try simp only [List.length_set]); omega)]
    congr 1; push_cast; omega
  rw [List.getElem?_set_ne (by omega)]
  by_cases e1 : i = j * 4 + 1
  · subst e1
    rw [List.getElem?_set_self (by (try simp only [List.length_set]); omega)]
    congr 1; push_cast; omega
  rw [List.getElem?_set_ne (by omega)]
  by_cases e0 : i = j * 4
  · subst e0
    rw [List.getElem?_set_self (by (try simp only [List.length_set]); omega)]
    congr 1; push_cast; omega
  rw [List.getElem?_set_ne (by omega)]
  exact h i (by omega)

set_option maxRecDepth 100000 in
/-- A list of structs of two ints that came in, by its cells, opened. -/
theorem open_twos {H : Type} {enc : TypeId × Value → H} {W : World} {base : Nat} {held : Bool} {t e : TypeId} {f0 f1 : Field} {fuel : Nat} {v : Value} {x : DataW H × List MemPlace}
    (ht : Tryz.prog.underlying t = some (.slice e)) (he : Tryz.prog.underlying e = some (.struct #[f0, f1])) (ce : Tryz.prog.cellsOf e = 2) (o0 : f0.offset = 0) (o1 : f1.offset = 1)
    (c0 : Tryz.prog.cellsOf f0.type = 1) (c1 : Tryz.prog.cellsOf f1.type = 1) (i0 : Tryz.prog.underlying f0.type = some (.int .i64)) (i1 : Tryz.prog.underlying f1.type = some (.int .i64))
    (h : DataW.trod enc Tryz.prog W base (fun _ => true) held fuel t [v] = some x) :
    ∃ (a : Option Addr) (n c : Nat) (fs : List Int), v = .slice a n c ∧ n ≤ 9223372036854775807 ∧ (n ≤ 1048576 → KAt 2 W a n fs) := by
  rcases Go.Deep.open_slice ht h with ⟨hcs, _⟩ | ⟨a, len, cap, m, k, D, Pl, hcs, hb, hl, hm, hmm, _, hx⟩
  · obtain rfl : v = .slice none 0 0 := by simpa using hcs
    exact ⟨none, 0, 0, [], rfl, by omega, fun _ => ⟨rfl, by omega, .inl rfl⟩⟩
  · obtain rfl : v = .slice (some a) len cap := by simpa using hcs
    have hlm : len ≤ m := by rw [hmm]; split <;> omega
    have each : ∀ i, i < len → ∃ z : Int × Int, W.cell? (a.add (i * 2)) = some (I z.1) ∧ W.cell? (a.add (i * 2 + 1)) = some (I z.2) := by
      intro i hi
      obtain ⟨cs', h1, h2⟩ := hx i (by omega)
      rw [ce] at h1
      obtain ⟨_, hlen, hcell⟩ := World.cells?_some h1
      obtain ⟨xs, k', hk, hxy, _, hxl, hf⟩ := DataW.trod_struct he h2
      match xs, hxl, cs', hlen with
      | [y0, y1], _, [v0, v1], _ =>
        have g0 := hf 0 f0 rfl
        have g1 := hf 1 f1 rfl
        simp [o0, o1, c0, c1] at g0 g1
        have e0 := hcell 0 (by omega)
        have e1 := hcell 1 (by omega)
        rw [Go.Deep.add_add] at e0 e1
        obtain ⟨z0, q0, _, w0⟩ := DataW.trod_int i0 g0
        obtain ⟨z1, q1, _, w1⟩ := DataW.trod_int i1 g1
        obtain rfl : v0 = I z0 := by simpa using q0
        obtain rfl : v1 = I z1 := by simpa using q1
        exact ⟨(z0, z1), by simpa using e0, by simpa using e1⟩
    obtain ⟨z, hz⟩ := Go.Deep.choose_lt each
    have hl2 : ∀ n, ((List.range n).flatMap fun i => [(z i).1, (z i).2]).length = n * 2 := fun n => by
      induction n with
      | zero => rfl
      | succ n ih => rw [List.range_succ, List.flatMap_append, List.length_append, ih]; simp; omega
    have hat2 : ∀ n i, i < n → ((List.range n).flatMap fun i => [(z i).1, (z i).2]).getD (i * 2) 0 = (z i).1 ∧ ((List.range n).flatMap fun i => [(z i).1, (z i).2]).getD (i * 2 + 1) 0 = (z i).2 := fun n => by
      induction n with
      | zero => intro i hi; omega
      | succ n ih =>
        intro i hi
        have hl := hl2 n
        rw [List.range_succ, List.flatMap_append]
        simp only [List.getD_eq_getElem?_getD] at ih ⊢
        by_cases h : i < n
        · rw [List.getElem?_append_left (by omega), List.getElem?_append_left (by omega)]
          exact ih i h
        · obtain rfl : i = n := by omega
          rw [List.getElem?_append_right (by omega), List.getElem?_append_right (by omega), hl, Nat.sub_self, show i * 2 + 1 - i * 2 = 1 by omega]
          simp
    refine ⟨some a, len, cap, (List.range len).flatMap fun i => [(z i).1, (z i).2], rfl, by unfold maxLen at hm; omega, fun hn => ⟨hl2 len, by omega, ?_⟩⟩
    by_cases h0 : len = 0
    · exact .inl h0
    · have hcells : ∀ i, i < ((List.range len).flatMap fun i => [(z i).1, (z i).2]).length → W.cell? (a.add i) = some (.int .i64 (((List.range len).flatMap fun i => [(z i).1, (z i).2]).getD i 0)) := fun i hi => by
        rw [hl2 len] at hi
        obtain ⟨c0, c1⟩ := hz (i / 2) (by omega)
        have q := hat2 len (i / 2) (by omega)
        rcases (show i % 2 = 0 ∨ i % 2 = 1 by omega) with e | e
        · have e' : i = i / 2 * 2 := by omega
          rw [e', c0, q.1]
        · have e' : i = i / 2 * 2 + 1 := by omega
          rw [e', c1, q.2]
      obtain ⟨b, o, rfl, hc⟩ := ints_at hcells (by rw [hl2 len]; omega)
      exact .inr ⟨b, o, rfl, fun i hi => hc i (by rw [hl2 len]; omega)⟩
end Go.Proofs.YtkbodiggdajbeaaGreatDoor

/- spec.l1In at whatever numbers, walked. -/
namespace Go.Proofs.YtkbodiggdajbeaaGreatDoor
open Go.ChangeShapes Go.WideShapes Go.ChangeAt Go.RowKit

/-- x lies from lo to hi. -/
def inB (x lo hi : Int) : Bool := decide (lo ≤ x ∧ x ≤ hi)
theorem inB_yes {x lo hi : Int} (h : lo ≤ x ∧ x ≤ hi) : inB x lo hi = true := decide_eq_true h
theorem inB_no {x lo hi : Int} (h : ¬ (lo ≤ x ∧ x ≤ hi)) : inB x lo hi = false := decide_eq_false h
theorem inB_val {x lo hi : Int} (h : inB x lo hi = true) : lo ≤ x ∧ x ≤ hi := by unfold inB at h; simpa using h
theorem l1In_g (x lo hi : Int) (w : World) : Calls Tryz.prog 65 #[.int .i64 x, .int .i64 lo, .int .i64 hi] w fun e w' => e = .returned (.bool (inB x lo hi)) ∧ w' = w := by
  by_cases h0 : lo ≤ x
  · by_cases h1 : x ≤ hi
    · rw [inB_yes ⟨h0, h1⟩]
      go_enter Tryz.func65, Tryz.ntmps65
      go_wp2
      go_ret
      exact ⟨rfl, rfl⟩
    · rw [inB_no (fun h => h1 h.2)]
      go_enter Tryz.func65, Tryz.ntmps65
      go_wp2
      go_ret
      exact ⟨rfl, rfl⟩
  · rw [inB_no (fun h => h0 h.1)]
    go_enter Tryz.func65, Tryz.ntmps65
    go_wp2
    go_ret
    exact ⟨rfl, rfl⟩
end Go.Proofs.YtkbodiggdajbeaaGreatDoor

/- A machine, in plain words: threads and calls as they lie in memory, and which of them can be. No program. -/
namespace Go.Proofs.YtkbodiggdajbeaaGreatDoor
open Go.ChangeShapes Go.WideShapes Go.ChangeAt Go.RowKit Go.Joins

/-- A thread: ops, at which, whether begun, what was read, whom it helps; numbers one behind the other. -/
structure ThD where
  n0 : Nat
  fs : List Int
  pc : Int
  on : Bool
  n1 : Nat
  gs : List Int
  n2 : Nat
  hs : List Int
/-- A call, without what came of it. -/
structure CaD where
  t : Int
  kd : Int
  k : Int
  v : Int
  st : Int
  ln : Int
  en : Int
  cd : Int
structure ThL (w : World) (a0 a1 a2 : Option Addr) (t : ThD) : Prop where
  ops : KAt 3 w a0 t.n0 t.fs
  got : KAt 2 w a1 t.n1 t.gs
  stk : KAt 4 w a2 t.n2 t.hs
theorem ThL.below {w w' : World} {a0 a1 a2 : Option Addr} {t : ThD} (h : ThL w a0 a1 a2 t) {B : Nat} (hb : Below B w w') (hB : w.heap.size ≤ B) : ThL w' a0 a1 a2 t :=
  ⟨h.ops.below hb hB, h.got.below hb hB, h.stk.below hb hB⟩
/-- The five cells of a thread. -/
def ThC (w : World) (b p : Nat) (t : ThD) (a0 : Option Addr) (c0 : Nat) (a1 : Option Addr) (c1 : Nat) (a2 : Option Addr) (c2 : Nat) : Prop :=
  w.cell? ⟨b, p, none⟩ = some (.slice a0 t.n0 c0) ∧ w.cell? ⟨b, p + 1, none⟩ = some (I t.pc) ∧ w.cell? ⟨b, p + 2, none⟩ = some (.bool t.on) ∧ w.cell? ⟨b, p + 3, none⟩ = some (.slice a1 t.n1 c1) ∧ w.cell? ⟨b, p + 4, none⟩ = some (.slice a2 t.n2 c2)
theorem ThC.below {w w' : World} {b p : Nat} {t : ThD} {a0 a1 a2 : Option Addr} {c0 c1 c2 : Nat} (h : ThC w b p t a0 c0 a1 c1 a2 c2) {B : Nat} (hb : Below B w w') (hB : w.heap.size ≤ B) : ThC w' b p t a0 c0 a1 c1 a2 c2 := by
  have hlt : b < B := Nat.lt_of_lt_of_le (World.block_lt_of_cell? w _ h.1) hB
  obtain ⟨h0, h1, h2, h3, h4⟩ := h
  exact ⟨(hb.cell hlt).trans h0, (hb.cell hlt).trans h1, (hb.cell hlt).trans h2, (hb.cell hlt).trans h3, (hb.cell hlt).trans h4⟩
/-- n threads lie there. -/
def ThsAt (w : World) (a : Option Addr) (n : Nat) (ts : Nat → ThD) : Prop :=
  n ≤ 2097152 ∧ (n = 0 ∨ ∃ b o, a = some ⟨b, o, none⟩ ∧ ∀ i, i < n → ∃ a0 c0 a1 c1 a2 c2, ThC w b (o + i * 5) (ts i) a0 c0 a1 c1 a2 c2 ∧ ThL w a0 a1 a2 (ts i) ∧ (ts i).n0 ≤ c0 ∧ (ts i).n1 ≤ c1 ∧ (ts i).n2 ≤ c2)
theorem ThsAt.below {w w' : World} {a : Option Addr} {n : Nat} {ts : Nat → ThD} (h : ThsAt w a n ts) {B : Nat} (hb : Below B w w') (hB : w.heap.size ≤ B) : ThsAt w' a n ts := by
  obtain ⟨h1, h2 | ⟨b, o, h3, h4⟩⟩ := h
  · exact ⟨h1, .inl h2⟩
  · refine ⟨h1, .inr ⟨b, o, h3, fun i hi => ?_⟩⟩
    obtain ⟨a0, c0, a1, c1, a2, c2, h5, h6, h7⟩ := h4 i hi
    exact ⟨a0, c0, a1, c1, a2, c2, h5.below hb hB, h6.below hb hB, h7⟩
/-- The nine cells of a call. -/
def CaC (w : World) (b p : Nat) (c : CaD) (v : Value) : Prop :=
  w.cell? ⟨b, p, none⟩ = some (I c.t) ∧ w.cell? ⟨b, p + 1, none⟩ = some (I c.kd) ∧ w.cell? ⟨b, p + 2, none⟩ = some (I c.k) ∧ w.cell? ⟨b, p + 3, none⟩ = some (I c.v) ∧ w.cell? ⟨b, p + 4, none⟩ = some (I c.st) ∧ w.cell? ⟨b, p + 5, none⟩ = some (I c.ln) ∧ w.cell? ⟨b, p + 6, none⟩ = some (I c.en) ∧ w.cell? ⟨b, p + 7, none⟩ = some (I c.cd) ∧ w.cell? ⟨b, p + 8, none⟩ = some v
theorem CaC.below {w w' : World} {b p : Nat} {c : CaD} {v : Value} (h : CaC w b p c v) {B : Nat} (hb : Below B w w') (hB : w.heap.size ≤ B) : CaC w' b p c v := by
  have hlt : b < B := Nat.lt_of_lt_of_le (World.block_lt_of_cell? w _ h.1) hB
  obtain ⟨h0, h1, h2, h3, h4, h5, h6, h7, h8⟩ := h
  exact ⟨(hb.cell hlt).trans h0, (hb.cell hlt).trans h1, (hb.cell hlt).trans h2, (hb.cell hlt).trans h3, (hb.cell hlt).trans h4, (hb.cell hlt).trans h5, (hb.cell hlt).trans h6, (hb.cell hlt).trans h7, (hb.cell hlt).trans h8⟩
abbrev CaV (c : CaD) (v : Value) : Value := .agg #[.int .i64 c.t, .int .i64 c.kd, .int .i64 c.k, .int .i64 c.v, .int .i64 c.st, .int .i64 c.ln, .int .i64 c.en, .int .i64 c.cd, v]
abbrev CaA (c : CaD) (v : Value) : Array Value := #[.int .i64 c.t, .int .i64 c.kd, .int .i64 c.k, .int .i64 c.v, .int .i64 c.st, .int .i64 c.ln, .int .i64 c.en, .int .i64 c.cd, v]
/-- n calls lie there. -/
def CasAt (w : World) (a : Option Addr) (n : Nat) (f : Nat → CaD) : Prop :=
  n ≤ 2097152 ∧ (n = 0 ∨ ∃ b o, a = some ⟨b, o, none⟩ ∧ ∀ i, i < n → ∃ ra rn rc, CaC w b (o + i * 9) (f i) (.slice ra rn rc))
theorem CasAt.below {w w' : World} {a : Option Addr} {n : Nat} {f : Nat → CaD} (h : CasAt w a n f) {B : Nat} (hb : Below B w w') (hB : w.heap.size ≤ B) : CasAt w' a n f := by
  obtain ⟨h1, h2 | ⟨b, o, h3, h4⟩⟩ := h
  · exact ⟨h1, .inl h2⟩
  · refine ⟨h1, .inr ⟨b, o, h3, fun i hi => ?_⟩⟩
    obtain ⟨ra, rn, rc, h5⟩ := h4 i hi
    exact ⟨ra, rn, rc, h5.below hb hB⟩

def OpAt (fs : List Int) (i : Nat) : Prop := OpGood (fs.getD (i * 3) 0) (fs.getD (i * 3 + 1) 0) (fs.getD (i * 3 + 2) 0)
instance (fs : List Int) (i : Nat) : Decidable (OpAt fs i) := by unfold OpAt; infer_instance
def GotAt (gs : List Int) (i : Nat) : Bool := inB (gs.getD (i * 2) 0) 0 19 && inB (gs.getD (i * 2 + 1) 0) 0 1000
/-- T a thread. -/
def HelpAt (hs : List Int) (n : Nat) (i : Nat) : Bool := inB (hs.getD (i * 4) 0) 0 ((n : Int) - 1) && (inB (hs.getD (i * 4 + 1) 0) 1 1000000 && (inB (hs.getD (i * 4 + 2) 0) 0 20 && inB (hs.getD (i * 4 + 3) 0) 0 20))
/-- A thread that can be, of n. -/
structure ThGood (t : ThD) (n : Nat) : Prop where
  few : t.n0 ≤ 8
  pc : 0 ≤ t.pc ∧ t.pc ≤ t.n0
  on : t.on = true → t.pc < t.n0
  off : t.on = false → t.n1 = 0 ∧ t.n2 = 0
  got : t.n1 ≤ 12
  stk : t.n2 ≤ 2
  ops : ∀ i, i < t.n0 → OpAt t.fs i
  gots : ∀ i, i < t.n1 → GotAt t.gs i = true
  stks : ∀ i, i < t.n2 → HelpAt t.hs n i = true
/-- -1, or from the start to now. -/
def MomGood (x st tm : Int) : Bool := x == -1 || inB x st tm
def CaGood (n : Nat) (tm : Int) (c : CaD) : Bool := inB c.t 0 ((n : Int) - 1) && (decide (OpGood c.kd c.k c.v) && (inB c.st 0 tm && (MomGood c.ln c.st tm && MomGood c.en c.st tm)))
/-- How many of the first n calls were so. -/
def soN (f : Nat → CaD) : Nat → Nat
  | 0 => 0
  | n + 1 => soN f n + if 0 ≤ (f n).ln then 1 else 0
theorem soN_le (f : Nat → CaD) : ∀ n, soN f n ≤ n
  | 0 => Nat.le_refl _
  | n + 1 => by have := soN_le f n; unfold soN; split <;> omega
def linAt (f : Nat → CaD) (os : List Int) (i : Nat) : Int := (f (os.getD i 0).toNat).ln
def OrdAt (f : Nat → CaD) (nc : Nat) (os : List Int) (i : Nat) : Prop :=
  inB (os.getD i 0) 0 ((nc : Int) - 1) = true ∧ 0 ≤ linAt f os i ∧ (0 < i → linAt f os (i - 1) ≤ linAt f os i) ∧ ∀ j, j < i → os.getD j 0 ≠ os.getD i 0
structure CallsGood (f : Nat → CaD) (nc : Nat) (os : List Int) (no nt : Nat) (tm : Int) : Prop where
  each : ∀ i, i < nc → CaGood nt tm (f i) = true
  ord : ∀ i, i < no → OrdAt f nc os i
  few : nc ≤ 40
  all : soN f nc = no
/-- The calls of a thread among the first n, in order. -/
def callsL (f : Nat → CaD) (t : Int) : Nat → List CaD
  | 0 => []
  | n + 1 => callsL f t n ++ if (f n).t = t then [f n] else []
/-- The calls of one thread go with what it is about. -/
def TaskGood (x : ThD) (L : List CaD) : Prop :=
  if x.on = true then ∃ L' c, L = L' ++ [c] ∧ (c.kd = x.fs.getD (x.pc.toNat * 3) 0 ∧ c.k = x.fs.getD (x.pc.toNat * 3 + 1) 0 ∧ c.v = x.fs.getD (x.pc.toNat * 3 + 2) 0) ∧ c.en = -1 ∧ (L'.length : Int) = x.pc ∧ ∀ d ∈ L', 0 ≤ d.en
  else (L.length : Int) = x.pc ∧ ∀ d ∈ L, 0 ≤ d.en
/-- The number of the last call of a thread among the first n; -1. -/
def lastN (f : Nat → CaD) (t : Int) : Nat → Int
  | 0 => -1
  | n + 1 => if (f n).t = t then (n : Int) else lastN f t n
theorem lastN_lt (f : Nat → CaD) (t : Int) : ∀ n, -1 ≤ lastN f t n ∧ lastN f t n < (n : Int)
  | 0 => by unfold lastN; omega
  | n + 1 => by have := lastN_lt f t n; unfold lastN; split <;> omega
/-- How many of the first n calls are of that thread and have an end. -/
def endN (f : Nat → CaD) (t : Int) : Nat → Nat
  | 0 => 0
  | n + 1 => endN f t n + if (f n).t = t ∧ 0 ≤ (f n).en then 1 else 0
theorem endN_le (f : Nat → CaD) (t : Int) : ∀ n, endN f t n ≤ n
  | 0 => Nat.le_refl _
  | n + 1 => by have := endN_le f t n; unfold endN; split <;> omega
/-- As the specification has it. -/
structure TaskSpec (f : Nat → CaD) (nc : Nat) (t : Int) (x : ThD) : Prop where
  ends : ∀ i, i < nc → (f i).t = t → 0 ≤ (f i).en ∨ (x.on = true ∧ (i : Int) = lastN f t nc)
  pc : (endN f t nc : Int) = x.pc
  last : x.on = true → 0 ≤ lastN f t nc ∧ (f (lastN f t nc).toNat).en = -1 ∧ ((f (lastN f t nc).toNat).kd = x.fs.getD (x.pc.toNat * 3) 0 ∧ (f (lastN f t nc).toNat).k = x.fs.getD (x.pc.toNat * 3 + 1) 0 ∧ (f (lastN f t nc).toNat).v = x.fs.getD (x.pc.toNat * 3 + 2) 0)
theorem callsL_mem {f : Nat → CaD} {t : Int} : ∀ {n : Nat} {d : CaD}, d ∈ callsL f t n ↔ ∃ i, i < n ∧ (f i).t = t ∧ f i = d
  | 0, d => by simp [callsL]
  | n + 1, d => by
    unfold callsL
    rw [List.mem_append, callsL_mem]
    constructor
    · rintro (⟨i, hi, h1, h2⟩ | h)
      · exact ⟨i, by omega, h1, h2⟩
      · split at h
        · rename_i ht
          exact ⟨n, by omega, ht, (List.mem_singleton.1 h).symm⟩
        · simp at h
    · rintro ⟨i, hi, h1, h2⟩
      by_cases hin : i < n
      · exact .inl ⟨i, hin, h1, h2⟩
      · obtain rfl : i = n := by omega
        exact .inr (by rw [if_pos h1, h2]; exact List.mem_singleton.2 rfl)
/-- The calls ahead of the last one. -/
theorem callsL_last {f : Nat → CaD} {t : Int} : ∀ {n : Nat}, (lastN f t n = -1 ∧ callsL f t n = []) ∨ (0 ≤ lastN f t n ∧ (f (lastN f t n).toNat).t = t ∧ callsL f t n = callsL f t (lastN f t n).toNat ++ [f (lastN f t n).toNat])
  | 0 => .inl ⟨rfl, rfl⟩
  | n + 1 => by
    by_cases h : (f n).t = t
    · have e : lastN f t (n + 1) = (n : Int) := by simp [lastN, h]
      have e2 : callsL f t (n + 1) = callsL f t n ++ [f n] := by simp [callsL, h]
      rw [e, e2]
      exact .inr ⟨by omega, by simpa using h, by simp⟩
    · have e : lastN f t (n + 1) = lastN f t n := by simp [lastN, h]
      have e2 : callsL f t (n + 1) = callsL f t n := by simp [callsL, h]
      rw [e, e2]
      exact callsL_last
theorem endN_len {f : Nat → CaD} {t : Int} : ∀ {n : Nat}, (∀ i, i < n → (f i).t = t → 0 ≤ (f i).en) → endN f t n = (callsL f t n).length
  | 0, _ => rfl
  | n + 1, h => by
    unfold endN callsL
    rw [List.length_append, endN_len fun i hi => h i (by omega)]
    by_cases ht : (f n).t = t
    · simp [ht, h n (by omega) ht]
    · simp [ht]
theorem endN_top {f : Nat → CaD} {t : Int} {m : Nat} : ∀ {n : Nat}, m ≤ n → (∀ i, m ≤ i → i < n → (f i).t ≠ t ∨ (f i).en < 0) → endN f t n = endN f t m
  | 0, h, _ => by
    have e : m = 0 := by omega
    rw [e]
  | n + 1, h, g => by
    by_cases hm : m = n + 1
    · rw [hm]
    · have h1 := g n (by omega) (by omega)
      have e : endN f t (n + 1) = endN f t n := by
        rw [endN, if_neg (by omega)]
        omega
      rw [e, endN_top (by omega) fun i hi hn => g i hi (by omega)]
theorem lastN_top {f : Nat → CaD} {t : Int} : ∀ {n i : Nat}, i < n → (f i).t = t → (i : Int) ≤ lastN f t n
  | 0, i, h, _ => by omega
  | n + 1, i, h, ht => by
    unfold lastN
    split
    · omega
    · rename_i hn
      have : i ≠ n := fun e => hn (by rw [← e]; exact ht)
      exact lastN_top (by omega) ht
theorem task_iff {f : Nat → CaD} {nc : Nat} {t : Int} {x : ThD} : TaskSpec f nc t x ↔ TaskGood x (callsL f t nc) := by
  have hlast := lastN_lt f t nc
  rcases hon : x.on with _ | _
  · unfold TaskGood
    rw [hon, if_neg (by simp)]
    constructor
    · rintro ⟨h1, h2, -⟩
      have hall : ∀ i, i < nc → (f i).t = t → 0 ≤ (f i).en := fun i hi ht => by
        rcases h1 i hi ht with h | ⟨h, -⟩
        · exact h
        · rw [hon] at h; cases h
      refine ⟨by rw [← endN_len hall]; exact h2, fun d hd => ?_⟩
      obtain ⟨i, hi, ht, rfl⟩ := callsL_mem.1 hd
      exact hall i hi ht
    · rintro ⟨h1, h2⟩
      have hall : ∀ i, i < nc → (f i).t = t → 0 ≤ (f i).en := fun i hi ht => h2 _ (callsL_mem.2 ⟨i, hi, ht, rfl⟩)
      exact ⟨fun i hi ht => .inl (hall i hi ht), by rw [endN_len hall]; exact h1, fun h => by rw [hon] at h; cases h⟩
  · unfold TaskGood
    rw [hon, if_pos rfl]
    constructor
    · rintro ⟨h1, h2, h3⟩
      obtain ⟨h4, h5, h6⟩ := h3 hon
      rcases callsL_last (f := f) (t := t) (n := nc) with ⟨h, -⟩ | ⟨-, h7, h8⟩
      · omega
      have hall : ∀ i, i < (lastN f t nc).toNat → (f i).t = t → 0 ≤ (f i).en := fun i hi ht => by
        rcases h1 i (by omega) ht with h | ⟨-, h⟩
        · exact h
        · omega
      refine ⟨_, _, h8, h6, h5, ?_, fun d hd => ?_⟩
      · rw [← endN_len hall, ← h2]
        have := endN_top (f := f) (t := t) (m := (lastN f t nc).toNat) (n := nc) (by omega) fun i hi hn => by
          by_cases ht : (f i).t = t
          · have := lastN_top hn ht
            obtain rfl : i = (lastN f t nc).toNat := by omega
            exact .inr (by omega)
          · exact .inl ht
        omega
      · obtain ⟨i, hi, ht, rfl⟩ := callsL_mem.1 hd
        exact hall i hi ht
    · rintro ⟨L', c, hL, hop, hen, hlen, hall⟩
      rcases callsL_last (f := f) (t := t) (n := nc) with ⟨-, h⟩ | ⟨h6, h7, h8⟩
      · rw [h] at hL; simp at hL
      rw [h8] at hL
      obtain ⟨e1, e2⟩ := List.append_inj' hL rfl
      have e2 : f (lastN f t nc).toNat = c := by simpa using e2
      have hall' : ∀ i, i < (lastN f t nc).toNat → (f i).t = t → 0 ≤ (f i).en := fun i hi ht => hall _ (by rw [← e1]; exact callsL_mem.2 ⟨i, hi, ht, rfl⟩)
      refine ⟨fun i hi ht => ?_, ?_, fun _ => ⟨h6, by rw [e2]; exact hen, by rw [e2]; exact hop⟩⟩
      · have := lastN_top hi ht
        by_cases h : i < (lastN f t nc).toNat
        · exact .inl (hall' i h ht)
        · exact .inr ⟨hon, by omega⟩
      · rw [← hlen, ← e1, ← endN_len hall']
        have := endN_top (f := f) (t := t) (m := (lastN f t nc).toNat) (n := nc) (by omega) fun i hi hn => by
          by_cases ht : (f i).t = t
          · have := lastN_top hn ht
            obtain rfl : i = (lastN f t nc).toNat := by omega
            exact .inr (by rw [e2]; omega)
          · exact .inl ht
        omega
end Go.Proofs.YtkbodiggdajbeaaGreatDoor

/- Calls, rows and machines as they are written. No program. -/
namespace Go.Proofs.YtkbodiggdajbeaaGreatDoor
open Go.ChangeShapes Go.WideShapes Go.ChangeAt Go.RowKit Go.Lib

def outB (en cd : Int) (rl : List Int) : List UInt8 := if en < 0 then [111, 112, 101, 110] else resB cd rl
def callB (c : CaD) (rl : List Int) : List UInt8 := itoa c.t ++ 32 :: (opB c.kd c.k c.v ++ 58 :: 32 :: outB c.en c.cd rl)
def rowsB (xs : List Int) (st : Int) : List UInt8 := numsB xs ++ 47 :: itoa st
def callsB (f : Nat → CaD) (rs : Nat → List Int) : Nat → List UInt8
  | 0 => []
  | n + 1 => callsB f rs n ++ (callB (f n) (rs n) ++ [10])
theorem codeB_le (code : Int) : (codeB code).length ≤ 5 := by
  unfold codeB
  repeat' split
  all_goals decide
theorem resB_le {cd : Int} {rl : List Int} (h : In64s rl) : (resB cd rl).length ≤ 6 + 22 * rl.length := by
  have h1 := codeB_le cd
  unfold resB
  split
  · omega
  · have h2 := numsB_len rl.length rl rfl h
    rw [List.length_append, List.length_cons]
    omega
theorem outB_le {en cd : Int} {rl : List Int} (h : In64s rl) : (outB en cd rl).length ≤ 6 + 22 * rl.length := by
  unfold outB
  split
  · show 4 ≤ _; omega
  · exact resB_le h
theorem nameB_le (k : Int) : (nameB k).length ≤ 5 := by
  unfold nameB
  repeat' split
  all_goals decide
theorem opB_le (a b c : Int) : (opB a b c).length ≤ 9 := by
  by_cases hg : OpGood a b c
  · obtain ⟨_, ⟨k0, k6⟩, ⟨v0, v6⟩, _, _⟩ := good_small hg
    have h1 := nameB_le a
    have h2 : (itoa b).length ≤ 1 := by rw [itoa_small k0 k6]; simp
    have h3 : (itoa c).length ≤ 1 := by rw [itoa_small v0 v6]; simp
    rw [opB, if_pos hg]
    unfold tailB
    split <;> split <;> simp <;> omega
  · rw [opB, if_neg hg]
    decide
theorem callB_le {c : CaD} {rl : List Int} (ht : I64 c.t) (h : In64s rl) (hl : rl.length ≤ 1048576) : (callB c rl).length ≤ 23068721 := by
  have h1 := itoa_le ht
  have h2 := opB_le c.kd c.k c.v
  have h3 := outB_le (en := c.en) (cd := c.cd) h
  unfold callB
  simp only [List.length_append, List.length_cons]
  omega
/-- The calls can be written. -/
def CallsWf (n : Nat) (f : Nat → CaD) (rs : Nat → List Int) : Prop := ∀ i, i < n → I64 (f i).t ∧ In64s (rs i) ∧ (rs i).length ≤ 1048576
theorem callsB_le {f : Nat → CaD} {rs : Nat → List Int} : ∀ {n : Nat}, CallsWf n f rs → (callsB f rs n).length ≤ n * 23068722
  | 0, _ => by simp [callsB]
  | n + 1, h => by
    have h1 := callsB_le (n := n) fun i hi => h i (by omega)
    obtain ⟨h2, h3, h4⟩ := h n (by omega)
    have h5 := callB_le h2 h3 h4
    rw [callsB]
    simp only [List.length_append, List.length_cons, List.length_nil]
    omega
theorem rowsB_le {xs : List Int} {st : Int} (h : In64s xs) (hs : I64 st) : (rowsB xs st).length ≤ 22 * xs.length + 22 := by
  have h1 := numsB_len xs.length xs rfl h
  have h2 := itoa_le hs
  unfold rowsB
  rw [List.length_append, List.length_cons]
  omega
end Go.Proofs.YtkbodiggdajbeaaGreatDoor

/- The specification's Digits, walked: it hands back the decimal numeral of its argument, and nothing that was there turns. -/
namespace Go.Proofs.YtkbodiggdajbeaaGreatDoor
open Go.ChangeShapes Go.WideShapes Go.ChangeAt Go.RowKit Go.Lib

theorem one_byte (w : World) (z : Int) :
    (convert 108 9 (.slice (some ⟨w.heap.size, 0, none⟩) 1 1)).run Tryz.prog (w.alloc (.cells #[.int .u8 z] 5)) = .ok (.string ⟨#[UInt8.ofNat z.toNat]⟩) (w.alloc (.cells #[.int .u8 z] 5)) := by
  have h := run_convert_bytes_arg (P := Tryz.prog) (w.alloc (.cells #[.int .u8 z] 5)) 108 5 Tryz.underlying108 Tryz.underlying5 w.heap.size 0 1 1 [z] rfl (fun i hi => by
    have : i = 0 := by omega
    subst this; simp [go_sem]) 9 Tryz.underlying9
  simpa [strOfNums] using h

theorem cons_str (x : UInt8) (s : ByteArray) : (({ data := #[x] } : ByteArray) ++ s).data.toList = x :: s.data.toList := by simp
theorem left_str {N k : Nat} {s : ByteArray} (hk : ¬ k = 0) (h : LeftD N k s.data.toList) : LeftD N (k / 10) (({ data := #[48 + UInt8.ofNat (k % 10)] } : ByteArray) ++ s).data.toList := by
  rw [cons_str]
  have := left_step (by omega) h
  rwa [UInt8.ofNat_add] at this

theorem left_str0 {N k : Nat} {s : ByteArray} (hk : ¬ k = 0) (hr : k % 10 = 0) (h : LeftD N k s.data.toList) : LeftD N (k / 10) (({ data := #[48] } : ByteArray) ++ s).data.toList := by
  have := left_str hk h
  rwa [hr] at this

set_option maxHeartbeats 400000 in
theorem digits_pos (N : Nat) (h0 : 0 < N) (hN : N ≤ 9223372036854775807) (w : World) :
    Calls Tryz.prog 38 #[.int .i64 (N : Int)] w fun e w' => (∃ s : ByteArray, e = .returned (.string s) ∧ s.data.toList = decDigits N) ∧ Below w.heap.size w w' := by
  have hcv := one_byte
  go_enter Tryz.func38, Tryz.ntmps38
  go_wp2
  go_loopw [0, 4] (fun n out w' => ∃ (k : Nat) (s : ByteArray), k ≤ N ∧ n = .int .i64 k ∧ out = .string s ∧ LeftD N k s.data.toList ∧ Below w.heap.size w w') (fun n _ _ => (RowKit.intOf n).toNat)
  case atStart => exact ⟨N, _, Nat.le_refl _, rfl, rfl, left_start N h0, Below.refl _ _⟩
  case round =>
    obtain ⟨k, s, hk, rfl, rfl, hL, hg⟩ := hrel
    by_cases hz : k = 0
    · go_wp2
      go_ret
      exact ⟨⟨s, rfl, hL.1 hz⟩, hg⟩
    · have hsz : s.size ≤ 20 := by simpa using left_len hL (by omega)
      go_wp2
      go_roundw
      case rel =>
        exact ⟨k / 10, _, by omega, by go_num, rfl, left_str hz hL, hg.alloc hg.size _⟩
      case measure => simp [RowKit.intOf]; omega

set_option maxHeartbeats 400000 in
theorem digits_neg (N : Nat) (h0 : 0 < N) (hN : N ≤ 9223372036854775808) (w : World) :
    Calls Tryz.prog 38 #[.int .i64 (-(N : Int))] w fun e w' => (∃ s : ByteArray, e = .returned (.string s) ∧ s.data.toList = 45 :: decDigits N) ∧ Below w.heap.size w w' := by
  have hcv := one_byte
  have ht := neg_tmod
  have hd := neg_tdiv
  go_enter Tryz.func38, Tryz.ntmps38
  go_wp2
  go_loopw [0, 4] (fun n out w' => ∃ (k : Nat) (s : ByteArray), k ≤ N ∧ n = .int .i64 (-(k : Int)) ∧ out = .string s ∧ LeftD N k s.data.toList ∧ Below w.heap.size w w') (fun n _ _ => (RowKit.intOf n).natAbs)
  case atStart => exact ⟨N, _, Nat.le_refl _, rfl, rfl, left_start N h0, Below.refl _ _⟩
  case round =>
    obtain ⟨k, s, hk, rfl, rfl, hL, hg⟩ := hrel
    have hsz : s.size ≤ 20 := by simpa using left_len hL (by omega)
    by_cases hz : k = 0
    · go_wp2
      go_ret
      refine ⟨⟨_, rfl, ?_⟩, hg⟩
      rw [cons_str, hL.1 hz]
    · have hm : k % 10 < 10 := Nat.mod_lt _ (by omega)
      by_cases hr : k % 10 = 0
      · go_wp2
        exact ⟨⟨k / 10, _, by omega, by go_num, rfl, left_str0 hz hr hL, hg.alloc hg.size _⟩, by simp [RowKit.intOf]; omega⟩
      · go_wp2
        exact ⟨⟨k / 10, _, by omega, by go_num, rfl, left_str hz hL, hg.alloc hg.size _⟩, by simp [RowKit.intOf]; omega⟩

/-- The specification's Digits at any int. -/
theorem digits_any (n : Int) (h0 : -9223372036854775808 ≤ n) (h1 : n ≤ 9223372036854775807) (w : World) :
    Calls Tryz.prog 38 #[.int .i64 n] w fun e w' => (∃ s : ByteArray, e = .returned (.string s) ∧ s.data.toList = itoa n) ∧ Below w.heap.size w w' := by
  by_cases hp : 0 < n
  · obtain ⟨k, rfl⟩ : ∃ k : Nat, n = (k : Int) := ⟨n.toNat, by omega⟩
    rw [itoa_of_pos]
    exact digits_pos k (by omega) (by omega) w
  · by_cases hz : n = 0
    · subst hz
      rw [itoa_zero]
      go_enter Tryz.func38, Tryz.ntmps38
      go_wp2
      go_ret
      exact ⟨⟨_, rfl, rfl⟩, Below.refl _ _⟩
    · obtain ⟨k, rfl⟩ : ∃ k : Nat, n = -(k : Int) := ⟨n.natAbs, by omega⟩
      rw [itoa_of_neg k (by omega)]
      exact digits_neg k (by omega) (by omega) w
end Go.Proofs.YtkbodiggdajbeaaGreatDoor

/- The specification's NumsText, walked: the numerals with commas between. -/
namespace Go.Proofs.YtkbodiggdajbeaaGreatDoor
open Go.ChangeShapes Go.WideShapes Go.ChangeAt Go.RowKit Go.Lib

theorem app_str (a b : ByteArray) : (a ++ b).data.toList = a.data.toList ++ b.data.toList := by simp

set_option maxHeartbeats 1000000 in
theorem specNums_any (a : Option Addr) (n c : Nat) (xs : List Int) (w : World) (h : IntAt w a n xs) (hi : In64s xs) :
    Calls Tryz.prog 37 #[.slice a n c] w fun e w' => (∃ s : ByteArray, e = .returned (.string s) ∧ s.data.toList = numsB xs) ∧ Below w.heap.size w w' := by
  have HH : Hid (IntAt w a n xs) := h
  have L1 : Hid (xs.length = n) := h.1
  have b1 := h.2.1
  have HI : Hid (In64s xs) := hi
  clear h hi
  go_enter Tryz.func37, Tryz.ntmps37
  go_wp2
  go_loopw [3, 4] (fun out i wr => ∃ (k : Nat) (s : ByteArray), k ≤ n ∧ i = .int .i64 (k : Int) ∧ out = .string s ∧ s.data.toList = numsB (xs.take k) ∧ Below w.heap.size w wr) (fun _ i _ => n - (RowKit.intOf i).toNat)
  case atStart => exact ⟨0, _, Nat.zero_le _, rfl, rfl, by simp [numsB_nil], Below.refl _ _⟩
  case round =>
    obtain ⟨k, s, hk, rfl, rfl, hs, hb⟩ := hrel
    have hsz : s.size ≤ 22 * k := by
      have h1 := numsB_len k (xs.take k) (by have := L1.out; rw [List.length_take]; omega) (in64_take HI.out k)
      rw [← hs] at h1
      simpa using h1
    have HS : Hid (s.data.toList = numsB (xs.take k)) := hs
    clear hs
    by_cases hlt : k < n
    · rcases (HH.out.below hb (Nat.le_refl _)).2.2 with h0 | ⟨p1, o1, rfl, g1⟩
      · omega
      have e1 := g1 k hlt
      obtain ⟨h0, h1⟩ := in64_at HI.out k (by have := L1.out; omega)
      obtain ⟨x, hx⟩ : ∃ x, xs.getD k 0 = x := ⟨_, rfl⟩
      have HT : Hid (xs.take (k + 1) = xs.take k ++ [x]) := by rw [← hx]; exact take_snocI (by have := L1.out; omega)
      rw [hx] at e1 h0 h1
      have hil := itoa_length_le x h0 h1
      clear g1 hx
      by_cases hz : k = 0
      · subst hz
        rw [Nat.add_zero] at e1
        go_wp2_with (go_at_call 38; refine (digits_any x h0 h1 _).mono ?_; rintro e w1 ⟨⟨s1, rfl, hs1⟩, hg1⟩; have hz1 : s1.size ≤ 21 := by (rw [← hs1] at hil; simpa using hil))
        go_roundw
        case rel => exact ⟨1, _, by omega, by go_num, rfl, by rw [app_str, HS.out, hs1, HT.out]; simp [numsB, join_nil, join_one], hb.trans (hg1.mono hb.size)⟩
        case measure => simp [RowKit.intOf]; omega
      · go_wp2_with (go_at_call 38; refine (digits_any x h0 h1 _).mono ?_; rintro e w1 ⟨⟨s1, rfl, hs1⟩, hg1⟩; have hz1 : s1.size ≤ 21 := by (rw [← hs1] at hil; simpa using hil))
        exact ⟨⟨k + 1, _, by omega, by go_num, rfl, by rw [app_str, app_str, HS.out, hs1, HT.out, numsB_snoc _ _ (by have := L1.out; intro e; have := congrArg List.length e; rw [List.length_take, List.length_nil] at this; omega)], hb.trans (hg1.mono hb.size)⟩, by simp [RowKit.intOf]; omega⟩
    · have l1 := L1.out
      have e := List.take_of_length_le (show xs.length ≤ k by omega)
      go_wp2
      go_ret
      exact ⟨⟨s, rfl, by rw [HS.out, e]⟩, hb⟩
end Go.Proofs.YtkbodiggdajbeaaGreatDoor

/- Small facts on lists of texts in memory. -/
namespace Go.Proofs.YtkbodiggdajbeaaGreatDoor
open Go.ChangeShapes Go.WideShapes Go.ChangeAt Go.RowKit

/-- The slice of address a and length n holds the texts xs. -/
def StrAt (w : World) (a : Option Addr) (n : Nat) (xs : List (List UInt8)) : Prop :=
  xs.length = n ∧ n ≤ 1099511627776 ∧ (n = 0 ∨ ∃ b o, a = some ⟨b, o, none⟩ ∧ ∀ i, i < n → w.cell? ⟨b, o + i, none⟩ = some (S (xs.getD i [])))

theorem StrAt.draws {w : World} {a : Option Addr} {n : Nat} {xs : List (List UInt8)} (h : StrAt w a n xs) (m : Nat) : StrAt (w.drewN m) a n xs := h

theorem take_next {xs ys : List (List UInt8)} {k : Nat} (hx : k < xs.length) (hy : k < ys.length) (h : xs.take k = ys.take k) (e : xs.getD k [] = ys.getD k []) : xs.take (k + 1) = ys.take (k + 1) := by
  have e' : xs[k] = ys[k] := by simpa [List.getD, hx, hy] using e
  rw [List.take_succ_eq_append_getElem hx, List.take_succ_eq_append_getElem hy, h, e']

theorem own_strAt {w : World} {base : Nat} {e : TypeId} {g n cap : Nat} {xs : List (List UInt8)} (h : w.ownsRow base e 1 (.slice (some ⟨g, 0, none⟩) n cap) n (xs.map S)) (hn : n ≤ 1099511627776) : StrAt w (some ⟨g, 0, none⟩) n xs := by
  have hl : xs.length = n := by have := h.1; simpa using this
  refine ⟨hl, hn, .inr ⟨g, 0, rfl, fun i hi => ?_⟩⟩
  rw [Nat.zero_add, h.cellAt i (by omega), List.getElem?_map, List.getElem?_eq_getElem (by omega)]
  simp [List.getD, show i < xs.length by omega]

theorem infoStr : (Tryz.prog.info? 9).map (fun i => (i.zero, i.size, i.bytes)) = some (some (.string ⟨#[]⟩), 1, 16) := by kernel_rfl
end Go.Proofs.YtkbodiggdajbeaaGreatDoor

/- spec.KeyOk and impl.KeyOk, walked. -/
namespace Go.Proofs.YtkbodiggdajbeaaGreatDoor
open Go.ChangeShapes Go.WideShapes Go.ChangeAt Go.RowKit

theorem specKeyOk_any (k : Int) (w : World) :
    Calls Tryz.prog 98 #[.int .i64 k] w fun e w' => e = .returned (.bool (decide (0 ≤ k ∧ k ≤ 3))) ∧ w' = w := by
  by_cases h0 : 0 ≤ k
  · by_cases h1 : k ≤ 3
    · rw [show decide (0 ≤ k ∧ k ≤ 3) = true from decide_eq_true ⟨h0, h1⟩]
      go_enter Tryz.func98, Tryz.ntmps98
      go_wp2
      go_ret
      exact ⟨rfl, rfl⟩
    · rw [show decide (0 ≤ k ∧ k ≤ 3) = false from decide_eq_false (fun h => h1 h.2)]
      go_enter Tryz.func98, Tryz.ntmps98
      go_wp2
      go_ret
      exact ⟨rfl, rfl⟩
  · rw [show decide (0 ≤ k ∧ k ≤ 3) = false from decide_eq_false (fun h => h0 h.1)]
    go_enter Tryz.func98, Tryz.ntmps98
    go_wp2
    go_ret
    exact ⟨rfl, rfl⟩

theorem implKeyOk_any (k : Int) (w : World) :
    Calls Tryz.prog 151 #[.int .i64 k] w fun e w' => e = .returned (.bool (decide (0 ≤ k ∧ k ≤ 3))) ∧ w' = w := by
  by_cases h0 : 0 ≤ k
  · by_cases h1 : k ≤ 3
    · rw [show decide (0 ≤ k ∧ k ≤ 3) = true from decide_eq_true ⟨h0, h1⟩]
      have h2 : k < 4 := by omega
      go_enter Tryz.func151, Tryz.ntmps151
      go_wp2
      go_ret
      exact ⟨rfl, rfl⟩
    · rw [show decide (0 ≤ k ∧ k ≤ 3) = false from decide_eq_false (fun h => h1 h.2)]
      have h2 : ¬ k < 4 := by omega
      go_enter Tryz.func151, Tryz.ntmps151
      go_wp2
      go_ret
      exact ⟨rfl, rfl⟩
  · rw [show decide (0 ≤ k ∧ k ≤ 3) = false from decide_eq_false (fun h => h0 h.1)]
    go_enter Tryz.func151, Tryz.ntmps151
    go_wp2
    go_ret
    exact ⟨rfl, rfl⟩
end Go.Proofs.YtkbodiggdajbeaaGreatDoor

/- spec.ValOk and impl.ValOk, walked. -/
namespace Go.Proofs.YtkbodiggdajbeaaGreatDoor
open Go.ChangeShapes Go.WideShapes Go.ChangeAt Go.RowKit

theorem specValOk_any (k : Int) (w : World) :
    Calls Tryz.prog 99 #[.int .i64 k] w fun e w' => e = .returned (.bool (decide (1 ≤ k ∧ k ≤ 6))) ∧ w' = w := by
  by_cases h0 : 1 ≤ k
  · by_cases h1 : k ≤ 6
    · rw [show decide (1 ≤ k ∧ k ≤ 6) = true from decide_eq_true ⟨h0, h1⟩]
      go_enter Tryz.func99, Tryz.ntmps99
      go_wp2
      go_ret
      exact ⟨rfl, rfl⟩
    · rw [show decide (1 ≤ k ∧ k ≤ 6) = false from decide_eq_false (fun h => h1 h.2)]
      go_enter Tryz.func99, Tryz.ntmps99
      go_wp2
      go_ret
      exact ⟨rfl, rfl⟩
  · rw [show decide (1 ≤ k ∧ k ≤ 6) = false from decide_eq_false (fun h => h0 h.1)]
    go_enter Tryz.func99, Tryz.ntmps99
    go_wp2
    go_ret
    exact ⟨rfl, rfl⟩

theorem implValOk_any (k : Int) (w : World) :
    Calls Tryz.prog 152 #[.int .i64 k] w fun e w' => e = .returned (.bool (decide (1 ≤ k ∧ k ≤ 6))) ∧ w' = w := by
  by_cases h0 : 1 ≤ k
  · by_cases h1 : k ≤ 6
    · rw [show decide (1 ≤ k ∧ k ≤ 6) = true from decide_eq_true ⟨h0, h1⟩]
      have h2 : k < 7 := by omega
      go_enter Tryz.func152, Tryz.ntmps152
      go_wp2
      go_ret
      exact ⟨rfl, rfl⟩
    · rw [show decide (1 ≤ k ∧ k ≤ 6) = false from decide_eq_false (fun h => h1 h.2)]
      have h2 : ¬ k < 7 := by omega
      go_enter Tryz.func152, Tryz.ntmps152
      go_wp2
      go_ret
      exact ⟨rfl, rfl⟩
  · rw [show decide (1 ≤ k ∧ k ≤ 6) = false from decide_eq_false (fun h => h0 h.1)]
    go_enter Tryz.func152, Tryz.ntmps152
    go_wp2
    go_ret
    exact ⟨rfl, rfl⟩
end Go.Proofs.YtkbodiggdajbeaaGreatDoor

/- spec.OpOk, walked. -/
namespace Go.Proofs.YtkbodiggdajbeaaGreatDoor
open Go.ChangeShapes Go.WideShapes Go.ChangeAt Go.RowKit

set_option maxHeartbeats 2000000 in
theorem specOpOk_1 (k v : Int) (w : World) :
    Calls Tryz.prog 67 #[OpV 1 k v] w fun e w' => e = .returned (.bool (decide ((0 ≤ k ∧ k ≤ 3) ∧ (1 ≤ v ∧ v ≤ 6)))) ∧ Below w.heap.size w w' := by
  obtain ⟨B, hB⟩ : ∃ B, decide ((0 ≤ k ∧ k ≤ 3) ∧ (1 ≤ v ∧ v ≤ 6)) = B := ⟨_, rfl⟩
  rw [hB]
  have HB : Hid (decide ((0 ≤ k ∧ k ≤ 3) ∧ (1 ≤ v ∧ v ≤ 6)) = B) := hB
  clear hB
  rcases tri 0 3 k (by decide) with ⟨h0, h1⟩ | ⟨h0, h1⟩ | ⟨h0, h1⟩ <;> rcases tri 1 6 v (by decide) with ⟨g0, g1⟩ | ⟨g0, g1⟩ | ⟨g0, g1⟩
  all_goals
    go_enter Tryz.func67, Tryz.ntmps67
    go_wp2
    go_ret
    refine ⟨?_, (Below.refl _ _).alloc (Nat.le_refl _) _⟩
    rw [← HB.out]
    first
      | exact says_true (by omega)
      | exact says_false (by omega)

set_option maxHeartbeats 2000000 in
theorem specOpOk_2 (k v : Int) (w : World) :
    Calls Tryz.prog 67 #[OpV 2 k v] w fun e w' => e = .returned (.bool (decide ((0 ≤ k ∧ k ≤ 3) ∧ (1 ≤ v ∧ v ≤ 6)))) ∧ Below w.heap.size w w' := by
  obtain ⟨B, hB⟩ : ∃ B, decide ((0 ≤ k ∧ k ≤ 3) ∧ (1 ≤ v ∧ v ≤ 6)) = B := ⟨_, rfl⟩
  rw [hB]
  have HB : Hid (decide ((0 ≤ k ∧ k ≤ 3) ∧ (1 ≤ v ∧ v ≤ 6)) = B) := hB
  clear hB
  rcases tri 0 3 k (by decide) with ⟨h0, h1⟩ | ⟨h0, h1⟩ | ⟨h0, h1⟩ <;> rcases tri 1 6 v (by decide) with ⟨g0, g1⟩ | ⟨g0, g1⟩ | ⟨g0, g1⟩
  all_goals
    go_enter Tryz.func67, Tryz.ntmps67
    go_wp2
    go_ret
    refine ⟨?_, (Below.refl _ _).alloc (Nat.le_refl _) _⟩
    rw [← HB.out]
    first
      | exact says_true (by omega)
      | exact says_false (by omega)

set_option maxHeartbeats 2000000 in
theorem specOpOk_3 (k v : Int) (w : World) :
    Calls Tryz.prog 67 #[OpV 3 k v] w fun e w' => e = .returned (.bool (decide ((0 ≤ k ∧ k ≤ 3) ∧ (v = 0)))) ∧ Below w.heap.size w w' := by
  obtain ⟨B, hB⟩ : ∃ B, decide ((0 ≤ k ∧ k ≤ 3) ∧ (v = 0)) = B := ⟨_, rfl⟩
  rw [hB]
  have HB : Hid (decide ((0 ≤ k ∧ k ≤ 3) ∧ (v = 0)) = B) := hB
  clear hB
  rcases tri 0 3 k (by decide) with ⟨h0, h1⟩ | ⟨h0, h1⟩ | ⟨h0, h1⟩ <;> rcases eqb v 0 with ⟨g0, g1⟩ | ⟨g0, g1⟩
  all_goals
    go_enter Tryz.func67, Tryz.ntmps67
    go_wp2
    go_ret
    refine ⟨?_, (Below.refl _ _).alloc (Nat.le_refl _) _⟩
    rw [← HB.out]
    first
      | exact says_true (by omega)
      | exact says_false (by omega)

set_option maxHeartbeats 2000000 in
theorem specOpOk_4 (k v : Int) (w : World) :
    Calls Tryz.prog 67 #[OpV 4 k v] w fun e w' => e = .returned (.bool (decide ((0 ≤ k ∧ k ≤ 3) ∧ (v = 0)))) ∧ Below w.heap.size w w' := by
  obtain ⟨B, hB⟩ : ∃ B, decide ((0 ≤ k ∧ k ≤ 3) ∧ (v = 0)) = B := ⟨_, rfl⟩
  rw [hB]
  have HB : Hid (decide ((0 ≤ k ∧ k ≤ 3) ∧ (v = 0)) = B) := hB
  clear hB
  rcases tri 0 3 k (by decide) with ⟨h0, h1⟩ | ⟨h0, h1⟩ | ⟨h0, h1⟩ <;> rcases eqb v 0 with ⟨g0, g1⟩ | ⟨g0, g1⟩
  all_goals
    go_enter Tryz.func67, Tryz.ntmps67
    go_wp2
    go_ret
    refine ⟨?_, (Below.refl _ _).alloc (Nat.le_refl _) _⟩
    rw [← HB.out]
    first
      | exact says_true (by omega)
      | exact says_false (by omega)

set_option maxHeartbeats 2000000 in
theorem specOpOk_5 (k v : Int) (w : World) :
    Calls Tryz.prog 67 #[OpV 5 k v] w fun e w' => e = .returned (.bool (decide ((k = 0) ∧ (1 ≤ v ∧ v ≤ 6)))) ∧ Below w.heap.size w w' := by
  obtain ⟨B, hB⟩ : ∃ B, decide ((k = 0) ∧ (1 ≤ v ∧ v ≤ 6)) = B := ⟨_, rfl⟩
  rw [hB]
  have HB : Hid (decide ((k = 0) ∧ (1 ≤ v ∧ v ≤ 6)) = B) := hB
  clear hB
  rcases eqb k 0 with ⟨h0, h1⟩ | ⟨h0, h1⟩ <;> rcases tri 1 6 v (by decide) with ⟨g0, g1⟩ | ⟨g0, g1⟩ | ⟨g0, g1⟩
  all_goals
    go_enter Tryz.func67, Tryz.ntmps67
    go_wp2
    go_ret
    refine ⟨?_, (Below.refl _ _).alloc (Nat.le_refl _) _⟩
    rw [← HB.out]
    first
      | exact says_true (by omega)
      | exact says_false (by omega)

set_option maxHeartbeats 2000000 in
theorem specOpOk_6 (k v : Int) (w : World) :
    Calls Tryz.prog 67 #[OpV 6 k v] w fun e w' => e = .returned (.bool (decide ((0 ≤ k ∧ k ≤ 2) ∧ (v = 0)))) ∧ Below w.heap.size w w' := by
  obtain ⟨B, hB⟩ : ∃ B, decide ((0 ≤ k ∧ k ≤ 2) ∧ (v = 0)) = B := ⟨_, rfl⟩
  rw [hB]
  have HB : Hid (decide ((0 ≤ k ∧ k ≤ 2) ∧ (v = 0)) = B) := hB
  clear hB
  rcases tri 0 2 k (by decide) with ⟨h0, h1⟩ | ⟨h0, h1⟩ | ⟨h0, h1⟩ <;> rcases eqb v 0 with ⟨g0, g1⟩ | ⟨g0, g1⟩
  all_goals
    go_enter Tryz.func67, Tryz.ntmps67
    go_wp2
    go_ret
    refine ⟨?_, (Below.refl _ _).alloc (Nat.le_refl _) _⟩
    rw [← HB.out]
    first
      | exact says_true (by omega)
      | exact says_false (by omega)

set_option maxHeartbeats 2000000 in
theorem specOpOk_7 (k v : Int) (w : World) :
    Calls Tryz.prog 67 #[OpV 7 k v] w fun e w' => e = .returned (.bool (decide ((k = 0) ∧ (v = 0)))) ∧ Below w.heap.size w w' := by
  obtain ⟨B, hB⟩ : ∃ B, decide ((k = 0) ∧ (v = 0)) = B := ⟨_, rfl⟩
  rw [hB]
  have HB : Hid (decide ((k = 0) ∧ (v = 0)) = B) := hB
  clear hB
  rcases eqb k 0 with ⟨h0, h1⟩ | ⟨h0, h1⟩ <;> rcases eqb v 0 with ⟨g0, g1⟩ | ⟨g0, g1⟩
  all_goals
    go_enter Tryz.func67, Tryz.ntmps67
    go_wp2
    go_ret
    refine ⟨?_, (Below.refl _ _).alloc (Nat.le_refl _) _⟩
    rw [← HB.out]
    first
      | exact says_true (by omega)
      | exact says_false (by omega)

set_option maxHeartbeats 2000000 in
theorem specOpOk_8 (k v : Int) (w : World) :
    Calls Tryz.prog 67 #[OpV 8 k v] w fun e w' => e = .returned (.bool (decide ((k = 0) ∧ (v = 0)))) ∧ Below w.heap.size w w' := by
  obtain ⟨B, hB⟩ : ∃ B, decide ((k = 0) ∧ (v = 0)) = B := ⟨_, rfl⟩
  rw [hB]
  have HB : Hid (decide ((k = 0) ∧ (v = 0)) = B) := hB
  clear hB
  rcases eqb k 0 with ⟨h0, h1⟩ | ⟨h0, h1⟩ <;> rcases eqb v 0 with ⟨g0, g1⟩ | ⟨g0, g1⟩
  all_goals
    go_enter Tryz.func67, Tryz.ntmps67
    go_wp2
    go_ret
    refine ⟨?_, (Below.refl _ _).alloc (Nat.le_refl _) _⟩
    rw [← HB.out]
    first
      | exact says_true (by omega)
      | exact says_false (by omega)

set_option maxHeartbeats 2000000 in
theorem specOpOk_9 (k v : Int) (w : World) :
    Calls Tryz.prog 67 #[OpV 9 k v] w fun e w' => e = .returned (.bool (decide ((k = 0) ∧ (v = 0)))) ∧ Below w.heap.size w w' := by
  obtain ⟨B, hB⟩ : ∃ B, decide ((k = 0) ∧ (v = 0)) = B := ⟨_, rfl⟩
  rw [hB]
  have HB : Hid (decide ((k = 0) ∧ (v = 0)) = B) := hB
  clear hB
  rcases eqb k 0 with ⟨h0, h1⟩ | ⟨h0, h1⟩ <;> rcases eqb v 0 with ⟨g0, g1⟩ | ⟨g0, g1⟩
  all_goals
    go_enter Tryz.func67, Tryz.ntmps67
    go_wp2
    go_ret
    refine ⟨?_, (Below.refl _ _).alloc (Nat.le_refl _) _⟩
    rw [← HB.out]
    first
      | exact says_true (by omega)
      | exact says_false (by omega)

set_option maxHeartbeats 2000000 in
theorem specOpOk_10 (k v : Int) (w : World) :
    Calls Tryz.prog 67 #[OpV 10 k v] w fun e w' => e = .returned (.bool (decide ((k = 0) ∧ (1 ≤ v ∧ v ≤ 6)))) ∧ Below w.heap.size w w' := by
  obtain ⟨B, hB⟩ : ∃ B, decide ((k = 0) ∧ (1 ≤ v ∧ v ≤ 6)) = B := ⟨_, rfl⟩
  rw [hB]
  have HB : Hid (decide ((k = 0) ∧ (1 ≤ v ∧ v ≤ 6)) = B) := hB
  clear hB
  rcases eqb k 0 with ⟨h0, h1⟩ | ⟨h0, h1⟩ <;> rcases tri 1 6 v (by decide) with ⟨g0, g1⟩ | ⟨g0, g1⟩ | ⟨g0, g1⟩
  all_goals
    go_enter Tryz.func67, Tryz.ntmps67
    go_wp2
    go_ret
    refine ⟨?_, (Below.refl _ _).alloc (Nat.le_refl _) _⟩
    rw [← HB.out]
    first
      | exact says_true (by omega)
      | exact says_false (by omega)

set_option maxHeartbeats 2000000 in
theorem specOpOk_any (kind k v : Int) (w : World) :
    Calls Tryz.prog 67 #[OpV kind k v] w fun e w' => e = .returned (.bool (decide (OpGood kind k v))) ∧ Below w.heap.size w w' := by
  by_cases hk : 1 ≤ kind ∧ kind ≤ 10
  · have hd : ∀ (P : Prop) [Decidable P], (OpGood kind k v ↔ P) → decide (OpGood kind k v) = decide P := fun P _ h => decide_eq_decide.2 h
    rcases kinds hk with rfl | rfl | rfl | rfl | rfl | rfl | rfl | rfl | rfl | rfl
    · rw [hd _ (good_of hk (P := 0 ≤ k ∧ k ≤ 3) (Q := 1 ≤ v ∧ v ≤ 6) (by unfold KeyGood; omega) (by unfold ValGood; omega))]
      exact specOpOk_1 k v w
    · rw [hd _ (good_of hk (P := 0 ≤ k ∧ k ≤ 3) (Q := 1 ≤ v ∧ v ≤ 6) (by unfold KeyGood; omega) (by unfold ValGood; omega))]
      exact specOpOk_2 k v w
    · rw [hd _ (good_of hk (P := 0 ≤ k ∧ k ≤ 3) (Q := v = 0) (by unfold KeyGood; omega) (by unfold ValGood; omega))]
      exact specOpOk_3 k v w
    · rw [hd _ (good_of hk (P := 0 ≤ k ∧ k ≤ 3) (Q := v = 0) (by unfold KeyGood; omega) (by unfold ValGood; omega))]
      exact specOpOk_4 k v w
    · rw [hd _ (good_of hk (P := k = 0) (Q := 1 ≤ v ∧ v ≤ 6) (by unfold KeyGood; omega) (by unfold ValGood; omega))]
      exact specOpOk_5 k v w
    · rw [hd _ (good_of hk (P := 0 ≤ k ∧ k ≤ 2) (Q := v = 0) (by unfold KeyGood; omega) (by unfold ValGood; omega))]
      exact specOpOk_6 k v w
    · rw [hd _ (good_of hk (P := k = 0) (Q := v = 0) (by unfold KeyGood; omega) (by unfold ValGood; omega))]
      exact specOpOk_7 k v w
    · rw [hd _ (good_of hk (P := k = 0) (Q := v = 0) (by unfold KeyGood; omega) (by unfold ValGood; omega))]
      exact specOpOk_8 k v w
    · rw [hd _ (good_of hk (P := k = 0) (Q := v = 0) (by unfold KeyGood; omega) (by unfold ValGood; omega))]
      exact specOpOk_9 k v w
    · rw [hd _ (good_of hk (P := k = 0) (Q := 1 ≤ v ∧ v ≤ 6) (by unfold KeyGood; omega) (by unfold ValGood; omega))]
      exact specOpOk_10 k v w
  · rw [show decide (OpGood kind k v) = false from decide_eq_false (fun h => hk h.1)]
    by_cases h0 : 1 ≤ kind
    · have h1 : ¬ kind ≤ 10 := fun h => hk ⟨h0, h⟩
      clear hk
      go_enter Tryz.func67, Tryz.ntmps67
      go_wp2
      go_ret
      exact ⟨rfl, (Below.refl _ _).alloc (Nat.le_refl _) _⟩
    · clear hk
      go_enter Tryz.func67, Tryz.ntmps67
      go_wp2
      go_ret
      exact ⟨rfl, (Below.refl _ _).alloc (Nat.le_refl _) _⟩
end Go.Proofs.YtkbodiggdajbeaaGreatDoor

/- spec.l14Names, l4Key, l4Val, spec.OpText, walked. -/
namespace Go.Proofs.YtkbodiggdajbeaaGreatDoor
open Go.ChangeShapes Go.WideShapes Go.ChangeAt Go.RowKit Go.Lib

/-- The words of kinds, in a list. -/
def namesT : List (List UInt8) := [[], nameB 1, nameB 2, nameB 3, nameB 4, nameB 5, nameB 6, nameB 7, nameB 8, nameB 9, nameB 10]
theorem namesT_at {k : Nat} (h0 : 1 ≤ k) (h1 : k ≤ 10) : namesT.getD k [] = nameB (k : Int) := by
  have h : k = 1 ∨ k = 2 ∨ k = 3 ∨ k = 4 ∨ k = 5 ∨ k = 6 ∨ k = 7 ∨ k = 8 ∨ k = 9 ∨ k = 10 := by omega
  rcases h with rfl | rfl | rfl | rfl | rfl | rfl | rfl | rfl | rfl | rfl <;> rfl
theorem StrAt.below {w w' : World} {a : Option Addr} {n : Nat} {xs : List (List UInt8)} (h : StrAt w a n xs) {B : Nat} (hb : Below B w w') (hB : w.heap.size ≤ B) : StrAt w' a n xs := by
  obtain ⟨h1, h2, h3 | ⟨b, o, h3, h4⟩⟩ := h
  · exact ⟨h1, h2, .inl h3⟩
  · refine ⟨h1, h2, .inr ⟨b, o, h3, fun i hi => ?_⟩⟩
    have h5 := h4 i hi
    have h6 := World.block_lt_of_cell? w _ h5
    rw [hb.cell (show _ < B from Nat.lt_of_lt_of_le h6 hB)]
    exact h5
set_option maxRecDepth 100000 in
theorem l14Names_is (w : World) : Calls Tryz.prog 68 #[] w fun e w' => e = .returned (.slice (some ⟨w.heap.size, 0, none⟩) 11 11) ∧ StrAt w' (some ⟨w.heap.size, 0, none⟩) 11 namesT ∧ Below w.heap.size w w' := by
  go_enter Tryz.func68, Tryz.ntmps68
  go_wp2
  go_ret
  refine ⟨rfl, ⟨rfl, by omega, .inr ⟨_, _, rfl, fun i hi => ?_⟩⟩, (Below.refl _ w).alloc (Nat.le_refl _) _⟩
  have h : i = 0 ∨ i = 1 ∨ i = 2 ∨ i = 3 ∨ i = 4 ∨ i = 5 ∨ i = 6 ∨ i = 7 ∨ i = 8 ∨ i = 9 ∨ i = 10 := by omega
  rw [Nat.zero_add, World.cell?_alloc_at _ _ _ _ rfl]
  rcases h with rfl | rfl | rfl | rfl | rfl | rfl | rfl | rfl | rfl | rfl | rfl <;> rfl
theorem l4Key_is (k : Int) (w : World) : Calls Tryz.prog 69 #[.int .i64 k] w fun e w' => e = .returned (.bool (inB k 1 4)) ∧ w' = w := by
  go_enter Tryz.func69, Tryz.ntmps69
  go_wp2_with fail
  refine (l1In_g k 1 4 _).mono ?_
  rintro e w1 ⟨rfl, hw⟩
  rw [hw]
  go_wp2
  go_ret
  exact ⟨rfl, rfl⟩
theorem l4Val_k (k : Int) (w : World) : Calls Tryz.prog 70 #[.int .i64 k] w fun e w' => e = .returned (.bool (decide (HasV k))) ∧ w' = w := by
  unfold HasV
  by_cases hv : k = 1 ∨ k = 2 ∨ k = 5 ∨ k = 10
  · rw [decide_eq_true hv]
    rcases eqb k 1 with ⟨h1, g1⟩ | ⟨h1, g1⟩ <;> rcases eqb k 2 with ⟨h2, g2⟩ | ⟨h2, g2⟩ <;> rcases eqb k 5 with ⟨h5, g5⟩ | ⟨h5, g5⟩ <;> rcases eqb k 10 with ⟨h9, g9⟩ | ⟨h9, g9⟩
    all_goals first
      | (exfalso; omega)
      | (clear h1 h2 h5 h9 hv
         go_enter Tryz.func70, Tryz.ntmps70
         go_wp2
         go_ret
         exact ⟨rfl, rfl⟩)
  · rw [decide_eq_false hv]
    rcases eqb k 1 with ⟨h1, g1⟩ | ⟨h1, g1⟩ <;> rcases eqb k 2 with ⟨h2, g2⟩ | ⟨h2, g2⟩ <;> rcases eqb k 5 with ⟨h5, g5⟩ | ⟨h5, g5⟩ <;> rcases eqb k 10 with ⟨h9, g9⟩ | ⟨h9, g9⟩
    all_goals first
      | (exfalso; omega)
      | (clear h1 h2 h5 h9 hv
         go_enter Tryz.func70, Tryz.ntmps70
         go_wp2
         go_ret
         exact ⟨rfl, rfl⟩)
theorem name_len (k : Int) : (nameB k).length ≤ 5 := by
  unfold nameB
  repeat' split
  all_goals decide
theorem itoa_one {k : Int} (h0 : 0 ≤ k) (h1 : k ≤ 6) : (itoa k).length ≤ 1 := by rw [itoa_small h0 h1]; simp
theorem Box.threeT {w : World} {b : Nat} {T : TypeId} {x y z : Value} (h : Box w b #[x, y, z] T) : w.cell? ⟨b, 0, none⟩ = some x ∧ w.cell? ⟨b, 1, none⟩ = some y ∧ w.cell? ⟨b, 2, none⟩ = some z := ⟨h.cell 0, h.cell 1, h.cell 2⟩
set_option maxHeartbeats 4000000 in
set_option maxRecDepth 100000 in
theorem specOpText_any (kind k v : Int) (w : World) :
    Calls Tryz.prog 41 #[OpV kind k v] w fun e w' => TextSays e (opB kind k v) ∧ Below w.heap.size w w' := by
  obtain ⟨W, hW⟩ : ∃ W, w.alloc (.cells #[.int .i64 kind, .int .i64 k, .int .i64 v] 57) = W := ⟨_, rfl⟩
  have HB0 : Hid (Below w.heap.size w W) := by rw [← hW]; exact (Below.refl _ w).alloc (Nat.le_refl _) _
  have X0 : Hid (Box W w.heap.size #[.int .i64 kind, .int .i64 k, .int .i64 v] 57) := by rw [← hW]; exact box_of w _ _
  have HW : Hid (w.alloc (.cells #[.int .i64 kind, .int .i64 k, .int .i64 v] 57) = W) := hW
  clear hW
  by_cases hg : OpGood kind k v
  case neg =>
    have HT : Hid (opB kind k v = noneB) := if_neg hg
    have HD : Hid (decide (OpGood kind k v) = false) := decide_eq_false hg
    clear hg
    go_enter Tryz.func41, Tryz.ntmps41
    go_upto_region 1 with (fail)
    rw [HW.out]
    obtain ⟨c0, c1, c2⟩ := X0.out.threeT
    go_wp2_with fail
    refine (specOpOk_any kind k v _).mono ?_
    rintro e w1 ⟨rfl, hb1⟩
    rw [HD.out]
    have HB1 : Hid (Below w.heap.size w w1) := HB0.out.trans (hb1.mono HB0.out.size)
    clear hb1 c0 c1 c2
    go_wp2
    go_ret
    exact ⟨⟨_, rfl, HT.out.symm⟩, HB1.out⟩
  have HT : Hid (opB kind k v = nameB kind ++ tailB kind k v) := if_pos hg
  have HD : Hid (decide (OpGood kind k v) = true) := decide_eq_true hg
  obtain ⟨⟨hk1, hk10⟩, ⟨k0, k6⟩, ⟨v0, v6⟩, _, _⟩ := good_small hg
  obtain ⟨kn, rfl⟩ : ∃ kn : Nat, kind = (kn : Int) := ⟨kind.toNat, by omega⟩
  have hn1 : 1 ≤ kn := by omega
  have hn10 : kn ≤ 10 := by omega
  have hn11 : kn < 11 := by omega
  clear hg hk1 hk10
  go_enter Tryz.func41, Tryz.ntmps41
  go_upto_region 1 with (fail)
  rw [HW.out]
  obtain ⟨c0, c1, c2⟩ := X0.out.threeT
  go_wp2_with fail
  refine (specOpOk_any (kn : Int) k v _).mono ?_
  rintro e w1 ⟨rfl, hb1⟩
  rw [HD.out]
  have HB1 : Hid (Below w.heap.size w w1) := HB0.out.trans (hb1.mono HB0.out.size)
  have X1 : Hid (Box w1 w.heap.size #[.int .i64 (kn : Int), .int .i64 k, .int .i64 v] 57) := X0.out.below hb1 X0.out.lt
  have hs1 : w.heap.size < w1.heap.size := X1.out.lt
  clear hb1 c0 c1 c2 HB0 X0 HW
  obtain ⟨c0, c1, c2⟩ := X1.out.threeT
  have hkey : inB (kn : Int) 1 4 = decide (kn ≤ 4) := by
    by_cases h : kn ≤ 4
    · rw [decide_eq_true h, inB_yes (by omega)]
    · rw [decide_eq_false h, inB_no (by omega)]
  have HKEY : Hid (inB (kn : Int) 1 4 = decide (kn ≤ 4)) := hkey
  clear hkey
  obtain ⟨nb, hnb⟩ : ∃ nb : ByteArray, nb = ⟨(nameB (kn : Int)).toArray⟩ := ⟨_, rfl⟩
  have HNB : Hid (nb = ⟨(nameB (kn : Int)).toArray⟩) := hnb
  have HNL : Hid (nb.data.toList = nameB (kn : Int)) := by show _ = _; rw [HNB.out]
  have hnsz : nb.size ≤ 5 := by
    have h1 := name_len (kn : Int)
    rw [← HNL.out] at h1
    simpa using h1
  clear hnb
  go_upto_region 3 with (fail)
  go_region_with (first
    | (go_at_call 68; refine (l14Names_is _).mono ?_; rintro e w2 ⟨rfl, hN2, hb2⟩
       have hbx : Below w1.heap.size w1 w2 := (Below.refl w1.heap.size w1).drew.trans hb2
       have HB2 : Hid (Below w.heap.size w w2) := HB1.out.trans (hbx.mono HB1.out.size)
       have X2 : Hid (Box w2 w.heap.size #[.int .i64 (kn : Int), .int .i64 k, .int .i64 v] 57) := X1.out.below hbx X1.out.lt
       obtain ⟨d0, d1, d2⟩ := X2.out.threeT
       have hcn : w2.cell? ⟨w1.heap.size, kn, none⟩ = some (.string nb) := by
         rw [HNB.out]
         rcases hN2.2.2 with h0 | ⟨b, o, he, hc⟩
         · omega
         · cases he
           have := hc kn hn11
           rwa [namesT_at hn1 hn10, Nat.zero_add] at this
       clear hbx hN2 hb2))
  all_goals
    clear c0 c1 c2
    have hK3 : kn ≤ 4 ∨ kn = 6 ∨ (¬ kn ≤ 4 ∧ ¬ kn = 6) := by omega
    rcases hK3 with hk | hk | ⟨hk, hk6⟩
    · have HHK : Hid (HasK (kn : Int)) := by show _ ∨ _; omega
      have hdk : inB (kn : Int) 1 4 = true := by rw [HKEY.out]; exact decide_eq_true hk
      clear hk
      go_wp2_with fail
      refine (l4Key_is (kn : Int) _).mono ?_
      rintro e wk ⟨rfl, hwk⟩
      rw [hwk, hdk]
      clear hwk
      go_wp2_with fail
      refine (digits_any k (by omega) (by omega) _).mono ?_
      rintro e w3 ⟨⟨s3, rfl, hs3⟩, hb3⟩
      have hz3 : s3.size ≤ 1 := by
        have h1 := itoa_one k0 k6
        rw [← hs3] at h1
        simpa using h1
      have HS3 : Hid (s3.data.toList = itoa k) := hs3
      have HB3 : Hid (Below w.heap.size w w3) := HB2.out.trans (hb3.mono HB2.out.size)
      have X3 : Hid (Box w3 w.heap.size #[.int .i64 (kn : Int), .int .i64 k, .int .i64 v] 57) := X2.out.below hb3 X2.out.lt
      clear hs3 hb3 d0 d1 d2 hcn
      obtain ⟨d0, d1, d2⟩ := X3.out.threeT
      go_wp2_with fail
      refine (l4Val_k (kn : Int) _).mono ?_
      rintro e wv ⟨rfl, hwv⟩
      rw [hwv]
      clear hwv
      by_cases hV : HasV (kn : Int)
      · have hdv : decide (HasV (kn : Int)) = true := decide_eq_true hV
        have HHV : Hid (HasV (kn : Int)) := hV
        rw [hdv]
        clear hV hdv
        go_wp2_with fail
        refine (digits_any v (by omega) (by omega) _).mono ?_
        rintro e w5 ⟨⟨s5, rfl, hs5⟩, hb5⟩
        have hz5 : s5.size ≤ 1 := by
          have h1 := itoa_one v0 v6
          rw [← hs5] at h1
          simpa using h1
        have HS5 : Hid (s5.data.toList = itoa v) := hs5
        have HB5 : Hid (Below w.heap.size w w5) := HB3.out.trans (hb5.mono HB3.out.size)
        clear hs5 hb5
        go_wp2
        go_ret
        refine ⟨⟨_, rfl, ?_⟩, HB5.out⟩
        rw [HT.out, tailB, if_pos HHK.out, if_pos HHV.out]
        simp [HNL.out, HS5.out, HS3.out]
      · have hdv : decide (HasV (kn : Int)) = false := decide_eq_false hV
        have HHV : Hid (¬ HasV (kn : Int)) := hV
        rw [hdv]
        clear hV hdv
        go_wp2
        go_ret
        refine ⟨⟨_, rfl, ?_⟩, HB3.out⟩
        rw [HT.out, tailB, if_pos HHK.out, if_neg HHV.out]
        simp [HNL.out, HS3.out]
    · have HHK : Hid (HasK (kn : Int)) := by show _ ∨ _; omega
      have hdk : inB (kn : Int) 1 4 = false := by rw [HKEY.out]; exact decide_eq_false (by omega)
      have hk6 : ((kn : Int) == 6) = true := by simp; omega
      clear hk
      go_wp2_with fail
      refine (l4Key_is (kn : Int) _).mono ?_
      rintro e wk ⟨rfl, hwk⟩
      rw [hwk, hdk]
      clear hwk
      go_wp2_with fail
      refine (digits_any k (by omega) (by omega) _).mono ?_
      rintro e w3 ⟨⟨s3, rfl, hs3⟩, hb3⟩
      have hz3 : s3.size ≤ 1 := by
        have h1 := itoa_one k0 k6
        rw [← hs3] at h1
        simpa using h1
      have HS3 : Hid (s3.data.toList = itoa k) := hs3
      have HB3 : Hid (Below w.heap.size w w3) := HB2.out.trans (hb3.mono HB2.out.size)
      have X3 : Hid (Box w3 w.heap.size #[.int .i64 (kn : Int), .int .i64 k, .int .i64 v] 57) := X2.out.below hb3 X2.out.lt
      clear hs3 hb3 d0 d1 d2 hcn
      obtain ⟨d0, d1, d2⟩ := X3.out.threeT
      go_wp2_with fail
      refine (l4Val_k (kn : Int) _).mono ?_
      rintro e wv ⟨rfl, hwv⟩
      rw [hwv]
      clear hwv
      by_cases hV : HasV (kn : Int)
      · have hdv : decide (HasV (kn : Int)) = true := decide_eq_true hV
        have HHV : Hid (HasV (kn : Int)) := hV
        rw [hdv]
        clear hV hdv
        go_wp2_with fail
        refine (digits_any v (by omega) (by omega) _).mono ?_
        rintro e w5 ⟨⟨s5, rfl, hs5⟩, hb5⟩
        have hz5 : s5.size ≤ 1 := by
          have h1 := itoa_one v0 v6
          rw [← hs5] at h1
          simpa using h1
        have HS5 : Hid (s5.data.toList = itoa v) := hs5
        have HB5 : Hid (Below w.heap.size w w5) := HB3.out.trans (hb5.mono HB3.out.size)
        clear hs5 hb5
        go_wp2
        go_ret
        refine ⟨⟨_, rfl, ?_⟩, HB5.out⟩
        rw [HT.out, tailB, if_pos HHK.out, if_pos HHV.out]
        simp [HNL.out, HS5.out, HS3.out]
      · have hdv : decide (HasV (kn : Int)) = false := decide_eq_false hV
        have HHV : Hid (¬ HasV (kn : Int)) := hV
        rw [hdv]
        clear hV hdv
        go_wp2
        go_ret
        refine ⟨⟨_, rfl, ?_⟩, HB3.out⟩
        rw [HT.out, tailB, if_pos HHK.out, if_neg HHV.out]
        simp [HNL.out, HS3.out]
    · have HHK : Hid (¬ HasK (kn : Int)) := by intro h; unfold HasK at h; omega
      have hdk : inB (kn : Int) 1 4 = false := by rw [HKEY.out]; exact decide_eq_false hk
      have hk6' : ((kn : Int) == 6) = false := by simp; omega
      clear hk hk6
      go_wp2_with fail
      refine (l4Key_is (kn : Int) _).mono ?_
      rintro e wk ⟨rfl, hwk⟩
      rw [hwk, hdk]
      clear hwk
      go_wp2_with fail
      refine (l4Val_k (kn : Int) _).mono ?_
      rintro e wv ⟨rfl, hwv⟩
      rw [hwv]
      clear hwv
      by_cases hV : HasV (kn : Int)
      · have hdv : decide (HasV (kn : Int)) = true := decide_eq_true hV
        have HHV : Hid (HasV (kn : Int)) := hV
        rw [hdv]
        clear hV hdv
        go_wp2_with fail
        refine (digits_any v (by omega) (by omega) _).mono ?_
        rintro e w5 ⟨⟨s5, rfl, hs5⟩, hb5⟩
        have hz5 : s5.size ≤ 1 := by
          have h1 := itoa_one v0 v6
          rw [← hs5] at h1
          simpa using h1
        have HS5 : Hid (s5.data.toList = itoa v) := hs5
        have HB5 : Hid (Below w.heap.size w w5) := HB2.out.trans (hb5.mono HB2.out.size)
        clear hs5 hb5
        go_wp2
        go_ret
        refine ⟨⟨_, rfl, ?_⟩, HB5.out⟩
        rw [HT.out, tailB, if_neg HHK.out, if_pos HHV.out]
        simp [HNL.out, HS5.out]
      · have hdv : decide (HasV (kn : Int)) = false := decide_eq_false hV
        have HHV : Hid (¬ HasV (kn : Int)) := hV
        rw [hdv]
        clear hV hdv
        go_wp2
        go_ret
        refine ⟨⟨_, rfl, ?_⟩, HB2.out⟩
        rw [HT.out, tailB, if_neg HHK.out, if_neg HHV.out]
        simp [HNL.out]
end Go.Proofs.YtkbodiggdajbeaaGreatDoor

/- What comes of an op, as a value. -/
namespace Go.Proofs.YtkbodiggdajbeaaGreatDoor
/-- What comes of an op, as a value. -/
abbrev ResV (code : Int) (a : Option Addr) (n c : Nat) : Value := .agg #[.int .i64 code, .slice a n c]
end Go.Proofs.YtkbodiggdajbeaaGreatDoor

/- spec.ProgText and spec.ResText, walked. -/
namespace Go.Proofs.YtkbodiggdajbeaaGreatDoor
open Go.ChangeShapes Go.WideShapes Go.ChangeAt Go.RowKit Go.Lib

theorem opB_len (a b c : Int) : (opB a b c).length ≤ 9 := by
  unfold opB
  split
  · rename_i h
    obtain ⟨_, ⟨b0, b6⟩, ⟨c0, c6⟩, _, _⟩ := good_small h
    have h1 := name_len a
    have h2 := itoa_one b0 b6
    have h3 := itoa_one c0 c6
    unfold tailB
    rw [List.length_append, List.length_append]
    split <;> split <;> simp <;> omega
  · decide
/-- The texts of the first k ops of a list. -/
def opsT (fs : List Int) (k : Nat) : List (List UInt8) := (List.range k).map fun i => opB (fs.getD (i * 3) 0) (fs.getD (i * 3 + 1) 0) (fs.getD (i * 3 + 2) 0)
theorem opsT_succ (fs : List Int) (k : Nat) : opsT fs (k + 1) = opsT fs k ++ [opB (fs.getD (k * 3) 0) (fs.getD (k * 3 + 1) 0) (fs.getD (k * 3 + 2) 0)] := by simp [opsT, List.range_succ]
theorem opsT_len (fs : List Int) (k : Nat) : (opsT fs k).length = k := by simp [opsT]
/-- The text of these. -/
def progT (fs : List Int) (k : Nat) : List UInt8 := join (opsT fs k) [59]
theorem progT_one (fs : List Int) : progT fs 1 = opB (fs.getD (0 * 3) 0) (fs.getD (0 * 3 + 1) 0) (fs.getD (0 * 3 + 2) 0) := by
  show join [_] [59] = _
  exact join_one _ _
theorem progT_succ (fs : List Int) {k : Nat} (h : 0 < k) : progT fs (k + 1) = progT fs k ++ [59] ++ opB (fs.getD (k * 3) 0) (fs.getD (k * 3 + 1) 0) (fs.getD (k * 3 + 2) 0) := by
  unfold progT
  rw [opsT_succ, join_snoc _ _ _ (fun e => by have := opsT_len fs k; rw [e] at this; simp at this; omega)]
theorem progT_len (fs : List Int) : ∀ k, (progT fs k).length ≤ 10 * k
  | 0 => by simp [progT, opsT, join_nil]
  | 1 => by rw [progT_one]; have := opB_len (fs.getD (0 * 3) 0) (fs.getD (0 * 3 + 1) 0) (fs.getD (0 * 3 + 2) 0); omega
  | k + 2 => by
    rw [progT_succ fs (by omega), List.length_append, List.length_append]
    have h1 := progT_len fs (k + 1)
    have h2 := opB_len (fs.getD ((k + 1) * 3) 0) (fs.getD ((k + 1) * 3 + 1) 0) (fs.getD ((k + 1) * 3 + 2) 0)
    simp only [List.length_cons, List.length_nil]
    omega
end Go.Proofs.YtkbodiggdajbeaaGreatDoor

/- spec.ResText, walked. -/
namespace Go.Proofs.YtkbodiggdajbeaaGreatDoor
open Go.ChangeShapes Go.WideShapes Go.ChangeAt Go.RowKit Go.Lib

theorem size_str (x : UInt8) : (⟨#[x]⟩ : ByteArray).size = 1 := rfl
theorem size_cat (a b : ByteArray) : (a ++ b).size = a.size + b.size := by simp
theorem cat_str {P : Program} (t : TypeId) (a b : ByteArray) (h : a.size + b.size ≤ 281474976710656) (w : World) : (binOp .add t (.string a) (.string b)).run P w = .ok (.string (a ++ b)) w := by
  simp [binOp, run_string_add_sum w a b (by omega)]
/-- The words of codes, in a list. -/
def codesT : List (List UInt8) := [[100, 111, 110, 101], [116, 104, 101, 114, 101], [116, 97, 107, 101, 110], [110, 111, 110, 101], [110, 111, 116], [119, 104, 97, 116]]
theorem codesT_at {k : Nat} (h : k < 6) : codesT.getD k [] = codeB (k : Int) := by
  have h : k = 0 ∨ k = 1 ∨ k = 2 ∨ k = 3 ∨ k = 4 ∨ k = 5 := by omega
  rcases h with rfl | rfl | rfl | rfl | rfl | rfl <;> rfl
theorem codeB_no {code : Int} (h : ¬ (0 ≤ code ∧ code ≤ 5)) : codeB code = codeB 5 := by
  unfold codeB
  repeat' split
  all_goals first | rfl | omega
theorem codeB_len (code : Int) : (codeB code).length ≤ 5 := by
  unfold codeB
  repeat' split
  all_goals decide
set_option maxHeartbeats 4000000 in
set_option maxRecDepth 100000 in
theorem specResText_any (code : Int) (a : Option Addr) (n c : Nat) (xs : List Int) (w : World) (hA : IntAt w a n xs) (hx : In64s xs) (hn : n ≤ 1048576) :
    Calls Tryz.prog 42 #[.agg #[.int .i64 code, .slice a n c]] w fun e w' => TextSays e (resB code xs) ∧ Below w.heap.size w w' := by
  obtain ⟨W, hW⟩ : ∃ W, (w.alloc (.cells #[.int .i64 code, .slice a n c] 59)).alloc (.cells #[S [100, 111, 110, 101], S [116, 104, 101, 114, 101], S [116, 97, 107, 101, 110], S [110, 111, 110, 101], S [110, 111, 116], S [119, 104, 97, 116]] 9) = W := ⟨_, rfl⟩
  have HB0 : Hid (Below w.heap.size w W) := by rw [← hW]; exact ((Below.refl _ w).alloc (Nat.le_refl _) _).alloc (by simp) _
  have X0 : Hid (Box W w.heap.size #[.int .i64 code, .slice a n c] 59) := by rw [← hW]; exact (box_of w _ _).alloc _
  have N0 : Hid (∀ k, k < 6 → W.cell? ⟨w.heap.size + 1, k, none⟩ = some (S (codesT.getD k []))) := by
    intro k hk
    have hbx := box_of (w.alloc (.cells #[.int .i64 code, .slice a n c] 59)) #[S [100, 111, 110, 101], S [116, 104, 101, 114, 101], S [116, 97, 107, 101, 110], S [110, 111, 110, 101], S [110, 111, 116], S [119, 104, 97, 116]] 9
    rw [hW, World.size_alloc] at hbx
    rw [hbx.cell k]
    have h : k = 0 ∨ k = 1 ∨ k = 2 ∨ k = 3 ∨ k = 4 ∨ k = 5 := by omega
    rcases h with rfl | rfl | rfl | rfl | rfl | rfl <;> rfl
  have HW : Hid ((w.alloc (.cells #[.int .i64 code, .slice a n c] 59)).alloc (.cells #[S [100, 111, 110, 101], S [116, 104, 101, 114, 101], S [116, 97, 107, 101, 110], S [110, 111, 110, 101], S [110, 111, 116], S [119, 104, 97, 116]] 9) = W) := hW
  have HA : Hid (IntAt w a n xs) := hA
  have HI : Hid (In64s xs) := hx
  have HXL : Hid (xs.length = n) := hA.1
  clear hW hA hx
  -- which word it is
  obtain ⟨kk, hk6, hkc⟩ : ∃ kk : Nat, kk < 6 ∧ codeB code = codeB (kk : Int) ∧ (inB code 0 5 = true ∧ code = (kk : Int) ∨ inB code 0 5 = false ∧ kk = 5) := by
    by_cases h : 0 ≤ code ∧ code ≤ 5
    · exact ⟨code.toNat, by omega, by rw [show ((code.toNat : Nat) : Int) = code by omega], .inl ⟨inB_yes h, by omega⟩⟩
    · exact ⟨5, by omega, codeB_no h, .inr ⟨inB_no h, rfl⟩⟩
  obtain ⟨hcb, hwh⟩ := hkc
  have HCB : Hid (codeB code = codeB (kk : Int)) := hcb
  obtain ⟨nb, hnb⟩ : ∃ nb : ByteArray, nb = ⟨(codeB (kk : Int)).toArray⟩ := ⟨_, rfl⟩
  have HNL : Hid (nb.data.toList = codeB code) := by show _ = _; rw [hnb, hcb]
  have hnsz : nb.size ≤ 5 := by
    have h1 := codeB_len code
    rw [← HNL.out] at h1
    simpa using h1
  have c2 : W.cell? ⟨w.heap.size + 1, kk, none⟩ = some (.string nb) := by rw [N0.out kk hk6, codesT_at hk6, hnb]
  have hk0 : (0 : Int) ≤ (kk : Int) := by omega
  have hk5 : (kk : Int) < 6 := by omega
  obtain ⟨c0, c1, _, _⟩ := X0.out.two
  clear hnb hcb N0
  go_enter Tryz.func42, Tryz.ntmps42
  go_upto_region 2 with (fail)
  rw [HW.out]
  go_wp2_with fail
  refine (l1In_g code 0 5 _).mono ?_
  rintro e w1 ⟨rfl, hw1⟩
  rw [hw1]
  clear hw1
  have tail_no : n = 0 → resB code xs = codeB code := fun h => by
    have : xs = [] := List.length_eq_zero_iff.1 (by rw [HXL.out]; exact h)
    rw [resB, if_pos this]
  have tail_yes : ¬ n = 0 → resB code xs = codeB code ++ 32 :: numsB xs := fun h => by
    have : ¬ xs = [] := fun e => h (by rw [← HXL.out, e]; rfl)
    rw [resB, if_neg this]
  have HTN : Hid (n = 0 → resB code xs = codeB code) := tail_no
  have HTY : Hid (¬ n = 0 → resB code xs = codeB code ++ 32 :: numsB xs) := tail_yes
  clear tail_no tail_yes
  have K0 : Hid (W.drew.cell? ⟨w.heap.size + 1, kk, none⟩ = some (.string nb) ∧ W.drew.cell? ⟨w.heap.size, 1, none⟩ = some (.slice a n c)) := ⟨c2, c1⟩
  rcases hwh with ⟨hin, hcode⟩ | ⟨hin, hcode⟩
  · subst hcode
    rw [hin]
    clear hin
    by_cases hz : n = 0
    · have HZ : Hid (n = 0) := hz
      have hz1 : ¬ (0 : Int) < (n : Int) := by omega
      clear hz
      go_wp2
      go_ret
      exact ⟨⟨nb, rfl, HNL.out.trans (HTN.out HZ.out).symm⟩, HB0.out⟩
    · have HZ : Hid (¬ n = 0) := hz
      have hz1 : (0 : Int) < (n : Int) := by omega
      clear hz
      have hc1 : nb.size + 1 ≤ 9223372036854775807 := by omega
      have hc1' : ¬ (9223372036854775807 < nb.size + 1) := by omega
      have hcat : ∀ w : World, (binOp .add 9 (.string nb) (.string ⟨#[32]⟩)).run Tryz.prog w = .ok (.string (nb ++ ⟨#[32]⟩)) w := fun w => cat_str _ _ _ (by rw [size_str]; omega) w
      go_upto_region 6 with (fail)
      go_region_held3 (fun w' => w'.cell? ⟨w.heap.size + 1, kk, none⟩ = some (.string nb) ∧ w'.cell? ⟨w.heap.size, 1, none⟩ = some (.slice a n c))
        (first | (with_reducible exact K1.out) | (with_reducible exact K0.out) | go_keep)
        (first
        | (go_at_call 37
           refine (specNums_any a n c xs _ (HA.out.below HB0.out.drew (Nat.le_refl _)) HI.out).mono ?_
           rintro e w2 ⟨⟨s2, rfl, hs2⟩, hb2⟩
           have hz2 : s2.size ≤ 22 * n := by
             have h1 := numsB_len n xs HXL.out HI.out
             rw [← hs2] at h1
             simpa using h1
           have HS2 : Hid (s2.data.toList = numsB xs) := hs2
           have hc2 : nb.size + 1 + s2.size ≤ 9223372036854775807 := by omega
           have hc2' : ¬ (9223372036854775807 < nb.size + 1 + s2.size) := by omega
           have hcat2 : ∀ w : World, (binOp .add 9 (.string (nb ++ ⟨#[32]⟩)) (.string s2)).run Tryz.prog w = .ok (.string (nb ++ ⟨#[32]⟩ ++ s2)) w := fun w => cat_str _ _ _ (by rw [size_cat, size_str]; omega) w
           have hbx : Below W.heap.size W w2 := (Below.refl W.heap.size W).drew.trans hb2
           have HB2 : Hid (Below w.heap.size w w2) := HB0.out.trans (hbx.mono HB0.out.size)
           have K1 : Hid (w2.cell? ⟨w.heap.size + 1, kk, none⟩ = some (.string nb) ∧ w2.cell? ⟨w.heap.size, 1, none⟩ = some (.slice a n c)) := ⟨(hbx.cell (World.block_lt_of_cell? W _ c2)).trans c2, (hbx.cell (World.block_lt_of_cell? W _ c1)).trans c1⟩
           clear hs2 hb2 hbx))
      go_wp2
      go_ret
      refine ⟨⟨_, rfl, ?_⟩, HB2.out⟩
      rw [HTY.out HZ.out]
      simp [HNL.out, HS2.out]
  · subst hcode
    rw [hin]
    clear hin
    by_cases hz : n = 0
    · have HZ : Hid (n = 0) := hz
      have hz1 : ¬ (0 : Int) < (n : Int) := by omega
      clear hz
      go_wp2
      go_ret
      exact ⟨⟨nb, rfl, HNL.out.trans (HTN.out HZ.out).symm⟩, HB0.out⟩
    · have HZ : Hid (¬ n = 0) := hz
      have hz1 : (0 : Int) < (n : Int) := by omega
      clear hz
      have hc1 : nb.size + 1 ≤ 9223372036854775807 := by omega
      have hc1' : ¬ (9223372036854775807 < nb.size + 1) := by omega
      have hcat : ∀ w : World, (binOp .add 9 (.string nb) (.string ⟨#[32]⟩)).run Tryz.prog w = .ok (.string (nb ++ ⟨#[32]⟩)) w := fun w => cat_str _ _ _ (by rw [size_str]; omega) w
      go_upto_region 6 with (fail)
      go_region_held3 (fun w' => w'.cell? ⟨w.heap.size + 1, 5, none⟩ = some (.string nb) ∧ w'.cell? ⟨w.heap.size, 1, none⟩ = some (.slice a n c))
        (first | (with_reducible exact K1.out) | (with_reducible exact K0.out) | go_keep)
        (first
        | (go_at_call 37
           refine (specNums_any a n c xs _ (HA.out.below HB0.out.drew (Nat.le_refl _)) HI.out).mono ?_
           rintro e w2 ⟨⟨s2, rfl, hs2⟩, hb2⟩
           have hz2 : s2.size ≤ 22 * n := by
             have h1 := numsB_len n xs HXL.out HI.out
             rw [← hs2] at h1
             simpa using h1
           have HS2 : Hid (s2.data.toList = numsB xs) := hs2
           have hc2 : nb.size + 1 + s2.size ≤ 9223372036854775807 := by omega
           have hc2' : ¬ (9223372036854775807 < nb.size + 1 + s2.size) := by omega
           have hcat2 : ∀ w : World, (binOp .add 9 (.string (nb ++ ⟨#[32]⟩)) (.string s2)).run Tryz.prog w = .ok (.string (nb ++ ⟨#[32]⟩ ++ s2)) w := fun w => cat_str _ _ _ (by rw [size_cat, size_str]; omega) w
           have hbx : Below W.heap.size W w2 := (Below.refl W.heap.size W).drew.trans hb2
           have HB2 : Hid (Below w.heap.size w w2) := HB0.out.trans (hbx.mono HB0.out.size)
           have K1 : Hid (w2.cell? ⟨w.heap.size + 1, 5, none⟩ = some (.string nb) ∧ w2.cell? ⟨w.heap.size, 1, none⟩ = some (.slice a n c)) := ⟨(hbx.cell (World.block_lt_of_cell? W _ c2)).trans c2, (hbx.cell (World.block_lt_of_cell? W _ c1)).trans c1⟩
           clear hs2 hb2 hbx))
      go_wp2
      go_ret
      refine ⟨⟨_, rfl, ?_⟩, HB2.out⟩
      rw [HTY.out HZ.out]
      simp [HNL.out, HS2.out]
end Go.Proofs.YtkbodiggdajbeaaGreatDoor

/- A box of eight cells, of nine. No program. -/
namespace Go.Proofs.YtkbodiggdajbeaaGreatDoor
open Go.RowKit

theorem eight_of {w : World} {b : Nat} {x0 x1 x2 x3 x4 x5 x6 x7 : Value} {T : TypeId} (h : Box w b #[x0, x1, x2, x3, x4, x5, x6, x7] T) :
    w.cell? ⟨b, 0, none⟩ = some x0 ∧ w.cell? ⟨b, 1, none⟩ = some x1 ∧ w.cell? ⟨b, 2, none⟩ = some x2 ∧ w.cell? ⟨b, 3, none⟩ = some x3 ∧ w.cell? ⟨b, 4, none⟩ = some x4 ∧ w.cell? ⟨b, 5, none⟩ = some x5 ∧ w.cell? ⟨b, 6, none⟩ = some x6 ∧ w.cell? ⟨b, 7, none⟩ = some x7 :=
  ⟨h.cell 0, h.cell 1, h.cell 2, h.cell 3, h.cell 4, h.cell 5, h.cell 6, h.cell 7⟩
theorem nine_of {w : World} {b : Nat} {x0 x1 x2 x3 x4 x5 x6 x7 x8 : Value} {T : TypeId} (h : Box w b #[x0, x1, x2, x3, x4, x5, x6, x7, x8] T) :
    w.cell? ⟨b, 0, none⟩ = some x0 ∧ w.cell? ⟨b, 1, none⟩ = some x1 ∧ w.cell? ⟨b, 2, none⟩ = some x2 ∧ w.cell? ⟨b, 3, none⟩ = some x3 ∧ w.cell? ⟨b, 4, none⟩ = some x4 ∧ w.cell? ⟨b, 5, none⟩ = some x5 ∧ w.cell? ⟨b, 6, none⟩ = some x6 ∧ w.cell? ⟨b, 7, none⟩ = some x7 ∧ w.cell? ⟨b, 8, none⟩ = some x8 :=
  ⟨h.cell 0, h.cell 1, h.cell 2, h.cell 3, h.cell 4, h.cell 5, h.cell 6, h.cell 7, h.cell 8⟩
end Go.Proofs.YtkbodiggdajbeaaGreatDoor

/- spec.CallText, walked. -/
namespace Go.Proofs.YtkbodiggdajbeaaGreatDoor
open Go.ChangeShapes Go.WideShapes Go.ChangeAt Go.RowKit Go.Lib

set_option maxHeartbeats 4000000 in
set_option maxRecDepth 100000 in
theorem specCallText_any (C : CaD) (ra : Option Addr) (rn rc : Nat) (rl : List Int) (w : World) (hA : IntAt w ra rn rl) (hx : In64s rl) (ht : I64 C.t) (hn : rn ≤ 1048576) :
    Calls Tryz.prog 17 #[CaV C (.slice ra rn rc)] w fun e w' => TextSays e (callB C rl) ∧ Below w.heap.size w w' := by
  obtain ⟨t, kd, k, vv, sT, ln, en, cd⟩ := C
  dsimp only at ht
  show Calls Tryz.prog 17 #[.agg #[.int .i64 t, .int .i64 kd, .int .i64 k, .int .i64 vv, .int .i64 sT, .int .i64 ln, .int .i64 en, .int .i64 cd, .slice ra rn rc]] w fun e w' => TextSays e (callB ⟨t, kd, k, vv, sT, ln, en, cd⟩ rl) ∧ Below w.heap.size w w'
  obtain ⟨W, hW⟩ : ∃ W, w.alloc (.cells #[.int .i64 t, .int .i64 kd, .int .i64 k, .int .i64 vv, .int .i64 sT, .int .i64 ln, .int .i64 en, .int .i64 cd, .slice ra rn rc] 61) = W := ⟨_, rfl⟩
  have HB0 : Hid (Below w.heap.size w W) := by rw [← hW]; exact (Below.refl _ w).alloc (Nat.le_refl _) _
  have X0 : Hid (Box W w.heap.size #[.int .i64 t, .int .i64 kd, .int .i64 k, .int .i64 vv, .int .i64 sT, .int .i64 ln, .int .i64 en, .int .i64 cd, .slice ra rn rc] 61) := by rw [← hW]; exact box_of w _ _
  have HW : Hid (w.alloc (.cells #[.int .i64 t, .int .i64 kd, .int .i64 k, .int .i64 vv, .int .i64 sT, .int .i64 ln, .int .i64 en, .int .i64 cd, .slice ra rn rc] 61) = W) := hW
  have HA : Hid (IntAt w ra rn rl) := hA
  have HI : Hid (In64s rl) := hx
  have HS : Hid (I64 t) := ht
  have HXL : Hid (rl.length = rn) := hA.1
  have BX : Hid (∀ y, Below W.heap.size W y → y.cell? ⟨w.heap.size, 0, none⟩ = some (.int .i64 t) ∧ y.cell? ⟨w.heap.size, 1, none⟩ = some (.int .i64 kd) ∧ y.cell? ⟨w.heap.size, 2, none⟩ = some (.int .i64 k) ∧ y.cell? ⟨w.heap.size, 3, none⟩ = some (.int .i64 vv) ∧ y.cell? ⟨w.heap.size, 4, none⟩ = some (.int .i64 sT) ∧ y.cell? ⟨w.heap.size, 5, none⟩ = some (.int .i64 ln) ∧ y.cell? ⟨w.heap.size, 6, none⟩ = some (.int .i64 en) ∧ y.cell? ⟨w.heap.size, 7, none⟩ = some (.int .i64 cd) ∧ y.cell? ⟨w.heap.size, 8, none⟩ = some (.slice ra rn rc)) := fun y hb => nine_of (X0.out.below hb X0.out.lt)
  have K0 : Hid (W.drew.cell? ⟨w.heap.size, 0, none⟩ = some (.int .i64 t) ∧ W.drew.cell? ⟨w.heap.size, 1, none⟩ = some (.int .i64 kd) ∧ W.drew.cell? ⟨w.heap.size, 2, none⟩ = some (.int .i64 k) ∧ W.drew.cell? ⟨w.heap.size, 3, none⟩ = some (.int .i64 vv) ∧ W.drew.cell? ⟨w.heap.size, 4, none⟩ = some (.int .i64 sT) ∧ W.drew.cell? ⟨w.heap.size, 5, none⟩ = some (.int .i64 ln) ∧ W.drew.cell? ⟨w.heap.size, 6, none⟩ = some (.int .i64 en) ∧ W.drew.cell? ⟨w.heap.size, 7, none⟩ = some (.int .i64 cd) ∧ W.drew.cell? ⟨w.heap.size, 8, none⟩ = some (.slice ra rn rc)) := BX.out _ (Below.refl _ _).drew
  clear hW hA hx ht
  go_enter Tryz.func17, Tryz.ntmps17
  go_upto_region 1 with (fail)
  rw [HW.out]
  go_region_held3 (fun w' => w'.cell? ⟨w.heap.size, 0, none⟩ = some (.int .i64 t) ∧ w'.cell? ⟨w.heap.size, 1, none⟩ = some (.int .i64 kd) ∧ w'.cell? ⟨w.heap.size, 2, none⟩ = some (.int .i64 k) ∧ w'.cell? ⟨w.heap.size, 3, none⟩ = some (.int .i64 vv) ∧ w'.cell? ⟨w.heap.size, 4, none⟩ = some (.int .i64 sT) ∧ w'.cell? ⟨w.heap.size, 5, none⟩ = some (.int .i64 ln) ∧ w'.cell? ⟨w.heap.size, 6, none⟩ = some (.int .i64 en) ∧ w'.cell? ⟨w.heap.size, 7, none⟩ = some (.int .i64 cd) ∧ w'.cell? ⟨w.heap.size, 8, none⟩ = some (.slice ra rn rc))
    (first | (with_reducible exact K2.out) | (with_reducible exact K1.out) | (with_reducible exact K0.out) | go_keep)
    (first
    | (go_at_call 38
       refine (digits_any t HS.out.1 HS.out.2 _).mono ?_
       rintro e w1 ⟨⟨s1, rfl, hs1⟩, hb1⟩
       have HS1 : Hid (s1.data.toList = itoa t) := hs1
       have hz1 : s1.size ≤ 21 := by rw [szS s1 hs1]; exact itoa_le HS.out
       have hb1' : Below W.heap.size W w1 := (Below.refl W.heap.size W).drew.trans hb1
       have HB1 : Hid (Below W.heap.size W w1) := hb1'
       have K1 : Hid (w1.cell? ⟨w.heap.size, 0, none⟩ = some (.int .i64 t) ∧ w1.cell? ⟨w.heap.size, 1, none⟩ = some (.int .i64 kd) ∧ w1.cell? ⟨w.heap.size, 2, none⟩ = some (.int .i64 k) ∧ w1.cell? ⟨w.heap.size, 3, none⟩ = some (.int .i64 vv) ∧ w1.cell? ⟨w.heap.size, 4, none⟩ = some (.int .i64 sT) ∧ w1.cell? ⟨w.heap.size, 5, none⟩ = some (.int .i64 ln) ∧ w1.cell? ⟨w.heap.size, 6, none⟩ = some (.int .i64 en) ∧ w1.cell? ⟨w.heap.size, 7, none⟩ = some (.int .i64 cd) ∧ w1.cell? ⟨w.heap.size, 8, none⟩ = some (.slice ra rn rc)) := BX.out _ hb1'
       have hc1 : s1.size + 1 ≤ 9223372036854775807 := by omega
       have hd1 : ¬ (9223372036854775807 < s1.size + 1) := by omega
       clear hs1 hb1 hb1')
    | (go_at_call 41
       refine (specOpText_any kd k vv _).mono ?_
       rintro e w2 ⟨⟨s2, rfl, hs2⟩, hb2⟩
       have HS2 : Hid (s2.data.toList = opB kd k vv) := hs2
       have hz2 : s2.size ≤ 9 := by rw [szS s2 hs2]; exact opB_le _ _ _
       have hb2' : Below W.heap.size W w2 := HB1.out.trans (hb2.mono HB1.out.size)
       have HB2 : Hid (Below W.heap.size W w2) := hb2'
       have K2 : Hid (w2.cell? ⟨w.heap.size, 0, none⟩ = some (.int .i64 t) ∧ w2.cell? ⟨w.heap.size, 1, none⟩ = some (.int .i64 kd) ∧ w2.cell? ⟨w.heap.size, 2, none⟩ = some (.int .i64 k) ∧ w2.cell? ⟨w.heap.size, 3, none⟩ = some (.int .i64 vv) ∧ w2.cell? ⟨w.heap.size, 4, none⟩ = some (.int .i64 sT) ∧ w2.cell? ⟨w.heap.size, 5, none⟩ = some (.int .i64 ln) ∧ w2.cell? ⟨w.heap.size, 6, none⟩ = some (.int .i64 en) ∧ w2.cell? ⟨w.heap.size, 7, none⟩ = some (.int .i64 cd) ∧ w2.cell? ⟨w.heap.size, 8, none⟩ = some (.slice ra rn rc)) := BX.out _ hb2'
       have hc2 : s1.size + 1 + s2.size ≤ 9223372036854775807 := by omega
       have hd2 : ¬ (9223372036854775807 < s1.size + 1 + s2.size) := by omega
       have hc3 : s1.size + 1 + s2.size + 2 ≤ 9223372036854775807 := by omega
       have hd3 : ¬ (9223372036854775807 < s1.size + 1 + s2.size + 2) := by omega
       clear hs2 hb2 hb2'))
  obtain ⟨d0, d1, d2, d3, d4, d5, d6, d7, d8⟩ := BX.out _ HB2.out
  by_cases he : en < 0
  · have hc4 : s1.size + 1 + s2.size + 2 + 4 ≤ 9223372036854775807 := by omega
    have hd4 : ¬ (9223372036854775807 < s1.size + 1 + s2.size + 2 + 4) := by omega
    have HT : Hid (outB en cd rl = [111, 112, 101, 110]) := if_pos he
    go_wp2
    go_ret
    refine ⟨⟨_, rfl, ?_⟩, HB0.out.trans (HB2.out.mono HB0.out.size)⟩
    show _ = itoa t ++ 32 :: (opB kd k vv ++ 58 :: 32 :: outB en cd rl)
    rw [HT.out]
    simp [HS1.out, HS2.out]
  · have HT : Hid (outB en cd rl = resB cd rl) := if_neg he
    have HB02 : Hid (Below w.heap.size w w2) := HB0.out.trans (HB2.out.mono HB0.out.size)
    have he' : 0 ≤ en := by omega
    go_wp2_with fail
    refine (specResText_any cd ra rn rc rl _ (HA.out.below HB02.out (Nat.le_refl _)) HI.out hn).mono ?_
    rintro e w3 ⟨⟨s3, rfl, hs3⟩, hb3⟩
    have HS3 : Hid (s3.data.toList = resB cd rl) := hs3
    have hz3 : s3.size ≤ 6 + 22 * rn := by rw [szS s3 hs3, ← HXL.out]; exact resB_le HI.out
    have HB3 : Hid (Below w.heap.size w w3) := HB02.out.trans (hb3.mono HB02.out.size)
    have hc4 : s1.size + 1 + s2.size + 2 + s3.size ≤ 9223372036854775807 := by omega
    have hd4 : ¬ (9223372036854775807 < s1.size + 1 + s2.size + 2 + s3.size) := by omega
    clear hs3 hb3
    go_wp2
    go_ret
    refine ⟨⟨_, rfl, ?_⟩, HB3.out⟩
    show _ = itoa t ++ 32 :: (opB kd k vv ++ 58 :: 32 :: outB en cd rl)
    rw [HT.out]
    simp [HS1.out, HS2.out, HS3.out]
end Go.Proofs.YtkbodiggdajbeaaGreatDoor
