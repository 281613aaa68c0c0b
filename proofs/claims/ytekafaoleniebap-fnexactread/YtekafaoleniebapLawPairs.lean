/- A list of pairs that came in, opened. -/
import Derived.Test.YtekafaoleniebapRows
import Derived.Test.YtekafaoleniebapPairs
import Derived.WalkKit
import Derived.ProofKit
import Derived.OpenShut
import Derived.ChangeOld
import Derived.Below
import Derived.Lib.SmallJoins
import Derived.Deep.SlicePairs
namespace Go.Proofs.Ytekafaoleniebap
open Go.ChangeShapes Go.WideShapes Go.ChangeAt Go.RowKit Go.Joins

/-- The numbers of pairs, one behind the other. -/
def flatN (f g : Nat → Int) (n : Nat) : List Int := (List.range n).flatMap fun i => [f i, g i]
theorem flatN_len (f g : Nat → Int) (n : Nat) : (flatN f g n).length = n * 2 := by
  induction n with
  | zero => rfl
  | succ n ih => unfold flatN at ih ⊢; rw [List.range_succ, List.flatMap_append, List.length_append, ih]; simp; omega
theorem flatN_at (f g : Nat → Int) (n : Nat) : ∀ i, i < n → (flatN f g n).getD (i * 2) 0 = f i ∧ (flatN f g n).getD (i * 2 + 1) 0 = g i := by
  induction n with
  | zero => intro i hi; omega
  | succ n ih =>
    intro i hi
    have hl := flatN_len f g n
    have e : flatN f g (n + 1) = flatN f g n ++ [f n, g n] := by unfold flatN; rw [List.range_succ, List.flatMap_append]; simp
    rw [e]
    by_cases h : i < n
    · rw [List.getD_eq_getElem?_getD, List.getD_eq_getElem?_getD, List.getElem?_append_left (by omega), List.getElem?_append_left (by omega), ← List.getD_eq_getElem?_getD, ← List.getD_eq_getElem?_getD]
      exact ih i h
    · obtain rfl : i = n := by omega
      rw [List.getD_eq_getElem?_getD, List.getD_eq_getElem?_getD, List.getElem?_append_right (by omega), List.getElem?_append_right (by omega), hl, Nat.sub_self, show i * 2 + 1 - i * 2 = 1 by omega]
      exact ⟨rfl, rfl⟩
theorem flatN_mem {f g : Nat → Int} {n : Nat} {P : Int → Prop} (h : ∀ i, i < n → P (f i) ∧ P (g i)) : ∀ x ∈ flatN f g n, P x := by
  intro x hx
  unfold flatN at hx
  obtain ⟨i, hi, hx⟩ := List.mem_flatMap.1 hx
  have := h i (List.mem_range.1 hi)
  simp only [List.mem_cons, List.not_mem_nil, or_false] at hx
  rcases hx with rfl | rfl
  · exact this.1
  · exact this.2

set_option maxRecDepth 100000 in
theorem open_pairs {H : Type} {enc : TypeId × Value → H} {W : World} {base b0 : Nat} {held : Bool} {v : Value} {d : DataW H} {p : List MemPlace}
    (hv : Value.okWide Try.prog W .any b0 22 v) (h : DataW.Trod enc Try.prog W base (fun _ => true) held 22 v d p) :
    ∃ (a : Option Addr) (n c : Nat) (fs : List Int), v = .slice a n c ∧ n ≤ 9223372036854775807 ∧ (∀ x ∈ fs, (Lit.int .i64 x).wf = true) ∧ (n ≤ 1099511627776 → PairAt W a n fs) := by
  obtain ⟨a0, n, c, rfl⟩ := okWide_slice Try.underlying22 hv
  obtain ⟨fuel, hf⟩ := h
  rcases Go.Deep.open_slice_pairs Try.underlying22 Try.underlying33 (by kernel_rfl) rfl rfl (by kernel_rfl) (by kernel_rfl) hf with ⟨hcs, _⟩ | ⟨x, l, cc, m, k, V0, V1, D0, D1, P0, P1, hcs, _, hl, hm, hmm, _, hcell⟩
  · simp [Value.cells] at hcs
    obtain ⟨rfl, rfl, rfl⟩ := hcs
    exact ⟨none, 0, 0, [], rfl, by omega, fun x hx => by simp at hx, fun _ => ⟨rfl, by omega, .inl rfl⟩⟩
  · simp [Value.cells] at hcs
    obtain ⟨rfl, rfl, rfl⟩ := hcs
    have hlm : n ≤ m := by rw [hmm]; split <;> omega
    have hint : ∀ i, i < n → ∃ z : Int × Int, V0 i = .int .i64 z.1 ∧ V1 i = .int .i64 z.2 ∧ (Lit.int .i64 z.1).wf = true ∧ (Lit.int .i64 z.2).wf = true := fun i hi => by
      obtain ⟨_, _, t0, t1⟩ := hcell i (by omega)
      obtain ⟨x0, e0, _, w0⟩ := DataW.trod_int Try.underlying3 t0
      obtain ⟨x1, e1, _, w1⟩ := DataW.trod_int Try.underlying3 t1
      exact ⟨(x0, x1), by simpa using e0, by simpa using e1, w0, w1⟩
    have hch : ∃ z : Nat → Int × Int, ∀ i, i < n → V0 i = .int .i64 (z i).1 ∧ V1 i = .int .i64 (z i).2 ∧ (Lit.int .i64 (z i).1).wf = true ∧ (Lit.int .i64 (z i).2).wf = true :=
      ⟨fun i => if h : i < n then Classical.choose (hint i h) else (0, 0), fun i hi => by dsimp only; rw [dif_pos hi]; exact Classical.choose_spec (hint i hi)⟩
    obtain ⟨z, hz⟩ := hch
    have hL := flatN_len (fun i => (z i).1) (fun i => (z i).2) n
    have hAt := flatN_at (fun i => (z i).1) (fun i => (z i).2) n
    refine ⟨some x, n, c, flatN (fun i => (z i).1) (fun i => (z i).2) n, rfl, by unfold maxLen at hm; omega, flatN_mem fun i hi => ⟨(hz i hi).2.2.1, (hz i hi).2.2.2⟩, fun hn => ⟨hL, hn, ?_⟩⟩
    by_cases h0 : n = 0
    · exact .inl h0
    · have hcells : ∀ i, i < (flatN (fun i => (z i).1) (fun i => (z i).2) n).length → W.cell? (x.add i) = some (.int .i64 ((flatN (fun i => (z i).1) (fun i => (z i).2) n).getD i 0)) := fun i hi => by
        rw [hL] at hi
        obtain ⟨c0, c1, _⟩ := hcell (i / 2) (by omega)
        obtain ⟨v0, v1, _⟩ := hz (i / 2) (by omega)
        rcases (show i % 2 = 0 ∨ i % 2 = 1 by omega) with e | e
        · have e' : i = i / 2 * 2 := by omega
          rw [e', c0, v0, (hAt (i / 2) (by omega)).1]
        · have e' : i = i / 2 * 2 + 1 := by omega
          rw [e', c1, v1, (hAt (i / 2) (by omega)).2]
      obtain ⟨b, o, rfl, hc⟩ := ints_at hcells (by omega)
      exact .inr ⟨b, o, rfl, fun i hi => hc i (by omega)⟩
end Go.Proofs.Ytekafaoleniebap
