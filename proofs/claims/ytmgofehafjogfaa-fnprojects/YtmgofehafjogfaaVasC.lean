/- A list of values, from data to memory; one that came in, opened. -/
import Derived.Test.YtmgofehafjogfaaVasL
import Derived.Test.YtmgofehafjogfaaDatVf
import Derived.Lib.SmallJoins
namespace Go.Proofs.Ytmgofehafjogfaa
open Go.ChangeShapes Go.WideShapes Go.ChangeAt Go.RowKit Go.Joins

def va3 (r : List Cel) : Va3 := (numC (nthC r 0), numC (nthC r 1), textC (nthC r 2))
def vasD (cs : List Cel) (n : Nat) : List Va3 := (List.range n).map fun i => va3 (row cs 3 i)
theorem vas_of {q : Bool} {w : World} {v : Value} {n : Nat} {cs : List Cel} (h : At q w v (.l 43 3 n cs)) (hs : Has (.l 43 3 n cs) (.l 43 3 tyValue)) : ∃ a c, v = .slice a n c ∧ VasAt w a n (vasD cs n) ∧ (q = true → n ≤ c) := by
  obtain ⟨a, c, vs, rfl, h1, h2, hn, hq, h3, h4⟩ := h.openL
  refine ⟨a, c, rfl, ⟨by simp [vasD], hn, ?_⟩, fun hq' => (hq hq').2⟩
  rcases h3 with h0 | ⟨b, o, rfl, hc⟩
  · exact .inl h0
  · refine .inr ⟨b, o, rfl, fun i x hx => ?_⟩
    have hi : i < n := by have := (List.getElem?_eq_some_iff.1 hx).1; simpa [vasD] using this
    have hx' : x = va3 (row cs 3 i) := by
      have := (List.getElem?_eq_some_iff.1 hx).2
      rw [← this]
      simp [vasD]
    have hA := rowVals h1 h2 h4 hi
    have hH := hs.rowL hi
    have hcv : ∀ r, r < 3 → w.cell? ⟨b, o + (i * 3 + r), none⟩ = ((vs.drop (i * 3)).take 3)[r]? := fun r hr => by
      rw [List.getElem?_take_of_lt hr, List.getElem?_drop]
      exact hc (i * 3 + r) (by omega)
    subst hx'
    obtain ⟨rs, hrs⟩ : ∃ rs, row cs 3 i = rs := ⟨_, rfl⟩
    obtain ⟨ws, hws⟩ : ∃ ws, (vs.drop (i * 3)).take 3 = ws := ⟨_, rfl⟩
    rw [hrs] at hA hH ⊢
    rw [hws] at hA hcv
    obtain ⟨x0, r0, rfl, T0, hH0⟩ := hH.cons
    obtain ⟨x1, r1, rfl, T1, hH1⟩ := hH0.cons
    obtain ⟨x2, r2, rfl, T2, hH2⟩ := hH1.cons
    obtain rfl := hH2.nil
    obtain ⟨v0, vr0, rfl, A0, hA0⟩ := hA.consE
    obtain ⟨v1, vr1, rfl, A1, hA1⟩ := hA0.consE
    obtain ⟨v2, vr2, rfl, A2, hA2⟩ := hA1.consE
    obtain rfl := hA2.nilE
    obtain ⟨k, rfl⟩ := T0.int
    obtain ⟨m, rfl⟩ := T1.int
    obtain ⟨s, rfl⟩ := T2.str
    obtain rfl := A0.int
    obtain rfl := A1.int
    obtain rfl := A2.str
    exact ⟨hcv 0 (by omega), by have := hcv 1 (by omega); rw [Nat.add_assoc]; exact this, by have := hcv 2 (by omega); rw [Nat.add_assoc]; exact this⟩
theorem open_vas {H : Type} {enc : TypeId × Value → H} {W : World} {base : Nat} {held : Bool} {a : Option Addr} {n c : Nat} {d : DataW H} {p : List MemPlace} (h : DataW.Trod enc Try.prog W base (fun _ => true) held 57 (.slice a n c) d p) :
    ∃ n' cl, In W (.slice a n c) (.l 43 3 n' cl) ∧ Has (.l 43 3 n' cl) (.l 43 3 tyValue) ∧ WfL cl := by
  obtain ⟨fuel, hx⟩ := h
  obtain ⟨ds, h1, h2, h3⟩ := open_flat (Flat.l _ _ 43 3 _ Try.underlying57 rfl (by decide) (by kernel_rfl) flatValue) hx
  have h1' : InL W [.slice a n c] ds := by simpa [Value.cells] using h1
  obtain ⟨x, r, rfl, T, hr⟩ := h2.cons
  obtain rfl := hr.nil
  obtain ⟨n', cl, rfl, -⟩ := T.list
  have h4 := h3 0 _ rfl
  exact ⟨n', cl, h1'.2 0 _ _ rfl rfl, T, by cases h4; assumption⟩
end Go.Proofs.Ytmgofehafjogfaa
