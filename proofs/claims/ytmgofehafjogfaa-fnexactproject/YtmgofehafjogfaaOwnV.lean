/- A list of values that is owned as data, as a row of cells. No program. -/
import Derived.Test.YtmgofehafjogfaaVasC
import Derived.Test.YtmgofehafjogfaaVasO
namespace Go.Proofs.Ytmgofehafjogfaa
open Go.ChangeShapes Go.WideShapes Go.ChangeAt Go.RowKit Go.Joins
open Go.Lib (byteCells byteCells_length byteCells_append)

theorem own_va {w : World} {base : Nat} {v : Value} {n : Nat} {cs : List Cel} {S : Nat → Prop} (h : Own w base v (.l 43 3 n cs) S) (hs : Has (.l 43 3 n cs) (.l 43 3 tyValue)) :
    (v = .slice none 0 0 ∧ n = 0) ∨ ∃ g cap, v = .slice (some ⟨g, 0, none⟩) n cap ∧ w.ownsRow base 43 3 v n (vaC (vasD cs n)) := by
  obtain ⟨a, c, hv, hvas, _⟩ := vas_of h.at hs
  cases h with
  | nil _ _ _ _ => exact .inl ⟨rfl, rfl⟩
  | l g cap T k n cs vs S Ss h1 h2 hn h4 h5 h6 h7 =>
    refine .inr ⟨g, cap, rfl, ?_⟩
    have hvs : vs = vaC (vasD cs n) := by
      have hl : vs.length = n * 3 := h1.1
      have hD : (vasD cs n).length = n := hvas.1
      have hl2 : (vaC (vasD cs n)).length = n * 3 := by rw [vaC_length, hD]
      refine List.ext_getElem? fun j => ?_
      rcases Nat.lt_or_ge j (n * 3) with hj | hj
      · obtain ⟨i, r, hr, rfl⟩ : ∃ i r, r < 3 ∧ j = i * 3 + r := ⟨j / 3, j % 3, Nat.mod_lt _ (by decide), by omega⟩
        have hi : i < n := by omega
        obtain ⟨x, hx⟩ : ∃ x, (vasD cs n)[i]? = some x := ⟨_, List.getElem?_eq_getElem (by omega)⟩
        rcases hvas.2.2 with h0 | ⟨b, o, hb, hc⟩
        · omega
        have hga : some (⟨g, 0, none⟩ : Addr) = a := by injection hv
        rw [hb] at hga
        cases hga
        obtain ⟨e0, e1, e2⟩ := hc i x hx
        obtain ⟨a0, a1, a2⟩ := vaC_at hx
        obtain ⟨u, hu⟩ : ∃ u, vs[i * 3 + r]? = some u := ⟨_, List.getElem?_eq_getElem (by omega)⟩
        have hcu := own_cellV h1 hu
        rw [Nat.zero_add] at e0 e1 e2
        match r, hr with
        | 0, _ => rw [hu, ← hcu]; exact e0.trans a0.symm
        | 1, _ => rw [hu, ← hcu]; exact e1.trans a1.symm
        | 2, _ => rw [hu, ← hcu]; exact e2.trans a2.symm
      · rw [List.getElem?_eq_none (by omega), List.getElem?_eq_none (by omega)]
    rw [← hvs]
    exact h1
end Go.Proofs.Ytmgofehafjogfaa
