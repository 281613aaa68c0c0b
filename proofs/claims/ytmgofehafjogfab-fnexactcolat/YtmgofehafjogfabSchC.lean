/- A schema, from data to memory. -/
import Derived.Test.YtmgofehafjogfabSchL
import Derived.Test.YtmgofehafjogfabDatCd
import Derived.Test.YtmgofehafjogfabDatI
import Derived.Lib.SmallJoins
namespace Go.Proofs.Ytmgofehafjogfab
open Go.ChangeShapes Go.WideShapes Go.ChangeAt Go.RowKit Go.Joins

def colD (r : List Cel) : Col3 := (textC (nthC r 0), numC (nthC r 1), boolC (nthC r 2))
def colsD (cs : List Cel) (n : Nat) : List Col3 := (List.range n).map fun i => colD (row cs 3 i)
def idxD (r : List Cel) : Idx3 := (textC (nthC r 0), nums (listC (nthC r 1)), boolC (nthC r 2))
def idxsD (cs : List Cel) (n : Nat) : List Idx3 := (List.range n).map fun i => idxD (row cs 3 i)
def schD (cs : List Cel) : SchD := ⟨colsD (listC (nthC cs 0)) (lenC (nthC cs 0)), nums (listC (nthC cs 1)), idxsD (listC (nthC cs 2)) (lenC (nthC cs 2))⟩
theorem ints_of {w : World} {v : Value} {n : Nat} {cs : List Cel} (h : At true w v (.l 3 1 n cs)) (hs : Has (.l 3 1 n cs) (.l 3 1 [.i])) : ∃ a c, v = .slice a n c ∧ IntAt w a n (nums cs) ∧ n ≤ 2097152 ∧ n ≤ c := by
  obtain ⟨a, c, vs, rfl, h1, h2, hn, hq, h3, h4⟩ := h.openL
  refine ⟨a, c, rfl, ⟨by unfold nums; rw [List.length_map]; omega, by omega, ?_⟩, hn, (hq rfl).2⟩
  rcases h3 with h0 | ⟨b, o, rfl, hc⟩
  · exact .inl h0
  · refine .inr ⟨b, o, rfl, fun j hj => ?_⟩
    rw [hc j (by omega)]
    have hv : vs[j]? = some (vs[j]'(by omega)) := List.getElem?_eq_getElem (by omega)
    have hcj : cs[j]? = some (cs[j]'(by omega)) := List.getElem?_eq_getElem (by omega)
    have hat := h4 j _ _ hv hcj
    obtain ⟨x, hx⟩ : ∃ x, cs[j]'(by omega) = .i x := by
      cases hs with
      | l _ _ _ _ _ hk hl hh =>
        have ht := hh j _ _ hcj (show ([.i] : List Ty)[j % 1]? = some .i by rw [Nat.mod_one]; rfl)
        exact ht.int
    rw [hx] at hat
    rw [hv, hat.int]
    have : (nums cs).getD j 0 = x := by
      unfold nums
      have hjc : j < cs.length := by omega
      simp [List.getD, hjc, hx, numC]
    rw [this]
theorem cols_of {w : World} {v : Value} {n : Nat} {cs : List Cel} (h : At true w v (.l 65 3 n cs)) (hs : Has (.l 65 3 n cs) (.l 65 3 tyCol)) : ∃ a c, v = .slice a n c ∧ ColsAt w a n (colsD cs n) ∧ n ≤ c := by
  obtain ⟨a, c, vs, rfl, h1, h2, hn, hq, h3, h4⟩ := h.openL
  refine ⟨a, c, rfl, ⟨by simp [colsD], hn, ?_⟩, (hq rfl).2⟩
  rcases h3 with h0 | ⟨b, o, rfl, hc⟩
  · exact .inl h0
  · refine .inr ⟨b, o, rfl, fun i x hx => ?_⟩
    have hi : i < n := by have := (List.getElem?_eq_some_iff.1 hx).1; simpa [colsD] using this
    have hx' : x = colD (row cs 3 i) := by
      have := (List.getElem?_eq_some_iff.1 hx).2
      rw [← this]
      simp [colsD]
    have hA := rowVals h1 h2 h4 hi
    have hH := hs.rowL hi
    have hcv : ∀ r, r < 3 → w.cell? ⟨b, o + (i * 3 + r), none⟩ = ((vs.drop (i * 3)).take 3)[r]? := fun r hr => by
      rw [List.getElem?_take_of_lt hr, List.getElem?_drop]
      exact hc (i * 3 + r) (by omega)
    subst hx'
    obtain ⟨rs, hrs⟩ : ∃ rs, row cs 3 i = rs := ⟨_, rfl⟩
    obtain ⟨ws, hws⟩ : ∃ ws, (vs.drop (i * 3)).take 3 = ws := ⟨_, rfl⟩
    rw [hrs] at hA hH ⊢
    rw [hws] at hA hcv
    obtain ⟨x0, r0, rfl, T0, hH0⟩ := hH.cons
    obtain ⟨x1, r1, rfl, T1, hH1⟩ := hH0.cons
    obtain ⟨x2, r2, rfl, T2, hH2⟩ := hH1.cons
    obtain rfl := hH2.nil
    obtain ⟨v0, vr0, rfl, A0, hA0⟩ := hA.consE
    obtain ⟨v1, vr1, rfl, A1, hA1⟩ := hA0.consE
    obtain ⟨v2, vr2, rfl, A2, hA2⟩ := hA1.consE
    obtain rfl := hA2.nilE
    obtain ⟨y0, rfl⟩ := T0.str
    obtain rfl := A0.str
    obtain ⟨y1, rfl⟩ := T1.int
    obtain rfl := A1.int
    obtain ⟨y2, rfl⟩ := T2.bool
    obtain rfl := A2.bool
    exact ⟨hcv 0 (by omega), by have := hcv 1 (by omega); rw [Nat.add_assoc]; exact this, by have := hcv 2 (by omega); rw [Nat.add_assoc]; exact this⟩
theorem idxs_of {w : World} {v : Value} {n : Nat} {cs : List Cel} (h : At true w v (.l 75 3 n cs)) (hs : Has (.l 75 3 n cs) (.l 75 3 tyIndex)) : ∃ a c, v = .slice a n c ∧ IdxAt w a n (idxsD cs n) ∧ n ≤ c := by
  obtain ⟨a, c, vs, rfl, h1, h2, hn, hq, h3, h4⟩ := h.openL
  refine ⟨a, c, rfl, ⟨by simp [idxsD], hn, ?_⟩, (hq rfl).2⟩
  rcases h3 with h0 | ⟨b, o, rfl, hc⟩
  · exact .inl h0
  · refine .inr ⟨b, o, rfl, fun i x hx => ?_⟩
    have hi : i < n := by have := (List.getElem?_eq_some_iff.1 hx).1; simpa [idxsD] using this
    have hx' : x = idxD (row cs 3 i) := by
      have := (List.getElem?_eq_some_iff.1 hx).2
      rw [← this]
      simp [idxsD]
    have hA := rowVals h1 h2 h4 hi
    have hH := hs.rowL hi
    have hcv : ∀ r, r < 3 → w.cell? ⟨b, o + (i * 3 + r), none⟩ = ((vs.drop (i * 3)).take 3)[r]? := fun r hr => by
      rw [List.getElem?_take_of_lt hr, List.getElem?_drop]
      exact hc (i * 3 + r) (by omega)
    subst hx'
    obtain ⟨rs, hrs⟩ : ∃ rs, row cs 3 i = rs := ⟨_, rfl⟩
    obtain ⟨ws, hws⟩ : ∃ ws, (vs.drop (i * 3)).take 3 = ws := ⟨_, rfl⟩
    rw [hrs] at hA hH ⊢
    rw [hws] at hA hcv
    obtain ⟨x0, r0, rfl, T0, hH0⟩ := hH.cons
    obtain ⟨x1, r1, rfl, T1, hH1⟩ := hH0.cons
    obtain ⟨x2, r2, rfl, T2, hH2⟩ := hH1.cons
    obtain rfl := hH2.nil
    obtain ⟨v0, vr0, rfl, A0, hA0⟩ := hA.consE
    obtain ⟨v1, vr1, rfl, A1, hA1⟩ := hA0.consE
    obtain ⟨v2, vr2, rfl, A2, hA2⟩ := hA1.consE
    obtain rfl := hA2.nilE
    obtain ⟨y0, rfl⟩ := T0.str
    obtain rfl := A0.str
    obtain ⟨m1, ds1, rfl, -⟩ := T1.list
    obtain ⟨ai, ci, rfl, hia, hn2, hnc⟩ := ints_of A1 T1
    obtain ⟨y2, rfl⟩ := T2.bool
    obtain rfl := A2.bool
    exact ⟨hcv 0 (by omega), ⟨ai, _, ci, (by have := hcv 1 (by omega); rw [Nat.add_assoc]; exact this), hnc, hn2, hia⟩, by have := hcv 2 (by omega); rw [Nat.add_assoc]; exact this⟩
theorem sch_of {w : World} {us : List Value} {cs : List Cel} (h : AtL true w us cs) (hs : HasL cs tySchema) : ∃ a1 n1 c1 a2 n2 c2 a3 n3 c3, us = [.slice a1 n1 c1, .slice a2 n2 c2, .slice a3 n3 c3] ∧ SchAt w a1 n1 c1 a2 n2 c2 a3 n3 c3 (schD cs) := by
  obtain ⟨x0, r0, rfl, T0, hH0⟩ := hs.cons
  obtain ⟨x1, r1, rfl, T1, hH1⟩ := hH0.cons
  obtain ⟨x2, r2, rfl, T2, hH2⟩ := hH1.cons
  obtain rfl := hH2.nil
  obtain ⟨v0, vr0, rfl, A0, hA0⟩ := h.consE
  obtain ⟨v1, vr1, rfl, A1, hA1⟩ := hA0.consE
  obtain ⟨v2, vr2, rfl, A2, hA2⟩ := hA1.consE
  obtain rfl := hA2.nilE
  obtain ⟨n0, l0, rfl, _⟩ := T0.list
  obtain ⟨n1, l1, rfl, _⟩ := T1.list
  obtain ⟨n2, l2, rfl, _⟩ := T2.list
  obtain ⟨a0, c0, rfl, g0, q0⟩ := cols_of A0 T0
  obtain ⟨a1, c1, rfl, g1, p1, q1⟩ := ints_of A1 T1
  obtain ⟨a2, c2, rfl, g2, q2⟩ := idxs_of A2 T2
  exact ⟨a0, n0, c0, a1, n1, c1, a2, n2, c2, rfl, ⟨g0, g1, g2, q0, q1, q2, p1⟩⟩
/-- How long its names are at most. -/
structure SchSz (S : SchD) : Prop where
  cols : ∀ x ∈ S.cols, x.1.size ≤ 1048576
  idx : ∀ x ∈ S.idx, x.1.size ≤ 1048576
theorem text_big (c : Cel) : (textC c).size ≤ c.big := by
  cases c with
  | s x => exact Nat.le_of_eq (by simp [textC, Cel.big])
  | _ => exact Nat.zero_le _
theorem nth_bigL (cs : List Cel) (i : Nat) : (nthC cs i).big ≤ bigL cs := by
  unfold nthC
  rcases Nat.lt_or_ge i cs.length with hi | hi
  · rw [List.getD_eq_getElem?_getD, List.getElem?_eq_getElem hi, Option.getD_some]
    exact big_mem (List.getElem?_eq_getElem hi)
  · rw [List.getD_eq_getElem?_getD, List.getElem?_eq_none hi]
    simp [Cel.big]
theorem row_text (cs : List Cel) (i : Nat) : (textC (nthC (row cs 3 i) 0)).size ≤ bigL cs := by
  refine Nat.le_trans (text_big _) ?_
  unfold nthC row
  rw [List.getD_eq_getElem?_getD]
  rcases hc : ((cs.drop (i * 3)).take 3)[0]? with _ | c
  · simp [Cel.big]
  · rw [List.getElem?_take_of_lt (by omega), List.getElem?_drop] at hc
    exact big_mem hc
theorem list_bigL (c : Cel) : bigL (listC c) ≤ c.big := by
  cases c with
  | l T k n cs => show bigL cs ≤ n + bigL cs; omega
  | _ => simp [listC, bigL]
theorem sch_cols {cs : List Cel} : ∀ x ∈ (schD cs).cols, x.1.size ≤ bigL cs := by
  intro x hx
  obtain ⟨i, _, rfl⟩ := List.mem_map.1 hx
  exact Nat.le_trans (row_text _ i) (Nat.le_trans (list_bigL _) (nth_bigL cs 0))
theorem sch_idx {cs : List Cel} : ∀ x ∈ (schD cs).idx, x.1.size ≤ bigL cs := by
  intro x hx
  obtain ⟨i, _, rfl⟩ := List.mem_map.1 hx
  exact Nat.le_trans (row_text _ i) (Nat.le_trans (list_bigL _) (nth_bigL cs 2))
end Go.Proofs.Ytmgofehafjogfab
