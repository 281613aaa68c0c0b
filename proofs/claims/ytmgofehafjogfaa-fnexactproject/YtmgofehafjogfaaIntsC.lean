/- A list of ints that came in, as data. -/
import Derived.Test.YtmgofehafjogfaaSchC
import Derived.Test.YtmgofehafjogfaaDatO
namespace Go.Proofs.Ytmgofehafjogfaa
open Go.ChangeShapes Go.WideShapes Go.ChangeAt Go.RowKit Go.Joins

theorem open_intsD {H : Type} {enc : TypeId × Value → H} {W : World} {base : Nat} {held : Bool} {a : Option Addr} {n c : Nat} {d : DataW H} {p : List MemPlace} (h : DataW.Trod enc Try.prog W base (fun _ => true) held 25 (.slice a n c) d p) :
    ∃ n' cl, In W (.slice a n c) (.l 3 1 n' cl) ∧ Has (.l 3 1 n' cl) (.l 3 1 [.i]) ∧ WfL cl := by
  obtain ⟨fuel, hx⟩ := h
  obtain ⟨ds, h1, h2, h3⟩ := open_flat (Flat.l _ _ 3 1 _ Try.underlying25 rfl (by decide) (by kernel_rfl) (Flat.i _ Try.underlying3)) hx
  have h1' : InL W [.slice a n c] ds := by simpa [Value.cells] using h1
  obtain ⟨x, r, rfl, T, hr⟩ := h2.cons
  obtain rfl := hr.nil
  obtain ⟨n', cl, rfl, -⟩ := T.list
  have h4 := h3 0 _ rfl
  exact ⟨n', cl, h1'.2 0 _ _ rfl rfl, T, by cases h4; assumption⟩
theorem cnt_all {cs : List Cel} (h : ∀ c ∈ cs, ∃ x, c = .i x) : cntL cs = cs.length ∧ bigL cs = 0 := by
  induction cs with
  | nil => exact ⟨rfl, rfl⟩
  | cons c cs ih =>
    obtain ⟨x, rfl⟩ := h c (by simp)
    obtain ⟨h1, h2⟩ := ih fun d hd => h d (by simp [hd])
    exact ⟨by rw [cntL, h1]; simp [Cel.cnt]; omega, by rw [bigL, h2]; rfl⟩
theorem cnt_ints {n : Nat} {cs : List Cel} (hs : Has (.l 3 1 n cs) (.l 3 1 [.i])) : cntL cs = n ∧ bigL cs = 0 := by
  cases hs with
  | l _ _ _ _ _ hk hl hh =>
    have h1 := cnt_all (cs := cs) fun c hc => by
      obtain ⟨j, hj, rfl⟩ := List.getElem_of_mem hc
      exact (hh j _ _ (List.getElem?_eq_getElem hj) (show ([.i] : List Ty)[j % 1]? = some .i by rw [Nat.mod_one]; rfl)).int
    exact ⟨by omega, h1.2⟩
end Go.Proofs.Ytmgofehafjogfaa
