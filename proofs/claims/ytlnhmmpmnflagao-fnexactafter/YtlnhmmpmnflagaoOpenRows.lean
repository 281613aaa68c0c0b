/- Rows that came in, opened: a list of numbers and a number. -/
import Derived.Test.YtlnhmmpmnflagaoRows
import Derived.Test.YtlnhmmpmnflagaoIntAt
import Derived.Test.YtlnhmmpmnflagaoLawRows
import Derived.WalkKit
import Derived.ProofKit
import Derived.OpenShut
import Derived.ChangeOld
import Derived.Lib.SmallJoins
namespace Go.Proofs.Ytlnhmmpmnflagao
open Go.ChangeShapes Go.WideShapes Go.ChangeAt Go.RowKit Go.Joins
theorem cellsRows : Try.prog.cellsOf 37 = 2 := by kernel_rfl

theorem open_rows {H : Type} {enc : TypeId × Value → H} {W : World} {base b0 : Nat} {held : Bool} {v : Value} {d : DataW H} {p : List MemPlace}
    (hv : Value.okWide Try.prog W .any b0 37 v) (h : DataW.Trod enc Try.prog W base (fun _ => true) held 37 v d p) :
    ∃ (a : Option Addr) (n c : Nat) (st : Int) (xs : List Int), v = RowsV a n c st ∧ n ≤ 9223372036854775807 ∧ (∀ x ∈ xs, (Lit.int .i64 x).wf = true) ∧ (n ≤ 1099511627776 → IntAt W a n xs) := by
  obtain ⟨v0, v1, y0, y1, m, rfl, rfl, rfl, h0, h1⟩ := open_agg2 Try.underlying37 (by kernel_rfl) cellsRows hv h
  obtain ⟨st, e1, rfl, w1⟩ := DataW.trod_int Try.underlying3 h1
  obtain rfl : v1 = .int .i64 st := by simpa using e1
  rcases open_ints Try.underlying28 Try.underlying3 (by kernel_rfl) h0 with ⟨hcs, _⟩ | ⟨x, l, cc, zs, hcs, _, hl, hm, hz, _, hcell, hwz⟩
  · obtain rfl : v0 = .slice none 0 0 := by simpa using hcs
    exact ⟨none, 0, 0, st, [], rfl, by omega, fun x hx => by simp at hx, fun _ => ⟨rfl, by omega, .inl rfl⟩⟩
  · obtain rfl : v0 = .slice (some x) l cc := by simpa using hcs
    refine ⟨some x, l, cc, st, zs.take l, rfl, by unfold maxLen at hm; omega, fun x hx => hwz x (List.mem_of_mem_take hx), fun hn => ⟨by simp at hz; rw [List.length_take]; omega, hn, ?_⟩⟩
    by_cases h0 : l = 0
    · exact .inl h0
    · simp at hz
      obtain ⟨b, o, rfl, hc⟩ := ints_at hcell (by omega)
      refine .inr ⟨b, o, rfl, fun i hi => ?_⟩
      rw [hc i (by omega)]
      simp [List.getD, hi]
end Go.Proofs.Ytlnhmmpmnflagao
