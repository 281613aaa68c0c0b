/- A value that came in, opened. -/
import Derived.Test.YtnjgeokjlfghcaaDoorVal17
import Derived.Test.YtnjgeokjlfghcaaDoorDatVf
namespace Go.Proofs.YtnjgeokjlfghcaaDoor
open Go.ChangeShapes Go.WideShapes Go.ChangeAt Go.RowKit Go.Joins

theorem open_va {H : Type} {enc : TypeId × Value → H} {W : World} {base b0 : Nat} {held : Bool} {v : Value} {d : DataW H} {p : List MemPlace}
    (hv : Value.okWide Tryd.prog W .any b0 32 v) (h : DataW.Trod enc Tryd.prog W base (fun _ => true) held 32 v d p) :
    ∃ (k n : Int) (s : ByteArray), v = VaV k n s ∧ s.size ≤ 9223372036854775807 ∧ (-9223372036854775808 ≤ k ∧ k ≤ 9223372036854775807) ∧ (-9223372036854775808 ≤ n ∧ n ≤ 9223372036854775807) := by
  obtain ⟨vs, cs, rfl, hI, hH, hF⟩ := open_st Tryd.underlying32 flatValue hv h
  obtain ⟨x0, r0, rfl, T0, hH0⟩ := hH.cons
  obtain ⟨x1, r1, rfl, T1, hH1⟩ := hH0.cons
  obtain ⟨x2, r2, rfl, T2, hH2⟩ := hH1.cons
  obtain rfl := hH2.nil
  obtain ⟨v0, vr0, rfl, A0, hA0⟩ := hI.consE
  obtain ⟨v1, vr1, rfl, A1, hA1⟩ := hA0.consE
  obtain ⟨v2, vr2, rfl, A2, hA2⟩ := hA1.consE
  obtain rfl := hA2.nilE
  obtain ⟨k, rfl⟩ := T0.int
  obtain ⟨n, rfl⟩ := T1.int
  obtain ⟨s, rfl⟩ := T2.str
  obtain rfl := A0.int
  obtain rfl := A1.int
  obtain ⟨rfl, hx⟩ := A2.strL
  refine ⟨k, n, s, rfl, hx, ?_, ?_⟩
  · cases hF 0 _ rfl with
    | i _ h => exact bounds_i64 h
  · cases hF 1 _ rfl with
    | i _ h => exact bounds_i64 h
end Go.Proofs.YtnjgeokjlfghcaaDoor
