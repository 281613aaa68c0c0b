/- A list of values as it lies in memory; tuples in plain words. No program. -/
import Derived.Test.YtmgofehafjogfabVal17
import Derived.Test.YtmgofehafjogfabDatVd
import Derived.Test.YtmgofehafjogfabCelN
namespace Go.Proofs.Ytmgofehafjogfab
open Go.ChangeShapes Go.WideShapes Go.ChangeAt Go.RowKit

/-- A value as data. -/
abbrev Va3 := Int × Int × ByteArray
instance : Inhabited Va3 := ⟨(0, 0, ⟨#[]⟩)⟩
def VasAt (w : World) (a : Option Addr) (n : Nat) (L : List Va3) : Prop :=
  L.length = n ∧ n ≤ 2097152 ∧ (n = 0 ∨ ∃ b o, a = some ⟨b, o, none⟩ ∧ ∀ i x, L[i]? = some x → w.cell? ⟨b, o + i * 3, none⟩ = some (.int .i64 x.1) ∧ w.cell? ⟨b, o + i * 3 + 1, none⟩ = some (.int .i64 x.2.1) ∧ w.cell? ⟨b, o + i * 3 + 2, none⟩ = some (.string x.2.2))
theorem VasAt.below {w w' : World} {a : Option Addr} {n : Nat} {L : List Va3} (h : VasAt w a n L) {B : Nat} (hb : Below B w w') (hB : w.heap.size ≤ B) : VasAt w' a n L := by
  obtain ⟨h1, h2, h3 | ⟨b, o, h3, h4⟩⟩ := h
  · exact ⟨h1, h2, .inl h3⟩
  · refine ⟨h1, h2, .inr ⟨b, o, h3, fun i x hi => ?_⟩⟩
    obtain ⟨h5, h6, h7⟩ := h4 i x hi
    have hlt : b < B := Nat.lt_of_lt_of_le (World.block_lt_of_cell? w _ h5) hB
    exact ⟨(hb.cell hlt).trans h5, (hb.cell hlt).trans h6, (hb.cell hlt).trans h7⟩
/-- A tuple that is right. -/
def TupGood (L : List Va3) : Prop := (∀ x ∈ L, VaGood x.1 x.2.1 x.2.2) ∧ L.length ≤ 4
instance (L : List Va3) : Decidable (TupGood L) := by unfold TupGood; infer_instance
end Go.Proofs.Ytmgofehafjogfab
