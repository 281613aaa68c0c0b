/- Values, in plain words: which are right, which is less. No program. -/
import Derived.Test.YtmgofehafjogfabStr
import Derived.Test.YtmgofehafjogfabBoxN
import Derived.WalkKit
import Derived.WalkSmall
import Derived.ProofKit
namespace Go.Proofs.Ytmgofehafjogfab
open Go.ChangeShapes Go.WideShapes Go.ChangeAt Go.RowKit

/-- A value as it is handed over. -/
abbrev VaV (k n : Int) (s : ByteArray) : Value := .agg #[.int .i64 k, .int .i64 n, .string s]
def VaGood (k n : Int) (s : ByteArray) : Prop :=
  (k = 0 ∧ n = 0 ∧ s.size = 0) ∨ (k = 1 ∧ (0 ≤ n ∧ n ≤ 1) ∧ s.size = 0) ∨ (k = 2 ∧ (-1000000000000 ≤ n ∧ n ≤ 1000000000000) ∧ s.size = 0) ∨ (k = 3 ∧ n = 0 ∧ s.size ≤ 20)
instance (k n : Int) (s : ByteArray) : Decidable (VaGood k n s) := by unfold VaGood; infer_instance
/-- By kind, then by number, then by text. -/
def lessV (k n : Int) (s : ByteArray) (k' n' : Int) (s' : ByteArray) : Bool := if k = k' then (if n = n' then Op.bytesLess s.toList s'.toList else decide (n < n')) else decide (k < k')
def sameV (k n : Int) (s : ByteArray) (k' n' : Int) (s' : ByteArray) : Bool := decide (k = k' ∧ n = n' ∧ s = s')
theorem Box.triV {w : World} {b : Nat} {T : TypeId} {x y z : Value} (h : Box w b #[x, y, z] T) : w.cell? ⟨b, 0, none⟩ = some x ∧ w.cell? ⟨b, 1, none⟩ = some y ∧ w.cell? ⟨b, 2, none⟩ = some z := ⟨h.cell 0, h.cell 1, h.cell 2⟩
theorem str_nil {s : ByteArray} (h : s.size = 0) : s = ⟨#[]⟩ := by
  have h1 : s.data.toList = [] := List.length_eq_zero_iff.1 (by simpa using h)
  exact str_eq h1
theorem str_some {s : ByteArray} (h : ¬ s.size = 0) : s.toList.isEmpty = false := by
  simp only [ByteArray.toList_eq]
  rcases hl : s.data.toList with _ | ⟨x, r⟩
  · exfalso
    apply h
    have h1 : s.data.toList.length = 0 := by rw [hl]; rfl
    simpa using h1
  · rfl
end Go.Proofs.Ytmgofehafjogfab
