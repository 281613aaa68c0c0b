/- Plain facts on texts as values, of no program. -/
import Derived.WalkKit
namespace Go.Proofs.Ytmgofehafjogfab

theorem str_eq {a b : ByteArray} (h : a.data.toList = b.data.toList) : a = b := by
  cases a; cases b; simp_all
theorem ret_str {a b : ByteArray} (h : a.data.toList = b.data.toList) : Ending.returned (.string a) = .returned (.string b) := by rw [str_eq h]
/-- A text as a value. -/
abbrev S (l : List UInt8) : Value := .string ⟨l.toArray⟩
theorem str_S (s : ByteArray) : Value.string s = S s.data.toList := by cases s; simp
theorem neq_S (a b : List UInt8) : (!(⟨a.toArray⟩ : ByteArray).toList == (⟨b.toArray⟩ : ByteArray).toList) = decide (a ≠ b) := by
  simp only [ByteArray.toList_eq]
  by_cases h : a = b <;> simp [h]
end Go.Proofs.Ytmgofehafjogfab
