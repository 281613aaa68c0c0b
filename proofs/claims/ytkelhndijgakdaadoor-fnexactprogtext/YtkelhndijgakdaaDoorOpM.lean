/- What is asked, in plain words: which ops are right (no program). -/
import Derived.Test.YtkelhndijgakdaaDoorRows
import Derived.WalkKit
import Derived.ProofKit
namespace Go.Proofs.YtkelhndijgakdaaDoor

/-- The key of an op of that kind is right. -/
def KeyGood (kind k : Int) : Prop := (kind ≤ 4 ∧ 0 ≤ k ∧ k ≤ 3) ∨ (kind = 6 ∧ 0 ≤ k ∧ k ≤ 2) ∨ (4 < kind ∧ kind ≠ 6 ∧ k = 0)
/-- What an op of that kind names is right. -/
def ValGood (kind v : Int) : Prop := ((kind = 1 ∨ kind = 2 ∨ kind = 5 ∨ kind = 10) ∧ 1 ≤ v ∧ v ≤ 6) ∨ (¬ (kind = 1 ∨ kind = 2 ∨ kind = 5 ∨ kind = 10) ∧ v = 0)
def OpGood (kind k v : Int) : Prop := (1 ≤ kind ∧ kind ≤ 10) ∧ KeyGood kind k ∧ ValGood kind v
instance (kind k : Int) : Decidable (KeyGood kind k) := by unfold KeyGood; infer_instance
instance (kind v : Int) : Decidable (ValGood kind v) := by unfold ValGood; infer_instance
instance (kind k v : Int) : Decidable (OpGood kind k v) := by unfold OpGood; infer_instance

theorem kinds {kind : Int} (h : 1 ≤ kind ∧ kind ≤ 10) : kind = 1 ∨ kind = 2 ∨ kind = 3 ∨ kind = 4 ∨ kind = 5 ∨ kind = 6 ∨ kind = 7 ∨ kind = 8 ∨ kind = 9 ∨ kind = 10 := by omega
/-- An op as a value. -/
abbrev OpV (kind k v : Int) : Value := .agg #[.int .i64 kind, .int .i64 k, .int .i64 v]

theorem says_true {P : Prop} [Decidable P] (h : P) : Ending.returned (.bool true) = .returned (.bool (decide P)) := by rw [decide_eq_true h]
theorem says_false {P : Prop} [Decidable P] (h : ¬ P) : Ending.returned (.bool false) = .returned (.bool (decide P)) := by rw [decide_eq_false h]
theorem good_of {kind k v : Int} {P Q : Prop} (h : 1 ≤ kind ∧ kind ≤ 10) (hp : KeyGood kind k ↔ P) (hq : ValGood kind v ↔ Q) : OpGood kind k v ↔ (P ∧ Q) :=
  ⟨fun g => ⟨hp.1 g.2.1, hq.1 g.2.2⟩, fun g => ⟨h, hp.2 g.1, hq.2 g.2⟩⟩
theorem eqb (a b : Int) : (a = b ∧ (a == b) = true) ∨ (¬ a = b ∧ (a == b) = false) := by
  by_cases h : a = b
  · exact .inl ⟨h, by simp [h]⟩
  · exact .inr ⟨h, by simp [h]⟩
theorem tri (a b x : Int) (h : a ≤ b) : (a ≤ x ∧ x ≤ b) ∨ (¬ a ≤ x ∧ x ≤ b) ∨ (a ≤ x ∧ ¬ x ≤ b) := by omega

end Go.Proofs.YtkelhndijgakdaaDoor
