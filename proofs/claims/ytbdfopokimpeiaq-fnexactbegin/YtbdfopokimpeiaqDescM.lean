/- When a Desc is right: as the document says; no program. -/
import Derived.Test.YtbdfopokimpeiaqInB
namespace Go.Proofs.Ytbdfopokimpeiaq

/-- The entry at i is one that a Desc may have there. -/
def entOk (es : List Int) (i : Nat) : Prop :=
  (0 ≤ es.getD (i * 3) 0 ∧ es.getD (i * 3) 0 ≤ 19) ∧ (0 ≤ es.getD (i * 3 + 1) 0 ∧ es.getD (i * 3 + 1) 0 ≤ 1000) ∧ (0 ≤ es.getD (i * 3 + 2) 0 ∧ es.getD (i * 3 + 2) 0 ≤ 1000) ∧ (0 < i → es.getD ((i - 1) * 3) 0 < es.getD (i * 3) 0)
instance (es : List Int) (i : Nat) : Decidable (entOk es i) := by unfold entOk; infer_instance
/-- What the next place must be at least. -/
def leastE (es : List Int) (k : Nat) : Int := if k = 0 then 0 else es.getD ((k - 1) * 3) 0 + 1
theorem leastE_ok {es : List Int} {k : Nat} (h : ∀ i, i < k → entOk es i) : 0 ≤ leastE es k ∧ leastE es k ≤ 20 := by
  unfold leastE
  split
  · omega
  · have := h (k - 1) (by omega)
    unfold entOk at this
    omega
theorem entOk_iff {es : List Int} {k : Nat} (h : ∀ i, i < k → entOk es i) : entOk es k ↔ (inB (es.getD (k * 3) 0) (leastE es k) 19 = true ∧ inB (es.getD (k * 3 + 1) 0) 0 1000 = true ∧ inB (es.getD (k * 3 + 2) 0) 0 1000 = true) := by
  have h0 := leastE_ok h
  unfold inB entOk
  simp only [decide_eq_true_eq]
  have e : leastE es k ≤ es.getD (k * 3) 0 ↔ (0 ≤ es.getD (k * 3) 0 ∧ (0 < k → es.getD ((k - 1) * 3) 0 < es.getD (k * 3) 0)) := by
    constructor
    · intro h1
      refine ⟨by omega, fun hk => ?_⟩
      unfold leastE at h1
      rw [if_neg (by omega)] at h1
      omega
    · rintro ⟨h1, h2⟩
      unfold leastE
      split
      · exact h1
      · have := h2 (by omega); omega
  rw [e]
  constructor
  · rintro ⟨⟨a, b⟩, c, d, f⟩; exact ⟨⟨⟨a, f⟩, b⟩, c, d⟩
  · rintro ⟨⟨⟨a, f⟩, b⟩, c, d⟩; exact ⟨⟨a, b⟩, c, d, f⟩
theorem entOk_low {es : List Int} : ∀ {k : Nat}, (∀ i, i < k → entOk es i) → ∀ i, i < k → (i : Int) ≤ es.getD (i * 3) 0
  | k, h, 0, hi => by have := (h 0 hi).1.1; simpa using this
  | k, h, i + 1, hi => by
    have ih := entOk_low h i (by omega)
    have h2 := (h (i + 1) hi).2.2.2 (by omega)
    rw [Nat.add_sub_cancel] at h2
    omega
theorem entOk_few {es : List Int} {k : Nat} (h : ∀ i, i < k → entOk es i) : k ≤ 20 := by
  by_cases hk : k = 0
  · omega
  · have h1 := entOk_low h (k - 1) (by omega)
    have h2 := (h (k - 1) (by omega)).1.2
    omega
def descOkM (sq st : Int) (en : Nat) (es : List Int) (cd : Int) (rn : Nat) : Bool :=
  if sq = 0 then decide (st = 0 ∧ en = 0 ∧ cd = 0 ∧ rn = 0) else (inB sq 1 1000000 && (inB st 1 3 && decide (∀ i, i < en → entOk es i)))
end Go.Proofs.Ytbdfopokimpeiaq
