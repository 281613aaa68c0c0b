/- Which entry of a list is at a place: the first; no program. -/
import Derived.Test.YtbdfopokimpeiaqTrip
namespace Go.Proofs.Ytbdfopokimpeiaq

def idxF (es : List Int) (at_ : Int) : Nat → Nat → Nat
  | 0, k => k
  | f + 1, k => if es.getD (k * 3) 0 = at_ then k else idxF es at_ f (k + 1)
theorem idxF_eq {es : List Int} {at_ : Int} : ∀ {f k K : Nat}, k ≤ K → K ≤ k + f → (∀ i, k ≤ i → i < K → es.getD (i * 3) 0 ≠ at_) → (K < k + f → es.getD (K * 3) 0 = at_) → idxF es at_ f k = K
  | 0, k, K, h1, h2, _, _ => by unfold idxF; omega
  | f + 1, k, K, h1, h2, h3, h4 => by
    unfold idxF
    by_cases e : k = K
    · subst e
      rw [if_pos (h4 (by omega))]
    · rw [if_neg (h3 k (Nat.le_refl _) (by omega))]
      exact idxF_eq (by omega) (by omega) (fun i hi => h3 i (by omega)) (fun h => h4 (by omega))
/-- The place in the list of the first entry at at_; n: there is none. -/
def idxE (es : List Int) (n : Nat) (at_ : Int) : Nat := idxF es at_ n 0
theorem idxE_eq {es : List Int} {at_ : Int} {n k : Nat} (h1 : k ≤ n) (h2 : ∀ i, i < k → es.getD (i * 3) 0 ≠ at_) (h3 : k < n → es.getD (k * 3) 0 = at_) : idxE es n at_ = k :=
  idxF_eq (Nat.zero_le _) (by omega) (fun i _ hi => h2 i hi) (fun h => h3 (by omega))
def entM (es : List Int) (n : Nat) (at_ : Int) : Int × Int × Int × Bool :=
  if idxE es n at_ < n then (es.getD (idxE es n at_ * 3) 0, es.getD (idxE es n at_ * 3 + 1) 0, es.getD (idxE es n at_ * 3 + 2) 0, true) else (0, 0, 0, false)
theorem entM_yes {es : List Int} {at_ : Int} {n k : Nat} (h : idxE es n at_ = k) (hk : k < n) : entM es n at_ = (es.getD (k * 3) 0, es.getD (k * 3 + 1) 0, es.getD (k * 3 + 2) 0, true) := by
  unfold entM; rw [h, if_pos hk]
theorem entM_no {es : List Int} {at_ : Int} {n : Nat} (h : idxE es n at_ = n) : entM es n at_ = (0, 0, 0, false) := by
  unfold entM; rw [h, if_neg (by omega)]
end Go.Proofs.Ytbdfopokimpeiaq
