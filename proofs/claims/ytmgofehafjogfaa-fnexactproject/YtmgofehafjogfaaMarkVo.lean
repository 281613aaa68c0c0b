/- Marks at a list of values of the call's own. -/
import Derived.Test.YtmgofehafjogfaaMarkAt
namespace Go.Proofs.Ytmgofehafjogfaa
open Go.ChangeShapes Go.WideShapes Go.ChangeAt Go.RowKit Go.Joins
open Go.Lib (byteCells byteCells_length byteCells_append)

theorem markVOwn_at (base : Nat) (L : List Va3) (v : Value) (w : World) (hn : L.length ≤ 2097152) (h : VOwn w base v L) :
    Calls Try.prog 39 #[v, .int .i64 1] w fun e w' => e = .returned (.int .i64 ((L.length : Int) * 3 + 1)) ∧ VOwn w' base v (marksV L.length) ∧ w.grownBy w' v.ownBlock := by
  rcases owns_forms h with ⟨rfl, h0⟩ | ⟨g, cap, rfl⟩
  · have hl : L = [] := List.length_eq_zero_iff.1 h0
    subst hl
    refine (markValueS_none 0 w).mono ?_
    rintro e w' ⟨rfl, rfl⟩
    exact ⟨rfl, h, far_below (Below.refl _ _) _⟩
  · refine (markValueS_own base g L.length cap L w rfl hn h).mono ?_
    rintro e w' ⟨rfl, h1, h2⟩
    refine ⟨rfl, ?_, h2⟩
    unfold VOwn
    rw [marksV_len]
    exact h1
end Go.Proofs.Ytmgofehafjogfaa
