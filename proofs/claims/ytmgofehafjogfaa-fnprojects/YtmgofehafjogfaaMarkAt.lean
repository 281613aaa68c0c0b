/- Marks at a list that is the call's own, or none; what keeps such a list. -/
import Derived.Test.YtmgofehafjogfaaOwnV
import Derived.Test.YtmgofehafjogfaaValK
import Derived.Test.YtmgofehafjogfaaBytK
namespace Go.Proofs.Ytmgofehafjogfaa
open Go.ChangeShapes Go.WideShapes Go.ChangeAt Go.RowKit Go.Joins
open Go.Lib (byteCells byteCells_length byteCells_append)

/-- A list of the call's own stays where its block does. -/
theorem own_far {w w' : World} {base : Nat} {e : TypeId} {size n : Nat} {v : Value} {xs : List Value} {blk : Option Nat} (h : w.ownsRow base e size v n xs) (hg : w.grownBy w' blk) (hne : ∀ k, v.ownBlock = some k → ¬ some k = blk) : w'.ownsRow base e size v n xs :=
  owns_heap h fun k hk => hg.block k (by
    rcases h.2 with ⟨rfl, _⟩ | ⟨g, cap, cur, rfl, _, hh, _⟩
    · cases hk
    · cases hk; exact (Array.getElem?_eq_some_iff.1 hh).1) (hne k hk)
theorem own_lt {w : World} {base : Nat} {e : TypeId} {size n : Nat} {v : Value} {xs : List Value} (h : w.ownsRow base e size v n xs) : ∀ k, v.ownBlock = some k → k < w.heap.size := by
  intro k hk
  rcases h.2 with ⟨rfl, _⟩ | ⟨g, cap, cur, rfl, _, hh, _⟩
  · cases hk
  · cases hk; exact (Array.getElem?_eq_some_iff.1 hh).1
theorem bown_bys {w : World} {base : Nat} {v : Value} {l : List UInt8} (h : BOwn w base v l) (hn : l.length ≤ 2097152) : ∃ a c, v = .slice a l.length c ∧ l.length ≤ c ∧ BysAt w a l.length l := by
  rcases h.2 with ⟨rfl, h0⟩ | ⟨g, cap, cur, rfl, _, _, hc, _⟩
  · exact ⟨none, 0, by rw [h0], by omega, rfl, hn, .inl h0⟩
  · refine ⟨_, cap, rfl, hc, rfl, hn, .inr ⟨g, 0, rfl, fun i x hi => ?_⟩⟩
    rw [Nat.zero_add]
    exact bown_cell h hi
theorem markValueS_at (base n : Nat) (L : List Va3) (v : Value) (w : World) (hx : L.length = n) (hn : n ≤ 2097152)
    (h : (v = .slice none 0 0 ∧ n = 0) ∨ ∃ g cap, v = .slice (some ⟨g, 0, none⟩) n cap ∧ w.ownsRow base 43 3 v n (vaC L)) :
    Calls Try.prog 39 #[v, .int .i64 1] w fun e w' => e = .returned (.int .i64 ((n : Int) * 3 + 1)) ∧ (v = .slice none 0 0 ∨ w'.ownsRow base 43 3 v n (vaC (marksV n))) ∧ w.grownBy w' v.ownBlock := by
  rcases h with ⟨rfl, rfl⟩ | ⟨g, cap, rfl, ho⟩
  · refine (markValueS_none 0 w).mono ?_
    rintro e w' ⟨rfl, rfl⟩
    exact ⟨rfl, .inl rfl, far_below (Below.refl _ _) _⟩
  · refine (markValueS_own base g n cap L w hx hn ho).mono ?_
    rintro e w' ⟨rfl, h1, h2⟩
    exact ⟨rfl, .inr h1, h2⟩
end Go.Proofs.Ytmgofehafjogfaa
