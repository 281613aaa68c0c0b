/- Lists of a call's own: what keeps them; numbers that ascend; a world in which one list alone has changed. No program. -/
import Derived.Test.YtmgofehafjogfabBoxN
import Derived.WalkKit
import Derived.Below
namespace Go.Proofs.Ytmgofehafjogfab
open Go.ChangeShapes Go.WideShapes Go.ChangeAt Go.RowKit

abbrev SL (g n : Nat) : Value := .slice (some ⟨g, 0, none⟩) n n
theorem own_cellV {w : World} {base : Nat} {e : TypeId} {g n cap size j : Nat} {vs : List Value} {u : Value} (h : w.ownsRow base e size (.slice (some ⟨g, 0, none⟩) n cap) n vs) (hj : vs[j]? = some u) : w.cell? ⟨g, j, none⟩ = some u := by
  have hl : j < vs.length := (List.getElem?_eq_some_iff.1 hj).1
  rw [h.cellAt j (by rw [← h.1]; exact hl)]
  exact hj
theorem owns_heap {w w' : World} {base : Nat} {e : TypeId} {size n : Nat} {v : Value} {xs : List Value} (h : w.ownsRow base e size v n xs) (he : ∀ k, v.ownBlock = some k → w'.heap[k]? = w.heap[k]?) : w'.ownsRow base e size v n xs := by
  refine ⟨h.1, ?_⟩
  rcases h.2 with h2 | ⟨g, cap, cur, rfl, hg, hh, r⟩
  · exact .inl h2
  · exact .inr ⟨g, cap, cur, rfl, hg, by rw [he g rfl]; exact hh, r⟩
theorem owns_forms {w : World} {base : Nat} {e : TypeId} {size n : Nat} {v : Value} {xs : List Value} (h : w.ownsRow base e size v n xs) : (v = .slice none 0 0 ∧ n = 0) ∨ ∃ g cap, v = .slice (some ⟨g, 0, none⟩) n cap := by
  rcases h.2 with h2 | ⟨g, cap, cur, hv, _⟩
  · exact .inl h2
  · exact .inr ⟨g, cap, hv⟩
theorem owns_slice {w : World} {base : Nat} {e : TypeId} {size n : Nat} {v : Value} {xs : List Value} (h : w.ownsRow base e size v n xs) : ∃ a c, v = .slice a n c ∧ n ≤ c := by
  rcases h.2 with ⟨h2, h3⟩ | ⟨g, cap, cur, hv, _, _, hc, _⟩
  · exact ⟨none, 0, by rw [h2, h3], by omega⟩
  · exact ⟨_, cap, hv, hc⟩
/-- Numbers that ascend from k on. -/
def asc (k : Int) (n : Nat) : List Int := (List.range n).map fun (i : Nat) => k + (i : Int)
theorem asc_len (k : Int) (n : Nat) : (asc k n).length = n := by simp [asc]
theorem asc_at {k : Int} {n i : Nat} (h : i < n) : (asc k n).getD i 0 = k + (i : Int) := by simp [asc, List.getD, h]
def Asc (zs : List Int) (k : Int) (j : Nat) : Prop := ∀ i, i < j → zs[i]? = some (k + (i : Int))
theorem Asc.three {zs : List Int} {k q : Int} {j : Nat} (h : Asc zs k (j * 3)) (hl : j * 3 + 2 < zs.length) (hq : k + (j : Int) * 3 = q) : Asc (((zs.set (j * 3) q).set (j * 3 + 1) (q + 1)).set (j * 3 + 2) (q + 1 + 1)) k ((j + 1) * 3) := by
  intro i hi
  by_cases e2 : i = j * 3 + 2
  · subst e2
    rw [List.getElem?_set_self (by simp; omega)]
    congr 1; push_cast; omega
  rw [List.getElem?_set_ne (by omega)]
  by_cases e1 : i = j * 3 + 1
  · subst e1
    rw [List.getElem?_set_self (by simp; omega)]
    congr 1; push_cast; omega
  rw [List.getElem?_set_ne (by omega)]
  by_cases e0 : i = j * 3
  · subst e0
    rw [List.getElem?_set_self (by omega)]
    congr 1; push_cast; omega
  rw [List.getElem?_set_ne (by omega)]
  exact h i (by omega)
theorem Asc.one {zs : List Int} {k q : Int} {j : Nat} (h : Asc zs k j) (hl : j < zs.length) (hq : k + (j : Int) = q) : Asc (zs.set j q) k (j + 1) := by
  intro i hi
  by_cases e0 : i = j
  · subst e0
    rw [List.getElem?_set_self (by omega), hq]
  rw [List.getElem?_set_ne (by omega)]
  exact h i (by omega)
theorem Asc.all {zs : List Int} {k : Int} {n : Nat} (h : Asc zs k n) (hl : zs.length = n) : zs = asc k n := by
  refine List.ext_getElem? fun i => ?_
  rcases Nat.lt_or_ge i n with hi | hi
  · rw [h i hi]; simp [asc, hi]
  · rw [List.getElem?_eq_none (by omega), List.getElem?_eq_none (by rw [asc_len]; omega)]
/-- Only the block of this list has changed, and nothing was made. -/
structure OnlyV (base : Nat) (v : Value) (w w' : World) : Prop where
  bel : Below base w w'
  size : w'.heap.size = w.heap.size
  oth : ∀ k, v.ownBlock ≠ some k → w'.heap[k]? = w.heap[k]?
theorem OnlyV.refl (base : Nat) (v : Value) (w : World) : OnlyV base v w w := ⟨Below.refl _ _, rfl, fun _ _ => rfl⟩
theorem OnlyV.set {base g n cap : Nat} {w w' : World} (h : OnlyV base (.slice (some ⟨g, 0, none⟩) n cap) w w') (hb : base ≤ g) (j : Nat) (u : Value) : OnlyV base (.slice (some ⟨g, 0, none⟩) n cap) w (w'.setCell ⟨g, j, none⟩ u) :=
  ⟨h.bel.setCell hb _, by rw [size_setCell]; exact h.size, fun k hk => (Below.heap_setCell _ _ _ _ (fun e => hk (by simp [Value.ownBlock, e]))).trans (h.oth k hk)⟩
end Go.Proofs.Ytmgofehafjogfab
