/- A cursor, boxes and lists where one block alone has turned. No program. -/
import Derived.Test.YtmgofehafjogfaaCur
import Derived.Test.YtmgofehafjogfaaFar
import Derived.Test.YtmgofehafjogfaaBoxN
namespace Go.Proofs.Ytmgofehafjogfaa
open Go.ChangeShapes Go.WideShapes Go.ChangeAt Go.RowKit

theorem far_only {p : Nat} {w w' : World} (h : Only p w w') : w.grownBy w' (some p) := ⟨h.os, h.tape, h.output, Nat.le_of_eq h.size.symm, fun k _ hk => h.block k (fun e => hk (by rw [e]))⟩
theorem cur_below {T : TypeId} {w w' : World} {p : Nat} {a : Option Addr} {n c : Nat} (h : Cur T w p a n c) (hb : Below w.heap.size w w') : Cur T w' p a n c :=
  h.keep fun k hk => hb.block k (Nat.lt_of_le_of_lt hk h.lt)
theorem cur_set {T : TypeId} {w : World} {p : Nat} {a : Option Addr} {n c : Nat} (h : Cur T w p a n c) {q : Addr} (hq : p < q.block) (v : Value) : Cur T (w.setCell q v) p a n c :=
  h.keep fun k hk => Below.heap_setCell _ _ _ _ (fun e => by omega)
theorem cur_alloc {T : TypeId} {w : World} {p : Nat} {a : Option Addr} {n c : Nat} (h : Cur T w p a n c) (o : Obj) : Cur T (w.alloc o) p a n c := cur_below h ((Below.refl _ w).alloc (Nat.le_refl _) o)
theorem own_only {p : Nat} {w w' : World} {base : Nat} {e : TypeId} {size : Nat} {v : Value} {n : Nat} {xs : List Value} (ho : w.ownsRow base e size v n xs) (h : w.grownBy w' (some p)) (hp : p < base) : w'.ownsRow base e size v n xs := by
  obtain ⟨h1, h2 | ⟨g, cap, cur, h3, h4, h5, h6⟩⟩ := ho
  · exact ⟨h1, .inl h2⟩
  · exact ⟨h1, .inr ⟨g, cap, cur, h3, h4, by rw [h.block g (Array.getElem?_eq_some_iff.1 h5).1 (by simp; omega)]; exact h5, h6⟩⟩
theorem Box.farG {w w' : World} {b p : Nat} {cs : Array Value} {T : TypeId} (h : Box w b cs T) (hg : w.grownBy w' (some p)) (hp : ¬ b = p) : Box w' b cs T := by
  unfold Box at h ⊢
  rw [hg.block b (Array.getElem?_eq_some_iff.1 h).1 (by simpa using hp)]
  exact h
theorem Box.only {w w' : World} {b p : Nat} {cs : Array Value} {T : TypeId} (h : Box w b cs T) (hO : Only p w w') (hp : ¬ b = p) : Box w' b cs T := h.farG (far_only hO) hp
theorem far_alloc {w0 w : World} {row : Option Nat} (h : w0.grownBy w row) (o : Obj) : w0.grownBy (w.alloc o) row := h.trans (World.grownBy_alloc _ _ _)
theorem cur_drew {T : TypeId} {w : World} {p : Nat} {a : Option Addr} {n c : Nat} (h : Cur T w p a n c) : Cur T w.drew p a n c := h.keep fun _ _ => rfl
end Go.Proofs.Ytmgofehafjogfaa
