/- Values of a call's own, put behind others. -/
import Derived.Test.YtmgofehafjogfaaVasO
import Derived.Test.YtmgofehafjogfaaMarkAt
import Derived.Laws.AppendOwnNone
namespace Go.Proofs.Ytmgofehafjogfaa
open Go.ChangeShapes Go.WideShapes Go.ChangeAt Go.RowKit

theorem list_appVL {ops : Array Oper} {rest : List Oper} {o : Oper} {a : Act} (w : World) {Q : Exit → Act → World → Prop} (hg : o.guard = none) (s x : Operand)
    (ho : o.op = .call { callee := .builtin .append, args := #[s, x], argTypes := #[29, 29] })
    (base base' : Nat) (v u : Value) (l l' : List Va3) (hs : a.eval s = v) (hown : VOwn w base v l) (hx : a.eval x = u) (hown' : VOwn w base' u l')
    (hle : l.length + l'.length ≤ 2097152) (hbase : base ≤ w.heap.size)
    (h : ∀ v' w', VOwn w' base v' (l ++ l') → (∀ a' : World, ∀ B : Nat, B ≤ base → Below B a' w → Below B a' w') → wpList Try.prog ops Q rest (a.put o.dst v') w') : wpList Try.prog ops Q (o :: rest) a w := by
  rcases owns_forms hown' with ⟨rfl, h0⟩ | ⟨g, cap, rfl⟩
  · obtain ⟨i0, hi, hz0, hz1, hz2⟩ := info_parts infoVal
    have hl : l' = [] := List.length_eq_zero_iff.1 h0
    subst hl
    refine wpList_append_own_none hg s x 29 ho base 43 i0 3 Try.underlying29 hi v l.length (vaC l) hs hown hx ?_
    exact h v w (by rw [List.append_nil]; exact hown) (fun _ _ _ hb => hb)
  · refine list_appV w hg s x ho base v l hs hown ⟨g, 0, none⟩ l'.length cap l' rfl hx (fun j u hj => ?_) hle hbase (fun v' w' h1 h2 _ => h v' w' h1 h2)
    rw [add_plain, Nat.zero_add]
    exact own_cellV hown' hj
end Go.Proofs.Ytmgofehafjogfaa
