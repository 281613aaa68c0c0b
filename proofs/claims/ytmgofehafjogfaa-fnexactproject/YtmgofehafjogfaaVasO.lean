/- A list of values of a call's own. -/
import Derived.Test.YtmgofehafjogfaaVasL
import Derived.Test.YtmgofehafjogfaaAppB
namespace Go.Proofs.Ytmgofehafjogfaa
open Go.ChangeShapes Go.WideShapes Go.ChangeAt Go.RowKit

/-- The cells of values, one behind the other. -/
def vaC : List Va3 → List Value
  | [] => []
  | x :: L => .int .i64 x.1 :: .int .i64 x.2.1 :: .string x.2.2 :: vaC L
theorem vaC_length : ∀ L : List Va3, (vaC L).length = L.length * 3
  | [] => rfl
  | x :: L => by rw [vaC]; simp [vaC_length L]; omega
theorem vaC_append : ∀ L M : List Va3, vaC (L ++ M) = vaC L ++ vaC M
  | [], _ => rfl
  | x :: L, M => by
    show vaC (x :: (L ++ M)) = _
    rw [vaC, vaC, vaC_append L M]
    rfl
theorem vaC_at : ∀ {L : List Va3} {i : Nat} {x : Va3}, L[i]? = some x → (vaC L)[i * 3]? = some (.int .i64 x.1) ∧ (vaC L)[i * 3 + 1]? = some (.int .i64 x.2.1) ∧ (vaC L)[i * 3 + 2]? = some (.string x.2.2)
  | [], _, _, h => by simp at h
  | y :: L, 0, x, h => by
    simp at h
    subst h
    exact ⟨rfl, rfl, rfl⟩
  | y :: L, i + 1, x, h => by
    have h1 := vaC_at (L := L) (i := i) (x := x) (by simpa using h)
    rw [vaC, show (i + 1) * 3 = i * 3 + 1 + 1 + 1 by omega]
    exact h1
theorem vaC_one {L : List Va3} : ∀ u ∈ vaC L, u.oneCell' = true := by
  induction L with
  | nil => intro u hu; cases hu
  | cons x L ih =>
    intro u hu
    rw [vaC] at hu
    rcases List.mem_cons.1 hu with rfl | hu
    · rfl
    rcases List.mem_cons.1 hu with rfl | hu
    · rfl
    rcases List.mem_cons.1 hu with rfl | hu
    · rfl
    exact ih u hu
/-- A list of these values, of the call's own. -/
abbrev VOwn (w : World) (base : Nat) (v : Value) (L : List Va3) : Prop := w.ownsRow base 43 3 v L.length (vaC L)
theorem own_vas {w : World} {base : Nat} {v : Value} {L : List Va3} (h : VOwn w base v L) (hn : L.length ≤ 2097152) : ∃ a c, v = .slice a L.length c ∧ L.length ≤ c ∧ VasAt w a L.length L := by
  rcases h.2 with ⟨rfl, h0⟩ | ⟨g, cap, cur, rfl, _, _, hc, _⟩
  · exact ⟨none, 0, by rw [h0], by omega, rfl, hn, .inl h0⟩
  · refine ⟨_, cap, rfl, hc, rfl, hn, .inr ⟨g, 0, rfl, fun i x hi => ?_⟩⟩
    obtain ⟨h1, h2, h3⟩ := vaC_at hi
    rw [Nat.zero_add]
    exact ⟨own_cellV h h1, own_cellV h h2, own_cellV h h3⟩
theorem infoVal : (Try.prog.info? 43).map (fun i => (i.zero, i.size, i.bytes)) = some (some (.agg #[.int .i64 0, .int .i64 0, .string ⟨#[]⟩]), 3, 32) := by kernel_rfl
theorem vown_nil (w : World) {base g : Nat} (hg : w.heap.size = g) (hb : base ≤ g) : VOwn (w.alloc (.cells #[] 43)) base (.slice (some ⟨g, 0, none⟩) 0 0) [] := by
  subst hg
  exact ⟨rfl, .inr ⟨_, 0, #[], rfl, hb, heap_alloc_new w _, Nat.le_refl _, by unfold maxLen; omega, rfl, rfl⟩⟩
/-- A value that was just laid lies there. -/
theorem vnews (w : World) (g : Nat) (hg : w.heap.size = g) (x : Va3) : ∀ j u, (vaC [x])[j]? = some u → (w.alloc (.cells #[.int .i64 x.1, .int .i64 x.2.1, .string x.2.2] 43)).cell? ((⟨g, 0, none⟩ : Addr).add j) = some u := by
  intro j u hj
  subst hg
  rw [add_plain, Nat.zero_add, (box_of w #[.int .i64 x.1, .int .i64 x.2.1, .string x.2.2] 43).cell j]
  simpa [vaC] using hj
/-- append of one value onto such a list. -/
theorem list_appV {ops : Array Oper} {rest : List Oper} {o : Oper} {a : Act} (w : World) {Q : Exit → Act → World → Prop} (hg : o.guard = none) (s x : Operand)
    (ho : o.op = .call { callee := .builtin .append, args := #[s, x], argTypes := #[29, 29] })
    (base : Nat) (v : Value) (L : List Va3) (hs : a.eval s = v) (hown : VOwn w base v L)
    (ad : Addr) (m c : Nat) (M : List Va3) (hM : M.length = m) (hx : a.eval x = .slice (some ad) m c) (hnews : ∀ j u, (vaC M)[j]? = some u → w.cell? (ad.add j) = some u)
    (hle : L.length + m ≤ 2097152) (hbase : base ≤ w.heap.size)
    (h : ∀ v' w', VOwn w' base v' (L ++ M) → (∀ a' : World, ∀ B : Nat, B ≤ base → Below B a' w → Below B a' w') → (v' = .slice none 0 0 ↔ v = .slice none 0 0 ∧ m = 0) → wpList Try.prog ops Q rest (a.put o.dst v') w') : wpList Try.prog ops Q (o :: rest) a w := by
  obtain ⟨i0, hi, hz0, hz1, hz2⟩ := info_parts infoVal
  refine wpList_append_own w hg s x 29 ho base 43 i0 _ 3 32 Try.underlying29 hi hz0 hz1 hz2 (by rfl) (by decide) v L.length (vaC L) hs hown ad m c (vaC M) hx (by rw [vaC_length, hM]) hnews vaC_one (by unfold maxLen; omega) (by omega) hbase ?_
  intro v' w' hown' hgrow hnil
  refine h v' w' ?_ (fun a' B hB hb => below_app hb (Nat.le_trans hB hbase) (fun k hk => Nat.le_trans hB (own_block hown k hk)) hgrow) hnil
  unfold VOwn
  rw [vaC_append, List.length_append, hM]
  exact hown'
end Go.Proofs.Ytmgofehafjogfaa
