/- Lists of ints of a call's own: append. -/
import Derived.Test.YtmgofehafjogfaaIntAt
import Derived.Test.YtmgofehafjogfaaAppB
namespace Go.Proofs.Ytmgofehafjogfaa
open Go.ChangeShapes Go.WideShapes Go.ChangeAt Go.RowKit

/-- A list of these ints, of the call's own. -/
abbrev IOwn (w : World) (base : Nat) (v : Value) (l : List Int) : Prop := w.ownsRow base 3 1 v l.length (l.map I)
theorem infoI : (Try.prog.info? 3).map (fun i => (i.zero, i.size, i.bytes)) = some (some (.int .i64 0), 1, 8) := by kernel_rfl
theorem iown_nil (w : World) {base g : Nat} (hg : w.heap.size = g) (hb : base ≤ g) : IOwn (w.alloc (.cells #[] 3)) base (.slice (some ⟨g, 0, none⟩) 0 0) [] := by
  subst hg
  exact ⟨rfl, .inr ⟨_, 0, #[], rfl, hb, heap_alloc_new w _, Nat.le_refl _, by unfold maxLen; omega, rfl, rfl⟩⟩
theorem inews (w : World) (g : Nat) (hg : w.heap.size = g) (x : Int) : ∀ j u, ([x].map I)[j]? = some u → (w.alloc (.cells #[.int .i64 x] 3)).cell? ((⟨g, 0, none⟩ : Addr).add j) = some u := by
  intro j u hj
  subst hg
  rw [add_plain, Nat.zero_add, (box_of w #[.int .i64 x] 3).cell j]
  simpa using hj
theorem iown_at {w : World} {base : Nat} {v : Value} {l : List Int} (h : IOwn w base v l) (hn : l.length ≤ 1099511627776) : ∃ a c, v = .slice a l.length c ∧ l.length ≤ c ∧ IntAt w a l.length l := by
  rcases h.2 with ⟨rfl, h0⟩ | ⟨g, cap, cur, rfl, _, _, hc, _⟩
  · exact ⟨none, 0, by rw [h0], by omega, rfl, hn, .inl h0⟩
  · exact ⟨_, cap, rfl, hc, own_intAt h hn⟩
theorem list_appI {ops : Array Oper} {rest : List Oper} {o : Oper} {a : Act} (w : World) {Q : Exit → Act → World → Prop} (hg : o.guard = none) (s x : Operand)
    (ho : o.op = .call { callee := .builtin .append, args := #[s, x], argTypes := #[25, 25] })
    (base : Nat) (v : Value) (L : List Int) (hs : a.eval s = v) (hown : IOwn w base v L)
    (ad : Addr) (m c : Nat) (M : List Int) (hM : M.length = m) (hx : a.eval x = .slice (some ad) m c) (hnews : ∀ j u, (M.map I)[j]? = some u → w.cell? (ad.add j) = some u)
    (hle : L.length + m ≤ 2097152) (hbase : base ≤ w.heap.size)
    (h : ∀ v' w', IOwn w' base v' (L ++ M) → (∀ a' : World, ∀ B : Nat, B ≤ base → Below B a' w → Below B a' w') → wpList Try.prog ops Q rest (a.put o.dst v') w') : wpList Try.prog ops Q (o :: rest) a w := by
  obtain ⟨i0, hi, hz0, hz1, hz2⟩ := info_parts infoI
  refine wpList_append_own w hg s x 25 ho base 3 i0 (.int .i64 0) 1 8 Try.underlying25 hi hz0 hz1 hz2 rfl (by decide) v L.length (L.map I) hs hown ad m c (M.map I) hx (by simp [hM]) hnews (fun u hu => by obtain ⟨z, _, rfl⟩ := List.mem_map.1 hu; rfl) (by unfold maxLen; omega) (by omega) hbase ?_
  intro v' w' hown' hgrow _
  refine h v' w' ?_ (fun a' B hB hb => below_app hb (Nat.le_trans hB hbase) (fun k hk => Nat.le_trans hB (own_block hown k hk)) hgrow)
  unfold IOwn
  rw [List.map_append, List.length_append, hM]
  exact hown'
end Go.Proofs.Ytmgofehafjogfaa
