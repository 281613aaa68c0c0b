/- Lists of bytes of a call's own: made, grown, turned into a text. -/
import Derived.Test.YtmgofehafjogfaaOwnsF
import Derived.Test.YtmgofehafjogfaaClone
import Derived.Test.YtmgofehafjogfaaTextS
import Derived.Test.YtmgofehafjogfaaRows
import Derived.Lib.UnsafeStr
import Derived.Laws.IdiomStrings
import Derived.Laws.BytesArg
import Derived.Laws.AppendOwn
import Derived.Deep.RegionLaw
namespace Go.Proofs.Ytmgofehafjogfaa
open Go.ChangeShapes Go.WideShapes Go.ChangeAt Go.RowKit
open Go.Lib (byteCells byteCells_length byteCells_append)

/-- A list of these bytes, of the call's own. -/
abbrev BOwn (w : World) (base : Nat) (v : Value) (l : List UInt8) : Prop := w.ownsRow base 5 1 v l.length (byteCells l)
theorem add_plain (b o j : Nat) : (⟨b, o, none⟩ : Addr).add j = ⟨b, o + j, none⟩ := by unfold Addr.add; split <;> simp_all
theorem own_block {w : World} {base : Nat} {e : TypeId} {size n : Nat} {v : Value} {xs : List Value} (h : w.ownsRow base e size v n xs) : ∀ k, v.ownBlock = some k → base ≤ k := by
  intro k hk
  rcases h.2 with ⟨rfl, _⟩ | ⟨g, cap, cur, rfl, hg, _⟩
  · cases hk
  · cases hk; exact hg
/-- What an append leaves as it was. -/
theorem below_app {a w w' : World} {B : Nat} {v : Value} (hb : Below B a w) (hs : B ≤ w.heap.size) (hv : ∀ k, v.ownBlock = some k → B ≤ k) (hg : w.grownBy w' v.ownBlock) : Below B a w' := hb.grown hg hs hv
theorem bown_new (w : World) {base g : Nat} {l : List UInt8} {cs : Array Value} (hg : w.heap.size = g) (hc : cs = (byteCells l).toArray) (hb : base ≤ g) (hl : l.length ≤ 1099511627776) : BOwn (w.alloc (.cells cs 5)) base (.slice (some ⟨g, 0, none⟩) l.length l.length) l := by
  subst hg hc
  refine ⟨by simp [byteCells_length], .inr ⟨_, _, (byteCells l).toArray, rfl, hb, heap_alloc_new w _, Nat.le_refl _, by unfold maxLen; omega, by simp [byteCells_length], ?_⟩⟩
  rw [List.take_of_length_le (by simp [byteCells_length])]
theorem bown_cell {w : World} {base g n c : Nat} {l : List UInt8} (h : w.ownsRow base 5 1 (.slice (some ⟨g, 0, none⟩) n c) n (byteCells l)) {i : Nat} {b : UInt8} (hi : l[i]? = some b) : w.cell? ⟨g, i, none⟩ = some (.int .u8 (b.toNat : Int)) := by
  refine own_cellV h ?_
  unfold byteCells
  rw [List.getElem?_map, hi]
  rfl
/-- 'string(b)' of such a list. -/
theorem bown_text {w : World} {base : Nat} {v : Value} {l : List UInt8} (h : BOwn w base v l) : (convert 22 9 v).run Try.prog w = .ok (.string ⟨l.toArray⟩) w := by
  rcases owns_forms h with ⟨rfl, h0⟩ | ⟨g, cap, rfl⟩
  · have hl : l = [] := List.length_eq_zero_iff.1 h0
    subst hl
    exact run_convert_bytes_nil w 22 5 Try.underlying22 Try.underlying5 0 0 9 Try.underlying9
  · refine run_convert_bytes_back w 22 9 5 ⟨g, 0, none⟩ cap l Try.underlying22 Try.underlying5 Try.underlying9 ?_
    intro j hj
    have h1 := bown_cell h (List.getElem?_eq_getElem hj)
    rw [add_plain]
    simpa using h1
theorem bcell_one {l : List UInt8} : ∀ u ∈ byteCells l, u.oneCell' = true := by
  intro u hu
  unfold byteCells at hu
  rw [List.mem_map] at hu
  obtain ⟨b, _, rfl⟩ := hu
  rfl
theorem infoByte : (Try.prog.info? 5).map (fun i => (i.zero, i.size, i.bytes)) = some (some (.int .u8 0), 1, 1) := by kernel_rfl
/-- Bytes that were just laid lie there. -/
theorem bnews (w : World) (g : Nat) (hg : w.heap.size = g) (l : List UInt8) {cs : Array Value} (hc : cs = (byteCells l).toArray) : ∀ j u, (byteCells l)[j]? = some u → (w.alloc (.cells cs 5)).cell? ((⟨g, 0, none⟩ : Addr).add j) = some u := by
  intro j u hj
  subst hg hc
  have h1 := (box_of w (byteCells l).toArray 5).cell j
  have h2 : (byteCells l).toArray[j]? = some u := by simpa using hj
  rw [h2] at h1
  rw [add_plain]
  simpa using h1
/-- append of bytes onto such a list, in a region that draws its order. -/
theorem step_appB {ops : Array Oper} {o : Oper} {a : Act} (w : World) {K : Act → World → Prop} {Q : Exit → Act → World → Prop} {E : Prop} (hg : o.guard = none) (s x : Operand)
    (ho : o.op = .call { callee := .builtin .append, args := #[s, x], argTypes := #[22, 22] })
    (base : Nat) (v : Value) (l : List UInt8) (hs : a.eval s = v) (hown : BOwn w base v l)
    (ad : Addr) (c : Nat) (news : List UInt8) (hx : a.eval x = .slice (some ad) news.length c) (hnews : ∀ j u, (byteCells news)[j]? = some u → w.cell? (ad.add j) = some u)
    (hle : l.length + news.length ≤ 1099511627776) (hbase : base ≤ w.heap.size)
    (h : ∀ v' w', BOwn w' base v' (l ++ news) → (∀ a' : World, ∀ B : Nat, B ≤ base → Below B a' w → Below B a' w') → (v' = .slice none 0 0 ↔ v = .slice none 0 0 ∧ news.length = 0) → K (a.put o.dst v') w') :
    if Region.wanted o (yielded ops a.tmps) = true then Oper.wp Try.prog o a w K Q else E := by
  obtain ⟨i0, hi, hz0, hz1, hz2⟩ := info_parts infoByte
  refine step_append_own w hg s x 22 ho base 5 i0 (.int .u8 0) 1 1 Try.underlying22 hi hz0 hz1 hz2 (by rfl) (by decide) v l.length (byteCells l) hs hown ad news.length c (byteCells news) hx (by simp [byteCells_length]) hnews bcell_one (by unfold maxLen; omega) (by omega) hbase ?_
  intro v' w' hown' hgrow hnil
  refine h v' w' ?_ (fun a' B hB hb => below_app hb (Nat.le_trans hB hbase) (fun k hk => Nat.le_trans hB (own_block hown k hk)) hgrow) hnil
  unfold BOwn
  rw [byteCells_append, List.length_append]
  exact hown'
/-- append of bytes onto such a list. -/
theorem list_appB {ops : Array Oper} {rest : List Oper} {o : Oper} {a : Act} (w : World) {Q : Exit → Act → World → Prop} (hg : o.guard = none) (s x : Operand)
    (ho : o.op = .call { callee := .builtin .append, args := #[s, x], argTypes := #[22, 22] })
    (base : Nat) (v : Value) (l : List UInt8) (hs : a.eval s = v) (hown : BOwn w base v l)
    (ad : Addr) (c : Nat) (news : List UInt8) (hx : a.eval x = .slice (some ad) news.length c) (hnews : ∀ j u, (byteCells news)[j]? = some u → w.cell? (ad.add j) = some u)
    (hle : l.length + news.length ≤ 1099511627776) (hbase : base ≤ w.heap.size)
    (h : ∀ v' w', BOwn w' base v' (l ++ news) → (∀ a' : World, ∀ B : Nat, B ≤ base → Below B a' w → Below B a' w') → (v' = .slice none 0 0 ↔ v = .slice none 0 0 ∧ news.length = 0) → wpList Try.prog ops Q rest (a.put o.dst v') w') : wpList Try.prog ops Q (o :: rest) a w := by
  obtain ⟨i0, hi, hz0, hz1, hz2⟩ := info_parts infoByte
  refine wpList_append_own w hg s x 22 ho base 5 i0 (.int .u8 0) 1 1 Try.underlying22 hi hz0 hz1 hz2 (by rfl) (by decide) v l.length (byteCells l) hs hown ad news.length c (byteCells news) hx (by simp [byteCells_length]) hnews bcell_one (by unfold maxLen; omega) (by omega) hbase ?_
  intro v' w' hown' hgrow hnil
  refine h v' w' ?_ (fun a' B hB hb => below_app hb (Nat.le_trans hB hbase) (fun k hk => Nat.le_trans hB (own_block hown k hk)) hgrow) hnil
  unfold BOwn
  rw [byteCells_append, List.length_append]
  exact hown'
end Go.Proofs.Ytmgofehafjogfaa
