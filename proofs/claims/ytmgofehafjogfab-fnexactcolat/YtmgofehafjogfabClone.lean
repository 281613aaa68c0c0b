/- A list that is copied by append onto an empty one: what the walk needs there. -/
import Derived.Test.YtmgofehafjogfabIntAt
import Derived.Laws.AppendOwn
import Derived.Deep.RegionLaw
namespace Go.Proofs.Ytmgofehafjogfab
open Go.ChangeShapes Go.WideShapes Go.ChangeAt Go.RowKit

theorem own_empty {w : World} {base : Nat} (hb : base ≤ w.heap.size) : (w.alloc (.cells #[] 3)).ownsRow base 3 1 (.slice (some ⟨w.heap.size, 0, none⟩) 0 0) 0 [] :=
  ⟨rfl, .inr ⟨w.heap.size, 0, #[], rfl, hb, (by show (w.heap.push _)[w.heap.size]? = _; simp), Nat.le_refl _, by unfold maxLen; omega, rfl, rfl⟩⟩
theorem own_empty_drew {w : World} {base g : Nat} (hg : w.heap.size = g) (hb : base ≤ g) : (w.alloc (.cells #[] 3)).drew.ownsRow base 3 1 (.slice (some ⟨g, 0, none⟩) 0 0) 0 [] := by
  subst hg
  exact own_empty hb
theorem own_weaken {w : World} {base base' : Nat} {e : TypeId} {size : Nat} {v : Value} {n : Nat} {xs : List Value} (h : w.ownsRow base e size v n xs) (hb : base' ≤ base) : w.ownsRow base' e size v n xs := by
  refine ⟨h.1, ?_⟩
  rcases h.2 with h2 | ⟨g, cap, cur, hv, hg, r⟩
  · exact .inl h2
  · exact .inr ⟨g, cap, cur, hv, Nat.le_trans hb hg, r⟩
theorem own_setCell_far {w : World} {base : Nat} {e : TypeId} {size : Nat} {v : Value} {n : Nat} {xs : List Value} (h : w.ownsRow base e size v n xs) {a : Addr} (ha : v.ownBlock ≠ some a.block) (u : Value) : (w.setCell a u).ownsRow base e size v n xs := by
  refine ⟨h.1, ?_⟩
  rcases h.2 with h2 | ⟨g, cap, cur, rfl, hg, hh, r⟩
  · exact .inl h2
  · exact .inr ⟨g, cap, cur, rfl, hg, by rw [Below.heap_setCell _ _ _ _ (fun e => ha (by simp [Value.ownBlock, e]))]; exact hh, r⟩
theorem own_at {w : World} {base : Nat} {e : TypeId} {v : Value} {n : Nat} {xs : List Int} (h : w.ownsRow base e 1 v n (xs.map I)) (hn : n ≤ 1099511627776) : ∃ a c, v = .slice a n c ∧ IntAt w a n xs := by
  have hl : xs.length = n := by have := h.1; simpa using this
  rcases h.2 with ⟨rfl, h0⟩ | ⟨g, cap, cur, rfl, _⟩
  · exact ⟨none, 0, by rw [h0], hl, hn, .inl h0⟩
  · exact ⟨_, cap, rfl, own_intAt h hn⟩
theorem news_len {xs : List Int} {n : Nat} (h : xs.length = n) : (xs.map I).length = n * 1 := by simp [h]
theorem news_at {w : World} {p o n : Nat} {xs : List Int} {ob : Obj} (hl : xs.length = n) (h : ∀ i, i < n → w.cell? ⟨p, o + i, none⟩ = some (I (xs.getD i 0))) :
    ∀ (j : Nat) (u : Value), (xs.map I)[j]? = some u → (w.alloc ob).cell? ((⟨p, o, none⟩ : Addr).add j) = some u := by
  intro j u hj
  have hj' : j < n := by
    rcases Nat.lt_or_ge j n with h1 | h1
    · exact h1
    · rw [List.getElem?_eq_none (by simp; omega)] at hj; cases hj
  have h1 := h j hj'
  have h2 := World.block_lt_of_cell? w _ h1
  have e : (⟨p, o, none⟩ : Addr).add j = ⟨p, o + j, none⟩ := by simp [Addr.add]
  rw [e, World.cell?_alloc_past _ _ _ (show p < w.heap.size from h2), h1]
  rw [List.getElem?_map, List.getElem?_eq_getElem (by omega)] at hj
  simpa [List.getD, show j < xs.length by omega] using hj
theorem news_at_drew {w : World} {p o n : Nat} {xs : List Int} {ob : Obj} (hl : xs.length = n) (h : ∀ i, i < n → w.cell? ⟨p, o + i, none⟩ = some (I (xs.getD i 0))) :
    ∀ (j : Nat) (u : Value), (xs.map I)[j]? = some u → (w.alloc ob).drew.cell? ((⟨p, o, none⟩ : Addr).add j) = some u := fun j u hj => news_at hl h j u hj
theorem IntAt.cells {w : World} {p o n : Nat} {xs : List Int} (h : IntAt w (some ⟨p, o, none⟩) n xs) : ∀ i, i < n → w.cell? ⟨p, o + i, none⟩ = some (I (xs.getD i 0)) := by
  intro i hi
  rcases h.2.2 with h0 | ⟨b, c, e, g⟩
  · omega
  · cases e
    exact g i hi
theorem below_appended_drew {a w1 w' : World} {B g c : Nat} {ob : Obj} (hb : Below B a w1) (hs : B ≤ w1.heap.size) (he : w1.heap.size = g) (hg : (w1.alloc ob).drew.grownBy w' (Value.slice (some ⟨g, 0, none⟩) 0 c).ownBlock) : Below B a w' :=
  (hb.alloc hs _).drew.grown hg (by simp; omega) fun k e => by cases e; exact he ▸ hs
theorem news_one {xs : List Int} : ∀ u ∈ xs.map I, u.oneCell' = true := by
  intro u hu
  simp at hu
  obtain ⟨x, _, rfl⟩ := hu
  rfl
theorem below_appended {w w1 w' : World} {ob : Obj} {c : Nat} (hb : Below w.heap.size w w1) (hs : w.heap.size ≤ w1.heap.size) (hg : (w1.alloc ob).grownBy w' (Value.slice (some ⟨w1.heap.size, 0, none⟩) 0 c).ownBlock) : Below w.heap.size w w' :=
  (hb.alloc hs _).grown hg (by simp; omega) fun k e => by cases e; exact hs
/-- append onto a list of the call's own, as one step of a region that draws its order. -/
theorem step_append_own {P : Program} {ops : Array Oper} {o : Oper} {a : Act} (w : World) {K : Act → World → Prop} {Q : Exit → Act → World → Prop} {E : Prop} (hg : o.guard = none) (s x : Operand) (t : TypeId)
    (ho : o.op = .call { callee := .builtin .append, args := #[s, x], argTypes := #[t, t] })
    (base : Nat) (e : TypeId) (i : TypeInfo) (z : Value) (size bytes : Nat) (ht : P.underlying t = some (.slice e)) (hi : P.info? e = some i) (hz : i.zero = some z)
    (hsize : i.size = size) (hby : i.bytes = bytes) (hzs : z.cells.size = size) (hsz : 0 < size)
    (v : Value) (n : Nat) (xs : List Value) (hs : a.eval s = v) (hown : w.ownsRow base e size v n xs)
    (ad : Addr) (m c : Nat) (news : List Value) (hx : a.eval x = .slice (some ad) m c) (hl : news.length = m * size) (hnews : ∀ j u, news[j]? = some u → w.cell? (ad.add j) = some u) (h1 : ∀ u ∈ news, u.oneCell' = true)
    (h63 : n + m ≤ maxLen) (hbytes : (n + m) * bytes ≤ 140737488355328) (hbase : base ≤ w.heap.size)
    (h : ∀ v' w', w'.ownsRow base e size v' (n + m) (xs ++ news) → w.grownBy w' v.ownBlock → (v' = .slice none 0 0 ↔ v = .slice none 0 0 ∧ m = 0) → K (a.put o.dst v') w') :
    if Region.wanted o (yielded ops a.tmps) = true then Oper.wp P o a w K Q else E := by
  rw [if_pos (by simp [Region.wanted, hg])]
  exact wp_append_own w s x t ho base e i z size bytes ht hi hz hsize hby hzs hsz v n xs hs hown ad m c news hx hl hnews h1 h63 hbytes hbase h
end Go.Proofs.Ytmgofehafjogfab
