/- Texts joined: OwnsF, Clone, KRow, InB. -/
import Derived.Test.YthdpicmcgofghasGreatMA01
import Derived.WalkKit
import Derived.Below
import Derived.Laws.AppendOwn
import Derived.Deep.RegionLaw
import Derived.Lib.LazyBuf
import Derived.Test.YthdpicmcgofghasGreatRows
import Derived.ProofKit
/- Lists of a call's own: what keeps them; numbers that ascend; a world in which one list alone has changed. No program. -/
namespace Go.Proofs.YthdpicmcgofghasGreat
open Go.ChangeShapes Go.WideShapes Go.ChangeAt Go.RowKit

abbrev SL (g n : Nat) : Value := .slice (some ⟨g, 0, none⟩) n n
theorem own_cellV {w : World} {base : Nat} {e : TypeId} {g n cap size j : Nat} {vs : List Value} {u : Value} (h : w.ownsRow base e size (.slice (some ⟨g, 0, none⟩) n cap) n vs) (hj : vs[j]? = some u) : w.cell? ⟨g, j, none⟩ = some u := by
  have hl : j < vs.length := (List.getElem?_eq_some_iff.1 hj).1
  rw [h.cellAt j (by rw [← h.1]; exact hl)]
  exact hj
theorem owns_heap {w w' : World} {base : Nat} {e : TypeId} {size n : Nat} {v : Value} {xs : List Value} (h : w.ownsRow base e size v n xs) (he : ∀ k, v.ownBlock = some k → w'.heap[k]? = w.heap[k]?) : w'.ownsRow base e size v n xs := by
  refine ⟨h.1, ?_⟩
  rcases h.2 with h2 | ⟨g, cap, cur, rfl, hg, hh, r⟩
  · exact .inl h2
  · exact .inr ⟨g, cap, cur, rfl, hg, by rw [he g rfl]; exact hh, r⟩
theorem owns_forms {w : World} {base : Nat} {e : TypeId} {size n : Nat} {v : Value} {xs : List Value} (h : w.ownsRow base e size v n xs) : (v = .slice none 0 0 ∧ n = 0) ∨ ∃ g cap, v = .slice (some ⟨g, 0, none⟩) n cap := by
  rcases h.2 with h2 | ⟨g, cap, cur, hv, _⟩
  · exact .inl h2
  · exact .inr ⟨g, cap, hv⟩
theorem owns_slice {w : World} {base : Nat} {e : TypeId} {size n : Nat} {v : Value} {xs : List Value} (h : w.ownsRow base e size v n xs) : ∃ a c, v = .slice a n c ∧ n ≤ c := by
  rcases h.2 with ⟨h2, h3⟩ | ⟨g, cap, cur, hv, _, _, hc, _⟩
  · exact ⟨none, 0, by rw [h2, h3], by omega⟩
  · exact ⟨_, cap, hv, hc⟩
/-- Numbers that ascend from k on. -/
def asc (k : Int) (n : Nat) : List Int := (List.range n).map fun (i : Nat) => k + (i : Int)
theorem asc_len (k : Int) (n : Nat) : (asc k n).length = n := by simp [asc]
theorem asc_at {k : Int} {n i : Nat} (h : i < n) : (asc k n).getD i 0 = k + (i : Int) := by simp [asc, List.getD, h]
def Asc (zs : List Int) (k : Int) (j : Nat) : Prop := ∀ i, i < j → zs[i]? = some (k + (i : Int))
theorem Asc.three {zs : List Int} {k q : Int} {j : Nat} (h : Asc zs k (j * 3)) (hl : j * 3 + 2 < zs.length) (hq : k + (j : Int) * 3 = q) : Asc (((zs.set (j * 3) q).set (j * 3 + 1) (q + 1)).set (j * 3 + 2) (q + 1 + 1)) k ((j + 1) * 3) := by
  intro i hi
  by_cases e2 : i = j * 3 + 2
  · subst e2
    rw [List.getElem?_set_self (by simp; omega)]
    congr 1; push_cast; omega
  rw [List.getElem?_set_ne (by omega)]
  by_cases e1 : i = j * 3 + 1
  · subst e1
    rw [List.getElem?_set_self (by simp; omega)]
    congr 1; push_cast; omega
  rw [List.getElem?_set_ne (by omega)]
  by_cases e0 : i = j * 3
  · subst e0
    rw [List.getElem?_set_self (by omega)]
    congr 1; push_cast; omega
  rw [List.getElem?_set_ne (by omega)]
  exact h i (by omega)
theorem Asc.one {zs : List Int} {k q : Int} {j : Nat} (h : Asc zs k j) (hl : j < zs.length) (hq : k + (j : Int) = q) : Asc (zs.set j q) k (j + 1) := by
  intro i hi
  by_cases e0 : i = j
  · subst e0
    rw [List.getElem?_set_self (by omega), hq]
  rw [List.getElem?_set_ne (by omega)]
  exact h i (by omega)
theorem Asc.all {zs : List Int} {k : Int} {n : Nat} (h : Asc zs k n) (hl : zs.length = n) : zs = asc k n := by
  refine List.ext_getElem? fun i => ?_
  rcases Nat.lt_or_ge i n with hi | hi
  · rw [h i hi]; simp [asc, hi]
  · rw [List.getElem?_eq_none (by omega), List.getElem?_eq_none (by rw [asc_len]; omega)]
/-- Only the block of this list has changed, and nothing was made. -/
structure OnlyV (base : Nat) (v : Value) (w w' : World) : Prop where
  bel : Below base w w'
  size : w'.heap.size = w.heap.size
  oth : ∀ k, v.ownBlock ≠ some k → w'.heap[k]? = w.heap[k]?
theorem OnlyV.refl (base : Nat) (v : Value) (w : World) : OnlyV base v w w := ⟨Below.refl _ _, rfl, fun _ _ => rfl⟩
theorem OnlyV.set {base g n cap : Nat} {w w' : World} (h : OnlyV base (.slice (some ⟨g, 0, none⟩) n cap) w w') (hb : base ≤ g) (j : Nat) (u : Value) : OnlyV base (.slice (some ⟨g, 0, none⟩) n cap) w (w'.setCell ⟨g, j, none⟩ u) :=
  ⟨h.bel.setCell hb _, by rw [size_setCell]; exact h.size, fun k hk => (Below.heap_setCell _ _ _ _ (fun e => hk (by simp [Value.ownBlock, e]))).trans (h.oth k hk)⟩
end Go.Proofs.YthdpicmcgofghasGreat

/- A list that is copied by append onto an empty one: what the walk needs there. -/
namespace Go.Proofs.YthdpicmcgofghasGreat
open Go.ChangeShapes Go.WideShapes Go.ChangeAt Go.RowKit

theorem own_empty {w : World} {base : Nat} (hb : base ≤ w.heap.size) : (w.alloc (.cells #[] 3)).ownsRow base 3 1 (.slice (some ⟨w.heap.size, 0, none⟩) 0 0) 0 [] :=
  ⟨rfl, .inr ⟨w.heap.size, 0, #[], rfl, hb, (by show (w.heap.push _)[w.heap.size]? = _; simp), Nat.le_refl _, by unfold maxLen; omega, rfl, rfl⟩⟩
theorem own_empty_drew {w : World} {base g : Nat} (hg : w.heap.size = g) (hb : base ≤ g) : (w.alloc (.cells #[] 3)).drew.ownsRow base 3 1 (.slice (some ⟨g, 0, none⟩) 0 0) 0 [] := by
  subst hg
  exact own_empty hb
theorem own_weaken {w : World} {base base' : Nat} {e : TypeId} {size : Nat} {v : Value} {n : Nat} {xs : List Value} (h : w.ownsRow base e size v n xs) (hb : base' ≤ base) : w.ownsRow base' e size v n xs := by
  refine ⟨h.1, ?_⟩
  rcases h.2 with h2 | ⟨g, cap, cur, hv, hg, r⟩
  · exact .inl h2
  · exact .inr ⟨g, cap, cur, hv, Nat.le_trans hb hg, r⟩
theorem own_setCell_far {w : World} {base : Nat} {e : TypeId} {size : Nat} {v : Value} {n : Nat} {xs : List Value} (h : w.ownsRow base e size v n xs) {a : Addr} (ha : v.ownBlock ≠ some a.block) (u : Value) : (w.setCell a u).ownsRow base e size v n xs := by
  refine ⟨h.1, ?_⟩
  rcases h.2 with h2 | ⟨g, cap, cur, rfl, hg, hh, r⟩
  · exact .inl h2
  · exact .inr ⟨g, cap, cur, rfl, hg, by rw [Below.heap_setCell _ _ _ _ (fun e => ha (by simp [Value.ownBlock, e]))]; exact hh, r⟩
theorem own_at {w : World} {base : Nat} {e : TypeId} {v : Value} {n : Nat} {xs : List Int} (h : w.ownsRow base e 1 v n (xs.map I)) (hn : n ≤ 1099511627776) : ∃ a c, v = .slice a n c ∧ IntAt w a n xs := by
  have hl : xs.length = n := by have := h.1; simpa using this
  rcases h.2 with ⟨rfl, h0⟩ | ⟨g, cap, cur, rfl, _⟩
  · exact ⟨none, 0, by rw [h0], hl, hn, .inl h0⟩
  · exact ⟨_, cap, rfl, own_intAt h hn⟩
theorem news_len {xs : List Int} {n : Nat} (h : xs.length = n) : (xs.map I).length = n * 1 := by simp [h]
theorem news_at {w : World} {p o n : Nat} {xs : List Int} {ob : Obj} (hl : xs.length = n) (h : ∀ i, i < n → w.cell? ⟨p, o + i, none⟩ = some (I (xs.getD i 0))) :
    ∀ (j : Nat) (u : Value), (xs.map I)[j]? = some u → (w.alloc ob).cell? ((⟨p, o, none⟩ : Addr).add j) = some u := by
  intro j u hj
  have hj' : j < n := by
    rcases Nat.lt_or_ge j n with h1 | h1
    · exact h1
    · rw [List.getElem?_eq_none (by simp; omega)] at hj; cases hj
  have h1 := h j hj'
  have h2 := World.block_lt_of_cell? w _ h1
  have e : (⟨p, o, none⟩ : Addr).add j = ⟨p, o + j, none⟩ := by simp [Addr.add]
  rw [e, World.cell?_alloc_past _ _ _ (show p < w.heap.size from h2), h1]
  rw [List.getElem?_map, List.getElem?_eq_getElem (by omega)] at hj
  simpa [List.getD, show j < xs.length by omega] using hj
theorem news_at_drew {w : World} {p o n : Nat} {xs : List Int} {ob : Obj} (hl : xs.length = n) (h : ∀ i, i < n → w.cell? ⟨p, o + i, none⟩ = some (I (xs.getD i 0))) :
    ∀ (j : Nat) (u : Value), (xs.map I)[j]? = some u → (w.alloc ob).drew.cell? ((⟨p, o, none⟩ : Addr).add j) = some u := fun j u hj => news_at hl h j u hj
theorem IntAt.cells {w : World} {p o n : Nat} {xs : List Int} (h : IntAt w (some ⟨p, o, none⟩) n xs) : ∀ i, i < n → w.cell? ⟨p, o + i, none⟩ = some (I (xs.getD i 0)) := by
  intro i hi
  rcases h.2.2 with h0 | ⟨b, c, e, g⟩
  · omega
  · cases e
    exact g i hi
theorem below_appended_drew {a w1 w' : World} {B g c : Nat} {ob : Obj} (hb : Below B a w1) (hs : B ≤ w1.heap.size) (he : w1.heap.size = g) (hg : (w1.alloc ob).drew.grownBy w' (Value.slice (some ⟨g, 0, none⟩) 0 c).ownBlock) : Below B a w' :=
  (hb.alloc hs _).drew.grown hg (by simp; omega) fun k e => by cases e; exact he ▸ hs
theorem news_one {xs : List Int} : ∀ u ∈ xs.map I, u.oneCell' = true := by
  intro u hu
  simp at hu
  obtain ⟨x, _, rfl⟩ := hu
  rfl
theorem below_appended {w w1 w' : World} {ob : Obj} {c : Nat} (hb : Below w.heap.size w w1) (hs : w.heap.size ≤ w1.heap.size) (hg : (w1.alloc ob).grownBy w' (Value.slice (some ⟨w1.heap.size, 0, none⟩) 0 c).ownBlock) : Below w.heap.size w w' :=
  (hb.alloc hs _).grown hg (by simp; omega) fun k e => by cases e; exact hs
/-- append onto a list of the call's own, as one step of a region that draws its order. -/
theorem step_append_own {P : Program} {ops : Array Oper} {o : Oper} {a : Act} (w : World) {K : Act → World → Prop} {Q : Exit → Act → World → Prop} {E : Prop} (hg : o.guard = none) (s x : Operand) (t : TypeId)
    (ho : o.op = .call { callee := .builtin .append, args := #[s, x], argTypes := #[t, t] })
    (base : Nat) (e : TypeId) (i : TypeInfo) (z : Value) (size bytes : Nat) (ht : P.underlying t = some (.slice e)) (hi : P.info? e = some i) (hz : i.zero = some z)
    (hsize : i.size = size) (hby : i.bytes = bytes) (hzs : z.cells.size = size) (hsz : 0 < size)
    (v : Value) (n : Nat) (xs : List Value) (hs : a.eval s = v) (hown : w.ownsRow base e size v n xs)
    (ad : Addr) (m c : Nat) (news : List Value) (hx : a.eval x = .slice (some ad) m c) (hl : news.length = m * size) (hnews : ∀ j u, news[j]? = some u → w.cell? (ad.add j) = some u) (h1 : ∀ u ∈ news, u.oneCell' = true)
    (h63 : n + m ≤ maxLen) (hbytes : (n + m) * bytes ≤ 140737488355328) (hbase : base ≤ w.heap.size)
    (h : ∀ v' w', w'.ownsRow base e size v' (n + m) (xs ++ news) → w.grownBy w' v.ownBlock → (v' = .slice none 0 0 ↔ v = .slice none 0 0 ∧ m = 0) → K (a.put o.dst v') w') :
    if Region.wanted o (yielded ops a.tmps) = true then Oper.wp P o a w K Q else E := by
  rw [if_pos (by simp [Region.wanted, hg])]
  exact wp_append_own w s x t ho base e i z size bytes ht hi hz hsize hby hzs hsz v n xs hs hown ad m c news hx hl hnews h1 h63 hbytes hbase h
end Go.Proofs.YthdpicmcgofghasGreat

/- Lists of structs of k numbers each, as they lie in memory, number by number. No program. -/
namespace Go.Proofs.YthdpicmcgofghasGreat
open Go.ChangeShapes Go.WideShapes Go.ChangeAt Go.RowKit Go.Joins

/-- n structs of k numbers lie there. -/
def KAt (k : Nat) (w : World) (a : Option Addr) (n : Nat) (fs : List Int) : Prop :=
  fs.length = n * k ∧ n ≤ 2097152 ∧ (n = 0 ∨ ∃ b o, a = some ⟨b, o, none⟩ ∧ ∀ i, i < n * k → w.cell? ⟨b, o + i, none⟩ = some (I (fs.getD i 0)))
theorem KAt.below {k : Nat} {w w' : World} {a : Option Addr} {n : Nat} {fs : List Int} (h : KAt k w a n fs) {B : Nat} (hb : Below B w w') (hB : w.heap.size ≤ B) : KAt k w' a n fs := by
  obtain ⟨h1, h2, h3 | ⟨b, o, h3, h4⟩⟩ := h
  · exact ⟨h1, h2, .inl h3⟩
  · refine ⟨h1, h2, .inr ⟨b, o, h3, fun i hi => ?_⟩⟩
    have h5 := h4 i hi
    rw [hb.cell (show b < B from Nat.lt_of_lt_of_le (World.block_lt_of_cell? w _ h5) hB)]
    exact h5
theorem own_kAt {k : Nat} {w : World} {base : Nat} {e : TypeId} {g n cap : Nat} {fs : List Int} (h : w.ownsRow base e k (.slice (some ⟨g, 0, none⟩) n cap) n (fs.map I)) (hn : n ≤ 2097152) : KAt k w (some ⟨g, 0, none⟩) n fs := by
  have hl : fs.length = n * k := by have := h.1; simpa using this
  refine ⟨hl, hn, .inr ⟨g, 0, rfl, fun i hi => ?_⟩⟩
  rw [Nat.zero_add, h.cellAt i hi, List.getElem?_map, List.getElem?_eq_getElem (by omega)]
  simp [List.getD, show i < fs.length by omega]
theorem owns_kAt {k : Nat} {w : World} {base : Nat} {e : TypeId} {n c : Nat} {a : Option Addr} {fs : List Int} (h : w.ownsRow base e k (.slice a n c) n (fs.map I)) (hn : n ≤ 2097152) : KAt k w a n fs := by
  rcases owns_forms h with ⟨h2, h3⟩ | ⟨g, cap, hv⟩
  · subst h3
    exact ⟨by have := h.1; simpa using this, by omega, .inl rfl⟩
  · cases hv
    exact own_kAt h hn
theorem owns_v {k : Nat} {w : World} {base : Nat} {e : TypeId} {n : Nat} {v : Value} {fs : List Int} (h : w.ownsRow base e k v n (fs.map I)) (hn : n ≤ 2097152) : ∃ a c, v = .slice a n c ∧ n ≤ c ∧ KAt k w a n fs := by
  obtain ⟨a, c, rfl, hc⟩ := owns_slice h
  exact ⟨a, c, rfl, hc, owns_kAt h hn⟩
theorem own_emptyK {w : World} {base : Nat} {T : TypeId} {size : Nat} (hb : base ≤ w.heap.size) : (w.alloc (.cells #[] T)).ownsRow base T size (.slice (some ⟨w.heap.size, 0, none⟩) 0 0) 0 [] :=
  ⟨by simp, .inr ⟨w.heap.size, 0, #[], rfl, hb, (by show (w.heap.push _)[w.heap.size]? = _; simp), Nat.le_refl _, by unfold maxLen; omega, by simp, by simp⟩⟩
theorem eql_nilK {P : Program} (w : World) {t e : TypeId} {a : Option Addr} {l c : Nat} (h : P.underlying t = some (.slice e)) : (binOp .eql t (.slice a l c) (.slice none 0 0)).run P w = .ok (.bool a.isNone) w := by
  simp [binOp, run_equal_slice_nil w t e a l c h]
theorem KAt.src {k : Nat} {w : World} {ad : Addr} {n : Nat} {es : List Int} (h : KAt k w (some ad) n es) : ∀ j v, (es.map I)[j]? = some v → w.cell? (ad.add j) = some v := by
  intro j v hj
  rw [List.getElem?_map] at hj
  have hl : j < es.length := by
    rcases Nat.lt_or_ge j es.length with h1 | h1
    · exact h1
    · rw [List.getElem?_eq_none h1] at hj; cases hj
  rcases h.2.2 with h0 | ⟨b, o, he, g⟩
  · have := h.1; rw [h0] at this; omega
  · cases he
    have h1 := g j (by have := h.1; omega)
    have e : (⟨b, o, none⟩ : Addr).add j = ⟨b, o + j, none⟩ := by simp [Addr.add]
    rw [e, h1]
    rw [List.getElem?_eq_getElem hl] at hj
    simpa [List.getD, hl] using hj
theorem KAt.srcA {k : Nat} {w : World} {ad : Addr} {n : Nat} {es : List Int} {o : Obj} (h : KAt k w (some ad) n es) : ∀ j v, (es.map I)[j]? = some v → (w.alloc o).cell? (ad.add j) = some v := by
  intro j v hj
  have h1 := h.src j v hj
  rw [World.cell?_of_block (Below.heap_alloc _ _ _ (World.block_lt_of_cell? w _ h1))]
  exact h1
theorem newsK {es : List Int} : ∀ v ∈ es.map I, v.oneCell' = true := by
  intro v hv
  simp at hv
  obtain ⟨x, _, rfl⟩ := hv
  rfl
theorem KAt.nilE {k : Nat} {w : World} {n : Nat} {es : List Int} (h : KAt k w none n es) : n = 0 ∧ es = [] := by
  have h0 : n = 0 := by
    rcases h.2.2 with h0 | ⟨_, _, he, _⟩
    · exact h0
    · cases he
  exact ⟨h0, List.length_eq_zero_iff.1 (by have := h.1; rw [h0] at this; simpa using this)⟩
theorem KAt.cut {k m : Nat} {w : World} {a : Option Addr} {n : Nat} {fs : List Int} (h : KAt k w a n fs) (hm : m ≤ n) : KAt k w a m (fs.take (m * k)) := by
  have hl : m * k ≤ n * k := Nat.mul_le_mul_right k hm
  refine ⟨by rw [List.length_take, h.1]; omega, Nat.le_trans hm h.2.1, ?_⟩
  rcases h.2.2 with h0 | ⟨b, o, e, g⟩
  · exact .inl (by omega)
  · refine .inr ⟨b, o, e, fun i hi => ?_⟩
    rw [g i (by omega)]
    simp [List.getD, hi]
theorem KAt.of_trip {w : World} {a : Option Addr} {n : Nat} {fs : List Int} (h : TripAt w a n fs) : KAt 3 w a n fs := ⟨h.1, by have := h.2.1; omega, h.2.2⟩
theorem KAt.of_quad {w : World} {a : Option Addr} {n : Nat} {fs : List Int} (h : QuadAt w a n fs) : KAt 4 w a n fs := ⟨h.1, by have := h.2.1; omega, h.2.2⟩
theorem take_two' {fs gs : List Int} {k : Nat} (hf : k * 2 + 1 < fs.length) (hg : k * 2 + 1 < gs.length) (h : fs.take (k * 2) = gs.take (k * 2)) (e0 : fs.getD (k * 2) 0 = gs.getD (k * 2) 0) (e1 : fs.getD (k * 2 + 1) 0 = gs.getD (k * 2 + 1) 0) : fs.take ((k + 1) * 2) = gs.take ((k + 1) * 2) := by
  rw [show (k + 1) * 2 = k * 2 + 1 + 1 by omega]
  exact (take_nextI (by omega) (by omega) (take_nextI (by omega) (by omega) h e0) e1)
theorem take_three' {fs gs : List Int} {k : Nat} (hf : k * 3 + 2 < fs.length) (hg : k * 3 + 2 < gs.length) (h : fs.take (k * 3) = gs.take (k * 3)) (e0 : fs.getD (k * 3) 0 = gs.getD (k * 3) 0) (e1 : fs.getD (k * 3 + 1) 0 = gs.getD (k * 3 + 1) 0) (e2 : fs.getD (k * 3 + 2) 0 = gs.getD (k * 3 + 2) 0) : fs.take ((k + 1) * 3) = gs.take ((k + 1) * 3) := by
  rw [show (k + 1) * 3 = k * 3 + 1 + 1 + 1 by omega]
  exact (take_nextI (by omega) (by omega) (take_nextI (by omega) (by omega) (take_nextI (by omega) (by omega) h e0) e1) e2)
theorem take_four' {fs gs : List Int} {k : Nat} (hf : k * 4 + 3 < fs.length) (hg : k * 4 + 3 < gs.length) (h : fs.take (k * 4) = gs.take (k * 4)) (e0 : fs.getD (k * 4) 0 = gs.getD (k * 4) 0) (e1 : fs.getD (k * 4 + 1) 0 = gs.getD (k * 4 + 1) 0) (e2 : fs.getD (k * 4 + 2) 0 = gs.getD (k * 4 + 2) 0) (e3 : fs.getD (k * 4 + 3) 0 = gs.getD (k * 4 + 3) 0) : fs.take ((k + 1) * 4) = gs.take ((k + 1) * 4) := by
  rw [show (k + 1) * 4 = k * 4 + 1 + 1 + 1 + 1 by omega]
  exact (take_nextI (by omega) (by omega) (take_nextI (by omega) (by omega) (take_nextI (by omega) (by omega) (take_nextI (by omega) (by omega) h e0) e1) e2) e3)
theorem made_2 (n : Nat) : (madeCells (Value.agg #[.int .i64 0, .int .i64 0]).cells n).toList = List.replicate n (Value.int .i64 0) := by
  apply List.ext_getElem?
  intro j
  by_cases hj : j < n
  · have h2 : j % 2 = 0 ∨ j % 2 = 1 := by omega
    rcases h2 with h2 | h2 <;> simp [madeCells, hj, Value.cells, h2]
  · simp [madeCells, hj]
theorem made_3 (n : Nat) : (madeCells (Value.agg #[.int .i64 0, .int .i64 0, .int .i64 0]).cells n).toList = List.replicate n (Value.int .i64 0) := by
  apply List.ext_getElem?
  intro j
  by_cases hj : j < n
  · have h2 : j % 3 = 0 ∨ j % 3 = 1 ∨ j % 3 = 2 := by omega
    rcases h2 with h2 | h2 | h2 <;> simp [madeCells, hj, Value.cells, h2]
  · simp [madeCells, hj]
theorem made_4 (n : Nat) : (madeCells (Value.agg #[.int .i64 0, .int .i64 0, .int .i64 0, .int .i64 0]).cells n).toList = List.replicate n (Value.int .i64 0) := by
  apply List.ext_getElem?
  intro j
  by_cases hj : j < n
  · have h2 : j % 4 = 0 ∨ j % 4 = 1 ∨ j % 4 = 2 ∨ j % 4 = 3 := by omega
    rcases h2 with h2 | h2 | h2 | h2 <;> simp [madeCells, hj, Value.cells, h2]
  · simp [madeCells, hj]
theorem Asc.two {zs : List Int} {k q : Int} {j : Nat} (h : Asc zs k (j * 2)) (hl : j * 2 + 1 < zs.length) (hq : k + (j : Int) * 2 = q) : Asc (List.set (List.set zs (j * 2) (q)) (j * 2 + 1) (q + 1)) k ((j + 1) * 2) := by
  intro i hi
  by_cases e1 : i = j * 2 + 1
  · subst e1
    rw [List.getElem?_set_self (by (try simp only [List.length_set]); omega)]
    congr 1; push_cast; omega
  rw [List.getElem?_set_ne (by omega)]
  by_cases e0 : i = j * 2
  · subst e0
    rw [List.getElem?_set_self (by (try simp only [List.length_set]); omega)]
    congr 1; push_cast; omega
  rw [List.getElem?_set_ne (by omega)]
  exact h i (by omega)
theorem Asc.three' {zs : List Int} {k q : Int} {j : Nat} (h : Asc zs k (j * 3)) (hl : j * 3 + 2 < zs.length) (hq : k + (j : Int) * 3 = q) : Asc (List.set (List.set (List.set zs (j * 3) (q)) (j * 3 + 1) (q + 1)) (j * 3 + 2) (q + 1 + 1)) k ((j + 1) * 3) := by
  intro i hi
  by_cases e2 : i = j * 3 + 2
  · subst e2
    rw [List.getElem?_set_self (by (try simp only [List.length_set]); omega)]
    congr 1; push_cast; omega
  rw [List.getElem?_set_ne (by omega)]
  by_cases e1 : i = j * 3 + 1
  · subst e1
    rw [List.getElem?_set_self (by (try simp only [List.length_set]); omega)]
    congr 1; push_cast; omega
  rw [List.getElem?_set_ne (by omega)]
  by_cases e0 : i = j * 3
  · subst e0
    rw [List.getElem?_set_self (by (try simp only [List.length_set]); omega)]
    congr 1; push_cast; omega
  rw [List.getElem?_set_ne (by omega)]
  exact h i (by omega)
theorem Asc.four {zs : List Int} {k q : Int} {j : Nat} (h : Asc zs k (j * 4)) (hl : j * 4 + 3 < zs.length) (hq : k + (j : Int) * 4 = q) : Asc (List.set (List.set (List.set (List.set zs (j * 4) (q)) (j * 4 + 1) (q + 1)) (j * 4 + 2) (q + 1 + 1)) (j * 4 + 3) (q + 1 + 1 + 1)) k ((j + 1) * 4) := by
  intro i hi
  by_cases e3 : i = j * 4 + 3
  · subst e3
    rw [List.getElem?_set_self (by (try simp only [List.length_set]); omega)]
    congr 1; push_cast; omega
  rw [List.getElem?_set_ne (by omega)]
  by_cases e2 : i = j * 4 + 2
  · subst e2
    rw [List.getElem?_set_self (by (try simp only [List.length_set]); omega)]
    congr 1; push_cast; omega
  rw [List.getElem?_set_ne (by omega)]
  by_cases e1 : i = j * 4 + 1
  · subst e1
    rw [List.getElem?_set_self (by (try simp only [List.length_set]); omega)]
    congr 1; push_cast; omega
  rw [List.getElem?_set_ne (by omega)]
  by_cases e0 : i = j * 4
  · subst e0
    rw [List.getElem?_set_self (by (try simp only [List.length_set]); omega)]
    congr 1; push_cast; omega
  rw [List.getElem?_set_ne (by omega)]
  exact h i (by omega)

set_option maxRecDepth 100000 in
/-- A list of structs of two ints that came in, by its cells, opened. -/
theorem open_twos {H : Type} {enc : TypeId × Value → H} {W : World} {base : Nat} {held : Bool} {t e : TypeId} {f0 f1 : Field} {fuel : Nat} {v : Value} {x : DataW H × List MemPlace}
    (ht : Tryz.prog.underlying t = some (.slice e)) (he : Tryz.prog.underlying e = some (.struct #[f0, f1])) (ce : Tryz.prog.cellsOf e = 2) (o0 : f0.offset = 0) (o1 : f1.offset = 1)
    (c0 : Tryz.prog.cellsOf f0.type = 1) (c1 : Tryz.prog.cellsOf f1.type = 1) (i0 : Tryz.prog.underlying f0.type = some (.int .i64)) (i1 : Tryz.prog.underlying f1.type = some (.int .i64))
    (h : DataW.trod enc Tryz.prog W base (fun _ => true) held fuel t [v] = some x) :
    ∃ (a : Option Addr) (n c : Nat) (fs : List Int), v = .slice a n c ∧ n ≤ 9223372036854775807 ∧ (n ≤ 1048576 → KAt 2 W a n fs) := by
  rcases Go.Deep.open_slice ht h with ⟨hcs, _⟩ | ⟨a, len, cap, m, k, D, Pl, hcs, hb, hl, hm, hmm, _, hx⟩
  · obtain rfl : v = .slice none 0 0 := by simpa using hcs
    exact ⟨none, 0, 0, [], rfl, by omega, fun _ => ⟨rfl, by omega, .inl rfl⟩⟩
  · obtain rfl : v = .slice (some a) len cap := by simpa using hcs
    have hlm : len ≤ m := by rw [hmm]; split <;> omega
    have each : ∀ i, i < len → ∃ z : Int × Int, W.cell? (a.add (i * 2)) = some (I z.1) ∧ W.cell? (a.add (i * 2 + 1)) = some (I z.2) := by
      intro i hi
      obtain ⟨cs', h1, h2⟩ := hx i (by omega)
      rw [ce] at h1
      obtain ⟨_, hlen, hcell⟩ := World.cells?_some h1
      obtain ⟨xs, k', hk, hxy, _, hxl, hf⟩ := DataW.trod_struct he h2
      match xs, hxl, cs', hlen with
      | [y0, y1], _, [v0, v1], _ =>
        have g0 := hf 0 f0 rfl
        have g1 := hf 1 f1 rfl
        simp [o0, o1, c0, c1] at g0 g1
        have e0 := hcell 0 (by omega)
        have e1 := hcell 1 (by omega)
        rw [Go.Deep.add_add] at e0 e1
        obtain ⟨z0, q0, _, w0⟩ := DataW.trod_int i0 g0
        obtain ⟨z1, q1, _, w1⟩ := DataW.trod_int i1 g1
        obtain rfl : v0 = I z0 := by simpa using q0
        obtain rfl : v1 = I z1 := by simpa using q1
        exact ⟨(z0, z1), by simpa using e0, by simpa using e1⟩
    obtain ⟨z, hz⟩ := Go.Deep.choose_lt each
    have hl2 : ∀ n, ((List.range n).flatMap fun i => [(z i).1, (z i).2]).length = n * 2 := fun n => by
      induction n with
      | zero => rfl
      | succ n ih => rw [List.range_succ, List.flatMap_append, List.length_append, ih]; simp; omega
    have hat2 : ∀ n i, i < n → ((List.range n).flatMap fun i => [(z i).1, (z i).2]).getD (i * 2) 0 = (z i).1 ∧ ((List.range n).flatMap fun i => [(z i).1, (z i).2]).getD (i * 2 + 1) 0 = (z i).2 := fun n => by
      induction n with
      | zero => intro i hi; omega
      | succ n ih =>
        intro i hi
        have hl := hl2 n
        rw [List.range_succ, List.flatMap_append]
        simp only [List.getD_eq_getElem?_getD] at ih ⊢
        by_cases h : i < n
        · rw [List.getElem?_append_left (by omega), List.getElem?_append_left (by omega)]
          exact ih i h
        · obtain rfl : i = n := by omega
          rw [List.getElem?_append_right (by omega), List.getElem?_append_right (by omega), hl, Nat.sub_self, show i * 2 + 1 - i * 2 = 1 by omega]
          simp
    refine ⟨some a, len, cap, (List.range len).flatMap fun i => [(z i).1, (z i).2], rfl, by unfold maxLen at hm; omega, fun hn => ⟨hl2 len, by omega, ?_⟩⟩
    by_cases h0 : len = 0
    · exact .inl h0
    · have hcells : ∀ i, i < ((List.range len).flatMap fun i => [(z i).1, (z i).2]).length → W.cell? (a.add i) = some (.int .i64 (((List.range len).flatMap fun i => [(z i).1, (z i).2]).getD i 0)) := fun i hi => by
        rw [hl2 len] at hi
        obtain ⟨c0, c1⟩ := hz (i / 2) (by omega)
        have q := hat2 len (i / 2) (by omega)
        rcases (show i % 2 = 0 ∨ i % 2 = 1 by omega) with e | e
        · have e' : i = i / 2 * 2 := by omega
          rw [e', c0, q.1]
        · have e' : i = i / 2 * 2 + 1 := by omega
          rw [e', c1, q.2]
      obtain ⟨b, o, rfl, hc⟩ := ints_at hcells (by rw [hl2 len]; omega)
      exact .inr ⟨b, o, rfl, fun i hi => hc i (by rw [hl2 len]; omega)⟩
end Go.Proofs.YthdpicmcgofghasGreat

/- spec.l1In at whatever numbers, walked. -/
namespace Go.Proofs.YthdpicmcgofghasGreat
open Go.ChangeShapes Go.WideShapes Go.ChangeAt Go.RowKit

/-- x lies from lo to hi. -/
def inB (x lo hi : Int) : Bool := decide (lo ≤ x ∧ x ≤ hi)
theorem inB_yes {x lo hi : Int} (h : lo ≤ x ∧ x ≤ hi) : inB x lo hi = true := decide_eq_true h
theorem inB_no {x lo hi : Int} (h : ¬ (lo ≤ x ∧ x ≤ hi)) : inB x lo hi = false := decide_eq_false h
theorem inB_val {x lo hi : Int} (h : inB x lo hi = true) : lo ≤ x ∧ x ≤ hi := by unfold inB at h; simpa using h
theorem l1In_g (x lo hi : Int) (w : World) : Calls Tryz.prog 18 #[.int .i64 x, .int .i64 lo, .int .i64 hi] w fun e w' => e = .returned (.bool (inB x lo hi)) ∧ w' = w := by
  by_cases h0 : lo ≤ x
  · by_cases h1 : x ≤ hi
    · rw [inB_yes ⟨h0, h1⟩]
      go_enter Tryz.func18, Tryz.ntmps18
      go_wp2
      go_ret
      exact ⟨rfl, rfl⟩
    · rw [inB_no (fun h => h1 h.2)]
      go_enter Tryz.func18, Tryz.ntmps18
      go_wp2
      go_ret
      exact ⟨rfl, rfl⟩
  · rw [inB_no (fun h => h0 h.1)]
    go_enter Tryz.func18, Tryz.ntmps18
    go_wp2
    go_ret
    exact ⟨rfl, rfl⟩
end Go.Proofs.YthdpicmcgofghasGreat
