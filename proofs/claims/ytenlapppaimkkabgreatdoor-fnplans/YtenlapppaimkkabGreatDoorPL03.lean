/- Texts joined: Own, IntAt, Clone, ResV, SpecRes, Comings, Far, RangeGo, PairRd, Place, ClassOf, NextM, TellM, ImplRead, RowAt, OwnerAt, StateAt. -/
import Derived.WalkKit
import Derived.Test.YtenlapppaimkkabGreatDoorRows
import Derived.ProofKit
import Derived.WalkSmall
import Derived.OpenShut
import Derived.Laws.AppendOwn
import Derived.Deep.RegionLaw
import Derived.Handy
import Derived.Maps.AppendAt
import Derived.OwnWalk
import Derived.Below
import Derived.RangeFuncNested
import Derived.RangeFuncBox
import Derived.Deep.RegionHeld3
import Derived.Laws.StructEq
import Derived.ChangeKeysEq
import Derived.Test.YtenlapppaimkkabGreatDoorPL01
import Derived.RangeFuncLeaves
import Derived.Shelf.Abstract
import Derived.OwnWalkIn
import Derived.TacticsInMore
import Derived.LoopNIn
import Derived.LoopIn
set_option maxHeartbeats 2000000
set_option maxRecDepth 100000
namespace Go.Proofs.YtenlapppaimkkabGreatDoor
section
open Go.RowKit
theorem owns_below {w w' : World} {base : Nat} {e : TypeId} {size : Nat} {v : Value} {n : Nat} {xs : List Value} (h : w.ownsRow base e size v n xs) {B : Nat} (hb : Below B w w') (hB : w.heap.size ≤ B) : w'.ownsRow base e size v n xs := by
  obtain ⟨h1, h2 | ⟨g, cap, cur, h3, h4, h5, h6⟩⟩ := h
  · exact ⟨h1, .inl h2⟩
  · refine ⟨h1, .inr ⟨g, cap, cur, h3, h4, ?_, h6⟩⟩
    have := (Array.getElem?_eq_some_iff.1 h5).1
    rw [hb.block g (by omega)]
    exact h5

theorem own_cell {w : World} {base : Nat} {e : TypeId} {g n cap j : Nat} {xs : List Value} (h : w.ownsRow base e 1 (.slice (some ⟨g, 0, none⟩) n cap) n xs) (hj : j < n) : ∃ u, w.cell? ⟨g, j, none⟩ = some u := by
  have h1 := h.cellAt j (by omega)
  have h2 : j < xs.length := by rw [h.1]; omega
  exact ⟨xs[j], by rw [h1, List.getElem?_eq_getElem h2]⟩

theorem own_base {w : World} {base : Nat} {e : TypeId} {g n cap : Nat} {xs : List Value} (h : w.ownsRow base e 1 (.slice (some ⟨g, 0, none⟩) n cap) n xs) : base ≤ g ∧ g < w.heap.size := h.lt g rfl
end
section
open Go.ChangeShapes Go.WideShapes Go.ChangeAt Go.RowKit
abbrev I (x : Int) : Value := .int .i64 x
def IntAt (w : World) (a : Option Addr) (n : Nat) (xs : List Int) : Prop :=
  xs.length = n ∧ n ≤ 1099511627776 ∧ (n = 0 ∨ ∃ b o, a = some ⟨b, o, none⟩ ∧ ∀ i, i < n → w.cell? ⟨b, o + i, none⟩ = some (I (xs.getD i 0)))

theorem IntAt.below {w w' : World} {a : Option Addr} {n : Nat} {xs : List Int} (h : IntAt w a n xs) {B : Nat} (hb : Below B w w') (hB : w.heap.size ≤ B) : IntAt w' a n xs := by
  obtain ⟨h1, h2, h3 | ⟨b, o, h3, h4⟩⟩ := h
  · exact ⟨h1, h2, .inl h3⟩
  · refine ⟨h1, h2, .inr ⟨b, o, h3, fun i hi => ?_⟩⟩
    have h5 := h4 i hi
    have h6 := World.block_lt_of_cell? w _ h5
    rw [hb.cell (show _ < B from Nat.lt_of_lt_of_le h6 hB)]
    exact h5
theorem own_intAt {w : World} {base : Nat} {e : TypeId} {g n cap : Nat} {xs : List Int} (h : w.ownsRow base e 1 (.slice (some ⟨g, 0, none⟩) n cap) n (xs.map I)) (hn : n ≤ 1099511627776) : IntAt w (some ⟨g, 0, none⟩) n xs := by
  have hl : xs.length = n := by have := h.1; simpa using this
  refine ⟨hl, hn, .inr ⟨g, 0, rfl, fun i hi => ?_⟩⟩
  rw [Nat.zero_add, h.cellAt i (by omega), List.getElem?_map, List.getElem?_eq_getElem (by omega)]
  simp [List.getD, show i < xs.length by omega]

theorem take_nextI {xs ys : List Int} {k : Nat} (hx : k < xs.length) (hy : k < ys.length) (h : xs.take k = ys.take k) (e : xs.getD k 0 = ys.getD k 0) : xs.take (k + 1) = ys.take (k + 1) := by
  have e' : xs[k] = ys[k] := by simpa [List.getD, hx, hy] using e
  rw [List.take_succ_eq_append_getElem hx, List.take_succ_eq_append_getElem hy, h, e']

theorem infoInt : (Tryz.prog.info? 3).map (fun i => (i.zero, i.size, i.bytes)) = some (some (.int .i64 0), 1, 8) := by kernel_rfl
theorem own_empty {w : World} {base : Nat} (hb : base ≤ w.heap.size) : (w.alloc (.cells #[] 3)).ownsRow base 3 1 (.slice (some ⟨w.heap.size, 0, none⟩) 0 0) 0 [] :=
  ⟨rfl, .inr ⟨w.heap.size, 0, #[], rfl, hb, (by show (w.heap.push _)[w.heap.size]? = _; simp), Nat.le_refl _, by unfold maxLen; omega, rfl, rfl⟩⟩
theorem own_empty_drew {w : World} {base g : Nat} (hg : w.heap.size = g) (hb : base ≤ g) : (w.alloc (.cells #[] 3)).drew.ownsRow base 3 1 (.slice (some ⟨g, 0, none⟩) 0 0) 0 [] := by
  subst hg
  exact own_empty hb
theorem own_weaken {w : World} {base base' : Nat} {e : TypeId} {size : Nat} {v : Value} {n : Nat} {xs : List Value} (h : w.ownsRow base e size v n xs) (hb : base' ≤ base) : w.ownsRow base' e size v n xs := by
  refine ⟨h.1, ?_⟩
  rcases h.2 with h2 | ⟨g, cap, cur, hv, hg, r⟩
  · exact .inl h2
  · exact .inr ⟨g, cap, cur, hv, Nat.le_trans hb hg, r⟩
theorem own_setCell_far {w : World} {base : Nat} {e : TypeId} {size : Nat} {v : Value} {n : Nat} {xs : List Value} (h : w.ownsRow base e size v n xs) {a : Addr} (ha : v.ownBlock ≠ some a.block) (u : Value) : (w.setCell a u).ownsRow base e size v n xs := by
  refine ⟨h.1, ?_⟩
  rcases h.2 with h2 | ⟨g, cap, cur, rfl, hg, hh, r⟩
  · exact .inl h2
  · exact .inr ⟨g, cap, cur, rfl, hg, by rw [Below.heap_setCell _ _ _ _ (fun e => ha (by simp [Value.ownBlock, e]))]; exact hh, r⟩
theorem own_at {w : World} {base : Nat} {e : TypeId} {v : Value} {n : Nat} {xs : List Int} (h : w.ownsRow base e 1 v n (xs.map I)) (hn : n ≤ 1099511627776) : ∃ a c, v = .slice a n c ∧ IntAt w a n xs := by
  have hl : xs.length = n := by have := h.1; simpa using this
  rcases h.2 with ⟨rfl, h0⟩ | ⟨g, cap, cur, rfl, _⟩
  · exact ⟨none, 0, by rw [h0], hl, hn, .inl h0⟩
  · exact ⟨_, cap, rfl, own_intAt h hn⟩
theorem news_len {xs : List Int} {n : Nat} (h : xs.length = n) : (xs.map I).length = n * 1 := by simp [h]
theorem IntAt.cells {w : World} {p o n : Nat} {xs : List Int} (h : IntAt w (some ⟨p, o, none⟩) n xs) : ∀ i, i < n → w.cell? ⟨p, o + i, none⟩ = some (I (xs.getD i 0)) := by
  intro i hi
  rcases h.2.2 with h0 | ⟨b, c, e, g⟩
  · omega
  · cases e
    exact g i hi
theorem news_one {xs : List Int} : ∀ u ∈ xs.map I, u.oneCell' = true := by
  intro u hu
  simp at hu
  obtain ⟨x, _, rfl⟩ := hu
  rfl
theorem step_append_own {P : Program} {ops : Array Oper} {o : Oper} {a : Act} (w : World) {K : Act → World → Prop} {Q : Exit → Act → World → Prop} {E : Prop} (hg : o.guard = none) (s x : Operand) (t : TypeId)
    (ho : o.op = .call { callee := .builtin .append, args := #[s, x], argTypes := #[t, t] })
    (base : Nat) (e : TypeId) (i : TypeInfo) (z : Value) (size bytes : Nat) (ht : P.underlying t = some (.slice e)) (hi : P.info? e = some i) (hz : i.zero = some z)
    (hsize : i.size = size) (hby : i.bytes = bytes) (hzs : z.cells.size = size) (hsz : 0 < size)
    (v : Value) (n : Nat) (xs : List Value) (hs : a.eval s = v) (hown : w.ownsRow base e size v n xs)
    (ad : Addr) (m c : Nat) (news : List Value) (hx : a.eval x = .slice (some ad) m c) (hl : news.length = m * size) (hnews : ∀ j u, news[j]? = some u → w.cell? (ad.add j) = some u) (h1 : ∀ u ∈ news, u.oneCell' = true)
    (h63 : n + m ≤ maxLen) (hbytes : (n + m) * bytes ≤ 140737488355328) (hbase : base ≤ w.heap.size)
    (h : ∀ v' w', w'.ownsRow base e size v' (n + m) (xs ++ news) → w.grownBy w' v.ownBlock → (v' = .slice none 0 0 ↔ v = .slice none 0 0 ∧ m = 0) → K (a.put o.dst v') w') :
    if Region.wanted o (yielded ops a.tmps) = true then Oper.wp P o a w K Q else E := by
  rw [if_pos (by simp [Region.wanted, hg])]
  exact wp_append_own w s x t ho base e i z size bytes ht hi hz hsize hby hzs hsz v n xs hs hown ad m c news hx hl hnews h1 h63 hbytes hbase h
end
abbrev ResV (code : Int) (a : Option Addr) (n c : Nat) : Value := .agg #[.int .i64 code, .slice a n c]
section
open Go.ChangeShapes Go.WideShapes Go.ChangeAt Go.RowKit
theorem l4Ints_any (a1 a2 : Option Addr) (n1 n2 c1 c2 : Nat) (xs ys : List Int) (w : World) (h1 : IntAt w a1 n1 xs) (h2 : IntAt w a2 n2 ys) :
    Calls Tryz.prog 82 #[.slice a1 n1 c1, .slice a2 n2 c2] w fun e w' => e = .returned (.bool (decide (xs = ys))) ∧ Below w.heap.size w w' := by
  have H1 : Hid (IntAt w a1 n1 xs) := h1
  have H2 : Hid (IntAt w a2 n2 ys) := h2
  have L1 : Hid (xs.length = n1) := h1.1
  have L2 : Hid (ys.length = n2) := h2.1
  have b1 := h1.2.1
  have b2 := h2.2.1
  obtain ⟨B, hB⟩ : ∃ B, decide (xs = ys) = B := ⟨_, rfl⟩
  rw [hB]
  have HB : Hid (decide (xs = ys) = B) := hB
  clear h1 h2 hB
  go_enter Tryz.func82, Tryz.ntmps82
  go_wp2
  go_loopw [5] (fun i wr => ∃ k : Nat, (k ≤ n1 ∧ k ≤ n2) ∧ i = .int .i64 k ∧ xs.take k = ys.take k ∧ Below w.heap.size w wr) (fun i _ => n1 - (intOf i).toNat)
  case atStart => exact ⟨0, ⟨Nat.zero_le _, Nat.zero_le _⟩, rfl, rfl, Below.refl _ _⟩
  case round =>
    obtain ⟨k, ⟨hk1, hk2⟩, rfl, ht, hb⟩ := hrel
    have HT : Hid (xs.take k = ys.take k) := ht
    clear ht
    by_cases hlt1 : k < n1
    · by_cases hlt2 : k < n2
      · rcases (H1.out.below hb (Nat.le_refl _)).2.2 with h | ⟨p1, o1, rfl, g1⟩
        · omega
        rcases (H2.out.below hb (Nat.le_refl _)).2.2 with h | ⟨p2, o2, rfl, g2⟩
        · omega
        obtain ⟨x, hx⟩ : ∃ x, xs.getD k 0 = x := ⟨_, rfl⟩
        obtain ⟨y, hy⟩ : ∃ y, ys.getD k 0 = y := ⟨_, rfl⟩
        have e1 := g1 k hlt1
        have e2 := g2 k hlt2
        rw [hx] at e1
        rw [hy] at e2
        have HX : Hid (xs.getD k 0 = x) := hx
        have HY : Hid (ys.getD k 0 = y) := hy
        clear g1 g2 hx hy
        go_wp2
        go_region
        go_wp2
        · have hd : (x != y) = true := by assumption
          go_ret
          refine ⟨?_, hb.drew⟩
          have e : xs ≠ ys := fun e => by rw [← HX.out, ← HY.out, e] at hd; simp at hd
          rw [← HB.out]
          simp [e]
        · have hd : (x != y) = false := by assumption
          have l1 := L1.out
          have l2 := L2.out
          exact ⟨⟨k + 1, ⟨by omega, by omega⟩, by go_num, take_nextI (by omega) (by omega) HT.out (by rw [HX.out, HY.out]; simpa using hd), hb.drew⟩, by simp [intOf]; omega⟩
      · have hne : ((n1 : Int) == (n2 : Int)) = false := by simp; omega
        go_wp2
        go_ret
        refine ⟨?_, hb⟩
        have e : xs ≠ ys := fun e => by have l1 := L1.out; have l2 := L2.out; rw [e] at l1; omega
        rw [← HB.out]
        simp [e]
    · by_cases hn : n1 = n2
      · subst hn
        go_wp2
        go_ret
        refine ⟨?_, hb⟩
        have e : xs = ys := by
          have := HT.out
          rwa [List.take_of_length_le (by have := L1.out; omega), List.take_of_length_le (by have := L2.out; omega)] at this
        rw [← HB.out]
        simp [e]
      · have hne : ((n1 : Int) == (n2 : Int)) = false := by simp; omega
        go_wp2
        go_ret
        refine ⟨?_, hb⟩
        have e : xs ≠ ys := fun e => by have l1 := L1.out; have l2 := L2.out; rw [e] at l1; omega
        rw [← HB.out]
        simp [e]

theorem specResSame_any (a1 a2 : Option Addr) (n1 n2 c1 c2 : Nat) (k1 k2 : Int) (xs ys : List Int) (w : World) (h1 : IntAt w a1 n1 xs) (h2 : IntAt w a2 n2 ys) :
    Calls Tryz.prog 37 #[ResV k1 a1 n1 c1, ResV k2 a2 n2 c2] w fun e w' => e = .returned (.bool (decide (k1 = k2 ∧ xs = ys))) ∧ Below w.heap.size w w' := by
  have H1 : Hid (IntAt w a1 n1 xs) := h1
  have H2 : Hid (IntAt w a2 n2 ys) := h2
  obtain ⟨B, hB⟩ : ∃ B, decide (k1 = k2 ∧ xs = ys) = B := ⟨_, rfl⟩
  rw [hB]
  have HB : Hid (decide (k1 = k2 ∧ xs = ys) = B) := hB
  clear h1 h2 hB
  by_cases hk : k1 = k2
  · subst hk
    go_enter Tryz.func37, Tryz.ntmps37
    go_wp2_with fail
    have hb0 : Below w.heap.size w ((w.alloc (.cells #[.int .i64 k1, .slice a1 n1 c1] 33)).alloc (.cells #[.int .i64 k1, .slice a2 n2 c2] 33)) := ((Below.refl _ w).alloc (Nat.le_refl _) _).alloc (by simp) _
    refine (l4Ints_any a1 a2 n1 n2 c1 c2 xs ys _ (H1.out.below hb0 (Nat.le_refl _)) (H2.out.below hb0 (Nat.le_refl _))).mono ?_
    rintro e w1 ⟨rfl, hb1⟩
    have hb2 := hb0.trans (hb1.mono (by simp; omega))
    clear hb0 hb1
    by_cases hx : xs = ys
    · rw [show decide (xs = ys) = true from decide_eq_true hx]
      have HX : Hid (xs = ys) := hx
      clear hx
      go_wp2
      go_ret
      exact ⟨by rw [← HB.out]; simp [HX.out], hb2⟩
    · rw [show decide (xs = ys) = false from decide_eq_false hx]
      have HX : Hid (¬ xs = ys) := hx
      clear hx
      go_wp2
      go_ret
      exact ⟨by rw [← HB.out]; simp [HX.out], hb2⟩
  · have hk' : (k1 == k2) = false := by simpa using hk
    have HK : Hid (¬ k1 = k2) := hk
    clear hk
    go_enter Tryz.func37, Tryz.ntmps37
    go_wp2
    go_ret
    refine ⟨?_, ((Below.refl _ _).alloc (Nat.le_refl _) _).alloc (by simp) _⟩
    rw [← HB.out]
    simp [HK.out]
def cellsC (L : List (Int × Value)) : List Value := L.flatMap fun r => [.int .i64 r.1, r.2]
theorem cellsC_snoc (L : List (Int × Value)) (k : Int) (v : Value) : cellsC L ++ [.int .i64 k, v] = cellsC (L ++ [(k, v)]) := by simp [cellsC]
abbrev ComAt (w : World) (base : Nat) (v : Value) (L : List (Int × Value)) : Prop := w.ownsRow base 33 2 v L.length (cellsC L)
theorem com_empty {w : World} {base : Nat} (hb : base ≤ w.heap.size) : ComAt (w.alloc (.cells #[] 33)) base (.slice (some ⟨w.heap.size, 0, none⟩) 0 0) [] :=
  ⟨rfl, .inr ⟨w.heap.size, 0, #[], rfl, hb, (by show (w.heap.push _)[w.heap.size]? = _; simp), Nat.le_refl _, by unfold maxLen; omega, rfl, rfl⟩⟩

theorem cell_two_new (w : World) (x y : Value) (t : TypeId) : ∀ (j : Nat) (u : Value), [x, y][j]? = some u → (w.alloc (.cells #[x, y] t)).cell? ((⟨w.heap.size, 0, none⟩ : Addr).add j) = some u := by
  intro j u hj
  rcases j with _ | _ | j
  · simp only [List.getElem?_cons_zero, Option.some.injEq] at hj; subst hj; simp [Addr.add]
  · simp only [List.getElem?_cons_succ, List.getElem?_cons_zero, Option.some.injEq] at hj; subst hj; simp [Addr.add]
  · simp at hj

theorem or_yes (base : Nat) (code : Int) (a : Option Addr) (n c : Nat) (v : Value) (L : List (Int × Value)) (w : World) (h : ComAt w base v L) (hL : L.length ≤ 3) (hb : base ≤ w.heap.size) :
    Calls Tryz.prog 65 #[v, .bool true, .int .i64 code, .slice a n c] w fun e w' => ∃ v', e = .returned v' ∧ ComAt w' base v' (L ++ [(code, .slice a n c)]) ∧ w.grownBy w' v.ownBlock := by
  obtain ⟨i0, hin⟩ : ∃ i, Tryz.prog.info? 33 = some i := ⟨_, rfl⟩
  have hz0 : i0.zero = some (.agg #[.int .i64 0, .slice none 0 0]) := by cases hin; kernel_rfl
  have hz1 : i0.size = 2 := by cases hin; kernel_rfl
  have hz2 : i0.bytes = 32 := by cases hin; kernel_rfl
  go_enter Tryz.func65, Tryz.ntmps65
  go_wp2_with (first
    | (at_builtin; refine wpList_append_own _ rfl _ _ 59 rfl base 33 i0 (.agg #[.int .i64 0, .slice none 0 0]) 2 32 Tryz.underlying59 hin hz0 hz1 hz2 rfl (by decide) _ _ _ rfl (h.alloc _) ⟨w.heap.size, 0, none⟩ 1 1 [.int .i64 code, .slice a n c] rfl rfl (cell_two_new _ _ _ _) (by intro u hu; simp at hu; rcases hu with rfl | rfl <;> rfl) (by unfold maxLen; omega) (by omega) (by simp; omega) ?_; intro v' w' hown' hgrow hnil)
    | go_in)
  go_ret
  rw [cellsC_snoc] at hown'
  refine ⟨_, rfl, ?_, (World.grownBy_alloc w _ _).trans hgrow⟩
  rw [ComAt, List.length_append]
  exact hown'
theorem or_no (code : Int) (a : Option Addr) (n c : Nat) (v : Value) (w : World) :
    Calls Tryz.prog 65 #[v, .bool false, .int .i64 code, .slice a n c] w fun e w' => e = .returned v ∧ w' = w := by
  go_enter Tryz.func65, Tryz.ntmps65
  go_wp2
  go_ret
  exact ⟨rfl, rfl⟩
theorem or_on (base : Nat) (W0 : World) (code : Int) (a : Option Addr) (n c : Nat) (v : Value) (L : List (Int × Value)) (w : World) (h : ComAt w base v L) (hL : L.length ≤ 3) (hbl : Below base W0 w) (hs : base ≤ W0.heap.size) :
    Calls Tryz.prog 65 #[v, .bool true, .int .i64 code, .slice a n c] w fun e w' => ∃ v', e = .returned v' ∧ ComAt w' base v' (L ++ [(code, .slice a n c)]) ∧ w.grownBy w' v.ownBlock ∧ Below base W0 w' := by
  have hs' : base ≤ w.heap.size := Nat.le_trans hs hbl.size
  refine (or_yes base code a n c v L w h hL hs').mono ?_
  rintro e w' ⟨v', rfl, hc, hg⟩
  exact ⟨v', rfl, hc, hg, hbl.grown hg hs' fun j hj => (h.lt j hj).1⟩

def TellsAs (w : World) : List (Int × Value) → List (Int × List Int) → Prop
  | [], [] => True
  | r :: L, q :: LL => (r.1 = q.1 ∧ ∃ a n c, r.2 = .slice a n c ∧ IntAt w a n q.2) ∧ TellsAs w L LL
  | _, _ => False
def ComSays (e : Ending) (w w' : World) (LL : List (Int × List Int)) : Prop :=
  ∃ (v : Value) (L : List (Int × Value)), e = .returned v ∧ ComAt w' w.heap.size v L ∧ TellsAs w' L LL
theorem com_empty_at {w : World} {base g : Nat} (hg : w.heap.size = g) (hb : base ≤ g) : ComAt (w.alloc (.cells #[] 33)) base (.slice (some ⟨g, 0, none⟩) 0 0) [] := by
  subst hg
  exact com_empty hb
theorem com_empty_drew {w : World} {base g : Nat} (hg : w.heap.size = g) (hb : base ≤ g) : ComAt (w.alloc (.cells #[] 33)).drew base (.slice (some ⟨g, 0, none⟩) 0 0) [] := by
  subst hg
  exact com_empty hb
theorem nil_at (w : World) : IntAt w none 0 [] := ⟨rfl, by omega, .inl rfl⟩
theorem none_told (w : World) (k : Int) : (((k, Value.slice none 0 0) : Int × Value).1 = ((k, []) : Int × List Int).1 ∧ ∃ a n c, ((k, Value.slice none 0 0) : Int × Value).2 = .slice a n c ∧ IntAt w a n ((k, []) : Int × List Int).2) := ⟨rfl, none, 0, 0, rfl, nil_at w⟩
theorem tells_1 (w : World) (k : Int) : TellsAs w [(k, .slice none 0 0)] [(k, [])] := ⟨none_told w k, trivial⟩
theorem tells_2 (w : World) (k k' : Int) : TellsAs w [(k, .slice none 0 0), (k', .slice none 0 0)] [(k, []), (k', [])] := ⟨none_told w k, none_told w k', trivial⟩
theorem tells_l {w : World} {a : Option Addr} {n c : Nat} {xs : List Int} (h : IntAt w a n xs) (k : Int) : TellsAs w [(k, .slice a n c)] [(k, xs)] := ⟨⟨rfl, a, n, c, rfl, h⟩, trivial⟩
theorem one_at {w : World} {g : Nat} {x : Int} (h : w.cell? ⟨g, 0, none⟩ = some (.int .i64 x)) : IntAt w (some ⟨g, 0, none⟩) 1 [x] :=
  ⟨rfl, by omega, .inr ⟨g, 0, rfl, fun i hi => by obtain rfl : i = 0 := by omega
                                                  exact h⟩⟩
theorem com_done {w w' : World} {v : Value} {L : List (Int × Value)} {LL : List (Int × List Int)} {B : Nat} (hB : w.heap.size ≤ B) (hc : ComAt w' B v L) (ht : TellsAs w' L LL) : ComSays (.returned v) w w' LL := ⟨v, L, rfl, own_weaken hc hB, ht⟩
theorem com_boxes {w : World} {p o j : Nat} {st n k v x : Int} {T : TypeId} (hc : w.cell? ⟨p, o + j, none⟩ = some (I x)) {W0 w' : World} (hW : W0 = (w.alloc (.cells #[.slice (some ⟨p, o, none⟩) 4 4, .int .i64 st] 26)).alloc (.cells #[.int .i64 n, .int .i64 k, .int .i64 v] T)) (hb : Below (w.heap.size + 1 + 1) W0 w') :
    (w'.cell? ⟨w.heap.size, 0, none⟩ = some (.slice (some ⟨p, o, none⟩) 4 4) ∧ w'.cell? ⟨w.heap.size, 1, none⟩ = some (.int .i64 st) ∧ w'.cell? ⟨w.heap.size + 1, 1, none⟩ = some (.int .i64 k) ∧ w'.cell? ⟨w.heap.size + 1, 2, none⟩ = some (.int .i64 v) ∧ w'.cell? ⟨p, o + j, none⟩ = some (I x)) ∧ Below w.heap.size w w' := by
  have hp : p < w.heap.size := World.block_lt_of_cell? w _ hc
  subst hW
  refine ⟨⟨?_, ?_, ?_, ?_, ?_⟩, (((Below.refl _ w).alloc (Nat.le_refl _) _).alloc (by simp) _).trans (hb.mono (by omega))⟩
  · rw [hb.cell (show w.heap.size < _ by omega)]; simp
  · rw [hb.cell (show w.heap.size < _ by omega)]; simp
  · rw [hb.cell (show w.heap.size + 1 < _ by omega)]; simp
  · rw [hb.cell (show w.heap.size + 1 < _ by omega)]; simp
  · rw [hb.cell (show p < _ by omega), World.cell?_alloc_past _ _ _ (show p < _ by simp; omega), World.cell?_alloc_past _ _ _ (show p < _ from hp), hc]
theorem told_first {W : World} {b : Nat} {x : Int} {ob : Obj} {t : TypeId} (hb : W.heap.size = b) : ((W.alloc (.cells #[I x] t)).alloc ob).cell? ⟨b, 0, none⟩ = some (.int .i64 x) := by
  subst hb
  rw [World.cell?_alloc_past _ _ _ (show W.heap.size < _ by simp)]
  simp
theorem told_second {W : World} {b : Nat} {x : Int} {ob : Obj} {t : TypeId} (hb : W.heap.size = b) : ((W.alloc ob).alloc (.cells #[I x] t)).cell? ⟨b + 1, 0, none⟩ = some (.int .i64 x) := by
  subst hb
  have e : (W.alloc ob).heap.size = W.heap.size + 1 := by simp
  rw [← e]
  simp
theorem told_first_drew {W : World} {b : Nat} {x : Int} {ob : Obj} {t : TypeId} (hb : W.heap.size = b) : ((W.alloc (.cells #[I x] t)).alloc ob).drew.cell? ⟨b, 0, none⟩ = some (.int .i64 x) := told_first hb
theorem told_second_drew {W : World} {b : Nat} {x : Int} {ob : Obj} {t : TypeId} (hb : W.heap.size = b) : ((W.alloc ob).alloc (.cells #[I x] t)).drew.cell? ⟨b + 1, 0, none⟩ = some (.int .i64 x) := told_second hb
theorem far_drew {w w' : World} {row : Option Nat} (h : w.grownBy w' row) : w.grownBy w'.drew row := ⟨h.os, h.tape, h.output, h.size, h.block⟩
theorem far_below {w w' : World} (h : Below w.heap.size w w') (row : Option Nat) : w.grownBy w' row := ⟨h.os, h.tape, h.output, h.size, fun k hk _ => h.block k hk⟩
theorem far_below_of {w0 w w' : World} {row : Option Nat} (h0 : w0.grownBy w row) (h : Below w.heap.size w w') : w0.grownBy w' row := h0.trans (far_below h row)
theorem far_set {w0 w : World} {row : Option Nat} (h : w0.grownBy w row) {a : Addr} (ha : w0.heap.size ≤ a.block) (v : Value) : w0.grownBy (w.setCell a v) row :=
  ⟨h.os, h.tape, h.output, by simpa [World.setCell] using h.size, fun k hk hr => by rw [Below.heap_setCell _ _ _ _ (fun e => by omega)]; exact h.block k hk hr⟩
theorem far_cell {w w' : World} {p g o : Nat} {v : Value} (h : w.grownBy w' (some p)) (hv : w.cell? ⟨g, o, none⟩ = some v) (hg : g ≠ p) : w'.cell? ⟨g, o, none⟩ = some v := h.cell hv (by simpa using hg)
def Grows {α : Type} (J : List α → World → Prop) : Prop := ∀ s W W', J s W → W.grownBy W' none → J s W'

structure Kp (n₀ : Nat) (ts : List TypeId) (A B : World) : Prop where
  low : Below n₀ A B
  keep : ∀ k, k < A.heap.size → (∀ cs t r, A.heap[k]? = some (.cells cs t r) → t ∉ ts) → B.heap[k]? = A.heap[k]?
theorem Kp.of_below {n₀ : Nat} {ts : List TypeId} {A B : World} (h : Below A.heap.size A B) (hn : n₀ ≤ A.heap.size) : Kp n₀ ts A B := ⟨h.mono hn, fun k hk _ => h.block k hk⟩
theorem Kp.trans {n₀ : Nat} {ts : List TypeId} {A B C : World} (h : Kp n₀ ts A B) (k : Kp n₀ ts B C) : Kp n₀ ts A C :=
  ⟨h.low.trans k.low, fun i hi hc => by
    have e := h.keep i hi hc
    exact (k.keep i (Nat.lt_of_lt_of_le hi h.low.size) (fun cs t r h' => hc cs t r (e.symm.trans h'))).trans e⟩
theorem Kp.cells {n₀ : Nat} {ts : List TypeId} {A B : World} (h : Kp n₀ ts A B) {k : Nat} {cs : Array Value} {t : TypeId} {r : Nat × Nat} (hk : A.heap[k]? = some (.cells cs t r)) (ht : t ∉ ts) : B.heap[k]? = some (.cells cs t r) :=
  (h.keep k (Array.getElem?_eq_some_iff.1 hk).1 (fun cs' t' r' h' => by rw [hk] at h'; cases h'; exact ht)).trans hk

structure Kx (ts : List TypeId) (A B : World) : Prop where
  size : A.heap.size ≤ B.heap.size
  keep : ∀ (k : Nat) (cs : Array Value) (t : TypeId) (r : Nat × Nat), A.heap[k]? = some (Obj.cells cs t r) → t ∉ ts → B.heap[k]? = some (Obj.cells cs t r)
theorem Kp.kx {n₀ : Nat} {ts : List TypeId} {A B : World} (h : Kp n₀ ts A B) : Kx ts A B := ⟨h.low.size, fun _ _ _ _ hk ht => h.cells hk ht⟩
theorem Kx.trans {ts : List TypeId} {A B C : World} (h : Kx ts A B) (k : Kx ts B C) : Kx ts A C := ⟨Nat.le_trans h.size k.size, fun i cs t r hk ht => k.keep i cs t r (h.keep i cs t r hk ht) ht⟩

def Rounds {α : Type} (P : Program) (l : Nat) (encs : α → Array Value) (go : α → Bool) (n₀ : Nat) (ts : List TypeId) (J Jx : List α → World → Prop) : Prop :=
  ∀ pre x W, pre.length < 100 → J pre W → YieldAt Fence.wide 3 P l (encs x) W fun e W' => e = .returned (.bool (go x)) ∧ (go x = true → J (pre ++ [x]) W' ∧ Kp n₀ ts W W') ∧ (go x = false → Jx (pre ++ [x]) W' ∧ Kx ts W W')

def SeqGo {α : Type} (P : Program) (g : Nat) (lb : Array Value) (encs : α → Array Value) (go : α → Bool) (n₀ : Nat) (ts : List TypeId) (L : List α) (w : World) : Prop :=
  ∀ (l : Nat) (J Jx : List α → World → Prop) (W : World), Below w.heap.size w W → Grows J → Grows Jx → Rounds P l encs go n₀ ts J Jx → J [] W →
    Calls P g (#[.func (.yield l) #[] #[]] ++ lb) W fun e W' => (∃ v, e = .returned v) ∧
      ((∀ x ∈ L, go x = true) → J L W') ∧ (∀ pre x rest, L = pre ++ x :: rest → (∀ y ∈ pre, go y = true) → go x = false → Jx (pre ++ [x]) W')

theorem wp_rangeFunc_go {α : Type} {P : Program} {g : Operand} {ps : Array Tmp} {assign body : Code} {Q : Exit → Act → World → Prop} {a : Act} {w : World}
    {gf : Nat} {lb : Array Value} (hg : a.eval g = .func (.func gf) #[] lb) (eg : ∀ args w, (callFunc gf args).run P w = .ok (.enter gf args) w)
    {encs : α → Array Value} {go : α → Bool} {n₀ : Nat} {ts : List TypeId} {L : List α} (hseq : SeqGo P gf lb encs go n₀ ts L w) (hn : n₀ ≤ w.heap.size) (hps : ∀ x, (encs x).size = ps.size)
    (I Ix : List α → World → Prop) (hI : OwnFrom w.heap.size I) (hIx : OwnFrom w.heap.size Ix) (h0 : I [] w) (Ax : α → Act → World → Prop) (hAx : ∀ x a', OwnFrom w.heap.size (fun (_ : Unit) W => Ax x a' W))
    (hassign : ∀ (l : Nat) (pre : List α) (x : α) (W : World) (K : Act → World → Prop), w.heap.size + 1 < W.heap.size → pre.length < 100 → I pre W → (∀ a' W', W.grownBy W' none → I pre W' → Ax x a' W' → K a' W') →
      assign.wpIn (Fence.wide.inRound l) 3 P (Exit.then K (fun _ _ _ => False)) { tmps := (ps.zip (encs x)).foldl (fun t (p, v) => t.setIfInBounds p v) a.tmps, defers := [] } W)
    (hbody : ∀ (l : Nat) (pre : List α) (x : α) (a' : Act) (W : World), w.heap.size + 1 < W.heap.size → pre.length < 100 → I pre W → Ax x a' W → body.wpIn (Fence.wide.inRound l) 3 P (fun e _ W' =>
      (W'.heap[w.heap.size]? = W.heap[w.heap.size]? ∧ W'.heap[w.heap.size + 1]? = W.heap[w.heap.size + 1]?) ∧ ((e = .normal ∧ go x = true ∧ Kp n₀ ts W W' ∧ I (pre ++ [x]) W') ∨ (e = .ret ∧ go x = false ∧ Kx ts W W' ∧ Ix (pre ++ [x]) W'))) a' W)
    (hdone : ∀ (W : World), (∀ x ∈ L, go x = true) → I L W → W.heap[w.heap.size]? = some (.deferred (some [])) → Q .normal { a with defers := { target := .collected w.heap.size, args := #[] } :: a.defers } W)
    (hstop : ∀ (pre : List α) (x : α) (rest : List α) (W : World), L = pre ++ x :: rest → (∀ y ∈ pre, go y = true) → go x = false → Ix (pre ++ [x]) W → W.heap[w.heap.size]? = some (.deferred (some [])) → Code.ret.wp P Q { a with defers := { target := .collected w.heap.size, args := #[] } :: a.defers } W) :
    (Code.rangeFunc g ps assign body).wp P Q a w := by
  refine (wpIn_wide (n := 4)).1 (wpIn_rangeFunc ?_)
  intro fn hfn
  -- the loop's record, and the worlds in which it lies
  let R : LoopState → Option Code → Loop := fun st pe => { state := st, pending := pe, fn, tmps := a.tmps, params := ps, assign, body, defers := w.heap.size }
  let W1 := (w.alloc (.deferred (some []))).alloc (.loop (R .ready none))
  have s1 : W1.heap.size = w.heap.size + 1 + 1 := by show ((w.alloc _).alloc _).heap.size = _; simp
  have g1 : w.grownBy W1 none := (World.grownBy_alloc w _ none).trans (World.grownBy_alloc _ _ none)
  have L1 : W1.heap[w.heap.size + 1]? = some (.loop (R .ready none)) := by
    have := World.alloc_heap_new (w.alloc (.deferred (some []))) (.loop (R .ready none)); rwa [World.size_alloc] at this
  have D1 : W1.heap[w.heap.size]? = some (.deferred (some [])) := (Below.heap_alloc _ _ _ (by simp)).trans (World.alloc_heap_new w _)
  have b1 : Below w.heap.size w W1 := (Below.refl _ _).grown g1 (Nat.le_refl _) (fun k e => by cases e)
  refine ⟨w.heap.size + 1, [{ target := .collected w.heap.size, args := #[] }], W1, { target := .fn (.func gf) lb, args := #[.func (.yield (w.heap.size + 1)) #[] #[]] }, W1, gf,
    #[.func (.yield (w.heap.size + 1)) #[] #[]] ++ lb, W1, run_enterLoop_outer _ _ _ _ _, ?_, fun _ _ => trivial, ?_, fun _ => by omega, callsIn_wide.2 ?_⟩
  · simp only [resolve, hg]
    simp [go_sem]
  · simp [invoke, go_sem, eg]
  refine (hseq (w.heap.size + 1)
    (fun pre W => I pre W ∧ W.heap[w.heap.size + 1]? = some (.loop (R .ready none)) ∧ W.heap[w.heap.size]? = some (.deferred (some [])))
    (fun pre W => Ix pre W ∧ W.heap[w.heap.size + 1]? = some (.loop (R .done (some .ret))) ∧ W.heap[w.heap.size]? = some (.deferred (some []))) W1 b1 ?_ ?_ ?_
    ⟨hI _ _ _ _ h0 g1 (fun r e => by cases e), L1, D1⟩).mono ?_
  · intro s A C ⟨h1, h2, h3⟩ hgr
    exact ⟨hI _ _ _ _ h1 hgr (fun r e => by cases e), (hgr.block _ (Array.getElem?_eq_some_iff.1 h2).1 (by simp)).trans h2, (hgr.block _ (Array.getElem?_eq_some_iff.1 h3).1 (by simp)).trans h3⟩
  · intro s A C ⟨h1, h2, h3⟩ hgr
    exact ⟨hIx _ _ _ _ h1 hgr (fun r e => by cases e), (hgr.block _ (Array.getElem?_eq_some_iff.1 h2).1 (by simp)).trans h2, (hgr.block _ (Array.getElem?_eq_some_iff.1 h3).1 (by simp)).trans h3⟩
  · -- a round
    rintro pre x W hlen ⟨i0, l0, d0⟩
    refine ⟨fn, _, assign, body, run_yield (P := P) (args := encs x) l0 (hps x), roundIn_of_wpIn hfn (hassign _ pre x W _ (Array.getElem?_eq_some_iff.1 l0).1 hlen i0 ?_)⟩
    intro a' Wa ga ia ax
    have la := (ga.block _ (Array.getElem?_eq_some_iff.1 l0).1 (by simp)).trans l0
    have da := (ga.block _ (Array.getElem?_eq_some_iff.1 d0).1 (by simp)).trans d0
    have za := (Array.getElem?_eq_some_iff.1 la).1
    refine ⟨_, run_beginRound la rfl, ?_⟩
    let Wb := Wa.putObj (w.heap.size + 1) (.loop { R .ready none with state := .busy })
    have lb' : Wb.heap[w.heap.size + 1]? = some (.loop { R .ready none with state := .busy }) := World.putObj_heap_same za
    have db : Wb.heap[w.heap.size]? = some (.deferred (some [])) := (World.putObj_heap_other (by omega)).trans da
    have ub : Below n₀ Wa Wb := (Below.refl n₀ Wa).grown (grownBy_putObj' Wa _ _) (by omega) (fun k e => by cases e; omega)
    have ua : Below n₀ W Wa := (Below.refl n₀ W).grown ga (by have := (Array.getElem?_eq_some_iff.1 l0).1; omega) (fun k e => by cases e)
    refine wpIn_mono (hbody _ pre x a' Wb (by show w.heap.size + 1 < (Wa.putObj _ _).heap.size; simpa using za) hlen (hI.putObj _ ia (by omega) la rfl) ((hAx x a').putObj (s := ()) _ ax (by omega) la rfl)) ?_
    rintro e a3 W3 ⟨⟨q1, q2⟩, ⟨rfl, hgo, u3, i3⟩ | ⟨rfl, hgo, u3, i3⟩⟩
    · have l3 := q2.trans lb'
      have z3 := (Array.getElem?_eq_some_iff.1 l3).1
      have ud : Below n₀ W3 (W3.putObj (w.heap.size + 1) (.loop { R .ready none with state := .ready, pending := none })) := (Below.refl n₀ W3).grown (grownBy_putObj' W3 _ _) (by omega) (fun k e => by cases e; omega)
      refine ⟨_, _, run_endRound (P := P) none l3, by rw [hgo]; rfl, fun _ => ⟨⟨hI.putObj _ i3 (by omega) l3 rfl, World.putObj_heap_same z3, (World.putObj_heap_other (by omega)).trans (q1.trans db)⟩, ⟨((ua.trans ub).trans u3.low).trans ud, fun k hk hc => ?_⟩⟩, fun h => by rw [hgo] at h; cases h⟩
      by_cases hkl : k = w.heap.size + 1
      · rw [hkl, World.putObj_heap_same z3, l0]; rfl
      · have e1 : Wb.heap[k]? = W.heap[k]? := (World.putObj_heap_other hkl).trans (ga.block k hk (by simp))
        have z : k < Wb.heap.size := by show k < (Wa.putObj _ _).heap.size; rw [World.putObj_size]; exact Nat.lt_of_lt_of_le hk ga.size
        exact (World.putObj_heap_other hkl).trans ((u3.keep k z (fun cs t r h' => hc cs t r (e1.symm.trans h'))).trans e1)
    · have l3 := q2.trans lb'
      have z3 := (Array.getElem?_eq_some_iff.1 l3).1
      refine ⟨_, _, run_endRound (P := P) (some .ret) l3, by rw [hgo]; rfl, (fun h => by rw [hgo] at h; cases h), fun _ => ⟨⟨hIx.putObj _ i3 (by omega) l3 rfl, World.putObj_heap_same z3, (World.putObj_heap_other (by omega)).trans (q1.trans db)⟩, ?_⟩⟩
      refine ⟨Nat.le_trans ua.size (Nat.le_trans ub.size (Nat.le_trans u3.size (by rw [World.putObj_size]; exact Nat.le_refl _))), fun k cs t r hk ht => ?_⟩
      have hkl : k ≠ w.heap.size + 1 := fun e => by rw [e, l0] at hk; cases hk
      have zk := (Array.getElem?_eq_some_iff.1 hk).1
      have e1 : Wb.heap[k]? = some (.cells cs t r) := ((World.putObj_heap_other hkl).trans (ga.block k zk (by simp))).trans hk
      exact (World.putObj_heap_other hkl).trans (u3.keep k cs t r e1 ht)
  · -- behind
    rintro e W2 ⟨⟨v, rfl⟩, hall, hsome⟩
    by_cases hg' : ∀ x ∈ L, go x = true
    · obtain ⟨i2, l2, d2⟩ := hall hg'
      exact ⟨none, _, run_endLoop (P := P) l2 (by simp [R]), hdone _ hg' (hI.putObj _ i2 (by omega) l2 rfl) ((World.putObj_heap_other (by omega)).trans d2)⟩
    · have hsplit : ∃ pre x rest, L = pre ++ x :: rest ∧ (∀ y ∈ pre, go y = true) ∧ go x = false := by
        clear hseq hdone hstop hall hsome
        induction L with
        | nil => exact absurd (fun x hx => by cases hx) hg'
        | cons y t ih =>
          cases hy : go y with
          | false => exact ⟨[], y, t, rfl, (fun z hz => by cases hz), hy⟩
          | true =>
            obtain ⟨pre, x, rest, e1, e2, e3⟩ := ih (fun h => hg' (fun z hz => by
              rcases List.mem_cons.1 hz with rfl | hz
              · exact hy
              · exact h z hz))
            exact ⟨y :: pre, x, rest, by rw [e1]; rfl, (fun z hz => by
              rcases List.mem_cons.1 hz with rfl | hz
              · exact hy
              · exact e2 z hz), e3⟩
      obtain ⟨pre, x, rest, e1, e2, e3⟩ := hsplit
      obtain ⟨i2, l2, d2⟩ := hsome pre x rest e1 e2 e3
      exact ⟨some .ret, _, run_endLoop (P := P) l2 (by simp [R]), wpIn_wide.2 (hstop pre x rest _ e1 e2 e3 (hIx.putObj _ i2 (by omega) l2 rfl) ((World.putObj_heap_other (by omega)).trans d2))⟩
def PairAt (w : World) (a : Option Addr) (n : Nat) (fs : List Int) : Prop :=
  fs.length = n * 2 ∧ n ≤ 1099511627776 ∧ (n = 0 ∨ ∃ b o, a = some ⟨b, o, none⟩ ∧ ∀ i, i < n * 2 → w.cell? ⟨b, o + i, none⟩ = some (I (fs.getD i 0)))
theorem PairAt.below {w w' : World} {a : Option Addr} {n : Nat} {fs : List Int} (h : PairAt w a n fs) {B : Nat} (hb : Below B w w') (hB : w.heap.size ≤ B) : PairAt w' a n fs := by
  obtain ⟨h1, h2, h3 | ⟨b, o, h3, h4⟩⟩ := h
  · exact ⟨h1, h2, .inl h3⟩
  · refine ⟨h1, h2, .inr ⟨b, o, h3, fun i hi => ?_⟩⟩
    have h5 := h4 i hi
    rw [hb.cell (show b < B from Nat.lt_of_lt_of_le (World.block_lt_of_cell? w _ h5) hB)]
    exact h5
theorem own_pairAt {w : World} {base : Nat} {e : TypeId} {g n cap : Nat} {fs : List Int} (h : w.ownsRow base e 2 (.slice (some ⟨g, 0, none⟩) n cap) n (fs.map I)) (hn : n ≤ 1099511627776) : PairAt w (some ⟨g, 0, none⟩) n fs := by
  have hl : fs.length = n * 2 := by have := h.1; simpa using this
  refine ⟨hl, hn, .inr ⟨g, 0, rfl, fun i hi => ?_⟩⟩
  rw [Nat.zero_add, h.cellAt i (by omega), List.getElem?_map, List.getElem?_eq_getElem (by omega)]
  simp [List.getD, show i < fs.length by omega]
def readF (fs : List Int) (at_ : Int) : Nat → Int × Bool
  | 0 => (0, false)
  | k + 1 => if fs.getD (k * 2) 0 = at_ then (fs.getD (k * 2 + 1) 0, true) else readF fs at_ k

theorem specRead_any (a : Option Addr) (n c : Nat) (at_ : Int) (fs : List Int) (w : World) (h : PairAt w a n fs) :
    Calls Tryz.prog 30 #[.slice a n c, .int .i64 at_] w fun e w' => e = .returned (.tuple #[.int .i64 (readF fs at_ n).1, .bool (readF fs at_ n).2]) ∧ Below w.heap.size w w' := by
  have HH : Hid (PairAt w a n fs) := h
  have hn := h.2.1
  clear h
  go_enter Tryz.func30, Tryz.ntmps30
  go_wp2
  go_loopw [6, 7, 8] (fun q b i wr => ∃ k : Nat, k ≤ n ∧ q = .int .i64 (readF fs at_ k).1 ∧ b = .bool (readF fs at_ k).2 ∧ i = .int .i64 k ∧ Below w.heap.size w wr) (fun _ _ i _ => n - (intOf i).toNat)
  case atStart => exact ⟨0, Nat.zero_le _, rfl, rfl, rfl, Below.refl _ _⟩
  case round =>
    obtain ⟨k, hk, rfl, rfl, rfl, hb⟩ := hrel
    obtain ⟨x, hx⟩ : ∃ x, fs.getD (k * 2) 0 = x := ⟨_, rfl⟩
    obtain ⟨y, hy⟩ : ∃ y, fs.getD (k * 2 + 1) 0 = y := ⟨_, rfl⟩
    have HN : Hid (readF fs at_ (k + 1) = if x = at_ then (y, true) else readF fs at_ k) := by rw [← hx, ← hy]; rfl
    obtain ⟨r, hr⟩ : ∃ r, readF fs at_ k = r := ⟨_, rfl⟩
    rw [hr]
    have HR : Hid (readF fs at_ k = r) := hr
    by_cases hlt : k < n
    · have hk0 : (0 : Int) ≤ (k : Int) := by omega
      have hk1 : (k : Int) < (n : Int) := by omega
      rcases (HH.out.below hb (Nat.le_refl _)).2.2 with h0 | ⟨p1, o1, rfl, g1⟩
      · omega
      have e1 := g1 (k * 2) (by omega)
      have e2 := g1 (k * 2 + 1) (by omega)
      rw [hx] at e1
      rw [hy] at e2
      rw [← Nat.add_assoc] at e2
      clear g1 hx hy hr
      by_cases hxa : x = at_
      · have hxb : (x == at_) = true := by simpa using hxa
        have HX : Hid (x = at_) := hxa
        clear hxa
        go_wp2
        refine ⟨⟨k + 1, by omega, ?_, ?_, by go_num, hb⟩, by simp [intOf]; omega⟩
        · rw [HN.out, if_pos HX.out]
        · rw [HN.out, if_pos HX.out]
      · have hxb : (x == at_) = false := by simpa using hxa
        have HX : Hid (¬ x = at_) := hxa
        clear hxa
        go_wp2
        refine ⟨⟨k + 1, by omega, ?_, ?_, by go_num, hb⟩, by simp [intOf]; omega⟩
        · rw [HN.out, if_neg HX.out, HR.out]
        · rw [HN.out, if_neg HX.out, HR.out]
    · obtain rfl : k = n := by omega
      go_wp2
      go_ret2
      exact ⟨by rw [HR.out]; rfl, hb⟩
def nmL : List (Int × Int) := [(1, 0), (1, 1), (1, 2), (1, 3), (2, 1), (2, 2), (2, 3), (2, 4), (2, 5), (2, 6), (3, 0), (3, 1), (3, 2), (4, 0), (5, 1), (5, 2), (5, 3), (5, 4), (5, 5), (5, 6)]
def nmA (k : Nat) : Int := (nmL.getD k (0, 0)).1
def nmB (k : Nat) : Int := (nmL.getD k (0, 0)).2
def nmCells : Array Value := (nmL.flatMap fun p => [Value.int .i64 p.1, .int .i64 p.2]).toArray
def Names (w : World) : Prop := w.var? Tryz.prog "loop.example/g00468/impl.wordNames" = some nmCells

theorem gNames : Tryz.prog.globalNamed "loop.example/g00468/impl.wordNames" = some 0 := by kernel_rfl
theorem gNamesType : (Tryz.prog.globals[0]?).map (·.type) = some 135 := by kernel_rfl

theorem Names.block {w : World} (h : Names w) : ∃ t fr, w.heap[0]? = some (.cells nmCells t fr) := by
  unfold Names at h
  simp only [World.var?, gNames, Option.bind_some] at h
  split at h
  · rename_i c t fr hb
    simp only [Option.some.injEq] at h
    subst h
    exact ⟨t, fr, hb⟩
  · cases h
theorem Names.lt {w : World} (h : Names w) : 0 < w.heap.size := by
  obtain ⟨t, fr, h1⟩ := h.block
  exact (Array.getElem?_eq_some_iff.1 h1).1
theorem Names.below {w w' : World} {B : Nat} (h : Names w) (hb : Below B w w') (hB : 0 < B) : Names w' :=
  var?_below hb gNames hB h

theorem index_names (k : Nat) (hk : k < 20) (w : World) : (Instr.index 135 (.agg nmCells) (.int .i64 (k : Int))).run Tryz.prog w = .ok (.agg #[.int .i64 (nmA k), .int .i64 (nmB k)]) w := by
  have h : k = 0 ∨ k = 1 ∨ k = 2 ∨ k = 3 ∨ k = 4 ∨ k = 5 ∨ k = 6 ∨ k = 7 ∨ k = 8 ∨ k = 9 ∨ k = 10 ∨ k = 11 ∨ k = 12 ∨ k = 13 ∨ k = 14 ∨ k = 15 ∨ k = 16 ∨ k = 17 ∨ k = 18 ∨ k = 19 := by omega
  rcases h with rfl | rfl | rfl | rfl | rfl | rfl | rfl | rfl | rfl | rfl | rfl | rfl | rfl | rfl | rfl | rfl | rfl | rfl | rfl | rfl <;> (show _ = _; kernel_rfl)

def placeN (a b : Int) : Int :=
  if a = 1 ∧ 0 ≤ b ∧ b ≤ 3 then b else if a = 2 ∧ 1 ≤ b ∧ b ≤ 6 then b + 3 else if a = 3 ∧ 0 ≤ b ∧ b ≤ 2 then b + 10 else if a = 4 ∧ b = 0 then 13 else if a = 5 ∧ 1 ≤ b ∧ b ≤ 6 then b + 13 else -1

theorem place_at (k : Nat) (hk : k < 20) : placeN (nmA k) (nmB k) = k := by
  have h : k = 0 ∨ k = 1 ∨ k = 2 ∨ k = 3 ∨ k = 4 ∨ k = 5 ∨ k = 6 ∨ k = 7 ∨ k = 8 ∨ k = 9 ∨ k = 10 ∨ k = 11 ∨ k = 12 ∨ k = 13 ∨ k = 14 ∨ k = 15 ∨ k = 16 ∨ k = 17 ∨ k = 18 ∨ k = 19 := by omega
  rcases h with rfl | rfl | rfl | rfl | rfl | rfl | rfl | rfl | rfl | rfl | rfl | rfl | rfl | rfl | rfl | rfl | rfl | rfl | rfl | rfl <;> (show _ = _; kernel_rfl)
theorem place_none (a b : Int) (h : ∀ k : Nat, k < 20 → ¬ (nmA k = a ∧ nmB k = b)) : placeN a b = -1 := by
  have e1 : ¬ (a = 1 ∧ 0 ≤ b ∧ b ≤ 3) := by
    rintro ⟨rfl, h0, h1⟩
    have h2 : b = 0 ∨ b = 1 ∨ b = 2 ∨ b = 3 := by omega
    rcases h2 with rfl | rfl | rfl | rfl
    · exact h 0 (by omega) ⟨rfl, rfl⟩
    · exact h 1 (by omega) ⟨rfl, rfl⟩
    · exact h 2 (by omega) ⟨rfl, rfl⟩
    · exact h 3 (by omega) ⟨rfl, rfl⟩
  have e2 : ¬ (a = 2 ∧ 1 ≤ b ∧ b ≤ 6) := by
    rintro ⟨rfl, h0, h1⟩
    have h2 : b = 1 ∨ b = 2 ∨ b = 3 ∨ b = 4 ∨ b = 5 ∨ b = 6 := by omega
    rcases h2 with rfl | rfl | rfl | rfl | rfl | rfl
    · exact h 4 (by omega) ⟨rfl, rfl⟩
    · exact h 5 (by omega) ⟨rfl, rfl⟩
    · exact h 6 (by omega) ⟨rfl, rfl⟩
    · exact h 7 (by omega) ⟨rfl, rfl⟩
    · exact h 8 (by omega) ⟨rfl, rfl⟩
    · exact h 9 (by omega) ⟨rfl, rfl⟩
  have e3 : ¬ (a = 3 ∧ 0 ≤ b ∧ b ≤ 2) := by
    rintro ⟨rfl, h0, h1⟩
    have h2 : b = 0 ∨ b = 1 ∨ b = 2 := by omega
    rcases h2 with rfl | rfl | rfl
    · exact h 10 (by omega) ⟨rfl, rfl⟩
    · exact h 11 (by omega) ⟨rfl, rfl⟩
    · exact h 12 (by omega) ⟨rfl, rfl⟩
  have e4 : ¬ (a = 4 ∧ b = 0) := by
    rintro ⟨rfl, rfl⟩
    exact h 13 (by omega) ⟨rfl, rfl⟩
  have e5 : ¬ (a = 5 ∧ 1 ≤ b ∧ b ≤ 6) := by
    rintro ⟨rfl, h0, h1⟩
    have h2 : b = 1 ∨ b = 2 ∨ b = 3 ∨ b = 4 ∨ b = 5 ∨ b = 6 := by omega
    rcases h2 with rfl | rfl | rfl | rfl | rfl | rfl
    · exact h 14 (by omega) ⟨rfl, rfl⟩
    · exact h 15 (by omega) ⟨rfl, rfl⟩
    · exact h 16 (by omega) ⟨rfl, rfl⟩
    · exact h 17 (by omega) ⟨rfl, rfl⟩
    · exact h 18 (by omega) ⟨rfl, rfl⟩
    · exact h 19 (by omega) ⟨rfl, rfl⟩
  unfold placeN
  rw [if_neg e1, if_neg e2, if_neg e3, if_neg e4, if_neg e5]

theorem info_int : (Tryz.prog.info? 3).map (fun i => (i.zero, i.size, i.bytes)) = some (some (.int .i64 0), 1, 8) := by kernel_rfl
theorem cells_int : Tryz.prog.cellsOf 3 = 1 := by kernel_rfl
theorem part0 (x y : Int) (w : World) : (part 3 #[.int .i64 x, .int .i64 y] 0).run Tryz.prog w = .ok (.int .i64 x) w := by kernel_rfl
theorem part1 (x y : Int) (w : World) : (part 3 #[.int .i64 x, .int .i64 y] 1).run Tryz.prog w = .ok (.int .i64 y) w := by kernel_rfl
theorem eq_names (x y a b : Int) (w : World) : (binOp .eql 117 (.agg #[.int .i64 x, .int .i64 y]) (.agg #[.int .i64 a, .int .i64 b])).run Tryz.prog w = .ok (.bool (decide (x = a ∧ y = b))) w := by
  obtain ⟨i0, hi, hz0, hz1, hz2⟩ := info_parts info_int
  rw [run_eql_struct, run_equalIn_array w 9999 _ _ Tryz.underlying117 hi, cells_int, show List.range 2 = [0, 1] from rfl]
  simp only [Op.eqItems, Sem.run_bind, Nat.zero_mul, Nat.one_mul, part0, Result.andThen_ok, run_equalIn_int w 9998 3 .i64 .i64 _ _ Tryz.underlying3]
  by_cases h0 : x = a <;> by_cases h1 : y = b <;> simp [h0, h1, part1, run_equalIn_int w 9998 3 .i64 .i64 _ _ Tryz.underlying3]

theorem placeOf_any (a b : Int) (w : World) (hN : Names w) :
    Calls Tryz.prog 87 #[.agg #[.int .i64 a, .int .i64 b]] w fun e w' => e = .returned (.int .i64 (placeN a b)) ∧ Below w.heap.size w w' := by
  have hlt := hN.lt
  obtain ⟨tn, fr, hbl⟩ := (hN.below ((Below.refl _ w).alloc (Nat.le_refl _) (.cells #[.int .i64 a, .int .i64 b] 117)) hN.lt).block
  have hsz : nmCells.size = 40 := by decide +kernel
  have hix := index_names
  clear hN
  obtain ⟨C, hC⟩ : ∃ C, C = nmCells := ⟨_, rfl⟩
  rw [← hC] at hbl hsz hix
  have HC : Hid (C = nmCells) := hC
  have HB : Hid (_) := hbl
  have HS : Hid (_) := hsz
  clear hC hbl hsz
  go_enter Tryz.func87, Tryz.ntmps87
  iterate 15 (first | go_values | go_skip | go_guarded | go_step | go_upon)
  refine wpList_load_row rfl 135 (.global 0) rfl 0 ?q1 tn C fr _ HB.out Tryz.underlying135 rfl ?q3 ?_
  case q1 => rfl
  case q3 => rw [HS.out]; kernel_rfl
  go_wp2
  go_loopw [6] (fun i wr => ∃ k : Nat, i = .int .i64 (k : Int) ∧ k ≤ 20 ∧ (∀ j, j < k → ¬ (nmA j = a ∧ nmB j = b)) ∧ Below w.heap.size w wr ∧ wr.heap[w.heap.size]? = some (.cells #[.int .i64 a, .int .i64 b] 117 (0, 0))) (fun i _ => 20 - (intOf i).toNat)
  case atStart =>
    exact ⟨0, rfl, by omega, fun j hj => by omega, (Below.refl _ w).alloc (Nat.le_refl _) _, heap_alloc_new _ _⟩
  case round =>
    obtain ⟨k, rfl, hk, hno, hb, hnm⟩ := hrel
    have HNO : Hid (_) := hno
    have hB : w.heap.size < wr.heap.size := (Array.getElem?_eq_some_iff.1 hnm).1
    have c0 : wr.cell? ⟨w.heap.size, 0, none⟩ = some (.int .i64 a) := by rw [cell_of_row _ _ 0 _ _ _ hnm]; rfl
    have c1 : wr.cell? ⟨w.heap.size, 1, none⟩ = some (.int .i64 b) := by rw [cell_of_row _ _ 1 _ _ _ hnm]; rfl
    have HNM : Hid (_) := hnm
    clear hno hnm
    by_cases hlt : k < 20
    · obtain ⟨x, hx⟩ : ∃ x, x = nmA k := ⟨_, rfl⟩
      obtain ⟨y, hy⟩ : ∃ y, y = nmB k := ⟨_, rfl⟩
      have hi1 := hix k hlt
      rw [← hx, ← hy] at hi1
      have HX : Hid (_) := hx
      have HY : Hid (_) := hy
      clear hx hy hix
      have hq := eq_names x y a b
      by_cases he : x = a ∧ y = b
      · obtain ⟨rfl, rfl⟩ := he
        go_wp2
        go_ret
        exact ⟨by rw [HX.out, HY.out, place_at k hlt]; rfl, hb.alloc (Nat.le_of_lt hB) _⟩
      · go_wp2
        go_roundw
        case rel =>
          refine ⟨k + 1, by go_num, by omega, fun j hj => ?_, hb.alloc (Nat.le_of_lt hB) _, (Below.heap_alloc _ _ _ hB).trans HNM.out⟩
          by_cases hjk : j = k
          · subst hjk; rw [← HX.out, ← HY.out]; exact he
          · exact HNO.out j (by omega)
        case measure => simp [intOf]; omega
    · obtain rfl : k = 20 := by omega
      go_wp2
      go_ret
      exact ⟨by rw [place_none a b HNO.out]; rfl, hb⟩
def classN (v : Int) : Int := if 1 ≤ v ∧ v ≤ 6 then v % 3 else -1

theorem specClassOf_any (k : Int) (w : World) :
    Calls Tryz.prog 80 #[.int .i64 k] w fun e w' => e = .returned (.int .i64 (classN k)) ∧ w' = w := by
  by_cases h : 1 ≤ k ∧ k ≤ 6
  · have h2 : k = 1 ∨ k = 2 ∨ k = 3 ∨ k = 4 ∨ k = 5 ∨ k = 6 := by omega
    clear h
    rcases h2 with rfl | rfl | rfl | rfl | rfl | rfl <;> (go_enter Tryz.func80, Tryz.ntmps80; go_wp2; go_ret; exact ⟨rfl, rfl⟩)
  · rw [show classN k = -1 from if_neg h]
    by_cases h0 : 1 ≤ k
    · have h1 : ¬ k ≤ 6 := by omega
      clear h
      go_enter Tryz.func80, Tryz.ntmps80
      go_wp2
      go_ret
      exact ⟨rfl, rfl⟩
    · clear h
      go_enter Tryz.func80, Tryz.ntmps80
      go_wp2
      go_ret
      exact ⟨rfl, rfl⟩

theorem implClassOf_any (k : Int) (w : World) :
    Calls Tryz.prog 49 #[.int .i64 k] w fun e w' => e = .returned (.int .i64 (classN k)) ∧ w' = w := by
  by_cases h : 1 ≤ k ∧ k ≤ 6
  · have h2 : k = 1 ∨ k = 2 ∨ k = 3 ∨ k = 4 ∨ k = 5 ∨ k = 6 := by omega
    clear h
    rcases h2 with rfl | rfl | rfl | rfl | rfl | rfl <;> (go_enter Tryz.func49, Tryz.ntmps49; go_wp2; go_ret; exact ⟨rfl, rfl⟩)
  · rw [show classN k = -1 from if_neg h]
    by_cases h0 : 1 ≤ k
    · have h1 : ¬ k ≤ 6 := by omega
      clear h
      go_enter Tryz.func49, Tryz.ntmps49
      go_wp2
      go_ret
      exact ⟨rfl, rfl⟩
    · clear h
      go_enter Tryz.func49, Tryz.ntmps49
      go_wp2
      go_ret
      exact ⟨rfl, rfl⟩
end
abbrev Work := Int × Bool
def knowM (fs : List Int) (n : Nat) (s : Work) (at_ : Int) : Work × Int :=
  if s.2 = true then (s, 0) else if (readF fs at_ n).2 = false ∨ at_ < 0 then ((at_, true), 0) else (s, (readF fs at_ n).1)
def ifM (s : Work) (b : Prop) [Decidable b] : Work := (s.1, s.2 || decide b)
def viaM (fs : List Int) (n : Nat) (s : Work) (k : Int) (vals : List Int) : Work :=
  let r := knowM fs n s 13
  if k + 1 < r.2 then vals.foldl (fun s v => (knowM fs n s (placeN 5 v)).1) r.1 else r.1
def putM (fs : List Int) (n : Nat) (k v : Int) : Work :=
  let a := knowM fs n (-1, false) (placeN 1 k)
  let b := knowM fs n (ifM a.1 (a.2 ≠ 0)) (placeN 2 v)
  let c := knowM fs n (ifM b.1 (b.2 ≠ 0)) (placeN 3 (classN v))
  viaM fs n c.1 k [v]
def setM (fs : List Int) (n : Nat) (k v : Int) : Work :=
  let a := knowM fs n (-1, false) (placeN 1 k)
  let b := knowM fs n (ifM a.1 (a.2 = 0 ∨ a.2 = v)) (placeN 2 v)
  let c := knowM fs n (ifM b.1 (b.2 ≠ 0)) (placeN 2 a.2)
  let d := if classN a.2 = classN v then c.1 else (knowM fs n (knowM fs n c.1 (placeN 3 (classN a.2))).1 (placeN 3 (classN v))).1
  viaM fs n d k [a.2, v]
def delM (fs : List Int) (n : Nat) (k : Int) : Work :=
  let a := knowM fs n (-1, false) (placeN 1 k)
  let b := knowM fs n (ifM a.1 (a.2 = 0)) (placeN 2 a.2)
  let c := knowM fs n b.1 (placeN 3 (classN a.2))
  viaM fs n c.1 k [a.2]
def makeM (fs : List Int) (n : Nat) : Work :=
  let a := knowM fs n (-1, false) 13
  let b := knowM fs n (ifM a.1 (¬ (1 ≤ a.2 ∧ a.2 ≤ 4))) (placeN 1 (a.2 - 1))
  if b.2 = 0 then b.1 else (knowM fs n b.1 (placeN 5 b.2)).1
def allM (fs : List Int) (n : Nat) (kind k v : Int) : Work :=
  if kind = 1 then putM fs n k v else if kind = 2 then setM fs n k v else if kind = 3 then delM fs n k
  else if kind = 4 then (knowM fs n (-1, false) (placeN 1 k)).1 else if kind = 5 then (knowM fs n (-1, false) (placeN 2 v)).1 else if kind = 6 then (knowM fs n (-1, false) (placeN 3 k)).1
  else if kind = 7 then (knowM fs n (knowM fs n (knowM fs n (knowM fs n (-1, false) (placeN 1 0)).1 (placeN 1 1)).1 (placeN 1 2)).1 (placeN 1 3)).1
  else if kind = 8 then (knowM fs n (-1, false) 13).1 else if kind = 9 then makeM fs n
  else (let a := knowM fs n (-1, false) 13; (knowM fs n (ifM a.1 (a.2 ≠ 5)) (placeN 5 v)).1)
def nextM (fs : List Int) (n : Nat) (kind k v : Int) : Int := if OpGood kind k v then (allM fs n kind k v).1 else -1
theorem knowM_stop {fs : List Int} {n : Nat} {s : Work} (h : s.2 = true) (at_ : Int) : knowM fs n s at_ = (s, 0) := by unfold knowM; rw [if_pos h]
section
open Go.ChangeShapes Go.WideShapes Go.ChangeAt Go.RowKit
abbrev Ent := Int × Int × Int
def rd (fs : List Int) (n : Nat) (at_ : Int) : Int := if at_ < 0 then 0 else (readF fs at_ n).1
inductive Stp where
  | tell (at_ old new : Int)
  | ask (b : Bool)
def wordsT (wh : Bool) : List Stp → List Ent
  | [] => []
  | .tell p o v :: t => if 0 ≤ p then (p, o, v) :: wordsT wh t else if wh = true then wordsT wh t else []
  | .ask b :: t => if b = true then wordsT wh t else []
def Fin (wh : Bool) (go : Ent → Bool) (n₀ : Nat) (ts : List TypeId) (J Jx : List Ent → World → Prop) (W : World) : List Stp → List Ent → Bool → World → Prop
  | [], pre, b, W' => b = true ∧ J pre W' ∧ Kp n₀ ts W W'
  | .tell p o v :: t, pre, b, W' => if 0 ≤ p then (if go (p, o, v) = true then Fin wh go n₀ ts J Jx W t (pre ++ [(p, o, v)]) b W' else b = false ∧ Jx (pre ++ [(p, o, v)]) W' ∧ Kx ts W W')
      else if wh = true then Fin wh go n₀ ts J Jx W t pre b W' else b = false ∧ J pre W' ∧ Kp n₀ ts W W'
  | .ask c :: t, pre, b, W' => if c = true then Fin wh go n₀ ts J Jx W t pre b W' else b = false ∧ J pre W' ∧ Kp n₀ ts W W'
section
variable {wh : Bool} {go : Ent → Bool} {n₀ : Nat} {ts : List TypeId} {J Jx : List Ent → World → Prop}
theorem Fin.kp {W W1 W' : World} (hk : Kp n₀ ts W W1) : ∀ {st : List Stp} {pre : List Ent} {b : Bool}, Fin wh go n₀ ts J Jx W1 st pre b W' → Fin wh go n₀ ts J Jx W st pre b W'
  | [], _, _, ⟨h1, h2, h3⟩ => ⟨h1, h2, hk.trans h3⟩
  | .tell p o v :: t, pre, b, h => by
    unfold Fin at h ⊢
    by_cases hp : 0 ≤ p
    · rw [if_pos hp] at h ⊢
      by_cases hg : go (p, o, v) = true
      · rw [if_pos hg] at h ⊢; exact Fin.kp hk h
      · rw [if_neg hg] at h ⊢; exact ⟨h.1, h.2.1, hk.kx.trans h.2.2⟩
    · rw [if_neg hp] at h ⊢
      by_cases hw : wh = true
      · rw [if_pos hw] at h ⊢; exact Fin.kp hk h
      · rw [if_neg hw] at h ⊢; exact ⟨h.1, h.2.1, hk.trans h.2.2⟩
  | .ask c :: t, pre, b, h => by
    unfold Fin at h ⊢
    by_cases hp : c = true
    · rw [if_pos hp] at h ⊢; exact Fin.kp hk h
    · rw [if_neg hp] at h ⊢; exact ⟨h.1, h.2.1, hk.trans h.2.2⟩
theorem fin_all {W W' : World} : ∀ {st : List Stp} {pre : List Ent} {b : Bool}, Fin wh go n₀ ts J Jx W st pre b W' → (∀ x ∈ wordsT wh st, go x = true) → J (pre ++ wordsT wh st) W'
  | [], pre, _, ⟨_, h2, _⟩, _ => by simpa [wordsT] using h2
  | .tell p o v :: t, pre, b, h, ha => by
    unfold Fin at h
    unfold wordsT at ha ⊢
    by_cases hp : 0 ≤ p
    · rw [if_pos hp] at h ha ⊢
      rw [if_pos (ha _ (List.mem_cons_self ..))] at h
      have := fin_all h (fun x hx => ha x (List.mem_cons_of_mem _ hx))
      simpa using this
    · rw [if_neg hp] at h ha ⊢
      by_cases hw : wh = true
      · rw [if_pos hw] at h ha ⊢; exact fin_all h ha
      · rw [if_neg hw] at h ha ⊢; simpa using h.2.1
  | .ask c :: t, pre, b, h, ha => by
    unfold Fin at h
    unfold wordsT at ha ⊢
    by_cases hp : c = true
    · rw [if_pos hp] at h ha ⊢; exact fin_all h ha
    · rw [if_neg hp] at h ha ⊢; simpa using h.2.1
theorem fin_some {W W' : World} {x : Ent} {rest : List Ent} (hx : go x = false) : ∀ {st : List Stp} {pre q : List Ent} {b : Bool}, Fin wh go n₀ ts J Jx W st pre b W' → wordsT wh st = q ++ x :: rest → (∀ y ∈ q, go y = true) → Jx (pre ++ (q ++ [x])) W'
  | [], pre, q, _, _, e, _ => by simp [wordsT] at e
  | .tell p o v :: t, pre, q, b, h, e, hq => by
    unfold Fin at h
    unfold wordsT at e
    by_cases hp : 0 ≤ p
    · rw [if_pos hp] at h e
      cases q with
      | nil =>
        simp only [List.nil_append, List.cons.injEq] at e
        rw [e.1, if_neg (by rw [hx]; simp)] at h
        exact h.2.1
      | cons y q =>
        simp only [List.cons_append, List.cons.injEq] at e
        rw [e.1, if_pos (hq _ (List.mem_cons_self ..))] at h
        have := fin_some hx h e.2 (fun z hz => hq z (List.mem_cons_of_mem _ hz))
        simpa using this
    · rw [if_neg hp] at h e
      by_cases hw : wh = true
      · rw [if_pos hw] at h e; exact fin_some hx h e hq
      · rw [if_neg hw] at e; simp at e
  | .ask c :: t, pre, q, b, h, e, hq => by
    unfold Fin at h
    unfold wordsT at e
    by_cases hp : c = true
    · rw [if_pos hp] at h e; exact fin_some hx h e hq
    · rw [if_neg hp] at e; simp at e
theorem Fin.kx {W W' : World} : ∀ {st : List Stp} {pre : List Ent} {b : Bool}, Fin wh go n₀ ts J Jx W st pre b W' → Kx ts W W'
  | [], _, _, ⟨_, _, h3⟩ => h3.kx
  | .tell p o v :: t, pre, b, h => by
    unfold Fin at h
    by_cases hp : 0 ≤ p
    · rw [if_pos hp] at h
      by_cases hg : go (p, o, v) = true
      · rw [if_pos hg] at h; exact Fin.kx h
      · rw [if_neg hg] at h; exact h.2.2
    · rw [if_neg hp] at h
      by_cases hw : wh = true
      · rw [if_pos hw] at h; exact Fin.kx h
      · rw [if_neg hw] at h; exact h.2.2.kx
  | .ask c :: t, pre, b, h => by
    unfold Fin at h
    by_cases hp : c = true
    · rw [if_pos hp] at h; exact Fin.kx h
    · rw [if_neg hp] at h; exact h.2.2.kx
theorem Fin.askYes {W W' : World} {c : Bool} {pre : List Ent} {t : List Stp} {b : Bool} (hc : c = true) (h : Fin wh go n₀ ts J Jx W t pre b W') : Fin wh go n₀ ts J Jx W (.ask c :: t) pre b W' := by
  unfold Fin
  rw [if_pos hc]; exact h
theorem Fin.askNo {W W' : World} {c : Bool} {pre : List Ent} {t : List Stp} (hc : c = false) (hj : J pre W') (hk : Kp n₀ ts W W') : Fin wh go n₀ ts J Jx W (.ask c :: t) pre false W' := by
  unfold Fin
  rw [if_neg (by rw [hc]; simp)]; exact ⟨rfl, hj, hk⟩
theorem Fin.passed {W W' : World} : ∀ {A : List Stp} {pre : List Ent}, Fin wh go n₀ ts J Jx W A pre true W' →
    J (pre ++ wordsT wh A) W' ∧ Kp n₀ ts W W' ∧ ∀ (B : List Stp) (b : Bool) (W'' : World), Fin wh go n₀ ts J Jx W B (pre ++ wordsT wh A) b W'' → Fin wh go n₀ ts J Jx W (A ++ B) pre b W''
  | [], pre, ⟨_, h2, h3⟩ => ⟨by simpa [wordsT] using h2, h3, fun B b W'' h => by simpa [wordsT] using h⟩
  | .tell p o v :: t, pre, h => by
    unfold Fin at h
    by_cases hp : 0 ≤ p
    · rw [if_pos hp] at h
      by_cases hg : go (p, o, v) = true
      · rw [if_pos hg] at h
        obtain ⟨h1, h2, h3⟩ := Fin.passed h
        have e : pre ++ wordsT wh (.tell p o v :: t) = (pre ++ [(p, o, v)]) ++ wordsT wh t := by
          rw [show wordsT wh (.tell p o v :: t) = (p, o, v) :: wordsT wh t by rw [wordsT, if_pos hp]]; simp
        rw [e]
        refine ⟨h1, h2, fun B b W'' h' => ?_⟩
        show Fin wh go n₀ ts J Jx W (.tell p o v :: (t ++ B)) pre b W''
        unfold Fin
        rw [if_pos hp, if_pos hg]
        exact h3 B b W'' h'
      · rw [if_neg hg] at h; exact absurd h.1 (by simp)
    · rw [if_neg hp] at h
      by_cases hw : wh = true
      · rw [if_pos hw] at h
        obtain ⟨h1, h2, h3⟩ := Fin.passed h
        have e : wordsT wh (.tell p o v :: t) = wordsT wh t := by rw [wordsT, if_neg hp, if_pos hw]
        rw [e]
        refine ⟨h1, h2, fun B b W'' h' => ?_⟩
        show Fin wh go n₀ ts J Jx W (.tell p o v :: (t ++ B)) pre b W''
        unfold Fin
        rw [if_neg hp, if_pos hw]
        exact h3 B b W'' h'
      · rw [if_neg hw] at h; exact absurd h.1 (by simp)
  | .ask c :: t, pre, h => by
    unfold Fin at h
    by_cases hp : c = true
    · rw [if_pos hp] at h
      obtain ⟨h1, h2, h3⟩ := Fin.passed h
      have e : wordsT wh (.ask c :: t) = wordsT wh t := by rw [wordsT, if_pos hp]
      rw [e]
      exact ⟨h1, h2, fun B b W'' h' => Fin.askYes hp (h3 B b W'' h')⟩
    · rw [if_neg hp] at h; exact absurd h.1 (by simp)
theorem Fin.stepped {W W' : World} {s : Stp} {pre : List Ent} (h : Fin wh go n₀ ts J Jx W [s] pre true W') :
    J (pre ++ wordsT wh [s]) W' ∧ Kp n₀ ts W W' ∧ ∀ (t : List Stp) (b : Bool) (W'' : World), Fin wh go n₀ ts J Jx W t (pre ++ wordsT wh [s]) b W'' → Fin wh go n₀ ts J Jx W (s :: t) pre b W'' :=
  ⟨(Fin.passed h).1, (Fin.passed h).2.1, fun t b W'' h' => (Fin.passed h).2.2 t b W'' h'⟩
theorem Fin.noL {W W' : World} : ∀ {A : List Stp} {pre : List Ent} (_ : Fin wh go n₀ ts J Jx W A pre false W') (B : List Stp), Fin wh go n₀ ts J Jx W (A ++ B) pre false W'
  | [], _, h, _ => absurd h.1 (by simp)
  | .tell p o v :: t, pre, h, B => by
    unfold Fin at h
    show Fin wh go n₀ ts J Jx W (.tell p o v :: (t ++ B)) pre false W'
    unfold Fin
    by_cases hp : 0 ≤ p
    · rw [if_pos hp] at h ⊢
      by_cases hg : go (p, o, v) = true
      · rw [if_pos hg] at h ⊢; exact Fin.noL h B
      · rw [if_neg hg] at h ⊢; exact h
    · rw [if_neg hp] at h ⊢
      by_cases hw : wh = true
      · rw [if_pos hw] at h ⊢; exact Fin.noL h B
      · rw [if_neg hw] at h ⊢; exact h
  | .ask c :: t, pre, h, B => by
    unfold Fin at h
    show Fin wh go n₀ ts J Jx W (.ask c :: (t ++ B)) pre false W'
    unfold Fin
    by_cases hp : c = true
    · rw [if_pos hp] at h ⊢; exact Fin.noL h B
    · rw [if_neg hp] at h ⊢; exact h
theorem Fin.no {W W' : World} {s : Stp} {pre : List Ent} (h : Fin wh go n₀ ts J Jx W [s] pre false W') (t : List Stp) : Fin wh go n₀ ts J Jx W (s :: t) pre false W' := Fin.noL h t
end

theorem wordsT_len (wh : Bool) : ∀ st : List Stp, (wordsT wh st).length ≤ st.length
  | [] => Nat.le_refl _
  | .tell p o v :: t => by
    have h := wordsT_len wh t
    unfold wordsT
    repeat' split
    all_goals simp only [List.length_cons, List.length_nil]
    all_goals omega
  | .ask b :: t => by
    have h := wordsT_len wh t
    unfold wordsT
    repeat' split
    all_goals simp only [List.length_cons, List.length_nil]
    all_goals omega
theorem len1 {wh : Bool} {pre : List Ent} {s : Stp} {m : Nat} (h : pre.length ≤ m) : (pre ++ wordsT wh [s]).length ≤ m + 1 := by
  have h1 := wordsT_len wh [s]
  simp only [List.length_append, List.length_cons, List.length_nil] at h1 ⊢; omega
theorem lenA {wh : Bool} {pre : List Ent} {A : List Stp} {m a : Nat} (ha : A.length ≤ a) (h : pre.length ≤ m) : (pre ++ wordsT wh A).length ≤ m + a := by
  have h1 := wordsT_len wh A
  simp only [List.length_append] at h1 ⊢; omega
theorem lenLt {pre : List Ent} {m : Nat} (h : pre.length ≤ m) (hm : m < 100) : pre.length < 100 := Nat.lt_of_le_of_lt h hm
def stayS (fs : List Int) (n : Nat) (p : Int) : Stp := .tell p (rd fs n p) (rd fs n p)
def growS (fs : List Int) (n : Nat) (p : Int) : Stp := .tell p (rd fs n p) (wrap64 (rd fs n p + 1))
def shrinkS (fs : List Int) (n : Nat) (p : Int) : Stp := .tell p (rd fs n p) (wrap64 ((if rd fs n p < 1 then 1 else rd fs n p) - 1))
def becS (fs : List Int) (n : Nat) (p v : Int) : Stp := .tell p (rd fs n p) v
def putS (wh : Bool) (fs : List Int) (n : Nat) (k v : Int) : List Stp :=
  [becS fs n (placeN 1 k) v, .ask (decide (rd fs n (placeN 1 k) = 0)), becS fs n (placeN 2 v) (k + 1), .ask (decide (rd fs n (placeN 2 v) = 0)), growS fs n (placeN 3 (classN v)), stayS fs n 13, .ask (wh || decide (k + 1 < rd fs n 13)), becS fs n (placeN 5 v) (k + 1)]
def moveS (fs : List Int) (n : Nat) (x y : Int) : List Stp := if x = y then [] else [shrinkS fs n (placeN 3 x), growS fs n (placeN 3 y)]
def setS (wh : Bool) (fs : List Int) (n : Nat) (k v : Int) : List Stp :=
  let h := rd fs n (placeN 1 k)
  [becS fs n (placeN 1 k) v, .ask (decide (h ≠ 0)), .ask (decide (h ≠ v)), becS fs n (placeN 2 v) (k + 1), .ask (decide (rd fs n (placeN 2 v) = 0)), becS fs n (placeN 2 h) 0] ++ moveS fs n (classN h) (classN v) ++
    [stayS fs n 13, .ask (wh || decide (k + 1 < rd fs n 13)), becS fs n (placeN 5 h) 0, becS fs n (placeN 5 v) (k + 1)]
def delS (wh : Bool) (fs : List Int) (n : Nat) (k : Int) : List Stp :=
  let h := rd fs n (placeN 1 k)
  [becS fs n (placeN 1 k) 0, becS fs n (placeN 2 h) 0, shrinkS fs n (placeN 3 (classN h)), stayS fs n 13, .ask (wh || decide (k + 1 < rd fs n 13)), becS fs n (placeN 5 h) 0]
def scanS (fs : List Int) (n : Nat) : List Stp := [stayS fs n (placeN 1 0), stayS fs n (placeN 1 1), stayS fs n (placeN 1 2), stayS fs n (placeN 1 3)]
def makeS (fs : List Int) (n : Nat) : List Stp :=
  let k := wrap64 (rd fs n 13 - 1)
  [growS fs n 13, stayS fs n (placeN 1 k), becS fs n (placeN 5 (rd fs n (placeN 1 k))) (wrap64 (k + 1))]
def viaS (fs : List Int) (n : Nat) (v : Int) : List Stp := [stayS fs n 13, .ask (decide (rd fs n 13 = 5)), stayS fs n (placeN 5 v)]
def stepsT (wh : Bool) (fs : List Int) (n : Nat) (kind k v : Int) : List Stp :=
  if kind = 1 then putS wh fs n k v else if kind = 2 then setS wh fs n k v else if kind = 3 then delS wh fs n k else if kind = 4 then [stayS fs n (placeN 1 k)] else if kind = 5 then [stayS fs n (placeN 2 v)]
  else if kind = 6 then [stayS fs n (placeN 3 k)] else if kind = 7 then scanS fs n else if kind = 8 then [growS fs n 13] else if kind = 9 then makeS fs n else viaS fs n v
theorem move_len (fs : List Int) (n : Nat) (x y : Int) : (moveS fs n x y).length ≤ 2 := by
  unfold moveS
  split <;> simp
end
section
open Go.ChangeShapes Go.WideShapes Go.ChangeAt Go.RowKit Go.Shelf
attribute [local go_sem] Oper.semAt_some

def backTo (fs : List Int) (n k : Nat) : List (Nat × Int × Int) := (List.range k).map (fun t => (n - 1 - t, fs.getD ((n - 1 - t) * 2) 0, fs.getD ((n - 1 - t) * 2 + 1) 0))
theorem backTo_succ (fs : List Int) (n k : Nat) : backTo fs n (k + 1) = backTo fs n k ++ [(n - 1 - k, fs.getD ((n - 1 - k) * 2) 0, fs.getD ((n - 1 - k) * 2 + 1) 0)] := by simp [backTo, List.range_succ]
theorem backTo_length (fs : List Int) (n k : Nat) : (backTo fs n k).length = k := by simp [backTo]
theorem back_none {fs : List Int} {n : Nat} {at_ : Int} : ∀ {k : Nat}, k ≤ n → (∀ x ∈ backTo fs n k, x.2.1 ≠ at_) → readF fs at_ n = readF fs at_ (n - k)
  | 0, _, _ => rfl
  | k + 1, hk, h => by
    rw [backTo_succ] at h
    have e := h _ (List.mem_append.2 (.inr (List.mem_singleton.2 rfl)))
    rw [back_none (Nat.le_of_succ_le hk) (fun x hx => h x (List.mem_append.2 (.inl hx)))]
    rw [show n - k = n - 1 - k + 1 by omega, show n - (k + 1) = n - 1 - k by omega]
    show (if _ then _ else _) = _
    rw [if_neg e]
theorem back_some {fs : List Int} {n : Nat} {at_ : Int} {k : Nat} {pre : List (Nat × Int × Int)} {x : Nat × Int × Int} (hk : k ≤ n) (e : pre ++ [x] = backTo fs n k) (h : ∀ y ∈ pre, y.2.1 ≠ at_) (hx : x.2.1 = at_) : readF fs at_ n = (x.2.2, true) := by
  cases k with
  | zero => simp [backTo] at e
  | succ k =>
    rw [backTo_succ] at e
    obtain ⟨e1, e2⟩ := List.append_inj' e rfl
    obtain rfl := (List.cons.inj e2).1
    rw [back_none (Nat.le_of_succ_le hk) (e1 ▸ h)]
    rw [show n - k = n - 1 - k + 1 by omega]
    show (if _ then _ else _) = _
    rw [if_pos hx]

theorem back1_in (F : Fence) (m : Nat) (hf : F.fn 111) (hro : F.round = none) (hm : 1 ≤ m) (l Bs n₀ n c : Nat) (a : Option Addr) (fs : List Int) (J Jx : List (Nat × Int × Int) → World → Prop)
    (hY : ∀ pre x W, J pre W → pre.length < n → YieldAt F (m - 1) Tryz.prog l #[.int .i64 (x.1 : Int), .agg #[.int .i64 x.2.1, .int .i64 x.2.2]] W fun e W' =>
      (e = .returned (.bool true) ∧ J (pre ++ [x]) W' ∧ Below n₀ W W') ∨ (e = .returned (.bool false) ∧ Jx (pre ++ [x]) W'))
    (W : World) (hBs : Bs < n₀) (hs : W.cell? ⟨Bs, 0, none⟩ = some (.slice a n c)) (hp : PairAt W a n fs) (hn₀ : ∀ q, a = some q → 0 < n → q.block < n₀) (h0 : J [] W) :
    CallsIn F m Tryz.prog 111 #[.func (.yield l) #[] #[], .pointer (some ⟨Bs, 0, none⟩)] W fun e W' => (∃ v, e = .returned v) ∧
      ((∃ ys, ys = backTo fs n n ∧ J ys W') ∨ (∃ pre, (∃ k, k ≤ n ∧ pre = backTo fs n k) ∧ Jx pre W')) := by
  have hn := hp.2.1
  have HP : Hid (PairAt W a n fs) := hp
  have HN : Hid (∀ q, a = some q → 0 < n → q.block < n₀) := hn₀
  clear hp hn₀
  refine callsIn_of_wp Tryz.func111 rfl hf ?_ hro
  simp only [Tryz.ntmps111, List.size_toArray, List.length_cons, List.length_nil, Nat.reduceAdd, Nat.reduceSub, Array.replicate_succ, Array.replicate_zero, List.push_toArray, List.append_toArray, List.nil_append, List.cons_append]
  gi_wp2
  gi_loopw [3] (fun i wr => ∃ k : Nat, k ≤ n ∧ i = .int .i64 ((n : Int) - 1 - (k : Int)) ∧ J (backTo fs n k) wr ∧ Below n₀ W wr)
    (fun i _ => (intOf i + 1).toNat)
  case atStart => exact ⟨0, Nat.zero_le _, by go_num, h0, Below.refl _ _⟩
  case round =>
    obtain ⟨k, hk, rfl, hJs, hnx⟩ := hrel
    have hs' := (hnx.cell (p := ⟨Bs, 0, none⟩) hBs).trans hs
    by_cases hlt : k < n
    · rcases HP.out.2.2 with h0' | ⟨b, o, rfl, g1⟩
      · omega
      have hb := HN.out _ rfl (by omega)
      have e1 := (hnx.cell (p := ⟨b, o + (n - 1 - k) * 2, none⟩) hb).trans (g1 ((n - 1 - k) * 2) (by omega))
      have e2 := (hnx.cell (p := ⟨b, o + ((n - 1 - k) * 2 + 1), none⟩) hb).trans (g1 ((n - 1 - k) * 2 + 1) (by omega))
      obtain ⟨fn, tmps, assign, body, hy, hR⟩ := hY _ (n - 1 - k, fs.getD ((n - 1 - k) * 2) 0, fs.getD ((n - 1 - k) * 2 + 1) 0) wr hJs (by rw [backTo_length]; exact hlt)
      dsimp only at hy
      have hJ2 := backTo_succ fs n k
      obtain ⟨i, hi⟩ : ∃ i, n - 1 - k = i := ⟨_, rfl⟩
      obtain ⟨x, hx⟩ : ∃ x, fs.getD ((n - 1 - k) * 2) 0 = x := ⟨_, rfl⟩
      obtain ⟨y, hy'⟩ : ∃ y, fs.getD ((n - 1 - k) * 2 + 1) 0 = y := ⟨_, rfl⟩
      rw [hx, hy'] at hJ2 hR
      rw [hx] at hy e1
      rw [hy'] at hy e2
      unfold I at e1 e2
      clear hx hy'
      have hi' : (n : Int) - 1 - (k : Int) = (i : Int) := by omega
      rw [hi] at hy e1 e2
      rw [hi']
      rw [← Nat.add_assoc] at e2
      clear g1
      have HJ2 : Hid (backTo fs n (k + 1) = backTo fs n k ++ [(n - 1 - k, x, y)]) := hJ2
      clear hJ2
      gi_wp2
      refine hR.mono ?_
      rintro e W3 (⟨rfl, hJ3, hk3⟩ | ⟨rfl, hJx3⟩)
      · gi_wp2
        go_roundw
        case rel => exact ⟨k + 1, by omega, by go_num, by rw [HJ2.out]; exact hJ3, hnx.trans hk3⟩
        case measure => (simp [intOf]) <;> omega
      · gi_wp2
        refine bodyPost_ret (results_none rfl _ _ _) rfl ?_
        exact ⟨⟨_, rfl⟩, .inr ⟨_, ⟨k + 1, by omega, HJ2.out.symm⟩, hJx3⟩⟩
    · obtain rfl : k = n := by omega
      have hz : ¬ (0 ≤ (k : Int) - 1 - (k : Int)) := by omega
      gi_wp2
      go_end0
      first | exact ⟨⟨_, rfl⟩, .inl ⟨_, rfl, hJs⟩⟩ | exact ⟨⟨_, rfl⟩, .inl hJs⟩

theorem back_in (F : Fence) (m : Nat) (hf : F.fn 89) (hro : F.round = none) (a : Option Addr) (n c : Nat) (w : World) :
    CallsIn F m Tryz.prog 89 #[.slice a n c] w fun e w' => e = .returned (.func (.func 111) #[] #[.pointer (some ⟨w.heap.size, 0, none⟩)]) ∧ w' = w.alloc (.cells #[.slice a n c] 29) := by
  refine callsIn_of_wp Tryz.func89 rfl hf ?_ hro
  simp only [Tryz.ntmps89, List.size_toArray, List.length_cons, List.length_nil, Nat.reduceAdd, Nat.reduceSub, Array.replicate_succ, Array.replicate_zero, List.push_toArray, List.append_toArray, List.nil_append, List.cons_append]
  gi_wp2
  go_ret
  exact ⟨rfl, rfl⟩

theorem back_stops (F : Fence) (m : Nat) (hf : F.fn 111) (hro : F.round = none) (hm : 1 ≤ m) (Bs n₀ n c : Nat) (a : Option Addr) (fs : List Int) (w : World) (hBs : Bs < n₀) (hn₀ : n₀ ≤ w.heap.size)
    (hc : w.cell? ⟨Bs, 0, none⟩ = some (.slice a n c)) (hp : PairAt w a n fs) (hb : ∀ q, a = some q → 0 < n → q.block < n₀) :
    SeqStopsK F m Tryz.prog 111 #[.pointer (some ⟨Bs, 0, none⟩)] (fun x : Nat × Int × Int => #[Value.int .i64 (x.1 : Int), .agg #[.int .i64 x.2.1, .int .i64 x.2.2]]) (Below n₀) (fun ys => ys = backTo fs n n) (fun pre => ∃ k, k ≤ n ∧ pre = backTo fs n k) n w := fun l J Jx W hW _ _ hY h0 =>
  back1_in F m hf hro hm l Bs n₀ n c a fs J Jx hY W hBs ((hW.cell (p := ⟨Bs, 0, none⟩) (Nat.lt_of_lt_of_le hBs hn₀)).trans hc) (hp.below hW (Nat.le_refl _)) hb h0

theorem PairAt.lt {w : World} {a : Option Addr} {n : Nat} {fs : List Int} (h : PairAt w a n fs) : ∀ q, a = some q → 0 < n → q.block < w.heap.size := fun q e hn => by
  rcases h.2.2 with h0 | ⟨b, o, rfl, g⟩
  · omega
  · cases e; exact World.block_lt_of_cell? w _ (g 0 (by omega))

def Box2 (W : World) (B : Nat) (t : TypeId) (x y : Int) : Prop := W.heap[B]? = some (.cells #[.int .i64 x, .int .i64 y] t (0, 0))
theorem Box2.lt {W : World} {B : Nat} {t : TypeId} {x y : Int} (h : Box2 W B t x y) : B < W.heap.size := (Array.getElem?_eq_some_iff.1 h).1
theorem Box2.kept {W W' : World} {row : Option Nat} {B : Nat} {t : TypeId} {x y : Int} (h : Box2 W B t x y) (hg : W.grownBy W' row) (hne : some B ≠ row) : Box2 W' B t x y := (hg.block B h.lt hne).trans h
theorem Box2.fst {W : World} {B : Nat} {t : TypeId} {x y : Int} (h : Box2 W B t x y) : W.cell? ⟨B, 0, none⟩ = some (.int .i64 x) := by simp [World.cell?, show W.heap[B]? = _ from h]
theorem Box2.snd {W : World} {B : Nat} {t : TypeId} {x y : Int} (h : Box2 W B t x y) : W.cell? ⟨B, 1, none⟩ = some (.int .i64 y) := by simp [World.cell?, show W.heap[B]? = _ from h]
theorem box2_own {β : Type} (B : Nat) (t : TypeId) (x y : Int) : Own (fun (_ : β) W => Box2 W B t x y) := fun s X Y row hs hg hrow =>
  hs.kept hg (fun e' => by obtain ⟨o, ho, hc⟩ := hrow B e'.symm; rw [show X.heap[B]? = _ from hs] at ho; cases ho; cases hc)

theorem implRead_any (a : Option Addr) (n c : Nat) (at_ : Int) (fs : List Int) (w : World) (h : PairAt w a n fs) :
    Calls Tryz.prog 53 #[.slice a n c, .int .i64 at_] w fun e w' => e = .returned (.tuple #[.int .i64 (readF fs at_ n).1, .bool (readF fs at_ n).2]) ∧ Below w.heap.size w w' := by
  have HP : Hid (PairAt w a n fs) := h
  have HL : Hid (∀ q, a = some q → 0 < n → q.block < w.heap.size) := h.lt
  clear h
  refine (callsIn_wide (n := 3)).1 ?_
  have hro : Fence.wide.round = none := rfl
  refine callsIn_of_wp_marks Tryz.func53 rfl trivial ?_ hro
  simp only [Tryz.ntmps53, List.size_toArray, List.length_cons, List.length_nil, Nat.reduceAdd, Nat.reduceSub, Array.replicate_succ, Array.replicate_zero, List.push_toArray, List.append_toArray, List.nil_append, List.cons_append]
  gi_wp2_with (refine ⟨trivial, ?_⟩; gi_at_call 89; refine (back_in Fence.wide _ trivial hro _ _ _ _).mono ?_; rintro e w' ⟨rfl, rfl⟩)
  obtain ⟨W0, hW0⟩ : ∃ W0, (((w.alloc (.cells #[.int .i64 at_] 3)).alloc (.cells #[.int .i64 0] 3)).alloc (.cells #[.bool false] 4)).alloc (.cells #[.slice a n c] 29) = W0 := ⟨_, rfl⟩
  have hs0 : W0.heap.size = w.heap.size + 4 := by rw [← hW0]; simp
  have hBW : Below w.heap.size w W0 := by rw [← hW0]; exact ((((Below.refl _ w).alloc (Nat.le_refl _) _).alloc (by simp) _).alloc (by simp; omega) _).alloc (by simp; omega) _
  have b0 : Boxed W0 w.heap.size 3 (.int .i64 at_) := by rw [← hW0]; exact (((Boxed.new w _ _).alloc _).alloc _).alloc _
  have b1 : Boxed W0 (w.heap.size + 1) 3 (.int .i64 0) := by
    rw [← hW0]; have := Boxed.new (w.alloc (.cells #[.int .i64 at_] 3)) 3 (.int .i64 0); rw [World.size_alloc] at this; exact (this.alloc _).alloc _
  have b2 : Boxed W0 (w.heap.size + 1 + 1) 4 (.bool false) := by
    rw [← hW0]; have := Boxed.new ((w.alloc (.cells #[.int .i64 at_] 3)).alloc (.cells #[.int .i64 0] 3)) 4 (.bool false); rw [World.size_alloc, World.size_alloc] at this; exact this.alloc _
  have b3 : Boxed W0 (w.heap.size + 1 + 1 + 1) 29 (.slice a n c) := by
    rw [← hW0]; have := Boxed.new (((w.alloc (.cells #[.int .i64 at_] 3)).alloc (.cells #[.int .i64 0] 3)).alloc (.cells #[.bool false] 4)) 29 (.slice a n c); rw [World.size_alloc, World.size_alloc, World.size_alloc] at this; exact this
  rw [hW0]
  clear hW0
  refine wpIn_rangeFunc_ownH hro (by omega) (gf := 111) (lb := #[.pointer (some ⟨w.heap.size + 1 + 1 + 1, 0, none⟩)]) rfl trivial (enters_of Tryz.func111 (by kernel_rfl) rfl)
    (back_stops Fence.wide _ trivial hro (by omega) (w.heap.size + 1 + 1 + 1) W0.heap.size n c a fs W0 (by omega) (Nat.le_refl _) b3.cell (HP.out.below hBW (Nat.le_refl _)) (fun q e hn => by have := HL.out q e hn; omega)) belowK_t (belowK_b (Nat.le_refl _)) (Below.refl _ _) (fun _ => rfl)
    (fun pre W => ((∀ x ∈ pre, x.2.1 ≠ at_) ∧ Boxed W w.heap.size 3 (.int .i64 at_) ∧ Boxed W (w.heap.size + 1) 3 (.int .i64 0) ∧ Boxed W (w.heap.size + 1 + 1) 4 (.bool false) ∧ Boxed W (w.heap.size + 1 + 1 + 1) 29 (.slice a n c)) ∧ Below w.heap.size w W)
    (fun c pre W => (c = .ret ∧ ∃ pre' x, pre = pre' ++ [x] ∧ (∀ y ∈ pre', y.2.1 ≠ at_) ∧ x.2.1 = at_ ∧ Boxed W (w.heap.size + 1) 3 (.int .i64 x.2.2) ∧ Boxed W (w.heap.size + 1 + 1) 4 (.bool true)) ∧ Below w.heap.size w W)
    (OwnFrom.and (Own.from (fun s A B row hs hg hr => ⟨hs.1, boxed_own _ _ (fun _ => _) () A B row hs.2.1 hg hr, boxed_own _ _ (fun _ => _) () A B row hs.2.2.1 hg hr, boxed_own _ _ (fun _ => _) () A B row hs.2.2.2.1 hg hr, boxed_own _ _ (fun _ => _) () A B row hs.2.2.2.2 hg hr⟩) _) (ownFrom_below (Nat.le_refl _) (by omega)))
    (fun c => OwnFrom.and (Own.from (fun s A B row ⟨h1, p', x, h2, h3, h4, h5, h6⟩ hg hr => ⟨h1, p', x, h2, h3, h4, boxed_own _ _ (fun _ => _) () A B row h5 hg hr, boxed_own _ _ (fun _ => _) () A B row h6 hg hr⟩) _) (ownFrom_below (Nat.le_refl _) (by omega)))
    ⟨⟨by simp, b0, b1, b2, b3⟩, hBW⟩
    (fun x a' W => ∃ Bx, w.heap.size + 1 + 1 < Bx ∧ Box2 W Bx 49 x.2.1 x.2.2 ∧ a' = { tmps := #[.slice a n c, .int .i64 at_, undef, .pointer (some ⟨w.heap.size, 0, none⟩), .pointer (some ⟨w.heap.size + 1, 0, none⟩), .pointer (some ⟨w.heap.size + 1 + 1, 0, none⟩), undef, .pointer (some ⟨Bx, 0, none⟩), .slice a n c, .func (.func 111) #[] #[.pointer (some ⟨w.heap.size + 1 + 1 + 1, 0, none⟩)], .int .i64 (x.1 : Int), .agg #[.int .i64 x.2.1, .int .i64 x.2.2], undef, undef, undef, undef, undef, undef], defers := [] })
    (fun x a' => Own.from (fun s A B row ⟨Bx, h1, h2, h3⟩ hg hr => ⟨Bx, h1, box2_own _ _ _ _ () A B row h2 hg hr, h3⟩) _) ?assign ?body ?done ?stop
  case assign =>
    rintro l pre x W K ⟨⟨hp, c0, c1, c2, c3⟩, hB⟩ hK
    gi_wp2
    exact hK _ _ ((KeepsOthers.alloc _ _).from _) ((Below.refl _ W).grown (World.grownBy_alloc W _ none) (by have := c3.lt; omega) (fun k e => by cases e)) ⟨⟨hp, c0.alloc _, c1.alloc _, c2.alloc _, c3.alloc _⟩, hB.alloc hB.size _⟩ ⟨W.heap.size, c2.lt, World.alloc_heap_new W _, rfl⟩
  case body =>
    rintro l pre x a' W hl ⟨r, hr⟩ ⟨⟨hp, c0, c1, c2, c3⟩, hB⟩ ⟨Bx, hBx, bX, rfl⟩ hlt
    have e0 := c0.cell
    have e1 := c1.cell
    have e2 := c2.cell
    have f1 := c1.frozen
    have f2 := c2.frozen
    have x1 := bX.fst
    have x2 := bX.snd
    by_cases hx : x.2.1 = at_
    · have hxb : (x.2.1 == at_) = true := by simpa using hx
      gi_wp2
      exact ⟨((KeepsOthers.setCell _ _ _).trans (KeepsOthers.setCell _ _ _)).from _, ⟨rfl, pre, x, rfl, hp, hx, (c1.set _).other (by omega) _, (c2.other (by omega) _).set _⟩,
        (hB.setCell (p := ⟨w.heap.size + 1, 0, none⟩) (by simp) _).setCell (p := ⟨w.heap.size + 1 + 1, 0, none⟩) (by simp; omega) _⟩
    · have hxb : (x.2.1 == at_) = false := by simpa using hx
      gi_wp2
      exact ⟨(KeepsOthers.refl _).from _, Below.refl _ _, ⟨fun y hy => (List.mem_append.1 hy).elim (hp y) (fun e => (List.mem_singleton.1 e) ▸ hx), c0, c1, c2, c3⟩, hB⟩
  case done =>
    rintro D xs W hD rfl ⟨⟨hp, c0, c1, c2, c3⟩, hB⟩ hK
    have e1 := c1.cell
    have e2 := c2.cell
    have f1 := c1.frozen
    have f2 := c2.frozen
    gi_wp2
    have hK' := ((KeepsOthers.setCell W ⟨w.heap.size + 1, 0, none⟩ (.int .i64 0)).trans (KeepsOthers.setCell _ ⟨w.heap.size + 1 + 1, 0, none⟩ (.bool false))).same D _ hK rfl
    have g1 : Boxed _ (w.heap.size + 1) 3 (.int .i64 0) := (c1.set (.int .i64 0)).other (B' := w.heap.size + 1 + 1) (by omega) (.bool false)
    have g2 : Boxed _ (w.heap.size + 1 + 1) 4 (.bool false) := (c2.other (B' := w.heap.size + 1) (by omega) (.int .i64 0)).set (.bool false)
    refine ⟨by simp, .inl ⟨_, _, rfl, run_takeDeferred hK', ?_⟩⟩
    have i1 := cell_kept g1.cell (grownBy_putObj' _ D (.deferred none)) (fun r e => by cases e; exact ⟨_, hK', rfl⟩)
    have i2 := cell_kept g2.cell (grownBy_putObj' _ D (.deferred none)) (fun r e => by cases e; exact ⟨_, hK', rfl⟩)
    have hz : readF fs at_ n = (0, false) := by rw [back_none (Nat.le_refl _) hp, Nat.sub_self]; rfl
    refine ⟨.tuple #[.int .i64 0, .bool false], ?_, by rw [hz], ((hB.setCell (p := ⟨w.heap.size + 1, 0, none⟩) (by simp) _).setCell (p := ⟨w.heap.size + 1 + 1, 0, none⟩) (by simp; omega) _).trans (belowK_b (w := w) (Nat.le_refl _) _ D _ _ (by omega) hK' rfl rfl)⟩
    simp [results, Tryz.f53, go_sem, i1, i2]
  case stop =>
    rintro D c pre W hD ⟨k, hk, rfl⟩ ⟨⟨rfl, pre', x, h2, h3, h4, h5, h6⟩, hB⟩ hK
    gi_wp2
    refine ⟨by simp, .inl ⟨_, _, rfl, run_takeDeferred hK, ?_⟩⟩
    have i1 := cell_kept h5.cell (grownBy_putObj' _ D (.deferred none)) (fun r e => by cases e; exact ⟨_, hK, rfl⟩)
    have i2 := cell_kept h6.cell (grownBy_putObj' _ D (.deferred none)) (fun r e => by cases e; exact ⟨_, hK, rfl⟩)
    refine ⟨.tuple #[.int .i64 x.2.2, .bool true], ?_, by rw [back_some hk h2.symm h3 h4], hB.trans (belowK_b (w := w) (Nat.le_refl _) _ D _ _ (by omega) hK rfl rfl)⟩
    simp [results, Tryz.f53, go_sem, i1, i2]
end
section
open Go.ChangeShapes Go.WideShapes Go.ChangeAt Go.RowKit
theorem specRowAt_any (k : Int) (w : World) :
    Calls Tryz.prog 33 #[.int .i64 k] w fun e w' => e = .returned (.int .i64 (placeN 1 k)) ∧ w' = w := by
  by_cases h : 0 ≤ k ∧ k ≤ 3
  · have hp : placeN 1 k = k := by unfold placeN; repeat' split <;> omega
    rw [hp]
    clear hp
    obtain ⟨h0, h1⟩ := h
    go_enter Tryz.func33, Tryz.ntmps33
    go_wp2
    go_ret
    exact ⟨rfl, rfl⟩
  · have hp : placeN 1 k = -1 := by unfold placeN; repeat' split <;> omega
    rw [hp]
    clear hp
    by_cases h0 : 0 ≤ k
    · have h1 : ¬ k ≤ 3 := by omega
      clear h
      go_enter Tryz.func33, Tryz.ntmps33
      go_wp2
      go_ret
      exact ⟨rfl, rfl⟩
    · have h1 : k < 0 := by omega
      clear h h0
      go_enter Tryz.func33, Tryz.ntmps33
      go_wp2
      go_ret
      exact ⟨rfl, rfl⟩

theorem implRowAt_any (k : Int) (w : World) (hN : Names w) :
    Calls Tryz.prog 46 #[.int .i64 k] w fun e w' => e = .returned (.int .i64 (placeN 1 k)) ∧ Below w.heap.size w w' := by
  go_enter Tryz.func46, Tryz.ntmps46
  go_wp2_with (go_at_call 87; refine (placeOf_any 1 k _ hN).mono ?_; rintro e w1 ⟨rfl, hb⟩)
  go_ret
  exact ⟨rfl, hb⟩
theorem specOwnerAt_any (k : Int) (w : World) :
    Calls Tryz.prog 61 #[.int .i64 k] w fun e w' => e = .returned (.int .i64 (placeN 2 k)) ∧ w' = w := by
  by_cases h : 1 ≤ k ∧ k ≤ 6
  · have hp : placeN 2 k = 3 + k := by unfold placeN; repeat' split <;> omega
    rw [hp]
    clear hp
    obtain ⟨h0, h1⟩ := h
    go_enter Tryz.func61, Tryz.ntmps61
    go_wp2
    go_ret
    exact ⟨rfl, rfl⟩
  · have hp : placeN 2 k = -1 := by unfold placeN; repeat' split <;> omega
    rw [hp]
    clear hp
    by_cases h0 : 1 ≤ k
    · have h1 : ¬ k ≤ 6 := by omega
      clear h
      go_enter Tryz.func61, Tryz.ntmps61
      go_wp2
      go_ret
      exact ⟨rfl, rfl⟩
    · have h1 : k < 1 := by omega
      clear h h0
      go_enter Tryz.func61, Tryz.ntmps61
      go_wp2
      go_ret
      exact ⟨rfl, rfl⟩

theorem implOwnerAt_any (k : Int) (w : World) (hN : Names w) :
    Calls Tryz.prog 47 #[.int .i64 k] w fun e w' => e = .returned (.int .i64 (placeN 2 k)) ∧ Below w.heap.size w w' := by
  go_enter Tryz.func47, Tryz.ntmps47
  go_wp2_with (go_at_call 87; refine (placeOf_any 2 k _ hN).mono ?_; rintro e w1 ⟨rfl, hb⟩)
  go_ret
  exact ⟨rfl, hb⟩
theorem specStateAt_any (w : World) :
    Calls Tryz.prog 31 #[] w fun e w' => e = .returned (.int .i64 13) ∧ w' = w := by
  go_enter Tryz.func31, Tryz.ntmps31
  go_wp2
  go_ret
  exact ⟨rfl, rfl⟩

theorem implStateAt_any (w : World) (hN : Names w) :
    Calls Tryz.prog 45 #[] w fun e w' => e = .returned (.int .i64 13) ∧ Below w.heap.size w w' := by
  go_enter Tryz.func45, Tryz.ntmps45
  go_wp2_with (go_at_call 87; refine (placeOf_any 4 0 _ hN).mono ?_; rintro e w1 ⟨rfl, hb⟩)
  go_ret
  exact ⟨rfl, hb⟩
end
end Go.Proofs.YtenlapppaimkkabGreatDoor
