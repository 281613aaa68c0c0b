/- Texts joined: Comings, ImplCom1. -/
import Derived.Test.YtbfolanfbagofaaGreatDoorQA01
import Derived.Test.YtbfolanfbagofaaGreatDoorQA07
import Derived.Handy
import Derived.Maps.AppendAt
import Derived.OwnWalk
import Derived.Test.YtbfolanfbagofaaGreatDoorQA21
import Derived.Test.YtbfolanfbagofaaGreatDoorQA05
import Derived.Deep.RegionHeld3
set_option maxHeartbeats 1000000
set_option maxRecDepth 100000
namespace Go.Proofs.YtbfolanfbagofaaGreatDoor
section
open Go.ChangeShapes Go.WideShapes Go.ChangeAt Go.RowKit
def cellsC (L : List (Int × Value)) : List Value := L.flatMap fun r => [.int .i64 r.1, r.2]
theorem cellsC_snoc (L : List (Int × Value)) (k : Int) (v : Value) : cellsC L ++ [.int .i64 k, v] = cellsC (L ++ [(k, v)]) := by simp [cellsC]
abbrev ComAt (w : World) (base : Nat) (v : Value) (L : List (Int × Value)) : Prop := w.ownsRow base 82 2 v L.length (cellsC L)
theorem com_empty {w : World} {base : Nat} (hb : base ≤ w.heap.size) : ComAt (w.alloc (.cells #[] 82)) base (.slice (some ⟨w.heap.size, 0, none⟩) 0 0) [] :=
 ⟨rfl, .inr ⟨w.heap.size, 0, #[], rfl, hb, (by show (w.heap.push _)[w.heap.size]? = _; simp), Nat.le_refl _, by unfold maxLen; omega, rfl, rfl⟩⟩
theorem cell_two_new (w : World) (x y : Value) (t : TypeId) : ∀ (j : Nat) (u : Value), [x, y][j]? = some u → (w.alloc (.cells #[x, y] t)).cell? ((⟨w.heap.size, 0, none⟩ : Addr).add j) = some u := by
 intro j u hj
 rcases j with _ | _ | j
 · simp only [List.getElem?_cons_zero, Option.some.injEq] at hj; subst hj; simp [Addr.add]
 · simp only [List.getElem?_cons_succ, List.getElem?_cons_zero, Option.some.injEq] at hj; subst hj; simp [Addr.add]
 · simp at hj
theorem or_yes (base : Nat) (code : Int) (a : Option Addr) (n c : Nat) (v : Value) (L : List (Int × Value)) (w : World) (h : ComAt w base v L) (hL : L.length ≤ 3) (hb : base ≤ w.heap.size) :
   Calls Tryz.prog 164 #[v, .bool true, .int .i64 code, .slice a n c] w fun e w' => ∃ v', e = .returned v' ∧ ComAt w' base v' (L ++ [(code, .slice a n c)]) ∧ w.grownBy w' v.ownBlock := by
 obtain ⟨i0, hin⟩ : ∃ i, Tryz.prog.info? 82 = some i := ⟨_, rfl⟩
 have hz0 : i0.zero = some (.agg #[.int .i64 0, .slice none 0 0]) := by cases hin; kernel_rfl
 have hz1 : i0.size = 2 := by cases hin; kernel_rfl
 have hz2 : i0.bytes = 32 := by cases hin; kernel_rfl
 go_enter Tryz.func164, Tryz.ntmps164
 go_wp2_with (first
   | (at_builtin; refine wpList_append_own _ rfl _ _ 179 rfl base 82 i0 (.agg #[.int .i64 0, .slice none 0 0]) 2 32 Tryz.underlying179 hin hz0 hz1 hz2 rfl (by decide) _ _ _ rfl (h.alloc _) ⟨w.heap.size, 0, none⟩ 1 1 [.int .i64 code, .slice a n c] rfl rfl (cell_two_new _ _ _ _) (by intro u hu; simp at hu; rcases hu with rfl | rfl <;> rfl) (by unfold maxLen; omega) (by omega) (by simp; omega) ?_; intro v' w' hown' hgrow hnil)
   | go_in)
 go_ret
 rw [cellsC_snoc] at hown'
 refine ⟨_, rfl, ?_, (World.grownBy_alloc w _ _).trans hgrow⟩
 rw [ComAt, List.length_append]
 exact hown'
theorem or_no (code : Int) (a : Option Addr) (n c : Nat) (v : Value) (w : World) :
   Calls Tryz.prog 164 #[v, .bool false, .int .i64 code, .slice a n c] w fun e w' => e = .returned v ∧ w' = w := by
 go_enter Tryz.func164, Tryz.ntmps164
 go_wp2
 go_ret
 exact ⟨rfl, rfl⟩
theorem or_on (base : Nat) (W0 : World) (code : Int) (a : Option Addr) (n c : Nat) (v : Value) (L : List (Int × Value)) (w : World) (h : ComAt w base v L) (hL : L.length ≤ 3) (hbl : Below base W0 w) (hs : base ≤ W0.heap.size) :
   Calls Tryz.prog 164 #[v, .bool true, .int .i64 code, .slice a n c] w fun e w' => ∃ v', e = .returned v' ∧ ComAt w' base v' (L ++ [(code, .slice a n c)]) ∧ w.grownBy w' v.ownBlock ∧ Below base W0 w' := by
 have hs' : base ≤ w.heap.size := Nat.le_trans hs hbl.size
 refine (or_yes base code a n c v L w h hL hs').mono ?_
 rintro e w' ⟨v', rfl, hc, hg⟩
 exact ⟨v', rfl, hc, hg, hbl.grown hg hs' fun j hj => (h.lt j hj).1⟩
def TellsAs (w : World) : List (Int × Value) → List (Int × List Int) → Prop
 | [], [] => True
 | r :: L, q :: LL => (r.1 = q.1 ∧ ∃ a n c, r.2 = .slice a n c ∧ IntAt w a n q.2) ∧ TellsAs w L LL
 | _, _ => False
def ComSays (e : Ending) (w w' : World) (LL : List (Int × List Int)) : Prop :=
 ∃ (v : Value) (L : List (Int × Value)), e = .returned v ∧ ComAt w' w.heap.size v L ∧ TellsAs w' L LL
theorem com_empty_at {w : World} {base g : Nat} (hg : w.heap.size = g) (hb : base ≤ g) : ComAt (w.alloc (.cells #[] 82)) base (.slice (some ⟨g, 0, none⟩) 0 0) [] := by
 subst hg
 exact com_empty hb
theorem com_empty_drew {w : World} {base g : Nat} (hg : w.heap.size = g) (hb : base ≤ g) : ComAt (w.alloc (.cells #[] 82)).drew base (.slice (some ⟨g, 0, none⟩) 0 0) [] := by
 subst hg
 exact com_empty hb
theorem nil_at (w : World) : IntAt w none 0 [] := ⟨rfl, by omega, .inl rfl⟩
theorem none_told (w : World) (k : Int) : (((k, Value.slice none 0 0) : Int × Value).1 = ((k, []) : Int × List Int).1 ∧ ∃ a n c, ((k, Value.slice none 0 0) : Int × Value).2 = .slice a n c ∧ IntAt w a n ((k, []) : Int × List Int).2) := ⟨rfl, none, 0, 0, rfl, nil_at w⟩
theorem tells_1 (w : World) (k : Int) : TellsAs w [(k, .slice none 0 0)] [(k, [])] := ⟨none_told w k, trivial⟩
theorem tells_2 (w : World) (k k' : Int) : TellsAs w [(k, .slice none 0 0), (k', .slice none 0 0)] [(k, []), (k', [])] := ⟨none_told w k, none_told w k', trivial⟩
theorem tells_l {w : World} {a : Option Addr} {n c : Nat} {xs : List Int} (h : IntAt w a n xs) (k : Int) : TellsAs w [(k, .slice a n c)] [(k, xs)] := ⟨⟨rfl, a, n, c, rfl, h⟩, trivial⟩
theorem one_at {w : World} {g : Nat} {x : Int} (h : w.cell? ⟨g, 0, none⟩ = some (.int .i64 x)) : IntAt w (some ⟨g, 0, none⟩) 1 [x] :=
 ⟨rfl, by omega, .inr ⟨g, 0, rfl, fun i hi => by obtain rfl : i = 0 := by omega
                                                 exact h⟩⟩
theorem com_done {w w' : World} {v : Value} {L : List (Int × Value)} {LL : List (Int × List Int)} {B : Nat} (hB : w.heap.size ≤ B) (hc : ComAt w' B v L) (ht : TellsAs w' L LL) : ComSays (.returned v) w w' LL := ⟨v, L, rfl, own_weaken hc hB, ht⟩
theorem told_first {W : World} {b : Nat} {x : Int} {ob : Obj} {t : TypeId} (hb : W.heap.size = b) : ((W.alloc (.cells #[I x] t)).alloc ob).cell? ⟨b, 0, none⟩ = some (.int .i64 x) := by
 subst hb
 rw [World.cell?_alloc_past _ _ _ (show W.heap.size < _ by simp)]
 simp
theorem told_second {W : World} {b : Nat} {x : Int} {ob : Obj} {t : TypeId} (hb : W.heap.size = b) : ((W.alloc ob).alloc (.cells #[I x] t)).cell? ⟨b + 1, 0, none⟩ = some (.int .i64 x) := by
 subst hb
 have e : (W.alloc ob).heap.size = W.heap.size + 1 := by simp
 rw [← e]
 simp
theorem told_first_drew {W : World} {b : Nat} {x : Int} {ob : Obj} {t : TypeId} (hb : W.heap.size = b) : ((W.alloc (.cells #[I x] t)).alloc ob).drew.cell? ⟨b, 0, none⟩ = some (.int .i64 x) := told_first hb
theorem told_second_drew {W : World} {b : Nat} {x : Int} {ob : Obj} {t : TypeId} (hb : W.heap.size = b) : ((W.alloc ob).alloc (.cells #[I x] t)).drew.cell? ⟨b + 1, 0, none⟩ = some (.int .i64 x) := told_second hb
end
section
open Go.ChangeShapes Go.WideShapes Go.ChangeAt Go.RowKit Go.Maps

end
end Go.Proofs.YtbfolanfbagofaaGreatDoor
