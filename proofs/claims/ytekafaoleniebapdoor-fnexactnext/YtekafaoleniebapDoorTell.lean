/- The program's teller: one word is told, if it has a place. -/
import Derived.Test.YtekafaoleniebapDoorKnown
import Derived.RangeFuncLeaves
import Derived.Shelf.Abstract
import Derived.WalkKit
import Derived.OwnWalkIn
import Derived.TacticsInMore
import Derived.Stop.RegionWithIn
import Derived.Test.YtekafaoleniebapDoorRegTail
import Derived.BigRegion
namespace Go.Proofs.YtekafaoleniebapDoor
open Go.ChangeShapes Go.WideShapes Go.ChangeAt Go.RowKit Go.Shelf
attribute [local go_sem] Oper.semAt_some

def encE (x : Ent) : Array Value := #[.agg #[.int .i64 x.1, .int .i64 x.2.1, .int .i64 x.2.2]]
/-- What a teller goes by: what a call of it comes to, and what abides. -/
structure Goes (F : Value) (wh : Bool) (a : Option Addr) (n c : Nat) (fs : List Int) (go : Ent → Bool) (W0 : World) (ts : List TypeId) (J Jx : List Ent → World → Prop) : Prop where
  bec : ∀ (p v : Int) (pre : List Ent) (W : World), pre.length < 100 → Below W0.heap.size W0 W → J pre W →
    Calls Tryd.prog 53 #[.agg #[.slice a n c, F, .bool wh], .int .i64 p, .int .i64 v] W fun e W' => ∃ b, e = .returned (.bool b) ∧ Fin wh go W0.heap.size ts J Jx W [becS fs n p v] pre b W'
  gj : Grows J
  gx : Grows Jx
  tt : ∀ t ∈ [65, 67, 68, 69, 76, 70, 71, 72, 74, 46, 29], t ∉ ts
/-- What lay at the beginning: the names and the pairs. -/
structure Base (W0 : World) (a : Option Addr) (n : Nat) (fs : List Int) : Prop where
  names : Names W0
  pairs : PairAt W0 a n fs
theorem Base.on {W0 W : World} {a : Option Addr} {n : Nat} {fs : List Int} (h : Base W0 a n fs) (hb : Below W0.heap.size W0 W) : Base W a n fs := ⟨h.names.below hb h.names.lt, h.pairs.below hb (Nat.le_refl _)⟩

theorem round_any {m m' : Nat} {P : Program} {l : Nat} {f : FuncId} {tmps : Array Value} {assign body : Code} {w : World} {R : Ending → World → Prop} (h : RoundIn Fence.wide m P l f tmps assign body w R) : RoundIn Fence.wide m' P l f tmps assign body w R :=
  ⟨h.1, fun c cs _ => h.2 c cs (room_wide _)⟩

set_option maxRecDepth 100000 in
set_option maxHeartbeats 2000000 in
/-- No place: nothing is told. -/
theorem becomes_none (a : Option Addr) (n c : Nat) (F : Value) (wh : Bool) (p v : Int) (fs : List Int) (go : Ent → Bool) (ts : List TypeId) (J Jx : List Ent → World → Prop) (pre : List Ent) (W0 W : World)
    (hj : Grows J) (hW : Below W0.heap.size W0 W) (hJ : J pre W) (hp : p < 0) :
    Calls Tryd.prog 53 #[.agg #[.slice a n c, F, .bool wh], .int .i64 p, .int .i64 v] W fun e W' => ∃ b, e = .returned (.bool b) ∧ Fin wh go W0.heap.size ts J Jx W [becS fs n p v] pre b W' := by
  have HB : Hid (Grows J ∧ Below W0.heap.size W0 W ∧ J pre W) := ⟨hj, hW, hJ⟩
  have HP : Hid (p < 0) := hp
  clear hj hW hJ
  go_enter Tryd.func53, Tryd.ntmps53
  go_wp2
  go_ret
  refine ⟨wh, rfl, ?_⟩
  unfold becS Fin
  rw [if_neg (Int.not_le.2 HP.out)]
  have hb : Below W.heap.size W (W.alloc (.cells #[.slice a n c, F, .bool wh] 65)) := (Below.refl _ _).alloc (Nat.le_refl _) _
  have h1 := HB.out.1 _ _ _ HB.out.2.2 (far_below hb none)
  have h2 : Kp W0.heap.size ts W (W.alloc (.cells #[.slice a n c, F, .bool wh] 65)) := Kp.of_below hb HB.out.2.1.size
  cases wh with
  | false => rw [if_neg (by simp)]; exact ⟨rfl, h1, h2⟩
  | true => rw [if_pos rfl]; exact ⟨rfl, h1, h2⟩

set_option maxRecDepth 100000 in
set_option maxHeartbeats 2000000 in
theorem becomes_yield (a : Option Addr) (n c l : Nat) (wh : Bool) (p v : Int) (fs : List Int) (go : Ent → Bool) (ts : List TypeId) (J Jx : List Ent → World → Prop) (pre : List Ent) (W0 W : World)
    (hR : Rounds Tryd.prog l encE go W0.heap.size ts J Jx) (hj : Grows J) (hB : Base W0 a n fs) (hl : pre.length < 100) (hW : Below W0.heap.size W0 W) (hJ : J pre W) :
    Calls Tryd.prog 53 #[.agg #[.slice a n c, .func (.yield l) #[] #[], .bool wh], .int .i64 p, .int .i64 v] W fun e W' => ∃ b, e = .returned (.bool b) ∧ Fin wh go W0.heap.size ts J Jx W [becS fs n p v] pre b W' := by
  by_cases hp : p < 0
  · exact becomes_none a n c _ wh p v fs go ts J Jx pre W0 W hj hW hJ hp
  have HG : Hid (Rounds Tryd.prog l encE go W0.heap.size ts J Jx ∧ Grows J) := ⟨hR, hj⟩
  have HB : Hid (Base W0 a n fs ∧ Below W0.heap.size W0 W ∧ J pre W) := ⟨hB, hW, hJ⟩
  have HL : Hid (pre.length < 100) := hl
  have HPP : Hid (0 ≤ p) := Int.not_lt.1 hp
  clear hR hj hB hW hJ hl
  have hx : Below W.heap.size W (W.alloc (.cells #[.slice a n c, .func (.yield l) #[] #[], .bool wh] 65)).drew := ((Below.refl _ _).alloc (Nat.le_refl _) _).drew
  have bx : (W.alloc (.cells #[.slice a n c, .func (.yield l) #[] #[], .bool wh] 65)).drew.heap[W.heap.size]? = some (.cells #[.slice a n c, .func (.yield l) #[] #[], .bool wh] 65 (0, 0)) := World.alloc_heap_new W _
  obtain ⟨Wd, hWd⟩ : ∃ Wd, (W.alloc (.cells #[.slice a n c, .func (.yield l) #[] #[], .bool wh] 65)).drew = Wd := ⟨_, rfl⟩
  rw [hWd] at hx bx
  have HX : Hid (Below W.heap.size W Wd ∧ Wd.heap[W.heap.size]? = some (.cells #[.slice a n c, .func (.yield l) #[] #[], .bool wh] 65 (0, 0))) := ⟨hx, bx⟩
  have c0 : Wd.cell? ⟨W.heap.size, 0, none⟩ = some (.slice a n c) := by simp [World.cell?, bx]
  have c1 : Wd.cell? ⟨W.heap.size, 1, none⟩ = some (.func (.yield l) #[] #[]) := by simp [World.cell?, bx]
  clear hx bx
  refine (callsIn_wide (n := 5)).1 ?_
  refine callsIn_of_wp Tryd.func53 rfl trivial ?_ rfl
  simp only [Tryd.ntmps53, List.size_toArray, List.length_cons, List.length_nil, Nat.reduceAdd, Nat.reduceSub, Array.replicate_succ, Array.replicate_zero, List.push_toArray, List.append_toArray, List.nil_append, List.cons_append]
  gi_wp2_with fail
  gi_region_with (first
    | (refine ⟨trivial, ?_⟩
       gi_at_call 61
       refine (callsIn_wide.2 (knownAt_any a n c p fs _ (HB.out.1.on (HB.out.2.1.trans (HX.out.1.mono HB.out.2.1.size))).pairs)).mono ?_
       rintro e w1 ⟨rfl, hb1⟩
       have HK1 : Hid (Below W.heap.size W w1) := HX.out.1.trans (hb1.mono HX.out.1.size)
       have d0 : w1.cell? ⟨W.heap.size, 0, none⟩ = some (.slice a n c) := (hb1.cell (p := ⟨W.heap.size, 0, none⟩) (Array.getElem?_eq_some_iff.1 HX.out.2).1).trans c0
       have d1 : w1.cell? ⟨W.heap.size, 1, none⟩ = some (.func (.yield l) #[] #[]) := (hb1.cell (p := ⟨W.heap.size, 1, none⟩) (Array.getElem?_eq_some_iff.1 HX.out.2).1).trans c1
       obtain ⟨fn, tmps, assign, body, hy, hR⟩ := HG.out.1 pre (p, rd fs n p, v) w1 HL.out (HG.out.2 _ _ _ HB.out.2.2 (far_below HK1.out none))
       dsimp only [encE] at hy
       clear hb1)
    | (first | (refine (round_any hR).mono ?_) | (refine ⟨?_, (round_any hR).mono ?_⟩; (intro _; omega)) | (refine ⟨fun h => absurd h (by decide), (round_any hR).mono ?_⟩)
       rintro e W3 ⟨rfl, hg1, hg2⟩))
  all_goals
    gi_wp2
    go_ret
    refine ⟨go (p, rd fs n p, v), rfl, ?_⟩
    unfold becS Fin
    rw [if_pos HPP.out]
    by_cases hg : go (p, rd fs n p, v) = true
    · rw [if_pos hg]
      exact ⟨hg, (hg1 hg).1, (Kp.of_below HK1.out HB.out.2.1.size).trans (hg1 hg).2⟩
    · rw [if_neg hg]
      have hg' : go (p, rd fs n p, v) = false := by simpa using hg
      exact ⟨hg', (hg2 hg').1, (Kp.of_below HK1.out HB.out.2.1.size).kx.trans (hg2 hg').2⟩
end Go.Proofs.YtekafaoleniebapDoor
