/- Texts joined: ViaAt, SpecWords, RowsRoom, ImplWords, LawRows, WordsL, In13, CloneI, SpecIn, Dat, DatF, DatI, DatM, DatN, DatD. -/
import Derived.Test.YtkbodiggdajbeaaGreatDoorMT04
import Derived.WalkKit
import Derived.ProofKit
import Derived.Deep.RegionWith
import Derived.Test.YtkbodiggdajbeaaGreatDoorMT03
import Derived.Handy
import Derived.Test.YtkbodiggdajbeaaGreatDoorMT01
import Derived.Lib.LazyBuf
import Derived.Below
import Derived.Lib.SmallJoins
import Derived.Deep.RegionHeld3
import Derived.Deep.Cut
/- spec.ViaAt and impl.ViaAt, walked: both answer the place of the name. -/
namespace Go.Proofs.YtkbodiggdajbeaaGreatDoor
open Go.ChangeShapes Go.WideShapes Go.ChangeAt Go.RowKit

end Go.Proofs.YtkbodiggdajbeaaGreatDoor

/- spec.WordsOf, walked. -/
namespace Go.Proofs.YtkbodiggdajbeaaGreatDoor
open Go.ChangeShapes Go.WideShapes Go.ChangeAt Go.RowKit Go.Maps

/-- What is told of the first k keys. -/
def mk (xs : List Int) (k j : Nat) : Int := if j < k then xs.getD j 0 else 0
def wordsK (xs : List Int) (k : Nat) (st : Int) : List Int := wordsG (mk xs k 0) (mk xs k 1) (mk xs k 2) (mk xs k 3) 0 0 0 0 st
theorem wordsK_len (xs : List Int) (k : Nat) (st : Int) : (wordsK xs k st).length = 20 := rfl
theorem wordsK_step {xs : List Int} {k : Nat} {x st : Int} (hk : k < 4) (hx : xs.getD k 0 = x) (hv : 1 ≤ x ∧ x ≤ 6) (hne : ∀ j, j < k → xs.getD j 0 ≠ x) : stepW (wordsK xs k st) k x st = wordsK xs (k + 1) st := by
  have h : k = 0 ∨ k = 1 ∨ k = 2 ∨ k = 3 := by omega
  have h0 : (0 : Int) ≠ x := by omega
  rcases h with rfl | rfl | rfl | rfl
  · rw [wordsK, wordsK]
    simp only [mk, hx]
    exact step0 0 0 0 0 0 0 0 st x hv h0 h0 h0
  · rw [wordsK, wordsK]
    simp only [mk, hx]
    exact step1 _ 0 0 0 0 0 0 st x hv (hne 0 (by omega)) h0 h0
  · rw [wordsK, wordsK]
    simp only [mk, hx]
    exact step2 _ _ 0 0 0 0 0 st x hv (hne 0 (by omega)) (hne 1 (by omega)) h0
  · rw [wordsK, wordsK]
    simp only [mk, hx]
    exact step3 _ _ _ 0 0 0 0 st x hv (hne 0 (by omega)) (hne 1 (by omega)) (hne 2 (by omega))
theorem wordsK_none {xs : List Int} {k : Nat} {st : Int} (hk : k < 4) (hx : xs.getD k 0 = 0) : (wordsK xs k st).set k 0 = wordsK xs (k + 1) st := by
  have h : k = 0 ∨ k = 1 ∨ k = 2 ∨ k = 3 := by omega
  rcases h with rfl | rfl | rfl | rfl <;> (rw [wordsK, wordsK]; simp only [mk, hx]; rfl)

/-- .. and of the first c classes how many there are. -/
def wordsC (xs : List Int) (c : Nat) (st : Int) : List Int := wordsG (xs.getD 0 0) (xs.getD 1 0) (xs.getD 2 0) (xs.getD 3 0) (if 0 < c then cntK xs 0 4 else 0) (if 1 < c then cntK xs 1 4 else 0) (if 2 < c then cntK xs 2 4 else 0) 0 st
theorem wordsC_zero (xs : List Int) (st : Int) : wordsK xs 4 st = wordsC xs 0 st := rfl
theorem wordsC_step (xs : List Int) (c : Nat) (hc : c < 3) (st : Int) : (wordsC xs c st).set (10 + c) (cntK xs (c : Int) 4) = wordsC xs (c + 1) st := by
  have h : c = 0 ∨ c = 1 ∨ c = 2 := by omega
  rcases h with rfl | rfl | rfl <;> rfl
theorem wordsC_end (xs : List Int) (st : Int) : (wordsC xs 3 st).set 13 st = wordsL (xs.getD 0 0) (xs.getD 1 0) (xs.getD 2 0) (xs.getD 3 0) st := by
  rw [wordsL, ← cntK_four, ← cntK_four, ← cntK_four]
  rfl

/-- The answer is a list of these numbers. -/
def ListSays (e : Ending) (w' : World) (L : List Int) : Prop := ∃ a n c, e = .returned (.slice a n c) ∧ IntAt w' a n L
/-- The words that the specification tells. -/
def specL (xs : List Int) (st : Int) : List Int := wordsL (xs.getD 0 0) (xs.getD 1 0) (xs.getD 2 0) (xs.getD 3 0) st

/-- The words lie in a list of the call's own. -/
def OwnSays (e : Ending) (w w' : World) (L : List Int) : Prop := ∃ g, w.heap.size ≤ g ∧ e = .returned (.slice (some ⟨g, 0, none⟩) 20 20) ∧ w'.ownsRow g 3 1 (.slice (some ⟨g, 0, none⟩) 20 20) 20 (L.map I)

end Go.Proofs.YtkbodiggdajbeaaGreatDoor

/- impl.holdersOf and impl.RowsOk at lists that have more room than they are long, walked. -/
namespace Go.Proofs.YtkbodiggdajbeaaGreatDoor
open Go.ChangeShapes Go.WideShapes Go.ChangeAt Go.RowKit Go.Maps

end Go.Proofs.YtkbodiggdajbeaaGreatDoor

/- impl.WordsOf, walked. -/
namespace Go.Proofs.YtkbodiggdajbeaaGreatDoor
open Go.ChangeShapes Go.WideShapes Go.ChangeAt Go.RowKit Go.Maps

theorem below_grown {w w' : World} (h : Below w.heap.size w w') : w.grownBy w' none := ⟨h.os, h.tape, h.output, h.size, fun i hi _ => h.block i hi⟩
theorem setCell_grown (w : World) (a : Addr) (u : Value) : w.grownBy (w.setCell a u) (some a.block) := ⟨rfl, rfl, rfl, by simp [World.setCell], fun i _ hne => Below.heap_setCell _ _ _ _ (fun e => hne (by rw [e]))⟩

/-- What is told of those that are not to come. -/
def mkL (left : Lit → Bool) (x : Int) : Int := if left (.int .i64 x) = true then 0 else x
def wordsM (xs : List Int) (left : Lit → Bool) (st : Int) : List Int := wordsL (mkL left (xs.getD 0 0)) (mkL left (xs.getD 1 0)) (mkL left (xs.getD 2 0)) (mkL left (xs.getD 3 0)) st
theorem mkL_ne {left : Lit → Bool} {y x : Int} (h : y ≠ x) (h0 : x ≠ 0) : mkL left y ≠ x := by
  unfold mkL
  split
  · exact fun e => h0 e.symm
  · exact h
theorem mkL_other {left : Lit → Bool} {y x : Int} (h : y ≠ x) : mkL (fun z => left z && !z.sameKey (.int .i64 x)) y = mkL left y := by
  unfold mkL
  simp only [sameKey_int, h, decide_false, Bool.not_false, Bool.and_true]
theorem mkL_same {left : Lit → Bool} {x : Int} : mkL (fun z => left z && !z.sameKey (.int .i64 x)) x = x := by
  unfold mkL
  simp [sameKey_int]
theorem mkL_left {left : Lit → Bool} {x : Int} (h : left (.int .i64 x) = true) : mkL left x = 0 := by
  unfold mkL
  rw [if_pos h]
theorem wordsM_step {xs : List Int} {left : Lit → Bool} {k : Nat} {x st : Int} (hk : k < 4) (hx : xs.getD k 0 = x) (hv : 1 ≤ x ∧ x ≤ 6) (hne : ∀ j, j < 4 → j ≠ k → xs.getD j 0 ≠ x) (hl : left (.int .i64 x) = true) :
    istepW (wordsM xs left st) k x st = wordsM xs (fun z => left z && !z.sameKey (.int .i64 x)) st := by
  have h : k = 0 ∨ k = 1 ∨ k = 2 ∨ k = 3 := by omega
  have h0 : x ≠ 0 := by omega
  rcases h with rfl | rfl | rfl | rfl
  · have n1 := hne 1 (by omega) (by omega)
    have n2 := hne 2 (by omega) (by omega)
    have n3 := hne 3 (by omega) (by omega)
    rw [wordsM, wordsM, hx, mkL_left hl, mkL_same, mkL_other n1, mkL_other n2, mkL_other n3]
    exact istep0 _ _ _ st x hv (mkL_ne n1 h0) (mkL_ne n2 h0) (mkL_ne n3 h0)
  · have n1 := hne 0 (by omega) (by omega)
    have n2 := hne 2 (by omega) (by omega)
    have n3 := hne 3 (by omega) (by omega)
    rw [wordsM, wordsM, hx, mkL_left hl, mkL_same, mkL_other n1, mkL_other n2, mkL_other n3]
    exact istep1 _ _ _ st x hv (mkL_ne n1 h0) (mkL_ne n2 h0) (mkL_ne n3 h0)
  · have n1 := hne 0 (by omega) (by omega)
    have n2 := hne 1 (by omega) (by omega)
    have n3 := hne 3 (by omega) (by omega)
    rw [wordsM, wordsM, hx, mkL_left hl, mkL_same, mkL_other n1, mkL_other n2, mkL_other n3]
    exact istep2 _ _ _ st x hv (mkL_ne n1 h0) (mkL_ne n2 h0) (mkL_ne n3 h0)
  · have n1 := hne 0 (by omega) (by omega)
    have n2 := hne 1 (by omega) (by omega)
    have n3 := hne 2 (by omega) (by omega)
    rw [wordsM, wordsM, hx, mkL_left hl, mkL_same, mkL_other n1, mkL_other n2, mkL_other n3]
    exact istep3 _ _ _ st x hv (mkL_ne n1 h0) (mkL_ne n2 h0) (mkL_ne n3 h0)
theorem wordsM_start {H : Type} {xs : List Int} {D : DataW H} (hD : HD xs D) (st : Int) : wordsM xs (Maps.has D) st = wordsL 0 0 0 0 st := by
  have h : ∀ j, j < 4 → mkL (Maps.has D) (xs.getD j 0) = 0 := fun j hj => by
    by_cases h0 : xs.getD j 0 = 0
    · rw [h0]
      unfold mkL
      split <;> rfl
    · refine mkL_left ?_
      rw [(hD _).1]
      exact decide_eq_true ⟨h0, List.ne_nil_of_mem (mem_posK.2 ⟨j, hj, rfl, rfl⟩)⟩
  rw [wordsM, h 0 (by omega), h 1 (by omega), h 2 (by omega), h 3 (by omega)]
theorem wordsM_end {xs : List Int} {left : Lit → Bool} (h : ∀ kl, left kl = false) (st : Int) : wordsM xs left st = specL xs st := by
  simp only [wordsM, specL, mkL, h]
  simp

theorem getL_set_ne {L : List Int} {i j : Nat} {u : Int} (h : i ≠ j) : (L.set i u).getD j 0 = L.getD j 0 := by
  simp [List.getD, List.getElem?_set_ne h]
theorem count_le (xs : List Int) (left : Lit → Bool) (st u v : Int) (k m2 m3 : Nat) (hk : k < 4) (h2 : m2 < 10) (h3 : 10 ≤ m3) (h4 : m3 < 13) : 0 ≤ (((wordsM xs left st).set k u).set m2 v).getD m3 0 ∧ (((wordsM xs left st).set k u).set m2 v).getD m3 0 ≤ 4 := by
  rw [getL_set_ne (by omega), getL_set_ne (by omega)]
  have h : m3 = 10 ∨ m3 = 11 ∨ m3 = 12 := by omega
  have e : ∀ c : Int, 0 ≤ clsW (mkL left (xs.getD 0 0)) (mkL left (xs.getD 1 0)) (mkL left (xs.getD 2 0)) (mkL left (xs.getD 3 0)) c ∧ clsW (mkL left (xs.getD 0 0)) (mkL left (xs.getD 1 0)) (mkL left (xs.getD 2 0)) (mkL left (xs.getD 3 0)) c ≤ 4 := fun c => by
    unfold clsW
    have b0 := bitW_le (mkL left (xs.getD 0 0)) c
    have b1 := bitW_le (mkL left (xs.getD 1 0)) c
    have b2 := bitW_le (mkL left (xs.getD 2 0)) c
    have b3 := bitW_le (mkL left (xs.getD 3 0)) c
    omega
  rcases h with rfl | rfl | rfl
  · exact e 0
  · exact e 1
  · exact e 2
theorem pos_one {xs : List Int} {x : Int} (h0 : posK xs 4 x ≠ []) (h1 : (posK xs 4 x).length ≤ 1) : ∃ k : Nat, k < 4 ∧ xs.getD k 0 = x ∧ posK xs 4 x = [(k : Int)] ∧ ∀ j, j < 4 → j ≠ k → xs.getD j 0 ≠ x := by
  obtain ⟨i, hi⟩ := List.exists_mem_of_ne_nil _ h0
  obtain ⟨k, hk, hkx, rfl⟩ := mem_posK.1 hi
  refine ⟨k, hk, hkx, ?_, fun j hj hjk e => ?_⟩
  · match hp : posK xs 4 x with
    | [] => exact absurd hp h0
    | [a] =>
      rw [hp] at hi
      simp at hi
      rw [hi]
    | _ :: _ :: _ => rw [hp] at h1; simp at h1
  · have := one_of h1 hi (mem_posK.2 ⟨j, hj, e, rfl⟩)
    omega

/-- The loop under way: the map is gone through, the words lie in block g, all else is as it was. -/
structure St {H : Type} (R : Value → Option (DataW H × List MemPlace)) (b r : Nat) (D : DataW H) (g : Nat) (w6 : World) (left : Lit → Bool) (cnt : Nat) (L : List Int) (v : World) : Prop where
  rg : v.ranges Tryz.prog 3 R b r 4 D left cnt
  gr : w6.grownBy v (some g)
  ow : v.ownsRow g 3 1 (.slice (some ⟨g, 0, none⟩) 20 20) 20 (L.map I)
section
variable {H : Type} {R : Value → Option (DataW H × List MemPlace)} {b r : Nat} {D : DataW H} {g : Nat} {w6 v v' : World} {left : Lit → Bool} {cnt : Nat} {L : List Int}
theorem St.call (h : St R b r D g w6 left cnt L v) (hb : Below v.heap.size v v') : St R b r D g w6 left cnt L v' :=
  ⟨h.rg.kept (below_grown hb) (by simp) (by simp), h.gr.andThen (below_grown hb) (fun j e => by cases e), owns_below h.ow hb (Nat.le_refl _)⟩
theorem St.store (h : St R b r D g w6 left cnt L v) (hbg : b ≠ g) (hrg : r ≠ g) (m : Nat) (y : Int) : St R b r D g w6 left cnt (L.set m y) (v.setCell ⟨g, m, none⟩ (I y)) := by
  refine ⟨h.rg.kept (setCell_grown v ⟨g, m, none⟩ (I y)) (fun e => hbg (by cases e; rfl)) (fun e => hrg (by cases e; rfl)), h.gr.andThen (setCell_grown v ⟨g, m, none⟩ (I y)) (fun j e => .inr e), ?_⟩
  have := (h.ow.stored m (I y)).1
  rwa [← List.map_set] at this
theorem St.cell (h : St R b r D g w6 left cnt L v) {p : Addr} (h1 : p.block < w6.heap.size) (h2 : p.block ≠ g) : v.cell? p = w6.cell? p := World.cell?_of_block (w := w6) (h.gr.block p.block h1 (fun e => h2 (by cases e; rfl)))
theorem St.below (h : St R b r D g w6 left cnt L v) {B : Nat} {w : World} (hb : Below B w w6) (h1 : B ≤ w6.heap.size) (h2 : B ≤ g) : Below B w v := hb.grown h.gr h1 (fun k e => by cases e; exact h2)
theorem St.at (h : St R b r D g w6 left cnt L v) {m : Nat} (hm : m < 20) (hl : L.length = 20) : v.cell? ⟨g, m, none⟩ = some (I (L.getD m 0)) ∧ v.frozen? ⟨g, m, none⟩ = false := by
  refine ⟨?_, h.ow.frozenAt m⟩
  rw [h.ow.cellAt m (by omega), List.getElem?_map, List.getElem?_eq_getElem (by omega)]
  simp [List.getD, show m < L.length by omega]
end

end Go.Proofs.YtkbodiggdajbeaaGreatDoor

/- The laws' own helpers for rows, walked: toRows (new rows that read alike), szRows, eqRows. -/
namespace Go.Proofs.YtkbodiggdajbeaaGreatDoor
open Go.ChangeShapes Go.WideShapes Go.ChangeAt Go.RowKit

/-- Rows as a value. -/
abbrev RowsV (a : Option Addr) (n c : Nat) (st : Int) : Value := .agg #[.slice a n c, .int .i64 st]

set_option maxHeartbeats 1000000 in
theorem toRows_any (a : Option Addr) (n c : Nat) (st : Int) (xs : List Int) (w : World) (h : IntAt w a n xs) :
    Calls Tryz.prog 22 #[RowsV a n c st] w fun e w' => e = .returned (RowsV (some ⟨w.heap.size + 3, 0, none⟩) n n st) ∧ w'.ownsRow (w.heap.size + 3) 3 1 (.slice (some ⟨w.heap.size + 3, 0, none⟩) n n) n (xs.map I) ∧ Below w.heap.size w w' := by
  have HA : Hid (IntAt w a n xs) := h
  clear h
  go_enter Tryz.func22, Tryz.ntmps22
  go_wp2_with fail
  have hb0 : Below w.heap.size w (((w.alloc (.cells #[.slice a n c, .int .i64 st] 30)).alloc (.cells #[.slice none 0 0, .int .i64 0] 41)).alloc (.cells #[.slice none 0 0, .int .i64 0] 41)) :=
    (((Below.refl _ w).alloc (Nat.le_refl _) _).alloc (by simp) _).alloc (by simp; omega) _
  refine (toIntS_any a n c xs _ (HA.out.below hb0 (Nat.le_refl _))).mono ?_
  rintro e w1 ⟨rfl, own1, hb1⟩
  simp only [World.size_alloc] at own1 hb1
  have hs1 := hb1.size
  simp only [World.size_alloc] at hs1
  have c01 : w1.cell? ⟨w.heap.size, 1, none⟩ = some (.int .i64 st) := by rw [hb1.cell (show w.heap.size < w.heap.size + 1 + 1 + 1 by omega), World.cell?_alloc_past _ _ _ (by simp; omega), World.cell?_alloc_past _ _ _ (by simp), World.cell?_alloc_at _ _ _ _ rfl]; rfl
  have c10 : w1.cell? ⟨w.heap.size + 1, 0, none⟩ = some (.slice none 0 0) := by rw [hb1.cell (show w.heap.size + 1 < w.heap.size + 1 + 1 + 1 by omega)]; simp [World.cell?_alloc_past, World.cell?_alloc_at]
  have c11 : w1.cell? ⟨w.heap.size + 1, 1, none⟩ = some (.int .i64 0) := by rw [hb1.cell (show w.heap.size + 1 < w.heap.size + 1 + 1 + 1 by omega)]; simp [World.cell?_alloc_past, World.cell?_alloc_at]
  have c20 : w1.cell? ⟨w.heap.size + 1 + 1, 0, none⟩ = some (.slice none 0 0) := by rw [hb1.cell (show w.heap.size + 1 + 1 < w.heap.size + 1 + 1 + 1 by omega)]; simp [World.cell?_alloc_at]
  have c21 : w1.cell? ⟨w.heap.size + 1 + 1, 1, none⟩ = some (.int .i64 0) := by rw [hb1.cell (show w.heap.size + 1 + 1 < w.heap.size + 1 + 1 + 1 by omega)]; simp [World.cell?_alloc_at]
  have f10 : w1.frozen? ⟨w.heap.size + 1, 0, none⟩ = false := by rw [hb1.frozen (show w.heap.size + 1 < w.heap.size + 1 + 1 + 1 by omega)]; simp [World.frozen?_alloc_past, World.frozen?_alloc_at]
  have f11 : w1.frozen? ⟨w.heap.size + 1, 1, none⟩ = false := by rw [hb1.frozen (show w.heap.size + 1 < w.heap.size + 1 + 1 + 1 by omega)]; simp [World.frozen?_alloc_past, World.frozen?_alloc_at]
  have f20 : w1.frozen? ⟨w.heap.size + 1 + 1, 0, none⟩ = false := by rw [hb1.frozen (show w.heap.size + 1 + 1 < w.heap.size + 1 + 1 + 1 by omega)]; simp [World.frozen?_alloc_at]
  have f21 : w1.frozen? ⟨w.heap.size + 1 + 1, 1, none⟩ = false := by rw [hb1.frozen (show w.heap.size + 1 + 1 < w.heap.size + 1 + 1 + 1 by omega)]; simp [World.frozen?_alloc_at]
  have hbw : Below w.heap.size w w1 := hb0.trans (hb1.mono (by omega))
  have HO : Hid (w1.ownsRow (w.heap.size + 1 + 1 + 1) 3 1 (.slice (some ⟨w.heap.size + 1 + 1 + 1, 0, none⟩) n n) n (xs.map I)) := own1
  clear hb0 hb1 own1
  go_wp2
  (try simp only [Exit.inBlock, Exit.then])
  refine bodyPost_ret (by simp [results, Tryz.results22, go_sem, c10, c11]; try rfl) rfl ?_
  exact ⟨rfl, ownsRow_setCell_below (ownsRow_setCell_below (ownsRow_setCell_below (ownsRow_setCell_below HO.out (by simp) _) (by simp) _) (by simp) _) (by simp) _,
    (((hbw.setCell (by simp; omega) _).setCell (by simp; omega) _).setCell (by simp) _).setCell (by simp) _⟩

theorem szRows_small (a : Option Addr) (n c : Nat) (st : Int) (w : World) (hn : n ≤ 1048576) :
    Calls Tryz.prog 13 #[RowsV a n c st, .int .i64 1048576] w fun e w' => (∃ m : Int, e = .returned (.int .i64 m) ∧ 0 ≤ m) ∧ Below w.heap.size w w' := by
  have h0 : ¬ (1048576 - (n : Int) < 0) := by omega
  go_enter Tryz.func13, Tryz.ntmps13
  go_wp2
  go_ret
  exact ⟨⟨_, rfl, by omega⟩, (Below.refl _ _).alloc (Nat.le_refl _) _⟩
theorem szRows_big (a : Option Addr) (n c : Nat) (st : Int) (w : World) (hn : ¬ n ≤ 1048576) (hm : n ≤ 9223372036854775807) :
    Calls Tryz.prog 13 #[RowsV a n c st, .int .i64 1048576] w fun e w' => e = .returned (.int .i64 (-1)) ∧ Below w.heap.size w w' := by
  have h0 : 1048576 - (n : Int) < 0 := by omega
  go_enter Tryz.func13, Tryz.ntmps13
  go_wp2
  go_ret
  exact ⟨rfl, (Below.refl _ _).alloc (Nat.le_refl _) _⟩

set_option maxHeartbeats 1000000 in
theorem eqRows_any (a1 a2 : Option Addr) (n1 n2 c1 c2 : Nat) (s1 s2 : Int) (xs ys : List Int) (w : World) (h1 : IntAt w a1 n1 xs) (h2 : IntAt w a2 n2 ys) :
    Calls Tryz.prog 32 #[RowsV a1 n1 c1 s1, RowsV a2 n2 c2 s2] w fun e w' => e = .returned (.bool (decide (xs = ys) && decide (s1 = s2))) ∧ Below w.heap.size w w' := by
  have H1 : Hid (IntAt w a1 n1 xs) := h1
  have H2 : Hid (IntAt w a2 n2 ys) := h2
  clear h1 h2
  go_enter Tryz.func32, Tryz.ntmps32
  go_wp2_with fail
  have hb0 : Below w.heap.size w ((w.alloc (.cells #[.slice a1 n1 c1, .int .i64 s1] 41)).alloc (.cells #[.slice a2 n2 c2, .int .i64 s2] 41)) := ((Below.refl _ w).alloc (Nat.le_refl _) _).alloc (by simp) _
  refine (eqIntS_any a1 a2 n1 n2 c1 c2 xs ys _ (H1.out.below hb0 (Nat.le_refl _)) (H2.out.below hb0 (Nat.le_refl _))).mono ?_
  rintro e w1 ⟨rfl, m, rfl⟩
  have hb1 := below_drewN hb0 m
  clear hb0
  by_cases hx : xs = ys
  · rw [show decide (xs = ys) = true from decide_eq_true hx]
    by_cases hs : s1 = s2
    · subst hs
      go_wp2
      go_ret
      exact ⟨by simp, hb1⟩
    · have hs' : (s1 != s2) = true := by simpa using hs
      have HS : Hid (¬ s1 = s2) := hs
      clear hs
      go_wp2
      go_ret
      exact ⟨by simp [HS.out], hb1⟩
  · rw [show decide (xs = ys) = false from decide_eq_false hx]
    have HX : Hid (¬ xs = ys) := hx
    clear hx
    go_wp2
    go_ret
    exact ⟨by simp [HX.out], hb1⟩

theorem eqRows_same (a1 a2 : Option Addr) (n1 n2 c1 c2 : Nat) (st : Int) (xs : List Int) (w : World) (h1 : IntAt w a1 n1 xs) (h2 : IntAt w a2 n2 xs) :
    Calls Tryz.prog 32 #[RowsV a1 n1 c1 st, RowsV a2 n2 c2 st] w fun e w' => e = .returned (.bool true) ∧ Below w.heap.size w w' := by
  have := eqRows_any a1 a2 n1 n2 c1 c2 st st xs xs w h1 h2
  simpa using this
end Go.Proofs.YtkbodiggdajbeaaGreatDoor

/- The words of rows, told by both; the program's in a list of its own. -/
namespace Go.Proofs.YtkbodiggdajbeaaGreatDoor
open Go.ChangeShapes Go.WideShapes Go.ChangeAt Go.RowKit

/-- What both tell of the rows. -/
def TellsL (xs : List Int) (st : Int) (L : List Int) : Prop := (OkRows xs st ∧ L = specL xs st) ∨ (¬ OkRows xs st ∧ L = [])
theorem tellsL (xs : List Int) (st : Int) : ∃ L, TellsL xs st L := by
  by_cases h : OkRows xs st
  · exact ⟨_, .inl ⟨h, rfl⟩⟩
  · exact ⟨_, .inr ⟨h, rfl⟩⟩
theorem TellsL.len {xs : List Int} {st : Int} {L : List Int} (h : TellsL xs st L) : L.length ≤ 20 := by
  rcases h with ⟨_, rfl⟩ | ⟨_, rfl⟩
  · exact Nat.le_of_eq rfl
  · simp
end Go.Proofs.YtkbodiggdajbeaaGreatDoor

/- What words tell, as data: the rows in them, whether they are whole, where they stray, the key that a word tells. No program. -/
namespace Go.Proofs.YtkbodiggdajbeaaGreatDoor
open Go.ChangeShapes Go.WideShapes Go.ChangeAt Go.RowKit

/-- What the rows in words hold, and their State. -/
def inX (ws : List Int) : List Int := if ws.length = 20 then ws.take 4 else []
def inS (ws : List Int) : Int := if ws.length = 20 then ws.getD 13 0 else 0
theorem inX_yes {ws : List Int} (h : ws.length = 20) : inX ws = ws.take 4 := if_pos h
theorem inS_yes {ws : List Int} (h : ws.length = 20) : inS ws = ws.getD 13 0 := if_pos h
theorem inX_no {ws : List Int} (h : ¬ ws.length = 20) : inX ws = [] := if_neg h
theorem inS_no {ws : List Int} (h : ¬ ws.length = 20) : inS ws = 0 := if_neg h
theorem inX_len {ws : List Int} : (inX ws).length ≤ 4 := by
  unfold inX
  split
  · simp; omega
  · simp
theorem inX_wf {ws : List Int} (h : ∀ x ∈ ws, (Lit.int .i64 x).wf = true) : ∀ x ∈ inX ws, (Lit.int .i64 x).wf = true := by
  unfold inX
  split
  · exact fun x hx => h x (List.mem_of_mem_take hx)
  · exact fun x hx => by cases hx
/-- The words are just those of the rows in them. -/
def WholeM (ws : List Int) : Prop := OkRows (inX ws) (inS ws) ∧ ws = specL (inX ws) (inS ws)
theorem ok_twenty {ws : List Int} (h : OkRows (inX ws) (inS ws)) : ws.length = 20 := by
  by_cases h0 : ws.length = 20
  · exact h0
  · have := h.1
    rw [inX_no h0] at this
    cases this
theorem WholeM.len {ws : List Int} (h : WholeM ws) : ws.length = 20 := ok_twenty h.1
theorem ownW_in (y0 y1 y2 y3 v : Int) : 0 ≤ ownW y0 y1 y2 y3 v ∧ ownW y0 y1 y2 y3 v ≤ 4 := by
  unfold ownW
  repeat' split
  all_goals omega
theorem viaW_in (y0 y1 y2 y3 st v : Int) : 0 ≤ viaW y0 y1 y2 y3 st v ∧ viaW y0 y1 y2 y3 st v ≤ 4 := by
  unfold viaW
  have := ownW_in y0 y1 y2 y3 v
  split <;> omega
/-- A place that a way tells: none, or one of an owner or of the other way. -/
def WayAt (q : Int) : Prop := q = -1 ∨ (4 ≤ q ∧ q ≤ 9) ∨ (14 ≤ q ∧ q ≤ 19)
theorem way_owner (v : Int) : WayAt (placeN 2 v) := by
  unfold placeN WayAt
  repeat' split
  all_goals omega
theorem way_via (v : Int) : WayAt (placeN 5 v) := by
  unfold placeN WayAt
  repeat' split
  all_goals omega
theorem WholeM.small {ws : List Int} (h : WholeM ws) {q : Nat} (hq : WayAt (q : Int)) : 0 ≤ ws.getD q 0 ∧ ws.getD q 0 ≤ 4 := by
  rw [h.2]
  have hq' : q = 4 ∨ q = 5 ∨ q = 6 ∨ q = 7 ∨ q = 8 ∨ q = 9 ∨ q = 14 ∨ q = 15 ∨ q = 16 ∨ q = 17 ∨ q = 18 ∨ q = 19 := by unfold WayAt at hq; omega
  rcases hq' with rfl | rfl | rfl | rfl | rfl | rfl | rfl | rfl | rfl | rfl | rfl | rfl
  · exact ownW_in _ _ _ _ _
  · exact ownW_in _ _ _ _ _
  · exact ownW_in _ _ _ _ _
  · exact ownW_in _ _ _ _ _
  · exact ownW_in _ _ _ _ _
  · exact ownW_in _ _ _ _ _
  · exact viaW_in _ _ _ _ _ _
  · exact viaW_in _ _ _ _ _ _
  · exact viaW_in _ _ _ _ _ _
  · exact viaW_in _ _ _ _ _ _
  · exact viaW_in _ _ _ _ _ _
  · exact viaW_in _ _ _ _ _ _
/-- The places, of the first k, at which L has something else. -/
def strayL (ws L : List Int) : Nat → List Int
  | 0 => []
  | k + 1 => if ws.getD k 0 = L.getD k 0 then strayL ws L k else strayL ws L k ++ [(k : Int)]
theorem strayL_len (ws L : List Int) (k : Nat) : (strayL ws L k).length ≤ k := by
  induction k with
  | zero => simp [strayL]
  | succ k ih =>
    unfold strayL
    split
    · omega
    · simp; omega
/-- What is told of the key that a word tells. -/
def KeyM (ws : List Int) (q k : Int) (ok : Bool) : Prop :=
  (ok = true ∧ WholeM ws ∧ 0 ≤ q ∧ ws.getD q.toNat 0 ≠ 0 ∧ k = ws.getD q.toNat 0 - 1) ∨ (ok = false ∧ k = 0 ∧ ¬ (WholeM ws ∧ 0 ≤ q ∧ ws.getD q.toNat 0 ≠ 0))
theorem KeyM.one {ws : List Int} {q k k' : Int} {ok ok' : Bool} (h : KeyM ws q k ok) (h' : KeyM ws q k' ok') : k = k' ∧ ok = ok' := by
  rcases h with ⟨rfl, h1, h2, h3, rfl⟩ | ⟨rfl, rfl, h1⟩ <;> rcases h' with ⟨rfl, k1, k2, k3, rfl⟩ | ⟨rfl, rfl, k1⟩
  · exact ⟨rfl, rfl⟩
  · exact absurd ⟨h1, h2, h3⟩ k1
  · exact absurd ⟨k1, k2, k3⟩ h1
  · exact ⟨rfl, rfl⟩
theorem keyM (ws : List Int) (q : Int) : ∃ k ok, KeyM ws q k ok := by
  by_cases h : WholeM ws ∧ 0 ≤ q ∧ ws.getD q.toNat 0 ≠ 0
  · exact ⟨_, _, .inl ⟨rfl, h.1, h.2.1, h.2.2, rfl⟩⟩
  · exact ⟨_, _, .inr ⟨rfl, rfl, h⟩⟩
/-- By the other way: only where it is made to its end. -/
def ViaM (ws : List Int) (q k : Int) (ok : Bool) : Prop := (inS ws = 5 ∧ KeyM ws q k ok) ∨ (¬ inS ws = 5 ∧ ok = false ∧ k = 0)
theorem viaM (ws : List Int) (q : Int) : ∃ k ok, ViaM ws q k ok := by
  by_cases h : inS ws = 5
  · obtain ⟨k, ok, hk⟩ := keyM ws q
    exact ⟨k, ok, .inl ⟨h, hk⟩⟩
  · exact ⟨0, false, .inr ⟨h, rfl, rfl⟩⟩
theorem ViaM.one {ws : List Int} {q k k' : Int} {ok ok' : Bool} (h : ViaM ws q k ok) (h' : ViaM ws q k' ok') : k = k' ∧ ok = ok' := by
  rcases h with ⟨h1, h2⟩ | ⟨h1, rfl, rfl⟩ <;> rcases h' with ⟨k1, k2⟩ | ⟨k1, rfl, rfl⟩
  · exact h2.one k2
  · exact absurd h1 k1
  · exact absurd k1 h1
  · exact ⟨rfl, rfl⟩
end Go.Proofs.YtkbodiggdajbeaaGreatDoor

/- slices.Clone of numbers: a list that is copied, with memory of its own. -/
namespace Go.Proofs.YtkbodiggdajbeaaGreatDoor
open Go.ChangeShapes Go.WideShapes Go.ChangeAt Go.RowKit Go.Joins

theorem own_emptyT {w : World} {base : Nat} {T : TypeId} {size : Nat} (hb : base ≤ w.heap.size) : (w.alloc (.cells #[] T)).ownsRow base T size (.slice (some ⟨w.heap.size, 0, none⟩) 0 0) 0 [] :=
  ⟨by simp, .inr ⟨w.heap.size, 0, #[], rfl, hb, (by show (w.heap.push _)[w.heap.size]? = _; simp), Nat.le_refl _, by unfold maxLen; omega, by simp, by simp⟩⟩
theorem eql_nil {P : Program} (w : World) {t e : TypeId} {a : Option Addr} {l c : Nat} (h : P.underlying t = some (.slice e)) : (binOp .eql t (.slice a l c) (.slice none 0 0)).run P w = .ok (.bool a.isNone) w := by
  simp [binOp, run_equal_slice_nil w t e a l c h]
theorem cell_alloc {w : World} {q : Addr} {u : Value} {o : Obj} (h : w.cell? q = some u) : (w.alloc o).cell? q = some u := by
  rw [World.cell?_of_block (Below.heap_alloc _ _ _ (World.block_lt_of_cell? w _ h))]
  exact h
theorem int_cell {w : World} {ad : Addr} {n : Nat} {es : List Int} {o : Obj} (h : IntAt w (some ad) n es) {j : Nat} {v : Value} (hj : (es.map I)[j]? = some v) : (w.alloc o).cell? (ad.add j) = some v := by
  refine cell_alloc ?_
  rw [List.getElem?_map] at hj
  have hl : j < es.length := by
    rcases Nat.lt_or_ge j es.length with h1 | h1
    · exact h1
    · rw [List.getElem?_eq_none h1] at hj; cases hj
  rcases h.2.2 with h0 | ⟨b, o, he, g⟩
  · have := h.1; omega
  · cases he
    have h1 := g j (by have := h.1; omega)
    have e : (⟨b, o, none⟩ : Addr).add j = ⟨b, o + j, none⟩ := by simp [Addr.add]
    rw [e, h1]
    rw [List.getElem?_eq_getElem hl] at hj
    simpa [List.getD, hl] using hj
set_option maxHeartbeats 1000000 in
set_option maxRecDepth 100000 in
theorem cloneI_o (a : Option Addr) (n c : Nat) (es : List Int) (w : World) (h : IntAt w a n es) (ha : a = none → c = 0) :
    Calls Tryz.prog 78 #[.slice a n c] w fun e w' => ∃ v, e = .returned v ∧ w'.ownsRow w.heap.size 3 1 v n (es.map I) ∧ Below w.heap.size w w' := by
  obtain ⟨i0, hi, hz0, hz1, hz2⟩ := info_parts infoInt
  rcases a with _ | ad
  · obtain rfl : c = 0 := ha rfl
    obtain rfl : n = 0 := by
      rcases h.2.2 with h0 | ⟨_, _, he, _⟩
      · exact h0
      · cases he
    have HV : Hid ((es.map I) = []) := by
      show _ = []
      rw [show es = [] from List.length_eq_zero_iff.1 (by have := h.1; simpa using this)]; rfl
    have hE : ∀ w : World, (binOp .eql 28 (.slice none 0 0) (.slice none 0 0)).run Tryz.prog w = .ok (.bool true) w := fun w => eql_nil w Tryz.underlying28
    clear h ha
    go_enter Tryz.func78, Tryz.ntmps78
    go_wp2
    go_ret
    exact ⟨_, rfl, by rw [HV.out]; exact World.ownsRow_nil _ _ _ _, Below.refl _ _⟩
  have hn := h.2.1
  have HS : Hid (((es.map I)).length = n * 1 ∧ (∀ j u, ((es.map I))[j]? = some u → (w.alloc (.cells #[] 3)).cell? (ad.add j) = some u) ∧ ∀ u ∈ (es.map I), u.oneCell' = true) := by
    exact ⟨by rw [List.length_map, h.1]; omega, fun j u hj => int_cell h hj, news_one⟩
  have hE : ∀ w : World, (binOp .eql 28 (.slice (some ad) n c) (.slice none 0 0)).run Tryz.prog w = .ok (.bool false) w := fun w => eql_nil w Tryz.underlying28
  clear h ha
  go_enter Tryz.func78, Tryz.ntmps78
  go_wp2_with
    (at_builtin
     refine wpList_append_own _ rfl _ _ 28 rfl w.heap.size 3 i0 (.int .i64 0) 1 8 Tryz.underlying28 hi hz0 hz1 hz2 rfl (by decide) (.slice (some ⟨w.heap.size, 0, none⟩) 0 0) 0 [] rfl (own_emptyT (Nat.le_refl _)) ad n c ((es.map I)) rfl HS.out.1 HS.out.2.1 HS.out.2.2 (by unfold maxLen; omega) (by omega) (by simp) ?_
     intro v' w2 own2 grow2 _)
  have hb2 : Below w.heap.size w w2 := ((Below.refl _ w).alloc (Nat.le_refl _) _).grown grow2 (by simp) (fun k e => by
    have h1 : w.heap.size = k := by simpa [Value.ownBlock] using e
    omega)
  rw [Nat.zero_add, List.nil_append] at own2
  go_ret
  exact ⟨_, rfl, own2, hb2⟩
end Go.Proofs.YtkbodiggdajbeaaGreatDoor

/- spec.RowsIn, walked at any list. -/
namespace Go.Proofs.YtkbodiggdajbeaaGreatDoor
open Go.ChangeShapes Go.WideShapes Go.ChangeAt Go.RowKit Go.Joins

/-- Rows of the words' own telling, in memory of their own. -/
def RowsSay (e : Ending) (w w' : World) (ws : List Int) : Prop := ∃ a c, e = .returned (.agg #[.slice a (inX ws).length c, .int .i64 (inS ws)]) ∧ (inX ws).length ≤ c ∧ w'.ownsRow w.heap.size 3 1 (.slice a (inX ws).length c) (inX ws).length ((inX ws).map I)
theorem RowsSay.at {e : Ending} {w w' : World} {ws : List Int} (h : RowsSay e w w' ws) : ∃ a c, e = .returned (.agg #[.slice a (inX ws).length c, .int .i64 (inS ws)]) ∧ (inX ws).length ≤ c ∧ IntAt w' a (inX ws).length (inX ws) := by
  obtain ⟨a, c, h1, h2, h3⟩ := h
  obtain ⟨a', c', he, hi⟩ := own_at h3 (by have := inX_len (ws := ws); omega)
  cases he
  exact ⟨a, c, h1, h2, hi⟩
theorem rowsSay_of {e : Ending} {w w' : World} {ws : List Int} {a : Option Addr} {n c : Nat} {st : Int} {xs : List Int} (hx : inX ws = xs) (hs : inS ws = st) (hn : n = xs.length) (he : e = .returned (.agg #[.slice a n c, .int .i64 st])) (ho : w'.ownsRow w.heap.size 3 1 (.slice a n c) n (xs.map I)) : RowsSay e w w' ws := by
  subst hn hx hs
  obtain ⟨a', c', h1, h2⟩ := owns_slice ho
  cases h1
  exact ⟨a, c, he, h2, ho⟩

theorem own_empty_g {w : World} {base g : Nat} (hg : w.heap.size = g) (hb : base ≤ g) : (w.alloc (.cells #[] 3)).ownsRow base 3 1 (.slice (some ⟨g, 0, none⟩) 0 0) 0 [] := by
  subst hg
  exact own_empty hb
set_option maxHeartbeats 2000000 in
set_option maxRecDepth 100000 in
theorem specRowsIn_any (a : Option Addr) (n c : Nat) (ws : List Int) (w : World) (hA : IntAt w a n ws) (hc : n ≤ c) :
    Calls Tryz.prog 15 #[.slice a n c] w fun e w' => RowsSay e w w' ws ∧ Below w.heap.size w w' := by
  obtain ⟨i0, hi, hz0, hz1, hz2⟩ := info_parts infoInt
  by_cases hn : n = 20
  case neg =>
    have hl : ¬ ws.length = 20 := by rw [hA.1]; exact hn
    have HX : Hid (inX ws = [] ∧ inS ws = 0) := ⟨inX_no hl, inS_no hl⟩
    have hd : ((n : Int) != 20) = true := by simp; omega
    have HB : Hid (Below w.heap.size w (w.alloc (.cells #[.slice none 0 0, .int .i64 0] 41))) := (Below.refl _ w).alloc (Nat.le_refl _) _
    have hnn := hA.2.1
    clear hA hl hn
    go_enter Tryz.func15, Tryz.ntmps15
    go_wp2
    (try simp only [Exit.inBlock, Exit.then])
    refine bodyPost_ret (by simp [results, Tryz.results15, go_sem]; try rfl) rfl ?_
    exact ⟨rowsSay_of HX.out.1 HX.out.2 rfl rfl (World.ownsRow_nil _ _ _ _), by first | exact HB.out | exact (HB.out.setCell (by simp) _).setCell (by simp) _⟩
  subst hn
  have hl : ws.length = 20 := hA.1
  obtain ⟨hl0, hn0, h0 | ⟨p, o, rfl, hcell⟩⟩ := hA
  · omega
  have HX : Hid (inX ws = ws.take 4 ∧ inS ws = ws.getD 13 0) := ⟨inX_yes hl, inS_yes hl⟩
  obtain ⟨st, hst⟩ : ∃ st, ws.getD 13 0 = st := ⟨_, rfl⟩
  rw [hst] at HX
  have h4 : ∀ i, i < 4 → w.cell? ⟨p, o + i, none⟩ = some (I ((ws.take 4).getD i 0)) := fun i hi => by
    rw [hcell i (by omega)]
    have : (ws.take 4).getD i 0 = ws.getD i 0 := by simp [List.getD, hi]
    rw [this]
  have H4 : Hid (IntAt w (some ⟨p, o, none⟩) 4 (ws.take 4)) := ⟨by simp; omega, by omega, .inr ⟨p, o, rfl, h4⟩⟩
  have c13 := hcell 13 (by omega)
  rw [hst] at c13
  obtain ⟨o13, ho13⟩ : ∃ o13, o + 13 = o13 := ⟨_, rfl⟩
  rw [ho13] at c13
  have plt : p < w.heap.size := World.block_lt_of_cell? w _ c13
  have hl4 : Hid ((ws.take 4).length = 4) := H4.out.1
  have H20 : Hid (20 ≤ c) := hc
  obtain ⟨m, hm⟩ : ∃ m, 4 = m := ⟨_, rfl⟩
  have HM : Hid (4 = m) := hm
  have hsl : ∀ w : World, (Instr.slice 28 (.slice (some ⟨p, o, none⟩) 20 c) none (some (.int .i64 4)) none).run Tryz.prog w = .ok (.slice (some ⟨p, o, none⟩) m c) w := fun w => by
    rw [run_slice_h w 28 (some ⟨p, o, none⟩) 20 c Tryz.underlying28 .i64 4 (by omega) (by omega), show Tryz.prog.elem 28 = 3 from rfl, Tryz.sizeOf3 w, ← hm]
    simp [Result.andThen, sliced, Addr.add]
  obtain ⟨xs, hxs⟩ : ∃ xs, ws.take 4 = xs := ⟨_, rfl⟩
  rw [hxs] at H4 HX
  rw [hm] at H4
  have hl4 : Hid (xs.length = m) := H4.out.1
  have hm2 : m ≤ 20 := by omega
  clear hcell hl hl0 h4 hst hc hm hxs
  go_enter Tryz.func15, Tryz.ntmps15
  have HB0 : Hid (Below w.heap.size w (w.alloc (.cells #[.slice none 0 0, .int .i64 0] 41))) := (Below.refl _ w).alloc (Nat.le_refl _) _
  have HG1 : Hid _ := (H4.out.below HB0.out (Nat.le_refl _)).cells
  go_wp2_with
    (at_builtin
     refine wpList_append_own _ rfl _ _ 28 rfl (w.heap.size + 1) 3 i0 (.int .i64 0) 1 8 Tryz.underlying28 hi hz0 hz1 hz2 rfl (by decide) (.slice (some ⟨w.heap.size + 1, 0, none⟩) 0 0) 0 [] rfl (own_empty_g (by simp) (by omega)) ⟨p, o, none⟩ m c (xs.map I) rfl (news_len hl4.out) (news_at hl4.out HG1.out) news_one (by unfold maxLen; omega) (by omega) (by rw [World.size_alloc, World.size_alloc]; omega) ?_
     intro v' w2 own2 grow2 _
     rw [Nat.zero_add, List.nil_append] at own2
     obtain ⟨va, vc, rfl, _⟩ := owns_slice own2
     have HO : Hid (w2.ownsRow (w.heap.size + 1) 3 1 (.slice va m vc) m (xs.map I)) := own2
     have hb2 : Below (w.heap.size + 1) (w.alloc (.cells #[.slice none 0 0, .int .i64 0] 41)) w2 := ((Below.refl _ _).alloc (by simp) _).grown grow2 (by simp) (fun k e => by
       have h1 : w.heap.size + 1 = k := by simpa [Value.ownBlock] using e
       omega)
     have R2 : Hid (Box w2 w.heap.size #[.slice none 0 0, .int .i64 0] 41) := (box_of w _ _).below hb2 (by omega)
     have HB2 : Hid (Below w.heap.size w w2) := HB0.out.trans (hb2.mono (by omega))
     have c13' : w2.cell? ⟨p, o13, none⟩ = some (I st) := (HB2.out.cell plt).trans c13
     have hsz2 : w.heap.size < w2.heap.size := R2.out.lt
     clear own2 grow2 hb2)
  refine (specStateAt_any _).mono ?_
  rintro e w3 ⟨rfl, hw3⟩
  rw [hw3]
  have HO13 : Hid (o + 13 = o13) := ho13
  obtain ⟨r0, r1, z0, z1⟩ := R2.out.two
  go_wp2
  obtain ⟨e0, e1, _, _⟩ := ((R2.out.put 0 (.slice va m vc)).put 1 (.int .i64 st)).two
  (try simp only [Exit.inBlock, Exit.then])
  refine bodyPost_ret (by simp [results, Tryz.results15, go_sem, e0, e1]; try rfl) rfl ?_
  have hwb : (Value.slice va m vc).ownBlock ≠ some w.heap.size := fun e => by have := (HO.out.lt _ e).1; omega
  exact ⟨rowsSay_of HX.out.1 HX.out.2 hl4.out.symm rfl (own_setCell_far (own_setCell_far (own_weaken HO.out (by omega)) hwb _) hwb _), (HB2.out.setCell (by simp) _).setCell (by simp) _⟩
end Go.Proofs.YtkbodiggdajbeaaGreatDoor

/- Data of any shape in memory: numbers, flags, texts, lists of structs of these, one within the other. What is read (At), what a call owns (Own); what keeps them; a store into a list. No program. -/
namespace Go.Proofs.YtkbodiggdajbeaaGreatDoor
open Go.ChangeShapes Go.WideShapes Go.ChangeAt Go.RowKit Go.Joins

/-- A cell's data: a number, a flag, a text, or a list of n structs of k cells each, cell by cell. -/
inductive Cel where
  | i (x : Int)
  | b (x : Bool)
  | s (x : ByteArray)
  | l (T : TypeId) (k n : Nat) (cs : List Cel)
/-- The value reads as the data. q: its lists have room as Go's own have. -/
inductive At (q : Bool) (w : World) : Value → Cel → Prop
  | i (x : Int) : At q w (.int .i64 x) (.i x)
  | b (x : Bool) : At q w (.bool x) (.b x)
  | s (x : ByteArray) : At q w (.string x) (.s x)
  | l (a : Option Addr) (T : TypeId) (k n c : Nat) (cs : List Cel) (vs : List Value) (h1 : vs.length = n * k) (h2 : cs.length = n * k) (hn : n ≤ 2097152) (hc : q = true → (a = none → c = 0) ∧ n ≤ c)
      (h3 : n = 0 ∨ ∃ b o, a = some ⟨b, o, none⟩ ∧ ∀ j, j < n * k → w.cell? ⟨b, o + j, none⟩ = vs[j]?) (h4 : ∀ (j : Nat) (v : Value) (c : Cel), vs[j]? = some v → cs[j]? = some c → At q w v c) : At q w (.slice a n c) (.l T k n cs)
def AtL (q : Bool) (w : World) (vs : List Value) (cs : List Cel) : Prop := vs.length = cs.length ∧ ∀ (j : Nat) (v : Value) (c : Cel), vs[j]? = some v → cs[j]? = some c → At q w v c
theorem At.on {q : Bool} {w w' : World} {v : Value} {c : Cel} (h : At q w v c) {B : Nat} (hb : Below B w w') (hB : w.heap.size ≤ B) : At q w' v c := by
  induction h with
  | i x => exact .i x
  | b x => exact .b x
  | s x => exact .s x
  | l a T k n c cs vs h1 h2 hn hc h3 h4 ih =>
    refine .l a T k n c cs vs h1 h2 hn hc ?_ ih
    rcases h3 with h3 | ⟨b, o, e, g⟩
    · exact .inl h3
    · refine .inr ⟨b, o, e, fun j hj => ?_⟩
      have h5 := g j hj
      have h6 : w.cell? ⟨b, o + j, none⟩ = some (vs[j]'(by omega)) := by rw [h5, List.getElem?_eq_getElem (by omega)]
      rw [hb.cell (show b < B from Nat.lt_of_lt_of_le (World.block_lt_of_cell? w _ h6) hB)]
      exact h5
theorem AtL.on {q : Bool} {w w' : World} {vs : List Value} {cs : List Cel} (h : AtL q w vs cs) {B : Nat} (hb : Below B w w') (hB : w.heap.size ≤ B) : AtL q w' vs cs :=
  ⟨h.1, fun j v c hv hc => (h.2 j v c hv hc).on hb hB⟩
theorem At.loose {q : Bool} {w : World} {v : Value} {c : Cel} (h : At q w v c) : At false w v c := by
  induction h with
  | i x => exact .i x
  | b x => exact .b x
  | s x => exact .s x
  | l a T k n c cs vs h1 h2 hn hc h3 h4 ih => exact .l a T k n c cs vs h1 h2 hn (fun h => by cases h) h3 ih
theorem AtL.nil {q : Bool} {w : World} : AtL q w [] [] := ⟨rfl, fun j v c hv _ => by simp at hv⟩
theorem AtL.cons {q : Bool} {w : World} {v : Value} {c : Cel} {vs : List Value} {cs : List Cel} (h : At q w v c) (hs : AtL q w vs cs) : AtL q w (v :: vs) (c :: cs) := by
  refine ⟨by simp [hs.1], fun j v' c' hv hc => ?_⟩
  cases j with
  | zero => simp at hv hc; subst hv hc; exact h
  | succ j => simp at hv hc; exact hs.2 j v' c' hv hc
theorem AtL.head {q : Bool} {w : World} {v : Value} {c : Cel} {vs : List Value} {cs : List Cel} (h : AtL q w (v :: vs) (c :: cs)) : At q w v c := h.2 0 v c rfl rfl
theorem AtL.tail {q : Bool} {w : World} {v : Value} {c : Cel} {vs : List Value} {cs : List Cel} (h : AtL q w (v :: vs) (c :: cs)) : AtL q w vs cs :=
  ⟨by have := h.1; simpa using this, fun j v' c' hv hc => h.2 (j + 1) v' c' (by simpa using hv) (by simpa using hc)⟩

/-- The value's lists are the call's own, S their blocks, no two lists in one. -/
inductive Own (w : World) (base : Nat) : Value → Cel → (Nat → Prop) → Prop
  | i (x : Int) (S : Nat → Prop) (hS : ∀ k, ¬ S k) : Own w base (.int .i64 x) (.i x) S
  | b (x : Bool) (S : Nat → Prop) (hS : ∀ k, ¬ S k) : Own w base (.bool x) (.b x) S
  | s (x : ByteArray) (S : Nat → Prop) (hS : ∀ k, ¬ S k) : Own w base (.string x) (.s x) S
  | nil (T : TypeId) (k : Nat) (S : Nat → Prop) (hS : ∀ k, ¬ S k) : Own w base (.slice none 0 0) (.l T k 0 []) S
  | l (g cap : Nat) (T : TypeId) (k n : Nat) (cs : List Cel) (vs : List Value) (S : Nat → Prop) (Ss : Nat → Nat → Prop) (h1 : w.ownsRow base T k (.slice (some ⟨g, 0, none⟩) n cap) n vs) (h2 : cs.length = n * k) (hn : n ≤ 2097152)
      (h4 : ∀ (j : Nat) (v : Value) (c : Cel), vs[j]? = some v → cs[j]? = some c → Own w base v c (Ss j)) (h5 : ∀ j, ¬ Ss j g) (h6 : ∀ i j x, i ≠ j → Ss i x → ¬ Ss j x) (h7 : ∀ x, S x ↔ x = g ∨ ∃ j, j < n * k ∧ Ss j x) :
      Own w base (.slice (some ⟨g, 0, none⟩) n cap) (.l T k n cs) S
/-- A struct's cells, likewise. -/
def OwnL (w : World) (base : Nat) (vs : List Value) (cs : List Cel) (S : Nat → Prop) : Prop :=
  vs.length = cs.length ∧ ∃ Ss : Nat → Nat → Prop, (∀ (j : Nat) (v : Value) (c : Cel), vs[j]? = some v → cs[j]? = some c → Own w base v c (Ss j)) ∧ (∀ i j x, i ≠ j → Ss i x → ¬ Ss j x) ∧ ∀ x, S x ↔ ∃ j, j < vs.length ∧ Ss j x
theorem Own.set {w : World} {base : Nat} {v : Value} {c : Cel} {S S' : Nat → Prop} (h : Own w base v c S) (hS : ∀ x, S x ↔ S' x) : Own w base v c S' := by
  cases h with
  | i x S h => exact .i x S' fun k hk => h k ((hS k).2 hk)
  | b x S h => exact .b x S' fun k hk => h k ((hS k).2 hk)
  | s x S h => exact .s x S' fun k hk => h k ((hS k).2 hk)
  | nil T k S h => exact .nil T k S' fun k hk => h k ((hS k).2 hk)
  | l g cap T k n cs vs S Ss h1 h2 hn h4 h5 h6 h7 => exact .l g cap T k n cs vs S' Ss h1 h2 hn h4 h5 h6 fun x => (hS x).symm.trans (h7 x)
theorem Own.lt {w : World} {base : Nat} {v : Value} {c : Cel} {S : Nat → Prop} (h : Own w base v c S) : ∀ x, S x → base ≤ x ∧ x < w.heap.size := by
  induction h with
  | i x S h => exact fun k hk => absurd hk (h k)
  | b x S h => exact fun k hk => absurd hk (h k)
  | s x S h => exact fun k hk => absurd hk (h k)
  | nil T k S h => exact fun k hk => absurd hk (h k)
  | l g cap T k n cs vs S Ss h1 h2 hn h4 h5 h6 h7 ih =>
    intro x hx
    rcases (h7 x).1 hx with rfl | ⟨j, hj, hxj⟩
    · exact h1.lt x rfl
    · have hl := h1.1
      exact ih j _ _ (List.getElem?_eq_getElem (by omega)) (List.getElem?_eq_getElem (by omega)) x hxj
theorem Own.heap {w w' : World} {base : Nat} {v : Value} {c : Cel} {S : Nat → Prop} (h : Own w base v c S) (he : ∀ x, S x → w'.heap[x]? = w.heap[x]?) : Own w' base v c S := by
  induction h with
  | i x S h => exact .i x S h
  | b x S h => exact .b x S h
  | s x S h => exact .s x S h
  | nil T k S h => exact .nil T k S h
  | l g cap T k n cs vs S Ss h1 h2 hn h4 h5 h6 h7 ih =>
    refine .l g cap T k n cs vs S Ss (owns_heap h1 fun k hk => ?_) h2 hn (fun j v c hv hc => ?_) h5 h6 h7
    · cases hk
      exact he g ((h7 g).2 (.inl rfl))
    · exact ih j v c hv hc fun x hx => he x ((h7 x).2 (.inr ⟨j, by
        have hl := h1.1
        have := (List.getElem?_eq_some_iff.1 hv).1
        omega, hx⟩))
theorem Own.on {w w' : World} {base : Nat} {v : Value} {c : Cel} {S : Nat → Prop} (h : Own w base v c S) {B : Nat} (hb : Below B w w') (hB : w.heap.size ≤ B) : Own w' base v c S :=
  h.heap fun x hx => hb.block x (by have := (h.lt x hx).2; omega)
theorem Own.weaken {w : World} {base base' : Nat} {v : Value} {c : Cel} {S : Nat → Prop} (h : Own w base v c S) (hb : base' ≤ base) : Own w base' v c S := by
  induction h with
  | i x S h => exact .i x S h
  | b x S h => exact .b x S h
  | s x S h => exact .s x S h
  | nil T k S h => exact .nil T k S h
  | l g cap T k n cs vs S Ss h1 h2 hn h4 h5 h6 h7 ih => exact .l g cap T k n cs vs S Ss (own_weaken h1 hb) h2 hn ih h5 h6 h7
theorem Own.at {w : World} {base : Nat} {v : Value} {c : Cel} {S : Nat → Prop} (h : Own w base v c S) : At true w v c := by
  induction h with
  | i x S h => exact .i x
  | b x S h => exact .b x
  | s x S h => exact .s x
  | nil T k S h => exact .l none T k 0 0 [] [] (by simp) (by simp) (by omega) (fun _ => ⟨fun _ => rfl, Nat.le_refl _⟩) (.inl rfl) (fun j v c hv _ => by simp at hv)
  | l g cap T k n cs vs S Ss h1 h2 hn h4 h5 h6 h7 ih =>
    obtain ⟨_, c', e, hcap⟩ := owns_slice h1
    cases e
    exact .l _ T k n cap cs vs h1.1 h2 hn (fun _ => ⟨(fun h => by cases h), hcap⟩) (.inr ⟨g, 0, rfl, fun j hj => by rw [Nat.zero_add]; exact h1.cellAt j hj⟩) ih
/-- Where a list of the call's own lies. -/
theorem Own.forms {w : World} {base : Nat} {v : Value} {T : TypeId} {k n : Nat} {cs : List Cel} {S : Nat → Prop} (h : Own w base v (.l T k n cs) S) : (v = .slice none 0 0 ∧ n = 0 ∧ cs = [] ∧ ∀ x, ¬ S x) ∨ ∃ g cap, v = .slice (some ⟨g, 0, none⟩) n cap ∧ n ≤ cap ∧ S g := by
  cases h with
  | nil T k S h => exact .inl ⟨rfl, rfl, rfl, h⟩
  | l g cap T k n cs vs S Ss h1 h2 hn h4 h5 h6 h7 =>
    obtain ⟨_, c', e, hcap⟩ := owns_slice h1
    cases e
    exact .inr ⟨g, cap, rfl, hcap, (h7 g).2 (.inl rfl)⟩
theorem Own.len {w : World} {base : Nat} {v : Value} {T : TypeId} {k n : Nat} {cs : List Cel} {S : Nat → Prop} (h : Own w base v (.l T k n cs) S) : cs.length = n * k ∧ n ≤ 2097152 := by
  cases h with
  | nil T k S h => exact ⟨by simp, by omega⟩
  | l g cap T k n cs vs S Ss h1 h2 hn h4 h5 h6 h7 => exact ⟨h2, hn⟩
theorem Own.slice {w : World} {base : Nat} {v : Value} {T : TypeId} {k n : Nat} {cs : List Cel} {S : Nat → Prop} (h : Own w base v (.l T k n cs) S) : ∃ a c, v = .slice a n c ∧ n ≤ c := by
  rcases h.forms with ⟨rfl, rfl, -, -⟩ | ⟨g, cap, rfl, hc, -⟩
  · exact ⟨none, 0, rfl, Nat.le_refl _⟩
  · exact ⟨_, cap, rfl, hc⟩
/-- A cell of a list of the call's own: what stands there, and that it may be written. -/
theorem Own.cell {w : World} {base : Nat} {g n cap : Nat} {T : TypeId} {k : Nat} {cs : List Cel} {S : Nat → Prop} (h : Own w base (.slice (some ⟨g, 0, none⟩) n cap) (.l T k n cs) S) {j : Nat} {c : Cel} (hc : cs[j]? = some c) :
    ∃ v Sj, w.cell? ⟨g, j, none⟩ = some v ∧ w.frozen? ⟨g, j, none⟩ = false ∧ Own w base v c Sj ∧ (∀ x, Sj x → S x) ∧ ¬ Sj g := by
  cases h with
  | l g cap T k n cs vs S Ss h1 h2 hn h4 h5 h6 h7 =>
    have hj : j < cs.length := (List.getElem?_eq_some_iff.1 hc).1
    have hl := h1.1
    have hv : vs[j]? = some (vs[j]'(by omega)) := List.getElem?_eq_getElem (by omega)
    exact ⟨_, Ss j, own_cellV h1 hv, h1.frozenAt j, h4 j _ _ hv hc, fun x hx => (h7 x).2 (.inr ⟨j, by omega, hx⟩), h5 j⟩
/-- A store into a list of the call's own: the new cell's lists lie elsewhere. -/
theorem Own.store {w : World} {base : Nat} {g n cap : Nat} {T : TypeId} {k : Nat} {cs : List Cel} {S S' : Nat → Prop} (h : Own w base (.slice (some ⟨g, 0, none⟩) n cap) (.l T k n cs) S) {j : Nat} (hj : j < n * k) {u : Value} {c' : Cel} (hu : Own w base u c' S') (hS : ∀ x, S' x → ¬ S x) :
    ∃ S'', Own (w.setCell ⟨g, j, none⟩ u) base (.slice (some ⟨g, 0, none⟩) n cap) (.l T k n (cs.set j c')) S'' ∧ S'' g ∧ (∀ x, S'' x → S x ∨ S' x) ∧ ∀ x, S' x → S'' x := by
  cases h with
  | l g cap T k n cs vs S Ss h1 h2 hn h4 h5 h6 h7 =>
    have hl := h1.1
    have hg : S g := (h7 g).2 (.inl rfl)
    have sub : ∀ i x, i < n * k → Ss i x → S x := fun i x hi hx => (h7 x).2 (.inr ⟨i, hi, hx⟩)
    refine ⟨fun x => x = g ∨ ∃ i, i < n * k ∧ (if i = j then S' else Ss i) x, .l g cap T k n _ (vs.set j u) _ (fun i => if i = j then S' else if i < n * k then Ss i else fun _ => False) (h1.stored j u).1 (by simpa using h2) hn ?_ ?_ ?_ ?_, .inl rfl, ?_, fun x hx => .inr ⟨j, hj, by simpa using hx⟩⟩
    · intro i v c hv hc
      by_cases hij : i = j
      · subst hij
        rw [List.getElem?_set_self (by omega)] at hv
        rw [List.getElem?_set_self (by omega)] at hc
        cases hv
        cases hc
        rw [if_pos rfl]
        exact hu.heap fun x hx => Below.heap_setCell _ _ _ _ (fun e => hS x hx (by have e : x = g := e; rw [e]; exact hg))
      · rw [List.getElem?_set_ne (Ne.symm hij)] at hv hc
        have hi : i < n * k := by have := (List.getElem?_eq_some_iff.1 hv).1; omega
        rw [if_neg hij, if_pos hi]
        exact (h4 i v c hv hc).heap fun x hx => Below.heap_setCell _ _ _ _ (fun e => h5 i (by have e : x = g := e; rw [← e]; exact hx))
    · intro i
      show ¬ (if i = j then S' else if i < n * k then Ss i else fun _ => False) g
      split
      · exact fun hx => hS g hx hg
      · split
        · exact h5 i
        · exact fun h => h
    · intro a b x hab
      show (if a = j then S' else if a < n * k then Ss a else fun _ => False) x → ¬ (if b = j then S' else if b < n * k then Ss b else fun _ => False) x
      by_cases ha : a = j
      · rw [if_pos ha, if_neg (show ¬ b = j by omega)]
        intro hx
        split
        · rename_i hb
          exact fun hb' => hS x hx (sub b x hb hb')
        · exact fun h => h
      · rw [if_neg ha]
        split
        · rename_i hal
          intro hx
          by_cases hb : b = j
          · rw [if_pos hb]; exact fun hx' => hS x hx' (sub a x hal hx)
          · rw [if_neg hb]
            split
            · exact h6 a b x hab hx
            · exact fun h => h
        · exact fun h => h.elim
    · intro x
      constructor
      · rintro (rfl | ⟨i, hi, hx⟩)
        · exact .inl rfl
        · exact .inr ⟨i, hi, by by_cases e : i = j <;> simp [e, hi] at hx ⊢ <;> exact hx⟩
      · rintro (rfl | ⟨i, hi, hx⟩)
        · exact .inl rfl
        · exact .inr ⟨i, hi, by by_cases e : i = j <;> simp [e, hi] at hx ⊢ <;> exact hx⟩
    · rintro x (rfl | ⟨i, hi, hx⟩)
      · exact .inl hg
      · by_cases e : i = j
        · rw [if_pos e] at hx; exact .inr hx
        · rw [if_neg e] at hx; exact .inl (sub i x hi hx)

theorem OwnL.nil {w : World} {base : Nat} {S : Nat → Prop} (hS : ∀ x, ¬ S x) : OwnL w base [] [] S :=
  ⟨rfl, fun _ _ => False, (fun j v c hv _ => by simp at hv), (fun _ _ _ _ h => h.elim), fun x => ⟨fun h => absurd h (hS x), fun ⟨j, hj, _⟩ => by simp at hj⟩⟩
theorem OwnL.cons {w : World} {base : Nat} {v : Value} {c : Cel} {vs : List Value} {cs : List Cel} {S0 S S' : Nat → Prop} (h : Own w base v c S0) (hs : OwnL w base vs cs S) (hd : ∀ x, S0 x → ¬ S x) (hS : ∀ x, S' x ↔ S0 x ∨ S x) : OwnL w base (v :: vs) (c :: cs) S' := by
  obtain ⟨hl, Ss, h1, h2, h3⟩ := hs
  refine ⟨by simp [hl], fun j => match j with | 0 => S0 | j + 1 => fun x => j < vs.length ∧ Ss j x, ?_, ?_, ?_⟩
  · intro j v' c' hv hc
    cases j with
    | zero => simp at hv hc; subst hv hc; exact h
    | succ j =>
      simp at hv hc
      have hj := (List.getElem?_eq_some_iff.1 hv).1
      exact (h1 j v' c' hv hc).set fun x => ⟨fun hx => ⟨hj, hx⟩, fun hx => hx.2⟩
  · intro i j x hij
    match i, j with
    | 0, 0 => exact absurd rfl hij
    | 0, j + 1 => exact fun hx hx' => hd x hx ((h3 x).2 ⟨j, hx'.1, hx'.2⟩)
    | i + 1, 0 => exact fun hx hx' => hd x hx' ((h3 x).2 ⟨i, hx.1, hx.2⟩)
    | i + 1, j + 1 => exact fun hx hx' => h2 i j x (by omega) hx.2 hx'.2
  · intro x
    rw [hS x, h3 x]
    constructor
    · rintro (hx | ⟨j, hj, hx⟩)
      · exact ⟨0, by simp, hx⟩
      · exact ⟨j + 1, by simpa using hj, hj, hx⟩
    · rintro ⟨j, hj, hx⟩
      cases j with
      | zero => exact .inl hx
      | succ j => exact .inr ⟨j, hx.1, hx.2⟩
theorem OwnL.parts {w : World} {base : Nat} {v : Value} {c : Cel} {vs : List Value} {cs : List Cel} {S : Nat → Prop} (h : OwnL w base (v :: vs) (c :: cs) S) : ∃ S0 S1, Own w base v c S0 ∧ OwnL w base vs cs S1 ∧ (∀ x, S0 x → ¬ S1 x) ∧ ∀ x, S x ↔ S0 x ∨ S1 x := by
  obtain ⟨hl, Ss, h1, h2, h3⟩ := h
  refine ⟨Ss 0, fun x => ∃ j, j < vs.length ∧ Ss (j + 1) x, h1 0 v c rfl rfl, ⟨by simpa using hl, fun j => Ss (j + 1), fun j v' c' hv hc => h1 (j + 1) v' c' (by simpa using hv) (by simpa using hc), fun i j x hij => h2 _ _ x (by omega), fun x => Iff.rfl⟩, ?_, ?_⟩
  · rintro x hx ⟨j, _, hx'⟩
    exact h2 0 (j + 1) x (by omega) hx hx'
  · intro x
    rw [h3 x]
    constructor
    · rintro ⟨j, hj, hx⟩
      cases j with
      | zero => exact .inl hx
      | succ j => exact .inr ⟨j, by simpa using hj, hx⟩
    · rintro (hx | ⟨j, hj, hx⟩)
      · exact ⟨0, by simp, hx⟩
      · exact ⟨j + 1, by simpa using hj, hx⟩
theorem OwnL.heap {w w' : World} {base : Nat} {vs : List Value} {cs : List Cel} {S : Nat → Prop} (h : OwnL w base vs cs S) (he : ∀ x, S x → w'.heap[x]? = w.heap[x]?) : OwnL w' base vs cs S := by
  obtain ⟨hl, Ss, h1, h2, h3⟩ := h
  exact ⟨hl, Ss, fun j v c hv hc => (h1 j v c hv hc).heap fun x hx => he x ((h3 x).2 ⟨j, (List.getElem?_eq_some_iff.1 hv).1, hx⟩), h2, h3⟩
theorem OwnL.lt {w : World} {base : Nat} {vs : List Value} {cs : List Cel} {S : Nat → Prop} (h : OwnL w base vs cs S) : ∀ x, S x → base ≤ x ∧ x < w.heap.size := by
  obtain ⟨hl, Ss, h1, h2, h3⟩ := h
  intro x hx
  obtain ⟨j, hj, hx⟩ := (h3 x).1 hx
  exact (h1 j _ _ (List.getElem?_eq_getElem hj) (List.getElem?_eq_getElem (by omega))).lt x hx
theorem OwnL.on {w w' : World} {base : Nat} {vs : List Value} {cs : List Cel} {S : Nat → Prop} (h : OwnL w base vs cs S) {B : Nat} (hb : Below B w w') (hB : w.heap.size ≤ B) : OwnL w' base vs cs S :=
  h.heap fun x hx => hb.block x (by have := (h.lt x hx).2; omega)
theorem OwnL.weaken {w : World} {base base' : Nat} {vs : List Value} {cs : List Cel} {S : Nat → Prop} (h : OwnL w base vs cs S) (hb : base' ≤ base) : OwnL w base' vs cs S := by
  obtain ⟨hl, Ss, h1, h2, h3⟩ := h
  exact ⟨hl, Ss, fun j v c hv hc => (h1 j v c hv hc).weaken hb, h2, h3⟩
theorem OwnL.at {w : World} {base : Nat} {vs : List Value} {cs : List Cel} {S : Nat → Prop} (h : OwnL w base vs cs S) : AtL true w vs cs := by
  obtain ⟨hl, Ss, h1, h2, h3⟩ := h
  exact ⟨hl, fun j v c hv hc => (h1 j v c hv hc).at⟩
end Go.Proofs.YtkbodiggdajbeaaGreatDoor

/- What the laws' own functions reckon of data: how many cells are marked, what they are marked with, how great it is; a list's row; what is turned within a list. No program. -/
namespace Go.Proofs.YtkbodiggdajbeaaGreatDoor
open Go.ChangeShapes Go.WideShapes Go.ChangeAt Go.RowKit Go.Joins

/-- The shape of a cell's data. -/
inductive Ty where
  | i
  | b
  | s
  | l (T : TypeId) (k : Nat) (fs : List Ty)
inductive Has : Cel → Ty → Prop
  | i (x : Int) : Has (.i x) .i
  | b (x : Bool) : Has (.b x) .b
  | s (x : ByteArray) : Has (.s x) .s
  | l (T : TypeId) (k n : Nat) (cs : List Cel) (fs : List Ty) (hk : fs.length = k) (h1 : cs.length = n * k) (h2 : ∀ (j : Nat) (c : Cel) (t : Ty), cs[j]? = some c → fs[j % k]? = some t → Has c t) : Has (.l T k n cs) (.l T k fs)
def HasL (cs : List Cel) (fs : List Ty) : Prop := cs.length = fs.length ∧ ∀ (j : Nat) (c : Cel) (t : Ty), cs[j]? = some c → fs[j]? = some t → Has c t
/-- Row number j. -/
def row (cs : List Cel) (k j : Nat) : List Cel := (cs.drop (j * k)).take k
theorem rowL_len {cs : List Cel} {k n j : Nat} (h : cs.length = n * k) (hj : j < n) : (row cs k j).length = k := by
  unfold row
  rw [List.length_take, List.length_drop, h]
  have : j * k + k ≤ n * k := by rw [← Nat.succ_mul]; exact Nat.mul_le_mul_right k hj
  omega
theorem row_at {cs : List Cel} {k j i : Nat} (hi : i < k) : (row cs k j)[i]? = cs[j * k + i]? := by
  unfold row
  rw [List.getElem?_take_of_lt hi, List.getElem?_drop]
theorem row_split {cs : List Cel} {k j : Nat} : cs.take ((j + 1) * k) = cs.take (j * k) ++ row cs k j := by
  unfold row
  rw [Nat.succ_mul, List.take_add]
theorem Has.rowL {T : TypeId} {k n : Nat} {cs : List Cel} {fs : List Ty} (h : Has (.l T k n cs) (.l T k fs)) {j : Nat} (hj : j < n) : HasL (row cs k j) fs := by
  cases h with
  | l _ _ _ _ _ hk h1 h2 =>
    refine ⟨by rw [rowL_len h1 hj, hk], fun i c t hc ht => ?_⟩
    have hi : i < k := by have := (List.getElem?_eq_some_iff.1 ht).1; omega
    rw [row_at hi] at hc
    refine h2 (j * k + i) c t hc ?_
    rw [show (j * k + i) % k = i by rw [Nat.add_comm, Nat.add_mul_mod_self_right, Nat.mod_eq_of_lt hi]]
    exact ht
theorem HasL.nil {cs : List Cel} (h : HasL cs []) : cs = [] := List.length_eq_zero_iff.1 h.1
theorem HasL.cons {cs : List Cel} {t : Ty} {fs : List Ty} (h : HasL cs (t :: fs)) : ∃ c cs', cs = c :: cs' ∧ Has c t ∧ HasL cs' fs := by
  match cs, h with
  | [], h => have := h.1; simp at this
  | c :: cs', h => exact ⟨c, cs', rfl, h.2 0 c t rfl rfl, ⟨by have := h.1; simpa using this, fun j c' t' hc ht => h.2 (j + 1) c' t' (by simpa using hc) (by simpa using ht)⟩⟩
theorem Has.int {c : Cel} (h : Has c .i) : ∃ x, c = .i x := by cases h; exact ⟨_, rfl⟩
theorem Has.bool {c : Cel} (h : Has c .b) : ∃ x, c = .b x := by cases h; exact ⟨_, rfl⟩
theorem Has.str {c : Cel} (h : Has c .s) : ∃ x, c = .s x := by cases h; exact ⟨_, rfl⟩
theorem Has.list {c : Cel} {T : TypeId} {k : Nat} {fs : List Ty} (h : Has c (.l T k fs)) : ∃ n cs, c = .l T k n cs ∧ cs.length = n * k := by cases h; exact ⟨_, _, rfl, by assumption⟩

mutual
/-- How many cells are marked. -/
def Cel.cnt : Cel → Nat
  | .i _ => 1
  | .b _ => 1
  | .s _ => 1
  | .l _ _ _ cs => cntL cs
def cntL : List Cel → Nat
  | [] => 0
  | c :: cs => c.cnt + cntL cs
end
mutual
/-- The data, marked from q on; tx: what a text is marked with. -/
def Cel.mark (tx : Int → ByteArray) : Cel → Int → Cel
  | .i _, q => .i q
  | .b _, q => .b (q % 3 == 0)
  | .s _, q => .s (tx q)
  | .l T k n cs, q => .l T k n (markL tx cs q)
def markL (tx : Int → ByteArray) : List Cel → Int → List Cel
  | [], _ => []
  | c :: cs, q => c.mark tx q :: markL tx cs (q + (c.cnt : Int))
end
mutual
/-- How many structs there are in all its lists, and bytes in its texts. -/
def Cel.big : Cel → Nat
  | .i _ => 0
  | .b _ => 0
  | .s x => x.size
  | .l _ _ n cs => n + bigL cs
def bigL : List Cel → Nat
  | [] => 0
  | c :: cs => c.big + bigL cs
end
theorem cntL_append (a b : List Cel) : cntL (a ++ b) = cntL a + cntL b := by
  induction a with
  | nil => simp [cntL]
  | cons c a ih => simp [cntL, ih]; omega
theorem markL_append (tx : Int → ByteArray) (a b : List Cel) (q : Int) : markL tx (a ++ b) q = markL tx a q ++ markL tx b (q + (cntL a : Int)) := by
  induction a generalizing q with
  | nil => simp [markL, cntL]
  | cons c a ih => simp only [List.cons_append, markL, ih, cntL, List.cons_append]; rw [show q + (c.cnt : Int) + (cntL a : Int) = q + ((c.cnt + cntL a : Nat) : Int) by push_cast; omega]
theorem markL_len (tx : Int → ByteArray) (a : List Cel) (q : Int) : (markL tx a q).length = a.length := by
  induction a generalizing q with
  | nil => rfl
  | cons c a ih => simp [markL, ih]
theorem bigL_append (a b : List Cel) : bigL (a ++ b) = bigL a + bigL b := by
  induction a with
  | nil => simp [bigL]
  | cons c a ih => simp [bigL, ih]; omega
mutual
theorem Cel.mark_cnt (tx : Int → ByteArray) : ∀ (c : Cel) (q : Int), (c.mark tx q).cnt = c.cnt
  | .i _, _ => by simp [Cel.mark, Cel.cnt]
  | .b _, _ => by simp [Cel.mark, Cel.cnt]
  | .s _, _ => by simp [Cel.mark, Cel.cnt]
  | .l _ _ _ cs, q => by simp only [Cel.mark, Cel.cnt]; exact markL_cnt tx cs q
theorem markL_cnt (tx : Int → ByteArray) : ∀ (cs : List Cel) (q : Int), cntL (markL tx cs q) = cntL cs
  | [], _ => rfl
  | c :: cs, q => by simp only [markL, cntL]; rw [Cel.mark_cnt tx c q, markL_cnt tx cs _]
end
/-- What is turned within a cell of a list of the call's own, in its own blocks alone. -/
theorem Own.inner {w w' : World} {base : Nat} {g n cap : Nat} {T : TypeId} {k : Nat} {cs : List Cel} {S : Nat → Prop} (h : Own w base (.slice (some ⟨g, 0, none⟩) n cap) (.l T k n cs) S) {j : Nat} {c c' : Cel} (hc : cs[j]? = some c)
    (hw : ∀ v Sj, w.cell? ⟨g, j, none⟩ = some v → Own w base v c Sj → (∀ x, Sj x → S x) → ¬ Sj g → Own w' base v c' Sj ∧ ∀ x, S x → ¬ Sj x → w'.heap[x]? = w.heap[x]?) :
    Own w' base (.slice (some ⟨g, 0, none⟩) n cap) (.l T k n (cs.set j c')) S := by
  cases h with
  | l g cap T k n cs vs S Ss h1 h2 hn h4 h5 h6 h7 =>
    have hj : j < cs.length := (List.getElem?_eq_some_iff.1 hc).1
    have hl := h1.1
    have hv : vs[j]? = some (vs[j]'(by omega)) := List.getElem?_eq_getElem (by omega)
    have sub : ∀ i x, i < n * k → Ss i x → S x := fun i x hi hx => (h7 x).2 (.inr ⟨i, hi, hx⟩)
    obtain ⟨ho, he⟩ := hw _ (Ss j) (own_cellV h1 hv) (h4 j _ _ hv hc) (fun x => sub j x (by omega)) (h5 j)
    refine .l g cap T k n _ vs S Ss (owns_heap h1 fun x hx => ?_) (by simpa using h2) hn (fun i v d hvi hdi => ?_) h5 h6 h7
    · cases hx
      exact he g ((h7 g).2 (.inl rfl)) (h5 j)
    · by_cases hij : j = i
      · subst hij
        rw [List.getElem?_set_self hj] at hdi
        cases hdi
        rw [hv] at hvi
        cases hvi
        exact ho
      · rw [List.getElem?_set_ne hij] at hdi
        have hi : i < n * k := by have := (List.getElem?_eq_some_iff.1 hvi).1; omega
        exact (h4 i v d hvi hdi).heap fun x hx => he x (sub i x hi hx) (h6 i j x (Ne.symm hij) hx)

/-- A list that is read, opened. -/
theorem At.openL {q : Bool} {w : World} {v : Value} {T : TypeId} {k n : Nat} {cs : List Cel} (h : At q w v (.l T k n cs)) : ∃ (a : Option Addr) (c : Nat) (vs : List Value), v = .slice a n c ∧ vs.length = n * k ∧ cs.length = n * k ∧ n ≤ 2097152 ∧ (q = true → (a = none → c = 0) ∧ n ≤ c) ∧
    (n = 0 ∨ ∃ b o, a = some ⟨b, o, none⟩ ∧ ∀ j, j < n * k → w.cell? ⟨b, o + j, none⟩ = vs[j]?) ∧ ∀ (j : Nat) (v : Value) (c : Cel), vs[j]? = some v → cs[j]? = some c → At q w v c := by
  cases h with
  | l a T k n c cs vs h1 h2 hn hc h3 h4 => exact ⟨a, c, vs, rfl, h1, h2, hn, hc, h3, h4⟩
theorem At.int {q : Bool} {w : World} {v : Value} {x : Int} (h : At q w v (.i x)) : v = .int .i64 x := by cases h; rfl
theorem At.bool {q : Bool} {w : World} {v : Value} {x : Bool} (h : At q w v (.b x)) : v = .bool x := by cases h; rfl
theorem At.str {q : Bool} {w : World} {v : Value} {x : ByteArray} (h : At q w v (.s x)) : v = .string x := by cases h; rfl
theorem At.slice {q : Bool} {w : World} {v : Value} {T : TypeId} {k n : Nat} {cs : List Cel} (h : At q w v (.l T k n cs)) : ∃ a c, v = .slice a n c := by
  obtain ⟨a, c, _, e, _⟩ := h.openL
  exact ⟨a, c, e⟩
theorem AtL.nilE {q : Bool} {w : World} {vs : List Value} (h : AtL q w vs []) : vs = [] := List.length_eq_zero_iff.1 h.1
theorem AtL.consE {q : Bool} {w : World} {vs : List Value} {c : Cel} {cs : List Cel} (h : AtL q w vs (c :: cs)) : ∃ v vs', vs = v :: vs' ∧ At q w v c ∧ AtL q w vs' cs := by
  match vs, h with
  | [], h => have := h.1; simp at this
  | v :: vs', h => exact ⟨v, vs', rfl, h.head, h.tail⟩
theorem OwnL.nilE {w : World} {base : Nat} {vs : List Value} {S : Nat → Prop} (h : OwnL w base vs [] S) : vs = [] := List.length_eq_zero_iff.1 h.1
theorem OwnL.consE {w : World} {base : Nat} {vs : List Value} {c : Cel} {cs : List Cel} {S : Nat → Prop} (h : OwnL w base vs (c :: cs) S) : ∃ v vs', vs = v :: vs' := by
  match vs, h with
  | [], h => have := h.1; simp at this
  | v :: vs', _ => exact ⟨v, vs', rfl⟩
/-- Row j of a list that is read: what stands in its cells. -/
theorem rowVals {q : Bool} {w : World} {k n j : Nat} {cs : List Cel} {vs : List Value} (h1 : vs.length = n * k) (h2 : cs.length = n * k) (h4 : ∀ (j : Nat) (v : Value) (c : Cel), vs[j]? = some v → cs[j]? = some c → At q w v c) (hj : j < n) : AtL q w ((vs.drop (j * k)).take k) (row cs k j) := by
  have hle : j * k + k ≤ n * k := by rw [← Nat.succ_mul]; exact Nat.mul_le_mul_right k hj
  refine ⟨by rw [rowL_len h2 hj, List.length_take, List.length_drop, h1]; omega, fun i v c hv hc => ?_⟩
  have hi : i < k := by have := (List.getElem?_eq_some_iff.1 hc).1; rw [rowL_len h2 hj] at this; exact this
  rw [row_at hi] at hc
  rw [List.getElem?_take_of_lt hi, List.getElem?_drop] at hv
  exact h4 _ v c hv hc
/-- Stores one behind the other into a block. -/
def stores (w : World) (g p : Nat) : List Value → World
  | [] => w
  | u :: us => stores (w.setCell ⟨g, p, none⟩ u) g (p + 1) us
theorem stores_other {g : Nat} : ∀ (us : List Value) (w : World) (p x : Nat), x ≠ g → (stores w g p us).heap[x]? = w.heap[x]?
  | [], _, _, _, _ => rfl
  | _ :: us, _, _, _, hx => (stores_other us _ _ _ hx).trans (Below.heap_setCell _ _ _ _ hx)
theorem stores_size {g : Nat} : ∀ (us : List Value) (w : World) (p : Nat), (stores w g p us).heap.size = w.heap.size
  | [], _, _ => rfl
  | _ :: us, _, _ => (stores_size us _ _).trans (size_setCell _ _ _)
theorem stores_below {g B : Nat} (hB : B ≤ g) {w0 : World} : ∀ (us : List Value) (w : World) (p : Nat), Below B w0 w → Below B w0 (stores w g p us)
  | [], _, _, h => h
  | u :: us, _, _, h => stores_below hB us _ _ (h.setCell hB u)
/-- Data put over a list's data from a place on. -/
def over (ps : List Cel) (p : Nat) : List Cel → List Cel
  | [] => ps
  | c :: cs => over (ps.set p c) (p + 1) cs
theorem over_len : ∀ (cs ps : List Cel) (p : Nat), (over ps p cs).length = ps.length
  | [], _, _ => rfl
  | c :: cs, ps, p => (over_len cs _ _).trans (by simp)
theorem over_take : ∀ (cs ps : List Cel) (p : Nat), p + cs.length ≤ ps.length → (over ps p cs).take (p + cs.length) = ps.take p ++ cs
  | [], ps, p, _ => by simp [over]
  | c :: cs, ps, p, h => by
    simp only [List.length_cons] at h
    have ih := over_take cs (ps.set p c) (p + 1) (by simp; omega)
    rw [show p + (c :: cs).length = p + 1 + cs.length by simp; omega, over, ih]
    rw [List.take_succ_eq_append_getElem (by simp; omega)]
    simp [List.take_set_of_le (Nat.le_refl _)]
theorem Own.storeL : ∀ {us : List Value} {rs : List Cel} {w : World} {base g n cap : Nat} {T : TypeId} {k : Nat} {ps : List Cel} {S S' : Nat → Prop} {p : Nat}, Own w base (.slice (some ⟨g, 0, none⟩) n cap) (.l T k n ps) S → OwnL w base us rs S' → (∀ x, S' x → ¬ S x) → p + rs.length ≤ n * k →
    ∃ S'', Own (stores w g p us) base (.slice (some ⟨g, 0, none⟩) n cap) (.l T k n (over ps p rs)) S'' ∧ ∀ x, S'' x → S x ∨ S' x
  | us, [], w, base, g, n, cap, T, k, ps, S, S', p, h, hu, _, _ => by
    obtain rfl := hu.nilE
    exact ⟨S, h, fun x hx => .inl hx⟩
  | us, c :: rs, w, base, g, n, cap, T, k, ps, S, S', p, h, hu, hd, hp => by
    obtain ⟨u, us', rfl⟩ := hu.consE
    obtain ⟨S0, S1, h0, h1, hd01, hS⟩ := hu.parts
    simp only [List.length_cons] at hp
    obtain ⟨Sa, oa, ga, sa, ta⟩ := h.store (show p < n * k by omega) h0 (fun x hx => hd x ((hS x).2 (.inl hx)))
    have hg : S g := by
      rcases h.forms with ⟨e, _⟩ | ⟨g', cap', e, _, hg⟩
      · cases e
      · cases e; exact hg
    have h1' : OwnL (w.setCell ⟨g, p, none⟩ u) base us' rs S1 := h1.heap fun x hx => Below.heap_setCell _ _ _ _ (fun e => by
      have e : x = g := e
      exact hd x ((hS x).2 (.inr hx)) (by rw [e]; exact hg))
    obtain ⟨S'', o, s⟩ := Own.storeL (p := p + 1) oa h1' (fun x hx hxa => by
      rcases sa x hxa with h' | h'
      · exact hd x ((hS x).2 (.inr hx)) h'
      · exact hd01 x h' hx) (by omega)
    exact ⟨S'', o, fun x hx => by
      rcases s x hx with h' | h'
      · rcases sa x h' with h'' | h''
        · exact .inl h''
        · exact .inr ((hS x).2 (.inl h''))
      · exact .inr ((hS x).2 (.inr h'))⟩
/-- A list of zero cells that was made. -/
theorem own_made {w : World} {g n : Nat} {T : TypeId} {k : Nat} {vs zv : List Value} {zc : List Cel} (h : w.ownsRow g T k (.slice (some ⟨g, 0, none⟩) n n) n vs) (hn : n ≤ 2097152) (hk : zc.length = k) (hz : ∀ (j : Nat) (v : Value), vs[j]? = some v → zv[j % k]? = some v) (hzc : ∀ (i : Nat) (v : Value) (c : Cel), zv[i]? = some v → zc[i]? = some c → ∀ w', Own w' g v c (fun _ => False)) :
    ∃ ps, ps.length = n * k ∧ Own w g (.slice (some ⟨g, 0, none⟩) n n) (.l T k n ps) (fun x => x = g) := by
  refine ⟨(List.range (n * k)).map fun j => zc.getD (j % k) (.i 0), by simp, ?_⟩
  have hl := h.1
  refine .l g n T k n _ vs _ (fun _ _ => False) h (by simp) hn (fun j v c hv hc => ?_) (fun _ h => h) (fun _ _ _ _ h => h.elim) (fun x => by simp)
  have hj : j < n * k := by have := (List.getElem?_eq_some_iff.1 hv).1; omega
  have hk0 : 0 < k := by
    rcases Nat.eq_zero_or_pos k with h0 | h0
    · rw [h0] at hj; simp at hj
    · exact h0
  have hm : j % k < zc.length := by rw [hk]; exact Nat.mod_lt _ hk0
  simp [hj] at hc
  subst hc
  refine hzc (j % k) v _ (hz j v hv) ?_ w
  rw [List.getElem?_eq_getElem hm]
  rfl
/-- What a function that makes a struct, or a list, answers. -/
def RetL (w : World) (cs : List Cel) (e : Ending) (w' : World) : Prop := Below w.heap.size w w' ∧ ∃ us S, e = .returned (.agg us.toArray) ∧ OwnL w' w.heap.size us cs S
def Ret (w : World) (c : Cel) (e : Ending) (w' : World) : Prop := Below w.heap.size w w' ∧ ∃ u S, e = .returned u ∧ Own w' w.heap.size u c S
theorem made_at {z : Array Value} {m j : Nat} {v : Value} (h : (madeCells z m).toList[j]? = some v) (hz : 0 < z.size) : z.toList[j % z.size]? = some v := by
  have hj : j < m := by have := (List.getElem?_eq_some_iff.1 h).1; simpa [madeCells] using this
  have hm : j % z.size < z.size := Nat.mod_lt _ hz
  simp [madeCells, hj] at h
  rw [← h]
  simp [hm]
theorem OwnL.app : ∀ {vs : List Value} {cs : List Cel} {w : World} {b : Nat} {vs' : List Value} {cs' : List Cel} {S S' : Nat → Prop}, OwnL w b vs cs S → OwnL w b vs' cs' S' → (∀ x, S x → ¬ S' x) → OwnL w b (vs ++ vs') (cs ++ cs') (fun x => S x ∨ S' x)
  | vs, [], w, b, vs', cs', S, S', h, h', _ => by
    obtain rfl := h.nilE
    have hn : ∀ x, ¬ S x := fun x hx => by
      obtain ⟨_, Ss, _, _, h3⟩ := h
      obtain ⟨j, hj, _⟩ := (h3 x).1 hx
      simp at hj
    obtain ⟨l, Ss, h1, h2, h3⟩ := h'
    exact ⟨l, Ss, h1, h2, fun x => ⟨fun hx => (h3 x).1 (hx.resolve_left (hn x)), fun hx => .inr ((h3 x).2 hx)⟩⟩
  | vs, c :: cs, w, b, vs', cs', S, S', h, h', hd => by
    obtain ⟨v, vs, rfl⟩ := h.consE
    obtain ⟨S0, S1, h0, h1, hd01, hS⟩ := h.parts
    exact OwnL.cons h0 (OwnL.app h1 h' fun x hx => hd x ((hS x).2 (.inr hx))) (fun x hx hx' => by
      rcases hx' with hx' | hx'
      · exact hd01 x hx hx'
      · exact hd x ((hS x).2 (.inl hx)) hx') (fun x => by rw [hS x, or_assoc])
/-- While a struct is made: the argument's box, the answer's, that of what is made; what was made so far. -/
structure Mk (w W : World) (A Z C : Array Value) (TA TO : TypeId) (R : List (List Value × List Cel × (Nat → Prop))) : Prop where
  a : Box W w.heap.size A TA
  z : Box W (w.heap.size + 1) Z TO
  c : Box W (w.heap.size + 1 + 1) C TO
  b : Below w.heap.size w W
  o : ∀ r ∈ R, OwnL W (w.heap.size + 3) r.1 r.2.1 r.2.2
  d : R.Pairwise (fun p q => ∀ x, p.2.2 x → ¬ q.2.2 x)
theorem mk_new (w : World) (A Z C : Array Value) (TA TO : TypeId) : Mk w (((w.alloc (.cells A TA)).alloc (.cells Z TO)).alloc (.cells C TO)) A Z C TA TO [] := by
  refine ⟨((box_of w A TA).alloc _).alloc _, ?_, ?_, (((Below.refl _ w).alloc (Nat.le_refl _) _).alloc (by simp) _).alloc (by simp; omega) _, (fun r hr => by simp at hr), List.Pairwise.nil⟩
  · have := (box_of (w.alloc (.cells A TA)) Z TO).alloc (.cells C TO)
    rwa [World.size_alloc] at this
  · have := box_of ((w.alloc (.cells A TA)).alloc (.cells Z TO)) C TO
    rwa [World.size_alloc, World.size_alloc] at this
theorem Mk.store {w W : World} {A Z C : Array Value} {TA TO : TypeId} {R : List (List Value × List Cel × (Nat → Prop))} (h : Mk w W A Z C TA TO R) (i : Nat) (v : Value) : Mk w (W.setCell ⟨w.heap.size + 1 + 1, i, none⟩ v) A Z (C.setIfInBounds i v) TA TO R :=
  ⟨h.a.set (by simp; omega) v, h.z.set (by simp) v, h.c.put i v, h.b.setCell (by simp; omega) v, fun r hr => (h.o r hr).heap fun x hx => Below.heap_setCell _ _ _ _ (fun e => by
    have e : x = w.heap.size + 1 + 1 := e
    have := ((h.o r hr).lt x hx).1
    omega), h.d⟩
theorem Mk.storeZ {w W : World} {A Z C : Array Value} {TA TO : TypeId} {R : List (List Value × List Cel × (Nat → Prop))} (h : Mk w W A Z C TA TO R) (i : Nat) (v : Value) : Mk w (W.setCell ⟨w.heap.size + 1, i, none⟩ v) A (Z.setIfInBounds i v) C TA TO R :=
  ⟨h.a.set (by simp) v, h.z.put i v, h.c.set (by simp) v, h.b.setCell (by simp) v, fun r hr => (h.o r hr).heap fun x hx => Below.heap_setCell _ _ _ _ (fun e => by
    have e : x = w.heap.size + 1 := e
    have := ((h.o r hr).lt x hx).1
    omega), h.d⟩
theorem Mk.call {w W W' : World} {A Z C : Array Value} {TA TO : TypeId} {R : List (List Value × List Cel × (Nat → Prop))} (h : Mk w W A Z C TA TO R) (hb : Below W.heap.size W W') {us : List Value} {cs : List Cel} {S : Nat → Prop} (o : OwnL W' W.heap.size us cs S) : Mk w W' A Z C TA TO (R ++ [(us, cs, S)]) := by
  have hc := h.c.lt
  have hs := h.b.size
  refine ⟨h.a.below hb h.a.lt, h.z.below hb h.z.lt, h.c.below hb hc, h.b.trans (hb.mono hs), fun r hr => ?_, ?_⟩
  · rcases List.mem_append.1 hr with hr | hr
    · exact (h.o r hr).on hb (Nat.le_refl _)
    · simp at hr
      subst hr
      exact o.weaken (by omega)
  · refine List.pairwise_append.2 ⟨h.d, by simp, fun r hr q hq x hx => ?_⟩
    simp at hq
    subst hq
    intro hx'
    have h1 := ((h.o r hr).lt x hx).2
    have h2 := (o.lt x hx').1
    omega
theorem Mk.call1 {w W W' : World} {A Z C : Array Value} {TA TO : TypeId} {R : List (List Value × List Cel × (Nat → Prop))} (h : Mk w W A Z C TA TO R) (hb : Below W.heap.size W W') {u : Value} {c : Cel} {S : Nat → Prop} (o : Own W' W.heap.size u c S) : Mk w W' A Z C TA TO (R ++ [([u], [c], S)]) :=
  h.call hb (OwnL.cons o (OwnL.nil (S := fun _ => False) (fun _ h => h)) (fun _ _ h => h) (fun _ => by simp))
theorem Mk.num {w W : World} {A Z C : Array Value} {TA TO : TypeId} {R : List (List Value × List Cel × (Nat → Prop))} (h : Mk w W A Z C TA TO R) {v : Value} {c : Cel} (hv : ∀ base, Own W base v c (fun _ => False)) : Mk w W A Z C TA TO (R ++ [([v], [c], fun _ => False)]) := by
  refine ⟨h.a, h.z, h.c, h.b, fun r hr => ?_, ?_⟩
  · rcases List.mem_append.1 hr with hr | hr
    · exact h.o r hr
    · simp at hr
      subst hr
      exact OwnL.cons (hv _) (OwnL.nil (S := fun _ => False) (fun _ h => h)) (fun _ h => h.elim) (fun _ => by simp)
  · refine List.pairwise_append.2 ⟨h.d, by simp, fun r hr q hq x hx => ?_⟩
    simp at hq
    subst hq
    exact fun h => h
theorem owns_all {W : World} {b : Nat} : ∀ {R : List (List Value × List Cel × (Nat → Prop))}, (∀ r ∈ R, OwnL W b r.1 r.2.1 r.2.2) → R.Pairwise (fun p q => ∀ x, p.2.2 x → ¬ q.2.2 x) → OwnL W b (R.flatMap (·.1)) (R.flatMap (·.2.1)) (fun x => ∃ r ∈ R, r.2.2 x)
  | [], _, _ => OwnL.nil (fun x h => by simp at h)
  | r :: R, h, hd => by
    have hp := List.pairwise_cons.1 hd
    have h1 := OwnL.app (h r (by simp)) (owns_all (fun q hq => h q (by simp [hq])) hp.2) (fun x hx ⟨q, hq, hx'⟩ => hp.1 q hq x hx hx')
    obtain ⟨l, Ss, g1, g2, g3⟩ := h1
    refine ⟨l, Ss, g1, g2, fun x => ?_⟩
    exact Iff.trans (by simp) (g3 x)
theorem Mk.all {w W : World} {A Z C : Array Value} {TA TO : TypeId} {R : List (List Value × List Cel × (Nat → Prop))} (h : Mk w W A Z C TA TO R) : OwnL W w.heap.size (R.flatMap (·.1)) (R.flatMap (·.2.1)) (fun x => ∃ r ∈ R, r.2.2 x) := (owns_all h.o h.d).weaken (by omega)
def Yes (w : World) (e : Ending) (w' : World) : Prop := e = .returned (.bool true) ∧ Below w.heap.size w w'
/-- While two structs are compared: their boxes. -/
structure Two (w W : World) (A B : Array Value) (T : TypeId) : Prop where
  a : Box W w.heap.size A T
  b : Box W (w.heap.size + 1) B T
  on : Below w.heap.size w W
theorem two_new (w : World) (A B : Array Value) (T : TypeId) : Two w ((w.alloc (.cells A T)).alloc (.cells B T)) A B T := by
  refine ⟨(box_of w A T).alloc _, ?_, ((Below.refl _ w).alloc (Nat.le_refl _) _).alloc (by simp) _⟩
  have := box_of (w.alloc (.cells A T)) B T
  rwa [World.size_alloc] at this
theorem Two.call {w W W' : World} {A B : Array Value} {T : TypeId} (h : Two w W A B T) (hb : Below W.heap.size W W') : Two w W' A B T :=
  ⟨h.a.below hb h.a.lt, h.b.below hb h.b.lt, h.on.trans (hb.mono h.on.size)⟩
end Go.Proofs.YtkbodiggdajbeaaGreatDoor

/- Data that came in, of any length; how great it is. No program. -/
namespace Go.Proofs.YtkbodiggdajbeaaGreatDoor
open Go.ChangeShapes Go.WideShapes Go.ChangeAt Go.RowKit Go.Joins

/-- Data that came in: lists of any length. -/
inductive In (w : World) : Value → Cel → Prop
  | i (x : Int) : In w (.int .i64 x) (.i x)
  | b (x : Bool) : In w (.bool x) (.b x)
  | s (x : ByteArray) : In w (.string x) (.s x)
  | l (a : Option Addr) (T : TypeId) (k n c : Nat) (cs : List Cel) (vs : List Value) (h1 : vs.length = n * k) (h2 : cs.length = n * k) (hn : n ≤ 9223372036854775807)
      (h3 : n = 0 ∨ ∃ b o, a = some ⟨b, o, none⟩ ∧ ∀ j, j < n * k → w.cell? ⟨b, o + j, none⟩ = vs[j]?) (h4 : ∀ (j : Nat) (v : Value) (c : Cel), vs[j]? = some v → cs[j]? = some c → In w v c) : In w (.slice a n c) (.l T k n cs)
def InL (w : World) (vs : List Value) (cs : List Cel) : Prop := vs.length = cs.length ∧ ∀ (j : Nat) (v : Value) (c : Cel), vs[j]? = some v → cs[j]? = some c → In w v c
theorem In.on {w w' : World} {v : Value} {c : Cel} (h : In w v c) {B : Nat} (hb : Below B w w') (hB : w.heap.size ≤ B) : In w' v c := by
  induction h with
  | i x => exact .i x
  | b x => exact .b x
  | s x => exact .s x
  | l a T k n c cs vs h1 h2 hn h3 h4 ih =>
    refine .l a T k n c cs vs h1 h2 hn ?_ ih
    rcases h3 with h3 | ⟨b, o, e, g⟩
    · exact .inl h3
    · refine .inr ⟨b, o, e, fun j hj => ?_⟩
      have h5 := g j hj
      have h6 : w.cell? ⟨b, o + j, none⟩ = some (vs[j]'(by omega)) := by rw [h5, List.getElem?_eq_getElem (by omega)]
      rw [hb.cell (show b < B from Nat.lt_of_lt_of_le (World.block_lt_of_cell? w _ h6) hB)]
      exact h5
theorem InL.on {w w' : World} {vs : List Value} {cs : List Cel} (h : InL w vs cs) {B : Nat} (hb : Below B w w') (hB : w.heap.size ≤ B) : InL w' vs cs :=
  ⟨h.1, fun j v c hv hc => (h.2 j v c hv hc).on hb hB⟩
theorem big_mem : ∀ {cs : List Cel} {j : Nat} {c : Cel}, cs[j]? = some c → c.big ≤ bigL cs
  | [], _, _, h => by simp at h
  | d :: cs, 0, c, h => by simp at h; subst h; simp [bigL]
  | d :: cs, j + 1, c, h => by
    have := big_mem (cs := cs) (j := j) (by simpa using h)
    simp only [bigL]; omega
/-- What came in and is not too great can be read. -/
theorem In.at {w : World} {v : Value} {c : Cel} (h : In w v c) (hb : c.big ≤ 2097152) : At false w v c := by
  induction h with
  | i x => exact .i x
  | b x => exact .b x
  | s x => exact .s x
  | l a T k n c cs vs h1 h2 hn h3 h4 ih =>
    simp only [Cel.big] at hb
    exact .l a T k n c cs vs h1 h2 (by omega) (fun h => by cases h) h3 fun j v c hv hc => ih j v c hv hc (by have := big_mem hc; omega)
theorem InL.at {w : World} {vs : List Value} {cs : List Cel} (h : InL w vs cs) (hb : bigL cs ≤ 2097152) : AtL false w vs cs :=
  ⟨h.1, fun j v c hv hc => (h.2 j v c hv hc).at (by have := big_mem hc; omega)⟩
theorem InL.nil {w : World} : InL w [] [] := ⟨rfl, fun j v c hv _ => by simp at hv⟩
theorem InL.cons {w : World} {v : Value} {c : Cel} {vs : List Value} {cs : List Cel} (h : In w v c) (hs : InL w vs cs) : InL w (v :: vs) (c :: cs) := by
  refine ⟨by simp [hs.1], fun j v' c' hv hc => ?_⟩
  cases j with
  | zero => simp at hv hc; subst hv hc; exact h
  | succ j => simp at hv hc; exact hs.2 j v' c' hv hc
theorem InL.nilE {w : World} {vs : List Value} (h : InL w vs []) : vs = [] := List.length_eq_zero_iff.1 h.1
theorem InL.consE {w : World} {vs : List Value} {c : Cel} {cs : List Cel} (h : InL w vs (c :: cs)) : ∃ v vs', vs = v :: vs' ∧ In w v c ∧ InL w vs' cs := by
  match vs, h with
  | [], h => have := h.1; simp at this
  | v :: vs', h => exact ⟨v, vs', rfl, h.2 0 v c rfl rfl, ⟨by have := h.1; simpa using this, fun j v' c' hv hc => h.2 (j + 1) v' c' (by simpa using hv) (by simpa using hc)⟩⟩
theorem In.int {w : World} {v : Value} {x : Int} (h : In w v (.i x)) : v = .int .i64 x := by cases h; rfl
theorem In.bool {w : World} {v : Value} {x : Bool} (h : In w v (.b x)) : v = .bool x := by cases h; rfl
theorem In.str {w : World} {v : Value} {x : ByteArray} (h : In w v (.s x)) : v = .string x := by cases h; rfl
theorem In.openL {w : World} {v : Value} {T : TypeId} {k n : Nat} {cs : List Cel} (h : In w v (.l T k n cs)) : ∃ (a : Option Addr) (c : Nat) (vs : List Value), v = .slice a n c ∧ vs.length = n * k ∧ cs.length = n * k ∧ n ≤ 9223372036854775807 ∧
    (n = 0 ∨ ∃ b o, a = some ⟨b, o, none⟩ ∧ ∀ j, j < n * k → w.cell? ⟨b, o + j, none⟩ = vs[j]?) ∧ ∀ (j : Nat) (v : Value) (c : Cel), vs[j]? = some v → cs[j]? = some c → In w v c := by
  cases h with
  | l a T k n c cs vs h1 h2 hn h3 h4 => exact ⟨a, c, vs, rfl, h1, h2, hn, h3, h4⟩
theorem rowIn {w : World} {k n j : Nat} {cs : List Cel} {vs : List Value} (h1 : vs.length = n * k) (h2 : cs.length = n * k) (h4 : ∀ (j : Nat) (v : Value) (c : Cel), vs[j]? = some v → cs[j]? = some c → In w v c) (hj : j < n) : InL w ((vs.drop (j * k)).take k) (row cs k j) := by
  have hle : j * k + k ≤ n * k := by rw [← Nat.succ_mul]; exact Nat.mul_le_mul_right k hj
  refine ⟨by rw [rowL_len h2 hj, List.length_take, List.length_drop, h1]; omega, fun i v c hv hc => ?_⟩
  have hi : i < k := by have := (List.getElem?_eq_some_iff.1 hc).1; rw [rowL_len h2 hj] at this; exact this
  rw [row_at hi] at hc
  rw [List.getElem?_take_of_lt hi, List.getElem?_drop] at hv
  exact h4 _ v c hv hc
def Ty.flat : Ty → Bool
  | .i => true
  | .b => true
  | _ => false
theorem bigL_zero : ∀ {cs : List Cel}, (∀ (j : Nat) (c : Cel), cs[j]? = some c → c.big = 0) → bigL cs = 0
  | [], _ => rfl
  | c :: cs, h => by
    have h0 := h 0 c rfl
    have h1 := bigL_zero (cs := cs) fun j c' hc => h (j + 1) c' (by simpa using hc)
    simp only [bigL]; omega
theorem big_flat {T : TypeId} {k n : Nat} {cs : List Cel} {fs : List Ty} (h : Has (.l T k n cs) (.l T k fs)) (hf : fs.all Ty.flat = true) : bigL cs = 0 := by
  cases h with
  | l _ _ _ _ _ hk h1 h2 =>
    refine bigL_zero fun j c hc => ?_
    have hj : j < n * k := by have := (List.getElem?_eq_some_iff.1 hc).1; omega
    have hk0 : 0 < k := by
      rcases Nat.eq_zero_or_pos k with h0 | h0
      · rw [h0] at hj; simp at hj
      · exact h0
    have hm : j % k < fs.length := by rw [hk]; exact Nat.mod_lt _ hk0
    have ht : fs[j % k]? = some (fs[j % k]'hm) := List.getElem?_eq_getElem hm
    have h3 := h2 j c _ hc ht
    have h4 : Ty.flat (fs[j % k]'hm) = true := (List.all_eq_true.1 hf) _ (List.getElem_mem hm)
    revert h3 h4
    generalize fs[j % k]'hm = t
    intro h3 h4
    cases h3 <;> simp [Ty.flat, Cel.big] at h4 ⊢
def Left (w : World) (m : Nat) (l : Int) (e : Ending) (w' : World) : Prop := Below w.heap.size w w' ∧ ((∃ r : Int, e = .returned (.int .i64 r) ∧ (m : Int) ≤ l ∧ r = l - (m : Int)) ∨ (e = .returned (.int .i64 (-1)) ∧ l < (m : Int)))
/-- While a struct is gone through: its box. -/
structure One (w W : World) (A : Array Value) (T : TypeId) : Prop where
  a : Box W w.heap.size A T
  on : Below w.heap.size w W
theorem one_new (w : World) (A : Array Value) (T : TypeId) : One w (w.alloc (.cells A T)) A T := ⟨box_of w A T, (Below.refl _ w).alloc (Nat.le_refl _) _⟩
theorem One.call {w W W' : World} {A : Array Value} {T : TypeId} (h : One w W A T) (hb : Below W.heap.size W W') : One w W' A T := ⟨h.a.below hb h.a.lt, h.on.trans (hb.mono h.on.size)⟩
end Go.Proofs.YtkbodiggdajbeaaGreatDoor

/- Data that is marked in its place: what a call writes into the lists it owns. No program. -/
namespace Go.Proofs.YtkbodiggdajbeaaGreatDoor
open Go.ChangeShapes Go.WideShapes Go.ChangeAt Go.RowKit Go.Joins

/-- Nothing was turned but blocks of S. -/
structure Kept (S : Nat → Prop) (w w' : World) : Prop where
  on : Below 0 w w'
  oth : ∀ x, x < w.heap.size → ¬ S x → w'.heap[x]? = w.heap[x]?
theorem Kept.refl (S : Nat → Prop) (w : World) : Kept S w w := ⟨Below.refl _ _, fun _ _ _ => rfl⟩
theorem Kept.trans {S : Nat → Prop} {w w1 w2 : World} (h : Kept S w w1) (h' : Kept S w1 w2) : Kept S w w2 :=
  ⟨h.on.trans h'.on, fun x hx hS => (h'.oth x (Nat.lt_of_lt_of_le hx h.on.size) hS).trans (h.oth x hx hS)⟩
theorem Kept.mono {S S' : Nat → Prop} {w w' : World} (h : Kept S w w') (hS : ∀ x, S x → S' x) : Kept S' w w' := ⟨h.on, fun x hx hn => h.oth x hx fun hs => hn (hS x hs)⟩
theorem Kept.set {S : Nat → Prop} {w w' : World} (h : Kept S w w') {g i : Nat} (hg : S g) (v : Value) : Kept S w (w'.setCell ⟨g, i, none⟩ v) :=
  ⟨h.on.setCell (Nat.zero_le _) v, fun x hx hn => (Below.heap_setCell _ _ _ _ (fun e => by
    have e : x = g := e
    exact hn (by rw [e]; exact hg))).trans (h.oth x hx hn)⟩
theorem Kept.grow {S : Nat → Prop} {w w' w2 : World} (h : Kept S w w') (hb : Below w'.heap.size w' w2) : Kept S w w2 :=
  ⟨h.on.trans (hb.mono (Nat.zero_le _)), fun x hx hn => (hb.block x (Nat.lt_of_lt_of_le hx h.on.size)).trans (h.oth x hx hn)⟩
theorem Kept.below {S : Nat → Prop} {w w' : World} (h : Kept S w w') {B : Nat} (hS : ∀ x, S x → B ≤ x) (hB : B ≤ w.heap.size) : Below B w w' :=
  ⟨h.on.os, h.on.tape, h.on.output, h.on.size, fun k hk => h.oth k (by omega) fun hs => by have := hS k hs; omega⟩
theorem cell_ne (w : World) {g i j : Nat} (h : i ≠ j) (u : Value) : (w.setCell ⟨g, i, none⟩ u).cell? ⟨g, j, none⟩ = w.cell? ⟨g, j, none⟩ := World.cell?_setCell_other _ _ _ _ (fun e => by simp only [Addr.mk.injEq] at e; omega)
/-- A cell that is a list: what is marked within it. -/
theorem Own.lensL {w : World} {base : Nat} {g n cap : Nat} {T : TypeId} {k : Nat} {cs : List Cel} {S : Nat → Prop} (h : Own w base (.slice (some ⟨g, 0, none⟩) n cap) (.l T k n cs) S) {j : Nat} {c : Cel} (hc : cs[j]? = some c) :
    ∃ v Sj, w.cell? ⟨g, j, none⟩ = some v ∧ Own w base v c Sj ∧ (∀ x, Sj x → S x) ∧ ∀ w' c', Own w' base v c' Sj → (∀ x, S x → ¬ Sj x → w'.heap[x]? = w.heap[x]?) → Own w' base (.slice (some ⟨g, 0, none⟩) n cap) (.l T k n (cs.set j c')) S := by
  cases h with
  | l g cap T k n cs vs S Ss h1 h2 hn h4 h5 h6 h7 =>
    have hj : j < cs.length := (List.getElem?_eq_some_iff.1 hc).1
    have hl := h1.1
    have hv : vs[j]? = some (vs[j]'(by omega)) := List.getElem?_eq_getElem (by omega)
    have sub : ∀ i x, i < n * k → Ss i x → S x := fun i x hi hx => (h7 x).2 (.inr ⟨i, hi, hx⟩)
    refine ⟨_, Ss j, own_cellV h1 hv, h4 j _ _ hv hc, fun x => sub j x (by omega), fun w' c' ho he => ?_⟩
    refine .l g cap T k n _ vs S Ss (owns_heap h1 fun x hx => ?_) (by simpa using h2) hn (fun i v d hvi hdi => ?_) h5 h6 h7
    · cases hx
      exact he g ((h7 g).2 (.inl rfl)) (h5 j)
    · by_cases hij : j = i
      · subst hij
        rw [List.getElem?_set_self hj] at hdi
        cases hdi
        rw [hv] at hvi
        cases hvi
        exact ho
      · rw [List.getElem?_set_ne hij] at hdi
        have hi : i < n * k := by have := (List.getElem?_eq_some_iff.1 hvi).1; omega
        exact (h4 i v d hvi hdi).heap fun x hx => he x (sub i x hi hx) (h6 i j x (Ne.symm hij) hx)
/-- A cell that is a number or a flag, written. -/
theorem Own.put {w : World} {base : Nat} {g n cap : Nat} {T : TypeId} {k : Nat} {cs : List Cel} {S : Nat → Prop} (h : Own w base (.slice (some ⟨g, 0, none⟩) n cap) (.l T k n cs) S) {j : Nat} {c c' : Cel} (hc : cs[j]? = some c) (h0 : ∀ v Sj, Own w base v c Sj → ∀ x, ¬ Sj x) {u : Value} (hu : ∀ w' Sj, (∀ x, ¬ Sj x) → Own w' base u c' Sj) :
    Own (w.setCell ⟨g, j, none⟩ u) base (.slice (some ⟨g, 0, none⟩) n cap) (.l T k n (cs.set j c')) S := by
  cases h with
  | l g cap T k n cs vs S Ss h1 h2 hn h4 h5 h6 h7 =>
    have hj : j < cs.length := (List.getElem?_eq_some_iff.1 hc).1
    have hl := h1.1
    have hv : vs[j]? = some (vs[j]'(by omega)) := List.getElem?_eq_getElem (by omega)
    have hz := h0 _ _ (h4 j _ _ hv hc)
    refine .l g cap T k n _ (vs.set j u) S Ss (h1.stored j u).1 (by simpa using h2) hn (fun i v d hvi hdi => ?_) h5 h6 h7
    by_cases hij : j = i
    · subst hij
      rw [List.getElem?_set_self (by omega)] at hvi hdi
      cases hvi
      cases hdi
      exact hu _ _ hz
    · rw [List.getElem?_set_ne hij] at hvi hdi
      exact (h4 i v d hvi hdi).heap fun x hx => Below.heap_setCell _ _ _ _ (fun e => h5 i (by have e : x = g := e; rw [← e]; exact hx))
theorem own_i {w : World} {base : Nat} {y : Int} (v : Value) (Sj : Nat → Prop) (h : Own w base v (.i y) Sj) : ∀ x, ¬ Sj x := by cases h; assumption
theorem own_b {w : World} {base : Nat} {y : Bool} (v : Value) (Sj : Nat → Prop) (h : Own w base v (.b y) Sj) : ∀ x, ¬ Sj x := by cases h; assumption
theorem Own.putI {w : World} {base : Nat} {g n cap : Nat} {T : TypeId} {k : Nat} {cs : List Cel} {S : Nat → Prop} (h : Own w base (.slice (some ⟨g, 0, none⟩) n cap) (.l T k n cs) S) {j : Nat} {y : Int} (hc : cs[j]? = some (.i y)) (z : Int) :
    Own (w.setCell ⟨g, j, none⟩ (.int .i64 z)) base (.slice (some ⟨g, 0, none⟩) n cap) (.l T k n (cs.set j (.i z))) S := h.put hc own_i fun _ _ hS => .i z _ hS
theorem Own.putB {w : World} {base : Nat} {g n cap : Nat} {T : TypeId} {k : Nat} {cs : List Cel} {S : Nat → Prop} (h : Own w base (.slice (some ⟨g, 0, none⟩) n cap) (.l T k n cs) S) {j : Nat} {y : Bool} (hc : cs[j]? = some (.b y)) (z : Bool) :
    Own (w.setCell ⟨g, j, none⟩ (.bool z)) base (.slice (some ⟨g, 0, none⟩) n cap) (.l T k n (cs.set j (.b z))) S := h.put hc own_b fun _ _ hS => .b z _ hS
/-- What a function that marks answers. -/
def Marked (tx : Int → ByteArray) (w : World) (base : Nat) (v : Value) (c : Cel) (S : Nat → Prop) (q : Int) (e : Ending) (w' : World) : Prop := e = .returned (.int .i64 (q + (c.cnt : Int))) ∧ Own w' base v (c.mark tx q) S ∧ Kept S w w'
theorem over_mid : ∀ (C A B : List Cel), C.length ≤ B.length → over (A ++ B) A.length C = A ++ C ++ B.drop C.length
  | [], A, B, _ => by simp [over]
  | c :: C, A, B, h => by
    match B, h with
    | [], h => simp at h
    | b :: B, h =>
      simp only [over]
      have e : (A ++ b :: B).set A.length c = (A ++ [c]) ++ B := by simp
      rw [e]
      have := over_mid C (A ++ [c]) B (by simpa using h)
      rw [List.length_append] at this
      simp only [List.length_singleton] at this
      rw [this]
      simp
theorem mark_row (tx : Int → ByteArray) {cs : List Cel} {k n j : Nat} (hl : cs.length = n * k) (hj : j < n) (q : Int) :
    over (markL tx (cs.take (j * k)) q ++ cs.drop (j * k)) (j * k) (markL tx (row cs k j) (q + (cntL (cs.take (j * k)) : Int))) = markL tx (cs.take ((j + 1) * k)) q ++ cs.drop ((j + 1) * k) := by
  have hle : j * k + k ≤ n * k := by rw [← Nat.succ_mul]; exact Nat.mul_le_mul_right k hj
  have hA : (markL tx (cs.take (j * k)) q).length = j * k := by rw [markL_len, List.length_take]; omega
  have := over_mid (markL tx (row cs k j) (q + (cntL (cs.take (j * k)) : Int))) (markL tx (cs.take (j * k)) q) (cs.drop (j * k)) (by rw [markL_len, rowL_len hl hj, List.length_drop]; omega)
  rw [hA] at this
  rw [this, markL_len, rowL_len hl hj, List.drop_drop, ← Nat.succ_mul, row_split, markL_append]
theorem mark_at (tx : Int → ByteArray) {cs : List Cel} {p i : Nat} (hp : p ≤ cs.length) (q : Int) : (markL tx (cs.take p) q ++ cs.drop p)[p + i]? = cs[p + i]? := by
  have hA : (markL tx (cs.take p) q).length = p := by rw [markL_len, List.length_take]; omega
  rw [List.getElem?_append_right (by omega), hA, List.getElem?_drop]
  congr 1; omega
theorem cnt_split {cs : List Cel} {k j : Nat} : cntL (cs.take ((j + 1) * k)) = cntL (cs.take (j * k)) + cntL (row cs k j) := by rw [row_split, cntL_append]
theorem cnt_le {cs : List Cel} {p : Nat} : cntL (cs.take p) ≤ cntL cs := by
  have := cntL_append (cs.take p) (cs.drop p)
  rw [List.take_append_drop] at this
  omega
theorem markL_drop (tx : Int → ByteArray) (cs : List Cel) (p : Nat) (q : Int) : (markL tx cs q).drop p = markL tx (cs.drop p) (q + (cntL (cs.take p) : Int)) := by
  by_cases hp : p ≤ cs.length
  · have h := markL_append tx (cs.take p) (cs.drop p) q
    rw [List.take_append_drop] at h
    rw [h, List.drop_left' (by rw [markL_len, List.length_take]; omega)]
  · rw [List.drop_eq_nil_of_le (by rw [markL_len]; omega), List.drop_eq_nil_of_le (by omega)]
    rfl
theorem markL_take (tx : Int → ByteArray) (cs : List Cel) (p : Nat) (q : Int) : (markL tx cs q).take p = markL tx (cs.take p) q := by
  by_cases hp : p ≤ cs.length
  · have h := markL_append tx (cs.take p) (cs.drop p) q
    rw [List.take_append_drop] at h
    rw [h, List.take_left' (by rw [markL_len, List.length_take]; omega)]
  · rw [List.take_of_length_le (by rw [markL_len]; omega), List.take_of_length_le (by omega)]
theorem row_mark (tx : Int → ByteArray) (cs : List Cel) (k j : Nat) (q : Int) : row (markL tx cs q) k j = markL tx (row cs k j) (q + (cntL (cs.take (j * k)) : Int)) := by
  unfold row
  rw [markL_drop, markL_take]
def SaysD (w : World) (x : Int) (e : Ending) (w' : World) : Prop := e = .returned (.int .i64 x) ∧ Below w.heap.size w w'
end Go.Proofs.YtkbodiggdajbeaaGreatDoor

/- A struct whose lists are marked: its parts, one by one. No program. -/
namespace Go.Proofs.YtkbodiggdajbeaaGreatDoor
open Go.ChangeShapes Go.WideShapes Go.ChangeAt Go.RowKit Go.Joins

/-- A struct's lists, marked; its own numbers stay. -/
def topL (tx : Int → ByteArray) : List Cel → Int → List Cel
  | [], _ => []
  | .l T k n cs :: r, q => .l T k n (markL tx cs q) :: topL tx r (q + (cntL cs : Int))
  | .i x :: r, q => .i x :: topL tx r q
  | .b x :: r, q => .b x :: topL tx r q
  | .s x :: r, q => .s x :: topL tx r q
def tcnt : List Cel → Nat
  | [] => 0
  | .l _ _ _ cs :: r => cntL cs + tcnt r
  | .i _ :: r => tcnt r
  | .b _ :: r => tcnt r
  | .s _ :: r => tcnt r
theorem OwnL.set {w : World} {b : Nat} {vs : List Value} {cs : List Cel} {S S' : Nat → Prop} (h : OwnL w b vs cs S) (hS : ∀ x, S x ↔ S' x) : OwnL w b vs cs S' := by
  obtain ⟨l, Ss, h1, h2, h3⟩ := h
  exact ⟨l, Ss, h1, h2, fun x => (hS x).symm.trans (h3 x)⟩
theorem OwnL.none {w : World} {b : Nat} {S : Nat → Prop} (h : OwnL w b [] [] S) : ∀ x, ¬ S x := fun x hx => by
  obtain ⟨_, Ss, _, _, h3⟩ := h
  obtain ⟨j, hj, _⟩ := (h3 x).1 hx
  simp at hj
theorem OwnL.one {w : World} {b : Nat} {v : Value} {c : Cel} {S : Nat → Prop} (h : OwnL w b [v] [c] S) : Own w b v c S := by
  obtain ⟨S0, S1, h0, h1, -, hS⟩ := h.parts
  exact h0.set fun x => ⟨fun hx => (hS x).2 (.inl hx), fun hx => ((hS x).1 hx).resolve_right (h1.none x)⟩
theorem Own.oneL {w : World} {b : Nat} {v : Value} {c : Cel} {S : Nat → Prop} (h : Own w b v c S) : OwnL w b [v] [c] S :=
  OwnL.cons h (OwnL.nil (S := fun _ => False) (fun _ h => h)) (fun _ _ h => h) (fun _ => by simp)
theorem OwnL.cut : ∀ {cs1 : List Cel} {vs1 vs2 : List Value} {cs2 : List Cel} {w : World} {b : Nat} {S : Nat → Prop}, vs1.length = cs1.length → OwnL w b (vs1 ++ vs2) (cs1 ++ cs2) S → ∃ S1 S2, OwnL w b vs1 cs1 S1 ∧ OwnL w b vs2 cs2 S2 ∧ (∀ x, S1 x → ¬ S2 x) ∧ ∀ x, S x ↔ S1 x ∨ S2 x
  | [], vs1, vs2, cs2, w, b, S, hl, h => by
    obtain rfl : vs1 = [] := List.length_eq_zero_iff.1 hl
    exact ⟨fun _ => False, S, OwnL.nil (fun _ h => h), h, fun _ h => h.elim, fun x => by simp⟩
  | c :: cs1, [], vs2, cs2, w, b, S, hl, h => by simp at hl
  | c :: cs1, v :: vs1, vs2, cs2, w, b, S, hl, h => by
    obtain ⟨S0, S', h0, h1, hd, hS⟩ := OwnL.parts h
    obtain ⟨S1, S2, g1, g2, gd, gS⟩ := OwnL.cut (cs1 := cs1) (vs1 := vs1) (by simpa using hl) h1
    refine ⟨fun x => S0 x ∨ S1 x, S2, OwnL.cons h0 g1 (fun x hx hx' => hd x hx ((gS x).2 (.inl hx'))) (fun _ => Iff.rfl), g2, fun x hx hx' => ?_, fun x => ?_⟩
    · rcases hx with hx | hx
      · exact hd x hx ((gS x).2 (.inr hx'))
      · exact gd x hx hx'
    · rw [hS x, gS x, or_assoc]
abbrev Part := List Value × List Cel × (Nat → Prop)
theorem owns_cut {w : World} {b : Nat} : ∀ {G : List (List Value × List Cel)} {S : Nat → Prop}, (∀ p ∈ G, p.1.length = p.2.length) → OwnL w b (G.flatMap (·.1)) (G.flatMap (·.2)) S →
    ∃ R : List Part, R.map (fun r => (r.1, r.2.1)) = G ∧ (∀ r ∈ R, OwnL w b r.1 r.2.1 r.2.2) ∧ R.Pairwise (fun p q => ∀ x, p.2.2 x → ¬ q.2.2 x) ∧ ∀ x, S x ↔ ∃ r ∈ R, r.2.2 x
  | [], S, _, h => ⟨[], rfl, fun r hr => by simp at hr, List.Pairwise.nil, fun x => ⟨fun hx => absurd hx (OwnL.none h x), fun ⟨r, hr, _⟩ => by simp at hr⟩⟩
  | (vs, cs) :: G, S, hG, h => by
    obtain ⟨S1, S2, g1, g2, gd, gS⟩ := OwnL.cut (hG (vs, cs) (by simp)) (by simpa using h)
    obtain ⟨R, e, o, d, u⟩ := owns_cut (fun p hp => hG p (by simp [hp])) g2
    refine ⟨(vs, cs, S1) :: R, by simp [e], fun r hr => ?_, List.pairwise_cons.2 ⟨fun r hr x hx hx' => gd x hx ((u x).2 ⟨r, hr, hx'⟩), d⟩, fun x => ?_⟩
    · rcases List.mem_cons.1 hr with rfl | hr
      · exact g1
      · exact o r hr
    · rw [gS x, u x]; simp
/-- While a struct's lists are marked. -/
structure Mg (w W : World) (base : Nat) (S : Nat → Prop) (A : Array Value) (T : TypeId) (R : List Part) : Prop where
  a : Box W w.heap.size A T
  on : Below 0 w W
  oth : ∀ x, x < w.heap.size → ¬ S x → W.heap[x]? = w.heap[x]?
  lt : ∀ x, S x → x < w.heap.size
  o : ∀ r ∈ R, OwnL W base r.1 r.2.1 r.2.2
  d : R.Pairwise (fun p q => ∀ x, p.2.2 x → ¬ q.2.2 x)
  u : ∀ x, S x ↔ ∃ r ∈ R, r.2.2 x
theorem mg_new {w : World} {base : Nat} {S : Nat → Prop} {R : List Part} (A : Array Value) (T : TypeId) (o : ∀ r ∈ R, OwnL w base r.1 r.2.1 r.2.2) (d : R.Pairwise (fun p q => ∀ x, p.2.2 x → ¬ q.2.2 x)) (u : ∀ x, S x ↔ ∃ r ∈ R, r.2.2 x) : Mg w (w.alloc (.cells A T)) base S A T R := by
  have hb : Below w.heap.size w (w.alloc (.cells A T)) := (Below.refl _ w).alloc (Nat.le_refl _) _
  exact ⟨box_of w A T, hb.mono (Nat.zero_le _), fun x hx _ => hb.block x hx, fun x hx => by
    obtain ⟨r, hr, hx⟩ := (u x).1 hx
    exact ((o r hr).lt x hx).2, fun r hr => (o r hr).on hb (Nat.le_refl _), d, u⟩
theorem Mg.step {w W W' : World} {base : Nat} {S Sf : Nat → Prop} {A : Array Value} {T : TypeId} {pre post : List Part} {vs : List Value} {cs cs' : List Cel} (h : Mg w W base S A T (pre ++ (vs, cs, Sf) :: post)) (ho : OwnL W' base vs cs' Sf) (hk : Kept Sf W W') : Mg w W' base S A T (pre ++ (vs, cs', Sf) :: post) := by
  have sub : ∀ x, Sf x → S x := fun x hx => (h.u x).2 ⟨(vs, cs, Sf), by simp, hx⟩
  have lt : ∀ x, x < w.heap.size → x < W.heap.size := fun x hx => Nat.lt_of_lt_of_le hx h.on.size
  have hd := List.pairwise_append.1 h.d
  have hd2 := List.pairwise_cons.1 hd.2.1
  refine ⟨?_, h.on.trans hk.on, fun x hx hn => (hk.oth x (lt x hx) fun hs => hn (sub x hs)).trans (h.oth x hx hn), h.lt, fun r hr => ?_, ?_, fun x => ?_⟩
  · exact (hk.oth _ h.a.lt fun hs => by have := h.lt _ (sub _ hs); omega).trans h.a
  · have keep : r ∈ pre ++ (vs, cs, Sf) :: post → (∀ x, r.2.2 x → ¬ Sf x) → OwnL W' base r.1 r.2.1 r.2.2 := fun hr hn => (h.o r hr).heap fun x hx => hk.oth x ((h.o r hr).lt x hx).2 (hn x hx)
    rcases List.mem_append.1 hr with hr | hr
    · exact keep (List.mem_append.2 (.inl hr)) (fun x hx => hd.2.2 r hr _ (List.mem_cons_self ..) x hx)
    · rcases List.mem_cons.1 hr with rfl | hr
      · exact ho
      · exact keep (List.mem_append.2 (.inr (List.mem_cons_of_mem _ hr))) (fun x hx hs => hd2.1 r hr x hs hx)
  · refine List.pairwise_append.2 ⟨hd.1, List.pairwise_cons.2 ⟨fun r hr => hd2.1 r hr, hd2.2⟩, fun r hr q hq => ?_⟩
    rcases List.mem_cons.1 hq with rfl | hq
    · exact hd.2.2 r hr (vs, cs, Sf) (List.mem_cons_self ..)
    · exact hd.2.2 r hr q (List.mem_cons_of_mem _ hq)
  · rw [h.u x]
    constructor
    · rintro ⟨r, hr, hx⟩
      rcases List.mem_append.1 hr with hr | hr
      · exact ⟨r, List.mem_append.2 (.inl hr), hx⟩
      · rcases List.mem_cons.1 hr with rfl | hr
        · exact ⟨(vs, cs', Sf), by simp, hx⟩
        · exact ⟨r, List.mem_append.2 (.inr (List.mem_cons_of_mem _ hr)), hx⟩
    · rintro ⟨r, hr, hx⟩
      rcases List.mem_append.1 hr with hr | hr
      · exact ⟨r, List.mem_append.2 (.inl hr), hx⟩
      · rcases List.mem_cons.1 hr with rfl | hr
        · exact ⟨(vs, cs, Sf), by simp, hx⟩
        · exact ⟨r, List.mem_append.2 (.inr (List.mem_cons_of_mem _ hr)), hx⟩
theorem Mg.at {w W : World} {base : Nat} {S Sf : Nat → Prop} {A : Array Value} {T : TypeId} {pre post : List Part} {vs : List Value} {cs : List Cel} (h : Mg w W base S A T (pre ++ (vs, cs, Sf) :: post)) : OwnL W base vs cs Sf := h.o (vs, cs, Sf) (by simp)
theorem Mg.all {w W : World} {base : Nat} {S : Nat → Prop} {A : Array Value} {T : TypeId} {R : List Part} (h : Mg w W base S A T R) : OwnL W base (R.flatMap (·.1)) (R.flatMap (·.2.1)) S ∧ Kept S w W := ⟨(owns_all h.o h.d).set fun x => (h.u x).symm, h.on, h.oth⟩
def MarkedL (tx : Int → ByteArray) (w : World) (base : Nat) (vs : List Value) (cs : List Cel) (S : Nat → Prop) (q : Int) (e : Ending) (w' : World) : Prop := e = .returned (.int .i64 (q + (tcnt cs : Int))) ∧ OwnL w' base vs (topL tx cs q) S ∧ Kept S w w'
end Go.Proofs.YtkbodiggdajbeaaGreatDoor

/- The laws' own functions on data. -/
namespace Go.Proofs.YtkbodiggdajbeaaGreatDoor
open Go.ChangeShapes Go.WideShapes Go.ChangeAt Go.RowKit Go.Joins
set_option linter.unusedSimpArgs false

def tyOp : List Ty := [(.i), (.i), (.i)]
def tyPair : List Ty := [(.i), (.i)]
def tyHelp : List Ty := [(.i), (.i), (.i), (.i)]
def tyEntry : List Ty := [(.i), (.i), (.i)]
def tyWord : List Ty := [(.i), (.i), (.i)]
def tyRes : List Ty := [(.i), (.l 3 1 [.i])]
def tyRows : List Ty := [(.l 3 1 [.i]), (.i)]
def tyThread : List Ty := [(.l 57 3 tyOp), (.i), (.b), (.l 176 2 tyPair), (.l 180 4 tyHelp)]
def tyDesc : List Ty := [(.i), (.i), (.l 139 3 tyEntry), (.i), (.l 3 1 [.i])]
def tyMem : List Ty := [(.l 134 3 tyWord), (.l 137 5 tyDesc)]
def tyCall : List Ty := [(.i), (.i), (.i), (.i), (.i), (.i), (.i), (.i), (.l 3 1 [.i])]
def tyMachine : List Ty := [(.l 134 3 tyWord), (.l 137 5 tyDesc), (.l 100 5 tyThread), (.i), (.l 61 9 tyCall), (.l 3 1 [.i]), (.l 3 1 [.i]), (.i)]
end Go.Proofs.YtkbodiggdajbeaaGreatDoor
