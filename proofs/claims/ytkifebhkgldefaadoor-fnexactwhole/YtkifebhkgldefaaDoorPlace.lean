/- impl.placeOf, walked: the place of a name in the program's table of names, or -1. -/
import Derived.Test.YtkifebhkgldefaaDoorRows
import Derived.WalkKit
import Derived.WalkSmall
import Derived.ProofKit
import Derived.Below
import Derived.Laws.StructEq
import Derived.ChangeKeysEq
import Derived.OwnWalk
namespace Go.Proofs.YtkifebhkgldefaaDoor
open Go.ChangeShapes Go.WideShapes Go.ChangeAt Go.RowKit

/-- The names, at their places. -/
def nmL : List (Int × Int) := [(1, 0), (1, 1), (1, 2), (1, 3), (2, 1), (2, 2), (2, 3), (2, 4), (2, 5), (2, 6), (3, 0), (3, 1), (3, 2), (4, 0), (5, 1), (5, 2), (5, 3), (5, 4), (5, 5), (5, 6)]
def nmA (k : Nat) : Int := (nmL.getD k (0, 0)).1
def nmB (k : Nat) : Int := (nmL.getD k (0, 0)).2
def nmCells : Array Value := (nmL.flatMap fun p => [Value.int .i64 p.1, .int .i64 p.2]).toArray
/-- The variable holds the names. -/
def Names (w : World) : Prop := w.var? Tryd.prog "loop.example/g00468/impl.wordNames" = some nmCells

theorem gNames : Tryd.prog.globalNamed "loop.example/g00468/impl.wordNames" = some 0 := by kernel_rfl
theorem gNamesType : (Tryd.prog.globals[0]?).map (·.type) = some 48 := by kernel_rfl

theorem Names.block {w : World} (h : Names w) : ∃ t fr, w.heap[0]? = some (.cells nmCells t fr) := by
  unfold Names at h
  simp only [World.var?, gNames, Option.bind_some] at h
  split at h
  · rename_i c t fr hb
    simp only [Option.some.injEq] at h
    subst h
    exact ⟨t, fr, hb⟩
  · cases h
theorem Names.lt {w : World} (h : Names w) : 0 < w.heap.size := by
  obtain ⟨t, fr, h1⟩ := h.block
  exact (Array.getElem?_eq_some_iff.1 h1).1
theorem Names.below {w w' : World} {B : Nat} (h : Names w) (hb : Below B w w') (hB : 0 < B) : Names w' :=
  var?_below hb gNames hB h

theorem index_names (k : Nat) (hk : k < 20) (w : World) : (Instr.index 48 (.agg nmCells) (.int .i64 (k : Int))).run Tryd.prog w = .ok (.agg #[.int .i64 (nmA k), .int .i64 (nmB k)]) w := by
  have h : k = 0 ∨ k = 1 ∨ k = 2 ∨ k = 3 ∨ k = 4 ∨ k = 5 ∨ k = 6 ∨ k = 7 ∨ k = 8 ∨ k = 9 ∨ k = 10 ∨ k = 11 ∨ k = 12 ∨ k = 13 ∨ k = 14 ∨ k = 15 ∨ k = 16 ∨ k = 17 ∨ k = 18 ∨ k = 19 := by omega
  rcases h with rfl | rfl | rfl | rfl | rfl | rfl | rfl | rfl | rfl | rfl | rfl | rfl | rfl | rfl | rfl | rfl | rfl | rfl | rfl | rfl <;> (show _ = _; kernel_rfl)

/-- The place of a name. -/
def placeN (a b : Int) : Int :=
  if a = 1 ∧ 0 ≤ b ∧ b ≤ 3 then b else if a = 2 ∧ 1 ≤ b ∧ b ≤ 6 then b + 3 else if a = 3 ∧ 0 ≤ b ∧ b ≤ 2 then b + 10 else if a = 4 ∧ b = 0 then 13 else if a = 5 ∧ 1 ≤ b ∧ b ≤ 6 then b + 13 else -1

theorem place_at (k : Nat) (hk : k < 20) : placeN (nmA k) (nmB k) = k := by
  have h : k = 0 ∨ k = 1 ∨ k = 2 ∨ k = 3 ∨ k = 4 ∨ k = 5 ∨ k = 6 ∨ k = 7 ∨ k = 8 ∨ k = 9 ∨ k = 10 ∨ k = 11 ∨ k = 12 ∨ k = 13 ∨ k = 14 ∨ k = 15 ∨ k = 16 ∨ k = 17 ∨ k = 18 ∨ k = 19 := by omega
  rcases h with rfl | rfl | rfl | rfl | rfl | rfl | rfl | rfl | rfl | rfl | rfl | rfl | rfl | rfl | rfl | rfl | rfl | rfl | rfl | rfl <;> (show _ = _; kernel_rfl)
theorem place_none (a b : Int) (h : ∀ k : Nat, k < 20 → ¬ (nmA k = a ∧ nmB k = b)) : placeN a b = -1 := by
  have e1 : ¬ (a = 1 ∧ 0 ≤ b ∧ b ≤ 3) := by
    rintro ⟨rfl, h0, h1⟩
    have h2 : b = 0 ∨ b = 1 ∨ b = 2 ∨ b = 3 := by omega
    rcases h2 with rfl | rfl | rfl | rfl
    · exact h 0 (by omega) ⟨rfl, rfl⟩
    · exact h 1 (by omega) ⟨rfl, rfl⟩
    · exact h 2 (by omega) ⟨rfl, rfl⟩
    · exact h 3 (by omega) ⟨rfl, rfl⟩
  have e2 : ¬ (a = 2 ∧ 1 ≤ b ∧ b ≤ 6) := by
    rintro ⟨rfl, h0, h1⟩
    have h2 : b = 1 ∨ b = 2 ∨ b = 3 ∨ b = 4 ∨ b = 5 ∨ b = 6 := by omega
    rcases h2 with rfl | rfl | rfl | rfl | rfl | rfl
    · exact h 4 (by omega) ⟨rfl, rfl⟩
    · exact h 5 (by omega) ⟨rfl, rfl⟩
    · exact h 6 (by omega) ⟨rfl, rfl⟩
    · exact h 7 (by omega) ⟨rfl, rfl⟩
    · exact h 8 (by omega) ⟨rfl, rfl⟩
    · exact h 9 (by omega) ⟨rfl, rfl⟩
  have e3 : ¬ (a = 3 ∧ 0 ≤ b ∧ b ≤ 2) := by
    rintro ⟨rfl, h0, h1⟩
    have h2 : b = 0 ∨ b = 1 ∨ b = 2 := by omega
    rcases h2 with rfl | rfl | rfl
    · exact h 10 (by omega) ⟨rfl, rfl⟩
    · exact h 11 (by omega) ⟨rfl, rfl⟩
    · exact h 12 (by omega) ⟨rfl, rfl⟩
  have e4 : ¬ (a = 4 ∧ b = 0) := by
    rintro ⟨rfl, rfl⟩
    exact h 13 (by omega) ⟨rfl, rfl⟩
  have e5 : ¬ (a = 5 ∧ 1 ≤ b ∧ b ≤ 6) := by
    rintro ⟨rfl, h0, h1⟩
    have h2 : b = 1 ∨ b = 2 ∨ b = 3 ∨ b = 4 ∨ b = 5 ∨ b = 6 := by omega
    rcases h2 with rfl | rfl | rfl | rfl | rfl | rfl
    · exact h 14 (by omega) ⟨rfl, rfl⟩
    · exact h 15 (by omega) ⟨rfl, rfl⟩
    · exact h 16 (by omega) ⟨rfl, rfl⟩
    · exact h 17 (by omega) ⟨rfl, rfl⟩
    · exact h 18 (by omega) ⟨rfl, rfl⟩
    · exact h 19 (by omega) ⟨rfl, rfl⟩
  unfold placeN
  rw [if_neg e1, if_neg e2, if_neg e3, if_neg e4, if_neg e5]

theorem info_int : (Tryd.prog.info? 3).map (fun i => (i.zero, i.size, i.bytes)) = some (some (.int .i64 0), 1, 8) := by kernel_rfl
theorem cells_int : Tryd.prog.cellsOf 3 = 1 := by kernel_rfl
theorem part0 (x y : Int) (w : World) : (part 3 #[.int .i64 x, .int .i64 y] 0).run Tryd.prog w = .ok (.int .i64 x) w := by kernel_rfl
theorem part1 (x y : Int) (w : World) : (part 3 #[.int .i64 x, .int .i64 y] 1).run Tryd.prog w = .ok (.int .i64 y) w := by kernel_rfl
theorem eq_names (x y a b : Int) (w : World) : (binOp .eql 43 (.agg #[.int .i64 x, .int .i64 y]) (.agg #[.int .i64 a, .int .i64 b])).run Tryd.prog w = .ok (.bool (decide (x = a ∧ y = b))) w := by
  obtain ⟨i0, hi, hz0, hz1, hz2⟩ := info_parts info_int
  rw [run_eql_struct, run_equalIn_array w 9999 _ _ Tryd.underlying43 hi, cells_int, show List.range 2 = [0, 1] from rfl]
  simp only [Op.eqItems, Sem.run_bind, Nat.zero_mul, Nat.one_mul, part0, Result.andThen_ok, run_equalIn_int w 9998 3 .i64 .i64 _ _ Tryd.underlying3]
  by_cases h0 : x = a <;> by_cases h1 : y = b <;> simp [h0, h1, part1, run_equalIn_int w 9998 3 .i64 .i64 _ _ Tryd.underlying3]

set_option maxRecDepth 100000 in
theorem placeOf_any (a b : Int) (w : World) (hN : Names w) :
    Calls Tryd.prog 42 #[.agg #[.int .i64 a, .int .i64 b]] w fun e w' => e = .returned (.int .i64 (placeN a b)) ∧ Below w.heap.size w w' := by
  have hlt := hN.lt
  obtain ⟨tn, fr, hbl⟩ := (hN.below ((Below.refl _ w).alloc (Nat.le_refl _) (.cells #[.int .i64 a, .int .i64 b] 43)) hN.lt).block
  have hsz : nmCells.size = 40 := by decide +kernel
  have hix := index_names
  clear hN
  obtain ⟨C, hC⟩ : ∃ C, C = nmCells := ⟨_, rfl⟩
  rw [← hC] at hbl hsz hix
  have HC : Hid (C = nmCells) := hC
  have HB : Hid (_) := hbl
  have HS : Hid (_) := hsz
  clear hC hbl hsz
  go_enter Tryd.func42, Tryd.ntmps42
  iterate 15 (first | go_values | go_skip | go_guarded | go_step | go_upon)
  refine wpList_load_row rfl 48 (.global 0) rfl 0 ?q1 tn C fr _ HB.out Tryd.underlying48 rfl ?q3 ?_
  case q1 => rfl
  case q3 => rw [HS.out]; kernel_rfl
  go_wp2
  go_loopw [6] (fun i wr => ∃ k : Nat, i = .int .i64 (k : Int) ∧ k ≤ 20 ∧ (∀ j, j < k → ¬ (nmA j = a ∧ nmB j = b)) ∧ Below w.heap.size w wr ∧ wr.heap[w.heap.size]? = some (.cells #[.int .i64 a, .int .i64 b] 43 (0, 0))) (fun i _ => 20 - (intOf i).toNat)
  case atStart =>
    exact ⟨0, rfl, by omega, fun j hj => by omega, (Below.refl _ w).alloc (Nat.le_refl _) _, heap_alloc_new _ _⟩
  case round =>
    obtain ⟨k, rfl, hk, hno, hb, hnm⟩ := hrel
    have HNO : Hid (_) := hno
    have hB : w.heap.size < wr.heap.size := (Array.getElem?_eq_some_iff.1 hnm).1
    have c0 : wr.cell? ⟨w.heap.size, 0, none⟩ = some (.int .i64 a) := by rw [cell_of_row _ _ 0 _ _ _ hnm]; rfl
    have c1 : wr.cell? ⟨w.heap.size, 1, none⟩ = some (.int .i64 b) := by rw [cell_of_row _ _ 1 _ _ _ hnm]; rfl
    have HNM : Hid (_) := hnm
    clear hno hnm
    by_cases hlt : k < 20
    · obtain ⟨x, hx⟩ : ∃ x, x = nmA k := ⟨_, rfl⟩
      obtain ⟨y, hy⟩ : ∃ y, y = nmB k := ⟨_, rfl⟩
      have hi1 := hix k hlt
      rw [← hx, ← hy] at hi1
      have HX : Hid (_) := hx
      have HY : Hid (_) := hy
      clear hx hy hix
      have hq := eq_names x y a b
      by_cases he : x = a ∧ y = b
      · obtain ⟨rfl, rfl⟩ := he
        go_wp2
        go_ret
        exact ⟨by rw [HX.out, HY.out, place_at k hlt]; rfl, hb.alloc (Nat.le_of_lt hB) _⟩
      · go_wp2
        go_roundw
        case rel =>
          refine ⟨k + 1, by go_num, by omega, fun j hj => ?_, hb.alloc (Nat.le_of_lt hB) _, (Below.heap_alloc _ _ _ hB).trans HNM.out⟩
          by_cases hjk : j = k
          · subst hjk; rw [← HX.out, ← HY.out]; exact he
          · exact HNO.out j (by omega)
        case measure => simp [intOf]; omega
    · obtain rfl : k = 20 := by omega
      go_wp2
      go_ret
      exact ⟨by rw [place_none a b HNO.out]; rfl, hb⟩
end Go.Proofs.YtkifebhkgldefaaDoor
