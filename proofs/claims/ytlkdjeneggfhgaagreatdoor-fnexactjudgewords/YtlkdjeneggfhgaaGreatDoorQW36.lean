/- Texts joined: Place, RowAt, OwnerAt, CountAt, StateAt, ViaAt. -/
import Derived.Test.YtlkdjeneggfhgaaGreatDoorRows
import Derived.WalkKit
import Derived.WalkSmall
import Derived.ProofKit
import Derived.Below
import Derived.Laws.StructEq
import Derived.ChangeKeysEq
import Derived.OwnWalk
set_option maxHeartbeats 200000
set_option maxRecDepth 100000
namespace Go.Proofs.YtlkdjeneggfhgaaGreatDoor
section
open Go.ChangeShapes Go.WideShapes Go.ChangeAt Go.RowKit
def nmL : List (Int × Int) := [(1, 0), (1, 1), (1, 2), (1, 3), (2, 1), (2, 2), (2, 3), (2, 4), (2, 5), (2, 6), (3, 0), (3, 1), (3, 2), (4, 0), (5, 1), (5, 2), (5, 3), (5, 4), (5, 5), (5, 6)]
def nmA (k : Nat) : Int := (nmL.getD k (0, 0)).1
def nmB (k : Nat) : Int := (nmL.getD k (0, 0)).2
def nmCells : Array Value := (nmL.flatMap fun p => [Value.int .i64 p.1, .int .i64 p.2]).toArray
def Names (w : World) : Prop := w.var? Tryz.prog "loop.example/g00468/impl.wordNames" = some nmCells
theorem gNames : Tryz.prog.globalNamed "loop.example/g00468/impl.wordNames" = some 4 := by kernel_rfl
theorem gNamesType : (Tryz.prog.globals[4]?).map (·.type) = some 243 := by kernel_rfl
theorem Names.block {w : World} (h : Names w) : ∃ t fr, w.heap[4]? = some (.cells nmCells t fr) := by
 unfold Names at h
 simp only [World.var?, gNames, Option.bind_some] at h
 split at h
 · rename_i c t fr hb
   simp only [Option.some.injEq] at h
   subst h
   exact ⟨t, fr, hb⟩
 · cases h
theorem Names.lt {w : World} (h : Names w) : 4 < w.heap.size := by
 obtain ⟨t, fr, h1⟩ := h.block
 exact (Array.getElem?_eq_some_iff.1 h1).1
theorem Names.below {w w' : World} {B : Nat} (h : Names w) (hb : Below B w w') (hB : 4 < B) : Names w' :=
 var?_below hb gNames hB h
theorem index_names (k : Nat) (hk : k < 20) (w : World) : (Instr.index 243 (.agg nmCells) (.int .i64 (k : Int))).run Tryz.prog w = .ok (.agg #[.int .i64 (nmA k), .int .i64 (nmB k)]) w := by
 have h : k = 0 ∨ k = 1 ∨ k = 2 ∨ k = 3 ∨ k = 4 ∨ k = 5 ∨ k = 6 ∨ k = 7 ∨ k = 8 ∨ k = 9 ∨ k = 10 ∨ k = 11 ∨ k = 12 ∨ k = 13 ∨ k = 14 ∨ k = 15 ∨ k = 16 ∨ k = 17 ∨ k = 18 ∨ k = 19 := by omega
 rcases h with rfl | rfl | rfl | rfl | rfl | rfl | rfl | rfl | rfl | rfl | rfl | rfl | rfl | rfl | rfl | rfl | rfl | rfl | rfl | rfl <;> (show _ = _; kernel_rfl)
def placeN (a b : Int) : Int :=
 if a = 1 ∧ 0 ≤ b ∧ b ≤ 3 then b else if a = 2 ∧ 1 ≤ b ∧ b ≤ 6 then b + 3 else if a = 3 ∧ 0 ≤ b ∧ b ≤ 2 then b + 10 else if a = 4 ∧ b = 0 then 13 else if a = 5 ∧ 1 ≤ b ∧ b ≤ 6 then b + 13 else -1
theorem place_at (k : Nat) (hk : k < 20) : placeN (nmA k) (nmB k) = k := by
 have h : k = 0 ∨ k = 1 ∨ k = 2 ∨ k = 3 ∨ k = 4 ∨ k = 5 ∨ k = 6 ∨ k = 7 ∨ k = 8 ∨ k = 9 ∨ k = 10 ∨ k = 11 ∨ k = 12 ∨ k = 13 ∨ k = 14 ∨ k = 15 ∨ k = 16 ∨ k = 17 ∨ k = 18 ∨ k = 19 := by omega
 rcases h with rfl | rfl | rfl | rfl | rfl | rfl | rfl | rfl | rfl | rfl | rfl | rfl | rfl | rfl | rfl | rfl | rfl | rfl | rfl | rfl <;> (show _ = _; kernel_rfl)
theorem place_none (a b : Int) (h : ∀ k : Nat, k < 20 → ¬ (nmA k = a ∧ nmB k = b)) : placeN a b = -1 := by
 have e1 : ¬ (a = 1 ∧ 0 ≤ b ∧ b ≤ 3) := by
   rintro ⟨rfl, h0, h1⟩
   have h2 : b = 0 ∨ b = 1 ∨ b = 2 ∨ b = 3 := by omega
   rcases h2 with rfl | rfl | rfl | rfl
   · exact h 0 (by omega) ⟨rfl, rfl⟩
   · exact h 1 (by omega) ⟨rfl, rfl⟩
   · exact h 2 (by omega) ⟨rfl, rfl⟩
   · exact h 3 (by omega) ⟨rfl, rfl⟩
 have e2 : ¬ (a = 2 ∧ 1 ≤ b ∧ b ≤ 6) := by
   rintro ⟨rfl, h0, h1⟩
   have h2 : b = 1 ∨ b = 2 ∨ b = 3 ∨ b = 4 ∨ b = 5 ∨ b = 6 := by omega
   rcases h2 with rfl | rfl | rfl | rfl | rfl | rfl
   · exact h 4 (by omega) ⟨rfl, rfl⟩
   · exact h 5 (by omega) ⟨rfl, rfl⟩
   · exact h 6 (by omega) ⟨rfl, rfl⟩
   · exact h 7 (by omega) ⟨rfl, rfl⟩
   · exact h 8 (by omega) ⟨rfl, rfl⟩
   · exact h 9 (by omega) ⟨rfl, rfl⟩
 have e3 : ¬ (a = 3 ∧ 0 ≤ b ∧ b ≤ 2) := by
   rintro ⟨rfl, h0, h1⟩
   have h2 : b = 0 ∨ b = 1 ∨ b = 2 := by omega
   rcases h2 with rfl | rfl | rfl
   · exact h 10 (by omega) ⟨rfl, rfl⟩
   · exact h 11 (by omega) ⟨rfl, rfl⟩
   · exact h 12 (by omega) ⟨rfl, rfl⟩
 have e4 : ¬ (a = 4 ∧ b = 0) := by
   rintro ⟨rfl, rfl⟩
   exact h 13 (by omega) ⟨rfl, rfl⟩
 have e5 : ¬ (a = 5 ∧ 1 ≤ b ∧ b ≤ 6) := by
   rintro ⟨rfl, h0, h1⟩
   have h2 : b = 1 ∨ b = 2 ∨ b = 3 ∨ b = 4 ∨ b = 5 ∨ b = 6 := by omega
   rcases h2 with rfl | rfl | rfl | rfl | rfl | rfl
   · exact h 14 (by omega) ⟨rfl, rfl⟩
   · exact h 15 (by omega) ⟨rfl, rfl⟩
   · exact h 16 (by omega) ⟨rfl, rfl⟩
   · exact h 17 (by omega) ⟨rfl, rfl⟩
   · exact h 18 (by omega) ⟨rfl, rfl⟩
   · exact h 19 (by omega) ⟨rfl, rfl⟩
 unfold placeN
 rw [if_neg e1, if_neg e2, if_neg e3, if_neg e4, if_neg e5]
theorem info_int : (Tryz.prog.info? 3).map (fun i => (i.zero, i.size, i.bytes)) = some (some (.int .i64 0), 1, 8) := by kernel_rfl
theorem cells_int : Tryz.prog.cellsOf 3 = 1 := by kernel_rfl
theorem part0 (x y : Int) (w : World) : (part 3 #[.int .i64 x, .int .i64 y] 0).run Tryz.prog w = .ok (.int .i64 x) w := by kernel_rfl
theorem part1 (x y : Int) (w : World) : (part 3 #[.int .i64 x, .int .i64 y] 1).run Tryz.prog w = .ok (.int .i64 y) w := by kernel_rfl
theorem eq_names (x y a b : Int) (w : World) : (binOp .eql 206 (.agg #[.int .i64 x, .int .i64 y]) (.agg #[.int .i64 a, .int .i64 b])).run Tryz.prog w = .ok (.bool (decide (x = a ∧ y = b))) w := by
 obtain ⟨i0, hi, hz0, hz1, hz2⟩ := info_parts info_int
 rw [run_eql_struct, run_equalIn_array w 9999 _ _ Tryz.underlying206 hi, cells_int, show List.range 2 = [0, 1] from rfl]
 simp only [Op.eqItems, Sem.run_bind, Nat.zero_mul, Nat.one_mul, part0, Result.andThen_ok, run_equalIn_int w 9998 3 .i64 .i64 _ _ Tryz.underlying3]
 by_cases h0 : x = a <;> by_cases h1 : y = b <;> simp [h0, h1, part1, run_equalIn_int w 9998 3 .i64 .i64 _ _ Tryz.underlying3]
theorem placeOf_any (a b : Int) (w : World) (hN : Names w) :
   Calls Tryz.prog 158 #[.agg #[.int .i64 a, .int .i64 b]] w fun e w' => e = .returned (.int .i64 (placeN a b)) ∧ Below w.heap.size w w' := by
 have hlt := hN.lt
 obtain ⟨tn, fr, hbl⟩ := (hN.below ((Below.refl _ w).alloc (Nat.le_refl _) (.cells #[.int .i64 a, .int .i64 b] 206)) hN.lt).block
 have hsz : nmCells.size = 40 := by decide +kernel
 have hix := index_names
 clear hN
 obtain ⟨C, hC⟩ : ∃ C, C = nmCells := ⟨_, rfl⟩
 rw [← hC] at hbl hsz hix
 have HC : Hid (C = nmCells) := hC
 have HB : Hid (_) := hbl
 have HS : Hid (_) := hsz
 clear hC hbl hsz
 go_enter Tryz.func158, Tryz.ntmps158
 iterate 15 (first | go_values | go_skip | go_guarded | go_step | go_upon)
 refine wpList_load_row rfl 243 (.global 4) rfl 4 ?q1 tn C fr _ HB.out Tryz.underlying243 rfl ?q3 ?_
 case q1 => rfl
 case q3 => rw [HS.out]; kernel_rfl
 go_wp2
 go_loopw [6] (fun i wr => ∃ k : Nat, i = .int .i64 (k : Int) ∧ k ≤ 20 ∧ (∀ j, j < k → ¬ (nmA j = a ∧ nmB j = b)) ∧ Below w.heap.size w wr ∧ wr.heap[w.heap.size]? = some (.cells #[.int .i64 a, .int .i64 b] 206 (0, 0))) (fun i _ => 20 - (intOf i).toNat)
 case atStart =>
   exact ⟨0, rfl, by omega, fun j hj => by omega, (Below.refl _ w).alloc (Nat.le_refl _) _, heap_alloc_new _ _⟩
 case round =>
   obtain ⟨k, rfl, hk, hno, hb, hnm⟩ := hrel
   have HNO : Hid (_) := hno
   have hB : w.heap.size < wr.heap.size := (Array.getElem?_eq_some_iff.1 hnm).1
   have c0 : wr.cell? ⟨w.heap.size, 0, none⟩ = some (.int .i64 a) := by rw [cell_of_row _ _ 0 _ _ _ hnm]; rfl
   have c1 : wr.cell? ⟨w.heap.size, 1, none⟩ = some (.int .i64 b) := by rw [cell_of_row _ _ 1 _ _ _ hnm]; rfl
   have HNM : Hid (_) := hnm
   clear hno hnm
   by_cases hlt : k < 20
   · obtain ⟨x, hx⟩ : ∃ x, x = nmA k := ⟨_, rfl⟩
     obtain ⟨y, hy⟩ : ∃ y, y = nmB k := ⟨_, rfl⟩
     have hi1 := hix k hlt
     rw [← hx, ← hy] at hi1
     have HX : Hid (_) := hx
     have HY : Hid (_) := hy
     clear hx hy hix
     have hq := eq_names x y a b
     by_cases he : x = a ∧ y = b
     · obtain ⟨rfl, rfl⟩ := he
       go_wp2
       go_ret
       exact ⟨by rw [HX.out, HY.out, place_at k hlt]; rfl, hb.alloc (Nat.le_of_lt hB) _⟩
     · go_wp2
       go_roundw
       case rel =>
         refine ⟨k + 1, by go_num, by omega, fun j hj => ?_, hb.alloc (Nat.le_of_lt hB) _, (Below.heap_alloc _ _ _ hB).trans HNM.out⟩
         by_cases hjk : j = k
         · subst hjk; rw [← HX.out, ← HY.out]; exact he
         · exact HNO.out j (by omega)
       case measure => simp [intOf]; omega
   · obtain rfl : k = 20 := by omega
     go_wp2
     go_ret
     exact ⟨by rw [place_none a b HNO.out]; rfl, hb⟩
theorem specRowAt_any (k : Int) (w : World) :
   Calls Tryz.prog 91 #[.int .i64 k] w fun e w' => e = .returned (.int .i64 (placeN 1 k)) ∧ w' = w := by
 by_cases h : 0 ≤ k ∧ k ≤ 3
 · have hp : placeN 1 k = k := by unfold placeN; repeat' split <;> omega
   rw [hp]
   clear hp
   obtain ⟨h0, h1⟩ := h
   go_enter Tryz.func91, Tryz.ntmps91
   go_wp2
   go_ret
   exact ⟨rfl, rfl⟩
 · have hp : placeN 1 k = -1 := by unfold placeN; repeat' split <;> omega
   rw [hp]
   clear hp
   by_cases h0 : 0 ≤ k
   · have h1 : ¬ k ≤ 3 := by omega
     clear h
     go_enter Tryz.func91, Tryz.ntmps91
     go_wp2
     go_ret
     exact ⟨rfl, rfl⟩
   · have h1 : k < 0 := by omega
     clear h h0
     go_enter Tryz.func91, Tryz.ntmps91
     go_wp2
     go_ret
     exact ⟨rfl, rfl⟩
theorem implRowAt_any (k : Int) (w : World) (hN : Names w) :
   Calls Tryz.prog 101 #[.int .i64 k] w fun e w' => e = .returned (.int .i64 (placeN 1 k)) ∧ Below w.heap.size w w' := by
 go_enter Tryz.func101, Tryz.ntmps101
 go_wp2_with (go_at_call 158; refine (placeOf_any 1 k _ hN).mono ?_; rintro e w1 ⟨rfl, hb⟩)
 go_ret
 exact ⟨rfl, hb⟩
theorem specOwnerAt_any (k : Int) (w : World) :
   Calls Tryz.prog 92 #[.int .i64 k] w fun e w' => e = .returned (.int .i64 (placeN 2 k)) ∧ w' = w := by
 by_cases h : 1 ≤ k ∧ k ≤ 6
 · have hp : placeN 2 k = 3 + k := by unfold placeN; repeat' split <;> omega
   rw [hp]
   clear hp
   obtain ⟨h0, h1⟩ := h
   go_enter Tryz.func92, Tryz.ntmps92
   go_wp2
   go_ret
   exact ⟨rfl, rfl⟩
 · have hp : placeN 2 k = -1 := by unfold placeN; repeat' split <;> omega
   rw [hp]
   clear hp
   by_cases h0 : 1 ≤ k
   · have h1 : ¬ k ≤ 6 := by omega
     clear h
     go_enter Tryz.func92, Tryz.ntmps92
     go_wp2
     go_ret
     exact ⟨rfl, rfl⟩
   · have h1 : k < 1 := by omega
     clear h h0
     go_enter Tryz.func92, Tryz.ntmps92
     go_wp2
     go_ret
     exact ⟨rfl, rfl⟩
theorem implOwnerAt_any (k : Int) (w : World) (hN : Names w) :
   Calls Tryz.prog 102 #[.int .i64 k] w fun e w' => e = .returned (.int .i64 (placeN 2 k)) ∧ Below w.heap.size w w' := by
 go_enter Tryz.func102, Tryz.ntmps102
 go_wp2_with (go_at_call 158; refine (placeOf_any 2 k _ hN).mono ?_; rintro e w1 ⟨rfl, hb⟩)
 go_ret
 exact ⟨rfl, hb⟩
theorem specCountAt_any (k : Int) (w : World) :
   Calls Tryz.prog 95 #[.int .i64 k] w fun e w' => e = .returned (.int .i64 (placeN 3 k)) ∧ w' = w := by
 by_cases h : 0 ≤ k ∧ k ≤ 2
 · have hp : placeN 3 k = 10 + k := by unfold placeN; repeat' split <;> omega
   rw [hp]
   clear hp
   obtain ⟨h0, h1⟩ := h
   go_enter Tryz.func95, Tryz.ntmps95
   go_wp2
   go_ret
   exact ⟨rfl, rfl⟩
 · have hp : placeN 3 k = -1 := by unfold placeN; repeat' split <;> omega
   rw [hp]
   clear hp
   by_cases h0 : 0 ≤ k
   · have h1 : ¬ k ≤ 2 := by omega
     clear h
     go_enter Tryz.func95, Tryz.ntmps95
     go_wp2
     go_ret
     exact ⟨rfl, rfl⟩
   · have h1 : k < 0 := by omega
     clear h h0
     go_enter Tryz.func95, Tryz.ntmps95
     go_wp2
     go_ret
     exact ⟨rfl, rfl⟩
theorem implCountAt_any (k : Int) (w : World) (hN : Names w) :
   Calls Tryz.prog 103 #[.int .i64 k] w fun e w' => e = .returned (.int .i64 (placeN 3 k)) ∧ Below w.heap.size w w' := by
 go_enter Tryz.func103, Tryz.ntmps103
 go_wp2_with (go_at_call 158; refine (placeOf_any 3 k _ hN).mono ?_; rintro e w1 ⟨rfl, hb⟩)
 go_ret
 exact ⟨rfl, hb⟩
theorem specStateAt_any (w : World) :
   Calls Tryz.prog 96 #[] w fun e w' => e = .returned (.int .i64 13) ∧ w' = w := by
 go_enter Tryz.func96, Tryz.ntmps96
 go_wp2
 go_ret
 exact ⟨rfl, rfl⟩
theorem implStateAt_any (w : World) (hN : Names w) :
   Calls Tryz.prog 99 #[] w fun e w' => e = .returned (.int .i64 13) ∧ Below w.heap.size w w' := by
 go_enter Tryz.func99, Tryz.ntmps99
 go_wp2_with (go_at_call 158; refine (placeOf_any 4 0 _ hN).mono ?_; rintro e w1 ⟨rfl, hb⟩)
 go_ret
 exact ⟨rfl, hb⟩
theorem specViaAt_any (k : Int) (w : World) :
   Calls Tryz.prog 93 #[.int .i64 k] w fun e w' => e = .returned (.int .i64 (placeN 5 k)) ∧ w' = w := by
 by_cases h : 1 ≤ k ∧ k ≤ 6
 · have hp : placeN 5 k = 13 + k := by unfold placeN; repeat' split <;> omega
   rw [hp]
   clear hp
   obtain ⟨h0, h1⟩ := h
   go_enter Tryz.func93, Tryz.ntmps93
   go_wp2
   go_ret
   exact ⟨rfl, rfl⟩
 · have hp : placeN 5 k = -1 := by unfold placeN; repeat' split <;> omega
   rw [hp]
   clear hp
   by_cases h0 : 1 ≤ k
   · have h1 : ¬ k ≤ 6 := by omega
     clear h
     go_enter Tryz.func93, Tryz.ntmps93
     go_wp2
     go_ret
     exact ⟨rfl, rfl⟩
   · have h1 : k < 1 := by omega
     clear h h0
     go_enter Tryz.func93, Tryz.ntmps93
     go_wp2
     go_ret
     exact ⟨rfl, rfl⟩
theorem implViaAt_any (k : Int) (w : World) (hN : Names w) :
   Calls Tryz.prog 105 #[.int .i64 k] w fun e w' => e = .returned (.int .i64 (placeN 5 k)) ∧ Below w.heap.size w w' := by
 go_enter Tryz.func105, Tryz.ntmps105
 go_wp2_with (go_at_call 158; refine (placeOf_any 5 k _ hN).mono ?_; rintro e w1 ⟨rfl, hb⟩)
 go_ret
 exact ⟨rfl, hb⟩
end
end Go.Proofs.YtlkdjeneggfhgaaGreatDoor
