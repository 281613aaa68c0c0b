/- Texts joined: WordsM, SpecHow, Place, RowAt, OwnerAt, CountAt, StateAt, ViaAt, SpecWords. -/
import Derived.Test.YtfanppifelajnaaDoorTB01
import Derived.Test.YtfanppifelajnaaDoorRows
import Derived.WalkKit
import Derived.WalkSmall
import Derived.ProofKit
import Derived.Below
import Derived.Laws.StructEq
import Derived.ChangeKeysEq
import Derived.OwnWalk
import Derived.Deep.RegionWith
set_option maxHeartbeats 2000000
set_option maxRecDepth 100000
namespace Go.Proofs.YtfanppifelajnaaDoor
def ownW (y0 y1 y2 y3 v : Int) : Int := if y0 = v then 1 else if y1 = v then 2 else if y2 = v then 3 else if y3 = v then 4 else 0
def bitW (y c : Int) : Int := if (1 ≤ y ∧ y ≤ 6) ∧ classN y = c then 1 else 0
def clsW (y0 y1 y2 y3 c : Int) : Int := bitW y0 c + bitW y1 c + bitW y2 c + bitW y3 c
def viaW (y0 y1 y2 y3 st v : Int) : Int := if ownW y0 y1 y2 y3 v < st then ownW y0 y1 y2 y3 v else 0
def wordsG (y0 y1 y2 y3 c0 c1 c2 s st : Int) : List Int :=
 [y0, y1, y2, y3, ownW y0 y1 y2 y3 1, ownW y0 y1 y2 y3 2, ownW y0 y1 y2 y3 3, ownW y0 y1 y2 y3 4, ownW y0 y1 y2 y3 5, ownW y0 y1 y2 y3 6, c0, c1, c2, s,
  viaW y0 y1 y2 y3 st 1, viaW y0 y1 y2 y3 st 2, viaW y0 y1 y2 y3 st 3, viaW y0 y1 y2 y3 st 4, viaW y0 y1 y2 y3 st 5, viaW y0 y1 y2 y3 st 6]
def wordsL (y0 y1 y2 y3 st : Int) : List Int := wordsG y0 y1 y2 y3 (clsW y0 y1 y2 y3 0) (clsW y0 y1 y2 y3 1) (clsW y0 y1 y2 y3 2) st st
def stepW (L : List Int) (k : Nat) (x : Int) (st : Int) : List Int :=
 if (k : Int) + 1 < st then ((L.set k x).set (x + 3).toNat ((k : Int) + 1)).set (x + 13).toNat ((k : Int) + 1) else (L.set k x).set (x + 3).toNat ((k : Int) + 1)
theorem vals6 {x : Int} (h : 1 ≤ x ∧ x ≤ 6) : x = 1 ∨ x = 2 ∨ x = 3 ∨ x = 4 ∨ x = 5 ∨ x = 6 := by omega
theorem step0 (y1 y2 y3 c0 c1 c2 s st x : Int) (hx : 1 ≤ x ∧ x ≤ 6) (h1 : y1 ≠ x) (h2 : y2 ≠ x) (h3 : y3 ≠ x) : stepW (wordsG 0 y1 y2 y3 c0 c1 c2 s st) 0 x st = wordsG x y1 y2 y3 c0 c1 c2 s st := by
 rcases vals6 hx with rfl | rfl | rfl | rfl | rfl | rfl <;> by_cases hs : 1 < st <;> simp [stepW, wordsG, ownW, viaW, h1, h2, h3, hs]
theorem step1 (y0 y2 y3 c0 c1 c2 s st x : Int) (hx : 1 ≤ x ∧ x ≤ 6) (h0 : y0 ≠ x) (h2 : y2 ≠ x) (h3 : y3 ≠ x) : stepW (wordsG y0 0 y2 y3 c0 c1 c2 s st) 1 x st = wordsG y0 x y2 y3 c0 c1 c2 s st := by
 rcases vals6 hx with rfl | rfl | rfl | rfl | rfl | rfl <;> by_cases hs : 2 < st <;> simp [stepW, wordsG, ownW, viaW, h0, h2, h3, hs]
theorem step2 (y0 y1 y3 c0 c1 c2 s st x : Int) (hx : 1 ≤ x ∧ x ≤ 6) (h0 : y0 ≠ x) (h1 : y1 ≠ x) (h3 : y3 ≠ x) : stepW (wordsG y0 y1 0 y3 c0 c1 c2 s st) 2 x st = wordsG y0 y1 x y3 c0 c1 c2 s st := by
 rcases vals6 hx with rfl | rfl | rfl | rfl | rfl | rfl <;> by_cases hs : 3 < st <;> simp [stepW, wordsG, ownW, viaW, h0, h1, h3, hs]
theorem step3 (y0 y1 y2 c0 c1 c2 s st x : Int) (hx : 1 ≤ x ∧ x ≤ 6) (h0 : y0 ≠ x) (h1 : y1 ≠ x) (h2 : y2 ≠ x) : stepW (wordsG y0 y1 y2 0 c0 c1 c2 s st) 3 x st = wordsG y0 y1 y2 x c0 c1 c2 s st := by
 rcases vals6 hx with rfl | rfl | rfl | rfl | rfl | rfl <;> by_cases hs : 4 < st <;> simp [stepW, wordsG, ownW, viaW, h0, h1, h2, hs]
theorem bitW_zero {c : Int} : bitW 0 c = 0 := by simp [bitW]
theorem wordsG_new (st : Int) : wordsG 0 0 0 0 0 0 0 0 st = List.replicate 20 0 := by
 simp [wordsG, ownW, viaW, List.replicate_succ]
theorem wordsL_new (st : Int) : wordsL 0 0 0 0 st = (List.replicate 20 0).set 13 st := by
 simp [wordsL, clsW, bitW_zero, wordsG, ownW, viaW, List.replicate_succ]
def istepW (L : List Int) (k : Nat) (x : Int) (st : Int) : List Int :=
 if (k : Int) + 1 < st then (((L.set k x).set (x + 3).toNat ((k : Int) + 1)).set (10 + x % 3).toNat (((L.set k x).set (x + 3).toNat ((k : Int) + 1)).getD (10 + x % 3).toNat 0 + 1)).set (x + 13).toNat ((k : Int) + 1)
 else ((L.set k x).set (x + 3).toNat ((k : Int) + 1)).set (10 + x % 3).toNat (((L.set k x).set (x + 3).toNat ((k : Int) + 1)).getD (10 + x % 3).toNat 0 + 1)
theorem bitW_vals : bitW 1 0 = 0 ∧ bitW 1 1 = 1 ∧ bitW 1 2 = 0 ∧ bitW 2 0 = 0 ∧ bitW 2 1 = 0 ∧ bitW 2 2 = 1 ∧ bitW 3 0 = 1 ∧ bitW 3 1 = 0 ∧ bitW 3 2 = 0 ∧ bitW 4 0 = 0 ∧ bitW 4 1 = 1 ∧ bitW 4 2 = 0 ∧ bitW 5 0 = 0 ∧ bitW 5 1 = 0 ∧ bitW 5 2 = 1 ∧ bitW 6 0 = 1 ∧ bitW 6 1 = 0 ∧ bitW 6 2 = 0 := by decide
theorem istep0 (y1 y2 y3 st x : Int) (hx : 1 ≤ x ∧ x ≤ 6) (h1 : y1 ≠ x) (h2 : y2 ≠ x) (h3 : y3 ≠ x) : istepW (wordsL 0 y1 y2 y3 st) 0 x st = wordsL x y1 y2 y3 st := by
 rcases vals6 hx with rfl | rfl | rfl | rfl | rfl | rfl <;> by_cases hs : 1 < st <;> simp [istepW, wordsL, wordsG, ownW, viaW, clsW, bitW_zero, bitW_vals, h1, h2, h3, hs] <;> omega
theorem istep1 (y0 y2 y3 st x : Int) (hx : 1 ≤ x ∧ x ≤ 6) (h0 : y0 ≠ x) (h2 : y2 ≠ x) (h3 : y3 ≠ x) : istepW (wordsL y0 0 y2 y3 st) 1 x st = wordsL y0 x y2 y3 st := by
 rcases vals6 hx with rfl | rfl | rfl | rfl | rfl | rfl <;> by_cases hs : 2 < st <;> simp [istepW, wordsL, wordsG, ownW, viaW, clsW, bitW_zero, bitW_vals, h0, h2, h3, hs] <;> omega
theorem istep2 (y0 y1 y3 st x : Int) (hx : 1 ≤ x ∧ x ≤ 6) (h0 : y0 ≠ x) (h1 : y1 ≠ x) (h3 : y3 ≠ x) : istepW (wordsL y0 y1 0 y3 st) 2 x st = wordsL y0 y1 x y3 st := by
 rcases vals6 hx with rfl | rfl | rfl | rfl | rfl | rfl <;> by_cases hs : 3 < st <;> simp [istepW, wordsL, wordsG, ownW, viaW, clsW, bitW_zero, bitW_vals, h0, h1, h3, hs] <;> omega
theorem istep3 (y0 y1 y2 st x : Int) (hx : 1 ≤ x ∧ x ≤ 6) (h0 : y0 ≠ x) (h1 : y1 ≠ x) (h2 : y2 ≠ x) : istepW (wordsL y0 y1 y2 0 st) 3 x st = wordsL y0 y1 y2 x st := by
 rcases vals6 hx with rfl | rfl | rfl | rfl | rfl | rfl <;> by_cases hs : 4 < st <;> simp [istepW, wordsL, wordsG, ownW, viaW, clsW, bitW_zero, bitW_vals, h0, h1, h2, hs] <;> omega
section
open Go.ChangeShapes Go.WideShapes Go.ChangeAt Go.RowKit
def cntK (xs : List Int) (c : Int) : Nat → Int
 | 0 => 0
 | k + 1 => cntK xs c k + bitW (xs.getD k 0) c
theorem bitW_le (y c : Int) : 0 ≤ bitW y c ∧ bitW y c ≤ 1 := by unfold bitW; split <;> omega
theorem cntK_le (xs : List Int) (c : Int) (k : Nat) : 0 ≤ cntK xs c k ∧ cntK xs c k ≤ (k : Int) := by
 induction k with
 | zero => simp [cntK]
 | succ k ih =>
   have := bitW_le (xs.getD k 0) c
   simp only [cntK]
   omega
theorem cntK_four (xs : List Int) (c : Int) : cntK xs c 4 = clsW (xs.getD 0 0) (xs.getD 1 0) (xs.getD 2 0) (xs.getD 3 0) c := by
 simp [cntK, clsW]
theorem l1Bit_any (b : Bool) (w : World) : Calls Tryd.prog 59 #[.bool b] w fun e w' => e = .returned (.int .i64 (if b then 1 else 0)) ∧ w' = w := by
 cases b
 · go_enter Tryd.func59, Tryd.ntmps59
   go_wp2
   go_ret
   exact ⟨rfl, rfl⟩
 · go_enter Tryd.func59, Tryd.ntmps59
   go_wp2
   go_ret
   exact ⟨rfl, rfl⟩
theorem specHowMany_four (a : Option Addr) (cp : Nat) (st c : Int) (xs : List Int) (w : World) (hA : IntAt w a 4 xs) :
   Calls Tryd.prog 52 #[.agg #[.slice a 4 cp, .int .i64 st], .int .i64 c] w fun e w' => e = .returned (.int .i64 (cntK xs c 4)) ∧ Below w.heap.size w w' := by
 have HA : Hid (IntAt w a 4 xs) := hA
 clear hA
 go_enter Tryd.func52, Tryd.ntmps52
 go_wp2
 go_loopw [5, 6] (fun q i wr => ∃ k : Nat, k ≤ 4 ∧ q = .int .i64 (cntK xs c k) ∧ i = .int .i64 (k : Int) ∧ Below (w.heap.size + 1) (w.alloc (.cells #[.slice a 4 cp, .int .i64 st] 32)) wr) (fun _ i _ => 4 - (intOf i).toNat)
 case atStart => exact ⟨0, Nat.zero_le _, rfl, rfl, Below.refl _ _⟩
 case round =>
   obtain ⟨k, hk, rfl, rfl, hb⟩ := hrel
   have hbw : Below w.heap.size w wr := ((Below.refl _ w).alloc (Nat.le_refl _) _).trans (hb.mono (Nat.le_succ _))
   have hc0 : wr.cell? ⟨w.heap.size, 0, none⟩ = some (.slice a 4 cp) := by rw [hb.cell (by simp)]; simp
   by_cases hlt : k < 4
   · rcases (HA.out.below hbw (Nat.le_refl _)).2.2 with h0 | ⟨p1, o1, rfl, g1⟩
     · omega
     have e1 := g1 k hlt
     obtain ⟨x, hx⟩ : ∃ x, xs.getD k 0 = x := ⟨_, rfl⟩
     rw [hx] at e1
     obtain ⟨q, hq⟩ : ∃ q, cntK xs c k = q := ⟨_, rfl⟩
     have hqb := cntK_le xs c k
     have hnext : Hid (cntK xs c (k + 1) = cntK xs c k + bitW x c) := by rw [← hx]; rfl
     rw [hq] at hqb ⊢
     have HQ : Hid (cntK xs c k = q) := hq
     clear g1 hx hq
     by_cases hv : 1 ≤ x ∧ x ≤ 6
     · by_cases hc : classN x = c
       · have hbit : Hid (bitW x c = 1) := by simp [Hid, bitW, hv, hc]
         have hcc : (classN x == c) = true := by simpa using hc
         clear hc
         go_wp2_with (first
           | (go_at_call 49; refine (specValOk_any x _).mono ?_; rintro e w1 ⟨rfl, rfl⟩; rw [show decide (1 ≤ x ∧ x ≤ 6) = true from decide_eq_true hv])
           | (go_at_call 60; refine (specClassOf_any x _).mono ?_; rintro e w1 ⟨rfl, rfl⟩)
           | (go_at_call 59; refine (l1Bit_any _ _).mono ?_; rintro e w1 ⟨rfl, rfl⟩))
         exact ⟨⟨k + 1, by omega, by rw [hnext.out, HQ.out, hbit.out], by go_num, hb⟩, by simp [intOf]; omega⟩
       · have hbit : Hid (bitW x c = 0) := by simp [Hid, bitW, hc]
         have hcc : (classN x == c) = false := by simpa using hc
         clear hc
         go_wp2_with (first
           | (go_at_call 49; refine (specValOk_any x _).mono ?_; rintro e w1 ⟨rfl, rfl⟩; rw [show decide (1 ≤ x ∧ x ≤ 6) = true from decide_eq_true hv])
           | (go_at_call 60; refine (specClassOf_any x _).mono ?_; rintro e w1 ⟨rfl, rfl⟩)
           | (go_at_call 59; refine (l1Bit_any _ _).mono ?_; rintro e w1 ⟨rfl, rfl⟩))
         exact ⟨⟨k + 1, by omega, by rw [hnext.out, HQ.out, hbit.out, Int.add_zero], by go_num, hb⟩, by simp [intOf]; omega⟩
     · have hbit : Hid (bitW x c = 0) := by simp [Hid, bitW, hv]
       go_wp2_with (first
         | (go_at_call 49; refine (specValOk_any x _).mono ?_; rintro e w1 ⟨rfl, rfl⟩; rw [show decide (1 ≤ x ∧ x ≤ 6) = false from decide_eq_false hv])
         | (go_at_call 59; refine (l1Bit_any _ _).mono ?_; rintro e w1 ⟨rfl, rfl⟩))
       exact ⟨⟨k + 1, by omega, by rw [hnext.out, HQ.out, hbit.out, Int.add_zero], by go_num, hb⟩, by simp [intOf]; omega⟩
   · obtain rfl : k = 4 := by omega
     go_wp2
     go_ret
     exact ⟨rfl, hbw⟩
def nmL : List (Int × Int) := [(1, 0), (1, 1), (1, 2), (1, 3), (2, 1), (2, 2), (2, 3), (2, 4), (2, 5), (2, 6), (3, 0), (3, 1), (3, 2), (4, 0), (5, 1), (5, 2), (5, 3), (5, 4), (5, 5), (5, 6)]
def nmA (k : Nat) : Int := (nmL.getD k (0, 0)).1
def nmB (k : Nat) : Int := (nmL.getD k (0, 0)).2
def nmCells : Array Value := (nmL.flatMap fun p => [Value.int .i64 p.1, .int .i64 p.2]).toArray
def Names (w : World) : Prop := w.var? Tryd.prog "loop.example/g00468/impl.wordNames" = some nmCells
theorem gNames : Tryd.prog.globalNamed "loop.example/g00468/impl.wordNames" = some 0 := by kernel_rfl
theorem gNamesType : (Tryd.prog.globals[0]?).map (·.type) = some 59 := by kernel_rfl
theorem Names.block {w : World} (h : Names w) : ∃ t fr, w.heap[0]? = some (.cells nmCells t fr) := by
 unfold Names at h
 simp only [World.var?, gNames, Option.bind_some] at h
 split at h
 · rename_i c t fr hb
   simp only [Option.some.injEq] at h
   subst h
   exact ⟨t, fr, hb⟩
 · cases h
theorem Names.lt {w : World} (h : Names w) : 0 < w.heap.size := by
 obtain ⟨t, fr, h1⟩ := h.block
 exact (Array.getElem?_eq_some_iff.1 h1).1
theorem Names.below {w w' : World} {B : Nat} (h : Names w) (hb : Below B w w') (hB : 0 < B) : Names w' :=
 var?_below hb gNames hB h
theorem index_names (k : Nat) (hk : k < 20) (w : World) : (Instr.index 59 (.agg nmCells) (.int .i64 (k : Int))).run Tryd.prog w = .ok (.agg #[.int .i64 (nmA k), .int .i64 (nmB k)]) w := by
 have h : k = 0 ∨ k = 1 ∨ k = 2 ∨ k = 3 ∨ k = 4 ∨ k = 5 ∨ k = 6 ∨ k = 7 ∨ k = 8 ∨ k = 9 ∨ k = 10 ∨ k = 11 ∨ k = 12 ∨ k = 13 ∨ k = 14 ∨ k = 15 ∨ k = 16 ∨ k = 17 ∨ k = 18 ∨ k = 19 := by omega
 rcases h with rfl | rfl | rfl | rfl | rfl | rfl | rfl | rfl | rfl | rfl | rfl | rfl | rfl | rfl | rfl | rfl | rfl | rfl | rfl | rfl <;> (show _ = _; kernel_rfl)
def placeN (a b : Int) : Int :=
 if a = 1 ∧ 0 ≤ b ∧ b ≤ 3 then b else if a = 2 ∧ 1 ≤ b ∧ b ≤ 6 then b + 3 else if a = 3 ∧ 0 ≤ b ∧ b ≤ 2 then b + 10 else if a = 4 ∧ b = 0 then 13 else if a = 5 ∧ 1 ≤ b ∧ b ≤ 6 then b + 13 else -1
theorem place_at (k : Nat) (hk : k < 20) : placeN (nmA k) (nmB k) = k := by
 have h : k = 0 ∨ k = 1 ∨ k = 2 ∨ k = 3 ∨ k = 4 ∨ k = 5 ∨ k = 6 ∨ k = 7 ∨ k = 8 ∨ k = 9 ∨ k = 10 ∨ k = 11 ∨ k = 12 ∨ k = 13 ∨ k = 14 ∨ k = 15 ∨ k = 16 ∨ k = 17 ∨ k = 18 ∨ k = 19 := by omega
 rcases h with rfl | rfl | rfl | rfl | rfl | rfl | rfl | rfl | rfl | rfl | rfl | rfl | rfl | rfl | rfl | rfl | rfl | rfl | rfl | rfl <;> (show _ = _; kernel_rfl)
theorem place_none (a b : Int) (h : ∀ k : Nat, k < 20 → ¬ (nmA k = a ∧ nmB k = b)) : placeN a b = -1 := by
 have e1 : ¬ (a = 1 ∧ 0 ≤ b ∧ b ≤ 3) := by
   rintro ⟨rfl, h0, h1⟩
   have h2 : b = 0 ∨ b = 1 ∨ b = 2 ∨ b = 3 := by omega
   rcases h2 with rfl | rfl | rfl | rfl
   · exact h 0 (by omega) ⟨rfl, rfl⟩
   · exact h 1 (by omega) ⟨rfl, rfl⟩
   · exact h 2 (by omega) ⟨rfl, rfl⟩
   · exact h 3 (by omega) ⟨rfl, rfl⟩
 have e2 : ¬ (a = 2 ∧ 1 ≤ b ∧ b ≤ 6) := by
   rintro ⟨rfl, h0, h1⟩
   have h2 : b = 1 ∨ b = 2 ∨ b = 3 ∨ b = 4 ∨ b = 5 ∨ b = 6 := by omega
   rcases h2 with rfl | rfl | rfl | rfl | rfl | rfl
   · exact h 4 (by omega) ⟨rfl, rfl⟩
   · exact h 5 (by omega) ⟨rfl, rfl⟩
   · exact h 6 (by omega) ⟨rfl, rfl⟩
   · exact h 7 (by omega) ⟨rfl, rfl⟩
   · exact h 8 (by omega) ⟨rfl, rfl⟩
   · exact h 9 (by omega) ⟨rfl, rfl⟩
 have e3 : ¬ (a = 3 ∧ 0 ≤ b ∧ b ≤ 2) := by
   rintro ⟨rfl, h0, h1⟩
   have h2 : b = 0 ∨ b = 1 ∨ b = 2 := by omega
   rcases h2 with rfl | rfl | rfl
   · exact h 10 (by omega) ⟨rfl, rfl⟩
   · exact h 11 (by omega) ⟨rfl, rfl⟩
   · exact h 12 (by omega) ⟨rfl, rfl⟩
 have e4 : ¬ (a = 4 ∧ b = 0) := by
   rintro ⟨rfl, rfl⟩
   exact h 13 (by omega) ⟨rfl, rfl⟩
 have e5 : ¬ (a = 5 ∧ 1 ≤ b ∧ b ≤ 6) := by
   rintro ⟨rfl, h0, h1⟩
   have h2 : b = 1 ∨ b = 2 ∨ b = 3 ∨ b = 4 ∨ b = 5 ∨ b = 6 := by omega
   rcases h2 with rfl | rfl | rfl | rfl | rfl | rfl
   · exact h 14 (by omega) ⟨rfl, rfl⟩
   · exact h 15 (by omega) ⟨rfl, rfl⟩
   · exact h 16 (by omega) ⟨rfl, rfl⟩
   · exact h 17 (by omega) ⟨rfl, rfl⟩
   · exact h 18 (by omega) ⟨rfl, rfl⟩
   · exact h 19 (by omega) ⟨rfl, rfl⟩
 unfold placeN
 rw [if_neg e1, if_neg e2, if_neg e3, if_neg e4, if_neg e5]
theorem info_int : (Tryd.prog.info? 3).map (fun i => (i.zero, i.size, i.bytes)) = some (some (.int .i64 0), 1, 8) := by kernel_rfl
theorem cells_int : Tryd.prog.cellsOf 3 = 1 := by kernel_rfl
theorem part0 (x y : Int) (w : World) : (part 3 #[.int .i64 x, .int .i64 y] 0).run Tryd.prog w = .ok (.int .i64 x) w := by kernel_rfl
theorem part1 (x y : Int) (w : World) : (part 3 #[.int .i64 x, .int .i64 y] 1).run Tryd.prog w = .ok (.int .i64 y) w := by kernel_rfl
theorem eq_names (x y a b : Int) (w : World) : (binOp .eql 52 (.agg #[.int .i64 x, .int .i64 y]) (.agg #[.int .i64 a, .int .i64 b])).run Tryd.prog w = .ok (.bool (decide (x = a ∧ y = b))) w := by
 obtain ⟨i0, hi, hz0, hz1, hz2⟩ := info_parts info_int
 rw [run_eql_struct, run_equalIn_array w 9999 _ _ Tryd.underlying52 hi, cells_int, show List.range 2 = [0, 1] from rfl]
 simp only [Op.eqItems, Sem.run_bind, Nat.zero_mul, Nat.one_mul, part0, Result.andThen_ok, run_equalIn_int w 9998 3 .i64 .i64 _ _ Tryd.underlying3]
 by_cases h0 : x = a <;> by_cases h1 : y = b <;> simp [h0, h1, part1, run_equalIn_int w 9998 3 .i64 .i64 _ _ Tryd.underlying3]
theorem placeOf_any (a b : Int) (w : World) (hN : Names w) :
   Calls Tryd.prog 43 #[.agg #[.int .i64 a, .int .i64 b]] w fun e w' => e = .returned (.int .i64 (placeN a b)) ∧ Below w.heap.size w w' := by
 have hlt := hN.lt
 obtain ⟨tn, fr, hbl⟩ := (hN.below ((Below.refl _ w).alloc (Nat.le_refl _) (.cells #[.int .i64 a, .int .i64 b] 52)) hN.lt).block
 have hsz : nmCells.size = 40 := by decide +kernel
 have hix := index_names
 clear hN
 obtain ⟨C, hC⟩ : ∃ C, C = nmCells := ⟨_, rfl⟩
 rw [← hC] at hbl hsz hix
 have HC : Hid (C = nmCells) := hC
 have HB : Hid (_) := hbl
 have HS : Hid (_) := hsz
 clear hC hbl hsz
 go_enter Tryd.func43, Tryd.ntmps43
 iterate 15 (first | go_values | go_skip | go_guarded | go_step | go_upon)
 refine wpList_load_row rfl 59 (.global 0) rfl 0 ?q1 tn C fr _ HB.out Tryd.underlying59 rfl ?q3 ?_
 case q1 => rfl
 case q3 => rw [HS.out]; kernel_rfl
 go_wp2
 go_loopw [6] (fun i wr => ∃ k : Nat, i = .int .i64 (k : Int) ∧ k ≤ 20 ∧ (∀ j, j < k → ¬ (nmA j = a ∧ nmB j = b)) ∧ Below w.heap.size w wr ∧ wr.heap[w.heap.size]? = some (.cells #[.int .i64 a, .int .i64 b] 52 (0, 0))) (fun i _ => 20 - (intOf i).toNat)
 case atStart =>
   exact ⟨0, rfl, by omega, fun j hj => by omega, (Below.refl _ w).alloc (Nat.le_refl _) _, heap_alloc_new _ _⟩
 case round =>
   obtain ⟨k, rfl, hk, hno, hb, hnm⟩ := hrel
   have HNO : Hid (_) := hno
   have hB : w.heap.size < wr.heap.size := (Array.getElem?_eq_some_iff.1 hnm).1
   have c0 : wr.cell? ⟨w.heap.size, 0, none⟩ = some (.int .i64 a) := by rw [cell_of_row _ _ 0 _ _ _ hnm]; rfl
   have c1 : wr.cell? ⟨w.heap.size, 1, none⟩ = some (.int .i64 b) := by rw [cell_of_row _ _ 1 _ _ _ hnm]; rfl
   have HNM : Hid (_) := hnm
   clear hno hnm
   by_cases hlt : k < 20
   · obtain ⟨x, hx⟩ : ∃ x, x = nmA k := ⟨_, rfl⟩
     obtain ⟨y, hy⟩ : ∃ y, y = nmB k := ⟨_, rfl⟩
     have hi1 := hix k hlt
     rw [← hx, ← hy] at hi1
     have HX : Hid (_) := hx
     have HY : Hid (_) := hy
     clear hx hy hix
     have hq := eq_names x y a b
     by_cases he : x = a ∧ y = b
     · obtain ⟨rfl, rfl⟩ := he
       go_wp2
       go_ret
       exact ⟨by rw [HX.out, HY.out, place_at k hlt]; rfl, hb.alloc (Nat.le_of_lt hB) _⟩
     · go_wp2
       go_roundw
       case rel =>
         refine ⟨k + 1, by go_num, by omega, fun j hj => ?_, hb.alloc (Nat.le_of_lt hB) _, (Below.heap_alloc _ _ _ hB).trans HNM.out⟩
         by_cases hjk : j = k
         · subst hjk; rw [← HX.out, ← HY.out]; exact he
         · exact HNO.out j (by omega)
       case measure => simp [intOf]; omega
   · obtain rfl : k = 20 := by omega
     go_wp2
     go_ret
     exact ⟨by rw [place_none a b HNO.out]; rfl, hb⟩
theorem specRowAt_any (k : Int) (w : World) :
   Calls Tryd.prog 51 #[.int .i64 k] w fun e w' => e = .returned (.int .i64 (placeN 1 k)) ∧ w' = w := by
 by_cases h : 0 ≤ k ∧ k ≤ 3
 · have hp : placeN 1 k = k := by unfold placeN; repeat' split <;> omega
   rw [hp]
   clear hp
   obtain ⟨h0, h1⟩ := h
   go_enter Tryd.func51, Tryd.ntmps51
   go_wp2
   go_ret
   exact ⟨rfl, rfl⟩
 · have hp : placeN 1 k = -1 := by unfold placeN; repeat' split <;> omega
   rw [hp]
   clear hp
   by_cases h0 : 0 ≤ k
   · have h1 : ¬ k ≤ 3 := by omega
     clear h
     go_enter Tryd.func51, Tryd.ntmps51
     go_wp2
     go_ret
     exact ⟨rfl, rfl⟩
   · have h1 : k < 0 := by omega
     clear h h0
     go_enter Tryd.func51, Tryd.ntmps51
     go_wp2
     go_ret
     exact ⟨rfl, rfl⟩
theorem implRowAt_any (k : Int) (w : World) (hN : Names w) :
   Calls Tryd.prog 45 #[.int .i64 k] w fun e w' => e = .returned (.int .i64 (placeN 1 k)) ∧ Below w.heap.size w w' := by
 go_enter Tryd.func45, Tryd.ntmps45
 go_wp2_with (go_at_call 43; refine (placeOf_any 1 k _ hN).mono ?_; rintro e w1 ⟨rfl, hb⟩)
 go_ret
 exact ⟨rfl, hb⟩
theorem specOwnerAt_any (k : Int) (w : World) :
   Calls Tryd.prog 31 #[.int .i64 k] w fun e w' => e = .returned (.int .i64 (placeN 2 k)) ∧ w' = w := by
 by_cases h : 1 ≤ k ∧ k ≤ 6
 · have hp : placeN 2 k = 3 + k := by unfold placeN; repeat' split <;> omega
   rw [hp]
   clear hp
   obtain ⟨h0, h1⟩ := h
   go_enter Tryd.func31, Tryd.ntmps31
   go_wp2
   go_ret
   exact ⟨rfl, rfl⟩
 · have hp : placeN 2 k = -1 := by unfold placeN; repeat' split <;> omega
   rw [hp]
   clear hp
   by_cases h0 : 1 ≤ k
   · have h1 : ¬ k ≤ 6 := by omega
     clear h
     go_enter Tryd.func31, Tryd.ntmps31
     go_wp2
     go_ret
     exact ⟨rfl, rfl⟩
   · have h1 : k < 1 := by omega
     clear h h0
     go_enter Tryd.func31, Tryd.ntmps31
     go_wp2
     go_ret
     exact ⟨rfl, rfl⟩
theorem implOwnerAt_any (k : Int) (w : World) (hN : Names w) :
   Calls Tryd.prog 22 #[.int .i64 k] w fun e w' => e = .returned (.int .i64 (placeN 2 k)) ∧ Below w.heap.size w w' := by
 go_enter Tryd.func22, Tryd.ntmps22
 go_wp2_with (go_at_call 43; refine (placeOf_any 2 k _ hN).mono ?_; rintro e w1 ⟨rfl, hb⟩)
 go_ret
 exact ⟨rfl, hb⟩
theorem specCountAt_any (k : Int) (w : World) :
   Calls Tryd.prog 53 #[.int .i64 k] w fun e w' => e = .returned (.int .i64 (placeN 3 k)) ∧ w' = w := by
 by_cases h : 0 ≤ k ∧ k ≤ 2
 · have hp : placeN 3 k = 10 + k := by unfold placeN; repeat' split <;> omega
   rw [hp]
   clear hp
   obtain ⟨h0, h1⟩ := h
   go_enter Tryd.func53, Tryd.ntmps53
   go_wp2
   go_ret
   exact ⟨rfl, rfl⟩
 · have hp : placeN 3 k = -1 := by unfold placeN; repeat' split <;> omega
   rw [hp]
   clear hp
   by_cases h0 : 0 ≤ k
   · have h1 : ¬ k ≤ 2 := by omega
     clear h
     go_enter Tryd.func53, Tryd.ntmps53
     go_wp2
     go_ret
     exact ⟨rfl, rfl⟩
   · have h1 : k < 0 := by omega
     clear h h0
     go_enter Tryd.func53, Tryd.ntmps53
     go_wp2
     go_ret
     exact ⟨rfl, rfl⟩
theorem implCountAt_any (k : Int) (w : World) (hN : Names w) :
   Calls Tryd.prog 46 #[.int .i64 k] w fun e w' => e = .returned (.int .i64 (placeN 3 k)) ∧ Below w.heap.size w w' := by
 go_enter Tryd.func46, Tryd.ntmps46
 go_wp2_with (go_at_call 43; refine (placeOf_any 3 k _ hN).mono ?_; rintro e w1 ⟨rfl, hb⟩)
 go_ret
 exact ⟨rfl, hb⟩
theorem specStateAt_any (w : World) :
   Calls Tryd.prog 34 #[] w fun e w' => e = .returned (.int .i64 13) ∧ w' = w := by
 go_enter Tryd.func34, Tryd.ntmps34
 go_wp2
 go_ret
 exact ⟨rfl, rfl⟩
theorem implStateAt_any (w : World) (hN : Names w) :
   Calls Tryd.prog 36 #[] w fun e w' => e = .returned (.int .i64 13) ∧ Below w.heap.size w w' := by
 go_enter Tryd.func36, Tryd.ntmps36
 go_wp2_with (go_at_call 43; refine (placeOf_any 4 0 _ hN).mono ?_; rintro e w1 ⟨rfl, hb⟩)
 go_ret
 exact ⟨rfl, hb⟩
theorem specViaAt_any (k : Int) (w : World) :
   Calls Tryd.prog 33 #[.int .i64 k] w fun e w' => e = .returned (.int .i64 (placeN 5 k)) ∧ w' = w := by
 by_cases h : 1 ≤ k ∧ k ≤ 6
 · have hp : placeN 5 k = 13 + k := by unfold placeN; repeat' split <;> omega
   rw [hp]
   clear hp
   obtain ⟨h0, h1⟩ := h
   go_enter Tryd.func33, Tryd.ntmps33
   go_wp2
   go_ret
   exact ⟨rfl, rfl⟩
 · have hp : placeN 5 k = -1 := by unfold placeN; repeat' split <;> omega
   rw [hp]
   clear hp
   by_cases h0 : 1 ≤ k
   · have h1 : ¬ k ≤ 6 := by omega
     clear h
     go_enter Tryd.func33, Tryd.ntmps33
     go_wp2
     go_ret
     exact ⟨rfl, rfl⟩
   · have h1 : k < 1 := by omega
     clear h h0
     go_enter Tryd.func33, Tryd.ntmps33
     go_wp2
     go_ret
     exact ⟨rfl, rfl⟩
theorem implViaAt_any (k : Int) (w : World) (hN : Names w) :
   Calls Tryd.prog 32 #[.int .i64 k] w fun e w' => e = .returned (.int .i64 (placeN 5 k)) ∧ Below w.heap.size w w' := by
 go_enter Tryd.func32, Tryd.ntmps32
 go_wp2_with (go_at_call 43; refine (placeOf_any 5 k _ hN).mono ?_; rintro e w1 ⟨rfl, hb⟩)
 go_ret
 exact ⟨rfl, hb⟩
end
section
open Go.ChangeShapes Go.WideShapes Go.ChangeAt Go.RowKit Go.Maps
theorem at_row (k : Nat) (hk : k < 4) (w : World) : Calls Tryd.prog 51 #[.int .i64 (k : Int)] w fun e w' => e = .returned (.int .i64 (k : Int)) ∧ w' = w := by
 have := specRowAt_any (k : Int) w
 rwa [show placeN 1 (k : Int) = (k : Int) by unfold placeN; repeat' split <;> omega] at this
theorem at_owner (x : Int) (m : Nat) (hx : 1 ≤ x ∧ x ≤ 6) (hm : m = (x + 3).toNat) (w : World) : Calls Tryd.prog 31 #[.int .i64 x] w fun e w' => e = .returned (.int .i64 (m : Int)) ∧ w' = w := by
 have := specOwnerAt_any x w
 rwa [show placeN 2 x = (m : Int) by unfold placeN; repeat' split <;> omega] at this
theorem at_via (x : Int) (m : Nat) (hx : 1 ≤ x ∧ x ≤ 6) (hm : m = (x + 13).toNat) (w : World) : Calls Tryd.prog 33 #[.int .i64 x] w fun e w' => e = .returned (.int .i64 (m : Int)) ∧ w' = w := by
 have := specViaAt_any x w
 rwa [show placeN 5 x = (m : Int) by unfold placeN; repeat' split <;> omega] at this
theorem at_count (c m : Nat) (hc : c < 3) (hm : m = 10 + c) (w : World) : Calls Tryd.prog 53 #[.int .i64 (c : Int)] w fun e w' => e = .returned (.int .i64 (m : Int)) ∧ w' = w := by
 have := specCountAt_any (c : Int) w
 rwa [show placeN 3 (c : Int) = (m : Int) by unfold placeN; repeat' split <;> omega] at this
def mk (xs : List Int) (k j : Nat) : Int := if j < k then xs.getD j 0 else 0
def wordsK (xs : List Int) (k : Nat) (st : Int) : List Int := wordsG (mk xs k 0) (mk xs k 1) (mk xs k 2) (mk xs k 3) 0 0 0 0 st
theorem wordsK_step {xs : List Int} {k : Nat} {x st : Int} (hk : k < 4) (hx : xs.getD k 0 = x) (hv : 1 ≤ x ∧ x ≤ 6) (hne : ∀ j, j < k → xs.getD j 0 ≠ x) : stepW (wordsK xs k st) k x st = wordsK xs (k + 1) st := by
 have h : k = 0 ∨ k = 1 ∨ k = 2 ∨ k = 3 := by omega
 have h0 : (0 : Int) ≠ x := by omega
 rcases h with rfl | rfl | rfl | rfl
 · rw [wordsK, wordsK]
   simp only [mk, hx]
   exact step0 0 0 0 0 0 0 0 st x hv h0 h0 h0
 · rw [wordsK, wordsK]
   simp only [mk, hx]
   exact step1 _ 0 0 0 0 0 0 st x hv (hne 0 (by omega)) h0 h0
 · rw [wordsK, wordsK]
   simp only [mk, hx]
   exact step2 _ _ 0 0 0 0 0 st x hv (hne 0 (by omega)) (hne 1 (by omega)) h0
 · rw [wordsK, wordsK]
   simp only [mk, hx]
   exact step3 _ _ _ 0 0 0 0 st x hv (hne 0 (by omega)) (hne 1 (by omega)) (hne 2 (by omega))
theorem wordsK_none {xs : List Int} {k : Nat} {st : Int} (hk : k < 4) (hx : xs.getD k 0 = 0) : (wordsK xs k st).set k 0 = wordsK xs (k + 1) st := by
 have h : k = 0 ∨ k = 1 ∨ k = 2 ∨ k = 3 := by omega
 rcases h with rfl | rfl | rfl | rfl <;> (rw [wordsK, wordsK]; simp only [mk, hx]; rfl)
def wordsC (xs : List Int) (c : Nat) (st : Int) : List Int := wordsG (xs.getD 0 0) (xs.getD 1 0) (xs.getD 2 0) (xs.getD 3 0) (if 0 < c then cntK xs 0 4 else 0) (if 1 < c then cntK xs 1 4 else 0) (if 2 < c then cntK xs 2 4 else 0) 0 st
theorem wordsC_zero (xs : List Int) (st : Int) : wordsK xs 4 st = wordsC xs 0 st := rfl
theorem wordsC_step (xs : List Int) (c : Nat) (hc : c < 3) (st : Int) : (wordsC xs c st).set (10 + c) (cntK xs (c : Int) 4) = wordsC xs (c + 1) st := by
 have h : c = 0 ∨ c = 1 ∨ c = 2 := by omega
 rcases h with rfl | rfl | rfl <;> rfl
theorem wordsC_end (xs : List Int) (st : Int) : (wordsC xs 3 st).set 13 st = wordsL (xs.getD 0 0) (xs.getD 1 0) (xs.getD 2 0) (xs.getD 3 0) st := by
 rw [wordsL, ← cntK_four, ← cntK_four, ← cntK_four]
 rfl
def ListSays (e : Ending) (w' : World) (L : List Int) : Prop := ∃ a n c, e = .returned (.slice a n c) ∧ IntAt w' a n L
def specL (xs : List Int) (st : Int) : List Int := wordsL (xs.getD 0 0) (xs.getD 1 0) (xs.getD 2 0) (xs.getD 3 0) st
theorem specWordsOf_not (a : Option Addr) (n c : Nat) (st : Int) (xs : List Int) (w : World) (hA : IntAt w a n xs) (hno : ¬ SpecOk xs n st) :
   Calls Tryd.prog 37 #[.agg #[.slice a n c, .int .i64 st]] w fun e w' => ListSays e w' [] ∧ Below w.heap.size w w' := by
 have HA : Hid (IntAt w a n xs) := hA
 have HN : Hid (¬ SpecOk xs n st) := hno
 clear hA hno
 go_enter Tryd.func37, Tryd.ntmps37
 go_wp2_with fail
 refine (specRowsOk_any a n c st xs _ (HA.out.below ((Below.refl _ w).alloc (Nat.le_refl _) _) (Nat.le_refl _))).mono ?_
 rintro e w1 ⟨⟨ok, rfl, hok⟩, hb1⟩
 obtain rfl : ok = false := by
   cases ok
   · rfl
   · exact absurd (hok.1 rfl) HN.out
 have hbw : Below w.heap.size w w1 := ((Below.refl _ w).alloc (Nat.le_refl _) _).trans (hb1.mono (by simp))
 clear hok hb1
 go_wp2
 go_ret
 exact ⟨⟨_, _, _, rfl, rfl, by omega, .inl rfl⟩, hbw.alloc hbw.size _⟩
def OwnSays (e : Ending) (w w' : World) (L : List Int) : Prop := ∃ g, w.heap.size ≤ g ∧ e = .returned (.slice (some ⟨g, 0, none⟩) 20 20) ∧ w'.ownsRow g 3 1 (.slice (some ⟨g, 0, none⟩) 20 20) 20 (L.map I)
theorem specWordsOf_own (a : Option Addr) (c : Nat) (st : Int) (xs : List Int) (w : World) (hA : IntAt w a 4 xs) (hyes : SpecOk xs 4 st) :
   Calls Tryd.prog 37 #[.agg #[.slice a 4 c, .int .i64 st]] w fun e w' => OwnSays e w w' (specL xs st) ∧ Below w.heap.size w w' := by
 have HA : Hid (IntAt w a 4 xs) := hA
 have HY : Hid (SpecOk xs 4 st) := hyes
 clear hA hyes
 obtain ⟨i0, hi, hz0, hz1, hz2⟩ := info_parts infoInt
 go_enter Tryd.func37, Tryd.ntmps37
 go_wp2_with fail
 refine (specRowsOk_any a 4 c st xs _ (HA.out.below ((Below.refl _ w).alloc (Nat.le_refl _) _) (Nat.le_refl _))).mono ?_
 rintro e w1 ⟨⟨ok, rfl, hok⟩, hb1⟩
 obtain rfl : ok = true := hok.2 HY.out
 simp only [World.size_alloc] at hb1
 have hs1 : w.heap.size < w1.heap.size := Nat.lt_of_succ_le (by simpa using hb1.size)
 have hst0 : 0 ≤ st := HY.out.2.2.1
 have hst5 : st ≤ 5 := HY.out.2.2.2
 have hbw1 : Below w.heap.size w w1 := ((Below.refl _ w).alloc (Nat.le_refl _) _).trans (hb1.mono (Nat.le_succ _))
 have c0 : w1.cell? ⟨w.heap.size, 0, none⟩ = some (.slice a 4 c) := by rw [hb1.cell (by simp)]; simp
 have c1 : w1.cell? ⟨w.heap.size, 1, none⟩ = some (.int .i64 st) := by rw [hb1.cell (by simp)]; simp
 have HC0 : Hid (w1.cell? ⟨w.heap.size, 0, none⟩ = some (.slice a 4 c)) := c0
 have HC1 : Hid (w1.cell? ⟨w.heap.size, 1, none⟩ = some (.int .i64 st)) := c1
 clear hok hb1
 go_wp2_with (first | (at_make; refine wpList_make_full _ rfl _ _ 24 rfl w1.heap.size 3 i0 (.int .i64 0) 1 Tryd.underlying24 hi hz0 hz1 .i64 .i64 _ _ 20 rfl rfl rfl rfl (by rw [hz2]; omega) (by unfold maxLen; omega) (Nat.le_refl _) ?_; intro w2 own2 grow2) | fail)
 rw [show (madeCells (Value.int .i64 0).cells (20 * 1)).toList = (wordsK xs 0 st).map I from (toList_madeCells_one _ _).trans (by rw [wordsK]; simp only [mk]; rw [show wordsG (if 0 < 0 then xs.getD 0 0 else 0) (if 1 < 0 then xs.getD 1 0 else 0) (if 2 < 0 then xs.getD 2 0 else 0) (if 3 < 0 then xs.getD 3 0 else 0) 0 0 0 0 st = List.replicate 20 0 from wordsG_new st]; rfl)] at own2
 have hb2 : Below w1.heap.size w1 w2 := (Below.refl _ _).grown grow2 (Nat.le_refl _) (fun k e => by cases e)
 clear grow2
 have HD : Hid (∀ k, k < 4 → xs.getD k 0 ≠ 0 → (1 ≤ xs.getD k 0 ∧ xs.getD k 0 ≤ 6) ∧ ∀ j, j < k → xs.getD j 0 ≠ xs.getD k 0) := fun k hk h0 => by
   rcases HY.out.1 k hk with h | ⟨h1, h2 | ⟨i, hi, e, _, h3⟩⟩
   · exact absurd h h0
   · exact absurd h2.1 (by omega)
   · obtain rfl : k = i := by omega
     exact ⟨h1, h3⟩
 go_loopw [4] (fun i wr => ∃ k : Nat, k ≤ 4 ∧ i = .int .i64 (k : Int) ∧ wr.ownsRow w1.heap.size 3 1 (.slice (some ⟨w1.heap.size, 0, none⟩) 20 20) 20 ((wordsK xs k st).map I) ∧ Below w1.heap.size w1 wr) (fun i _ => 4 - (intOf i).toNat)
 case atStart => exact ⟨0, Nat.zero_le _, rfl, own2, hb2⟩
 case round =>
   obtain ⟨k, hk, rfl, ho, hb⟩ := hrel
   have d0 : wr.cell? ⟨w.heap.size, 0, none⟩ = some (.slice a 4 c) := (hb.cell hs1).trans c0
   have d1 : wr.cell? ⟨w.heap.size, 1, none⟩ = some (.int .i64 st) := (hb.cell hs1).trans c1
   have hbw : Below w.heap.size w wr := hbw1.trans (hb.mono hbw1.size)
   clear own2 hb2 c0 c1
   by_cases hlt : k < 4
   · rcases (HA.out.below hbw (Nat.le_refl _)).2.2 with h0 | ⟨p1, o1, rfl, g1⟩
     · omega
     have e1 := g1 k hlt
     obtain ⟨x, hx⟩ : ∃ x, xs.getD k 0 = x := ⟨_, rfl⟩
     rw [hx] at e1
     have HX : Hid (xs.getD k 0 = x) := hx
     have HO : Hid (wr.ownsRow w1.heap.size 3 1 (.slice (some ⟨w1.heap.size, 0, none⟩) 20 20) 20 ((wordsK xs k st).map I)) := ho
     have hst := (ho.stored k (I x)).1
     rw [← List.map_set] at hst
     have HS : Hid ((wr.setCell ⟨w1.heap.size, k, none⟩ (I x)).ownsRow w1.heap.size 3 1 (.slice (some ⟨w1.heap.size, 0, none⟩) 20 20) 20 (((wordsK xs k st).set k x).map I)) := hst
     have hf := ho.frozenAt k
     obtain ⟨u, hc⟩ := own_cell ho (show k < 20 by omega)
     clear g1 hx ho hst
     go_wp2_with fail
     refine (at_row k hlt _).mono ?_
     rintro e w3 ⟨rfl, rfl⟩
     by_cases hx0 : x = 0
     · subst hx0
       go_wp2
       refine ⟨⟨k + 1, by omega, by go_num, ?_, hb.setCell (Nat.le_refl _) _⟩, by simp [intOf]; omega⟩
       rw [← wordsK_none hlt HX.out]
       exact HS.out
     · have hv := HD.out k hlt (by rw [HX.out]; exact hx0)
       rw [HX.out] at hv
       have HNE : Hid (∀ j, j < k → xs.getD j 0 ≠ x) := hv.2
       replace hv := hv.1
       have hx1 : (x == 0) = false := by simpa using hx0
       obtain ⟨m2, hm2⟩ : ∃ m : Nat, m = (x + 3).toNat := ⟨_, rfl⟩
       have lt2 : m2 < 20 := by omega
       have HM2 : Hid (m2 = (x + 3).toNat) := hm2
       clear hm2
       go_wp2_with fail
       refine (at_owner x m2 hv HM2.out _).mono ?_
       rintro e w4 ⟨rfl, hw4⟩
       have ho4 : w4.ownsRow w1.heap.size 3 1 (.slice (some ⟨w1.heap.size, 0, none⟩) 20 20) 20 (((wordsK xs k st).set k x).map I) := by rw [hw4]; exact HS.out
       have hb4 : Below w1.heap.size w1 w4 := by rw [hw4]; exact hb.setCell (Nat.le_refl _) _
       have q1 : w4.cell? ⟨w.heap.size, 1, none⟩ = some (.int .i64 st) := (hb4.cell hs1).trans ((hb.cell hs1).symm.trans d1)
       have hst4 := (ho4.stored m2 (I ((k : Int) + 1))).1
       rw [← List.map_set] at hst4
       have HS4 : Hid ((w4.setCell ⟨w1.heap.size, m2, none⟩ (I ((k : Int) + 1))).ownsRow w1.heap.size 3 1 (.slice (some ⟨w1.heap.size, 0, none⟩) 20 20) 20 ((((wordsK xs k st).set k x).set m2 ((k : Int) + 1)).map I)) := hst4
       have hf4 := ho4.frozenAt m2
       obtain ⟨u4, hc4⟩ := own_cell ho4 lt2
       have ne4 : w1.heap.size ≠ w.heap.size := by omega
       clear hw4 ho4 hst4 hf hc HS HO d0 d1 e1
       by_cases hvia : (k : Int) + 1 < st
       · have hvia' : (k : Int) < st - 1 := by omega
         obtain ⟨m5, hm5⟩ : ∃ m : Nat, m = (x + 13).toNat := ⟨_, rfl⟩
         have lt5 : m5 < 20 := by omega
         have HM5 : Hid (m5 = (x + 13).toNat) := hm5
         clear hm5
         go_wp2_with fail
         refine (at_via x m5 hv HM5.out _).mono ?_
         rintro e w5 ⟨rfl, hw5⟩
         have ho5 : w5.ownsRow w1.heap.size 3 1 (.slice (some ⟨w1.heap.size, 0, none⟩) 20 20) 20 ((((wordsK xs k st).set k x).set m2 ((k : Int) + 1)).map I) := by rw [hw5]; exact HS4.out
         have hb5 : Below w1.heap.size w1 w5 := by rw [hw5]; exact hb4.setCell (Nat.le_refl _) _
         have hst5' := (ho5.stored m5 (I ((k : Int) + 1))).1
         rw [← List.map_set] at hst5'
         have HS5 : Hid ((w5.setCell ⟨w1.heap.size, m5, none⟩ (I ((k : Int) + 1))).ownsRow w1.heap.size 3 1 (.slice (some ⟨w1.heap.size, 0, none⟩) 20 20) 20 (((((wordsK xs k st).set k x).set m2 ((k : Int) + 1)).set m5 ((k : Int) + 1)).map I)) := hst5'
         have hf5 := ho5.frozenAt m5
         obtain ⟨u5, hc5⟩ := own_cell ho5 lt5
         clear hw5 ho5 hst5' hf4 hc4 HS4 q1
         go_wp2
         refine ⟨⟨k + 1, by omega, by go_num, ?_, hb5.setCell (Nat.le_refl _) _⟩, by simp [intOf]; omega⟩
         rw [← wordsK_step hlt HX.out hv HNE.out, stepW, if_pos hvia, ← HM2.out, ← HM5.out]
         exact HS5.out
       · have hvia' : ¬ ((k : Int) < st - 1) := by omega
         go_wp2
         refine ⟨⟨k + 1, by omega, by go_num, ?_, hb4.setCell (Nat.le_refl _) _⟩, by simp [intOf]; omega⟩
         rw [← wordsK_step hlt HX.out hv HNE.out, stepW, if_neg (by omega), ← HM2.out]
         exact HS4.out
   · obtain rfl : k = 4 := by omega
     have HB : Hid (IntAt wr a 4 xs) := HA.out.below hbw (Nat.le_refl _)
     have HO : Hid (wr.ownsRow w1.heap.size 3 1 (.slice (some ⟨w1.heap.size, 0, none⟩) 20 20) 20 ((wordsK xs 4 st).map I)) := ho
     clear ho
     rw [wordsC_zero] at HO
     have hsr : w1.heap.size ≤ wr.heap.size := hb.size
     clear HD
     go_wp2
     go_loopw [6] (fun i wt => ∃ q : Nat, q ≤ 3 ∧ i = .int .i64 (q : Int) ∧ wt.ownsRow w1.heap.size 3 1 (.slice (some ⟨w1.heap.size, 0, none⟩) 20 20) 20 ((wordsC xs q st).map I) ∧ Below w1.heap.size w1 wt) (fun i _ => 3 - (intOf i).toNat)
     case atStart => exact ⟨0, Nat.zero_le _, rfl, HO.out, hb⟩
     case round =>
       obtain ⟨q, hq, rfl, ho, hbt⟩ := hrel
       clear HO HB hbw d0 d1
       have d0 := (hbt.cell (p := ⟨w.heap.size, 0, none⟩) hs1).trans HC0.out
       have d1 := (hbt.cell (p := ⟨w.heap.size, 1, none⟩) hs1).trans HC1.out
       have HB : Hid (IntAt wr a 4 xs) := HA.out.below (hbw1.trans (hbt.mono hbw1.size)) (Nat.le_refl _)
       have HO : Hid (wr.ownsRow w1.heap.size 3 1 (.slice (some ⟨w1.heap.size, 0, none⟩) 20 20) 20 ((wordsC xs q st).map I)) := ho
       have hst := hbt.size
       clear ho
       by_cases hlt2 : q < 3
       · obtain ⟨m, hm⟩ : ∃ m : Nat, m = 10 + q := ⟨_, rfl⟩
         have ltm : m < 20 := by omega
         have HM : Hid (m = 10 + q) := hm
         clear hm
         go_wp2
         go_region_with (first
           | (go_at_call 53; refine (at_count q m hlt2 HM.out _).mono ?_; rintro e w3 ⟨rfl, rfl⟩)
           | (go_at_call 52; refine (specHowMany_four a c st (q : Int) xs _ (HB.out.below (Below.refl _ wr).drew (Nat.le_refl _))).mono ?_; rintro e w4 ⟨rfl, hb4⟩
              have ho4 := owns_below HO.out ((Below.refl wr.heap.size wr).drew.trans hb4) (Nat.le_refl _)
              have hf4 := ho4.frozenAt m
              obtain ⟨u4, hc4⟩ := own_cell ho4 ltm))
         all_goals
           have hb5 : Below w1.heap.size w1 w4 := hbt.drew.trans (hb4.mono hst)
           have hs5 := (ho4.stored m (I (cntK xs (q : Int) 4))).1
           rw [← List.map_set, show (wordsC xs q st).set m (cntK xs (q : Int) 4) = wordsC xs (q + 1) st by rw [HM.out]; exact wordsC_step xs q hlt2 st] at hs5
           have HS : Hid ((w4.setCell ⟨w1.heap.size, m, none⟩ (I (cntK xs (q : Int) 4))).ownsRow w1.heap.size 3 1 (.slice (some ⟨w1.heap.size, 0, none⟩) 20 20) 20 ((wordsC xs (q + 1) st).map I)) := hs5
           clear hs5 ho4 hf4 hc4
           go_wp2
           refine ⟨?_, ?m1⟩
           (repeat apply Exists.intro)
           refine ⟨?r1, rfl⟩
           case r1 => exact ⟨q + 1, by omega, by go_num, HS.out, hb5.setCell (Nat.le_refl _) _⟩
           case m1 => simp [intOf]; omega
       · obtain rfl : q = 3 := by omega
         have hf := HO.out.frozenAt 13
         obtain ⟨u, hc⟩ := own_cell HO.out (show 13 < 20 by omega)
         have hs5 := (HO.out.stored 13 (I st)).1
         rw [← List.map_set, wordsC_end] at hs5
         have HS : Hid ((wr.setCell ⟨w1.heap.size, 13, none⟩ (I st)).ownsRow w1.heap.size 3 1 (.slice (some ⟨w1.heap.size, 0, none⟩) 20 20) 20 ((specL xs st).map I)) := hs5
         clear hs5
         go_wp2
         go_region_with (first
           | (go_at_call 34; refine (specStateAt_any _).mono ?_; rintro e w3 ⟨rfl, rfl⟩))
         all_goals
           go_wp2
           go_ret
           exact ⟨⟨w1.heap.size, Nat.le_of_lt hs1, rfl, owns_below HS.out (Below.refl _ _).drew (Nat.le_refl _)⟩, (hbw1.trans ((hbt.setCell (p := ⟨w1.heap.size, 13, none⟩) (Nat.le_refl _) (I st)).mono hbw1.size)).drew⟩
theorem specWordsOf_yes (a : Option Addr) (c : Nat) (st : Int) (xs : List Int) (w : World) (hA : IntAt w a 4 xs) (hyes : SpecOk xs 4 st) :
   Calls Tryd.prog 37 #[.agg #[.slice a 4 c, .int .i64 st]] w fun e w' => ListSays e w' (specL xs st) ∧ Below w.heap.size w w' := by
 refine (specWordsOf_own a c st xs w hA hyes).mono ?_
 rintro e w' ⟨⟨g, _, rfl, ho⟩, hb⟩
 exact ⟨⟨_, _, _, rfl, own_intAt ho (by omega)⟩, hb⟩
end
end Go.Proofs.YtfanppifelajnaaDoor
