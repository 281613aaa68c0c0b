/- Texts joined: ClassOf, WordsM, SpecHow, AllowM, AfterD, SpecFails. -/
import Derived.Test.YtlkdjeneggfhgaaGreatDoorRows
import Derived.WalkKit
import Derived.ProofKit
import Derived.Test.YtlkdjeneggfhgaaGreatDoorQW03
import Derived.Test.YtlkdjeneggfhgaaGreatDoorQW01
import Derived.Test.YtlkdjeneggfhgaaGreatDoorQW13
import Derived.Test.YtlkdjeneggfhgaaGreatDoorQW04
import Derived.Test.YtlkdjeneggfhgaaGreatDoorQW08
import Derived.Handy
set_option maxHeartbeats 2000000
set_option maxRecDepth 100000
namespace Go.Proofs.YtlkdjeneggfhgaaGreatDoor
section
open Go.ChangeShapes Go.WideShapes Go.ChangeAt Go.RowKit
def classN (v : Int) : Int := if 1 ≤ v ∧ v ≤ 6 then v % 3 else -1
theorem specClassOf_any (k : Int) (w : World) :
   Calls Tryz.prog 153 #[.int .i64 k] w fun e w' => e = .returned (.int .i64 (classN k)) ∧ w' = w := by
 by_cases h : 1 ≤ k ∧ k ≤ 6
 · have h2 : k = 1 ∨ k = 2 ∨ k = 3 ∨ k = 4 ∨ k = 5 ∨ k = 6 := by omega
   clear h
   rcases h2 with rfl | rfl | rfl | rfl | rfl | rfl <;> (go_enter Tryz.func153, Tryz.ntmps153; go_wp2; go_ret; exact ⟨rfl, rfl⟩)
 · rw [show classN k = -1 from if_neg h]
   by_cases h0 : 1 ≤ k
   · have h1 : ¬ k ≤ 6 := by omega
     clear h
     go_enter Tryz.func153, Tryz.ntmps153
     go_wp2
     go_ret
     exact ⟨rfl, rfl⟩
   · clear h
     go_enter Tryz.func153, Tryz.ntmps153
     go_wp2
     go_ret
     exact ⟨rfl, rfl⟩
theorem implClassOf_any (k : Int) (w : World) :
   Calls Tryz.prog 104 #[.int .i64 k] w fun e w' => e = .returned (.int .i64 (classN k)) ∧ w' = w := by
 by_cases h : 1 ≤ k ∧ k ≤ 6
 · have h2 : k = 1 ∨ k = 2 ∨ k = 3 ∨ k = 4 ∨ k = 5 ∨ k = 6 := by omega
   clear h
   rcases h2 with rfl | rfl | rfl | rfl | rfl | rfl <;> (go_enter Tryz.func104, Tryz.ntmps104; go_wp2; go_ret; exact ⟨rfl, rfl⟩)
 · rw [show classN k = -1 from if_neg h]
   by_cases h0 : 1 ≤ k
   · have h1 : ¬ k ≤ 6 := by omega
     clear h
     go_enter Tryz.func104, Tryz.ntmps104
     go_wp2
     go_ret
     exact ⟨rfl, rfl⟩
   · clear h
     go_enter Tryz.func104, Tryz.ntmps104
     go_wp2
     go_ret
     exact ⟨rfl, rfl⟩
end
def ownW (y0 y1 y2 y3 v : Int) : Int := if y0 = v then 1 else if y1 = v then 2 else if y2 = v then 3 else if y3 = v then 4 else 0
def bitW (y c : Int) : Int := if (1 ≤ y ∧ y ≤ 6) ∧ classN y = c then 1 else 0
def clsW (y0 y1 y2 y3 c : Int) : Int := bitW y0 c + bitW y1 c + bitW y2 c + bitW y3 c
def viaW (y0 y1 y2 y3 st v : Int) : Int := if ownW y0 y1 y2 y3 v < st then ownW y0 y1 y2 y3 v else 0
def wordsG (y0 y1 y2 y3 c0 c1 c2 s st : Int) : List Int :=
 [y0, y1, y2, y3, ownW y0 y1 y2 y3 1, ownW y0 y1 y2 y3 2, ownW y0 y1 y2 y3 3, ownW y0 y1 y2 y3 4, ownW y0 y1 y2 y3 5, ownW y0 y1 y2 y3 6, c0, c1, c2, s,
  viaW y0 y1 y2 y3 st 1, viaW y0 y1 y2 y3 st 2, viaW y0 y1 y2 y3 st 3, viaW y0 y1 y2 y3 st 4, viaW y0 y1 y2 y3 st 5, viaW y0 y1 y2 y3 st 6]
def wordsL (y0 y1 y2 y3 st : Int) : List Int := wordsG y0 y1 y2 y3 (clsW y0 y1 y2 y3 0) (clsW y0 y1 y2 y3 1) (clsW y0 y1 y2 y3 2) st st
def stepW (L : List Int) (k : Nat) (x : Int) (st : Int) : List Int :=
 if (k : Int) + 1 < st then ((L.set k x).set (x + 3).toNat ((k : Int) + 1)).set (x + 13).toNat ((k : Int) + 1) else (L.set k x).set (x + 3).toNat ((k : Int) + 1)
theorem vals6 {x : Int} (h : 1 ≤ x ∧ x ≤ 6) : x = 1 ∨ x = 2 ∨ x = 3 ∨ x = 4 ∨ x = 5 ∨ x = 6 := by omega
theorem step0 (y1 y2 y3 c0 c1 c2 s st x : Int) (hx : 1 ≤ x ∧ x ≤ 6) (h1 : y1 ≠ x) (h2 : y2 ≠ x) (h3 : y3 ≠ x) : stepW (wordsG 0 y1 y2 y3 c0 c1 c2 s st) 0 x st = wordsG x y1 y2 y3 c0 c1 c2 s st := by
 rcases vals6 hx with rfl | rfl | rfl | rfl | rfl | rfl <;> by_cases hs : 1 < st <;> simp [stepW, wordsG, ownW, viaW, h1, h2, h3, hs]
theorem step1 (y0 y2 y3 c0 c1 c2 s st x : Int) (hx : 1 ≤ x ∧ x ≤ 6) (h0 : y0 ≠ x) (h2 : y2 ≠ x) (h3 : y3 ≠ x) : stepW (wordsG y0 0 y2 y3 c0 c1 c2 s st) 1 x st = wordsG y0 x y2 y3 c0 c1 c2 s st := by
 rcases vals6 hx with rfl | rfl | rfl | rfl | rfl | rfl <;> by_cases hs : 2 < st <;> simp [stepW, wordsG, ownW, viaW, h0, h2, h3, hs]
theorem step2 (y0 y1 y3 c0 c1 c2 s st x : Int) (hx : 1 ≤ x ∧ x ≤ 6) (h0 : y0 ≠ x) (h1 : y1 ≠ x) (h3 : y3 ≠ x) : stepW (wordsG y0 y1 0 y3 c0 c1 c2 s st) 2 x st = wordsG y0 y1 x y3 c0 c1 c2 s st := by
 rcases vals6 hx with rfl | rfl | rfl | rfl | rfl | rfl <;> by_cases hs : 3 < st <;> simp [stepW, wordsG, ownW, viaW, h0, h1, h3, hs]
theorem step3 (y0 y1 y2 c0 c1 c2 s st x : Int) (hx : 1 ≤ x ∧ x ≤ 6) (h0 : y0 ≠ x) (h1 : y1 ≠ x) (h2 : y2 ≠ x) : stepW (wordsG y0 y1 y2 0 c0 c1 c2 s st) 3 x st = wordsG y0 y1 y2 x c0 c1 c2 s st := by
 rcases vals6 hx with rfl | rfl | rfl | rfl | rfl | rfl <;> by_cases hs : 4 < st <;> simp [stepW, wordsG, ownW, viaW, h0, h1, h2, hs]
theorem bitW_zero {c : Int} : bitW 0 c = 0 := by simp [bitW]
theorem wordsG_new (st : Int) : wordsG 0 0 0 0 0 0 0 0 st = List.replicate 20 0 := by
 simp [wordsG, ownW, viaW, List.replicate_succ]
theorem wordsL_new (st : Int) : wordsL 0 0 0 0 st = (List.replicate 20 0).set 13 st := by
 simp [wordsL, clsW, bitW_zero, wordsG, ownW, viaW, List.replicate_succ]
def istepW (L : List Int) (k : Nat) (x : Int) (st : Int) : List Int :=
 if (k : Int) + 1 < st then (((L.set k x).set (x + 3).toNat ((k : Int) + 1)).set (10 + x % 3).toNat (((L.set k x).set (x + 3).toNat ((k : Int) + 1)).getD (10 + x % 3).toNat 0 + 1)).set (x + 13).toNat ((k : Int) + 1)
 else ((L.set k x).set (x + 3).toNat ((k : Int) + 1)).set (10 + x % 3).toNat (((L.set k x).set (x + 3).toNat ((k : Int) + 1)).getD (10 + x % 3).toNat 0 + 1)
theorem bitW_vals : bitW 1 0 = 0 ∧ bitW 1 1 = 1 ∧ bitW 1 2 = 0 ∧ bitW 2 0 = 0 ∧ bitW 2 1 = 0 ∧ bitW 2 2 = 1 ∧ bitW 3 0 = 1 ∧ bitW 3 1 = 0 ∧ bitW 3 2 = 0 ∧ bitW 4 0 = 0 ∧ bitW 4 1 = 1 ∧ bitW 4 2 = 0 ∧ bitW 5 0 = 0 ∧ bitW 5 1 = 0 ∧ bitW 5 2 = 1 ∧ bitW 6 0 = 1 ∧ bitW 6 1 = 0 ∧ bitW 6 2 = 0 := by decide
theorem istep0 (y1 y2 y3 st x : Int) (hx : 1 ≤ x ∧ x ≤ 6) (h1 : y1 ≠ x) (h2 : y2 ≠ x) (h3 : y3 ≠ x) : istepW (wordsL 0 y1 y2 y3 st) 0 x st = wordsL x y1 y2 y3 st := by
 rcases vals6 hx with rfl | rfl | rfl | rfl | rfl | rfl <;> by_cases hs : 1 < st <;> simp [istepW, wordsL, wordsG, ownW, viaW, clsW, bitW_zero, bitW_vals, h1, h2, h3, hs] <;> omega
theorem istep1 (y0 y2 y3 st x : Int) (hx : 1 ≤ x ∧ x ≤ 6) (h0 : y0 ≠ x) (h2 : y2 ≠ x) (h3 : y3 ≠ x) : istepW (wordsL y0 0 y2 y3 st) 1 x st = wordsL y0 x y2 y3 st := by
 rcases vals6 hx with rfl | rfl | rfl | rfl | rfl | rfl <;> by_cases hs : 2 < st <;> simp [istepW, wordsL, wordsG, ownW, viaW, clsW, bitW_zero, bitW_vals, h0, h2, h3, hs] <;> omega
theorem istep2 (y0 y1 y3 st x : Int) (hx : 1 ≤ x ∧ x ≤ 6) (h0 : y0 ≠ x) (h1 : y1 ≠ x) (h3 : y3 ≠ x) : istepW (wordsL y0 y1 0 y3 st) 2 x st = wordsL y0 y1 x y3 st := by
 rcases vals6 hx with rfl | rfl | rfl | rfl | rfl | rfl <;> by_cases hs : 3 < st <;> simp [istepW, wordsL, wordsG, ownW, viaW, clsW, bitW_zero, bitW_vals, h0, h1, h3, hs] <;> omega
theorem istep3 (y0 y1 y2 st x : Int) (hx : 1 ≤ x ∧ x ≤ 6) (h0 : y0 ≠ x) (h1 : y1 ≠ x) (h2 : y2 ≠ x) : istepW (wordsL y0 y1 y2 0 st) 3 x st = wordsL y0 y1 y2 x st := by
 rcases vals6 hx with rfl | rfl | rfl | rfl | rfl | rfl <;> by_cases hs : 4 < st <;> simp [istepW, wordsL, wordsG, ownW, viaW, clsW, bitW_zero, bitW_vals, h0, h1, h2, hs] <;> omega
section
open Go.ChangeShapes Go.WideShapes Go.ChangeAt Go.RowKit
def cntK (xs : List Int) (c : Int) : Nat → Int
 | 0 => 0
 | k + 1 => cntK xs c k + bitW (xs.getD k 0) c
theorem bitW_le (y c : Int) : 0 ≤ bitW y c ∧ bitW y c ≤ 1 := by unfold bitW; split <;> omega
theorem cntK_le (xs : List Int) (c : Int) (k : Nat) : 0 ≤ cntK xs c k ∧ cntK xs c k ≤ (k : Int) := by
 induction k with
 | zero => simp [cntK]
 | succ k ih =>
   have := bitW_le (xs.getD k 0) c
   simp only [cntK]
   omega
theorem cntK_four (xs : List Int) (c : Int) : cntK xs c 4 = clsW (xs.getD 0 0) (xs.getD 1 0) (xs.getD 2 0) (xs.getD 3 0) c := by
 simp [cntK, clsW]
theorem l1Bit_any (b : Bool) (w : World) : Calls Tryz.prog 120 #[.bool b] w fun e w' => e = .returned (.int .i64 (if b then 1 else 0)) ∧ w' = w := by
 cases b
 · go_enter Tryz.func120, Tryz.ntmps120
   go_wp2
   go_ret
   exact ⟨rfl, rfl⟩
 · go_enter Tryz.func120, Tryz.ntmps120
   go_wp2
   go_ret
   exact ⟨rfl, rfl⟩
theorem specHowMany_four (a : Option Addr) (cp : Nat) (st c : Int) (xs : List Int) (w : World) (hA : IntAt w a 4 xs) :
   Calls Tryz.prog 94 #[.agg #[.slice a 4 cp, .int .i64 st], .int .i64 c] w fun e w' => e = .returned (.int .i64 (cntK xs c 4)) ∧ Below w.heap.size w w' := by
 have HA : Hid (IntAt w a 4 xs) := hA
 clear hA
 go_enter Tryz.func94, Tryz.ntmps94
 go_wp2
 go_loopw [5, 6] (fun q i wr => ∃ k : Nat, k ≤ 4 ∧ q = .int .i64 (cntK xs c k) ∧ i = .int .i64 (k : Int) ∧ Below (w.heap.size + 1) (w.alloc (.cells #[.slice a 4 cp, .int .i64 st] 34)) wr) (fun _ i _ => 4 - (intOf i).toNat)
 case atStart => exact ⟨0, Nat.zero_le _, rfl, rfl, Below.refl _ _⟩
 case round =>
   obtain ⟨k, hk, rfl, rfl, hb⟩ := hrel
   have hbw : Below w.heap.size w wr := ((Below.refl _ w).alloc (Nat.le_refl _) _).trans (hb.mono (Nat.le_succ _))
   have hc0 : wr.cell? ⟨w.heap.size, 0, none⟩ = some (.slice a 4 cp) := by rw [hb.cell (by simp)]; simp
   by_cases hlt : k < 4
   · rcases (HA.out.below hbw (Nat.le_refl _)).2.2 with h0 | ⟨p1, o1, rfl, g1⟩
     · omega
     have e1 := g1 k hlt
     obtain ⟨x, hx⟩ : ∃ x, xs.getD k 0 = x := ⟨_, rfl⟩
     rw [hx] at e1
     obtain ⟨q, hq⟩ : ∃ q, cntK xs c k = q := ⟨_, rfl⟩
     have hqb := cntK_le xs c k
     have hnext : Hid (cntK xs c (k + 1) = cntK xs c k + bitW x c) := by rw [← hx]; rfl
     rw [hq] at hqb ⊢
     have HQ : Hid (cntK xs c k = q) := hq
     clear g1 hx hq
     by_cases hv : 1 ≤ x ∧ x ≤ 6
     · by_cases hc : classN x = c
       · have hbit : Hid (bitW x c = 1) := by simp [Hid, bitW, hv, hc]
         have hcc : (classN x == c) = true := by simpa using hc
         clear hc
         go_wp2_with (first
           | (go_at_call 117; refine (specValOk_any x _).mono ?_; rintro e w1 ⟨rfl, rfl⟩; rw [show decide (1 ≤ x ∧ x ≤ 6) = true from decide_eq_true hv])
           | (go_at_call 153; refine (specClassOf_any x _).mono ?_; rintro e w1 ⟨rfl, rfl⟩)
           | (go_at_call 120; refine (l1Bit_any _ _).mono ?_; rintro e w1 ⟨rfl, rfl⟩))
         exact ⟨⟨k + 1, by omega, by rw [hnext.out, HQ.out, hbit.out], by go_num, hb⟩, by simp [intOf]; omega⟩
       · have hbit : Hid (bitW x c = 0) := by simp [Hid, bitW, hc]
         have hcc : (classN x == c) = false := by simpa using hc
         clear hc
         go_wp2_with (first
           | (go_at_call 117; refine (specValOk_any x _).mono ?_; rintro e w1 ⟨rfl, rfl⟩; rw [show decide (1 ≤ x ∧ x ≤ 6) = true from decide_eq_true hv])
           | (go_at_call 153; refine (specClassOf_any x _).mono ?_; rintro e w1 ⟨rfl, rfl⟩)
           | (go_at_call 120; refine (l1Bit_any _ _).mono ?_; rintro e w1 ⟨rfl, rfl⟩))
         exact ⟨⟨k + 1, by omega, by rw [hnext.out, HQ.out, hbit.out, Int.add_zero], by go_num, hb⟩, by simp [intOf]; omega⟩
     · have hbit : Hid (bitW x c = 0) := by simp [Hid, bitW, hv]
       go_wp2_with (first
         | (go_at_call 117; refine (specValOk_any x _).mono ?_; rintro e w1 ⟨rfl, rfl⟩; rw [show decide (1 ≤ x ∧ x ≤ 6) = false from decide_eq_false hv])
         | (go_at_call 120; refine (l1Bit_any _ _).mono ?_; rintro e w1 ⟨rfl, rfl⟩))
       exact ⟨⟨k + 1, by omega, by rw [hnext.out, HQ.out, hbit.out, Int.add_zero], by go_num, hb⟩, by simp [intOf]; omega⟩
   · obtain rfl : k = 4 := by omega
     go_wp2
     go_ret
     exact ⟨rfl, hbw⟩
end
def keyN (xs : List Int) (v : Int) : Int :=
 if xs.getD 0 0 = v then 0 else if xs.getD 1 0 = v then 1 else if xs.getD 2 0 = v then 2 else if xs.getD 3 0 = v then 3 else -1
theorem keyN_is (xs : List Int) (v : Int) : KeyIs xs 4 v (keyN xs v) := by
 unfold keyN
 split
 · exact .inr ⟨0, by omega, rfl, by assumption, fun j hj => by omega⟩
 split
 · exact .inr ⟨1, by omega, rfl, by assumption, fun j hj => by obtain rfl : j = 0 := by omega
                                                               assumption⟩
 split
 · exact .inr ⟨2, by omega, rfl, by assumption, fun j hj => by rcases (show j = 0 ∨ j = 1 by omega) with rfl | rfl <;> assumption⟩
 split
 · exact .inr ⟨3, by omega, rfl, by assumption, fun j hj => by rcases (show j = 0 ∨ j = 1 ∨ j = 2 by omega) with rfl | rfl | rfl <;> assumption⟩
 · exact .inl ⟨rfl, fun j hj => by rcases (show j = 0 ∨ j = 1 ∨ j = 2 ∨ j = 3 by omega) with rfl | rfl | rfl | rfl <;> assumption⟩
theorem KeyIs.keyN {xs : List Int} {v r : Int} (h : KeyIs xs 4 v r) : r = keyN xs v := h.one (keyN_is xs v)
theorem keyN_le (xs : List Int) (v : Int) : -1 ≤ keyN xs v ∧ keyN xs v ≤ 3 := by unfold Go.Proofs.YtlkdjeneggfhgaaGreatDoor.keyN; repeat (first | split | omega)
abbrev atK (xs : List Int) (k : Int) : Int := xs.getD k.toNat 0
def FailsM (xs : List Int) (st kind k v code : Int) : Prop :=
 (code = 1 ∧ kind = 1 ∧ atK xs k ≠ 0) ∨ (code = 2 ∧ (kind = 1 ∨ kind = 2) ∧ 0 ≤ keyN xs v)
 ∨ (code = 3 ∧ (((kind = 2 ∨ kind = 3 ∨ kind = 4) ∧ atK xs k = 0) ∨ (kind = 5 ∧ keyN xs v < 0) ∨ (kind = 10 ∧ st = 5 ∧ keyN xs v < 0)))
 ∨ (code = 4 ∧ ((kind = 8 ∧ st ≠ 0) ∨ (kind = 9 ∧ (st = 0 ∨ st = 5)) ∨ (kind = 10 ∧ st ≠ 5)))
def DoneM (xs : List Int) (st kind k v : Int) : Prop :=
 (kind = 1 ∧ atK xs k = 0 ∧ keyN xs v < 0) ∨ (kind = 2 ∧ atK xs k ≠ 0 ∧ (keyN xs v < 0 ∨ keyN xs v = k)) ∨ (kind = 3 ∧ atK xs k ≠ 0) ∨ (kind = 4 ∧ atK xs k ≠ 0)
 ∨ (kind = 5 ∧ 0 ≤ keyN xs v) ∨ kind = 6 ∨ kind = 7 ∨ (kind = 8 ∧ st = 0) ∨ (kind = 9 ∧ 1 ≤ st ∧ st ≤ 4) ∨ (kind = 10 ∧ st = 5 ∧ 0 ≤ keyN xs v)
def listM (xs : List Int) (kind k v : Int) : List Int :=
 if kind = 4 then [atK xs k] else if kind = 5 ∨ kind = 10 then [keyN xs v] else if kind = 6 then [cntK xs k 4] else if kind = 7 then xs else []
def AllowM (xs : List Int) (st kind k v code : Int) (ys : List Int) : Prop :=
 OkRows xs st ∧ OpGood kind k v ∧ ((code ≠ 0 ∧ ys = [] ∧ FailsM xs st kind k v code) ∨ (code = 0 ∧ DoneM xs st kind k v ∧ listM xs kind k v = ys))
def AfterM (xs : List Int) (st kind k v code : Int) (ys zs : List Int) (st' : Int) : Prop :=
 (AllowM xs st kind k v code ys ∧ code = 0 ∧ (((kind = 1 ∨ kind = 2) ∧ zs = xs.set k.toNat v ∧ st' = st) ∨ (kind = 3 ∧ zs = xs.set k.toNat 0 ∧ st' = st)
   ∨ ((kind = 8 ∨ kind = 9) ∧ zs = xs ∧ st' = st + 1) ∨ ((4 ≤ kind ∧ kind ≤ 7 ∨ kind = 10) ∧ zs = xs ∧ st' = st)))
 ∨ (¬ (AllowM xs st kind k v code ys ∧ code = 0) ∧ zs = xs ∧ st' = st)
theorem AfterM.one {xs : List Int} {st kind k v code : Int} {ys zs zs2 : List Int} {s1 s2 : Int} (h : AfterM xs st kind k v code ys zs s1) (g : AfterM xs st kind k v code ys zs2 s2) : zs = zs2 ∧ s1 = s2 := by
 rcases h with ⟨ha, hc, h⟩ | ⟨hn, h1, h2⟩
 · rcases g with ⟨_, _, g⟩ | ⟨gn, _⟩
   · rcases h with ⟨h0, rfl, rfl⟩ | ⟨h0, rfl, rfl⟩ | ⟨h0, rfl, rfl⟩ | ⟨h0, rfl, rfl⟩ <;> rcases g with ⟨g0, rfl, rfl⟩ | ⟨g0, rfl, rfl⟩ | ⟨g0, rfl, rfl⟩ | ⟨g0, rfl, rfl⟩ <;> first | exact ⟨rfl, rfl⟩ | (exfalso; omega)
   · exact absurd ⟨ha, hc⟩ gn
 · rcases g with ⟨ga, gc, _⟩ | ⟨_, g1, g2⟩
   · exact absurd ⟨ga, gc⟩ hn
   · exact ⟨h1.trans g1.symm, h2.trans g2.symm⟩
instance (xs : List Int) (st kind k v code : Int) : Decidable (FailsM xs st kind k v code) := by unfold FailsM; infer_instance
instance (xs : List Int) (st kind k v : Int) : Decidable (DoneM xs st kind k v) := by unfold DoneM; infer_instance
section
open Go.ChangeShapes Go.WideShapes Go.ChangeAt Go.RowKit
theorem codes (code : Int) : code = 1 ∨ code = 2 ∨ code = 3 ∨ code = 4 ∨ ((code == 1) = false ∧ (code == 2) = false ∧ (code == 3) = false ∧ (code == 4) = false) := by
 simp only [beq_eq_false_iff_ne, ne_eq]; omega
theorem says_iff {b : Bool} {P : Prop} [Decidable P] (h : b = true ↔ P) : Ending.returned (.bool b) = .returned (.bool (decide P)) := by
 rw [show b = decide P by cases b <;> simp at h ⊢ <;> exact h]
def DoneSays (e : Ending) (w' : World) (zs : List Int) (b : Bool) : Prop := ∃ (a' : Option Addr) (c' : Nat), e = .returned (.tuple #[.slice a' zs.length c', .bool b]) ∧ IntAt w' a' zs.length zs
theorem neb (a b : Int) : (a = b ∧ (a != b) = false) ∨ (¬ a = b ∧ (a != b) = true) := by
 by_cases h : a = b
 · exact .inl ⟨h, by simp [h]⟩
 · exact .inr ⟨h, by simp [h]⟩
theorem says_two {x y : Value} {b : Bool} {P : Prop} [Decidable P] (hx : x = y) (h : b = true ↔ P) : Ending.returned (.tuple #[x, .bool b]) = .returned (.tuple #[y, .bool (decide P)]) := by
 rw [hx, show b = decide P by cases b <;> simp at h ⊢ <;> exact h]
def Args (w : World) (ra oa sa : Array Value) (wr : World) : Prop :=
 (∀ i u, ra[i]? = some u → wr.cell? ⟨w.heap.size, i, none⟩ = some u) ∧ (∀ i u, oa[i]? = some u → wr.cell? ⟨w.heap.size + 1, i, none⟩ = some u) ∧ (∀ i u, sa[i]? = some u → wr.cell? ⟨w.heap.size + 1 + 1, i, none⟩ = some u)
theorem args_at (w : World) (ra oa sa : Array Value) (T1 T2 T3 : TypeId) (wr : World) (h : Below (w.heap.size + 1 + 1 + 1) (((w.alloc (.cells ra T1)).alloc (.cells oa T2)).alloc (.cells sa T3)) wr) : Args w ra oa sa wr := by
 refine ⟨fun i u hu => ?_, fun i u hu => ?_, fun i u hu => ?_⟩
 · rw [h.cell (show w.heap.size < w.heap.size + 1 + 1 + 1 by omega), World.cell?_alloc_past _ _ _ (by simp; omega), World.cell?_alloc_past _ _ _ (by simp), World.cell?_alloc_at _ _ _ _ rfl]
   exact hu
 · rw [h.cell (show w.heap.size + 1 < w.heap.size + 1 + 1 + 1 by omega), World.cell?_alloc_past _ _ _ (by simp), World.cell?_alloc_at _ _ _ _ (by simp)]
   exact hu
 · rw [h.cell (show w.heap.size + 1 + 1 < w.heap.size + 1 + 1 + 1 by omega), World.cell?_alloc_at _ _ _ _ (by simp)]
   exact hu
def Four (w : World) (ra oa sa va : Array Value) (wr : World) : Prop :=
 (∀ i u, ra[i]? = some u → wr.cell? ⟨w.heap.size, i, none⟩ = some u) ∧ (∀ i u, oa[i]? = some u → wr.cell? ⟨w.heap.size + 1, i, none⟩ = some u) ∧ (∀ i u, sa[i]? = some u → wr.cell? ⟨w.heap.size + 1 + 1, i, none⟩ = some u)
   ∧ (∀ i u, va[i]? = some u → wr.cell? ⟨w.heap.size + 1 + 1 + 1, i, none⟩ = some u) ∧ (∀ i, wr.frozen? ⟨w.heap.size + 1 + 1 + 1, i, none⟩ = false)
theorem four_at (w : World) (ra oa sa va : Array Value) (T1 T2 T3 T4 : TypeId) (wr : World) (h : Below (w.heap.size + 1 + 1 + 1 + 1) ((((w.alloc (.cells ra T1)).alloc (.cells oa T2)).alloc (.cells sa T3)).alloc (.cells va T4)) wr) : Four w ra oa sa va wr := by
 refine ⟨fun i u hu => ?_, fun i u hu => ?_, fun i u hu => ?_, fun i u hu => ?_, fun i => ?_⟩
 · rw [h.cell (show w.heap.size < w.heap.size + 1 + 1 + 1 + 1 by omega), World.cell?_alloc_past _ _ _ (by simp; omega), World.cell?_alloc_past _ _ _ (by simp; omega), World.cell?_alloc_past _ _ _ (by simp), World.cell?_alloc_at _ _ _ _ rfl]
   exact hu
 · rw [h.cell (show w.heap.size + 1 < w.heap.size + 1 + 1 + 1 + 1 by omega), World.cell?_alloc_past _ _ _ (by simp; try omega), World.cell?_alloc_past _ _ _ (by simp), World.cell?_alloc_at _ _ _ _ (by simp)]
   exact hu
 · rw [h.cell (show w.heap.size + 1 + 1 < w.heap.size + 1 + 1 + 1 + 1 by omega), World.cell?_alloc_past _ _ _ (by simp), World.cell?_alloc_at _ _ _ _ (by simp)]
   exact hu
 · rw [h.cell (show w.heap.size + 1 + 1 + 1 < w.heap.size + 1 + 1 + 1 + 1 by omega), World.cell?_alloc_at _ _ _ _ (by simp)]
   exact hu
 · rw [h.frozen (show w.heap.size + 1 + 1 + 1 < w.heap.size + 1 + 1 + 1 + 1 by omega)]
   simp [World.frozen?_alloc_at]
def AfterSays (e : Ending) (w w' : World) (n : Nat) (A : List Int → Int → Prop) : Prop :=
 ∃ (zs : List Int) (st' : Int) (a' : Option Addr) (c' : Nat), e = .returned (.agg #[.slice a' n c', .int .i64 st']) ∧ A zs st' ∧ w'.ownsRow w.heap.size 3 1 (.slice a' n c') n (zs.map I)
theorem l4Fails_1 (a : Option Addr) (cp : Nat) (st v code : Int) (k : Nat) (xs : List Int) (w : World) (hA : IntAt w a 4 xs) (hk : k < 4) :
   Calls Tryz.prog 68 #[.agg #[.slice a 4 cp, .int .i64 st], OpV 1 (k : Int) v, .int .i64 code] w fun e w' => e = .returned (.bool (decide (FailsM xs st 1 (k : Int) v code))) ∧ Below w.heap.size w w' := by
 have HA : Hid (IntAt w a 4 xs) := hA
 clear hA
 obtain ⟨B, hB⟩ : ∃ B, decide (FailsM xs st 1 (k : Int) v code) = B := ⟨_, rfl⟩
 rw [hB]
 have HB : Hid (decide (FailsM xs st 1 (k : Int) v code) = B) := hB
 clear hB
 go_enter Tryz.func68, Tryz.ntmps68
 go_wp2_with fail
 have hb0 : Below w.heap.size w ((w.alloc (.cells #[.slice a 4 cp, .int .i64 st] 34)).alloc (.cells #[.int .i64 1, .int .i64 (k : Int), .int .i64 v] 59)) := ((Below.refl _ w).alloc (Nat.le_refl _) _).alloc (by simp) _
 refine (specKeyOf_any a 4 cp st v xs _ (HA.out.below hb0 (Nat.le_refl _))).mono ?_
 rintro e w1 ⟨⟨q, rfl, hq⟩, hb1⟩
 have HQ : Hid (q = keyN xs v) := hq.keyN
 simp only [World.size_alloc] at hb1
 have c0 : w1.cell? ⟨w.heap.size, 0, none⟩ = some (.slice a 4 cp) := by rw [hb1.cell (by simp; omega)]; simp
 have c1 : w1.cell? ⟨w.heap.size, 1, none⟩ = some (.int .i64 st) := by rw [hb1.cell (by simp; omega)]; simp
 have d0 : w1.cell? ⟨w.heap.size + 1, 0, none⟩ = some (.int .i64 1) := by rw [hb1.cell (by simp)]; simp
 have d1 : w1.cell? ⟨w.heap.size + 1, 1, none⟩ = some (.int .i64 (k : Int)) := by rw [hb1.cell (by simp)]; simp
 have hbw : Below w.heap.size w w1 := hb0.trans (hb1.mono (by omega))
 rcases (HA.out.below hbw (Nat.le_refl _)).2.2 with h0 | ⟨p1, o1, rfl, g1⟩
 · omega
 have e1 := g1 k hk
 obtain ⟨x, hx⟩ : ∃ x, xs.getD k 0 = x := ⟨_, rfl⟩
 rw [hx] at e1
 have HX : Hid (atK xs (k : Int) = x) := by simpa [Hid, atK] using hx
 clear g1 hx hq hb0 hb1
 rcases codes code with rfl | rfl | rfl | rfl | ⟨n1, n2, n3, n4⟩
 all_goals
   go_wp2
 all_goals
   go_ret
   refine ⟨?_, hbw⟩
   rw [← HB.out]
   refine says_iff ?_
   unfold FailsM
   rw [← HQ.out]; rw [HX.out]
   first
     | (simp; done)
     | (simp; omega)
     | (simp at *; simp [*]; done)
     | (simp at *; omega)
theorem l4Fails_2 (a : Option Addr) (cp : Nat) (st v code : Int) (k : Nat) (xs : List Int) (w : World) (hA : IntAt w a 4 xs) (hk : k < 4) :
   Calls Tryz.prog 68 #[.agg #[.slice a 4 cp, .int .i64 st], OpV 2 (k : Int) v, .int .i64 code] w fun e w' => e = .returned (.bool (decide (FailsM xs st 2 (k : Int) v code))) ∧ Below w.heap.size w w' := by
 have HA : Hid (IntAt w a 4 xs) := hA
 clear hA
 obtain ⟨B, hB⟩ : ∃ B, decide (FailsM xs st 2 (k : Int) v code) = B := ⟨_, rfl⟩
 rw [hB]
 have HB : Hid (decide (FailsM xs st 2 (k : Int) v code) = B) := hB
 clear hB
 go_enter Tryz.func68, Tryz.ntmps68
 go_wp2_with fail
 have hb0 : Below w.heap.size w ((w.alloc (.cells #[.slice a 4 cp, .int .i64 st] 34)).alloc (.cells #[.int .i64 2, .int .i64 (k : Int), .int .i64 v] 59)) := ((Below.refl _ w).alloc (Nat.le_refl _) _).alloc (by simp) _
 refine (specKeyOf_any a 4 cp st v xs _ (HA.out.below hb0 (Nat.le_refl _))).mono ?_
 rintro e w1 ⟨⟨q, rfl, hq⟩, hb1⟩
 have HQ : Hid (q = keyN xs v) := hq.keyN
 simp only [World.size_alloc] at hb1
 have c0 : w1.cell? ⟨w.heap.size, 0, none⟩ = some (.slice a 4 cp) := by rw [hb1.cell (by simp; omega)]; simp
 have c1 : w1.cell? ⟨w.heap.size, 1, none⟩ = some (.int .i64 st) := by rw [hb1.cell (by simp; omega)]; simp
 have d0 : w1.cell? ⟨w.heap.size + 1, 0, none⟩ = some (.int .i64 2) := by rw [hb1.cell (by simp)]; simp
 have d1 : w1.cell? ⟨w.heap.size + 1, 1, none⟩ = some (.int .i64 (k : Int)) := by rw [hb1.cell (by simp)]; simp
 have hbw : Below w.heap.size w w1 := hb0.trans (hb1.mono (by omega))
 rcases (HA.out.below hbw (Nat.le_refl _)).2.2 with h0 | ⟨p1, o1, rfl, g1⟩
 · omega
 have e1 := g1 k hk
 obtain ⟨x, hx⟩ : ∃ x, xs.getD k 0 = x := ⟨_, rfl⟩
 rw [hx] at e1
 have HX : Hid (atK xs (k : Int) = x) := by simpa [Hid, atK] using hx
 clear g1 hx hq hb0 hb1
 rcases codes code with rfl | rfl | rfl | rfl | ⟨n1, n2, n3, n4⟩
 all_goals
   go_wp2
 all_goals
   go_ret
   refine ⟨?_, hbw⟩
   rw [← HB.out]
   refine says_iff ?_
   unfold FailsM
   rw [← HQ.out]; rw [HX.out]
   first
     | (simp; done)
     | (simp; omega)
     | (simp at *; simp [*]; done)
     | (simp at *; omega)
theorem l4Fails_3 (a : Option Addr) (cp : Nat) (st v code : Int) (k : Nat) (xs : List Int) (w : World) (hA : IntAt w a 4 xs) (hk : k < 4) :
   Calls Tryz.prog 68 #[.agg #[.slice a 4 cp, .int .i64 st], OpV 3 (k : Int) v, .int .i64 code] w fun e w' => e = .returned (.bool (decide (FailsM xs st 3 (k : Int) v code))) ∧ Below w.heap.size w w' := by
 have HA : Hid (IntAt w a 4 xs) := hA
 clear hA
 obtain ⟨B, hB⟩ : ∃ B, decide (FailsM xs st 3 (k : Int) v code) = B := ⟨_, rfl⟩
 rw [hB]
 have HB : Hid (decide (FailsM xs st 3 (k : Int) v code) = B) := hB
 clear hB
 go_enter Tryz.func68, Tryz.ntmps68
 go_wp2_with fail
 have hb0 : Below w.heap.size w ((w.alloc (.cells #[.slice a 4 cp, .int .i64 st] 34)).alloc (.cells #[.int .i64 3, .int .i64 (k : Int), .int .i64 v] 59)) := ((Below.refl _ w).alloc (Nat.le_refl _) _).alloc (by simp) _
 refine (specKeyOf_any a 4 cp st v xs _ (HA.out.below hb0 (Nat.le_refl _))).mono ?_
 rintro e w1 ⟨⟨q, rfl, hq⟩, hb1⟩
 have HQ : Hid (q = keyN xs v) := hq.keyN
 simp only [World.size_alloc] at hb1
 have c0 : w1.cell? ⟨w.heap.size, 0, none⟩ = some (.slice a 4 cp) := by rw [hb1.cell (by simp; omega)]; simp
 have c1 : w1.cell? ⟨w.heap.size, 1, none⟩ = some (.int .i64 st) := by rw [hb1.cell (by simp; omega)]; simp
 have d0 : w1.cell? ⟨w.heap.size + 1, 0, none⟩ = some (.int .i64 3) := by rw [hb1.cell (by simp)]; simp
 have d1 : w1.cell? ⟨w.heap.size + 1, 1, none⟩ = some (.int .i64 (k : Int)) := by rw [hb1.cell (by simp)]; simp
 have hbw : Below w.heap.size w w1 := hb0.trans (hb1.mono (by omega))
 rcases (HA.out.below hbw (Nat.le_refl _)).2.2 with h0 | ⟨p1, o1, rfl, g1⟩
 · omega
 have e1 := g1 k hk
 obtain ⟨x, hx⟩ : ∃ x, xs.getD k 0 = x := ⟨_, rfl⟩
 rw [hx] at e1
 have HX : Hid (atK xs (k : Int) = x) := by simpa [Hid, atK] using hx
 clear g1 hx hq hb0 hb1
 rcases codes code with rfl | rfl | rfl | rfl | ⟨n1, n2, n3, n4⟩
 all_goals
   go_wp2
 all_goals
   go_ret
   refine ⟨?_, hbw⟩
   rw [← HB.out]
   refine says_iff ?_
   unfold FailsM
   rw [← HQ.out]; rw [HX.out]
   first
     | (simp; done)
     | (simp; omega)
     | (simp at *; simp [*]; done)
     | (simp at *; omega)
theorem l4Fails_4 (a : Option Addr) (cp : Nat) (st v code : Int) (k : Nat) (xs : List Int) (w : World) (hA : IntAt w a 4 xs) (hk : k < 4) :
   Calls Tryz.prog 68 #[.agg #[.slice a 4 cp, .int .i64 st], OpV 4 (k : Int) v, .int .i64 code] w fun e w' => e = .returned (.bool (decide (FailsM xs st 4 (k : Int) v code))) ∧ Below w.heap.size w w' := by
 have HA : Hid (IntAt w a 4 xs) := hA
 clear hA
 obtain ⟨B, hB⟩ : ∃ B, decide (FailsM xs st 4 (k : Int) v code) = B := ⟨_, rfl⟩
 rw [hB]
 have HB : Hid (decide (FailsM xs st 4 (k : Int) v code) = B) := hB
 clear hB
 go_enter Tryz.func68, Tryz.ntmps68
 go_wp2_with fail
 have hb0 : Below w.heap.size w ((w.alloc (.cells #[.slice a 4 cp, .int .i64 st] 34)).alloc (.cells #[.int .i64 4, .int .i64 (k : Int), .int .i64 v] 59)) := ((Below.refl _ w).alloc (Nat.le_refl _) _).alloc (by simp) _
 refine (specKeyOf_any a 4 cp st v xs _ (HA.out.below hb0 (Nat.le_refl _))).mono ?_
 rintro e w1 ⟨⟨q, rfl, hq⟩, hb1⟩
 have HQ : Hid (q = keyN xs v) := hq.keyN
 simp only [World.size_alloc] at hb1
 have c0 : w1.cell? ⟨w.heap.size, 0, none⟩ = some (.slice a 4 cp) := by rw [hb1.cell (by simp; omega)]; simp
 have c1 : w1.cell? ⟨w.heap.size, 1, none⟩ = some (.int .i64 st) := by rw [hb1.cell (by simp; omega)]; simp
 have d0 : w1.cell? ⟨w.heap.size + 1, 0, none⟩ = some (.int .i64 4) := by rw [hb1.cell (by simp)]; simp
 have d1 : w1.cell? ⟨w.heap.size + 1, 1, none⟩ = some (.int .i64 (k : Int)) := by rw [hb1.cell (by simp)]; simp
 have hbw : Below w.heap.size w w1 := hb0.trans (hb1.mono (by omega))
 rcases (HA.out.below hbw (Nat.le_refl _)).2.2 with h0 | ⟨p1, o1, rfl, g1⟩
 · omega
 have e1 := g1 k hk
 obtain ⟨x, hx⟩ : ∃ x, xs.getD k 0 = x := ⟨_, rfl⟩
 rw [hx] at e1
 have HX : Hid (atK xs (k : Int) = x) := by simpa [Hid, atK] using hx
 clear g1 hx hq hb0 hb1
 rcases codes code with rfl | rfl | rfl | rfl | ⟨n1, n2, n3, n4⟩
 all_goals
   go_wp2
 all_goals
   go_ret
   refine ⟨?_, hbw⟩
   rw [← HB.out]
   refine says_iff ?_
   unfold FailsM
   rw [← HQ.out]; rw [HX.out]
   first
     | (simp; done)
     | (simp; omega)
     | (simp at *; simp [*]; done)
     | (simp at *; omega)
theorem l4Fails_5 (a : Option Addr) (cp : Nat) (st v code : Int) (k : Int) (xs : List Int) (w : World) (hA : IntAt w a 4 xs) :
   Calls Tryz.prog 68 #[.agg #[.slice a 4 cp, .int .i64 st], OpV 5 k v, .int .i64 code] w fun e w' => e = .returned (.bool (decide (FailsM xs st 5 k v code))) ∧ Below w.heap.size w w' := by
 have HA : Hid (IntAt w a 4 xs) := hA
 clear hA
 obtain ⟨B, hB⟩ : ∃ B, decide (FailsM xs st 5 k v code) = B := ⟨_, rfl⟩
 rw [hB]
 have HB : Hid (decide (FailsM xs st 5 k v code) = B) := hB
 clear hB
 go_enter Tryz.func68, Tryz.ntmps68
 go_wp2_with fail
 have hb0 : Below w.heap.size w ((w.alloc (.cells #[.slice a 4 cp, .int .i64 st] 34)).alloc (.cells #[.int .i64 5, .int .i64 k, .int .i64 v] 59)) := ((Below.refl _ w).alloc (Nat.le_refl _) _).alloc (by simp) _
 refine (specKeyOf_any a 4 cp st v xs _ (HA.out.below hb0 (Nat.le_refl _))).mono ?_
 rintro e w1 ⟨⟨q, rfl, hq⟩, hb1⟩
 have HQ : Hid (q = keyN xs v) := hq.keyN
 simp only [World.size_alloc] at hb1
 have c0 : w1.cell? ⟨w.heap.size, 0, none⟩ = some (.slice a 4 cp) := by rw [hb1.cell (by simp; omega)]; simp
 have c1 : w1.cell? ⟨w.heap.size, 1, none⟩ = some (.int .i64 st) := by rw [hb1.cell (by simp; omega)]; simp
 have d0 : w1.cell? ⟨w.heap.size + 1, 0, none⟩ = some (.int .i64 5) := by rw [hb1.cell (by simp)]; simp
 have hbw : Below w.heap.size w w1 := hb0.trans (hb1.mono (by omega))
 clear hq hb0 hb1
 rcases codes code with rfl | rfl | rfl | rfl | ⟨n1, n2, n3, n4⟩
 all_goals
   go_wp2
 all_goals
   go_ret
   refine ⟨?_, hbw⟩
   rw [← HB.out]
   refine says_iff ?_
   unfold FailsM
   rw [← HQ.out]
   first
     | (simp; done)
     | (simp; omega)
     | (simp at *; simp [*]; done)
     | (simp at *; omega)
theorem l4Fails_6 (a : Option Addr) (cp : Nat) (st v code : Int) (k : Int) (xs : List Int) (w : World) (hA : IntAt w a 4 xs) :
   Calls Tryz.prog 68 #[.agg #[.slice a 4 cp, .int .i64 st], OpV 6 k v, .int .i64 code] w fun e w' => e = .returned (.bool (decide (FailsM xs st 6 k v code))) ∧ Below w.heap.size w w' := by
 have HA : Hid (IntAt w a 4 xs) := hA
 clear hA
 obtain ⟨B, hB⟩ : ∃ B, decide (FailsM xs st 6 k v code) = B := ⟨_, rfl⟩
 rw [hB]
 have HB : Hid (decide (FailsM xs st 6 k v code) = B) := hB
 clear hB
 go_enter Tryz.func68, Tryz.ntmps68
 go_wp2_with fail
 have hb0 : Below w.heap.size w ((w.alloc (.cells #[.slice a 4 cp, .int .i64 st] 34)).alloc (.cells #[.int .i64 6, .int .i64 k, .int .i64 v] 59)) := ((Below.refl _ w).alloc (Nat.le_refl _) _).alloc (by simp) _
 refine (specKeyOf_any a 4 cp st v xs _ (HA.out.below hb0 (Nat.le_refl _))).mono ?_
 rintro e w1 ⟨⟨q, rfl, hq⟩, hb1⟩
 have HQ : Hid (q = keyN xs v) := hq.keyN
 simp only [World.size_alloc] at hb1
 have c0 : w1.cell? ⟨w.heap.size, 0, none⟩ = some (.slice a 4 cp) := by rw [hb1.cell (by simp; omega)]; simp
 have c1 : w1.cell? ⟨w.heap.size, 1, none⟩ = some (.int .i64 st) := by rw [hb1.cell (by simp; omega)]; simp
 have d0 : w1.cell? ⟨w.heap.size + 1, 0, none⟩ = some (.int .i64 6) := by rw [hb1.cell (by simp)]; simp
 have hbw : Below w.heap.size w w1 := hb0.trans (hb1.mono (by omega))
 clear hq hb0 hb1
 rcases codes code with rfl | rfl | rfl | rfl | ⟨n1, n2, n3, n4⟩
 all_goals
   go_wp2
 all_goals
   go_ret
   refine ⟨?_, hbw⟩
   rw [← HB.out]
   refine says_iff ?_
   unfold FailsM
   rw [← HQ.out]
   first
     | (simp; done)
     | (simp; omega)
     | (simp at *; simp [*]; done)
     | (simp at *; omega)
theorem l4Fails_7 (a : Option Addr) (cp : Nat) (st v code : Int) (k : Int) (xs : List Int) (w : World) (hA : IntAt w a 4 xs) :
   Calls Tryz.prog 68 #[.agg #[.slice a 4 cp, .int .i64 st], OpV 7 k v, .int .i64 code] w fun e w' => e = .returned (.bool (decide (FailsM xs st 7 k v code))) ∧ Below w.heap.size w w' := by
 have HA : Hid (IntAt w a 4 xs) := hA
 clear hA
 obtain ⟨B, hB⟩ : ∃ B, decide (FailsM xs st 7 k v code) = B := ⟨_, rfl⟩
 rw [hB]
 have HB : Hid (decide (FailsM xs st 7 k v code) = B) := hB
 clear hB
 go_enter Tryz.func68, Tryz.ntmps68
 go_wp2_with fail
 have hb0 : Below w.heap.size w ((w.alloc (.cells #[.slice a 4 cp, .int .i64 st] 34)).alloc (.cells #[.int .i64 7, .int .i64 k, .int .i64 v] 59)) := ((Below.refl _ w).alloc (Nat.le_refl _) _).alloc (by simp) _
 refine (specKeyOf_any a 4 cp st v xs _ (HA.out.below hb0 (Nat.le_refl _))).mono ?_
 rintro e w1 ⟨⟨q, rfl, hq⟩, hb1⟩
 have HQ : Hid (q = keyN xs v) := hq.keyN
 simp only [World.size_alloc] at hb1
 have c0 : w1.cell? ⟨w.heap.size, 0, none⟩ = some (.slice a 4 cp) := by rw [hb1.cell (by simp; omega)]; simp
 have c1 : w1.cell? ⟨w.heap.size, 1, none⟩ = some (.int .i64 st) := by rw [hb1.cell (by simp; omega)]; simp
 have d0 : w1.cell? ⟨w.heap.size + 1, 0, none⟩ = some (.int .i64 7) := by rw [hb1.cell (by simp)]; simp
 have hbw : Below w.heap.size w w1 := hb0.trans (hb1.mono (by omega))
 clear hq hb0 hb1
 rcases codes code with rfl | rfl | rfl | rfl | ⟨n1, n2, n3, n4⟩
 all_goals
   go_wp2
 all_goals
   go_ret
   refine ⟨?_, hbw⟩
   rw [← HB.out]
   refine says_iff ?_
   unfold FailsM
   rw [← HQ.out]
   first
     | (simp; done)
     | (simp; omega)
     | (simp at *; simp [*]; done)
     | (simp at *; omega)
theorem l4Fails_8 (a : Option Addr) (cp : Nat) (st v code : Int) (k : Int) (xs : List Int) (w : World) (hA : IntAt w a 4 xs) :
   Calls Tryz.prog 68 #[.agg #[.slice a 4 cp, .int .i64 st], OpV 8 k v, .int .i64 code] w fun e w' => e = .returned (.bool (decide (FailsM xs st 8 k v code))) ∧ Below w.heap.size w w' := by
 have HA : Hid (IntAt w a 4 xs) := hA
 clear hA
 obtain ⟨B, hB⟩ : ∃ B, decide (FailsM xs st 8 k v code) = B := ⟨_, rfl⟩
 rw [hB]
 have HB : Hid (decide (FailsM xs st 8 k v code) = B) := hB
 clear hB
 go_enter Tryz.func68, Tryz.ntmps68
 go_wp2_with fail
 have hb0 : Below w.heap.size w ((w.alloc (.cells #[.slice a 4 cp, .int .i64 st] 34)).alloc (.cells #[.int .i64 8, .int .i64 k, .int .i64 v] 59)) := ((Below.refl _ w).alloc (Nat.le_refl _) _).alloc (by simp) _
 refine (specKeyOf_any a 4 cp st v xs _ (HA.out.below hb0 (Nat.le_refl _))).mono ?_
 rintro e w1 ⟨⟨q, rfl, hq⟩, hb1⟩
 have HQ : Hid (q = keyN xs v) := hq.keyN
 simp only [World.size_alloc] at hb1
 have c0 : w1.cell? ⟨w.heap.size, 0, none⟩ = some (.slice a 4 cp) := by rw [hb1.cell (by simp; omega)]; simp
 have c1 : w1.cell? ⟨w.heap.size, 1, none⟩ = some (.int .i64 st) := by rw [hb1.cell (by simp; omega)]; simp
 have d0 : w1.cell? ⟨w.heap.size + 1, 0, none⟩ = some (.int .i64 8) := by rw [hb1.cell (by simp)]; simp
 have hbw : Below w.heap.size w w1 := hb0.trans (hb1.mono (by omega))
 clear hq hb0 hb1
 rcases codes code with rfl | rfl | rfl | rfl | ⟨n1, n2, n3, n4⟩
 all_goals
   go_wp2
 all_goals
   go_ret
   refine ⟨?_, hbw⟩
   rw [← HB.out]
   refine says_iff ?_
   unfold FailsM
   rw [← HQ.out]
   first
     | (simp; done)
     | (simp; omega)
     | (simp at *; simp [*]; done)
     | (simp at *; omega)
theorem l4Fails_9 (a : Option Addr) (cp : Nat) (st v code : Int) (k : Int) (xs : List Int) (w : World) (hA : IntAt w a 4 xs) :
   Calls Tryz.prog 68 #[.agg #[.slice a 4 cp, .int .i64 st], OpV 9 k v, .int .i64 code] w fun e w' => e = .returned (.bool (decide (FailsM xs st 9 k v code))) ∧ Below w.heap.size w w' := by
 have HA : Hid (IntAt w a 4 xs) := hA
 clear hA
 obtain ⟨B, hB⟩ : ∃ B, decide (FailsM xs st 9 k v code) = B := ⟨_, rfl⟩
 rw [hB]
 have HB : Hid (decide (FailsM xs st 9 k v code) = B) := hB
 clear hB
 go_enter Tryz.func68, Tryz.ntmps68
 go_wp2_with fail
 have hb0 : Below w.heap.size w ((w.alloc (.cells #[.slice a 4 cp, .int .i64 st] 34)).alloc (.cells #[.int .i64 9, .int .i64 k, .int .i64 v] 59)) := ((Below.refl _ w).alloc (Nat.le_refl _) _).alloc (by simp) _
 refine (specKeyOf_any a 4 cp st v xs _ (HA.out.below hb0 (Nat.le_refl _))).mono ?_
 rintro e w1 ⟨⟨q, rfl, hq⟩, hb1⟩
 have HQ : Hid (q = keyN xs v) := hq.keyN
 simp only [World.size_alloc] at hb1
 have c0 : w1.cell? ⟨w.heap.size, 0, none⟩ = some (.slice a 4 cp) := by rw [hb1.cell (by simp; omega)]; simp
 have c1 : w1.cell? ⟨w.heap.size, 1, none⟩ = some (.int .i64 st) := by rw [hb1.cell (by simp; omega)]; simp
 have d0 : w1.cell? ⟨w.heap.size + 1, 0, none⟩ = some (.int .i64 9) := by rw [hb1.cell (by simp)]; simp
 have hbw : Below w.heap.size w w1 := hb0.trans (hb1.mono (by omega))
 clear hq hb0 hb1
 rcases codes code with rfl | rfl | rfl | rfl | ⟨n1, n2, n3, n4⟩
 all_goals
   go_wp2
 all_goals
   go_ret
   refine ⟨?_, hbw⟩
   rw [← HB.out]
   refine says_iff ?_
   unfold FailsM
   rw [← HQ.out]
   first
     | (simp; done)
     | (simp; omega)
     | (simp at *; simp [*]; done)
     | (simp at *; omega)
theorem l4Fails_10 (a : Option Addr) (cp : Nat) (st v code : Int) (k : Int) (xs : List Int) (w : World) (hA : IntAt w a 4 xs) :
   Calls Tryz.prog 68 #[.agg #[.slice a 4 cp, .int .i64 st], OpV 10 k v, .int .i64 code] w fun e w' => e = .returned (.bool (decide (FailsM xs st 10 k v code))) ∧ Below w.heap.size w w' := by
 have HA : Hid (IntAt w a 4 xs) := hA
 clear hA
 obtain ⟨B, hB⟩ : ∃ B, decide (FailsM xs st 10 k v code) = B := ⟨_, rfl⟩
 rw [hB]
 have HB : Hid (decide (FailsM xs st 10 k v code) = B) := hB
 clear hB
 go_enter Tryz.func68, Tryz.ntmps68
 go_wp2_with fail
 have hb0 : Below w.heap.size w ((w.alloc (.cells #[.slice a 4 cp, .int .i64 st] 34)).alloc (.cells #[.int .i64 10, .int .i64 k, .int .i64 v] 59)) := ((Below.refl _ w).alloc (Nat.le_refl _) _).alloc (by simp) _
 refine (specKeyOf_any a 4 cp st v xs _ (HA.out.below hb0 (Nat.le_refl _))).mono ?_
 rintro e w1 ⟨⟨q, rfl, hq⟩, hb1⟩
 have HQ : Hid (q = keyN xs v) := hq.keyN
 simp only [World.size_alloc] at hb1
 have c0 : w1.cell? ⟨w.heap.size, 0, none⟩ = some (.slice a 4 cp) := by rw [hb1.cell (by simp; omega)]; simp
 have c1 : w1.cell? ⟨w.heap.size, 1, none⟩ = some (.int .i64 st) := by rw [hb1.cell (by simp; omega)]; simp
 have d0 : w1.cell? ⟨w.heap.size + 1, 0, none⟩ = some (.int .i64 10) := by rw [hb1.cell (by simp)]; simp
 have hbw : Below w.heap.size w w1 := hb0.trans (hb1.mono (by omega))
 clear hq hb0 hb1
 rcases codes code with rfl | rfl | rfl | rfl | ⟨n1, n2, n3, n4⟩
 all_goals
   go_wp2
 all_goals
   go_ret
   refine ⟨?_, hbw⟩
   rw [← HB.out]
   refine says_iff ?_
   unfold FailsM
   rw [← HQ.out]
   first
     | (simp; done)
     | (simp; omega)
     | (simp at *; simp [*]; done)
     | (simp at *; omega)
theorem l4Fails_any (a : Option Addr) (cp : Nat) (st kind k v code : Int) (xs : List Int) (w : World) (hA : IntAt w a 4 xs) (ho : OpGood kind k v) :
   Calls Tryz.prog 68 #[.agg #[.slice a 4 cp, .int .i64 st], OpV kind k v, .int .i64 code] w fun e w' => e = .returned (.bool (decide (FailsM xs st kind k v code))) ∧ Below w.heap.size w w' := by
 have hkey := ho.2.1
 rcases kinds ho.1 with rfl | rfl | rfl | rfl | rfl | rfl | rfl | rfl | rfl | rfl
 · obtain ⟨n, rfl⟩ : ∃ n : Nat, k = n := ⟨k.toNat, by unfold KeyGood at hkey; omega⟩
   exact l4Fails_1 a cp st v code n xs w hA (by unfold KeyGood at hkey; omega)
 · obtain ⟨n, rfl⟩ : ∃ n : Nat, k = n := ⟨k.toNat, by unfold KeyGood at hkey; omega⟩
   exact l4Fails_2 a cp st v code n xs w hA (by unfold KeyGood at hkey; omega)
 · obtain ⟨n, rfl⟩ : ∃ n : Nat, k = n := ⟨k.toNat, by unfold KeyGood at hkey; omega⟩
   exact l4Fails_3 a cp st v code n xs w hA (by unfold KeyGood at hkey; omega)
 · obtain ⟨n, rfl⟩ : ∃ n : Nat, k = n := ⟨k.toNat, by unfold KeyGood at hkey; omega⟩
   exact l4Fails_4 a cp st v code n xs w hA (by unfold KeyGood at hkey; omega)
 · exact l4Fails_5 a cp st v code k xs w hA
 · exact l4Fails_6 a cp st v code k xs w hA
 · exact l4Fails_7 a cp st v code k xs w hA
 · exact l4Fails_8 a cp st v code k xs w hA
 · exact l4Fails_9 a cp st v code k xs w hA
 · exact l4Fails_10 a cp st v code k xs w hA
end
end Go.Proofs.YtlkdjeneggfhgaaGreatDoor
