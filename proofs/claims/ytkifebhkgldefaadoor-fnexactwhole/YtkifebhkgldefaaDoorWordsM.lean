/- The words of a table of four keys, as a list: what is told of which keys so far. No program. -/
import Derived.Test.YtkifebhkgldefaaDoorClassOf
namespace Go.Proofs.YtkifebhkgldefaaDoor

/-- The key and 1 of who holds v, or 0. -/
def ownW (y0 y1 y2 y3 v : Int) : Int := if y0 = v then 1 else if y1 = v then 2 else if y2 = v then 3 else if y3 = v then 4 else 0
/-- Whether y is of class c. -/
def bitW (y c : Int) : Int := if (1 ≤ y ∧ y ≤ 6) ∧ classN y = c then 1 else 0
def clsW (y0 y1 y2 y3 c : Int) : Int := bitW y0 c + bitW y1 c + bitW y2 c + bitW y3 c
/-- .. by the other way, as far as it is made. -/
def viaW (y0 y1 y2 y3 st v : Int) : Int := if ownW y0 y1 y2 y3 v < st then ownW y0 y1 y2 y3 v else 0
/-- All words; the counts and the state as they are handed in. -/
def wordsG (y0 y1 y2 y3 c0 c1 c2 s st : Int) : List Int :=
  [y0, y1, y2, y3, ownW y0 y1 y2 y3 1, ownW y0 y1 y2 y3 2, ownW y0 y1 y2 y3 3, ownW y0 y1 y2 y3 4, ownW y0 y1 y2 y3 5, ownW y0 y1 y2 y3 6, c0, c1, c2, s,
   viaW y0 y1 y2 y3 st 1, viaW y0 y1 y2 y3 st 2, viaW y0 y1 y2 y3 st 3, viaW y0 y1 y2 y3 st 4, viaW y0 y1 y2 y3 st 5, viaW y0 y1 y2 y3 st 6]
def wordsL (y0 y1 y2 y3 st : Int) : List Int := wordsG y0 y1 y2 y3 (clsW y0 y1 y2 y3 0) (clsW y0 y1 y2 y3 1) (clsW y0 y1 y2 y3 2) st st

theorem wordsG_len (y0 y1 y2 y3 c0 c1 c2 s st : Int) : (wordsG y0 y1 y2 y3 c0 c1 c2 s st).length = 20 := rfl

theorem ownW_none {y0 y1 y2 y3 v : Int} (h0 : y0 ≠ v) (h1 : y1 ≠ v) (h2 : y2 ≠ v) (h3 : y3 ≠ v) : ownW y0 y1 y2 y3 v = 0 := by simp [ownW, h0, h1, h2, h3]

/-- What one key adds: at its own place, at what it holds, and at that by the other way. -/
def stepW (L : List Int) (k : Nat) (x : Int) (st : Int) : List Int :=
  if (k : Int) + 1 < st then ((L.set k x).set (x + 3).toNat ((k : Int) + 1)).set (x + 13).toNat ((k : Int) + 1) else (L.set k x).set (x + 3).toNat ((k : Int) + 1)

theorem vals6 {x : Int} (h : 1 ≤ x ∧ x ≤ 6) : x = 1 ∨ x = 2 ∨ x = 3 ∨ x = 4 ∨ x = 5 ∨ x = 6 := by omega

theorem step0 (y1 y2 y3 c0 c1 c2 s st x : Int) (hx : 1 ≤ x ∧ x ≤ 6) (h1 : y1 ≠ x) (h2 : y2 ≠ x) (h3 : y3 ≠ x) : stepW (wordsG 0 y1 y2 y3 c0 c1 c2 s st) 0 x st = wordsG x y1 y2 y3 c0 c1 c2 s st := by
  rcases vals6 hx with rfl | rfl | rfl | rfl | rfl | rfl <;> by_cases hs : 1 < st <;> simp [stepW, wordsG, ownW, viaW, h1, h2, h3, hs]
theorem step1 (y0 y2 y3 c0 c1 c2 s st x : Int) (hx : 1 ≤ x ∧ x ≤ 6) (h0 : y0 ≠ x) (h2 : y2 ≠ x) (h3 : y3 ≠ x) : stepW (wordsG y0 0 y2 y3 c0 c1 c2 s st) 1 x st = wordsG y0 x y2 y3 c0 c1 c2 s st := by
  rcases vals6 hx with rfl | rfl | rfl | rfl | rfl | rfl <;> by_cases hs : 2 < st <;> simp [stepW, wordsG, ownW, viaW, h0, h2, h3, hs]
theorem step2 (y0 y1 y3 c0 c1 c2 s st x : Int) (hx : 1 ≤ x ∧ x ≤ 6) (h0 : y0 ≠ x) (h1 : y1 ≠ x) (h3 : y3 ≠ x) : stepW (wordsG y0 y1 0 y3 c0 c1 c2 s st) 2 x st = wordsG y0 y1 x y3 c0 c1 c2 s st := by
  rcases vals6 hx with rfl | rfl | rfl | rfl | rfl | rfl <;> by_cases hs : 3 < st <;> simp [stepW, wordsG, ownW, viaW, h0, h1, h3, hs]
theorem step3 (y0 y1 y2 c0 c1 c2 s st x : Int) (hx : 1 ≤ x ∧ x ≤ 6) (h0 : y0 ≠ x) (h1 : y1 ≠ x) (h2 : y2 ≠ x) : stepW (wordsG y0 y1 y2 0 c0 c1 c2 s st) 3 x st = wordsG y0 y1 y2 x c0 c1 c2 s st := by
  rcases vals6 hx with rfl | rfl | rfl | rfl | rfl | rfl <;> by_cases hs : 4 < st <;> simp [stepW, wordsG, ownW, viaW, h0, h1, h2, hs]

theorem bitW_zero {c : Int} : bitW 0 c = 0 := by simp [bitW]
theorem wordsG_new (st : Int) : wordsG 0 0 0 0 0 0 0 0 st = List.replicate 20 0 := by
  simp [wordsG, ownW, viaW, List.replicate_succ]
theorem wordsL_new (st : Int) : wordsL 0 0 0 0 st = (List.replicate 20 0).set 13 st := by
  simp [wordsL, clsW, bitW_zero, wordsG, ownW, viaW, List.replicate_succ]
theorem wordsG_cls (y0 y1 y2 y3 c0 c1 c2 s st : Int) (i : Nat) (hi : i < 3) : (wordsG y0 y1 y2 y3 c0 c1 c2 s st).getD (10 + i) 0 = [c0, c1, c2].getD i 0 := by
  have h : i = 0 ∨ i = 1 ∨ i = 2 := by omega
  rcases h with rfl | rfl | rfl <;> rfl
theorem wordsG_set (y0 y1 y2 y3 c0 c1 c2 s st u : Int) : (wordsG y0 y1 y2 y3 c0 c1 c2 s st).set 10 u = wordsG y0 y1 y2 y3 u c1 c2 s st ∧ (wordsG y0 y1 y2 y3 c0 c1 c2 s st).set 11 u = wordsG y0 y1 y2 y3 c0 u c2 s st ∧
    (wordsG y0 y1 y2 y3 c0 c1 c2 s st).set 12 u = wordsG y0 y1 y2 y3 c0 c1 u s st ∧ (wordsG y0 y1 y2 y3 c0 c1 c2 s st).set 13 u = wordsG y0 y1 y2 y3 c0 c1 c2 u st := ⟨rfl, rfl, rfl, rfl⟩

/-- What one key adds, as the program tells it: the count too. -/
def istepW (L : List Int) (k : Nat) (x : Int) (st : Int) : List Int :=
  if (k : Int) + 1 < st then (((L.set k x).set (x + 3).toNat ((k : Int) + 1)).set (10 + x % 3).toNat (((L.set k x).set (x + 3).toNat ((k : Int) + 1)).getD (10 + x % 3).toNat 0 + 1)).set (x + 13).toNat ((k : Int) + 1)
  else ((L.set k x).set (x + 3).toNat ((k : Int) + 1)).set (10 + x % 3).toNat (((L.set k x).set (x + 3).toNat ((k : Int) + 1)).getD (10 + x % 3).toNat 0 + 1)
theorem bitW_vals : bitW 1 0 = 0 ∧ bitW 1 1 = 1 ∧ bitW 1 2 = 0 ∧ bitW 2 0 = 0 ∧ bitW 2 1 = 0 ∧ bitW 2 2 = 1 ∧ bitW 3 0 = 1 ∧ bitW 3 1 = 0 ∧ bitW 3 2 = 0 ∧ bitW 4 0 = 0 ∧ bitW 4 1 = 1 ∧ bitW 4 2 = 0 ∧ bitW 5 0 = 0 ∧ bitW 5 1 = 0 ∧ bitW 5 2 = 1 ∧ bitW 6 0 = 1 ∧ bitW 6 1 = 0 ∧ bitW 6 2 = 0 := by decide
theorem istep0 (y1 y2 y3 st x : Int) (hx : 1 ≤ x ∧ x ≤ 6) (h1 : y1 ≠ x) (h2 : y2 ≠ x) (h3 : y3 ≠ x) : istepW (wordsL 0 y1 y2 y3 st) 0 x st = wordsL x y1 y2 y3 st := by
  rcases vals6 hx with rfl | rfl | rfl | rfl | rfl | rfl <;> by_cases hs : 1 < st <;> simp [istepW, wordsL, wordsG, ownW, viaW, clsW, bitW_zero, bitW_vals, h1, h2, h3, hs] <;> omega
theorem istep1 (y0 y2 y3 st x : Int) (hx : 1 ≤ x ∧ x ≤ 6) (h0 : y0 ≠ x) (h2 : y2 ≠ x) (h3 : y3 ≠ x) : istepW (wordsL y0 0 y2 y3 st) 1 x st = wordsL y0 x y2 y3 st := by
  rcases vals6 hx with rfl | rfl | rfl | rfl | rfl | rfl <;> by_cases hs : 2 < st <;> simp [istepW, wordsL, wordsG, ownW, viaW, clsW, bitW_zero, bitW_vals, h0, h2, h3, hs] <;> omega
theorem istep2 (y0 y1 y3 st x : Int) (hx : 1 ≤ x ∧ x ≤ 6) (h0 : y0 ≠ x) (h1 : y1 ≠ x) (h3 : y3 ≠ x) : istepW (wordsL y0 y1 0 y3 st) 2 x st = wordsL y0 y1 x y3 st := by
  rcases vals6 hx with rfl | rfl | rfl | rfl | rfl | rfl <;> by_cases hs : 3 < st <;> simp [istepW, wordsL, wordsG, ownW, viaW, clsW, bitW_zero, bitW_vals, h0, h1, h3, hs] <;> omega
theorem istep3 (y0 y1 y2 st x : Int) (hx : 1 ≤ x ∧ x ≤ 6) (h0 : y0 ≠ x) (h1 : y1 ≠ x) (h2 : y2 ≠ x) : istepW (wordsL y0 y1 y2 0 st) 3 x st = wordsL y0 y1 y2 x st := by
  rcases vals6 hx with rfl | rfl | rfl | rfl | rfl | rfl <;> by_cases hs : 4 < st <;> simp [istepW, wordsL, wordsG, ownW, viaW, clsW, bitW_zero, bitW_vals, h0, h1, h2, hs] <;> omega
end Go.Proofs.YtkifebhkgldefaaDoor
