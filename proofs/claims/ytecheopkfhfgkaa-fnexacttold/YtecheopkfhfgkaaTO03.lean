/- Texts joined: ValM, Wrd1, Wrds, Ent1, Ents, ResV, Ints, ResL, Desc, SpecEntries, SpecWord, SpecDesc, SpecMem, Hold, Range3, ValOk, ImplRows, SpecRows. -/
import Derived.Test.YtecheopkfhfgkaaTO02
import Derived.Test.YtecheopkfhfgkaaTO01
import Derived.Deep.RegionHeld3
import Derived.Test.YtecheopkfhfgkaaRows
import Derived.WalkKit
import Derived.ProofKit
import Derived.WalkSmall
import Derived.OpenShut
import Derived.Handy
import Derived.ChangeOld
import Derived.Lib.SmallJoins
import Derived.Deep.QuietTactic
import Derived.BigQuiet
import Derived.WalkSpells
import Derived.Maps.OwnRows
import Derived.Maps.OwnSet
import Derived.Maps.RangeWalk
import Derived.Maps.Views
import Derived.Deep.RegionWith
set_option maxHeartbeats 200000
set_option maxRecDepth 100000
namespace Go.Proofs.Ytecheopkfhfgkaa
section
open Go.RowKit
structure DK where
 sq : Int
 st : Int
 en : Nat
 es : List Int
 cd : Int
 rn : Nat
 rs : List Int
instance : Inhabited DK := ⟨⟨0, 0, 0, [], 0, 0, []⟩⟩
def dk (ds : List DK) (i : Nat) : DK := ds.getD i default
def wordM (x t s : Int) (ds : List DK) (at_ : Int) : Int :=
 if t = 0 then x else if inB t 1 ds.length = true then
   (if (dk ds (t - 1).toNat).sq = s ∧ (dk ds (t - 1).toNat).st = 2 then (entM (dk ds (t - 1).toNat).es (dk ds (t - 1).toNat).en at_).2.2.1 else (entM (dk ds (t - 1).toNat).es (dk ds (t - 1).toNat).en at_).2.1) else 0
def valM (fs : List Int) (m : Nat) (ds : List DK) (at_ : Int) : Int :=
 if 0 ≤ at_ ∧ at_ < (m : Int) then wordM (fs.getD (at_.toNat * 3) 0) (fs.getD (at_.toNat * 3 + 1) 0) (fs.getD (at_.toNat * 3 + 2) 0) ds at_ else 0
def Five (w : World) (b p : Nat) (d : DK) (ea : Option Addr) (ec : Nat) (ra : Option Addr) (rc : Nat) : Prop :=
 w.cell? ⟨b, p, none⟩ = some (I d.sq) ∧ w.cell? ⟨b, p + 1, none⟩ = some (I d.st) ∧ w.cell? ⟨b, p + 2, none⟩ = some (.slice ea d.en ec) ∧ w.cell? ⟨b, p + 3, none⟩ = some (I d.cd) ∧ w.cell? ⟨b, p + 4, none⟩ = some (.slice ra d.rn rc)
theorem Five.below {w w' : World} {b p : Nat} {d : DK} {ea : Option Addr} {ec : Nat} {ra : Option Addr} {rc : Nat} (h : Five w b p d ea ec ra rc) {B : Nat} (hb : Below B w w') (hB : w.heap.size ≤ B) : Five w' b p d ea ec ra rc := by
 have hlt : b < B := Nat.lt_of_lt_of_le (World.block_lt_of_cell? w _ h.1) hB
 obtain ⟨h0, h1, h2, h3, h4⟩ := h
 exact ⟨(hb.cell hlt).trans h0, (hb.cell hlt).trans h1, (hb.cell hlt).trans h2, (hb.cell hlt).trans h3, (hb.cell hlt).trans h4⟩
def DescAt (w : World) (a : Option Addr) (n : Nat) (ds : List DK) : Prop :=
 ds.length = n ∧ n ≤ 1048576 ∧ (n = 0 ∨ ∃ b o, a = some ⟨b, o, none⟩ ∧ ∀ i, i < n → ∃ ea ec ra rc, Five w b (o + i * 5) (dk ds i) ea ec ra rc ∧ TripAt w ea (dk ds i).en (dk ds i).es ∧ IntAt w ra (dk ds i).rn (dk ds i).rs)
theorem DescAt.below {w w' : World} {a : Option Addr} {n : Nat} {ds : List DK} (h : DescAt w a n ds) {B : Nat} (hb : Below B w w') (hB : w.heap.size ≤ B) : DescAt w' a n ds := by
 obtain ⟨h1, h2, h3 | ⟨b, o, h3, h4⟩⟩ := h
 · exact ⟨h1, h2, .inl h3⟩
 · refine ⟨h1, h2, .inr ⟨b, o, h3, fun i hi => ?_⟩⟩
   obtain ⟨ea, ec, ra, rc, h5, h6, h7⟩ := h4 i hi
   exact ⟨ea, ec, ra, rc, h5.below hb hB, h6.below hb hB, h7.below hb hB⟩
end
section
open Go.ChangeShapes Go.WideShapes Go.ChangeAt Go.RowKit
abbrev WordV (x y z : Int) : Value := .agg #[.int .i64 x, .int .i64 y, .int .i64 z]

abbrev EntryV (x y z : Int) : Value := .agg #[.int .i64 x, .int .i64 y, .int .i64 z]

end
abbrev ResV (code : Int) (a : Option Addr) (n c : Nat) : Value := .agg #[.int .i64 code, .slice a n c]
section
open Go.ChangeShapes Go.WideShapes Go.ChangeAt Go.RowKit
def upto (xs : List Int) (k n : Nat) : List Int := xs.take k ++ List.replicate (n - k) 0
end
section
open Go.ChangeShapes Go.WideShapes Go.ChangeAt Go.RowKit Go.Joins

end
section
open Go.ChangeShapes Go.WideShapes Go.ChangeAt Go.RowKit
abbrev DescV (sq st : Int) (ea : Option Addr) (en ec : Nat) (cd : Int) (ra : Option Addr) (rn rc : Nat) : Value := .agg #[.int .i64 sq, .int .i64 st, .slice ea en ec, .int .i64 cd, .slice ra rn rc]
abbrev DescC (sq st : Int) (ea : Option Addr) (en ec : Nat) (cd : Int) (ra : Option Addr) (rn rc : Nat) : Array Value := #[.int .i64 sq, .int .i64 st, .slice ea en ec, .int .i64 cd, .slice ra rn rc]
theorem Box.three {w : World} {b : Nat} {T : TypeId} {x y z : Value} (h : Box w b #[x, y, z] T) :
   w.cell? ⟨b, 0, none⟩ = some x ∧ w.cell? ⟨b, 1, none⟩ = some y ∧ w.cell? ⟨b, 2, none⟩ = some z ∧ w.frozen? ⟨b, 0, none⟩ = false ∧ w.frozen? ⟨b, 1, none⟩ = false ∧ w.frozen? ⟨b, 2, none⟩ = false :=
 ⟨h.cell 0, h.cell 1, h.cell 2, h.frozen 0, h.frozen 1, h.frozen 2⟩
end
section
open Go.ChangeShapes Go.WideShapes Go.ChangeAt Go.RowKit Go.Joins
def wordOkM (n t s th : Int) : Bool := if t = 0 then (decide (s = 0) && inB n 0 1000) else (decide (n = 0) && (inB t 1 th && inB s 1 1000000))
end
section
open Go.ChangeShapes Go.WideShapes Go.ChangeAt Go.RowKit

abbrev MemV (wa : Option Addr) (m wc : Nat) (da : Option Addr) (n dc : Nat) : Value := .agg #[.slice wa m wc, .slice da n dc]
def DescGood (d : DK) : Prop := descOkM d.sq d.st d.en d.es d.cd d.rn = true
def WordGood (fs : List Int) (ds : List DK) (i : Nat) : Prop :=
 wordOkM (fs.getD (i * 3) 0) (fs.getD (i * 3 + 1) 0) (fs.getD (i * 3 + 2) 0) ds.length = true ∧
 (0 < fs.getD (i * 3 + 1) 0 → (entM (dk ds (fs.getD (i * 3 + 1) 0 - 1).toNat).es (dk ds (fs.getD (i * 3 + 1) 0 - 1).toNat).en i).2.2.2 = true ∧ (dk ds (fs.getD (i * 3 + 1) 0 - 1).toNat).sq = fs.getD (i * 3 + 2) 0)
def MemGood (fs : List Int) (m : Nat) (ds : List DK) : Prop := m = 20 ∧ (1 ≤ ds.length ∧ ds.length ≤ 4) ∧ (∀ i, i < ds.length → DescGood (dk ds i)) ∧ ∀ i, i < m → WordGood fs ds i
def CapAt (w : World) (a : Option Addr) (n : Nat) (ds : List DK) : Prop :=
 n = 0 ∨ ∃ b o, a = some ⟨b, o, none⟩ ∧ ∀ i, i < n → ∃ ea ec, w.cell? ⟨b, o + i * 5 + 2, none⟩ = some (.slice ea (dk ds i).en ec) ∧ (dk ds i).en ≤ ec
theorem CapAt.below {w w' : World} {a : Option Addr} {n : Nat} {ds : List DK} (h : CapAt w a n ds) {B : Nat} (hb : Below B w w') (hB : w.heap.size ≤ B) : CapAt w' a n ds := by
 rcases h with h | ⟨b, o, h1, h2⟩
 · exact .inl h
 · refine .inr ⟨b, o, h1, fun i hi => ?_⟩
   obtain ⟨ea, ec, h3, h4⟩ := h2 i hi
   exact ⟨ea, ec, (hb.cell (Nat.lt_of_lt_of_le (World.block_lt_of_cell? w _ h3) hB)).trans h3, h4⟩
theorem Box.two {w : World} {b : Nat} {T : TypeId} {x y : Value} (h : Box w b #[x, y] T) : w.cell? ⟨b, 0, none⟩ = some x ∧ w.cell? ⟨b, 1, none⟩ = some y ∧ w.frozen? ⟨b, 0, none⟩ = false ∧ w.frozen? ⟨b, 1, none⟩ = false :=
 ⟨h.cell 0, h.cell 1, h.frozen 0, h.frozen 1⟩
end
section
open Go.ChangeShapes Go.WideShapes Go.ChangeAt Go.RowKit Go.Maps
def posK (xs : List Int) (k : Nat) (x : Int) : List Int := ((List.range k).filter fun i => xs.getD i 0 == x).map fun (i : Nat) => (i : Int)
theorem posK_zero (xs : List Int) (x : Int) : posK xs 0 x = [] := rfl
theorem posK_same {xs : List Int} {k : Nat} {x : Int} (h : xs.getD k 0 = x) : posK xs (k + 1) x = posK xs k x ++ [(k : Int)] := by
 simp only [posK, List.range_succ, List.filter_append, List.map_append]
 rw [List.filter_cons_of_pos (by simpa using h)]
 rfl
theorem posK_other {xs : List Int} {k : Nat} {x : Int} (h : xs.getD k 0 ≠ x) : posK xs (k + 1) x = posK xs k x := by
 simp only [posK, List.range_succ, List.filter_append, List.map_append]
 rw [List.filter_cons_of_neg (by simpa using h)]
 simp
section
variable {H : Type}
def rowOf : List Int → DataW H
 | [] => .nil
 | z :: r => .slice (lits .i64 (z :: r)) []
def GD (xs : List Int) (k : Nat) (D : DataW H) : Prop :=
 IsMap D ∧ ∀ x : Int, Maps.has D (.int .i64 x) = decide (posK xs k x ≠ []) ∧ D.atKey (.int .i64 x) .nil = rowOf (posK xs k x)
def HD (xs : List Int) (D : DataW H) : Prop :=
 ∀ x : Int, Maps.has D (.int .i64 x) = decide (x ≠ 0 ∧ posK xs 4 x ≠ []) ∧ (x ≠ 0 → ∀ zd, posK xs 4 x ≠ [] → D.atKey (.int .i64 x) zd = .slice (lits .i64 (posK xs 4 x)) [])
end
def RowsIn {H : Type} (R : Value → Option (DataW H × List MemPlace)) (w : World) (base : Nat) : Prop :=
 ∀ v y, R v = some y → ∃ zs, w.ownsInts base 3 .i64 v zs ∧ y.1 = rowDatum .i64 v zs
section
variable {H : Type} {P : Program} (w : World) {ops : Array Oper} {rest : List Oper} {o : Oper} {a : Act} {Q : Exit → Act → World → Prop}
end
end
section
open Go.ChangeShapes Go.WideShapes Go.ChangeAt Go.RowKit

end
section
open Go.ChangeShapes Go.WideShapes Go.ChangeAt Go.RowKit Go.Maps
def Says (e : Ending) (p : Prop) : Prop := ∃ ok : Bool, e = .returned (.bool ok) ∧ (ok = true ↔ p)
def Good (xs : List Int) (x : Int) : Prop := (1 ≤ x ∧ x ≤ 6) ∧ (posK xs 4 x).length ≤ 1
def OkRows (xs : List Int) (st : Int) : Prop := xs.length = 4 ∧ 0 ≤ st ∧ st ≤ 5 ∧ ∀ x, x ≠ 0 → posK xs 4 x ≠ [] → Good xs x
def KeyIs (xs : List Int) (n : Nat) (v r : Int) : Prop := (r = -1 ∧ ∀ i, i < n → xs.getD i 0 ≠ v) ∨ ∃ i : Nat, i < n ∧ r = (i : Int) ∧ xs.getD i 0 = v ∧ ∀ j, j < i → xs.getD j 0 ≠ v
def KeySays (e : Ending) (xs : List Int) (n : Nat) (v : Int) : Prop := ∃ r : Int, e = .returned (.int .i64 r) ∧ KeyIs xs n v r
def SpecGood (xs : List Int) (n : Nat) (i : Nat) : Prop := xs.getD i 0 = 0 ∨ ((1 ≤ xs.getD i 0 ∧ xs.getD i 0 ≤ 6) ∧ KeyIs xs n (xs.getD i 0) i)
def SpecOk (xs : List Int) (n : Nat) (st : Int) : Prop := (∀ i, i < n → SpecGood xs n i) ∧ n = 4 ∧ 0 ≤ st ∧ st ≤ 5
theorem KeyIs.one {xs : List Int} {n : Nat} {v r s : Int} (h : KeyIs xs n v r) (k : KeyIs xs n v s) : r = s := by
 rcases h with ⟨rfl, h⟩ | ⟨i, hi, rfl, h1, h2⟩ <;> rcases k with ⟨rfl, k⟩ | ⟨j, hj, rfl, k1, k2⟩
 · rfl
 · exact absurd k1 (h j hj)
 · exact absurd h1 (k i hi)
 · by_cases hij : i < j
   · exact absurd h1 (k2 i hij)
   · by_cases hji : j < i
     · exact absurd k1 (h2 j hji)
     · rw [show i = j by omega]
end
end Go.Proofs.Ytecheopkfhfgkaa
