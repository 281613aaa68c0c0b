/- Texts joined: ResL, Desc, SpecEntries, SpecWord, SpecDesc, SpecMem, Hold, Range3, ValOk, ImplRows, SpecRows, MchG, MchC, MchB, ClassOf, WordsM, SpecHow, AllowM. -/
import Derived.Test.YtecheopkfhfgkaaAH02
import Derived.Handy
import Derived.WalkKit
import Derived.ProofKit
import Derived.OpenShut
import Derived.ChangeOld
import Derived.Lib.SmallJoins
import Derived.Test.YtecheopkfhfgkaaAH01
import Derived.Deep.QuietTactic
import Derived.BigQuiet
import Derived.Test.YtecheopkfhfgkaaRows
import Derived.WalkSmall
import Derived.WalkSpells
import Derived.Maps.OwnRows
import Derived.Maps.OwnSet
import Derived.Maps.RangeWalk
import Derived.Maps.Views
import Derived.Deep.RegionWith
set_option maxHeartbeats 200000
set_option maxRecDepth 100000
namespace Go.Proofs.Ytecheopkfhfgkaa
section
open Go.ChangeShapes Go.WideShapes Go.ChangeAt Go.RowKit Go.Joins

end
section
open Go.ChangeShapes Go.WideShapes Go.ChangeAt Go.RowKit
abbrev DescV (sq st : Int) (ea : Option Addr) (en ec : Nat) (cd : Int) (ra : Option Addr) (rn rc : Nat) : Value := .agg #[.int .i64 sq, .int .i64 st, .slice ea en ec, .int .i64 cd, .slice ra rn rc]
abbrev DescC (sq st : Int) (ea : Option Addr) (en ec : Nat) (cd : Int) (ra : Option Addr) (rn rc : Nat) : Array Value := #[.int .i64 sq, .int .i64 st, .slice ea en ec, .int .i64 cd, .slice ra rn rc]
theorem Box.three {w : World} {b : Nat} {T : TypeId} {x y z : Value} (h : Box w b #[x, y, z] T) :
   w.cell? ⟨b, 0, none⟩ = some x ∧ w.cell? ⟨b, 1, none⟩ = some y ∧ w.cell? ⟨b, 2, none⟩ = some z ∧ w.frozen? ⟨b, 0, none⟩ = false ∧ w.frozen? ⟨b, 1, none⟩ = false ∧ w.frozen? ⟨b, 2, none⟩ = false :=
 ⟨h.cell 0, h.cell 1, h.cell 2, h.frozen 0, h.frozen 1, h.frozen 2⟩
end
section
open Go.ChangeShapes Go.WideShapes Go.ChangeAt Go.RowKit Go.Joins
def wordOkM (n t s th : Int) : Bool := if t = 0 then (decide (s = 0) && inB n 0 1000) else (decide (n = 0) && (inB t 1 th && inB s 1 1000000))
end
section
open Go.ChangeShapes Go.WideShapes Go.ChangeAt Go.RowKit

abbrev MemV (wa : Option Addr) (m wc : Nat) (da : Option Addr) (n dc : Nat) : Value := .agg #[.slice wa m wc, .slice da n dc]
def DescGood (d : DK) : Prop := descOkM d.sq d.st d.en d.es d.cd d.rn = true
def WordGood (fs : List Int) (ds : List DK) (i : Nat) : Prop :=
 wordOkM (fs.getD (i * 3) 0) (fs.getD (i * 3 + 1) 0) (fs.getD (i * 3 + 2) 0) ds.length = true ∧
 (0 < fs.getD (i * 3 + 1) 0 → (entM (dk ds (fs.getD (i * 3 + 1) 0 - 1).toNat).es (dk ds (fs.getD (i * 3 + 1) 0 - 1).toNat).en i).2.2.2 = true ∧ (dk ds (fs.getD (i * 3 + 1) 0 - 1).toNat).sq = fs.getD (i * 3 + 2) 0)
def MemGood (fs : List Int) (m : Nat) (ds : List DK) : Prop := m = 20 ∧ (1 ≤ ds.length ∧ ds.length ≤ 4) ∧ (∀ i, i < ds.length → DescGood (dk ds i)) ∧ ∀ i, i < m → WordGood fs ds i
def CapAt (w : World) (a : Option Addr) (n : Nat) (ds : List DK) : Prop :=
 n = 0 ∨ ∃ b o, a = some ⟨b, o, none⟩ ∧ ∀ i, i < n → ∃ ea ec, w.cell? ⟨b, o + i * 5 + 2, none⟩ = some (.slice ea (dk ds i).en ec) ∧ (dk ds i).en ≤ ec
theorem CapAt.below {w w' : World} {a : Option Addr} {n : Nat} {ds : List DK} (h : CapAt w a n ds) {B : Nat} (hb : Below B w w') (hB : w.heap.size ≤ B) : CapAt w' a n ds := by
 rcases h with h | ⟨b, o, h1, h2⟩
 · exact .inl h
 · refine .inr ⟨b, o, h1, fun i hi => ?_⟩
   obtain ⟨ea, ec, h3, h4⟩ := h2 i hi
   exact ⟨ea, ec, (hb.cell (Nat.lt_of_lt_of_le (World.block_lt_of_cell? w _ h3) hB)).trans h3, h4⟩
theorem Box.two {w : World} {b : Nat} {T : TypeId} {x y : Value} (h : Box w b #[x, y] T) : w.cell? ⟨b, 0, none⟩ = some x ∧ w.cell? ⟨b, 1, none⟩ = some y ∧ w.frozen? ⟨b, 0, none⟩ = false ∧ w.frozen? ⟨b, 1, none⟩ = false :=
 ⟨h.cell 0, h.cell 1, h.frozen 0, h.frozen 1⟩
end
section
open Go.ChangeShapes Go.WideShapes Go.ChangeAt Go.RowKit Go.Maps
def posK (xs : List Int) (k : Nat) (x : Int) : List Int := ((List.range k).filter fun i => xs.getD i 0 == x).map fun (i : Nat) => (i : Int)
theorem posK_zero (xs : List Int) (x : Int) : posK xs 0 x = [] := rfl
theorem posK_same {xs : List Int} {k : Nat} {x : Int} (h : xs.getD k 0 = x) : posK xs (k + 1) x = posK xs k x ++ [(k : Int)] := by
 simp only [posK, List.range_succ, List.filter_append, List.map_append]
 rw [List.filter_cons_of_pos (by simpa using h)]
 rfl
theorem posK_other {xs : List Int} {k : Nat} {x : Int} (h : xs.getD k 0 ≠ x) : posK xs (k + 1) x = posK xs k x := by
 simp only [posK, List.range_succ, List.filter_append, List.map_append]
 rw [List.filter_cons_of_neg (by simpa using h)]
 simp
section
variable {H : Type}
def rowOf : List Int → DataW H
 | [] => .nil
 | z :: r => .slice (lits .i64 (z :: r)) []
def GD (xs : List Int) (k : Nat) (D : DataW H) : Prop :=
 IsMap D ∧ ∀ x : Int, Maps.has D (.int .i64 x) = decide (posK xs k x ≠ []) ∧ D.atKey (.int .i64 x) .nil = rowOf (posK xs k x)
def HD (xs : List Int) (D : DataW H) : Prop :=
 ∀ x : Int, Maps.has D (.int .i64 x) = decide (x ≠ 0 ∧ posK xs 4 x ≠ []) ∧ (x ≠ 0 → ∀ zd, posK xs 4 x ≠ [] → D.atKey (.int .i64 x) zd = .slice (lits .i64 (posK xs 4 x)) [])
end
def RowsIn {H : Type} (R : Value → Option (DataW H × List MemPlace)) (w : World) (base : Nat) : Prop :=
 ∀ v y, R v = some y → ∃ zs, w.ownsInts base 3 .i64 v zs ∧ y.1 = rowDatum .i64 v zs
section
variable {H : Type} {P : Program} (w : World) {ops : Array Oper} {rest : List Oper} {o : Oper} {a : Act} {Q : Exit → Act → World → Prop}
end
end
section
open Go.ChangeShapes Go.WideShapes Go.ChangeAt Go.RowKit

end
section
open Go.ChangeShapes Go.WideShapes Go.ChangeAt Go.RowKit Go.Maps
def Says (e : Ending) (p : Prop) : Prop := ∃ ok : Bool, e = .returned (.bool ok) ∧ (ok = true ↔ p)
def Good (xs : List Int) (x : Int) : Prop := (1 ≤ x ∧ x ≤ 6) ∧ (posK xs 4 x).length ≤ 1
def OkRows (xs : List Int) (st : Int) : Prop := xs.length = 4 ∧ 0 ≤ st ∧ st ≤ 5 ∧ ∀ x, x ≠ 0 → posK xs 4 x ≠ [] → Good xs x
def KeyIs (xs : List Int) (n : Nat) (v r : Int) : Prop := (r = -1 ∧ ∀ i, i < n → xs.getD i 0 ≠ v) ∨ ∃ i : Nat, i < n ∧ r = (i : Int) ∧ xs.getD i 0 = v ∧ ∀ j, j < i → xs.getD j 0 ≠ v
def KeySays (e : Ending) (xs : List Int) (n : Nat) (v : Int) : Prop := ∃ r : Int, e = .returned (.int .i64 r) ∧ KeyIs xs n v r
def SpecGood (xs : List Int) (n : Nat) (i : Nat) : Prop := xs.getD i 0 = 0 ∨ ((1 ≤ xs.getD i 0 ∧ xs.getD i 0 ≤ 6) ∧ KeyIs xs n (xs.getD i 0) i)
def SpecOk (xs : List Int) (n : Nat) (st : Int) : Prop := (∀ i, i < n → SpecGood xs n i) ∧ n = 4 ∧ 0 ≤ st ∧ st ≤ 5
theorem KeyIs.one {xs : List Int} {n : Nat} {v r s : Int} (h : KeyIs xs n v r) (k : KeyIs xs n v s) : r = s := by
 rcases h with ⟨rfl, h⟩ | ⟨i, hi, rfl, h1, h2⟩ <;> rcases k with ⟨rfl, k⟩ | ⟨j, hj, rfl, k1, k2⟩
 · rfl
 · exact absurd k1 (h j hj)
 · exact absurd h1 (k i hi)
 · by_cases hij : i < j
   · exact absurd h1 (k2 i hij)
   · by_cases hji : j < i
     · exact absurd k1 (h2 j hji)
     · rw [show i = j by omega]
end
section
open Go.ChangeShapes Go.WideShapes Go.ChangeAt Go.RowKit
structure MaD where
 nw : Nat
 ws : List Int
 nd : Nat
 ds : List DK
 nt : Nat
 ts : Nat → ThD
 tm : Int
 nc : Nat
 f : Nat → CaD
 no : Nat
 os : List Int
 nh : Nat
 hs : List Int
 st : Int
structure MaAt (w : World) (wa da ta ca oa ha : Option Addr) (M : MaD) : Prop where
 words : TripAt w wa M.nw M.ws
 descs : DescAt w da M.nd M.ds
 ths : ThsAt w ta M.nt M.ts
 calls : CasAt w ca M.nc M.f
 ord : IntAt w oa M.no M.os
 held : IntAt w ha M.nh M.hs
theorem MaAt.below {w w' : World} {wa da ta ca oa ha : Option Addr} {M : MaD} (h : MaAt w wa da ta ca oa ha M) {B : Nat} (hb : Below B w w') (hB : w.heap.size ≤ B) : MaAt w' wa da ta ca oa ha M :=
 ⟨h.words.below hb hB, h.descs.below hb hB, h.ths.below hb hB, h.calls.below hb hB, h.ord.below hb hB, h.held.below hb hB⟩
structure MachGood (M : MaD) : Prop where
 mem : MemGood M.ws M.nw M.ds
 many : M.nd = M.nt
 time : inB M.tm 0 100000 = true
 first : OkRows M.hs M.st
 calls : CallsGood M.f M.nc M.os M.no M.nt M.tm
 ths : ∀ i, i < M.nt → ThGood (M.ts i) M.nt ∧ TaskSpec M.f M.nc (i : Int) (M.ts i)
abbrev MaV (wa : Option Addr) (wc : Nat) (da : Option Addr) (dc : Nat) (ta : Option Addr) (tc : Nat) (ca : Option Addr) (cc : Nat) (oa : Option Addr) (oc : Nat) (ha : Option Addr) (hc : Nat) (M : MaD) : Value := .agg #[.slice wa M.nw wc, .slice da M.nd dc, .slice ta M.nt tc, .int .i64 M.tm, .slice ca M.nc cc, .slice oa M.no oc, .slice ha M.nh hc, .int .i64 M.st]
end
section
open Go.ChangeShapes Go.WideShapes Go.ChangeAt Go.RowKit Go.Joins
def numC : Cel → Int
 | .i x => x
 | _ => 0
def boolC : Cel → Bool
 | .b x => x
 | _ => false
def lenC : Cel → Nat
 | .l _ _ n _ => n
 | _ => 0
def listC : Cel → List Cel
 | .l _ _ _ cs => cs
 | _ => []
def nums (cs : List Cel) : List Int := cs.map numC
def nthC (cs : List Cel) (i : Nat) : Cel := cs.getD i (.i 0)
def thD (r : List Cel) : ThD := ⟨lenC (nthC r 0), nums (listC (nthC r 0)), numC (nthC r 1), boolC (nthC r 2), lenC (nthC r 3), nums (listC (nthC r 3)), lenC (nthC r 4), nums (listC (nthC r 4))⟩
def caD (r : List Cel) : CaD := ⟨numC (nthC r 0), numC (nthC r 1), numC (nthC r 2), numC (nthC r 3), numC (nthC r 4), numC (nthC r 5), numC (nthC r 6), numC (nthC r 7)⟩
def dkD (r : List Cel) : DK := ⟨numC (nthC r 0), numC (nthC r 1), lenC (nthC r 2), nums (listC (nthC r 2)), numC (nthC r 3), lenC (nthC r 4), nums (listC (nthC r 4))⟩
def maD (cs : List Cel) : MaD where
 nw := lenC (nthC cs 0)
 ws := nums (listC (nthC cs 0))
 nd := lenC (nthC cs 1)
 ds := (List.range (lenC (nthC cs 1))).map fun i => dkD (row (listC (nthC cs 1)) 5 i)
 nt := lenC (nthC cs 2)
 ts := fun i => thD (row (listC (nthC cs 2)) 5 i)
 tm := numC (nthC cs 3)
 nc := lenC (nthC cs 4)
 f := fun i => caD (row (listC (nthC cs 4)) 9 i)
 no := lenC (nthC cs 5)
 os := nums (listC (nthC cs 5))
 nh := lenC (nthC cs 6)
 hs := nums (listC (nthC cs 6))
 st := numC (nthC cs 7)
def Ty.isI : Ty → Bool
 | .i => true
 | _ => false
theorem int_all {fs : List Ty} (h : fs.all Ty.isI = true) : ∀ t ∈ fs, t = .i := fun t ht => by
 have := (List.all_eq_true.1 h) t ht
 cases t <;> simp [Ty.isI] at this ⊢
theorem i1 : ∀ t ∈ ([.i] : List Ty), t = .i := int_all rfl
end
section
open Go.ChangeShapes Go.WideShapes Go.ChangeAt Go.RowKit
def classN (v : Int) : Int := if 1 ≤ v ∧ v ≤ 6 then v % 3 else -1
end
def ownW (y0 y1 y2 y3 v : Int) : Int := if y0 = v then 1 else if y1 = v then 2 else if y2 = v then 3 else if y3 = v then 4 else 0
def bitW (y c : Int) : Int := if (1 ≤ y ∧ y ≤ 6) ∧ classN y = c then 1 else 0
def clsW (y0 y1 y2 y3 c : Int) : Int := bitW y0 c + bitW y1 c + bitW y2 c + bitW y3 c
def viaW (y0 y1 y2 y3 st v : Int) : Int := if ownW y0 y1 y2 y3 v < st then ownW y0 y1 y2 y3 v else 0
def wordsG (y0 y1 y2 y3 c0 c1 c2 s st : Int) : List Int :=
 [y0, y1, y2, y3, ownW y0 y1 y2 y3 1, ownW y0 y1 y2 y3 2, ownW y0 y1 y2 y3 3, ownW y0 y1 y2 y3 4, ownW y0 y1 y2 y3 5, ownW y0 y1 y2 y3 6, c0, c1, c2, s,
  viaW y0 y1 y2 y3 st 1, viaW y0 y1 y2 y3 st 2, viaW y0 y1 y2 y3 st 3, viaW y0 y1 y2 y3 st 4, viaW y0 y1 y2 y3 st 5, viaW y0 y1 y2 y3 st 6]
def wordsL (y0 y1 y2 y3 st : Int) : List Int := wordsG y0 y1 y2 y3 (clsW y0 y1 y2 y3 0) (clsW y0 y1 y2 y3 1) (clsW y0 y1 y2 y3 2) st st
def stepW (L : List Int) (k : Nat) (x : Int) (st : Int) : List Int :=
 if (k : Int) + 1 < st then ((L.set k x).set (x + 3).toNat ((k : Int) + 1)).set (x + 13).toNat ((k : Int) + 1) else (L.set k x).set (x + 3).toNat ((k : Int) + 1)
def istepW (L : List Int) (k : Nat) (x : Int) (st : Int) : List Int :=
 if (k : Int) + 1 < st then (((L.set k x).set (x + 3).toNat ((k : Int) + 1)).set (10 + x % 3).toNat (((L.set k x).set (x + 3).toNat ((k : Int) + 1)).getD (10 + x % 3).toNat 0 + 1)).set (x + 13).toNat ((k : Int) + 1)
 else ((L.set k x).set (x + 3).toNat ((k : Int) + 1)).set (10 + x % 3).toNat (((L.set k x).set (x + 3).toNat ((k : Int) + 1)).getD (10 + x % 3).toNat 0 + 1)
section
open Go.ChangeShapes Go.WideShapes Go.ChangeAt Go.RowKit
def cntK (xs : List Int) (c : Int) : Nat → Int
 | 0 => 0
 | k + 1 => cntK xs c k + bitW (xs.getD k 0) c
end
def keyN (xs : List Int) (v : Int) : Int :=
 if xs.getD 0 0 = v then 0 else if xs.getD 1 0 = v then 1 else if xs.getD 2 0 = v then 2 else if xs.getD 3 0 = v then 3 else -1
theorem keyN_is (xs : List Int) (v : Int) : KeyIs xs 4 v (keyN xs v) := by
 unfold keyN
 split
 · exact .inr ⟨0, by omega, rfl, by assumption, fun j hj => by omega⟩
 split
 · exact .inr ⟨1, by omega, rfl, by assumption, fun j hj => by obtain rfl : j = 0 := by omega
                                                               assumption⟩
 split
 · exact .inr ⟨2, by omega, rfl, by assumption, fun j hj => by rcases (show j = 0 ∨ j = 1 by omega) with rfl | rfl <;> assumption⟩
 split
 · exact .inr ⟨3, by omega, rfl, by assumption, fun j hj => by rcases (show j = 0 ∨ j = 1 ∨ j = 2 by omega) with rfl | rfl | rfl <;> assumption⟩
 · exact .inl ⟨rfl, fun j hj => by rcases (show j = 0 ∨ j = 1 ∨ j = 2 ∨ j = 3 by omega) with rfl | rfl | rfl | rfl <;> assumption⟩
theorem KeyIs.keyN {xs : List Int} {v r : Int} (h : KeyIs xs 4 v r) : r = keyN xs v := h.one (keyN_is xs v)
abbrev atK (xs : List Int) (k : Int) : Int := xs.getD k.toNat 0
def FailsM (xs : List Int) (st kind k v code : Int) : Prop :=
 (code = 1 ∧ kind = 1 ∧ atK xs k ≠ 0) ∨ (code = 2 ∧ (kind = 1 ∨ kind = 2) ∧ 0 ≤ keyN xs v)
 ∨ (code = 3 ∧ (((kind = 2 ∨ kind = 3 ∨ kind = 4) ∧ atK xs k = 0) ∨ (kind = 5 ∧ keyN xs v < 0) ∨ (kind = 10 ∧ st = 5 ∧ keyN xs v < 0)))
 ∨ (code = 4 ∧ ((kind = 8 ∧ st ≠ 0) ∨ (kind = 9 ∧ (st = 0 ∨ st = 5)) ∨ (kind = 10 ∧ st ≠ 5)))
def DoneM (xs : List Int) (st kind k v : Int) : Prop :=
 (kind = 1 ∧ atK xs k = 0 ∧ keyN xs v < 0) ∨ (kind = 2 ∧ atK xs k ≠ 0 ∧ (keyN xs v < 0 ∨ keyN xs v = k)) ∨ (kind = 3 ∧ atK xs k ≠ 0) ∨ (kind = 4 ∧ atK xs k ≠ 0)
 ∨ (kind = 5 ∧ 0 ≤ keyN xs v) ∨ kind = 6 ∨ kind = 7 ∨ (kind = 8 ∧ st = 0) ∨ (kind = 9 ∧ 1 ≤ st ∧ st ≤ 4) ∨ (kind = 10 ∧ st = 5 ∧ 0 ≤ keyN xs v)
def listM (xs : List Int) (kind k v : Int) : List Int :=
 if kind = 4 then [atK xs k] else if kind = 5 ∨ kind = 10 then [keyN xs v] else if kind = 6 then [cntK xs k 4] else if kind = 7 then xs else []
def AllowM (xs : List Int) (st kind k v code : Int) (ys : List Int) : Prop :=
 OkRows xs st ∧ OpGood kind k v ∧ ((code ≠ 0 ∧ ys = [] ∧ FailsM xs st kind k v code) ∨ (code = 0 ∧ DoneM xs st kind k v ∧ listM xs kind k v = ys))
def AfterM (xs : List Int) (st kind k v code : Int) (ys zs : List Int) (st' : Int) : Prop :=
 (AllowM xs st kind k v code ys ∧ code = 0 ∧ (((kind = 1 ∨ kind = 2) ∧ zs = xs.set k.toNat v ∧ st' = st) ∨ (kind = 3 ∧ zs = xs.set k.toNat 0 ∧ st' = st)
   ∨ ((kind = 8 ∨ kind = 9) ∧ zs = xs ∧ st' = st + 1) ∨ ((4 ≤ kind ∧ kind ≤ 7 ∨ kind = 10) ∧ zs = xs ∧ st' = st)))
 ∨ (¬ (AllowM xs st kind k v code ys ∧ code = 0) ∧ zs = xs ∧ st' = st)
theorem AfterM.one {xs : List Int} {st kind k v code : Int} {ys zs zs2 : List Int} {s1 s2 : Int} (h : AfterM xs st kind k v code ys zs s1) (g : AfterM xs st kind k v code ys zs2 s2) : zs = zs2 ∧ s1 = s2 := by
 rcases h with ⟨ha, hc, h⟩ | ⟨hn, h1, h2⟩
 · rcases g with ⟨_, _, g⟩ | ⟨gn, _⟩
   · rcases h with ⟨h0, rfl, rfl⟩ | ⟨h0, rfl, rfl⟩ | ⟨h0, rfl, rfl⟩ | ⟨h0, rfl, rfl⟩ <;> rcases g with ⟨g0, rfl, rfl⟩ | ⟨g0, rfl, rfl⟩ | ⟨g0, rfl, rfl⟩ | ⟨g0, rfl, rfl⟩ <;> first | exact ⟨rfl, rfl⟩ | (exfalso; omega)
   · exact absurd ⟨ha, hc⟩ gn
 · rcases g with ⟨ga, gc, _⟩ | ⟨_, g1, g2⟩
   · exact absurd ⟨ga, gc⟩ hn
   · exact ⟨h1.trans g1.symm, h2.trans g2.symm⟩
instance (xs : List Int) (st kind k v code : Int) : Decidable (FailsM xs st kind k v code) := by unfold FailsM; infer_instance
instance (xs : List Int) (st kind k v : Int) : Decidable (DoneM xs st kind k v) := by unfold DoneM; infer_instance
end Go.Proofs.Ytecheopkfhfgkaa
