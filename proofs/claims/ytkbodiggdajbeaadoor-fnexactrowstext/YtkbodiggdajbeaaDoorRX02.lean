/- Texts joined: Parts, Shelf, ImplDig, ShelfB, ImplSh, Dig, SpecNums, StrAt, ImplNums, ImplRx, SpecRx, Dat, DatF, DatI. -/
import Derived.Test.YtkbodiggdajbeaaDoorRX01
import Derived.WalkKit
import Derived.WalkSmall
import Derived.ProofKit
import Derived.Below
import Derived.Lib.Builder
import Derived.Lib.ItoaNum
import Derived.Shelf.Strings.Builder1
import Derived.Shelf.Strings.Builder2
import Derived.Shelf.Strings.OnBuilder
import Derived.Shelf.Strconv.Itoa0
import Derived.Shelf.Strconv.Itoa1
import Derived.Shelf.LaysM
import Derived.Shelf.Strconv.Itoa2
import Derived.Shelf.Strconv.Itoa3
import Derived.Test.YtkbodiggdajbeaaDoorProg
import Derived.Test.YtkbodiggdajbeaaDoorRows
import Derived.Lib.LaidTab
import Derived.Lib.SmallJoins
import Derived.Deep.Cut
import Derived.Laws.BytesArg
import Derived.Deep.RegionHeld3
/- Parts of what is shown, as data: numbers, pieces, lines; a list of them as it lies in memory. -/
namespace Go.Proofs.YtkbodiggdajbeaaDoor
open Go.ChangeShapes Go.WideShapes Go.ChangeAt Go.RowKit
open Go.Lib (itoa IsBuilder BuilderAt byteCells strCells byteCells_length strCells_eq byteCells_append fresh_isBuilder)

inductive Pt where
  | num (n : Int)
  | pc (s : ByteArray)
  | ln (s : ByteArray)
/-- A part as the program has it. -/
def ptV : Pt → Value
  | .num n => .iface 53 (.int .i64 n)
  | .pc s => .iface 54 (.string s)
  | .ln s => .iface 79 (.string s)
/-- What a part tells. -/
def ptB : Pt → List UInt8
  | .num n => itoa n
  | .pc s => s.data.toList
  | .ln s => s.data.toList ++ [10]
def PtOk : Pt → Prop
  | .num n => -9223372036854775808 ≤ n ∧ n ≤ 9223372036854775807
  | _ => True
def shownB (ps : List Pt) : List UInt8 := ps.flatMap ptB
theorem shown_succ {ps : List Pt} {j : Nat} {x : Pt} (h : ps[j]? = some x) : shownB (ps.take (j + 1)) = shownB (ps.take j) ++ ptB x := by
  have hj : j < ps.length := (List.getElem?_eq_some_iff.1 h).1
  have hx : ps[j] = x := (List.getElem?_eq_some_iff.1 h).2
  unfold shownB
  rw [List.take_succ_eq_append_getElem hj, List.flatMap_append, hx]
  simp
theorem shown_le (ps : List Pt) (j : Nat) : (shownB (ps.take j)).length ≤ (shownB ps).length := by
  have h : shownB ps = shownB (ps.take j) ++ shownB (ps.drop j) := by
    unfold shownB
    rw [← List.flatMap_append, List.take_append_drop]
  rw [h, List.length_append]
  omega
/-- n parts lie there. -/
def PtsAt (w : World) (a : Option Addr) (n : Nat) (ps : List Pt) : Prop :=
  ps.length = n ∧ (n = 0 ∨ ∃ b o, a = some ⟨b, o, none⟩ ∧ ∀ i x, ps[i]? = some x → w.cell? ⟨b, o + i, none⟩ = some (ptV x))
theorem PtsAt.below {w w' : World} {a : Option Addr} {n : Nat} {ps : List Pt} (h : PtsAt w a n ps) {B : Nat} (hb : Below B w w') (hB : w.heap.size ≤ B) : PtsAt w' a n ps := by
  obtain ⟨h1, h2 | ⟨b, o, h3, h4⟩⟩ := h
  · exact ⟨h1, .inl h2⟩
  · refine ⟨h1, .inr ⟨b, o, h3, fun i x hi => ?_⟩⟩
    have h5 := h4 i x hi
    rw [hb.cell (show b < B from Nat.lt_of_lt_of_le (World.block_lt_of_cell? w _ h5) hB)]
    exact h5
theorem Box.pts {w : World} {b : Nat} {T : TypeId} {ps : List Pt} (h : Box w b (ps.map ptV).toArray T) : PtsAt w (some ⟨b, 0, none⟩) ps.length ps := by
  refine ⟨rfl, .inr ⟨b, 0, rfl, fun i x hi => ?_⟩⟩
  rw [Nat.zero_add, h.cell i]
  simp [hi]
theorem own_pts {w : World} {base : Nat} {e : TypeId} {v : Value} {n : Nat} {ps : List Pt} (h : w.ownsRow base e 1 v n (ps.map ptV)) (hn : ps.length = n) : ∃ a c, v = .slice a n c ∧ n ≤ c ∧ PtsAt w a n ps := by
  obtain ⟨a, c, rfl, hc⟩ := owns_slice h
  rcases owns_forms h with ⟨h2, h3⟩ | ⟨g, cap, hv⟩
  · exact ⟨a, c, rfl, hc, hn, .inl (by omega)⟩
  · cases hv
    refine ⟨_, _, rfl, hc, hn, .inr ⟨g, 0, rfl, fun i x hi => ?_⟩⟩
    have hlt : i < ps.length := (List.getElem?_eq_some_iff.1 hi).1
    rw [Nat.zero_add, h.cellAt i (by omega), List.getElem?_map, hi]
    rfl
end Go.Proofs.YtkbodiggdajbeaaDoor

/- Contracts of the library's functions, proved once by the kit over any program, laid at this translation: strconv_Itoa, strings_Join, Builder_WriteString, Builder_WriteByte, Builder_String_any. -/
namespace Go.Proofs
open Go.Shelf
def Tryd.lays169_ren : Go.Shelf.Ren := ⟨fun | 169 => 38 | n => n, fun | 70 => 69 | 9 => 9 | 0 => 0 | 72 => 71 | 37 => 62 | 127 => 86 | 3 => 3 | 5 => 5 | n => n, fun | n => n⟩
theorem Tryd.lays169 : Go.Proofs.Lays.n169 Tryd.prog Tryd.lays169_ren := {
  mixed := by kernel_rfl
  f169 := Tryd.func38.trans (congrArg some (by kernel_rfl))
  t0 := Tryd.underlying0
  a0 := Tryd.isAgg0
  z0 := Tryd.sizeOf0
  v0 := Tryd.zeroValue0
  t3 := Tryd.underlying3
  a3 := Tryd.isAgg3
  z3 := Tryd.sizeOf3
  v3 := Tryd.zeroValue3
  t9 := Tryd.underlying9
  a9 := Tryd.isAgg9
  z9 := Tryd.sizeOf9
  v9 := Tryd.zeroValue9
  t37 := Tryd.underlying62
  a37 := Tryd.isAgg62
  z37 := Tryd.sizeOf62
  v37 := Tryd.zeroValue62
  t70 := Tryd.underlying69
  a70 := Tryd.isAgg69
  z70 := Tryd.sizeOf69
  v70 := Tryd.zeroValue69
  t72 := Tryd.underlying71
  a72 := Tryd.isAgg71
  z72 := Tryd.sizeOf71
  v72 := Tryd.zeroValue71
  t127 := Tryd.underlying86
  a127 := Tryd.isAgg86
  z127 := Tryd.sizeOf86
  v127 := Tryd.zeroValue86 }
theorem Tryd.Builder_Extra_169 : Builder.Extra Tryd.prog Tryd.lays169_ren := {
  sizeBuilder := by kernel_rfl
  liesBuilder := by kernel_rfl
  t5 := Tryd.underlying5
  a5 := Tryd.isAgg5
  z5 := Tryd.sizeOf5
  v5 := Tryd.zeroValue5
  infoByte := by kernel_rfl
  cellsByte := by kernel_rfl
  sizeByte := by kernel_rfl
  neB5 := by decide }
open Go.RowKit in
/-- (*strings.Builder).String: "String returns the accumulated string.": WHATEVER THE BUILDER HOLDS. (LAID: no walk: one application.) -/
theorem Tryd.Builder_String_any (B b : Nat) (l : List UInt8) (w : World) (h : Lib.IsBuilder 71 5 B b (Lib.byteCells l) w) (hBw : B ≤ w.heap.size) :
    Calls Tryd.prog 38 #[.pointer (some ⟨b, 0, none⟩)] w fun e w' => e = .returned (.string ⟨l.toArray⟩) ∧ Below B w w' := Any.Builder_String_any Tryd.lays169 Tryd.Builder_Extra_169 B b l w h hBw
def Tryd.lays156_ren : Go.Shelf.Ren := ⟨fun | 156 => 44 | 165 => 51 | 166 => 36 | 169 => 38 | 240 => 47 | 241 => 54 | 276 => 52 | 277 => 56 | n => n, fun | 31 => 64 | 9 => 9 | 3 => 3 | 4 => 4 | 0 => 0 | 20 => 20 | 72 => 71 | 76 => 76 | 70 => 69 | 37 => 62 | 75 => 75 | 127 => 86 | 164 => 93 | 5 => 5 | 80 => 78 | n => n, fun | n => n⟩
theorem Tryd.lays156 : Go.Proofs.Lays.n156 Tryd.prog Tryd.lays156_ren := {
  mixed := by kernel_rfl
  f156 := Tryd.func44.trans (congrArg some (by kernel_rfl))
  f165 := Tryd.func51.trans (congrArg some (by kernel_rfl))
  f166 := Tryd.func36.trans (congrArg some (by kernel_rfl))
  f169 := Tryd.func38.trans (congrArg some (by kernel_rfl))
  f240 := Tryd.func47.trans (congrArg some (by kernel_rfl))
  f241 := Tryd.func54.trans (congrArg some (by kernel_rfl))
  f276 := Tryd.func52.trans (congrArg some (by kernel_rfl))
  f277 := Tryd.func56.trans (congrArg some (by kernel_rfl))
  t0 := Tryd.underlying0
  a0 := Tryd.isAgg0
  z0 := Tryd.sizeOf0
  v0 := Tryd.zeroValue0
  t3 := Tryd.underlying3
  a3 := Tryd.isAgg3
  z3 := Tryd.sizeOf3
  v3 := Tryd.zeroValue3
  t4 := Tryd.underlying4
  a4 := Tryd.isAgg4
  z4 := Tryd.sizeOf4
  v4 := Tryd.zeroValue4
  t9 := Tryd.underlying9
  a9 := Tryd.isAgg9
  z9 := Tryd.sizeOf9
  v9 := Tryd.zeroValue9
  t20 := Tryd.underlying20
  a20 := Tryd.isAgg20
  z20 := Tryd.sizeOf20
  v20 := Tryd.zeroValue20
  t31 := Tryd.underlying64
  a31 := Tryd.isAgg64
  z31 := Tryd.sizeOf64
  v31 := Tryd.zeroValue64
  t37 := Tryd.underlying62
  a37 := Tryd.isAgg62
  z37 := Tryd.sizeOf62
  v37 := Tryd.zeroValue62
  t70 := Tryd.underlying69
  a70 := Tryd.isAgg69
  z70 := Tryd.sizeOf69
  v70 := Tryd.zeroValue69
  t72 := Tryd.underlying71
  a72 := Tryd.isAgg71
  z72 := Tryd.sizeOf71
  v72 := Tryd.zeroValue71
  t75 := Tryd.underlying75
  a75 := Tryd.isAgg75
  z75 := Tryd.sizeOf75
  v75 := Tryd.zeroValue75
  t76 := Tryd.underlying76
  a76 := Tryd.isAgg76
  z76 := Tryd.sizeOf76
  v76 := Tryd.zeroValue76
  t127 := Tryd.underlying86
  a127 := Tryd.isAgg86
  z127 := Tryd.sizeOf86
  v127 := Tryd.zeroValue86
  t164 := Tryd.underlying93
  a164 := Tryd.isAgg93
  z164 := Tryd.sizeOf93
  v164 := Tryd.zeroValue93 }
theorem Tryd.Builder_Extra_156 : Builder.Extra Tryd.prog Tryd.lays156_ren := {
  sizeBuilder := by kernel_rfl
  liesBuilder := by kernel_rfl
  t5 := Tryd.underlying5
  a5 := Tryd.isAgg5
  z5 := Tryd.sizeOf5
  v5 := Tryd.zeroValue5
  infoByte := by kernel_rfl
  cellsByte := by kernel_rfl
  sizeByte := by kernel_rfl
  neB5 := by decide }
open Go.RowKit in
/-- strings.Join: "Join concatenates the elements of its first argument to create a single string. The separator string sep is placed between elements in the resulting string.": HOWEVER MANY ELEMENTS. Below the heap's end the world is as it was. (LAID: no walk: one application.) -/
theorem Tryd.strings_Join (bk o c : Nat) (xs : List ByteArray) (sep : ByteArray) (w : World) (hcells : ∀ (j : Nat) x, xs[j]? = some x → w.cell? ⟨bk, o + j, none⟩ = some (.string x)) (hbk : bk < w.heap.size) (hN : xs.length ≤ 140737488355328) (hcap : xs.length ≤ c) (hlen : (Lib.join (xs.map (·.data.toList)) sep.data.toList).length ≤ 140737488355328) :
    Calls Tryd.prog 44 #[.slice (some ⟨bk, o, none⟩) xs.length c, .string sep] w fun e w' => e = .returned (.string ⟨(Lib.join (xs.map (·.data.toList)) sep.data.toList).toArray⟩) ∧ Below w.heap.size w w' := Any.strings_Join Tryd.lays156 Tryd.Builder_Extra_156 bk o c xs sep w hcells hbk hN hcap hlen
def Tryd.laysM171_ren : Go.Shelf.Ren := ⟨fun | 171 => 49 | 243 => 53 | 246 => 55 | 283 => 57 | 284 => 58 | 285 => 59 | 286 => 60 | 129 => 62 | 317 => 61 | 318 => 63 | 319 => 64 | 320 => 65 | 337 => 66 | 338 => 67 | n => n, fun | 3 => 3 | 9 => 9 | 2 => 2 | 4 => 4 | 171 => 108 | 0 => 0 | 53 => 109 | 37 => 62 | 5 => 5 | 173 => 112 | 212 => 116 | 51 => 117 | 20 => 20 | 213 => 118 | 46 => 119 | 232 => 122 | 233 => 123 | n => n, fun | 17 => 3 | 18 => 4 | 19 => 5 | n => n⟩
theorem Tryd.laysM171 : Go.Proofs.LaysM.n171 Tryd.prog Tryd.laysM171_ren := {
  mixed := by kernel_rfl
  f129 := Tryd.func62.trans (congrArg some (by kernel_rfl))
  f171 := Tryd.func49.trans (congrArg some (by kernel_rfl))
  f243 := Tryd.func53.trans (congrArg some (by kernel_rfl))
  f246 := Tryd.func55.trans (congrArg some (by kernel_rfl))
  f283 := Tryd.func57.trans (congrArg some (by kernel_rfl))
  f284 := Tryd.func58.trans (congrArg some (by kernel_rfl))
  f285 := Tryd.func59.trans (congrArg some (by kernel_rfl))
  f286 := Tryd.func60.trans (congrArg some (by kernel_rfl))
  f317 := Tryd.func61.trans (congrArg some (by kernel_rfl))
  f318 := Tryd.func63.trans (congrArg some (by kernel_rfl))
  f319 := Tryd.func64.trans (congrArg some (by kernel_rfl))
  f320 := Tryd.func65.trans (congrArg some (by kernel_rfl))
  f337 := Tryd.func66.trans (congrArg some (by kernel_rfl))
  f338 := Tryd.func67.trans (congrArg some (by kernel_rfl))
  t0 := Tryd.underlying0
  a0 := Tryd.isAgg0
  z0 := Tryd.sizeOf0
  v0 := Tryd.zeroValue0
  t2 := Tryd.underlying2
  a2 := Tryd.isAgg2
  z2 := Tryd.sizeOf2
  v2 := Tryd.zeroValue2
  t3 := Tryd.underlying3
  a3 := Tryd.isAgg3
  z3 := Tryd.sizeOf3
  v3 := Tryd.zeroValue3
  t4 := Tryd.underlying4
  a4 := Tryd.isAgg4
  z4 := Tryd.sizeOf4
  v4 := Tryd.zeroValue4
  t5 := Tryd.underlying5
  a5 := Tryd.isAgg5
  z5 := Tryd.sizeOf5
  v5 := Tryd.zeroValue5
  t9 := Tryd.underlying9
  a9 := Tryd.isAgg9
  z9 := Tryd.sizeOf9
  v9 := Tryd.zeroValue9
  t20 := Tryd.underlying20
  a20 := Tryd.isAgg20
  z20 := Tryd.sizeOf20
  v20 := Tryd.zeroValue20
  t37 := Tryd.underlying62
  a37 := Tryd.isAgg62
  z37 := Tryd.sizeOf62
  v37 := Tryd.zeroValue62
  t46 := Tryd.underlying119
  a46 := Tryd.isAgg119
  z46 := Tryd.sizeOf119
  v46 := Tryd.zeroValue119
  t51 := Tryd.underlying117
  a51 := Tryd.isAgg117
  z51 := Tryd.sizeOf117
  v51 := Tryd.zeroValue117
  t53 := Tryd.underlying109
  a53 := Tryd.isAgg109
  z53 := Tryd.sizeOf109
  v53 := Tryd.zeroValue109
  t171 := Tryd.underlying108
  a171 := Tryd.isAgg108
  z171 := Tryd.sizeOf108
  v171 := Tryd.zeroValue108
  t173 := Tryd.underlying112
  a173 := Tryd.isAgg112
  z173 := Tryd.sizeOf112
  v173 := Tryd.zeroValue112
  t212 := Tryd.underlying116
  a212 := Tryd.isAgg116
  z212 := Tryd.sizeOf116
  v212 := Tryd.zeroValue116
  t213 := Tryd.underlying118
  a213 := Tryd.isAgg118
  z213 := Tryd.sizeOf118
  t232 := Tryd.underlying122
  a232 := Tryd.isAgg122
  z232 := Tryd.sizeOf122
  v232 := Tryd.zeroValue122
  t233 := Tryd.underlying123
  a233 := Tryd.isAgg123
  z233 := Tryd.sizeOf123
  v233 := Tryd.zeroValue123
  g17 := by kernel_rfl
  g18 := by kernel_rfl
  g19 := by kernel_rfl
  i0 := by kernel_rfl
  i2 := by kernel_rfl
  i3 := by kernel_rfl
  i4 := by kernel_rfl
  i5 := by kernel_rfl
  i9 := by kernel_rfl
  i20 := by kernel_rfl
  i37 := by kernel_rfl
  i46 := by kernel_rfl
  i51 := by kernel_rfl
  i53 := by kernel_rfl
  i171 := by kernel_rfl
  i173 := by kernel_rfl
  i212 := by kernel_rfl
  i232 := by kernel_rfl
  i233 := by kernel_rfl
  m17 := by kernel_rfl
  m18 := by kernel_rfl
  m19 := by kernel_rfl }
open Go.RowKit Go.Sort Go.Lib in
/-- strconv.Itoa: "Itoa is equivalent to FormatInt(int64(i), 10).": i's DECIMAL NUMERAL ('Lib.itoa': a '-' where i is negative, then the digits), FOR EVERY int. The world behind the call: the world before it, new blocks behind the heap (the library's 'var a [24]byte'), draws. (LAID: no walk: one application.) -/
theorem Tryd.strconv_Itoa (n : Int) (h0 : -9223372036854775808 ≤ n) (h1 : n ≤ 9223372036854775807) (w : World) (htab : Lib.TabIs Tryd.prog w "internal/strconv.uint64pow10" .u64 Lib.pow10Tab) :
    Calls Tryd.prog 49 #[.int .i64 n] w fun e w' => e = .returned (.string ⟨(Lib.itoa n).toArray⟩) ∧ ∃ k os, w' = grow (w.drewN k) os := Any.strconv_Itoa Tryd.laysM171 n h0 h1 w htab
end Go.Proofs

/- The program's Digits, walked by the library's contract of strconv.Itoa: it hands back the decimal numeral of its argument; and what the listed table of powers of ten is. -/
namespace Go.Proofs.YtkbodiggdajbeaaDoor
open Go.ChangeShapes Go.WideShapes Go.ChangeAt Go.RowKit

theorem grow_below (w : World) (k : Nat) (os : Array Obj) : Below w.heap.size w (Sort.grow (w.drewN k) os) := by
  refine ⟨rfl, rfl, rfl, ?_, fun i hi => ?_⟩
  · show w.heap.size ≤ (w.heap ++ os).size
    simp
  · show (w.heap ++ os)[i]? = _
    rw [Array.getElem?_append_left hi]

/-- The program's Digits. -/
theorem implDigits_any (n : Int) (h0 : -9223372036854775808 ≤ n) (h1 : n ≤ 9223372036854775807) (w : World) (htab : Lib.TabIs Tryd.prog w "internal/strconv.uint64pow10" .u64 Lib.pow10Tab) :
    Calls Tryd.prog 41 #[.int .i64 n] w fun e w' => e = .returned (.string ⟨(Lib.itoa n).toArray⟩) ∧ Below w.heap.size w w' := by
  go_enter Tryd.func41, Tryd.ntmps41
  go_wp2_with (go_at_call 49; refine (Tryd.strconv_Itoa n h0 h1 _ htab).mono ?_; rintro e w' ⟨rfl, k, os, rfl⟩)
  go_ret
  exact ⟨rfl, grow_below _ _ _⟩

theorem gTab : Tryd.prog.globalNamed "internal/strconv.uint64pow10" = some 3 := by kernel_rfl
theorem tTab : (Tryd.prog.globals[3]?).map (·.type) = some 116 := by kernel_rfl
theorem cTab : Tryd.prog.cellsOf 116 = 20 := by kernel_rfl
theorem cU64 : Tryd.prog.cellsOf 109 = 1 := by kernel_rfl
theorem tab_is : (Rows.laid_internal_strconv_uint64pow10 : DataW Unit) = Lib.tabData .u64 Lib.pow10Tab := by kernel_rfl
end Go.Proofs.YtkbodiggdajbeaaDoor

/- (*strings.Builder).WriteString and WriteByte, by the library's contracts: the kit's own laying of these two falls (a type that their bodies do not name), so they go by the laying of strings.Join, whose closure holds them. -/
namespace Go.Proofs
open Go.Shelf Go.RowKit

def Tryd.lays167_ren : Go.Shelf.Ren := ⟨fun | 167 => 37 | n => Tryd.lays156_ren.f n, Tryd.lays156_ren.t, Tryd.lays156_ren.g⟩
theorem Tryd.Builder_WriteString (B b : Nat) (bs : List Value) (s : ByteArray) (w : World) (h : Lib.IsBuilder 71 5 B b bs w) (hlen : bs.length + s.size ≤ 140737488355328) (hBw : B ≤ w.heap.size) :
    Calls Tryd.prog 36 #[.pointer (some ⟨b, 0, none⟩), .string s] w fun e w' => e = .returned (.tuple #[.int .i64 s.size, .nilIface]) ∧ (Lib.BuilderAt 71 5 B b (.pointer (some ⟨b, 0, none⟩)) (bs ++ Lib.strCells s) w' ∧ Below B w w') :=
  Any.Builder_WriteString (ρ := Tryd.lays156_ren) { Tryd.lays156, Tryd.Builder_Extra_156 with } Tryd.Builder_Extra_156 B b bs s w h hlen hBw
set_option maxRecDepth 100000 in
theorem Tryd.lays167 : Go.Proofs.Lays.n167 Tryd.prog Tryd.lays167_ren := {
  mixed := Tryd.lays156.mixed
  f240 := Tryd.lays156.f240
  f276 := Tryd.lays156.f276
  t0 := Tryd.lays156.t0
  a0 := Tryd.lays156.a0
  z0 := Tryd.lays156.z0
  v0 := Tryd.lays156.v0
  t4 := Tryd.lays156.t4
  a4 := Tryd.lays156.a4
  z4 := Tryd.lays156.z4
  v4 := Tryd.lays156.v4
  t9 := Tryd.lays156.t9
  a9 := Tryd.lays156.a9
  z9 := Tryd.lays156.z9
  v9 := Tryd.lays156.v9
  t20 := Tryd.lays156.t20
  a20 := Tryd.lays156.a20
  z20 := Tryd.lays156.z20
  v20 := Tryd.lays156.v20
  t37 := Tryd.lays156.t37
  a37 := Tryd.lays156.a37
  z37 := Tryd.lays156.z37
  v37 := Tryd.lays156.v37
  t70 := Tryd.lays156.t70
  a70 := Tryd.lays156.a70
  z70 := Tryd.lays156.z70
  v70 := Tryd.lays156.v70
  t72 := Tryd.lays156.t72
  a72 := Tryd.lays156.a72
  z72 := Tryd.lays156.z72
  v72 := Tryd.lays156.v72
  t75 := Tryd.lays156.t75
  a75 := Tryd.lays156.a75
  z75 := Tryd.lays156.z75
  v75 := Tryd.lays156.v75
  t164 := Tryd.lays156.t164
  a164 := Tryd.lays156.a164
  z164 := Tryd.lays156.z164
  v164 := Tryd.lays156.v164
  t5 := Tryd.Builder_Extra_156.t5
  a5 := Tryd.Builder_Extra_156.a5
  z5 := Tryd.Builder_Extra_156.z5
  v5 := Tryd.Builder_Extra_156.v5
  f167 := Tryd.func37.trans (congrArg some (by kernel_rfl)) }
set_option maxRecDepth 100000 in
theorem Tryd.Builder_Extra_167 : Builder.Extra Tryd.prog Tryd.lays167_ren := {
  sizeBuilder := Tryd.Builder_Extra_156.sizeBuilder
  liesBuilder := Tryd.Builder_Extra_156.liesBuilder
  t5 := Tryd.Builder_Extra_156.t5
  a5 := Tryd.Builder_Extra_156.a5
  z5 := Tryd.Builder_Extra_156.z5
  v5 := Tryd.Builder_Extra_156.v5
  infoByte := Tryd.Builder_Extra_156.infoByte
  cellsByte := Tryd.Builder_Extra_156.cellsByte
  sizeByte := Tryd.Builder_Extra_156.sizeByte
  neB5 := Tryd.Builder_Extra_156.neB5 }
theorem Tryd.Builder_WriteByte (B b : Nat) (bs : List Value) (c : Int) (w : World) (h : Lib.IsBuilder 71 5 B b bs w) (hlen : bs.length + 1 ≤ 140737488355328) (hBw : B ≤ w.heap.size) :
    Calls Tryd.prog 37 #[.pointer (some ⟨b, 0, none⟩), .int .u8 c] w fun e w' => e = .returned .nilIface ∧ (Lib.BuilderAt 71 5 B b (.pointer (some ⟨b, 0, none⟩)) (bs ++ [.int .u8 c]) w' ∧ Below B w w') :=
  Any.Builder_WriteByte Tryd.lays167 Tryd.Builder_Extra_167 B b bs c w h hlen hBw
end Go.Proofs

/- The program's parts: what each tells, and shown, by the library's contracts of strings.Builder. -/
namespace Go.Proofs.YtkbodiggdajbeaaDoor
open Go.ChangeShapes Go.WideShapes Go.ChangeAt Go.RowKit
open Go.Lib (itoa IsBuilder BuilderAt byteCells strCells byteCells_length strCells_eq byteCells_append fresh_isBuilder)

theorem builder_below {T e : TypeId} {B b : Nat} {bs : List Value} {w w' : World} (h : IsBuilder T e B b bs w) (hb : Below w.heap.size w w') : IsBuilder T e B b bs w' := by
  have go : ∀ p, BuilderAt T e B b p bs w → BuilderAt T e B b p bs w' := by
    rintro p ⟨h1, v, h2, h3, h4⟩
    refine ⟨h1, v, ?_, owns_below h3 hb (Nat.le_refl _), h4⟩
    rw [hb.block _ (Array.getElem?_eq_some_iff.1 h2).1]
    exact h2
  exact h.elim (fun x => .inl (go _ x)) (fun x => .inr (go _ x))
theorem fits_one {l a b : List UInt8} {s : ByteArray} (h : l.length ≤ 70368744177664) (e : l = a ++ b) (hz : s.size + 1 ≤ b.length) : (byteCells (a ++ s.data.toList)).length + 1 ≤ 140737488355328 := by
  rw [byteCells_length, List.length_append]
  rw [e, List.length_append] at h
  have h3 : s.data.toList.length = s.size := by simp
  omega
theorem ten_cells : [Value.int .u8 10] = byteCells [10] := rfl
set_option maxHeartbeats 1000000 in
theorem numberText_any (n : Int) (h0 : -9223372036854775808 ≤ n) (h1 : n ≤ 9223372036854775807) (w : World) (htab : Lib.TabIs Tryd.prog w "internal/strconv.uint64pow10" .u64 Lib.pow10Tab) :
    Calls Tryd.prog 83 #[.int .i64 n] w fun e w' => e = .returned (.string ⟨(itoa n).toArray⟩) ∧ Below w.heap.size w w' := by
  go_enter Tryd.func83, Tryd.ntmps83
  go_wp2_with fail
  refine (implDigits_any n h0 h1 _ htab).mono ?_
  rintro e w1 ⟨rfl, hb1⟩
  go_wp2
  go_ret
  exact ⟨rfl, hb1⟩
theorem pieceText_any (s : ByteArray) (w : World) : Calls Tryd.prog 84 #[.string s] w fun e w' => e = .returned (.string s) ∧ Below w.heap.size w w' := by
  go_enter Tryd.func84, Tryd.ntmps84
  go_wp2
  go_ret
  exact ⟨rfl, Below.refl _ _⟩
theorem lineText_any (s : ByteArray) (w : World) : Calls Tryd.prog 86 #[.string s] w fun e w' => e = .returned (.string s) ∧ Below w.heap.size w w' := by
  go_enter Tryd.func86, Tryd.ntmps86
  go_wp2
  go_ret
  exact ⟨rfl, Below.refl _ _⟩
set_option maxHeartbeats 4000000 in
set_option maxRecDepth 100000 in
theorem implShown_any (a : Option Addr) (n c : Nat) (ps : List Pt) (w : World) (hP : PtsAt w a n ps) (hO : ∀ x ∈ ps, PtOk x) (hn : n ≤ 1073741824) (hL : (shownB ps).length ≤ 70368744177664) (htab : Lib.TabIs Tryd.prog w "internal/strconv.uint64pow10" .u64 Lib.pow10Tab) :
    Calls Tryd.prog 21 #[.slice a n c] w fun e w' => TextSays e (shownB ps) ∧ Below w.heap.size w w' := by
  obtain ⟨B, hBq⟩ : ∃ B, w.heap.size = B := ⟨_, rfl⟩
  obtain ⟨W, hW⟩ : ∃ W, w.alloc (.cells #[.pointer none, .slice none 0 0] 71) = W := ⟨_, rfl⟩
  have HI0 : Hid (IsBuilder 71 5 B B (byteCells (shownB (ps.take 0))) W) := by rw [← hW, ← hBq]; exact fresh_isBuilder _ _ _
  have HB0 : Hid (Below B w W) := by rw [← hW, ← hBq]; exact (Below.refl _ w).alloc (Nat.le_refl _) _
  have HW : Hid (w.alloc (.cells #[.pointer none, .slice none 0 0] 71) = W) := hW
  have HBQ : Hid (w.heap.size = B) := hBq
  have HTAB : Hid (Lib.TabIs Tryd.prog w "internal/strconv.uint64pow10" .u64 Lib.pow10Tab) := htab
  have HP : Hid (PtsAt w a n ps) := hP
  have HO : Hid (∀ x ∈ ps, PtOk x) := hO
  have HL : Hid ((shownB ps).length ≤ 70368744177664) := hL
  have hpl := hP.1
  clear hW hBq hP hO hL htab
  go_enter Tryd.func21, Tryd.ntmps21
  go_upto_region 2 with (fail)
  rw [HW.out]
  (try rw [HBQ.out])
  go_wp2
  go_loopw [10] (fun i wr => ∃ j : Nat, j ≤ n ∧ i = .int .i64 (j : Int) ∧ IsBuilder 71 5 B B (byteCells (shownB (ps.take j))) wr ∧ Below B w wr) (fun i _ => n - (intOf i).toNat)
  case atStart => exact ⟨0, Nat.zero_le _, rfl, HI0.out, HB0.out⟩
  case round =>
    obtain ⟨j, hj, rfl, hi, hb⟩ := hrel
    have HI : Hid (IsBuilder 71 5 B B (byteCells (shownB (ps.take j))) wr) := hi
    have HB : Hid (Below B w wr) := hb
    have HBS : Hid (B ≤ wr.heap.size) := by have h1 := hb.size; rw [HBQ.out] at h1; exact h1
    clear hi hb
    by_cases hlt : j < n
    · rcases (HP.out.below HB.out (Nat.le_of_eq HBQ.out)).2 with h0 | ⟨p1, o1, rfl, g1⟩
      · omega
      obtain ⟨x, hx⟩ : ∃ x, ps[j]? = some x := ⟨_, List.getElem?_eq_getElem (by omega)⟩
      have e1 := g1 j x hx
      have hxo : PtOk x := HO.out x (List.mem_of_getElem? hx)
      have HNX : Hid (shownB (ps.take (j + 1)) = shownB (ps.take j) ++ ptB x) := shown_succ hx
      have HLEN : Hid ((shownB (ps.take (j + 1))).length ≤ 70368744177664) := Nat.le_trans (shown_le ps _) HL.out
      have HTB : Hid (Lib.TabIs Tryd.prog wr "internal/strconv.uint64pow10" .u64 Lib.pow10Tab) := Joins.tab_stays gTab HTAB.out HB.out (Nat.le_of_eq HBQ.out)
      clear g1 hx
      cases x with
      | num m =>
        have ht : ∀ w : World, (Instr.typeAssert (.iface 53 (.int .i64 m)) 73 79 true).run Tryd.prog w = .ok (.tuple #[(.string ⟨#[]⟩), .bool false]) w := fun _ => by kernel_rfl
        have hm : ∀ w : World, (method 237 53 (.int .i64 m) "loop.example/g00468/impl.text").run Tryd.prog w = .ok (83, .int .i64 m) w := fun _ => by kernel_rfl
        rw [show ptV (.num m) = .iface 53 (.int .i64 m) from rfl] at e1
        go_wp2_with fail
        refine (numberText_any m hxo.1 hxo.2 _ HTB.out).mono ?_
        obtain ⟨sx, hsx⟩ : ∃ sx : ByteArray, sx = ⟨(itoa m).toArray⟩ := ⟨_, rfl⟩
        rw [← hsx]
        rintro e w2 ⟨rfl, hb2⟩
        have HSX : Hid (sx.data.toList = ptB (.num m)) := by show _ = itoa m; rw [hsx]
        clear hsx hxo
        have HZ : Hid (sx.size ≤ (ptB (.num m)).length) := by show _ ≤ _; rw [← HSX.out]; simp
        have HBC : Hid (Below B wr w2) := hb2.mono HBS.out
        have HB2 : Hid (Below B w w2) := HB.out.trans HBC.out
        have hB2 : B ≤ w2.heap.size := Nat.le_trans HBS.out hb2.size
        have HI2 : Hid (IsBuilder 71 5 B B (byteCells (shownB (ps.take j))) w2) := builder_below HI.out hb2
        clear hb2 e1 hm
        go_wp2_with fail
        refine (Tryd.Builder_WriteString B B _ sx w2 HI2.out (by rw [byteCells_length]; have := HLEN.out; rw [HNX.out, List.length_append] at this; have h2 := HZ.out; omega) hB2).mono ?_
        rintro e w3 ⟨rfl, hi3, hb3⟩
        rw [strCells_eq, HSX.out, ← byteCells_append] at hi3
        have HI3 : Hid (BuilderAt 71 5 B B _ _ w3) := hi3
        have HB3 : Hid (Below B w w3) := HB2.out.trans hb3
        have hB3 : B ≤ w3.heap.size := Nat.le_trans hB2 hb3.size
        clear hi3 hb3
        have hIN : IsBuilder 71 5 B B (byteCells (shownB (ps.take (j + 1)))) w3 := by
          rw [HNX.out]
          exact .inr HI3.out
        go_wp2
        go_roundw
        case rel => exact ⟨j + 1, by omega, by go_num, hIN, HB3.out⟩
        case measure => simp [intOf]; omega
      | pc s =>
        have ht : ∀ w : World, (Instr.typeAssert (.iface 54 (.string s)) 73 79 true).run Tryd.prog w = .ok (.tuple #[(.string ⟨#[]⟩), .bool false]) w := fun _ => by kernel_rfl
        have hm : ∀ w : World, (method 237 54 (.string s) "loop.example/g00468/impl.text").run Tryd.prog w = .ok (84, .string s) w := fun _ => by kernel_rfl
        rw [show ptV (.pc s) = .iface 54 (.string s) from rfl] at e1
        go_wp2_with fail
        refine (pieceText_any s _).mono ?_
        rintro e w2 ⟨rfl, hb2⟩
        have HZ : Hid (s.size ≤ (ptB (.pc s)).length) := by show _ ≤ _; show _ ≤ s.data.toList.length; simp
        have HBC : Hid (Below B wr w2) := hb2.mono HBS.out
        have HB2 : Hid (Below B w w2) := HB.out.trans HBC.out
        have hB2 : B ≤ w2.heap.size := Nat.le_trans HBS.out hb2.size
        have HI2 : Hid (IsBuilder 71 5 B B (byteCells (shownB (ps.take j))) w2) := builder_below HI.out hb2
        clear hb2 e1 hm
        go_wp2_with fail
        refine (Tryd.Builder_WriteString B B _ s w2 HI2.out (by rw [byteCells_length]; have := HLEN.out; rw [HNX.out, List.length_append] at this; have h2 := HZ.out; omega) hB2).mono ?_
        rintro e w3 ⟨rfl, hi3, hb3⟩
        rw [strCells_eq, ← byteCells_append] at hi3
        have HI3 : Hid (BuilderAt 71 5 B B _ _ w3) := hi3
        have HB3 : Hid (Below B w w3) := HB2.out.trans hb3
        have hB3 : B ≤ w3.heap.size := Nat.le_trans hB2 hb3.size
        clear hi3 hb3
        have hIN : IsBuilder 71 5 B B (byteCells (shownB (ps.take (j + 1)))) w3 := by
          rw [HNX.out]
          exact .inr HI3.out
        go_wp2
        go_roundw
        case rel => exact ⟨j + 1, by omega, by go_num, hIN, HB3.out⟩
        case measure => simp [intOf]; omega
      | ln s =>
        have ht : ∀ w : World, (Instr.typeAssert (.iface 79 (.string s)) 73 79 true).run Tryd.prog w = .ok (.tuple #[(.string s), .bool true]) w := fun _ => by kernel_rfl
        have hm : ∀ w : World, (method 237 79 (.string s) "loop.example/g00468/impl.text").run Tryd.prog w = .ok (86, .string s) w := fun _ => by kernel_rfl
        rw [show ptV (.ln s) = .iface 79 (.string s) from rfl] at e1
        go_wp2_with fail
        refine (lineText_any s _).mono ?_
        rintro e w2 ⟨rfl, hb2⟩
        have HZ : Hid (s.size + 1 ≤ (ptB (.ln s)).length) := by show _ ≤ _; show _ ≤ (s.data.toList ++ [10]).length; simp
        have HBC : Hid (Below B wr w2) := hb2.mono HBS.out
        have HB2 : Hid (Below B w w2) := HB.out.trans HBC.out
        have hB2 : B ≤ w2.heap.size := Nat.le_trans HBS.out hb2.size
        have HI2 : Hid (IsBuilder 71 5 B B (byteCells (shownB (ps.take j))) w2) := builder_below HI.out hb2
        clear hb2 e1 hm
        go_wp2_with fail
        refine (Tryd.Builder_WriteString B B _ s w2 HI2.out (by rw [byteCells_length]; have := HLEN.out; rw [HNX.out, List.length_append] at this; have h2 := HZ.out; omega) hB2).mono ?_
        rintro e w3 ⟨rfl, hi3, hb3⟩
        rw [strCells_eq, ← byteCells_append] at hi3
        have HI3 : Hid (BuilderAt 71 5 B B _ _ w3) := hi3
        have HB3 : Hid (Below B w w3) := HB2.out.trans hb3
        have hB3 : B ≤ w3.heap.size := Nat.le_trans hB2 hb3.size
        clear hi3 hb3
        go_wp2_with fail
        refine (Tryd.Builder_WriteByte B B _ 10 w3 (.inr HI3.out) (fits_one HLEN.out HNX.out HZ.out) hB3).mono ?_
        rintro e w4 ⟨rfl, hi4, hb4⟩
        rw [ten_cells, ← byteCells_append] at hi4
        have HI4 : Hid (BuilderAt 71 5 B B _ _ w4) := hi4
        have HB4 : Hid (Below B w w4) := HB3.out.trans hb4
        clear hi4 hb4
        have hIN : IsBuilder 71 5 B B (byteCells (shownB (ps.take (j + 1)))) w4 := by
          rw [HNX.out]
          have h4 := HI4.out
          rw [List.append_assoc] at h4
          exact .inr h4
        go_wp2
        go_roundw
        case rel => exact ⟨j + 1, by omega, by go_num, hIN, HB4.out⟩
        case measure => simp [intOf]; omega
    · obtain rfl : j = n := by omega
      have HEND : Hid (ps.take j = ps) := by show _ = _; rw [List.take_of_length_le (by omega)]
      go_wp2_with fail
      have hI := HI.out
      rw [HEND.out] at hI
      refine (Tryd.Builder_String_any B B _ wr hI HBS.out).mono ?_
      rintro e w5 ⟨rfl, hb5⟩
      have HB5 : Hid (Below B w w5) := HB.out.trans hb5
      clear hb5 hI
      go_wp2
      go_ret
      exact ⟨⟨_, rfl, rfl⟩, by rw [HBQ.out]; exact HB5.out⟩
end Go.Proofs.YtkbodiggdajbeaaDoor

/- The specification's Digits, walked: it hands back the decimal numeral of its argument, and nothing that was there turns. -/
namespace Go.Proofs.YtkbodiggdajbeaaDoor
open Go.ChangeShapes Go.WideShapes Go.ChangeAt Go.RowKit Go.Lib

theorem one_byte (w : World) (z : Int) :
    (convert 62 9 (.slice (some ⟨w.heap.size, 0, none⟩) 1 1)).run Tryd.prog (w.alloc (.cells #[.int .u8 z] 5)) = .ok (.string ⟨#[UInt8.ofNat z.toNat]⟩) (w.alloc (.cells #[.int .u8 z] 5)) := by
  have h := run_convert_bytes_arg (P := Tryd.prog) (w.alloc (.cells #[.int .u8 z] 5)) 62 5 Tryd.underlying62 Tryd.underlying5 w.heap.size 0 1 1 [z] rfl (fun i hi => by
    have : i = 0 := by omega
    subst this; simp [go_sem]) 9 Tryd.underlying9
  simpa [strOfNums] using h

theorem cons_str (x : UInt8) (s : ByteArray) : (({ data := #[x] } : ByteArray) ++ s).data.toList = x :: s.data.toList := by simp
theorem left_str {N k : Nat} {s : ByteArray} (hk : ¬ k = 0) (h : LeftD N k s.data.toList) : LeftD N (k / 10) (({ data := #[48 + UInt8.ofNat (k % 10)] } : ByteArray) ++ s).data.toList := by
  rw [cons_str]
  have := left_step (by omega) h
  rwa [UInt8.ofNat_add] at this

theorem left_str0 {N k : Nat} {s : ByteArray} (hk : ¬ k = 0) (hr : k % 10 = 0) (h : LeftD N k s.data.toList) : LeftD N (k / 10) (({ data := #[48] } : ByteArray) ++ s).data.toList := by
  have := left_str hk h
  rwa [hr] at this

set_option maxHeartbeats 400000 in
theorem digits_pos (N : Nat) (h0 : 0 < N) (hN : N ≤ 9223372036854775807) (w : World) :
    Calls Tryd.prog 16 #[.int .i64 (N : Int)] w fun e w' => (∃ s : ByteArray, e = .returned (.string s) ∧ s.data.toList = decDigits N) ∧ Below w.heap.size w w' := by
  have hcv := one_byte
  go_enter Tryd.func16, Tryd.ntmps16
  go_wp2
  go_loopw [0, 4] (fun n out w' => ∃ (k : Nat) (s : ByteArray), k ≤ N ∧ n = .int .i64 k ∧ out = .string s ∧ LeftD N k s.data.toList ∧ Below w.heap.size w w') (fun n _ _ => (RowKit.intOf n).toNat)
  case atStart => exact ⟨N, _, Nat.le_refl _, rfl, rfl, left_start N h0, Below.refl _ _⟩
  case round =>
    obtain ⟨k, s, hk, rfl, rfl, hL, hg⟩ := hrel
    by_cases hz : k = 0
    · go_wp2
      go_ret
      exact ⟨⟨s, rfl, hL.1 hz⟩, hg⟩
    · have hsz : s.size ≤ 20 := by simpa using left_len hL (by omega)
      go_wp2
      go_roundw
      case rel =>
        exact ⟨k / 10, _, by omega, by go_num, rfl, left_str hz hL, hg.alloc hg.size _⟩
      case measure => simp [RowKit.intOf]; omega

set_option maxHeartbeats 400000 in
theorem digits_neg (N : Nat) (h0 : 0 < N) (hN : N ≤ 9223372036854775808) (w : World) :
    Calls Tryd.prog 16 #[.int .i64 (-(N : Int))] w fun e w' => (∃ s : ByteArray, e = .returned (.string s) ∧ s.data.toList = 45 :: decDigits N) ∧ Below w.heap.size w w' := by
  have hcv := one_byte
  have ht := neg_tmod
  have hd := neg_tdiv
  go_enter Tryd.func16, Tryd.ntmps16
  go_wp2
  go_loopw [0, 4] (fun n out w' => ∃ (k : Nat) (s : ByteArray), k ≤ N ∧ n = .int .i64 (-(k : Int)) ∧ out = .string s ∧ LeftD N k s.data.toList ∧ Below w.heap.size w w') (fun n _ _ => (RowKit.intOf n).natAbs)
  case atStart => exact ⟨N, _, Nat.le_refl _, rfl, rfl, left_start N h0, Below.refl _ _⟩
  case round =>
    obtain ⟨k, s, hk, rfl, rfl, hL, hg⟩ := hrel
    have hsz : s.size ≤ 20 := by simpa using left_len hL (by omega)
    by_cases hz : k = 0
    · go_wp2
      go_ret
      refine ⟨⟨_, rfl, ?_⟩, hg⟩
      rw [cons_str, hL.1 hz]
    · have hm : k % 10 < 10 := Nat.mod_lt _ (by omega)
      by_cases hr : k % 10 = 0
      · go_wp2
        exact ⟨⟨k / 10, _, by omega, by go_num, rfl, left_str0 hz hr hL, hg.alloc hg.size _⟩, by simp [RowKit.intOf]; omega⟩
      · go_wp2
        exact ⟨⟨k / 10, _, by omega, by go_num, rfl, left_str hz hL, hg.alloc hg.size _⟩, by simp [RowKit.intOf]; omega⟩

/-- The specification's Digits at any int. -/
theorem digits_any (n : Int) (h0 : -9223372036854775808 ≤ n) (h1 : n ≤ 9223372036854775807) (w : World) :
    Calls Tryd.prog 16 #[.int .i64 n] w fun e w' => (∃ s : ByteArray, e = .returned (.string s) ∧ s.data.toList = itoa n) ∧ Below w.heap.size w w' := by
  by_cases hp : 0 < n
  · obtain ⟨k, rfl⟩ : ∃ k : Nat, n = (k : Int) := ⟨n.toNat, by omega⟩
    rw [itoa_of_pos]
    exact digits_pos k (by omega) (by omega) w
  · by_cases hz : n = 0
    · subst hz
      rw [itoa_zero]
      go_enter Tryd.func16, Tryd.ntmps16
      go_wp2
      go_ret
      exact ⟨⟨_, rfl, rfl⟩, Below.refl _ _⟩
    · obtain ⟨k, rfl⟩ : ∃ k : Nat, n = -(k : Int) := ⟨n.natAbs, by omega⟩
      rw [itoa_of_neg k (by omega)]
      exact digits_neg k (by omega) (by omega) w
end Go.Proofs.YtkbodiggdajbeaaDoor

/- The specification's NumsText, walked: the numerals with commas between. -/
namespace Go.Proofs.YtkbodiggdajbeaaDoor
open Go.ChangeShapes Go.WideShapes Go.ChangeAt Go.RowKit Go.Lib

theorem app_str (a b : ByteArray) : (a ++ b).data.toList = a.data.toList ++ b.data.toList := by simp

set_option maxHeartbeats 1000000 in
theorem specNums_any (a : Option Addr) (n c : Nat) (xs : List Int) (w : World) (h : IntAt w a n xs) (hi : In64s xs) :
    Calls Tryd.prog 27 #[.slice a n c] w fun e w' => (∃ s : ByteArray, e = .returned (.string s) ∧ s.data.toList = numsB xs) ∧ Below w.heap.size w w' := by
  have HH : Hid (IntAt w a n xs) := h
  have L1 : Hid (xs.length = n) := h.1
  have b1 := h.2.1
  have HI : Hid (In64s xs) := hi
  clear h hi
  go_enter Tryd.func27, Tryd.ntmps27
  go_wp2
  go_loopw [3, 4] (fun out i wr => ∃ (k : Nat) (s : ByteArray), k ≤ n ∧ i = .int .i64 (k : Int) ∧ out = .string s ∧ s.data.toList = numsB (xs.take k) ∧ Below w.heap.size w wr) (fun _ i _ => n - (RowKit.intOf i).toNat)
  case atStart => exact ⟨0, _, Nat.zero_le _, rfl, rfl, by simp [numsB_nil], Below.refl _ _⟩
  case round =>
    obtain ⟨k, s, hk, rfl, rfl, hs, hb⟩ := hrel
    have hsz : s.size ≤ 22 * k := by
      have h1 := numsB_len k (xs.take k) (by have := L1.out; rw [List.length_take]; omega) (in64_take HI.out k)
      rw [← hs] at h1
      simpa using h1
    have HS : Hid (s.data.toList = numsB (xs.take k)) := hs
    clear hs
    by_cases hlt : k < n
    · rcases (HH.out.below hb (Nat.le_refl _)).2.2 with h0 | ⟨p1, o1, rfl, g1⟩
      · omega
      have e1 := g1 k hlt
      obtain ⟨h0, h1⟩ := in64_at HI.out k (by have := L1.out; omega)
      obtain ⟨x, hx⟩ : ∃ x, xs.getD k 0 = x := ⟨_, rfl⟩
      have HT : Hid (xs.take (k + 1) = xs.take k ++ [x]) := by rw [← hx]; exact take_snocI (by have := L1.out; omega)
      rw [hx] at e1 h0 h1
      have hil := itoa_length_le x h0 h1
      clear g1 hx
      by_cases hz : k = 0
      · subst hz
        rw [Nat.add_zero] at e1
        go_wp2_with (go_at_call 16; refine (digits_any x h0 h1 _).mono ?_; rintro e w1 ⟨⟨s1, rfl, hs1⟩, hg1⟩; have hz1 : s1.size ≤ 21 := by (rw [← hs1] at hil; simpa using hil))
        go_roundw
        case rel => exact ⟨1, _, by omega, by go_num, rfl, by rw [app_str, HS.out, hs1, HT.out]; simp [numsB, join_nil, join_one], hb.trans (hg1.mono hb.size)⟩
        case measure => simp [RowKit.intOf]; omega
      · go_wp2_with (go_at_call 16; refine (digits_any x h0 h1 _).mono ?_; rintro e w1 ⟨⟨s1, rfl, hs1⟩, hg1⟩; have hz1 : s1.size ≤ 21 := by (rw [← hs1] at hil; simpa using hil))
        exact ⟨⟨k + 1, _, by omega, by go_num, rfl, by rw [app_str, app_str, HS.out, hs1, HT.out, numsB_snoc _ _ (by have := L1.out; intro e; have := congrArg List.length e; rw [List.length_take, List.length_nil] at this; omega)], hb.trans (hg1.mono hb.size)⟩, by simp [RowKit.intOf]; omega⟩
    · have l1 := L1.out
      have e := List.take_of_length_le (show xs.length ≤ k by omega)
      go_wp2
      go_ret
      exact ⟨⟨s, rfl, by rw [HS.out, e]⟩, hb⟩
end Go.Proofs.YtkbodiggdajbeaaDoor

/- Small facts on lists of texts in memory. -/
namespace Go.Proofs.YtkbodiggdajbeaaDoor
open Go.ChangeShapes Go.WideShapes Go.ChangeAt Go.RowKit

/-- The slice of address a and length n holds the texts xs. -/
def StrAt (w : World) (a : Option Addr) (n : Nat) (xs : List (List UInt8)) : Prop :=
  xs.length = n ∧ n ≤ 1099511627776 ∧ (n = 0 ∨ ∃ b o, a = some ⟨b, o, none⟩ ∧ ∀ i, i < n → w.cell? ⟨b, o + i, none⟩ = some (S (xs.getD i [])))

theorem StrAt.draws {w : World} {a : Option Addr} {n : Nat} {xs : List (List UInt8)} (h : StrAt w a n xs) (m : Nat) : StrAt (w.drewN m) a n xs := h

theorem take_next {xs ys : List (List UInt8)} {k : Nat} (hx : k < xs.length) (hy : k < ys.length) (h : xs.take k = ys.take k) (e : xs.getD k [] = ys.getD k []) : xs.take (k + 1) = ys.take (k + 1) := by
  have e' : xs[k] = ys[k] := by simpa [List.getD, hx, hy] using e
  rw [List.take_succ_eq_append_getElem hx, List.take_succ_eq_append_getElem hy, h, e']

theorem own_strAt {w : World} {base : Nat} {e : TypeId} {g n cap : Nat} {xs : List (List UInt8)} (h : w.ownsRow base e 1 (.slice (some ⟨g, 0, none⟩) n cap) n (xs.map S)) (hn : n ≤ 1099511627776) : StrAt w (some ⟨g, 0, none⟩) n xs := by
  have hl : xs.length = n := by have := h.1; simpa using this
  refine ⟨hl, hn, .inr ⟨g, 0, rfl, fun i hi => ?_⟩⟩
  rw [Nat.zero_add, h.cellAt i (by omega), List.getElem?_map, List.getElem?_eq_getElem (by omega)]
  simp [List.getD, show i < xs.length by omega]

theorem infoStr : (Tryd.prog.info? 9).map (fun i => (i.zero, i.size, i.bytes)) = some (some (.string ⟨#[]⟩), 1, 16) := by kernel_rfl
end Go.Proofs.YtkbodiggdajbeaaDoor

/- The program's NumsText, walked by the library's contracts of strconv.Itoa and strings.Join: the numerals with commas between. -/
namespace Go.Proofs.YtkbodiggdajbeaaDoor
open Go.ChangeShapes Go.WideShapes Go.ChangeAt Go.RowKit
open Go.Lib hiding intOf

/-- What has been written of the texts so far: the numerals of the first k, empty texts behind them. -/
def uptoS (xs : List Int) (k n : Nat) : List (List UInt8) := (xs.take k).map itoa ++ List.replicate (n - k) []
theorem uptoS_step {xs : List Int} {k n : Nat} (hx : xs.length = n) (h : k < n) : (((uptoS xs k n).map S).set k (S (itoa (xs.getD k 0)))) = (uptoS xs (k + 1) n).map S := by
  rw [← List.map_set]
  congr 1
  unfold uptoS
  have hl : ((xs.take k).map itoa).length = k := by rw [List.length_map, List.length_take]; omega
  rw [List.set_append_right _ _ (by omega), hl, Nat.sub_self, show n - k = (n - (k + 1)) + 1 by omega, List.replicate_succ, List.set_cons_zero,
    take_snocI (show k < xs.length by omega), List.map_append, List.append_assoc]
  rfl
theorem uptoS_end {xs : List Int} {n : Nat} (hx : xs.length = n) : uptoS xs n n = xs.map itoa := by
  unfold uptoS
  rw [List.take_of_length_le (by omega)]; simp

/-- The texts as the library's contract speaks of them. -/
def texts (xs : List Int) : List ByteArray := xs.map fun x => ⟨(itoa x).toArray⟩
theorem texts_list (xs : List Int) : (texts xs).map (·.data.toList) = xs.map itoa := by simp [texts, Function.comp_def]

theorem join_cells {w : World} {base g n : Nat} {xs : List Int} (h : w.ownsRow base 9 1 (.slice (some ⟨g, 0, none⟩) n n) n ((xs.map itoa).map S)) (hx : xs.length = n) :
    ∀ (j : Nat) x, (texts xs)[j]? = some x → w.cell? ⟨g, 0 + j, none⟩ = some (.string x) := by
  intro j x hj
  have hjl : j < xs.length := by have := (List.getElem?_eq_some_iff.1 hj).1; simpa [texts] using this
  rw [Nat.zero_add, h.cellAt j (by omega)]
  simp [texts, hjl] at hj
  subst hj
  simp [hjl]

set_option maxHeartbeats 1000000 in
theorem implNums_any (a : Option Addr) (n c : Nat) (xs : List Int) (w : World) (h : IntAt w a n xs) (hn : n ≤ 1048576) (hi : In64s xs) (htab : Lib.TabIs Tryd.prog w "internal/strconv.uint64pow10" .u64 Lib.pow10Tab) :
    Calls Tryd.prog 29 #[.slice a n c] w fun e w' => e = .returned (.string ⟨(numsB xs).toArray⟩) ∧ Below w.heap.size w w' := by
  have HH : Hid (IntAt w a n xs) := h
  have L1 : Hid (xs.length = n) := h.1
  have HI : Hid (In64s xs) := hi
  have HTAB : Hid (Lib.TabIs Tryd.prog w "internal/strconv.uint64pow10" .u64 Lib.pow10Tab) := htab
  have HLEN : Hid ((join ((texts xs).map (·.data.toList)) [44]).length ≤ 140737488355328) := by
    have h1 := numsB_len n xs h.1 hi
    rw [texts_list]
    show (numsB xs).length ≤ _
    omega
  clear h hi htab
  obtain ⟨i0, hi, hz0, hz1, hz2⟩ := info_parts infoStr
  go_enter Tryd.func29, Tryd.ntmps29
  go_wp2_with (at_make; refine wpList_make_full _ rfl _ _ 64 rfl w.heap.size 9 i0 (.string ⟨#[]⟩) 1 Tryd.underlying64 hi hz0 hz1 .i64 .i64 _ _ n rfl rfl rfl rfl (by rw [hz2]; omega) (by unfold maxLen; omega) (Nat.le_refl _) ?_; intro w1 own1 grow1)
  have own0 : w1.ownsRow w.heap.size 9 1 (.slice (some ⟨w.heap.size, 0, none⟩) n n) n ((uptoS xs 0 n).map S) := by
    have e : (madeCells (Value.string ⟨#[]⟩).cells (n * 1)).toList = (uptoS xs 0 n).map S := by
      rw [Nat.mul_one]
      exact (toList_madeCells_one _ _).trans (by simp [uptoS])
    rwa [e] at own1
  have hb1 : Below w.heap.size w w1 := (Below.refl _ _).grown grow1 (Nat.le_refl _) (fun k e => by cases e)
  clear own1 grow1
  go_loopw [11] (fun i wr => ∃ k : Nat, k ≤ n ∧ i = .int .i64 (k : Int) ∧ wr.ownsRow w.heap.size 9 1 (.slice (some ⟨w.heap.size, 0, none⟩) n n) n ((uptoS xs k n).map S) ∧ Below w.heap.size w wr) (fun i _ => n - (intOf i).toNat)
  case atStart => exact ⟨0, Nat.zero_le _, rfl, own0, hb1⟩
  case round =>
    obtain ⟨k, hk, rfl, ho, hb⟩ := hrel
    clear own0 hb1
    by_cases hlt : k < n
    · rcases (HH.out.below hb (Nat.le_refl _)).2.2 with h0 | ⟨p1, o1, rfl, g1⟩
      · omega
      have e1 := g1 k hlt
      obtain ⟨h0, h1⟩ := in64_at HI.out k (by have := L1.out; omega)
      obtain ⟨x, hx⟩ : ∃ x, xs.getD k 0 = x := ⟨_, rfl⟩
      have HU : Hid (((uptoS xs k n).map S).set k (S (itoa x)) = (uptoS xs (k + 1) n).map S) := by rw [← hx]; exact uptoS_step L1.out hlt
      rw [hx] at e1 h0 h1
      have ht1 := Joins.tab_stays gTab HTAB.out hb (Nat.le_refl _)
      have HT1 : Hid (Lib.TabIs Tryd.prog wr "internal/strconv.uint64pow10" .u64 Lib.pow10Tab) := ht1
      clear g1 hx ht1
      go_wp2_with (go_at_call 41; refine (implDigits_any x h0 h1 _ HT1.out).mono ?_; rintro e w2 ⟨rfl, hb2⟩; have ho2 := owns_below ho hb2 (Nat.le_refl _); have hf2 := ho2.frozenAt k; obtain ⟨u, hc2⟩ := own_cell ho2 hlt)
      have hst := (ho2.stored k (S (itoa x))).1
      rw [HU.out] at hst
      go_roundw
      case rel => exact ⟨k + 1, by omega, by go_num, hst, (hb.trans (hb2.mono hb.size)).setCell (Nat.le_refl _) _⟩
      case measure => simp [intOf]; omega
    · obtain rfl : k = n := by omega
      rw [uptoS_end L1.out] at ho
      have hcells := join_cells ho L1.out
      have HC : Hid (∀ (j : Nat) x, (texts xs)[j]? = some x → wr.cell? ⟨w.heap.size, 0 + j, none⟩ = some (.string x)) := hcells
      have hlt2 := (own_base ho).2
      clear hcells ho
      have htl : Hid ((texts xs).length = k) := by have := L1.out; show (texts xs).length = k; simp [texts, this]
      go_wp2_with fail
      have J := Tryd.strings_Join w.heap.size 0 k (texts xs) ⟨#[44]⟩ wr HC.out hlt2 (by have := htl.out; omega) (by have := htl.out; omega) HLEN.out
      rw [htl.out] at J
      refine J.mono ?_
      rintro e w3 ⟨rfl, hb3⟩
      go_wp2
      go_ret
      exact ⟨ret_str (by rw [texts_list]; rfl), hb.trans (hb3.mono hb.size)⟩
end Go.Proofs.YtkbodiggdajbeaaDoor

/- The program's RowsText, walked. -/
namespace Go.Proofs.YtkbodiggdajbeaaDoor
open Go.ChangeShapes Go.WideShapes Go.ChangeAt Go.RowKit
open Go.Lib (itoa itoa_length_le)

theorem parts_rows {s1 : ByteArray} {xs : List Int} {st : Int} (h : s1.data.toList = numsB xs) : shownB [.pc s1, .pc ⟨#[47]⟩, .num st] = rowsB xs st := by
  show s1.data.toList ++ ([47] ++ (itoa st ++ [])) = numsB xs ++ 47 :: itoa st
  rw [h]
  simp
set_option maxHeartbeats 4000000 in
set_option maxRecDepth 100000 in
theorem implRowsText_any (a : Option Addr) (n c : Nat) (st : Int) (xs : List Int) (w : World) (hA : IntAt w a n xs) (hx : In64s xs) (hs : I64 st) (hn : n ≤ 1048576) (htab : Lib.TabIs Tryd.prog w "internal/strconv.uint64pow10" .u64 Lib.pow10Tab) :
    Calls Tryd.prog 13 #[.agg #[.slice a n c, .int .i64 st]] w fun e w' => TextSays e (rowsB xs st) ∧ Below w.heap.size w w' := by
  obtain ⟨W, hW⟩ : ∃ W, w.alloc (.cells #[.slice a n c, .int .i64 st] 42) = W := ⟨_, rfl⟩
  have HB0 : Hid (Below w.heap.size w W) := by rw [← hW]; exact (Below.refl _ w).alloc (Nat.le_refl _) _
  have X0 : Hid (Box W w.heap.size #[.slice a n c, .int .i64 st] 42) := by rw [← hW]; exact box_of w _ _
  have HW : Hid (w.alloc (.cells #[.slice a n c, .int .i64 st] 42) = W) := hW
  have HA : Hid (IntAt w a n xs) := hA
  have HI : Hid (In64s xs) := hx
  have HXL : Hid (xs.length = n) := hA.1
  have HTAB : Hid (∀ y, Below W.heap.size W y → Lib.TabIs Tryd.prog y "internal/strconv.uint64pow10" .u64 Lib.pow10Tab) := fun y hb => Joins.tab_stays gTab htab (HB0.out.trans (hb.mono HB0.out.size)) (Nat.le_refl _)
  have HOK : Hid (∀ s1, ∀ x ∈ [Pt.pc s1, .pc ⟨#[47]⟩, .num st], PtOk x) := fun s1 x hx => by
    simp only [List.mem_cons, List.not_mem_nil, or_false] at hx
    rcases hx with rfl | rfl | rfl
    · trivial
    · trivial
    · exact hs
  have HLEN : Hid ((rowsB xs st).length ≤ 70368744177664) := by
    have h1 := rowsB_le hx hs
    have h2 := hA.1
    show _ ≤ _
    omega
  have BX : Hid (∀ y, Below W.heap.size W y → y.cell? ⟨w.heap.size, 0, none⟩ = some (.slice a n c) ∧ y.cell? ⟨w.heap.size, 1, none⟩ = some (.int .i64 st)) := fun y hb => by
    obtain ⟨h0, h1, _, _⟩ := (X0.out.below hb X0.out.lt).two
    exact ⟨h0, h1⟩
  have HBD : Hid (Below W.heap.size W W.drew) := (Below.refl _ _).drew
  have K0 : Hid (W.drew.cell? ⟨w.heap.size, 0, none⟩ = some (.slice a n c) ∧ W.drew.cell? ⟨w.heap.size, 1, none⟩ = some (.int .i64 st)) := BX.out _ HBD.out
  clear hW hA hx hs htab
  go_enter Tryd.func13, Tryd.ntmps13
  go_upto_region 1 with (fail)
  rw [HW.out]
  go_region_held3 (fun w' => w'.cell? ⟨w.heap.size, 0, none⟩ = some (.slice a n c) ∧ w'.cell? ⟨w.heap.size, 1, none⟩ = some (.int .i64 st))
    (first | (with_reducible exact K9.out) | (with_reducible exact K1.out) | (with_reducible exact K0.out) | (exact BX.out _ (HB1.out.alloc HB1.out.size _)) | go_keep)
    (first
    | (go_at_call 29
       refine (implNums_any a n c xs _ (HA.out.below HB0.out.drew (Nat.le_refl _)) hn HI.out (HTAB.out _ HBD.out)).mono ?_
       obtain ⟨s1, hs1⟩ : ∃ s1 : ByteArray, s1 = ⟨(numsB xs).toArray⟩ := ⟨_, rfl⟩
       rw [← hs1]
       rintro e w1 ⟨rfl, hb1⟩
       have HS1 : Hid (s1.data.toList = numsB xs) := by show _ = _; rw [hs1]
       have hb1' : Below W.heap.size W w1 := HBD.out.trans hb1
       have HB1 : Hid (Below W.heap.size W w1) := hb1'
       have K1 : Hid (w1.cell? ⟨w.heap.size, 0, none⟩ = some (.slice a n c) ∧ w1.cell? ⟨w.heap.size, 1, none⟩ = some (.int .i64 st)) := BX.out _ hb1'
       clear hs1 hb1 hb1')
    | (go_at_call 21
       refine (implShown_any (some ⟨w1.heap.size, 0, none⟩) 3 3 [.pc s1, .pc ⟨#[47]⟩, .num st] _ (Box.pts (ps := [.pc s1, .pc ⟨#[47]⟩, .num st]) (box_of w1 _ _)) (HOK.out s1) (by omega) (by rw [parts_rows HS1.out]; exact HLEN.out) (HTAB.out _ (HB1.out.alloc HB1.out.size _))).mono ?_
       rintro e w9 ⟨⟨s9, rfl, hs9⟩, hb9⟩
       have HS9 : Hid (s9.data.toList = shownB [.pc s1, .pc ⟨#[47]⟩, .num st]) := hs9
       have hb9' : Below W.heap.size W w9 := (HB1.out.alloc HB1.out.size _).trans (hb9.mono (Nat.le_trans HB1.out.size (by simp)))
       have HB9 : Hid (Below W.heap.size W w9) := hb9'
       have K9 : Hid (w9.cell? ⟨w.heap.size, 0, none⟩ = some (.slice a n c) ∧ w9.cell? ⟨w.heap.size, 1, none⟩ = some (.int .i64 st)) := BX.out _ hb9'
       clear hs9 hb9 hb9'))
  go_wp2
  go_ret
  exact ⟨⟨s9, rfl, HS9.out.trans (parts_rows HS1.out)⟩, HB0.out.trans (HB9.out.mono HB0.out.size)⟩
end Go.Proofs.YtkbodiggdajbeaaDoor

/- spec.RowsText, walked. -/
namespace Go.Proofs.YtkbodiggdajbeaaDoor
open Go.ChangeShapes Go.WideShapes Go.ChangeAt Go.RowKit Go.Lib

set_option maxHeartbeats 4000000 in
set_option maxRecDepth 100000 in
theorem specRowsText_any (a : Option Addr) (n c : Nat) (st : Int) (xs : List Int) (w : World) (hA : IntAt w a n xs) (hx : In64s xs) (hs : I64 st) (hn : n ≤ 1048576) :
    Calls Tryd.prog 11 #[.agg #[.slice a n c, .int .i64 st]] w fun e w' => TextSays e (rowsB xs st) ∧ Below w.heap.size w w' := by
  obtain ⟨W, hW⟩ : ∃ W, w.alloc (.cells #[.slice a n c, .int .i64 st] 42) = W := ⟨_, rfl⟩
  have HB0 : Hid (Below w.heap.size w W) := by rw [← hW]; exact (Below.refl _ w).alloc (Nat.le_refl _) _
  have X0 : Hid (Box W w.heap.size #[.slice a n c, .int .i64 st] 42) := by rw [← hW]; exact box_of w _ _
  have HW : Hid (w.alloc (.cells #[.slice a n c, .int .i64 st] 42) = W) := hW
  have HA : Hid (IntAt w a n xs) := hA
  have HI : Hid (In64s xs) := hx
  have HS : Hid (I64 st) := hs
  have HXL : Hid (xs.length = n) := hA.1
  have BX : Hid (∀ y, Below W.heap.size W y → y.cell? ⟨w.heap.size, 0, none⟩ = some (.slice a n c) ∧ y.cell? ⟨w.heap.size, 1, none⟩ = some (.int .i64 st)) := fun y hb => by
    obtain ⟨h0, h1, _, _⟩ := (X0.out.below hb X0.out.lt).two
    exact ⟨h0, h1⟩
  have K0 : Hid (W.drew.cell? ⟨w.heap.size, 0, none⟩ = some (.slice a n c) ∧ W.drew.cell? ⟨w.heap.size, 1, none⟩ = some (.int .i64 st)) := BX.out _ (Below.refl _ _).drew
  clear hW hA hx hs
  go_enter Tryd.func11, Tryd.ntmps11
  go_upto_region 1 with (fail)
  rw [HW.out]
  go_region_held3 (fun w' => w'.cell? ⟨w.heap.size, 0, none⟩ = some (.slice a n c) ∧ w'.cell? ⟨w.heap.size, 1, none⟩ = some (.int .i64 st))
    (first | (with_reducible exact K2.out) | (with_reducible exact K1.out) | (with_reducible exact K0.out) | go_keep)
    (first
    | (go_at_call 27
       refine (specNums_any a n c xs _ (HA.out.below HB0.out.drew (Nat.le_refl _)) HI.out).mono ?_
       rintro e w1 ⟨⟨s1, rfl, hs1⟩, hb1⟩
       have HS1 : Hid (s1.data.toList = numsB xs) := hs1
       have hz1 : s1.size ≤ 22 * n := by rw [szS s1 hs1]; exact numsB_len n xs HXL.out HI.out
       have hb1' : Below W.heap.size W w1 := (Below.refl W.heap.size W).drew.trans hb1
       have HB1 : Hid (Below W.heap.size W w1) := hb1'
       have K1 : Hid (w1.cell? ⟨w.heap.size, 0, none⟩ = some (.slice a n c) ∧ w1.cell? ⟨w.heap.size, 1, none⟩ = some (.int .i64 st)) := BX.out _ hb1'
       have hc1 : s1.size + 1 ≤ 9223372036854775807 := by omega
       have hd1 : ¬ (9223372036854775807 < s1.size + 1) := by omega
       clear hs1 hb1 hb1')
    | (go_at_call 16
       refine (digits_any st HS.out.1 HS.out.2 _).mono ?_
       rintro e w2 ⟨⟨s2, rfl, hs2⟩, hb2⟩
       have HS2 : Hid (s2.data.toList = itoa st) := hs2
       have hz2 : s2.size ≤ 21 := by rw [szS s2 hs2]; exact itoa_le HS.out
       have hb2' : Below W.heap.size W w2 := HB1.out.trans (hb2.mono HB1.out.size)
       have HB2 : Hid (Below W.heap.size W w2) := hb2'
       have K2 : Hid (w2.cell? ⟨w.heap.size, 0, none⟩ = some (.slice a n c) ∧ w2.cell? ⟨w.heap.size, 1, none⟩ = some (.int .i64 st)) := BX.out _ hb2'
       have hc2 : s1.size + 1 + s2.size ≤ 9223372036854775807 := by omega
       have hd2 : ¬ (9223372036854775807 < s1.size + 1 + s2.size) := by omega
       clear hs2 hb2 hb2'))
  go_wp2
  go_ret
  refine ⟨⟨_, rfl, ?_⟩, HB0.out.trans (HB2.out.mono HB0.out.size)⟩
  show _ = numsB xs ++ 47 :: itoa st
  simp [HS1.out, HS2.out]
end Go.Proofs.YtkbodiggdajbeaaDoor

/- Data of any shape in memory: numbers, flags, texts, lists of structs of these, one within the other. What is read (At), what a call owns (Own); what keeps them; a store into a list. No program. -/
namespace Go.Proofs.YtkbodiggdajbeaaDoor
open Go.ChangeShapes Go.WideShapes Go.ChangeAt Go.RowKit Go.Joins

/-- A cell's data: a number, a flag, a text, or a list of n structs of k cells each, cell by cell. -/
inductive Cel where
  | i (x : Int)
  | b (x : Bool)
  | s (x : ByteArray)
  | l (T : TypeId) (k n : Nat) (cs : List Cel)
/-- The value reads as the data. q: its lists have room as Go's own have. -/
inductive At (q : Bool) (w : World) : Value → Cel → Prop
  | i (x : Int) : At q w (.int .i64 x) (.i x)
  | b (x : Bool) : At q w (.bool x) (.b x)
  | s (x : ByteArray) : At q w (.string x) (.s x)
  | l (a : Option Addr) (T : TypeId) (k n c : Nat) (cs : List Cel) (vs : List Value) (h1 : vs.length = n * k) (h2 : cs.length = n * k) (hn : n ≤ 2097152) (hc : q = true → (a = none → c = 0) ∧ n ≤ c)
      (h3 : n = 0 ∨ ∃ b o, a = some ⟨b, o, none⟩ ∧ ∀ j, j < n * k → w.cell? ⟨b, o + j, none⟩ = vs[j]?) (h4 : ∀ (j : Nat) (v : Value) (c : Cel), vs[j]? = some v → cs[j]? = some c → At q w v c) : At q w (.slice a n c) (.l T k n cs)
def AtL (q : Bool) (w : World) (vs : List Value) (cs : List Cel) : Prop := vs.length = cs.length ∧ ∀ (j : Nat) (v : Value) (c : Cel), vs[j]? = some v → cs[j]? = some c → At q w v c
theorem At.on {q : Bool} {w w' : World} {v : Value} {c : Cel} (h : At q w v c) {B : Nat} (hb : Below B w w') (hB : w.heap.size ≤ B) : At q w' v c := by
  induction h with
  | i x => exact .i x
  | b x => exact .b x
  | s x => exact .s x
  | l a T k n c cs vs h1 h2 hn hc h3 h4 ih =>
    refine .l a T k n c cs vs h1 h2 hn hc ?_ ih
    rcases h3 with h3 | ⟨b, o, e, g⟩
    · exact .inl h3
    · refine .inr ⟨b, o, e, fun j hj => ?_⟩
      have h5 := g j hj
      have h6 : w.cell? ⟨b, o + j, none⟩ = some (vs[j]'(by omega)) := by rw [h5, List.getElem?_eq_getElem (by omega)]
      rw [hb.cell (show b < B from Nat.lt_of_lt_of_le (World.block_lt_of_cell? w _ h6) hB)]
      exact h5
theorem AtL.on {q : Bool} {w w' : World} {vs : List Value} {cs : List Cel} (h : AtL q w vs cs) {B : Nat} (hb : Below B w w') (hB : w.heap.size ≤ B) : AtL q w' vs cs :=
  ⟨h.1, fun j v c hv hc => (h.2 j v c hv hc).on hb hB⟩
theorem At.loose {q : Bool} {w : World} {v : Value} {c : Cel} (h : At q w v c) : At false w v c := by
  induction h with
  | i x => exact .i x
  | b x => exact .b x
  | s x => exact .s x
  | l a T k n c cs vs h1 h2 hn hc h3 h4 ih => exact .l a T k n c cs vs h1 h2 hn (fun h => by cases h) h3 ih
theorem AtL.nil {q : Bool} {w : World} : AtL q w [] [] := ⟨rfl, fun j v c hv _ => by simp at hv⟩
theorem AtL.cons {q : Bool} {w : World} {v : Value} {c : Cel} {vs : List Value} {cs : List Cel} (h : At q w v c) (hs : AtL q w vs cs) : AtL q w (v :: vs) (c :: cs) := by
  refine ⟨by simp [hs.1], fun j v' c' hv hc => ?_⟩
  cases j with
  | zero => simp at hv hc; subst hv hc; exact h
  | succ j => simp at hv hc; exact hs.2 j v' c' hv hc
theorem AtL.head {q : Bool} {w : World} {v : Value} {c : Cel} {vs : List Value} {cs : List Cel} (h : AtL q w (v :: vs) (c :: cs)) : At q w v c := h.2 0 v c rfl rfl
theorem AtL.tail {q : Bool} {w : World} {v : Value} {c : Cel} {vs : List Value} {cs : List Cel} (h : AtL q w (v :: vs) (c :: cs)) : AtL q w vs cs :=
  ⟨by have := h.1; simpa using this, fun j v' c' hv hc => h.2 (j + 1) v' c' (by simpa using hv) (by simpa using hc)⟩

/-- The value's lists are the call's own, S their blocks, no two lists in one. -/
inductive Own (w : World) (base : Nat) : Value → Cel → (Nat → Prop) → Prop
  | i (x : Int) (S : Nat → Prop) (hS : ∀ k, ¬ S k) : Own w base (.int .i64 x) (.i x) S
  | b (x : Bool) (S : Nat → Prop) (hS : ∀ k, ¬ S k) : Own w base (.bool x) (.b x) S
  | s (x : ByteArray) (S : Nat → Prop) (hS : ∀ k, ¬ S k) : Own w base (.string x) (.s x) S
  | nil (T : TypeId) (k : Nat) (S : Nat → Prop) (hS : ∀ k, ¬ S k) : Own w base (.slice none 0 0) (.l T k 0 []) S
  | l (g cap : Nat) (T : TypeId) (k n : Nat) (cs : List Cel) (vs : List Value) (S : Nat → Prop) (Ss : Nat → Nat → Prop) (h1 : w.ownsRow base T k (.slice (some ⟨g, 0, none⟩) n cap) n vs) (h2 : cs.length = n * k) (hn : n ≤ 2097152)
      (h4 : ∀ (j : Nat) (v : Value) (c : Cel), vs[j]? = some v → cs[j]? = some c → Own w base v c (Ss j)) (h5 : ∀ j, ¬ Ss j g) (h6 : ∀ i j x, i ≠ j → Ss i x → ¬ Ss j x) (h7 : ∀ x, S x ↔ x = g ∨ ∃ j, j < n * k ∧ Ss j x) :
      Own w base (.slice (some ⟨g, 0, none⟩) n cap) (.l T k n cs) S
/-- A struct's cells, likewise. -/
def OwnL (w : World) (base : Nat) (vs : List Value) (cs : List Cel) (S : Nat → Prop) : Prop :=
  vs.length = cs.length ∧ ∃ Ss : Nat → Nat → Prop, (∀ (j : Nat) (v : Value) (c : Cel), vs[j]? = some v → cs[j]? = some c → Own w base v c (Ss j)) ∧ (∀ i j x, i ≠ j → Ss i x → ¬ Ss j x) ∧ ∀ x, S x ↔ ∃ j, j < vs.length ∧ Ss j x
theorem Own.set {w : World} {base : Nat} {v : Value} {c : Cel} {S S' : Nat → Prop} (h : Own w base v c S) (hS : ∀ x, S x ↔ S' x) : Own w base v c S' := by
  cases h with
  | i x S h => exact .i x S' fun k hk => h k ((hS k).2 hk)
  | b x S h => exact .b x S' fun k hk => h k ((hS k).2 hk)
  | s x S h => exact .s x S' fun k hk => h k ((hS k).2 hk)
  | nil T k S h => exact .nil T k S' fun k hk => h k ((hS k).2 hk)
  | l g cap T k n cs vs S Ss h1 h2 hn h4 h5 h6 h7 => exact .l g cap T k n cs vs S' Ss h1 h2 hn h4 h5 h6 fun x => (hS x).symm.trans (h7 x)
theorem Own.lt {w : World} {base : Nat} {v : Value} {c : Cel} {S : Nat → Prop} (h : Own w base v c S) : ∀ x, S x → base ≤ x ∧ x < w.heap.size := by
  induction h with
  | i x S h => exact fun k hk => absurd hk (h k)
  | b x S h => exact fun k hk => absurd hk (h k)
  | s x S h => exact fun k hk => absurd hk (h k)
  | nil T k S h => exact fun k hk => absurd hk (h k)
  | l g cap T k n cs vs S Ss h1 h2 hn h4 h5 h6 h7 ih =>
    intro x hx
    rcases (h7 x).1 hx with rfl | ⟨j, hj, hxj⟩
    · exact h1.lt x rfl
    · have hl := h1.1
      exact ih j _ _ (List.getElem?_eq_getElem (by omega)) (List.getElem?_eq_getElem (by omega)) x hxj
theorem Own.heap {w w' : World} {base : Nat} {v : Value} {c : Cel} {S : Nat → Prop} (h : Own w base v c S) (he : ∀ x, S x → w'.heap[x]? = w.heap[x]?) : Own w' base v c S := by
  induction h with
  | i x S h => exact .i x S h
  | b x S h => exact .b x S h
  | s x S h => exact .s x S h
  | nil T k S h => exact .nil T k S h
  | l g cap T k n cs vs S Ss h1 h2 hn h4 h5 h6 h7 ih =>
    refine .l g cap T k n cs vs S Ss (owns_heap h1 fun k hk => ?_) h2 hn (fun j v c hv hc => ?_) h5 h6 h7
    · cases hk
      exact he g ((h7 g).2 (.inl rfl))
    · exact ih j v c hv hc fun x hx => he x ((h7 x).2 (.inr ⟨j, by
        have hl := h1.1
        have := (List.getElem?_eq_some_iff.1 hv).1
        omega, hx⟩))
theorem Own.on {w w' : World} {base : Nat} {v : Value} {c : Cel} {S : Nat → Prop} (h : Own w base v c S) {B : Nat} (hb : Below B w w') (hB : w.heap.size ≤ B) : Own w' base v c S :=
  h.heap fun x hx => hb.block x (by have := (h.lt x hx).2; omega)
theorem Own.weaken {w : World} {base base' : Nat} {v : Value} {c : Cel} {S : Nat → Prop} (h : Own w base v c S) (hb : base' ≤ base) : Own w base' v c S := by
  induction h with
  | i x S h => exact .i x S h
  | b x S h => exact .b x S h
  | s x S h => exact .s x S h
  | nil T k S h => exact .nil T k S h
  | l g cap T k n cs vs S Ss h1 h2 hn h4 h5 h6 h7 ih => exact .l g cap T k n cs vs S Ss (own_weaken h1 hb) h2 hn ih h5 h6 h7
theorem Own.at {w : World} {base : Nat} {v : Value} {c : Cel} {S : Nat → Prop} (h : Own w base v c S) : At true w v c := by
  induction h with
  | i x S h => exact .i x
  | b x S h => exact .b x
  | s x S h => exact .s x
  | nil T k S h => exact .l none T k 0 0 [] [] (by simp) (by simp) (by omega) (fun _ => ⟨fun _ => rfl, Nat.le_refl _⟩) (.inl rfl) (fun j v c hv _ => by simp at hv)
  | l g cap T k n cs vs S Ss h1 h2 hn h4 h5 h6 h7 ih =>
    obtain ⟨_, c', e, hcap⟩ := owns_slice h1
    cases e
    exact .l _ T k n cap cs vs h1.1 h2 hn (fun _ => ⟨(fun h => by cases h), hcap⟩) (.inr ⟨g, 0, rfl, fun j hj => by rw [Nat.zero_add]; exact h1.cellAt j hj⟩) ih
/-- Where a list of the call's own lies. -/
theorem Own.forms {w : World} {base : Nat} {v : Value} {T : TypeId} {k n : Nat} {cs : List Cel} {S : Nat → Prop} (h : Own w base v (.l T k n cs) S) : (v = .slice none 0 0 ∧ n = 0 ∧ cs = [] ∧ ∀ x, ¬ S x) ∨ ∃ g cap, v = .slice (some ⟨g, 0, none⟩) n cap ∧ n ≤ cap ∧ S g := by
  cases h with
  | nil T k S h => exact .inl ⟨rfl, rfl, rfl, h⟩
  | l g cap T k n cs vs S Ss h1 h2 hn h4 h5 h6 h7 =>
    obtain ⟨_, c', e, hcap⟩ := owns_slice h1
    cases e
    exact .inr ⟨g, cap, rfl, hcap, (h7 g).2 (.inl rfl)⟩
theorem Own.len {w : World} {base : Nat} {v : Value} {T : TypeId} {k n : Nat} {cs : List Cel} {S : Nat → Prop} (h : Own w base v (.l T k n cs) S) : cs.length = n * k ∧ n ≤ 2097152 := by
  cases h with
  | nil T k S h => exact ⟨by simp, by omega⟩
  | l g cap T k n cs vs S Ss h1 h2 hn h4 h5 h6 h7 => exact ⟨h2, hn⟩
theorem Own.slice {w : World} {base : Nat} {v : Value} {T : TypeId} {k n : Nat} {cs : List Cel} {S : Nat → Prop} (h : Own w base v (.l T k n cs) S) : ∃ a c, v = .slice a n c ∧ n ≤ c := by
  rcases h.forms with ⟨rfl, rfl, -, -⟩ | ⟨g, cap, rfl, hc, -⟩
  · exact ⟨none, 0, rfl, Nat.le_refl _⟩
  · exact ⟨_, cap, rfl, hc⟩
/-- A cell of a list of the call's own: what stands there, and that it may be written. -/
theorem Own.cell {w : World} {base : Nat} {g n cap : Nat} {T : TypeId} {k : Nat} {cs : List Cel} {S : Nat → Prop} (h : Own w base (.slice (some ⟨g, 0, none⟩) n cap) (.l T k n cs) S) {j : Nat} {c : Cel} (hc : cs[j]? = some c) :
    ∃ v Sj, w.cell? ⟨g, j, none⟩ = some v ∧ w.frozen? ⟨g, j, none⟩ = false ∧ Own w base v c Sj ∧ (∀ x, Sj x → S x) ∧ ¬ Sj g := by
  cases h with
  | l g cap T k n cs vs S Ss h1 h2 hn h4 h5 h6 h7 =>
    have hj : j < cs.length := (List.getElem?_eq_some_iff.1 hc).1
    have hl := h1.1
    have hv : vs[j]? = some (vs[j]'(by omega)) := List.getElem?_eq_getElem (by omega)
    exact ⟨_, Ss j, own_cellV h1 hv, h1.frozenAt j, h4 j _ _ hv hc, fun x hx => (h7 x).2 (.inr ⟨j, by omega, hx⟩), h5 j⟩
/-- A store into a list of the call's own: the new cell's lists lie elsewhere. -/
theorem Own.store {w : World} {base : Nat} {g n cap : Nat} {T : TypeId} {k : Nat} {cs : List Cel} {S S' : Nat → Prop} (h : Own w base (.slice (some ⟨g, 0, none⟩) n cap) (.l T k n cs) S) {j : Nat} (hj : j < n * k) {u : Value} {c' : Cel} (hu : Own w base u c' S') (hS : ∀ x, S' x → ¬ S x) :
    ∃ S'', Own (w.setCell ⟨g, j, none⟩ u) base (.slice (some ⟨g, 0, none⟩) n cap) (.l T k n (cs.set j c')) S'' ∧ S'' g ∧ (∀ x, S'' x → S x ∨ S' x) ∧ ∀ x, S' x → S'' x := by
  cases h with
  | l g cap T k n cs vs S Ss h1 h2 hn h4 h5 h6 h7 =>
    have hl := h1.1
    have hg : S g := (h7 g).2 (.inl rfl)
    have sub : ∀ i x, i < n * k → Ss i x → S x := fun i x hi hx => (h7 x).2 (.inr ⟨i, hi, hx⟩)
    refine ⟨fun x => x = g ∨ ∃ i, i < n * k ∧ (if i = j then S' else Ss i) x, .l g cap T k n _ (vs.set j u) _ (fun i => if i = j then S' else if i < n * k then Ss i else fun _ => False) (h1.stored j u).1 (by simpa using h2) hn ?_ ?_ ?_ ?_, .inl rfl, ?_, fun x hx => .inr ⟨j, hj, by simpa using hx⟩⟩
    · intro i v c hv hc
      by_cases hij : i = j
      · subst hij
        rw [List.getElem?_set_self (by omega)] at hv
        rw [List.getElem?_set_self (by omega)] at hc
        cases hv
        cases hc
        rw [if_pos rfl]
        exact hu.heap fun x hx => Below.heap_setCell _ _ _ _ (fun e => hS x hx (by have e : x = g := e; rw [e]; exact hg))
      · rw [List.getElem?_set_ne (Ne.symm hij)] at hv hc
        have hi : i < n * k := by have := (List.getElem?_eq_some_iff.1 hv).1; omega
        rw [if_neg hij, if_pos hi]
        exact (h4 i v c hv hc).heap fun x hx => Below.heap_setCell _ _ _ _ (fun e => h5 i (by have e : x = g := e; rw [← e]; exact hx))
    · intro i
      show ¬ (if i = j then S' else if i < n * k then Ss i else fun _ => False) g
      split
      · exact fun hx => hS g hx hg
      · split
        · exact h5 i
        · exact fun h => h
    · intro a b x hab
      show (if a = j then S' else if a < n * k then Ss a else fun _ => False) x → ¬ (if b = j then S' else if b < n * k then Ss b else fun _ => False) x
      by_cases ha : a = j
      · rw [if_pos ha, if_neg (show ¬ b = j by omega)]
        intro hx
        split
        · rename_i hb
          exact fun hb' => hS x hx (sub b x hb hb')
        · exact fun h => h
      · rw [if_neg ha]
        split
        · rename_i hal
          intro hx
          by_cases hb : b = j
          · rw [if_pos hb]; exact fun hx' => hS x hx' (sub a x hal hx)
          · rw [if_neg hb]
            split
            · exact h6 a b x hab hx
            · exact fun h => h
        · exact fun h => h.elim
    · intro x
      constructor
      · rintro (rfl | ⟨i, hi, hx⟩)
        · exact .inl rfl
        · exact .inr ⟨i, hi, by by_cases e : i = j <;> simp [e, hi] at hx ⊢ <;> exact hx⟩
      · rintro (rfl | ⟨i, hi, hx⟩)
        · exact .inl rfl
        · exact .inr ⟨i, hi, by by_cases e : i = j <;> simp [e, hi] at hx ⊢ <;> exact hx⟩
    · rintro x (rfl | ⟨i, hi, hx⟩)
      · exact .inl hg
      · by_cases e : i = j
        · rw [if_pos e] at hx; exact .inr hx
        · rw [if_neg e] at hx; exact .inl (sub i x hi hx)

theorem OwnL.nil {w : World} {base : Nat} {S : Nat → Prop} (hS : ∀ x, ¬ S x) : OwnL w base [] [] S :=
  ⟨rfl, fun _ _ => False, (fun j v c hv _ => by simp at hv), (fun _ _ _ _ h => h.elim), fun x => ⟨fun h => absurd h (hS x), fun ⟨j, hj, _⟩ => by simp at hj⟩⟩
theorem OwnL.cons {w : World} {base : Nat} {v : Value} {c : Cel} {vs : List Value} {cs : List Cel} {S0 S S' : Nat → Prop} (h : Own w base v c S0) (hs : OwnL w base vs cs S) (hd : ∀ x, S0 x → ¬ S x) (hS : ∀ x, S' x ↔ S0 x ∨ S x) : OwnL w base (v :: vs) (c :: cs) S' := by
  obtain ⟨hl, Ss, h1, h2, h3⟩ := hs
  refine ⟨by simp [hl], fun j => match j with | 0 => S0 | j + 1 => fun x => j < vs.length ∧ Ss j x, ?_, ?_, ?_⟩
  · intro j v' c' hv hc
    cases j with
    | zero => simp at hv hc; subst hv hc; exact h
    | succ j =>
      simp at hv hc
      have hj := (List.getElem?_eq_some_iff.1 hv).1
      exact (h1 j v' c' hv hc).set fun x => ⟨fun hx => ⟨hj, hx⟩, fun hx => hx.2⟩
  · intro i j x hij
    match i, j with
    | 0, 0 => exact absurd rfl hij
    | 0, j + 1 => exact fun hx hx' => hd x hx ((h3 x).2 ⟨j, hx'.1, hx'.2⟩)
    | i + 1, 0 => exact fun hx hx' => hd x hx' ((h3 x).2 ⟨i, hx.1, hx.2⟩)
    | i + 1, j + 1 => exact fun hx hx' => h2 i j x (by omega) hx.2 hx'.2
  · intro x
    rw [hS x, h3 x]
    constructor
    · rintro (hx | ⟨j, hj, hx⟩)
      · exact ⟨0, by simp, hx⟩
      · exact ⟨j + 1, by simpa using hj, hj, hx⟩
    · rintro ⟨j, hj, hx⟩
      cases j with
      | zero => exact .inl hx
      | succ j => exact .inr ⟨j, hx.1, hx.2⟩
theorem OwnL.parts {w : World} {base : Nat} {v : Value} {c : Cel} {vs : List Value} {cs : List Cel} {S : Nat → Prop} (h : OwnL w base (v :: vs) (c :: cs) S) : ∃ S0 S1, Own w base v c S0 ∧ OwnL w base vs cs S1 ∧ (∀ x, S0 x → ¬ S1 x) ∧ ∀ x, S x ↔ S0 x ∨ S1 x := by
  obtain ⟨hl, Ss, h1, h2, h3⟩ := h
  refine ⟨Ss 0, fun x => ∃ j, j < vs.length ∧ Ss (j + 1) x, h1 0 v c rfl rfl, ⟨by simpa using hl, fun j => Ss (j + 1), fun j v' c' hv hc => h1 (j + 1) v' c' (by simpa using hv) (by simpa using hc), fun i j x hij => h2 _ _ x (by omega), fun x => Iff.rfl⟩, ?_, ?_⟩
  · rintro x hx ⟨j, _, hx'⟩
    exact h2 0 (j + 1) x (by omega) hx hx'
  · intro x
    rw [h3 x]
    constructor
    · rintro ⟨j, hj, hx⟩
      cases j with
      | zero => exact .inl hx
      | succ j => exact .inr ⟨j, by simpa using hj, hx⟩
    · rintro (hx | ⟨j, hj, hx⟩)
      · exact ⟨0, by simp, hx⟩
      · exact ⟨j + 1, by simpa using hj, hx⟩
theorem OwnL.heap {w w' : World} {base : Nat} {vs : List Value} {cs : List Cel} {S : Nat → Prop} (h : OwnL w base vs cs S) (he : ∀ x, S x → w'.heap[x]? = w.heap[x]?) : OwnL w' base vs cs S := by
  obtain ⟨hl, Ss, h1, h2, h3⟩ := h
  exact ⟨hl, Ss, fun j v c hv hc => (h1 j v c hv hc).heap fun x hx => he x ((h3 x).2 ⟨j, (List.getElem?_eq_some_iff.1 hv).1, hx⟩), h2, h3⟩
theorem OwnL.lt {w : World} {base : Nat} {vs : List Value} {cs : List Cel} {S : Nat → Prop} (h : OwnL w base vs cs S) : ∀ x, S x → base ≤ x ∧ x < w.heap.size := by
  obtain ⟨hl, Ss, h1, h2, h3⟩ := h
  intro x hx
  obtain ⟨j, hj, hx⟩ := (h3 x).1 hx
  exact (h1 j _ _ (List.getElem?_eq_getElem hj) (List.getElem?_eq_getElem (by omega))).lt x hx
theorem OwnL.on {w w' : World} {base : Nat} {vs : List Value} {cs : List Cel} {S : Nat → Prop} (h : OwnL w base vs cs S) {B : Nat} (hb : Below B w w') (hB : w.heap.size ≤ B) : OwnL w' base vs cs S :=
  h.heap fun x hx => hb.block x (by have := (h.lt x hx).2; omega)
theorem OwnL.weaken {w : World} {base base' : Nat} {vs : List Value} {cs : List Cel} {S : Nat → Prop} (h : OwnL w base vs cs S) (hb : base' ≤ base) : OwnL w base' vs cs S := by
  obtain ⟨hl, Ss, h1, h2, h3⟩ := h
  exact ⟨hl, Ss, fun j v c hv hc => (h1 j v c hv hc).weaken hb, h2, h3⟩
theorem OwnL.at {w : World} {base : Nat} {vs : List Value} {cs : List Cel} {S : Nat → Prop} (h : OwnL w base vs cs S) : AtL true w vs cs := by
  obtain ⟨hl, Ss, h1, h2, h3⟩ := h
  exact ⟨hl, fun j v c hv hc => (h1 j v c hv hc).at⟩
end Go.Proofs.YtkbodiggdajbeaaDoor

/- What the laws' own functions reckon of data: how many cells are marked, what they are marked with, how great it is; a list's row; what is turned within a list. No program. -/
namespace Go.Proofs.YtkbodiggdajbeaaDoor
open Go.ChangeShapes Go.WideShapes Go.ChangeAt Go.RowKit Go.Joins

/-- The shape of a cell's data. -/
inductive Ty where
  | i
  | b
  | s
  | l (T : TypeId) (k : Nat) (fs : List Ty)
inductive Has : Cel → Ty → Prop
  | i (x : Int) : Has (.i x) .i
  | b (x : Bool) : Has (.b x) .b
  | s (x : ByteArray) : Has (.s x) .s
  | l (T : TypeId) (k n : Nat) (cs : List Cel) (fs : List Ty) (hk : fs.length = k) (h1 : cs.length = n * k) (h2 : ∀ (j : Nat) (c : Cel) (t : Ty), cs[j]? = some c → fs[j % k]? = some t → Has c t) : Has (.l T k n cs) (.l T k fs)
def HasL (cs : List Cel) (fs : List Ty) : Prop := cs.length = fs.length ∧ ∀ (j : Nat) (c : Cel) (t : Ty), cs[j]? = some c → fs[j]? = some t → Has c t
/-- Row number j. -/
def row (cs : List Cel) (k j : Nat) : List Cel := (cs.drop (j * k)).take k
theorem rowL_len {cs : List Cel} {k n j : Nat} (h : cs.length = n * k) (hj : j < n) : (row cs k j).length = k := by
  unfold row
  rw [List.length_take, List.length_drop, h]
  have : j * k + k ≤ n * k := by rw [← Nat.succ_mul]; exact Nat.mul_le_mul_right k hj
  omega
theorem row_at {cs : List Cel} {k j i : Nat} (hi : i < k) : (row cs k j)[i]? = cs[j * k + i]? := by
  unfold row
  rw [List.getElem?_take_of_lt hi, List.getElem?_drop]
theorem row_split {cs : List Cel} {k j : Nat} : cs.take ((j + 1) * k) = cs.take (j * k) ++ row cs k j := by
  unfold row
  rw [Nat.succ_mul, List.take_add]
theorem Has.rowL {T : TypeId} {k n : Nat} {cs : List Cel} {fs : List Ty} (h : Has (.l T k n cs) (.l T k fs)) {j : Nat} (hj : j < n) : HasL (row cs k j) fs := by
  cases h with
  | l _ _ _ _ _ hk h1 h2 =>
    refine ⟨by rw [rowL_len h1 hj, hk], fun i c t hc ht => ?_⟩
    have hi : i < k := by have := (List.getElem?_eq_some_iff.1 ht).1; omega
    rw [row_at hi] at hc
    refine h2 (j * k + i) c t hc ?_
    rw [show (j * k + i) % k = i by rw [Nat.add_comm, Nat.add_mul_mod_self_right, Nat.mod_eq_of_lt hi]]
    exact ht
theorem HasL.nil {cs : List Cel} (h : HasL cs []) : cs = [] := List.length_eq_zero_iff.1 h.1
theorem HasL.cons {cs : List Cel} {t : Ty} {fs : List Ty} (h : HasL cs (t :: fs)) : ∃ c cs', cs = c :: cs' ∧ Has c t ∧ HasL cs' fs := by
  match cs, h with
  | [], h => have := h.1; simp at this
  | c :: cs', h => exact ⟨c, cs', rfl, h.2 0 c t rfl rfl, ⟨by have := h.1; simpa using this, fun j c' t' hc ht => h.2 (j + 1) c' t' (by simpa using hc) (by simpa using ht)⟩⟩
theorem Has.int {c : Cel} (h : Has c .i) : ∃ x, c = .i x := by cases h; exact ⟨_, rfl⟩
theorem Has.bool {c : Cel} (h : Has c .b) : ∃ x, c = .b x := by cases h; exact ⟨_, rfl⟩
theorem Has.str {c : Cel} (h : Has c .s) : ∃ x, c = .s x := by cases h; exact ⟨_, rfl⟩
theorem Has.list {c : Cel} {T : TypeId} {k : Nat} {fs : List Ty} (h : Has c (.l T k fs)) : ∃ n cs, c = .l T k n cs ∧ cs.length = n * k := by cases h; exact ⟨_, _, rfl, by assumption⟩

mutual
/-- How many cells are marked. -/
def Cel.cnt : Cel → Nat
  | .i _ => 1
  | .b _ => 1
  | .s _ => 1
  | .l _ _ _ cs => cntL cs
def cntL : List Cel → Nat
  | [] => 0
  | c :: cs => c.cnt + cntL cs
end
mutual
/-- The data, marked from q on; tx: what a text is marked with. -/
def Cel.mark (tx : Int → ByteArray) : Cel → Int → Cel
  | .i _, q => .i q
  | .b _, q => .b (q % 3 == 0)
  | .s _, q => .s (tx q)
  | .l T k n cs, q => .l T k n (markL tx cs q)
def markL (tx : Int → ByteArray) : List Cel → Int → List Cel
  | [], _ => []
  | c :: cs, q => c.mark tx q :: markL tx cs (q + (c.cnt : Int))
end
mutual
/-- How many structs there are in all its lists, and bytes in its texts. -/
def Cel.big : Cel → Nat
  | .i _ => 0
  | .b _ => 0
  | .s x => x.size
  | .l _ _ n cs => n + bigL cs
def bigL : List Cel → Nat
  | [] => 0
  | c :: cs => c.big + bigL cs
end
theorem cntL_append (a b : List Cel) : cntL (a ++ b) = cntL a + cntL b := by
  induction a with
  | nil => simp [cntL]
  | cons c a ih => simp [cntL, ih]; omega
theorem markL_append (tx : Int → ByteArray) (a b : List Cel) (q : Int) : markL tx (a ++ b) q = markL tx a q ++ markL tx b (q + (cntL a : Int)) := by
  induction a generalizing q with
  | nil => simp [markL, cntL]
  | cons c a ih => simp only [List.cons_append, markL, ih, cntL, List.cons_append]; rw [show q + (c.cnt : Int) + (cntL a : Int) = q + ((c.cnt + cntL a : Nat) : Int) by push_cast; omega]
theorem markL_len (tx : Int → ByteArray) (a : List Cel) (q : Int) : (markL tx a q).length = a.length := by
  induction a generalizing q with
  | nil => rfl
  | cons c a ih => simp [markL, ih]
theorem bigL_append (a b : List Cel) : bigL (a ++ b) = bigL a + bigL b := by
  induction a with
  | nil => simp [bigL]
  | cons c a ih => simp [bigL, ih]; omega
mutual
theorem Cel.mark_cnt (tx : Int → ByteArray) : ∀ (c : Cel) (q : Int), (c.mark tx q).cnt = c.cnt
  | .i _, _ => by simp [Cel.mark, Cel.cnt]
  | .b _, _ => by simp [Cel.mark, Cel.cnt]
  | .s _, _ => by simp [Cel.mark, Cel.cnt]
  | .l _ _ _ cs, q => by simp only [Cel.mark, Cel.cnt]; exact markL_cnt tx cs q
theorem markL_cnt (tx : Int → ByteArray) : ∀ (cs : List Cel) (q : Int), cntL (markL tx cs q) = cntL cs
  | [], _ => rfl
  | c :: cs, q => by simp only [markL, cntL]; rw [Cel.mark_cnt tx c q, markL_cnt tx cs _]
end
/-- What is turned within a cell of a list of the call's own, in its own blocks alone. -/
theorem Own.inner {w w' : World} {base : Nat} {g n cap : Nat} {T : TypeId} {k : Nat} {cs : List Cel} {S : Nat → Prop} (h : Own w base (.slice (some ⟨g, 0, none⟩) n cap) (.l T k n cs) S) {j : Nat} {c c' : Cel} (hc : cs[j]? = some c)
    (hw : ∀ v Sj, w.cell? ⟨g, j, none⟩ = some v → Own w base v c Sj → (∀ x, Sj x → S x) → ¬ Sj g → Own w' base v c' Sj ∧ ∀ x, S x → ¬ Sj x → w'.heap[x]? = w.heap[x]?) :
    Own w' base (.slice (some ⟨g, 0, none⟩) n cap) (.l T k n (cs.set j c')) S := by
  cases h with
  | l g cap T k n cs vs S Ss h1 h2 hn h4 h5 h6 h7 =>
    have hj : j < cs.length := (List.getElem?_eq_some_iff.1 hc).1
    have hl := h1.1
    have hv : vs[j]? = some (vs[j]'(by omega)) := List.getElem?_eq_getElem (by omega)
    have sub : ∀ i x, i < n * k → Ss i x → S x := fun i x hi hx => (h7 x).2 (.inr ⟨i, hi, hx⟩)
    obtain ⟨ho, he⟩ := hw _ (Ss j) (own_cellV h1 hv) (h4 j _ _ hv hc) (fun x => sub j x (by omega)) (h5 j)
    refine .l g cap T k n _ vs S Ss (owns_heap h1 fun x hx => ?_) (by simpa using h2) hn (fun i v d hvi hdi => ?_) h5 h6 h7
    · cases hx
      exact he g ((h7 g).2 (.inl rfl)) (h5 j)
    · by_cases hij : j = i
      · subst hij
        rw [List.getElem?_set_self hj] at hdi
        cases hdi
        rw [hv] at hvi
        cases hvi
        exact ho
      · rw [List.getElem?_set_ne hij] at hdi
        have hi : i < n * k := by have := (List.getElem?_eq_some_iff.1 hvi).1; omega
        exact (h4 i v d hvi hdi).heap fun x hx => he x (sub i x hi hx) (h6 i j x (Ne.symm hij) hx)

/-- A list that is read, opened. -/
theorem At.openL {q : Bool} {w : World} {v : Value} {T : TypeId} {k n : Nat} {cs : List Cel} (h : At q w v (.l T k n cs)) : ∃ (a : Option Addr) (c : Nat) (vs : List Value), v = .slice a n c ∧ vs.length = n * k ∧ cs.length = n * k ∧ n ≤ 2097152 ∧ (q = true → (a = none → c = 0) ∧ n ≤ c) ∧
    (n = 0 ∨ ∃ b o, a = some ⟨b, o, none⟩ ∧ ∀ j, j < n * k → w.cell? ⟨b, o + j, none⟩ = vs[j]?) ∧ ∀ (j : Nat) (v : Value) (c : Cel), vs[j]? = some v → cs[j]? = some c → At q w v c := by
  cases h with
  | l a T k n c cs vs h1 h2 hn hc h3 h4 => exact ⟨a, c, vs, rfl, h1, h2, hn, hc, h3, h4⟩
theorem At.int {q : Bool} {w : World} {v : Value} {x : Int} (h : At q w v (.i x)) : v = .int .i64 x := by cases h; rfl
theorem At.bool {q : Bool} {w : World} {v : Value} {x : Bool} (h : At q w v (.b x)) : v = .bool x := by cases h; rfl
theorem At.str {q : Bool} {w : World} {v : Value} {x : ByteArray} (h : At q w v (.s x)) : v = .string x := by cases h; rfl
theorem At.slice {q : Bool} {w : World} {v : Value} {T : TypeId} {k n : Nat} {cs : List Cel} (h : At q w v (.l T k n cs)) : ∃ a c, v = .slice a n c := by
  obtain ⟨a, c, _, e, _⟩ := h.openL
  exact ⟨a, c, e⟩
theorem AtL.nilE {q : Bool} {w : World} {vs : List Value} (h : AtL q w vs []) : vs = [] := List.length_eq_zero_iff.1 h.1
theorem AtL.consE {q : Bool} {w : World} {vs : List Value} {c : Cel} {cs : List Cel} (h : AtL q w vs (c :: cs)) : ∃ v vs', vs = v :: vs' ∧ At q w v c ∧ AtL q w vs' cs := by
  match vs, h with
  | [], h => have := h.1; simp at this
  | v :: vs', h => exact ⟨v, vs', rfl, h.head, h.tail⟩
theorem OwnL.nilE {w : World} {base : Nat} {vs : List Value} {S : Nat → Prop} (h : OwnL w base vs [] S) : vs = [] := List.length_eq_zero_iff.1 h.1
theorem OwnL.consE {w : World} {base : Nat} {vs : List Value} {c : Cel} {cs : List Cel} {S : Nat → Prop} (h : OwnL w base vs (c :: cs) S) : ∃ v vs', vs = v :: vs' := by
  match vs, h with
  | [], h => have := h.1; simp at this
  | v :: vs', _ => exact ⟨v, vs', rfl⟩
/-- Row j of a list that is read: what stands in its cells. -/
theorem rowVals {q : Bool} {w : World} {k n j : Nat} {cs : List Cel} {vs : List Value} (h1 : vs.length = n * k) (h2 : cs.length = n * k) (h4 : ∀ (j : Nat) (v : Value) (c : Cel), vs[j]? = some v → cs[j]? = some c → At q w v c) (hj : j < n) : AtL q w ((vs.drop (j * k)).take k) (row cs k j) := by
  have hle : j * k + k ≤ n * k := by rw [← Nat.succ_mul]; exact Nat.mul_le_mul_right k hj
  refine ⟨by rw [rowL_len h2 hj, List.length_take, List.length_drop, h1]; omega, fun i v c hv hc => ?_⟩
  have hi : i < k := by have := (List.getElem?_eq_some_iff.1 hc).1; rw [rowL_len h2 hj] at this; exact this
  rw [row_at hi] at hc
  rw [List.getElem?_take_of_lt hi, List.getElem?_drop] at hv
  exact h4 _ v c hv hc
/-- Stores one behind the other into a block. -/
def stores (w : World) (g p : Nat) : List Value → World
  | [] => w
  | u :: us => stores (w.setCell ⟨g, p, none⟩ u) g (p + 1) us
theorem stores_other {g : Nat} : ∀ (us : List Value) (w : World) (p x : Nat), x ≠ g → (stores w g p us).heap[x]? = w.heap[x]?
  | [], _, _, _, _ => rfl
  | _ :: us, _, _, _, hx => (stores_other us _ _ _ hx).trans (Below.heap_setCell _ _ _ _ hx)
theorem stores_size {g : Nat} : ∀ (us : List Value) (w : World) (p : Nat), (stores w g p us).heap.size = w.heap.size
  | [], _, _ => rfl
  | _ :: us, _, _ => (stores_size us _ _).trans (size_setCell _ _ _)
theorem stores_below {g B : Nat} (hB : B ≤ g) {w0 : World} : ∀ (us : List Value) (w : World) (p : Nat), Below B w0 w → Below B w0 (stores w g p us)
  | [], _, _, h => h
  | u :: us, _, _, h => stores_below hB us _ _ (h.setCell hB u)
/-- Data put over a list's data from a place on. -/
def over (ps : List Cel) (p : Nat) : List Cel → List Cel
  | [] => ps
  | c :: cs => over (ps.set p c) (p + 1) cs
theorem over_len : ∀ (cs ps : List Cel) (p : Nat), (over ps p cs).length = ps.length
  | [], _, _ => rfl
  | c :: cs, ps, p => (over_len cs _ _).trans (by simp)
theorem over_take : ∀ (cs ps : List Cel) (p : Nat), p + cs.length ≤ ps.length → (over ps p cs).take (p + cs.length) = ps.take p ++ cs
  | [], ps, p, _ => by simp [over]
  | c :: cs, ps, p, h => by
    simp only [List.length_cons] at h
    have ih := over_take cs (ps.set p c) (p + 1) (by simp; omega)
    rw [show p + (c :: cs).length = p + 1 + cs.length by simp; omega, over, ih]
    rw [List.take_succ_eq_append_getElem (by simp; omega)]
    simp [List.take_set_of_le (Nat.le_refl _)]
theorem Own.storeL : ∀ {us : List Value} {rs : List Cel} {w : World} {base g n cap : Nat} {T : TypeId} {k : Nat} {ps : List Cel} {S S' : Nat → Prop} {p : Nat}, Own w base (.slice (some ⟨g, 0, none⟩) n cap) (.l T k n ps) S → OwnL w base us rs S' → (∀ x, S' x → ¬ S x) → p + rs.length ≤ n * k →
    ∃ S'', Own (stores w g p us) base (.slice (some ⟨g, 0, none⟩) n cap) (.l T k n (over ps p rs)) S'' ∧ ∀ x, S'' x → S x ∨ S' x
  | us, [], w, base, g, n, cap, T, k, ps, S, S', p, h, hu, _, _ => by
    obtain rfl := hu.nilE
    exact ⟨S, h, fun x hx => .inl hx⟩
  | us, c :: rs, w, base, g, n, cap, T, k, ps, S, S', p, h, hu, hd, hp => by
    obtain ⟨u, us', rfl⟩ := hu.consE
    obtain ⟨S0, S1, h0, h1, hd01, hS⟩ := hu.parts
    simp only [List.length_cons] at hp
    obtain ⟨Sa, oa, ga, sa, ta⟩ := h.store (show p < n * k by omega) h0 (fun x hx => hd x ((hS x).2 (.inl hx)))
    have hg : S g := by
      rcases h.forms with ⟨e, _⟩ | ⟨g', cap', e, _, hg⟩
      · cases e
      · cases e; exact hg
    have h1' : OwnL (w.setCell ⟨g, p, none⟩ u) base us' rs S1 := h1.heap fun x hx => Below.heap_setCell _ _ _ _ (fun e => by
      have e : x = g := e
      exact hd x ((hS x).2 (.inr hx)) (by rw [e]; exact hg))
    obtain ⟨S'', o, s⟩ := Own.storeL (p := p + 1) oa h1' (fun x hx hxa => by
      rcases sa x hxa with h' | h'
      · exact hd x ((hS x).2 (.inr hx)) h'
      · exact hd01 x h' hx) (by omega)
    exact ⟨S'', o, fun x hx => by
      rcases s x hx with h' | h'
      · rcases sa x h' with h'' | h''
        · exact .inl h''
        · exact .inr ((hS x).2 (.inl h''))
      · exact .inr ((hS x).2 (.inr h'))⟩
/-- A list of zero cells that was made. -/
theorem own_made {w : World} {g n : Nat} {T : TypeId} {k : Nat} {vs zv : List Value} {zc : List Cel} (h : w.ownsRow g T k (.slice (some ⟨g, 0, none⟩) n n) n vs) (hn : n ≤ 2097152) (hk : zc.length = k) (hz : ∀ (j : Nat) (v : Value), vs[j]? = some v → zv[j % k]? = some v) (hzc : ∀ (i : Nat) (v : Value) (c : Cel), zv[i]? = some v → zc[i]? = some c → ∀ w', Own w' g v c (fun _ => False)) :
    ∃ ps, ps.length = n * k ∧ Own w g (.slice (some ⟨g, 0, none⟩) n n) (.l T k n ps) (fun x => x = g) := by
  refine ⟨(List.range (n * k)).map fun j => zc.getD (j % k) (.i 0), by simp, ?_⟩
  have hl := h.1
  refine .l g n T k n _ vs _ (fun _ _ => False) h (by simp) hn (fun j v c hv hc => ?_) (fun _ h => h) (fun _ _ _ _ h => h.elim) (fun x => by simp)
  have hj : j < n * k := by have := (List.getElem?_eq_some_iff.1 hv).1; omega
  have hk0 : 0 < k := by
    rcases Nat.eq_zero_or_pos k with h0 | h0
    · rw [h0] at hj; simp at hj
    · exact h0
  have hm : j % k < zc.length := by rw [hk]; exact Nat.mod_lt _ hk0
  simp [hj] at hc
  subst hc
  refine hzc (j % k) v _ (hz j v hv) ?_ w
  rw [List.getElem?_eq_getElem hm]
  rfl
/-- What a function that makes a struct, or a list, answers. -/
def RetL (w : World) (cs : List Cel) (e : Ending) (w' : World) : Prop := Below w.heap.size w w' ∧ ∃ us S, e = .returned (.agg us.toArray) ∧ OwnL w' w.heap.size us cs S
def Ret (w : World) (c : Cel) (e : Ending) (w' : World) : Prop := Below w.heap.size w w' ∧ ∃ u S, e = .returned u ∧ Own w' w.heap.size u c S
theorem made_at {z : Array Value} {m j : Nat} {v : Value} (h : (madeCells z m).toList[j]? = some v) (hz : 0 < z.size) : z.toList[j % z.size]? = some v := by
  have hj : j < m := by have := (List.getElem?_eq_some_iff.1 h).1; simpa [madeCells] using this
  have hm : j % z.size < z.size := Nat.mod_lt _ hz
  simp [madeCells, hj] at h
  rw [← h]
  simp [hm]
theorem OwnL.app : ∀ {vs : List Value} {cs : List Cel} {w : World} {b : Nat} {vs' : List Value} {cs' : List Cel} {S S' : Nat → Prop}, OwnL w b vs cs S → OwnL w b vs' cs' S' → (∀ x, S x → ¬ S' x) → OwnL w b (vs ++ vs') (cs ++ cs') (fun x => S x ∨ S' x)
  | vs, [], w, b, vs', cs', S, S', h, h', _ => by
    obtain rfl := h.nilE
    have hn : ∀ x, ¬ S x := fun x hx => by
      obtain ⟨_, Ss, _, _, h3⟩ := h
      obtain ⟨j, hj, _⟩ := (h3 x).1 hx
      simp at hj
    obtain ⟨l, Ss, h1, h2, h3⟩ := h'
    exact ⟨l, Ss, h1, h2, fun x => ⟨fun hx => (h3 x).1 (hx.resolve_left (hn x)), fun hx => .inr ((h3 x).2 hx)⟩⟩
  | vs, c :: cs, w, b, vs', cs', S, S', h, h', hd => by
    obtain ⟨v, vs, rfl⟩ := h.consE
    obtain ⟨S0, S1, h0, h1, hd01, hS⟩ := h.parts
    exact OwnL.cons h0 (OwnL.app h1 h' fun x hx => hd x ((hS x).2 (.inr hx))) (fun x hx hx' => by
      rcases hx' with hx' | hx'
      · exact hd01 x hx hx'
      · exact hd x ((hS x).2 (.inl hx)) hx') (fun x => by rw [hS x, or_assoc])
/-- While a struct is made: the argument's box, the answer's, that of what is made; what was made so far. -/
structure Mk (w W : World) (A Z C : Array Value) (TA TO : TypeId) (R : List (List Value × List Cel × (Nat → Prop))) : Prop where
  a : Box W w.heap.size A TA
  z : Box W (w.heap.size + 1) Z TO
  c : Box W (w.heap.size + 1 + 1) C TO
  b : Below w.heap.size w W
  o : ∀ r ∈ R, OwnL W (w.heap.size + 3) r.1 r.2.1 r.2.2
  d : R.Pairwise (fun p q => ∀ x, p.2.2 x → ¬ q.2.2 x)
theorem mk_new (w : World) (A Z C : Array Value) (TA TO : TypeId) : Mk w (((w.alloc (.cells A TA)).alloc (.cells Z TO)).alloc (.cells C TO)) A Z C TA TO [] := by
  refine ⟨((box_of w A TA).alloc _).alloc _, ?_, ?_, (((Below.refl _ w).alloc (Nat.le_refl _) _).alloc (by simp) _).alloc (by simp; omega) _, (fun r hr => by simp at hr), List.Pairwise.nil⟩
  · have := (box_of (w.alloc (.cells A TA)) Z TO).alloc (.cells C TO)
    rwa [World.size_alloc] at this
  · have := box_of ((w.alloc (.cells A TA)).alloc (.cells Z TO)) C TO
    rwa [World.size_alloc, World.size_alloc] at this
theorem Mk.store {w W : World} {A Z C : Array Value} {TA TO : TypeId} {R : List (List Value × List Cel × (Nat → Prop))} (h : Mk w W A Z C TA TO R) (i : Nat) (v : Value) : Mk w (W.setCell ⟨w.heap.size + 1 + 1, i, none⟩ v) A Z (C.setIfInBounds i v) TA TO R :=
  ⟨h.a.set (by simp; omega) v, h.z.set (by simp) v, h.c.put i v, h.b.setCell (by simp; omega) v, fun r hr => (h.o r hr).heap fun x hx => Below.heap_setCell _ _ _ _ (fun e => by
    have e : x = w.heap.size + 1 + 1 := e
    have := ((h.o r hr).lt x hx).1
    omega), h.d⟩
theorem Mk.storeZ {w W : World} {A Z C : Array Value} {TA TO : TypeId} {R : List (List Value × List Cel × (Nat → Prop))} (h : Mk w W A Z C TA TO R) (i : Nat) (v : Value) : Mk w (W.setCell ⟨w.heap.size + 1, i, none⟩ v) A (Z.setIfInBounds i v) C TA TO R :=
  ⟨h.a.set (by simp) v, h.z.put i v, h.c.set (by simp) v, h.b.setCell (by simp) v, fun r hr => (h.o r hr).heap fun x hx => Below.heap_setCell _ _ _ _ (fun e => by
    have e : x = w.heap.size + 1 := e
    have := ((h.o r hr).lt x hx).1
    omega), h.d⟩
theorem Mk.call {w W W' : World} {A Z C : Array Value} {TA TO : TypeId} {R : List (List Value × List Cel × (Nat → Prop))} (h : Mk w W A Z C TA TO R) (hb : Below W.heap.size W W') {us : List Value} {cs : List Cel} {S : Nat → Prop} (o : OwnL W' W.heap.size us cs S) : Mk w W' A Z C TA TO (R ++ [(us, cs, S)]) := by
  have hc := h.c.lt
  have hs := h.b.size
  refine ⟨h.a.below hb h.a.lt, h.z.below hb h.z.lt, h.c.below hb hc, h.b.trans (hb.mono hs), fun r hr => ?_, ?_⟩
  · rcases List.mem_append.1 hr with hr | hr
    · exact (h.o r hr).on hb (Nat.le_refl _)
    · simp at hr
      subst hr
      exact o.weaken (by omega)
  · refine List.pairwise_append.2 ⟨h.d, by simp, fun r hr q hq x hx => ?_⟩
    simp at hq
    subst hq
    intro hx'
    have h1 := ((h.o r hr).lt x hx).2
    have h2 := (o.lt x hx').1
    omega
theorem Mk.call1 {w W W' : World} {A Z C : Array Value} {TA TO : TypeId} {R : List (List Value × List Cel × (Nat → Prop))} (h : Mk w W A Z C TA TO R) (hb : Below W.heap.size W W') {u : Value} {c : Cel} {S : Nat → Prop} (o : Own W' W.heap.size u c S) : Mk w W' A Z C TA TO (R ++ [([u], [c], S)]) :=
  h.call hb (OwnL.cons o (OwnL.nil (S := fun _ => False) (fun _ h => h)) (fun _ _ h => h) (fun _ => by simp))
theorem Mk.num {w W : World} {A Z C : Array Value} {TA TO : TypeId} {R : List (List Value × List Cel × (Nat → Prop))} (h : Mk w W A Z C TA TO R) {v : Value} {c : Cel} (hv : ∀ base, Own W base v c (fun _ => False)) : Mk w W A Z C TA TO (R ++ [([v], [c], fun _ => False)]) := by
  refine ⟨h.a, h.z, h.c, h.b, fun r hr => ?_, ?_⟩
  · rcases List.mem_append.1 hr with hr | hr
    · exact h.o r hr
    · simp at hr
      subst hr
      exact OwnL.cons (hv _) (OwnL.nil (S := fun _ => False) (fun _ h => h)) (fun _ h => h.elim) (fun _ => by simp)
  · refine List.pairwise_append.2 ⟨h.d, by simp, fun r hr q hq x hx => ?_⟩
    simp at hq
    subst hq
    exact fun h => h
theorem owns_all {W : World} {b : Nat} : ∀ {R : List (List Value × List Cel × (Nat → Prop))}, (∀ r ∈ R, OwnL W b r.1 r.2.1 r.2.2) → R.Pairwise (fun p q => ∀ x, p.2.2 x → ¬ q.2.2 x) → OwnL W b (R.flatMap (·.1)) (R.flatMap (·.2.1)) (fun x => ∃ r ∈ R, r.2.2 x)
  | [], _, _ => OwnL.nil (fun x h => by simp at h)
  | r :: R, h, hd => by
    have hp := List.pairwise_cons.1 hd
    have h1 := OwnL.app (h r (by simp)) (owns_all (fun q hq => h q (by simp [hq])) hp.2) (fun x hx ⟨q, hq, hx'⟩ => hp.1 q hq x hx hx')
    obtain ⟨l, Ss, g1, g2, g3⟩ := h1
    refine ⟨l, Ss, g1, g2, fun x => ?_⟩
    exact Iff.trans (by simp) (g3 x)
theorem Mk.all {w W : World} {A Z C : Array Value} {TA TO : TypeId} {R : List (List Value × List Cel × (Nat → Prop))} (h : Mk w W A Z C TA TO R) : OwnL W w.heap.size (R.flatMap (·.1)) (R.flatMap (·.2.1)) (fun x => ∃ r ∈ R, r.2.2 x) := (owns_all h.o h.d).weaken (by omega)
def Yes (w : World) (e : Ending) (w' : World) : Prop := e = .returned (.bool true) ∧ Below w.heap.size w w'
/-- While two structs are compared: their boxes. -/
structure Two (w W : World) (A B : Array Value) (T : TypeId) : Prop where
  a : Box W w.heap.size A T
  b : Box W (w.heap.size + 1) B T
  on : Below w.heap.size w W
theorem two_new (w : World) (A B : Array Value) (T : TypeId) : Two w ((w.alloc (.cells A T)).alloc (.cells B T)) A B T := by
  refine ⟨(box_of w A T).alloc _, ?_, ((Below.refl _ w).alloc (Nat.le_refl _) _).alloc (by simp) _⟩
  have := box_of (w.alloc (.cells A T)) B T
  rwa [World.size_alloc] at this
theorem Two.call {w W W' : World} {A B : Array Value} {T : TypeId} (h : Two w W A B T) (hb : Below W.heap.size W W') : Two w W' A B T :=
  ⟨h.a.below hb h.a.lt, h.b.below hb h.b.lt, h.on.trans (hb.mono h.on.size)⟩
end Go.Proofs.YtkbodiggdajbeaaDoor

/- Data that came in, of any length; how great it is. No program. -/
namespace Go.Proofs.YtkbodiggdajbeaaDoor
open Go.ChangeShapes Go.WideShapes Go.ChangeAt Go.RowKit Go.Joins

/-- Data that came in: lists of any length. -/
inductive In (w : World) : Value → Cel → Prop
  | i (x : Int) : In w (.int .i64 x) (.i x)
  | b (x : Bool) : In w (.bool x) (.b x)
  | s (x : ByteArray) : In w (.string x) (.s x)
  | l (a : Option Addr) (T : TypeId) (k n c : Nat) (cs : List Cel) (vs : List Value) (h1 : vs.length = n * k) (h2 : cs.length = n * k) (hn : n ≤ 9223372036854775807)
      (h3 : n = 0 ∨ ∃ b o, a = some ⟨b, o, none⟩ ∧ ∀ j, j < n * k → w.cell? ⟨b, o + j, none⟩ = vs[j]?) (h4 : ∀ (j : Nat) (v : Value) (c : Cel), vs[j]? = some v → cs[j]? = some c → In w v c) : In w (.slice a n c) (.l T k n cs)
def InL (w : World) (vs : List Value) (cs : List Cel) : Prop := vs.length = cs.length ∧ ∀ (j : Nat) (v : Value) (c : Cel), vs[j]? = some v → cs[j]? = some c → In w v c
theorem In.on {w w' : World} {v : Value} {c : Cel} (h : In w v c) {B : Nat} (hb : Below B w w') (hB : w.heap.size ≤ B) : In w' v c := by
  induction h with
  | i x => exact .i x
  | b x => exact .b x
  | s x => exact .s x
  | l a T k n c cs vs h1 h2 hn h3 h4 ih =>
    refine .l a T k n c cs vs h1 h2 hn ?_ ih
    rcases h3 with h3 | ⟨b, o, e, g⟩
    · exact .inl h3
    · refine .inr ⟨b, o, e, fun j hj => ?_⟩
      have h5 := g j hj
      have h6 : w.cell? ⟨b, o + j, none⟩ = some (vs[j]'(by omega)) := by rw [h5, List.getElem?_eq_getElem (by omega)]
      rw [hb.cell (show b < B from Nat.lt_of_lt_of_le (World.block_lt_of_cell? w _ h6) hB)]
      exact h5
theorem InL.on {w w' : World} {vs : List Value} {cs : List Cel} (h : InL w vs cs) {B : Nat} (hb : Below B w w') (hB : w.heap.size ≤ B) : InL w' vs cs :=
  ⟨h.1, fun j v c hv hc => (h.2 j v c hv hc).on hb hB⟩
theorem big_mem : ∀ {cs : List Cel} {j : Nat} {c : Cel}, cs[j]? = some c → c.big ≤ bigL cs
  | [], _, _, h => by simp at h
  | d :: cs, 0, c, h => by simp at h; subst h; simp [bigL]
  | d :: cs, j + 1, c, h => by
    have := big_mem (cs := cs) (j := j) (by simpa using h)
    simp only [bigL]; omega
/-- What came in and is not too great can be read. -/
theorem In.at {w : World} {v : Value} {c : Cel} (h : In w v c) (hb : c.big ≤ 2097152) : At false w v c := by
  induction h with
  | i x => exact .i x
  | b x => exact .b x
  | s x => exact .s x
  | l a T k n c cs vs h1 h2 hn h3 h4 ih =>
    simp only [Cel.big] at hb
    exact .l a T k n c cs vs h1 h2 (by omega) (fun h => by cases h) h3 fun j v c hv hc => ih j v c hv hc (by have := big_mem hc; omega)
theorem InL.at {w : World} {vs : List Value} {cs : List Cel} (h : InL w vs cs) (hb : bigL cs ≤ 2097152) : AtL false w vs cs :=
  ⟨h.1, fun j v c hv hc => (h.2 j v c hv hc).at (by have := big_mem hc; omega)⟩
theorem InL.nil {w : World} : InL w [] [] := ⟨rfl, fun j v c hv _ => by simp at hv⟩
theorem InL.cons {w : World} {v : Value} {c : Cel} {vs : List Value} {cs : List Cel} (h : In w v c) (hs : InL w vs cs) : InL w (v :: vs) (c :: cs) := by
  refine ⟨by simp [hs.1], fun j v' c' hv hc => ?_⟩
  cases j with
  | zero => simp at hv hc; subst hv hc; exact h
  | succ j => simp at hv hc; exact hs.2 j v' c' hv hc
theorem InL.nilE {w : World} {vs : List Value} (h : InL w vs []) : vs = [] := List.length_eq_zero_iff.1 h.1
theorem InL.consE {w : World} {vs : List Value} {c : Cel} {cs : List Cel} (h : InL w vs (c :: cs)) : ∃ v vs', vs = v :: vs' ∧ In w v c ∧ InL w vs' cs := by
  match vs, h with
  | [], h => have := h.1; simp at this
  | v :: vs', h => exact ⟨v, vs', rfl, h.2 0 v c rfl rfl, ⟨by have := h.1; simpa using this, fun j v' c' hv hc => h.2 (j + 1) v' c' (by simpa using hv) (by simpa using hc)⟩⟩
theorem In.int {w : World} {v : Value} {x : Int} (h : In w v (.i x)) : v = .int .i64 x := by cases h; rfl
theorem In.bool {w : World} {v : Value} {x : Bool} (h : In w v (.b x)) : v = .bool x := by cases h; rfl
theorem In.str {w : World} {v : Value} {x : ByteArray} (h : In w v (.s x)) : v = .string x := by cases h; rfl
theorem In.openL {w : World} {v : Value} {T : TypeId} {k n : Nat} {cs : List Cel} (h : In w v (.l T k n cs)) : ∃ (a : Option Addr) (c : Nat) (vs : List Value), v = .slice a n c ∧ vs.length = n * k ∧ cs.length = n * k ∧ n ≤ 9223372036854775807 ∧
    (n = 0 ∨ ∃ b o, a = some ⟨b, o, none⟩ ∧ ∀ j, j < n * k → w.cell? ⟨b, o + j, none⟩ = vs[j]?) ∧ ∀ (j : Nat) (v : Value) (c : Cel), vs[j]? = some v → cs[j]? = some c → In w v c := by
  cases h with
  | l a T k n c cs vs h1 h2 hn h3 h4 => exact ⟨a, c, vs, rfl, h1, h2, hn, h3, h4⟩
theorem rowIn {w : World} {k n j : Nat} {cs : List Cel} {vs : List Value} (h1 : vs.length = n * k) (h2 : cs.length = n * k) (h4 : ∀ (j : Nat) (v : Value) (c : Cel), vs[j]? = some v → cs[j]? = some c → In w v c) (hj : j < n) : InL w ((vs.drop (j * k)).take k) (row cs k j) := by
  have hle : j * k + k ≤ n * k := by rw [← Nat.succ_mul]; exact Nat.mul_le_mul_right k hj
  refine ⟨by rw [rowL_len h2 hj, List.length_take, List.length_drop, h1]; omega, fun i v c hv hc => ?_⟩
  have hi : i < k := by have := (List.getElem?_eq_some_iff.1 hc).1; rw [rowL_len h2 hj] at this; exact this
  rw [row_at hi] at hc
  rw [List.getElem?_take_of_lt hi, List.getElem?_drop] at hv
  exact h4 _ v c hv hc
def Ty.flat : Ty → Bool
  | .i => true
  | .b => true
  | _ => false
theorem bigL_zero : ∀ {cs : List Cel}, (∀ (j : Nat) (c : Cel), cs[j]? = some c → c.big = 0) → bigL cs = 0
  | [], _ => rfl
  | c :: cs, h => by
    have h0 := h 0 c rfl
    have h1 := bigL_zero (cs := cs) fun j c' hc => h (j + 1) c' (by simpa using hc)
    simp only [bigL]; omega
theorem big_flat {T : TypeId} {k n : Nat} {cs : List Cel} {fs : List Ty} (h : Has (.l T k n cs) (.l T k fs)) (hf : fs.all Ty.flat = true) : bigL cs = 0 := by
  cases h with
  | l _ _ _ _ _ hk h1 h2 =>
    refine bigL_zero fun j c hc => ?_
    have hj : j < n * k := by have := (List.getElem?_eq_some_iff.1 hc).1; omega
    have hk0 : 0 < k := by
      rcases Nat.eq_zero_or_pos k with h0 | h0
      · rw [h0] at hj; simp at hj
      · exact h0
    have hm : j % k < fs.length := by rw [hk]; exact Nat.mod_lt _ hk0
    have ht : fs[j % k]? = some (fs[j % k]'hm) := List.getElem?_eq_getElem hm
    have h3 := h2 j c _ hc ht
    have h4 : Ty.flat (fs[j % k]'hm) = true := (List.all_eq_true.1 hf) _ (List.getElem_mem hm)
    revert h3 h4
    generalize fs[j % k]'hm = t
    intro h3 h4
    cases h3 <;> simp [Ty.flat, Cel.big] at h4 ⊢
def Left (w : World) (m : Nat) (l : Int) (e : Ending) (w' : World) : Prop := Below w.heap.size w w' ∧ ((∃ r : Int, e = .returned (.int .i64 r) ∧ (m : Int) ≤ l ∧ r = l - (m : Int)) ∨ (e = .returned (.int .i64 (-1)) ∧ l < (m : Int)))
/-- While a struct is gone through: its box. -/
structure One (w W : World) (A : Array Value) (T : TypeId) : Prop where
  a : Box W w.heap.size A T
  on : Below w.heap.size w W
theorem one_new (w : World) (A : Array Value) (T : TypeId) : One w (w.alloc (.cells A T)) A T := ⟨box_of w A T, (Below.refl _ w).alloc (Nat.le_refl _) _⟩
theorem One.call {w W W' : World} {A : Array Value} {T : TypeId} (h : One w W A T) (hb : Below W.heap.size W W') : One w W' A T := ⟨h.a.below hb h.a.lt, h.on.trans (hb.mono h.on.size)⟩
end Go.Proofs.YtkbodiggdajbeaaDoor
