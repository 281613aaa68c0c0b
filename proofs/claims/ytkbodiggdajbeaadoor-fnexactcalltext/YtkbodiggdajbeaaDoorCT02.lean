/- Texts joined: Parts, Shelf, ImplDig, ShelfB, ImplSh, TabS, Dig, SpecNums, StrAt, KeyOk, ValOk, SpecOp, SpecTx, ResV, SpecTx2, SpecTx3, Tab14. -/
import Derived.Test.YtkbodiggdajbeaaDoorCT01
import Derived.WalkKit
import Derived.WalkSmall
import Derived.ProofKit
import Derived.Below
import Derived.Lib.Builder
import Derived.Lib.ItoaNum
import Derived.Shelf.Strings.Builder1
import Derived.Shelf.Strings.Builder2
import Derived.Shelf.Strings.OnBuilder
import Derived.Shelf.Strconv.Itoa0
import Derived.Shelf.Strconv.Itoa1
import Derived.Shelf.LaysM
import Derived.Shelf.Strconv.Itoa2
import Derived.Shelf.Strconv.Itoa3
import Derived.Test.YtkbodiggdajbeaaDoorProg
import Derived.Test.YtkbodiggdajbeaaDoorRows
import Derived.Lib.LaidTab
import Derived.Lib.SmallJoins
import Derived.Deep.Cut
import Derived.ChangeArms
import Derived.ChangeVars
import Derived.ChangeReads
import Derived.LaidMore
import Derived.Laws.BytesArg
import Derived.Deep.RegionWith
import Derived.Deep.RegionHeld3
import Derived.Handy
import Derived.KernelRfl
/- Parts of what is shown, as data: numbers, pieces, lines; a list of them as it lies in memory. -/
namespace Go.Proofs.YtkbodiggdajbeaaDoor
open Go.ChangeShapes Go.WideShapes Go.ChangeAt Go.RowKit
open Go.Lib (itoa IsBuilder BuilderAt byteCells strCells byteCells_length strCells_eq byteCells_append fresh_isBuilder)

inductive Pt where
  | num (n : Int)
  | pc (s : ByteArray)
  | ln (s : ByteArray)
/-- A part as the program has it. -/
def ptV : Pt → Value
  | .num n => .iface 53 (.int .i64 n)
  | .pc s => .iface 54 (.string s)
  | .ln s => .iface 79 (.string s)
/-- What a part tells. -/
def ptB : Pt → List UInt8
  | .num n => itoa n
  | .pc s => s.data.toList
  | .ln s => s.data.toList ++ [10]
def PtOk : Pt → Prop
  | .num n => -9223372036854775808 ≤ n ∧ n ≤ 9223372036854775807
  | _ => True
def shownB (ps : List Pt) : List UInt8 := ps.flatMap ptB
theorem shown_succ {ps : List Pt} {j : Nat} {x : Pt} (h : ps[j]? = some x) : shownB (ps.take (j + 1)) = shownB (ps.take j) ++ ptB x := by
  have hj : j < ps.length := (List.getElem?_eq_some_iff.1 h).1
  have hx : ps[j] = x := (List.getElem?_eq_some_iff.1 h).2
  unfold shownB
  rw [List.take_succ_eq_append_getElem hj, List.flatMap_append, hx]
  simp
theorem shown_le (ps : List Pt) (j : Nat) : (shownB (ps.take j)).length ≤ (shownB ps).length := by
  have h : shownB ps = shownB (ps.take j) ++ shownB (ps.drop j) := by
    unfold shownB
    rw [← List.flatMap_append, List.take_append_drop]
  rw [h, List.length_append]
  omega
/-- n parts lie there. -/
def PtsAt (w : World) (a : Option Addr) (n : Nat) (ps : List Pt) : Prop :=
  ps.length = n ∧ (n = 0 ∨ ∃ b o, a = some ⟨b, o, none⟩ ∧ ∀ i x, ps[i]? = some x → w.cell? ⟨b, o + i, none⟩ = some (ptV x))
theorem PtsAt.below {w w' : World} {a : Option Addr} {n : Nat} {ps : List Pt} (h : PtsAt w a n ps) {B : Nat} (hb : Below B w w') (hB : w.heap.size ≤ B) : PtsAt w' a n ps := by
  obtain ⟨h1, h2 | ⟨b, o, h3, h4⟩⟩ := h
  · exact ⟨h1, .inl h2⟩
  · refine ⟨h1, .inr ⟨b, o, h3, fun i x hi => ?_⟩⟩
    have h5 := h4 i x hi
    rw [hb.cell (show b < B from Nat.lt_of_lt_of_le (World.block_lt_of_cell? w _ h5) hB)]
    exact h5
theorem Box.pts {w : World} {b : Nat} {T : TypeId} {ps : List Pt} (h : Box w b (ps.map ptV).toArray T) : PtsAt w (some ⟨b, 0, none⟩) ps.length ps := by
  refine ⟨rfl, .inr ⟨b, 0, rfl, fun i x hi => ?_⟩⟩
  rw [Nat.zero_add, h.cell i]
  simp [hi]
theorem own_pts {w : World} {base : Nat} {e : TypeId} {v : Value} {n : Nat} {ps : List Pt} (h : w.ownsRow base e 1 v n (ps.map ptV)) (hn : ps.length = n) : ∃ a c, v = .slice a n c ∧ n ≤ c ∧ PtsAt w a n ps := by
  obtain ⟨a, c, rfl, hc⟩ := owns_slice h
  rcases owns_forms h with ⟨h2, h3⟩ | ⟨g, cap, hv⟩
  · exact ⟨a, c, rfl, hc, hn, .inl (by omega)⟩
  · cases hv
    refine ⟨_, _, rfl, hc, hn, .inr ⟨g, 0, rfl, fun i x hi => ?_⟩⟩
    have hlt : i < ps.length := (List.getElem?_eq_some_iff.1 hi).1
    rw [Nat.zero_add, h.cellAt i (by omega), List.getElem?_map, hi]
    rfl
end Go.Proofs.YtkbodiggdajbeaaDoor

/- Contracts of the library's functions, proved once by the kit over any program, laid at this translation: strconv_Itoa, strings_Join, Builder_WriteString, Builder_WriteByte, Builder_String_any. -/
namespace Go.Proofs
open Go.Shelf
def Tryd.lays169_ren : Go.Shelf.Ren := ⟨fun | 169 => 38 | n => n, fun | 70 => 69 | 9 => 9 | 0 => 0 | 72 => 71 | 37 => 62 | 127 => 86 | 3 => 3 | 5 => 5 | n => n, fun | n => n⟩
theorem Tryd.lays169 : Go.Proofs.Lays.n169 Tryd.prog Tryd.lays169_ren := {
  mixed := by kernel_rfl
  f169 := Tryd.func38.trans (congrArg some (by kernel_rfl))
  t0 := Tryd.underlying0
  a0 := Tryd.isAgg0
  z0 := Tryd.sizeOf0
  v0 := Tryd.zeroValue0
  t3 := Tryd.underlying3
  a3 := Tryd.isAgg3
  z3 := Tryd.sizeOf3
  v3 := Tryd.zeroValue3
  t9 := Tryd.underlying9
  a9 := Tryd.isAgg9
  z9 := Tryd.sizeOf9
  v9 := Tryd.zeroValue9
  t37 := Tryd.underlying62
  a37 := Tryd.isAgg62
  z37 := Tryd.sizeOf62
  v37 := Tryd.zeroValue62
  t70 := Tryd.underlying69
  a70 := Tryd.isAgg69
  z70 := Tryd.sizeOf69
  v70 := Tryd.zeroValue69
  t72 := Tryd.underlying71
  a72 := Tryd.isAgg71
  z72 := Tryd.sizeOf71
  v72 := Tryd.zeroValue71
  t127 := Tryd.underlying86
  a127 := Tryd.isAgg86
  z127 := Tryd.sizeOf86
  v127 := Tryd.zeroValue86 }
theorem Tryd.Builder_Extra_169 : Builder.Extra Tryd.prog Tryd.lays169_ren := {
  sizeBuilder := by kernel_rfl
  liesBuilder := by kernel_rfl
  t5 := Tryd.underlying5
  a5 := Tryd.isAgg5
  z5 := Tryd.sizeOf5
  v5 := Tryd.zeroValue5
  infoByte := by kernel_rfl
  cellsByte := by kernel_rfl
  sizeByte := by kernel_rfl
  neB5 := by decide }
open Go.RowKit in
/-- (*strings.Builder).String: "String returns the accumulated string.": WHATEVER THE BUILDER HOLDS. (LAID: no walk: one application.) -/
theorem Tryd.Builder_String_any (B b : Nat) (l : List UInt8) (w : World) (h : Lib.IsBuilder 71 5 B b (Lib.byteCells l) w) (hBw : B ≤ w.heap.size) :
    Calls Tryd.prog 38 #[.pointer (some ⟨b, 0, none⟩)] w fun e w' => e = .returned (.string ⟨l.toArray⟩) ∧ Below B w w' := Any.Builder_String_any Tryd.lays169 Tryd.Builder_Extra_169 B b l w h hBw
def Tryd.lays156_ren : Go.Shelf.Ren := ⟨fun | 156 => 44 | 165 => 51 | 166 => 36 | 169 => 38 | 240 => 47 | 241 => 54 | 276 => 52 | 277 => 56 | n => n, fun | 31 => 64 | 9 => 9 | 3 => 3 | 4 => 4 | 0 => 0 | 20 => 20 | 72 => 71 | 76 => 76 | 70 => 69 | 37 => 62 | 75 => 75 | 127 => 86 | 164 => 93 | 5 => 5 | 80 => 78 | n => n, fun | n => n⟩
theorem Tryd.lays156 : Go.Proofs.Lays.n156 Tryd.prog Tryd.lays156_ren := {
  mixed := by kernel_rfl
  f156 := Tryd.func44.trans (congrArg some (by kernel_rfl))
  f165 := Tryd.func51.trans (congrArg some (by kernel_rfl))
  f166 := Tryd.func36.trans (congrArg some (by kernel_rfl))
  f169 := Tryd.func38.trans (congrArg some (by kernel_rfl))
  f240 := Tryd.func47.trans (congrArg some (by kernel_rfl))
  f241 := Tryd.func54.trans (congrArg some (by kernel_rfl))
  f276 := Tryd.func52.trans (congrArg some (by kernel_rfl))
  f277 := Tryd.func56.trans (congrArg some (by kernel_rfl))
  t0 := Tryd.underlying0
  a0 := Tryd.isAgg0
  z0 := Tryd.sizeOf0
  v0 := Tryd.zeroValue0
  t3 := Tryd.underlying3
  a3 := Tryd.isAgg3
  z3 := Tryd.sizeOf3
  v3 := Tryd.zeroValue3
  t4 := Tryd.underlying4
  a4 := Tryd.isAgg4
  z4 := Tryd.sizeOf4
  v4 := Tryd.zeroValue4
  t9 := Tryd.underlying9
  a9 := Tryd.isAgg9
  z9 := Tryd.sizeOf9
  v9 := Tryd.zeroValue9
  t20 := Tryd.underlying20
  a20 := Tryd.isAgg20
  z20 := Tryd.sizeOf20
  v20 := Tryd.zeroValue20
  t31 := Tryd.underlying64
  a31 := Tryd.isAgg64
  z31 := Tryd.sizeOf64
  v31 := Tryd.zeroValue64
  t37 := Tryd.underlying62
  a37 := Tryd.isAgg62
  z37 := Tryd.sizeOf62
  v37 := Tryd.zeroValue62
  t70 := Tryd.underlying69
  a70 := Tryd.isAgg69
  z70 := Tryd.sizeOf69
  v70 := Tryd.zeroValue69
  t72 := Tryd.underlying71
  a72 := Tryd.isAgg71
  z72 := Tryd.sizeOf71
  v72 := Tryd.zeroValue71
  t75 := Tryd.underlying75
  a75 := Tryd.isAgg75
  z75 := Tryd.sizeOf75
  v75 := Tryd.zeroValue75
  t76 := Tryd.underlying76
  a76 := Tryd.isAgg76
  z76 := Tryd.sizeOf76
  v76 := Tryd.zeroValue76
  t127 := Tryd.underlying86
  a127 := Tryd.isAgg86
  z127 := Tryd.sizeOf86
  v127 := Tryd.zeroValue86
  t164 := Tryd.underlying93
  a164 := Tryd.isAgg93
  z164 := Tryd.sizeOf93
  v164 := Tryd.zeroValue93 }
theorem Tryd.Builder_Extra_156 : Builder.Extra Tryd.prog Tryd.lays156_ren := {
  sizeBuilder := by kernel_rfl
  liesBuilder := by kernel_rfl
  t5 := Tryd.underlying5
  a5 := Tryd.isAgg5
  z5 := Tryd.sizeOf5
  v5 := Tryd.zeroValue5
  infoByte := by kernel_rfl
  cellsByte := by kernel_rfl
  sizeByte := by kernel_rfl
  neB5 := by decide }
open Go.RowKit in
/-- strings.Join: "Join concatenates the elements of its first argument to create a single string. The separator string sep is placed between elements in the resulting string.": HOWEVER MANY ELEMENTS. Below the heap's end the world is as it was. (LAID: no walk: one application.) -/
theorem Tryd.strings_Join (bk o c : Nat) (xs : List ByteArray) (sep : ByteArray) (w : World) (hcells : ∀ (j : Nat) x, xs[j]? = some x → w.cell? ⟨bk, o + j, none⟩ = some (.string x)) (hbk : bk < w.heap.size) (hN : xs.length ≤ 140737488355328) (hcap : xs.length ≤ c) (hlen : (Lib.join (xs.map (·.data.toList)) sep.data.toList).length ≤ 140737488355328) :
    Calls Tryd.prog 44 #[.slice (some ⟨bk, o, none⟩) xs.length c, .string sep] w fun e w' => e = .returned (.string ⟨(Lib.join (xs.map (·.data.toList)) sep.data.toList).toArray⟩) ∧ Below w.heap.size w w' := Any.strings_Join Tryd.lays156 Tryd.Builder_Extra_156 bk o c xs sep w hcells hbk hN hcap hlen
def Tryd.laysM171_ren : Go.Shelf.Ren := ⟨fun | 171 => 49 | 243 => 53 | 246 => 55 | 283 => 57 | 284 => 58 | 285 => 59 | 286 => 60 | 129 => 62 | 317 => 61 | 318 => 63 | 319 => 64 | 320 => 65 | 337 => 66 | 338 => 67 | n => n, fun | 3 => 3 | 9 => 9 | 2 => 2 | 4 => 4 | 171 => 108 | 0 => 0 | 53 => 109 | 37 => 62 | 5 => 5 | 173 => 112 | 212 => 116 | 51 => 117 | 20 => 20 | 213 => 118 | 46 => 119 | 232 => 122 | 233 => 123 | n => n, fun | 17 => 3 | 18 => 4 | 19 => 5 | n => n⟩
theorem Tryd.laysM171 : Go.Proofs.LaysM.n171 Tryd.prog Tryd.laysM171_ren := {
  mixed := by kernel_rfl
  f129 := Tryd.func62.trans (congrArg some (by kernel_rfl))
  f171 := Tryd.func49.trans (congrArg some (by kernel_rfl))
  f243 := Tryd.func53.trans (congrArg some (by kernel_rfl))
  f246 := Tryd.func55.trans (congrArg some (by kernel_rfl))
  f283 := Tryd.func57.trans (congrArg some (by kernel_rfl))
  f284 := Tryd.func58.trans (congrArg some (by kernel_rfl))
  f285 := Tryd.func59.trans (congrArg some (by kernel_rfl))
  f286 := Tryd.func60.trans (congrArg some (by kernel_rfl))
  f317 := Tryd.func61.trans (congrArg some (by kernel_rfl))
  f318 := Tryd.func63.trans (congrArg some (by kernel_rfl))
  f319 := Tryd.func64.trans (congrArg some (by kernel_rfl))
  f320 := Tryd.func65.trans (congrArg some (by kernel_rfl))
  f337 := Tryd.func66.trans (congrArg some (by kernel_rfl))
  f338 := Tryd.func67.trans (congrArg some (by kernel_rfl))
  t0 := Tryd.underlying0
  a0 := Tryd.isAgg0
  z0 := Tryd.sizeOf0
  v0 := Tryd.zeroValue0
  t2 := Tryd.underlying2
  a2 := Tryd.isAgg2
  z2 := Tryd.sizeOf2
  v2 := Tryd.zeroValue2
  t3 := Tryd.underlying3
  a3 := Tryd.isAgg3
  z3 := Tryd.sizeOf3
  v3 := Tryd.zeroValue3
  t4 := Tryd.underlying4
  a4 := Tryd.isAgg4
  z4 := Tryd.sizeOf4
  v4 := Tryd.zeroValue4
  t5 := Tryd.underlying5
  a5 := Tryd.isAgg5
  z5 := Tryd.sizeOf5
  v5 := Tryd.zeroValue5
  t9 := Tryd.underlying9
  a9 := Tryd.isAgg9
  z9 := Tryd.sizeOf9
  v9 := Tryd.zeroValue9
  t20 := Tryd.underlying20
  a20 := Tryd.isAgg20
  z20 := Tryd.sizeOf20
  v20 := Tryd.zeroValue20
  t37 := Tryd.underlying62
  a37 := Tryd.isAgg62
  z37 := Tryd.sizeOf62
  v37 := Tryd.zeroValue62
  t46 := Tryd.underlying119
  a46 := Tryd.isAgg119
  z46 := Tryd.sizeOf119
  v46 := Tryd.zeroValue119
  t51 := Tryd.underlying117
  a51 := Tryd.isAgg117
  z51 := Tryd.sizeOf117
  v51 := Tryd.zeroValue117
  t53 := Tryd.underlying109
  a53 := Tryd.isAgg109
  z53 := Tryd.sizeOf109
  v53 := Tryd.zeroValue109
  t171 := Tryd.underlying108
  a171 := Tryd.isAgg108
  z171 := Tryd.sizeOf108
  v171 := Tryd.zeroValue108
  t173 := Tryd.underlying112
  a173 := Tryd.isAgg112
  z173 := Tryd.sizeOf112
  v173 := Tryd.zeroValue112
  t212 := Tryd.underlying116
  a212 := Tryd.isAgg116
  z212 := Tryd.sizeOf116
  v212 := Tryd.zeroValue116
  t213 := Tryd.underlying118
  a213 := Tryd.isAgg118
  z213 := Tryd.sizeOf118
  t232 := Tryd.underlying122
  a232 := Tryd.isAgg122
  z232 := Tryd.sizeOf122
  v232 := Tryd.zeroValue122
  t233 := Tryd.underlying123
  a233 := Tryd.isAgg123
  z233 := Tryd.sizeOf123
  v233 := Tryd.zeroValue123
  g17 := by kernel_rfl
  g18 := by kernel_rfl
  g19 := by kernel_rfl
  i0 := by kernel_rfl
  i2 := by kernel_rfl
  i3 := by kernel_rfl
  i4 := by kernel_rfl
  i5 := by kernel_rfl
  i9 := by kernel_rfl
  i20 := by kernel_rfl
  i37 := by kernel_rfl
  i46 := by kernel_rfl
  i51 := by kernel_rfl
  i53 := by kernel_rfl
  i171 := by kernel_rfl
  i173 := by kernel_rfl
  i212 := by kernel_rfl
  i232 := by kernel_rfl
  i233 := by kernel_rfl
  m17 := by kernel_rfl
  m18 := by kernel_rfl
  m19 := by kernel_rfl }
open Go.RowKit Go.Sort Go.Lib in
/-- strconv.Itoa: "Itoa is equivalent to FormatInt(int64(i), 10).": i's DECIMAL NUMERAL ('Lib.itoa': a '-' where i is negative, then the digits), FOR EVERY int. The world behind the call: the world before it, new blocks behind the heap (the library's 'var a [24]byte'), draws. (LAID: no walk: one application.) -/
theorem Tryd.strconv_Itoa (n : Int) (h0 : -9223372036854775808 ≤ n) (h1 : n ≤ 9223372036854775807) (w : World) (htab : Lib.TabIs Tryd.prog w "internal/strconv.uint64pow10" .u64 Lib.pow10Tab) :
    Calls Tryd.prog 49 #[.int .i64 n] w fun e w' => e = .returned (.string ⟨(Lib.itoa n).toArray⟩) ∧ ∃ k os, w' = grow (w.drewN k) os := Any.strconv_Itoa Tryd.laysM171 n h0 h1 w htab
end Go.Proofs

/- The program's Digits, walked by the library's contract of strconv.Itoa: it hands back the decimal numeral of its argument; and what the listed table of powers of ten is. -/
namespace Go.Proofs.YtkbodiggdajbeaaDoor
open Go.ChangeShapes Go.WideShapes Go.ChangeAt Go.RowKit

theorem grow_below (w : World) (k : Nat) (os : Array Obj) : Below w.heap.size w (Sort.grow (w.drewN k) os) := by
  refine ⟨rfl, rfl, rfl, ?_, fun i hi => ?_⟩
  · show w.heap.size ≤ (w.heap ++ os).size
    simp
  · show (w.heap ++ os)[i]? = _
    rw [Array.getElem?_append_left hi]

/-- The program's Digits. -/
theorem implDigits_any (n : Int) (h0 : -9223372036854775808 ≤ n) (h1 : n ≤ 9223372036854775807) (w : World) (htab : Lib.TabIs Tryd.prog w "internal/strconv.uint64pow10" .u64 Lib.pow10Tab) :
    Calls Tryd.prog 41 #[.int .i64 n] w fun e w' => e = .returned (.string ⟨(Lib.itoa n).toArray⟩) ∧ Below w.heap.size w w' := by
  go_enter Tryd.func41, Tryd.ntmps41
  go_wp2_with (go_at_call 49; refine (Tryd.strconv_Itoa n h0 h1 _ htab).mono ?_; rintro e w' ⟨rfl, k, os, rfl⟩)
  go_ret
  exact ⟨rfl, grow_below _ _ _⟩

theorem gTab : Tryd.prog.globalNamed "internal/strconv.uint64pow10" = some 3 := by kernel_rfl
theorem tTab : (Tryd.prog.globals[3]?).map (·.type) = some 116 := by kernel_rfl
theorem cTab : Tryd.prog.cellsOf 116 = 20 := by kernel_rfl
theorem cU64 : Tryd.prog.cellsOf 109 = 1 := by kernel_rfl
theorem tab_is : (Rows.laid_internal_strconv_uint64pow10 : DataW Unit) = Lib.tabData .u64 Lib.pow10Tab := by kernel_rfl
end Go.Proofs.YtkbodiggdajbeaaDoor

/- (*strings.Builder).WriteString and WriteByte, by the library's contracts: the kit's own laying of these two falls (a type that their bodies do not name), so they go by the laying of strings.Join, whose closure holds them. -/
namespace Go.Proofs
open Go.Shelf Go.RowKit

def Tryd.lays167_ren : Go.Shelf.Ren := ⟨fun | 167 => 37 | n => Tryd.lays156_ren.f n, Tryd.lays156_ren.t, Tryd.lays156_ren.g⟩
theorem Tryd.Builder_WriteString (B b : Nat) (bs : List Value) (s : ByteArray) (w : World) (h : Lib.IsBuilder 71 5 B b bs w) (hlen : bs.length + s.size ≤ 140737488355328) (hBw : B ≤ w.heap.size) :
    Calls Tryd.prog 36 #[.pointer (some ⟨b, 0, none⟩), .string s] w fun e w' => e = .returned (.tuple #[.int .i64 s.size, .nilIface]) ∧ (Lib.BuilderAt 71 5 B b (.pointer (some ⟨b, 0, none⟩)) (bs ++ Lib.strCells s) w' ∧ Below B w w') :=
  Any.Builder_WriteString (ρ := Tryd.lays156_ren) { Tryd.lays156, Tryd.Builder_Extra_156 with } Tryd.Builder_Extra_156 B b bs s w h hlen hBw
set_option maxRecDepth 100000 in
theorem Tryd.lays167 : Go.Proofs.Lays.n167 Tryd.prog Tryd.lays167_ren := {
  mixed := Tryd.lays156.mixed
  f240 := Tryd.lays156.f240
  f276 := Tryd.lays156.f276
  t0 := Tryd.lays156.t0
  a0 := Tryd.lays156.a0
  z0 := Tryd.lays156.z0
  v0 := Tryd.lays156.v0
  t4 := Tryd.lays156.t4
  a4 := Tryd.lays156.a4
  z4 := Tryd.lays156.z4
  v4 := Tryd.lays156.v4
  t9 := Tryd.lays156.t9
  a9 := Tryd.lays156.a9
  z9 := Tryd.lays156.z9
  v9 := Tryd.lays156.v9
  t20 := Tryd.lays156.t20
  a20 := Tryd.lays156.a20
  z20 := Tryd.lays156.z20
  v20 := Tryd.lays156.v20
  t37 := Tryd.lays156.t37
  a37 := Tryd.lays156.a37
  z37 := Tryd.lays156.z37
  v37 := Tryd.lays156.v37
  t70 := Tryd.lays156.t70
  a70 := Tryd.lays156.a70
  z70 := Tryd.lays156.z70
  v70 := Tryd.lays156.v70
  t72 := Tryd.lays156.t72
  a72 := Tryd.lays156.a72
  z72 := Tryd.lays156.z72
  v72 := Tryd.lays156.v72
  t75 := Tryd.lays156.t75
  a75 := Tryd.lays156.a75
  z75 := Tryd.lays156.z75
  v75 := Tryd.lays156.v75
  t164 := Tryd.lays156.t164
  a164 := Tryd.lays156.a164
  z164 := Tryd.lays156.z164
  v164 := Tryd.lays156.v164
  t5 := Tryd.Builder_Extra_156.t5
  a5 := Tryd.Builder_Extra_156.a5
  z5 := Tryd.Builder_Extra_156.z5
  v5 := Tryd.Builder_Extra_156.v5
  f167 := Tryd.func37.trans (congrArg some (by kernel_rfl)) }
set_option maxRecDepth 100000 in
theorem Tryd.Builder_Extra_167 : Builder.Extra Tryd.prog Tryd.lays167_ren := {
  sizeBuilder := Tryd.Builder_Extra_156.sizeBuilder
  liesBuilder := Tryd.Builder_Extra_156.liesBuilder
  t5 := Tryd.Builder_Extra_156.t5
  a5 := Tryd.Builder_Extra_156.a5
  z5 := Tryd.Builder_Extra_156.z5
  v5 := Tryd.Builder_Extra_156.v5
  infoByte := Tryd.Builder_Extra_156.infoByte
  cellsByte := Tryd.Builder_Extra_156.cellsByte
  sizeByte := Tryd.Builder_Extra_156.sizeByte
  neB5 := Tryd.Builder_Extra_156.neB5 }
theorem Tryd.Builder_WriteByte (B b : Nat) (bs : List Value) (c : Int) (w : World) (h : Lib.IsBuilder 71 5 B b bs w) (hlen : bs.length + 1 ≤ 140737488355328) (hBw : B ≤ w.heap.size) :
    Calls Tryd.prog 37 #[.pointer (some ⟨b, 0, none⟩), .int .u8 c] w fun e w' => e = .returned .nilIface ∧ (Lib.BuilderAt 71 5 B b (.pointer (some ⟨b, 0, none⟩)) (bs ++ [.int .u8 c]) w' ∧ Below B w w') :=
  Any.Builder_WriteByte Tryd.lays167 Tryd.Builder_Extra_167 B b bs c w h hlen hBw
end Go.Proofs

/- The program's parts: what each tells, and shown, by the library's contracts of strings.Builder. -/
namespace Go.Proofs.YtkbodiggdajbeaaDoor
open Go.ChangeShapes Go.WideShapes Go.ChangeAt Go.RowKit
open Go.Lib (itoa IsBuilder BuilderAt byteCells strCells byteCells_length strCells_eq byteCells_append fresh_isBuilder)

theorem builder_below {T e : TypeId} {B b : Nat} {bs : List Value} {w w' : World} (h : IsBuilder T e B b bs w) (hb : Below w.heap.size w w') : IsBuilder T e B b bs w' := by
  have go : ∀ p, BuilderAt T e B b p bs w → BuilderAt T e B b p bs w' := by
    rintro p ⟨h1, v, h2, h3, h4⟩
    refine ⟨h1, v, ?_, owns_below h3 hb (Nat.le_refl _), h4⟩
    rw [hb.block _ (Array.getElem?_eq_some_iff.1 h2).1]
    exact h2
  exact h.elim (fun x => .inl (go _ x)) (fun x => .inr (go _ x))
theorem fits_one {l a b : List UInt8} {s : ByteArray} (h : l.length ≤ 70368744177664) (e : l = a ++ b) (hz : s.size + 1 ≤ b.length) : (byteCells (a ++ s.data.toList)).length + 1 ≤ 140737488355328 := by
  rw [byteCells_length, List.length_append]
  rw [e, List.length_append] at h
  have h3 : s.data.toList.length = s.size := by simp
  omega
theorem ten_cells : [Value.int .u8 10] = byteCells [10] := rfl
set_option maxHeartbeats 1000000 in
theorem numberText_any (n : Int) (h0 : -9223372036854775808 ≤ n) (h1 : n ≤ 9223372036854775807) (w : World) (htab : Lib.TabIs Tryd.prog w "internal/strconv.uint64pow10" .u64 Lib.pow10Tab) :
    Calls Tryd.prog 83 #[.int .i64 n] w fun e w' => e = .returned (.string ⟨(itoa n).toArray⟩) ∧ Below w.heap.size w w' := by
  go_enter Tryd.func83, Tryd.ntmps83
  go_wp2_with fail
  refine (implDigits_any n h0 h1 _ htab).mono ?_
  rintro e w1 ⟨rfl, hb1⟩
  go_wp2
  go_ret
  exact ⟨rfl, hb1⟩
theorem pieceText_any (s : ByteArray) (w : World) : Calls Tryd.prog 84 #[.string s] w fun e w' => e = .returned (.string s) ∧ Below w.heap.size w w' := by
  go_enter Tryd.func84, Tryd.ntmps84
  go_wp2
  go_ret
  exact ⟨rfl, Below.refl _ _⟩
theorem lineText_any (s : ByteArray) (w : World) : Calls Tryd.prog 86 #[.string s] w fun e w' => e = .returned (.string s) ∧ Below w.heap.size w w' := by
  go_enter Tryd.func86, Tryd.ntmps86
  go_wp2
  go_ret
  exact ⟨rfl, Below.refl _ _⟩
set_option maxHeartbeats 4000000 in
set_option maxRecDepth 100000 in
theorem implShown_any (a : Option Addr) (n c : Nat) (ps : List Pt) (w : World) (hP : PtsAt w a n ps) (hO : ∀ x ∈ ps, PtOk x) (hn : n ≤ 1073741824) (hL : (shownB ps).length ≤ 70368744177664) (htab : Lib.TabIs Tryd.prog w "internal/strconv.uint64pow10" .u64 Lib.pow10Tab) :
    Calls Tryd.prog 21 #[.slice a n c] w fun e w' => TextSays e (shownB ps) ∧ Below w.heap.size w w' := by
  obtain ⟨B, hBq⟩ : ∃ B, w.heap.size = B := ⟨_, rfl⟩
  obtain ⟨W, hW⟩ : ∃ W, w.alloc (.cells #[.pointer none, .slice none 0 0] 71) = W := ⟨_, rfl⟩
  have HI0 : Hid (IsBuilder 71 5 B B (byteCells (shownB (ps.take 0))) W) := by rw [← hW, ← hBq]; exact fresh_isBuilder _ _ _
  have HB0 : Hid (Below B w W) := by rw [← hW, ← hBq]; exact (Below.refl _ w).alloc (Nat.le_refl _) _
  have HW : Hid (w.alloc (.cells #[.pointer none, .slice none 0 0] 71) = W) := hW
  have HBQ : Hid (w.heap.size = B) := hBq
  have HTAB : Hid (Lib.TabIs Tryd.prog w "internal/strconv.uint64pow10" .u64 Lib.pow10Tab) := htab
  have HP : Hid (PtsAt w a n ps) := hP
  have HO : Hid (∀ x ∈ ps, PtOk x) := hO
  have HL : Hid ((shownB ps).length ≤ 70368744177664) := hL
  have hpl := hP.1
  clear hW hBq hP hO hL htab
  go_enter Tryd.func21, Tryd.ntmps21
  go_upto_region 2 with (fail)
  rw [HW.out]
  (try rw [HBQ.out])
  go_wp2
  go_loopw [10] (fun i wr => ∃ j : Nat, j ≤ n ∧ i = .int .i64 (j : Int) ∧ IsBuilder 71 5 B B (byteCells (shownB (ps.take j))) wr ∧ Below B w wr) (fun i _ => n - (intOf i).toNat)
  case atStart => exact ⟨0, Nat.zero_le _, rfl, HI0.out, HB0.out⟩
  case round =>
    obtain ⟨j, hj, rfl, hi, hb⟩ := hrel
    have HI : Hid (IsBuilder 71 5 B B (byteCells (shownB (ps.take j))) wr) := hi
    have HB : Hid (Below B w wr) := hb
    have HBS : Hid (B ≤ wr.heap.size) := by have h1 := hb.size; rw [HBQ.out] at h1; exact h1
    clear hi hb
    by_cases hlt : j < n
    · rcases (HP.out.below HB.out (Nat.le_of_eq HBQ.out)).2 with h0 | ⟨p1, o1, rfl, g1⟩
      · omega
      obtain ⟨x, hx⟩ : ∃ x, ps[j]? = some x := ⟨_, List.getElem?_eq_getElem (by omega)⟩
      have e1 := g1 j x hx
      have hxo : PtOk x := HO.out x (List.mem_of_getElem? hx)
      have HNX : Hid (shownB (ps.take (j + 1)) = shownB (ps.take j) ++ ptB x) := shown_succ hx
      have HLEN : Hid ((shownB (ps.take (j + 1))).length ≤ 70368744177664) := Nat.le_trans (shown_le ps _) HL.out
      have HTB : Hid (Lib.TabIs Tryd.prog wr "internal/strconv.uint64pow10" .u64 Lib.pow10Tab) := Joins.tab_stays gTab HTAB.out HB.out (Nat.le_of_eq HBQ.out)
      clear g1 hx
      cases x with
      | num m =>
        have ht : ∀ w : World, (Instr.typeAssert (.iface 53 (.int .i64 m)) 73 79 true).run Tryd.prog w = .ok (.tuple #[(.string ⟨#[]⟩), .bool false]) w := fun _ => by kernel_rfl
        have hm : ∀ w : World, (method 237 53 (.int .i64 m) "loop.example/g00468/impl.text").run Tryd.prog w = .ok (83, .int .i64 m) w := fun _ => by kernel_rfl
        rw [show ptV (.num m) = .iface 53 (.int .i64 m) from rfl] at e1
        go_wp2_with fail
        refine (numberText_any m hxo.1 hxo.2 _ HTB.out).mono ?_
        obtain ⟨sx, hsx⟩ : ∃ sx : ByteArray, sx = ⟨(itoa m).toArray⟩ := ⟨_, rfl⟩
        rw [← hsx]
        rintro e w2 ⟨rfl, hb2⟩
        have HSX : Hid (sx.data.toList = ptB (.num m)) := by show _ = itoa m; rw [hsx]
        clear hsx hxo
        have HZ : Hid (sx.size ≤ (ptB (.num m)).length) := by show _ ≤ _; rw [← HSX.out]; simp
        have HBC : Hid (Below B wr w2) := hb2.mono HBS.out
        have HB2 : Hid (Below B w w2) := HB.out.trans HBC.out
        have hB2 : B ≤ w2.heap.size := Nat.le_trans HBS.out hb2.size
        have HI2 : Hid (IsBuilder 71 5 B B (byteCells (shownB (ps.take j))) w2) := builder_below HI.out hb2
        clear hb2 e1 hm
        go_wp2_with fail
        refine (Tryd.Builder_WriteString B B _ sx w2 HI2.out (by rw [byteCells_length]; have := HLEN.out; rw [HNX.out, List.length_append] at this; have h2 := HZ.out; omega) hB2).mono ?_
        rintro e w3 ⟨rfl, hi3, hb3⟩
        rw [strCells_eq, HSX.out, ← byteCells_append] at hi3
        have HI3 : Hid (BuilderAt 71 5 B B _ _ w3) := hi3
        have HB3 : Hid (Below B w w3) := HB2.out.trans hb3
        have hB3 : B ≤ w3.heap.size := Nat.le_trans hB2 hb3.size
        clear hi3 hb3
        have hIN : IsBuilder 71 5 B B (byteCells (shownB (ps.take (j + 1)))) w3 := by
          rw [HNX.out]
          exact .inr HI3.out
        go_wp2
        go_roundw
        case rel => exact ⟨j + 1, by omega, by go_num, hIN, HB3.out⟩
        case measure => simp [intOf]; omega
      | pc s =>
        have ht : ∀ w : World, (Instr.typeAssert (.iface 54 (.string s)) 73 79 true).run Tryd.prog w = .ok (.tuple #[(.string ⟨#[]⟩), .bool false]) w := fun _ => by kernel_rfl
        have hm : ∀ w : World, (method 237 54 (.string s) "loop.example/g00468/impl.text").run Tryd.prog w = .ok (84, .string s) w := fun _ => by kernel_rfl
        rw [show ptV (.pc s) = .iface 54 (.string s) from rfl] at e1
        go_wp2_with fail
        refine (pieceText_any s _).mono ?_
        rintro e w2 ⟨rfl, hb2⟩
        have HZ : Hid (s.size ≤ (ptB (.pc s)).length) := by show _ ≤ _; show _ ≤ s.data.toList.length; simp
        have HBC : Hid (Below B wr w2) := hb2.mono HBS.out
        have HB2 : Hid (Below B w w2) := HB.out.trans HBC.out
        have hB2 : B ≤ w2.heap.size := Nat.le_trans HBS.out hb2.size
        have HI2 : Hid (IsBuilder 71 5 B B (byteCells (shownB (ps.take j))) w2) := builder_below HI.out hb2
        clear hb2 e1 hm
        go_wp2_with fail
        refine (Tryd.Builder_WriteString B B _ s w2 HI2.out (by rw [byteCells_length]; have := HLEN.out; rw [HNX.out, List.length_append] at this; have h2 := HZ.out; omega) hB2).mono ?_
        rintro e w3 ⟨rfl, hi3, hb3⟩
        rw [strCells_eq, ← byteCells_append] at hi3
        have HI3 : Hid (BuilderAt 71 5 B B _ _ w3) := hi3
        have HB3 : Hid (Below B w w3) := HB2.out.trans hb3
        have hB3 : B ≤ w3.heap.size := Nat.le_trans hB2 hb3.size
        clear hi3 hb3
        have hIN : IsBuilder 71 5 B B (byteCells (shownB (ps.take (j + 1)))) w3 := by
          rw [HNX.out]
          exact .inr HI3.out
        go_wp2
        go_roundw
        case rel => exact ⟨j + 1, by omega, by go_num, hIN, HB3.out⟩
        case measure => simp [intOf]; omega
      | ln s =>
        have ht : ∀ w : World, (Instr.typeAssert (.iface 79 (.string s)) 73 79 true).run Tryd.prog w = .ok (.tuple #[(.string s), .bool true]) w := fun _ => by kernel_rfl
        have hm : ∀ w : World, (method 237 79 (.string s) "loop.example/g00468/impl.text").run Tryd.prog w = .ok (86, .string s) w := fun _ => by kernel_rfl
        rw [show ptV (.ln s) = .iface 79 (.string s) from rfl] at e1
        go_wp2_with fail
        refine (lineText_any s _).mono ?_
        rintro e w2 ⟨rfl, hb2⟩
        have HZ : Hid (s.size + 1 ≤ (ptB (.ln s)).length) := by show _ ≤ _; show _ ≤ (s.data.toList ++ [10]).length; simp
        have HBC : Hid (Below B wr w2) := hb2.mono HBS.out
        have HB2 : Hid (Below B w w2) := HB.out.trans HBC.out
        have hB2 : B ≤ w2.heap.size := Nat.le_trans HBS.out hb2.size
        have HI2 : Hid (IsBuilder 71 5 B B (byteCells (shownB (ps.take j))) w2) := builder_below HI.out hb2
        clear hb2 e1 hm
        go_wp2_with fail
        refine (Tryd.Builder_WriteString B B _ s w2 HI2.out (by rw [byteCells_length]; have := HLEN.out; rw [HNX.out, List.length_append] at this; have h2 := HZ.out; omega) hB2).mono ?_
        rintro e w3 ⟨rfl, hi3, hb3⟩
        rw [strCells_eq, ← byteCells_append] at hi3
        have HI3 : Hid (BuilderAt 71 5 B B _ _ w3) := hi3
        have HB3 : Hid (Below B w w3) := HB2.out.trans hb3
        have hB3 : B ≤ w3.heap.size := Nat.le_trans hB2 hb3.size
        clear hi3 hb3
        go_wp2_with fail
        refine (Tryd.Builder_WriteByte B B _ 10 w3 (.inr HI3.out) (fits_one HLEN.out HNX.out HZ.out) hB3).mono ?_
        rintro e w4 ⟨rfl, hi4, hb4⟩
        rw [ten_cells, ← byteCells_append] at hi4
        have HI4 : Hid (BuilderAt 71 5 B B _ _ w4) := hi4
        have HB4 : Hid (Below B w w4) := HB3.out.trans hb4
        clear hi4 hb4
        have hIN : IsBuilder 71 5 B B (byteCells (shownB (ps.take (j + 1)))) w4 := by
          rw [HNX.out]
          have h4 := HI4.out
          rw [List.append_assoc] at h4
          exact .inr h4
        go_wp2
        go_roundw
        case rel => exact ⟨j + 1, by omega, by go_num, hIN, HB4.out⟩
        case measure => simp [intOf]; omega
    · obtain rfl : j = n := by omega
      have HEND : Hid (ps.take j = ps) := by show _ = _; rw [List.take_of_length_le (by omega)]
      go_wp2_with fail
      have hI := HI.out
      rw [HEND.out] at hI
      refine (Tryd.Builder_String_any B B _ wr hI HBS.out).mono ?_
      rintro e w5 ⟨rfl, hb5⟩
      have HB5 : Hid (Below B w w5) := HB.out.trans hb5
      clear hb5 hI
      go_wp2
      go_ret
      exact ⟨⟨_, rfl, rfl⟩, by rw [HBQ.out]; exact HB5.out⟩
end Go.Proofs.YtkbodiggdajbeaaDoor

/- A table of texts at package level, from the row's condition to memory and back. No program. -/
namespace Go.Proofs.YtkbodiggdajbeaaDoor
open Go.ChangeShapes Go.WideShapes Go.ChangeAt Go.RowKit Go.Lib

/-- The table as a row lists it. -/
def strD {H : Type} (zs : List (List UInt8)) : DataW H := .agg (zs.map fun z => .lit (.string z))
/-- The variable holds just these texts. -/
def StrsIs (P : Program) (w : World) (name : String) (zs : List (List UInt8)) : Prop := w.var? P name = some (zs.map S).toArray
theorem cells_of_strs {H : Type} {enc : TypeId × Value → H} {P : Program} {w : World} {base : Nat} {sp : Nat → Bool} {held : Bool} {fuel : Nat} {t e : TypeId} {n : Nat} {cs : List Value} {zs : List (List UInt8)} {p : List MemPlace}
    (ht : P.underlying t = some (.array n e)) (he : P.underlying e = some .string) (hce : P.cellsOf e = 1) (hct : P.cellsOf t = n)
    (h : DataW.trod enc P w base sp held fuel t cs = some (strD zs, p)) : cs = zs.map S := by
  cases fuel with
  | zero => simp [DataW.trod] at h
  | succ fuel =>
    simp only [DataW.trod, ht, hce, hct, Nat.mul_one] at h
    split at h
    · rename_i hl
      obtain ⟨xs, hm, hx⟩ := Option.map_eq_some_iff.1 h
      have hxs : xs.map (·.1) = zs.map fun z => (DataW.lit (.string z) : DataW H) := by
        have := congrArg Prod.fst hx
        simpa [strD] using this
      have hxl : xs.length = n := by simpa using mapM_length hm
      have hzl : zs.length = n := by
        have := congrArg List.length hxs
        simp at this
        omega
      apply List.ext_getElem?
      intro i
      by_cases hi : i < n
      · obtain ⟨b, hb, hf⟩ := mapM_at hm i i (by simp [hi])
        obtain ⟨z, hc, rfl, _⟩ := DataW.trod_string he hf
        have h1 : cs[i]? = some (.string z) := by
          have := congrArg (·[0]?) hc
          simpa [List.getElem?_take, List.getElem?_drop] using this
        have h2 : (xs.map (·.1))[i]? = some (DataW.lit (.string z.data.toList) : DataW H) := by simp [hb]
        rw [hxs] at h2
        simp only [List.getElem?_map, Option.map_eq_some_iff, DataW.lit.injEq, Lit.string.injEq] at h2
        obtain ⟨z', hz', hz2⟩ := h2
        rw [h1, str_S, List.getElem?_map, hz', hz2]
        rfl
      · rw [List.getElem?_eq_none (by omega), List.getElem?_eq_none (by simp; omega)]
    · cases h
theorem strsIs_of_head {P : Program} {W : World} {name : String} {zs : List (List UInt8)} {rest : List (String × DataW Unit)} {g : Nat} {t e : TypeId} {n : Nat}
    (hg : P.globalNamed name = some g) (hty : (P.globals[g]?).map (·.type) = some t) (ht : P.underlying t = some (.array n e)) (he : P.underlying e = some .string) (hce : P.cellsOf e = 1) (hct : P.cellsOf t = n)
    (h : laidMet P ((name, strD zs) :: rest) W) : StrsIs P W name zs := by
  obtain ⟨ps, ⟨g', t', cs, fuel, p, q, hg', ht', hvar, hd, _, _⟩, _⟩ := h
  obtain rfl := Option.some.inj (hg.symm.trans hg')
  obtain rfl := Option.some.inj (hty.symm.trans ht')
  unfold StrsIs
  rw [hvar, ← cells_of_strs ht he hce hct hd]
theorem StrsIs.cell {P : Program} {W : World} {name : String} {zs : List (List UInt8)} {g : Nat} (h : StrsIs P W name zs) (hg : P.globalNamed name = some g) (i : Nat) (hi : i < zs.length) :
    W.cell? ⟨g, i, none⟩ = some (S (zs.getD i [])) := by
  have := World.var?_cell hg h i
  simpa [List.getD, hi] using this
theorem StrsIs.lt {P : Program} {w : World} {name : String} {zs : List (List UInt8)} {g : Nat} (h : StrsIs P w name zs) (hg : P.globalNamed name = some g) : g < w.heap.size := by
  unfold StrsIs at h
  simp only [World.var?, hg, Option.bind_some] at h
  split at h
  · rename_i c t fr hb
    exact (Array.getElem?_eq_some_iff.1 hb).1
  · cases h
theorem StrsIs.below {P : Program} {w w' : World} {name : String} {zs : List (List UInt8)} {g B : Nat} (h : StrsIs P w name zs) (hg : P.globalNamed name = some g) (hb : Below B w w') (hB : w.heap.size ≤ B) : StrsIs P w' name zs :=
  var?_below hb hg (Nat.lt_of_lt_of_le (h.lt hg) hB) h
/-- What the table reads as, ahead of the call and behind it. -/
theorem strs_open {H : Type} {enc : TypeId × Value → H} {P : Program} {W : World} {sp : Nat → Bool} {name : String} {zs : List (List UInt8)} {gs : List (DataW H)} {q : List MemPlace} {g : Nat} {t : TypeId} (hN : StrsIs P W name zs)
    (hg : P.globalNamed name = some g) (hty : (P.globals[g]?).map (·.type) = some t)
    (hr : ∀ base held, DataW.trod enc P W base sp held 4 t (zs.map S) = some (strD zs, []))
    (hV : DataW.TrodVars enc P W sp [name] gs q) : gs = [strD zs] := by
  obtain ⟨g1, t1, cs, fuel, d, p', rfl, hg1, ht1, hvar, hd, rfl⟩ := trodVars_one hV
  obtain rfl := Option.some.inj (hg.symm.trans hg1)
  obtain rfl := Option.some.inj (hty.symm.trans ht1)
  obtain rfl : cs = (zs.map S).toArray := Option.some.inj (hvar.symm.trans hN)
  obtain ⟨rfl, rfl⟩ := DataW.Trod.unique (v := .agg (zs.map S).toArray) ⟨fuel, hd⟩ ⟨4, by simpa [Value.cells] using hr _ _⟩
  rfl
end Go.Proofs.YtkbodiggdajbeaaDoor

/- The specification's Digits, walked: it hands back the decimal numeral of its argument, and nothing that was there turns. -/
namespace Go.Proofs.YtkbodiggdajbeaaDoor
open Go.ChangeShapes Go.WideShapes Go.ChangeAt Go.RowKit Go.Lib

theorem one_byte (w : World) (z : Int) :
    (convert 62 9 (.slice (some ⟨w.heap.size, 0, none⟩) 1 1)).run Tryd.prog (w.alloc (.cells #[.int .u8 z] 5)) = .ok (.string ⟨#[UInt8.ofNat z.toNat]⟩) (w.alloc (.cells #[.int .u8 z] 5)) := by
  have h := run_convert_bytes_arg (P := Tryd.prog) (w.alloc (.cells #[.int .u8 z] 5)) 62 5 Tryd.underlying62 Tryd.underlying5 w.heap.size 0 1 1 [z] rfl (fun i hi => by
    have : i = 0 := by omega
    subst this; simp [go_sem]) 9 Tryd.underlying9
  simpa [strOfNums] using h

theorem cons_str (x : UInt8) (s : ByteArray) : (({ data := #[x] } : ByteArray) ++ s).data.toList = x :: s.data.toList := by simp
theorem left_str {N k : Nat} {s : ByteArray} (hk : ¬ k = 0) (h : LeftD N k s.data.toList) : LeftD N (k / 10) (({ data := #[48 + UInt8.ofNat (k % 10)] } : ByteArray) ++ s).data.toList := by
  rw [cons_str]
  have := left_step (by omega) h
  rwa [UInt8.ofNat_add] at this

theorem left_str0 {N k : Nat} {s : ByteArray} (hk : ¬ k = 0) (hr : k % 10 = 0) (h : LeftD N k s.data.toList) : LeftD N (k / 10) (({ data := #[48] } : ByteArray) ++ s).data.toList := by
  have := left_str hk h
  rwa [hr] at this

set_option maxHeartbeats 400000 in
theorem digits_pos (N : Nat) (h0 : 0 < N) (hN : N ≤ 9223372036854775807) (w : World) :
    Calls Tryd.prog 16 #[.int .i64 (N : Int)] w fun e w' => (∃ s : ByteArray, e = .returned (.string s) ∧ s.data.toList = decDigits N) ∧ Below w.heap.size w w' := by
  have hcv := one_byte
  go_enter Tryd.func16, Tryd.ntmps16
  go_wp2
  go_loopw [0, 4] (fun n out w' => ∃ (k : Nat) (s : ByteArray), k ≤ N ∧ n = .int .i64 k ∧ out = .string s ∧ LeftD N k s.data.toList ∧ Below w.heap.size w w') (fun n _ _ => (RowKit.intOf n).toNat)
  case atStart => exact ⟨N, _, Nat.le_refl _, rfl, rfl, left_start N h0, Below.refl _ _⟩
  case round =>
    obtain ⟨k, s, hk, rfl, rfl, hL, hg⟩ := hrel
    by_cases hz : k = 0
    · go_wp2
      go_ret
      exact ⟨⟨s, rfl, hL.1 hz⟩, hg⟩
    · have hsz : s.size ≤ 20 := by simpa using left_len hL (by omega)
      go_wp2
      go_roundw
      case rel =>
        exact ⟨k / 10, _, by omega, by go_num, rfl, left_str hz hL, hg.alloc hg.size _⟩
      case measure => simp [RowKit.intOf]; omega

set_option maxHeartbeats 400000 in
theorem digits_neg (N : Nat) (h0 : 0 < N) (hN : N ≤ 9223372036854775808) (w : World) :
    Calls Tryd.prog 16 #[.int .i64 (-(N : Int))] w fun e w' => (∃ s : ByteArray, e = .returned (.string s) ∧ s.data.toList = 45 :: decDigits N) ∧ Below w.heap.size w w' := by
  have hcv := one_byte
  have ht := neg_tmod
  have hd := neg_tdiv
  go_enter Tryd.func16, Tryd.ntmps16
  go_wp2
  go_loopw [0, 4] (fun n out w' => ∃ (k : Nat) (s : ByteArray), k ≤ N ∧ n = .int .i64 (-(k : Int)) ∧ out = .string s ∧ LeftD N k s.data.toList ∧ Below w.heap.size w w') (fun n _ _ => (RowKit.intOf n).natAbs)
  case atStart => exact ⟨N, _, Nat.le_refl _, rfl, rfl, left_start N h0, Below.refl _ _⟩
  case round =>
    obtain ⟨k, s, hk, rfl, rfl, hL, hg⟩ := hrel
    have hsz : s.size ≤ 20 := by simpa using left_len hL (by omega)
    by_cases hz : k = 0
    · go_wp2
      go_ret
      refine ⟨⟨_, rfl, ?_⟩, hg⟩
      rw [cons_str, hL.1 hz]
    · have hm : k % 10 < 10 := Nat.mod_lt _ (by omega)
      by_cases hr : k % 10 = 0
      · go_wp2
        exact ⟨⟨k / 10, _, by omega, by go_num, rfl, left_str0 hz hr hL, hg.alloc hg.size _⟩, by simp [RowKit.intOf]; omega⟩
      · go_wp2
        exact ⟨⟨k / 10, _, by omega, by go_num, rfl, left_str hz hL, hg.alloc hg.size _⟩, by simp [RowKit.intOf]; omega⟩

/-- The specification's Digits at any int. -/
theorem digits_any (n : Int) (h0 : -9223372036854775808 ≤ n) (h1 : n ≤ 9223372036854775807) (w : World) :
    Calls Tryd.prog 16 #[.int .i64 n] w fun e w' => (∃ s : ByteArray, e = .returned (.string s) ∧ s.data.toList = itoa n) ∧ Below w.heap.size w w' := by
  by_cases hp : 0 < n
  · obtain ⟨k, rfl⟩ : ∃ k : Nat, n = (k : Int) := ⟨n.toNat, by omega⟩
    rw [itoa_of_pos]
    exact digits_pos k (by omega) (by omega) w
  · by_cases hz : n = 0
    · subst hz
      rw [itoa_zero]
      go_enter Tryd.func16, Tryd.ntmps16
      go_wp2
      go_ret
      exact ⟨⟨_, rfl, rfl⟩, Below.refl _ _⟩
    · obtain ⟨k, rfl⟩ : ∃ k : Nat, n = -(k : Int) := ⟨n.natAbs, by omega⟩
      rw [itoa_of_neg k (by omega)]
      exact digits_neg k (by omega) (by omega) w
end Go.Proofs.YtkbodiggdajbeaaDoor

/- The specification's NumsText, walked: the numerals with commas between. -/
namespace Go.Proofs.YtkbodiggdajbeaaDoor
open Go.ChangeShapes Go.WideShapes Go.ChangeAt Go.RowKit Go.Lib

theorem app_str (a b : ByteArray) : (a ++ b).data.toList = a.data.toList ++ b.data.toList := by simp

set_option maxHeartbeats 1000000 in
theorem specNums_any (a : Option Addr) (n c : Nat) (xs : List Int) (w : World) (h : IntAt w a n xs) (hi : In64s xs) :
    Calls Tryd.prog 27 #[.slice a n c] w fun e w' => (∃ s : ByteArray, e = .returned (.string s) ∧ s.data.toList = numsB xs) ∧ Below w.heap.size w w' := by
  have HH : Hid (IntAt w a n xs) := h
  have L1 : Hid (xs.length = n) := h.1
  have b1 := h.2.1
  have HI : Hid (In64s xs) := hi
  clear h hi
  go_enter Tryd.func27, Tryd.ntmps27
  go_wp2
  go_loopw [3, 4] (fun out i wr => ∃ (k : Nat) (s : ByteArray), k ≤ n ∧ i = .int .i64 (k : Int) ∧ out = .string s ∧ s.data.toList = numsB (xs.take k) ∧ Below w.heap.size w wr) (fun _ i _ => n - (RowKit.intOf i).toNat)
  case atStart => exact ⟨0, _, Nat.zero_le _, rfl, rfl, by simp [numsB_nil], Below.refl _ _⟩
  case round =>
    obtain ⟨k, s, hk, rfl, rfl, hs, hb⟩ := hrel
    have hsz : s.size ≤ 22 * k := by
      have h1 := numsB_len k (xs.take k) (by have := L1.out; rw [List.length_take]; omega) (in64_take HI.out k)
      rw [← hs] at h1
      simpa using h1
    have HS : Hid (s.data.toList = numsB (xs.take k)) := hs
    clear hs
    by_cases hlt : k < n
    · rcases (HH.out.below hb (Nat.le_refl _)).2.2 with h0 | ⟨p1, o1, rfl, g1⟩
      · omega
      have e1 := g1 k hlt
      obtain ⟨h0, h1⟩ := in64_at HI.out k (by have := L1.out; omega)
      obtain ⟨x, hx⟩ : ∃ x, xs.getD k 0 = x := ⟨_, rfl⟩
      have HT : Hid (xs.take (k + 1) = xs.take k ++ [x]) := by rw [← hx]; exact take_snocI (by have := L1.out; omega)
      rw [hx] at e1 h0 h1
      have hil := itoa_length_le x h0 h1
      clear g1 hx
      by_cases hz : k = 0
      · subst hz
        rw [Nat.add_zero] at e1
        go_wp2_with (go_at_call 16; refine (digits_any x h0 h1 _).mono ?_; rintro e w1 ⟨⟨s1, rfl, hs1⟩, hg1⟩; have hz1 : s1.size ≤ 21 := by (rw [← hs1] at hil; simpa using hil))
        go_roundw
        case rel => exact ⟨1, _, by omega, by go_num, rfl, by rw [app_str, HS.out, hs1, HT.out]; simp [numsB, join_nil, join_one], hb.trans (hg1.mono hb.size)⟩
        case measure => simp [RowKit.intOf]; omega
      · go_wp2_with (go_at_call 16; refine (digits_any x h0 h1 _).mono ?_; rintro e w1 ⟨⟨s1, rfl, hs1⟩, hg1⟩; have hz1 : s1.size ≤ 21 := by (rw [← hs1] at hil; simpa using hil))
        exact ⟨⟨k + 1, _, by omega, by go_num, rfl, by rw [app_str, app_str, HS.out, hs1, HT.out, numsB_snoc _ _ (by have := L1.out; intro e; have := congrArg List.length e; rw [List.length_take, List.length_nil] at this; omega)], hb.trans (hg1.mono hb.size)⟩, by simp [RowKit.intOf]; omega⟩
    · have l1 := L1.out
      have e := List.take_of_length_le (show xs.length ≤ k by omega)
      go_wp2
      go_ret
      exact ⟨⟨s, rfl, by rw [HS.out, e]⟩, hb⟩
end Go.Proofs.YtkbodiggdajbeaaDoor

/- Small facts on lists of texts in memory. -/
namespace Go.Proofs.YtkbodiggdajbeaaDoor
open Go.ChangeShapes Go.WideShapes Go.ChangeAt Go.RowKit

/-- The slice of address a and length n holds the texts xs. -/
def StrAt (w : World) (a : Option Addr) (n : Nat) (xs : List (List UInt8)) : Prop :=
  xs.length = n ∧ n ≤ 1099511627776 ∧ (n = 0 ∨ ∃ b o, a = some ⟨b, o, none⟩ ∧ ∀ i, i < n → w.cell? ⟨b, o + i, none⟩ = some (S (xs.getD i [])))

theorem StrAt.draws {w : World} {a : Option Addr} {n : Nat} {xs : List (List UInt8)} (h : StrAt w a n xs) (m : Nat) : StrAt (w.drewN m) a n xs := h

theorem take_next {xs ys : List (List UInt8)} {k : Nat} (hx : k < xs.length) (hy : k < ys.length) (h : xs.take k = ys.take k) (e : xs.getD k [] = ys.getD k []) : xs.take (k + 1) = ys.take (k + 1) := by
  have e' : xs[k] = ys[k] := by simpa [List.getD, hx, hy] using e
  rw [List.take_succ_eq_append_getElem hx, List.take_succ_eq_append_getElem hy, h, e']

theorem own_strAt {w : World} {base : Nat} {e : TypeId} {g n cap : Nat} {xs : List (List UInt8)} (h : w.ownsRow base e 1 (.slice (some ⟨g, 0, none⟩) n cap) n (xs.map S)) (hn : n ≤ 1099511627776) : StrAt w (some ⟨g, 0, none⟩) n xs := by
  have hl : xs.length = n := by have := h.1; simpa using this
  refine ⟨hl, hn, .inr ⟨g, 0, rfl, fun i hi => ?_⟩⟩
  rw [Nat.zero_add, h.cellAt i (by omega), List.getElem?_map, List.getElem?_eq_getElem (by omega)]
  simp [List.getD, show i < xs.length by omega]

theorem infoStr : (Tryd.prog.info? 9).map (fun i => (i.zero, i.size, i.bytes)) = some (some (.string ⟨#[]⟩), 1, 16) := by kernel_rfl
end Go.Proofs.YtkbodiggdajbeaaDoor

/- spec.KeyOk and impl.KeyOk, walked. -/
namespace Go.Proofs.YtkbodiggdajbeaaDoor
open Go.ChangeShapes Go.WideShapes Go.ChangeAt Go.RowKit

theorem specKeyOk_any (k : Int) (w : World) :
    Calls Tryd.prog 45 #[.int .i64 k] w fun e w' => e = .returned (.bool (decide (0 ≤ k ∧ k ≤ 3))) ∧ w' = w := by
  by_cases h0 : 0 ≤ k
  · by_cases h1 : k ≤ 3
    · rw [show decide (0 ≤ k ∧ k ≤ 3) = true from decide_eq_true ⟨h0, h1⟩]
      go_enter Tryd.func45, Tryd.ntmps45
      go_wp2
      go_ret
      exact ⟨rfl, rfl⟩
    · rw [show decide (0 ≤ k ∧ k ≤ 3) = false from decide_eq_false (fun h => h1 h.2)]
      go_enter Tryd.func45, Tryd.ntmps45
      go_wp2
      go_ret
      exact ⟨rfl, rfl⟩
  · rw [show decide (0 ≤ k ∧ k ≤ 3) = false from decide_eq_false (fun h => h0 h.1)]
    go_enter Tryd.func45, Tryd.ntmps45
    go_wp2
    go_ret
    exact ⟨rfl, rfl⟩

theorem implKeyOk_any (k : Int) (w : World) :
    Calls Tryd.prog 88 #[.int .i64 k] w fun e w' => e = .returned (.bool (decide (0 ≤ k ∧ k ≤ 3))) ∧ w' = w := by
  by_cases h0 : 0 ≤ k
  · by_cases h1 : k ≤ 3
    · rw [show decide (0 ≤ k ∧ k ≤ 3) = true from decide_eq_true ⟨h0, h1⟩]
      have h2 : k < 4 := by omega
      go_enter Tryd.func88, Tryd.ntmps88
      go_wp2
      go_ret
      exact ⟨rfl, rfl⟩
    · rw [show decide (0 ≤ k ∧ k ≤ 3) = false from decide_eq_false (fun h => h1 h.2)]
      have h2 : ¬ k < 4 := by omega
      go_enter Tryd.func88, Tryd.ntmps88
      go_wp2
      go_ret
      exact ⟨rfl, rfl⟩
  · rw [show decide (0 ≤ k ∧ k ≤ 3) = false from decide_eq_false (fun h => h0 h.1)]
    go_enter Tryd.func88, Tryd.ntmps88
    go_wp2
    go_ret
    exact ⟨rfl, rfl⟩
end Go.Proofs.YtkbodiggdajbeaaDoor

/- spec.ValOk and impl.ValOk, walked. -/
namespace Go.Proofs.YtkbodiggdajbeaaDoor
open Go.ChangeShapes Go.WideShapes Go.ChangeAt Go.RowKit

theorem specValOk_any (k : Int) (w : World) :
    Calls Tryd.prog 46 #[.int .i64 k] w fun e w' => e = .returned (.bool (decide (1 ≤ k ∧ k ≤ 6))) ∧ w' = w := by
  by_cases h0 : 1 ≤ k
  · by_cases h1 : k ≤ 6
    · rw [show decide (1 ≤ k ∧ k ≤ 6) = true from decide_eq_true ⟨h0, h1⟩]
      go_enter Tryd.func46, Tryd.ntmps46
      go_wp2
      go_ret
      exact ⟨rfl, rfl⟩
    · rw [show decide (1 ≤ k ∧ k ≤ 6) = false from decide_eq_false (fun h => h1 h.2)]
      go_enter Tryd.func46, Tryd.ntmps46
      go_wp2
      go_ret
      exact ⟨rfl, rfl⟩
  · rw [show decide (1 ≤ k ∧ k ≤ 6) = false from decide_eq_false (fun h => h0 h.1)]
    go_enter Tryd.func46, Tryd.ntmps46
    go_wp2
    go_ret
    exact ⟨rfl, rfl⟩

theorem implValOk_any (k : Int) (w : World) :
    Calls Tryd.prog 89 #[.int .i64 k] w fun e w' => e = .returned (.bool (decide (1 ≤ k ∧ k ≤ 6))) ∧ w' = w := by
  by_cases h0 : 1 ≤ k
  · by_cases h1 : k ≤ 6
    · rw [show decide (1 ≤ k ∧ k ≤ 6) = true from decide_eq_true ⟨h0, h1⟩]
      have h2 : k < 7 := by omega
      go_enter Tryd.func89, Tryd.ntmps89
      go_wp2
      go_ret
      exact ⟨rfl, rfl⟩
    · rw [show decide (1 ≤ k ∧ k ≤ 6) = false from decide_eq_false (fun h => h1 h.2)]
      have h2 : ¬ k < 7 := by omega
      go_enter Tryd.func89, Tryd.ntmps89
      go_wp2
      go_ret
      exact ⟨rfl, rfl⟩
  · rw [show decide (1 ≤ k ∧ k ≤ 6) = false from decide_eq_false (fun h => h0 h.1)]
    go_enter Tryd.func89, Tryd.ntmps89
    go_wp2
    go_ret
    exact ⟨rfl, rfl⟩
end Go.Proofs.YtkbodiggdajbeaaDoor

/- spec.OpOk, walked. -/
namespace Go.Proofs.YtkbodiggdajbeaaDoor
open Go.ChangeShapes Go.WideShapes Go.ChangeAt Go.RowKit

set_option maxHeartbeats 2000000 in
theorem specOpOk_1 (k v : Int) (w : World) :
    Calls Tryd.prog 31 #[OpV 1 k v] w fun e w' => e = .returned (.bool (decide ((0 ≤ k ∧ k ≤ 3) ∧ (1 ≤ v ∧ v ≤ 6)))) ∧ Below w.heap.size w w' := by
  obtain ⟨B, hB⟩ : ∃ B, decide ((0 ≤ k ∧ k ≤ 3) ∧ (1 ≤ v ∧ v ≤ 6)) = B := ⟨_, rfl⟩
  rw [hB]
  have HB : Hid (decide ((0 ≤ k ∧ k ≤ 3) ∧ (1 ≤ v ∧ v ≤ 6)) = B) := hB
  clear hB
  rcases tri 0 3 k (by decide) with ⟨h0, h1⟩ | ⟨h0, h1⟩ | ⟨h0, h1⟩ <;> rcases tri 1 6 v (by decide) with ⟨g0, g1⟩ | ⟨g0, g1⟩ | ⟨g0, g1⟩
  all_goals
    go_enter Tryd.func31, Tryd.ntmps31
    go_wp2
    go_ret
    refine ⟨?_, (Below.refl _ _).alloc (Nat.le_refl _) _⟩
    rw [← HB.out]
    first
      | exact says_true (by omega)
      | exact says_false (by omega)

set_option maxHeartbeats 2000000 in
theorem specOpOk_2 (k v : Int) (w : World) :
    Calls Tryd.prog 31 #[OpV 2 k v] w fun e w' => e = .returned (.bool (decide ((0 ≤ k ∧ k ≤ 3) ∧ (1 ≤ v ∧ v ≤ 6)))) ∧ Below w.heap.size w w' := by
  obtain ⟨B, hB⟩ : ∃ B, decide ((0 ≤ k ∧ k ≤ 3) ∧ (1 ≤ v ∧ v ≤ 6)) = B := ⟨_, rfl⟩
  rw [hB]
  have HB : Hid (decide ((0 ≤ k ∧ k ≤ 3) ∧ (1 ≤ v ∧ v ≤ 6)) = B) := hB
  clear hB
  rcases tri 0 3 k (by decide) with ⟨h0, h1⟩ | ⟨h0, h1⟩ | ⟨h0, h1⟩ <;> rcases tri 1 6 v (by decide) with ⟨g0, g1⟩ | ⟨g0, g1⟩ | ⟨g0, g1⟩
  all_goals
    go_enter Tryd.func31, Tryd.ntmps31
    go_wp2
    go_ret
    refine ⟨?_, (Below.refl _ _).alloc (Nat.le_refl _) _⟩
    rw [← HB.out]
    first
      | exact says_true (by omega)
      | exact says_false (by omega)

set_option maxHeartbeats 2000000 in
theorem specOpOk_3 (k v : Int) (w : World) :
    Calls Tryd.prog 31 #[OpV 3 k v] w fun e w' => e = .returned (.bool (decide ((0 ≤ k ∧ k ≤ 3) ∧ (v = 0)))) ∧ Below w.heap.size w w' := by
  obtain ⟨B, hB⟩ : ∃ B, decide ((0 ≤ k ∧ k ≤ 3) ∧ (v = 0)) = B := ⟨_, rfl⟩
  rw [hB]
  have HB : Hid (decide ((0 ≤ k ∧ k ≤ 3) ∧ (v = 0)) = B) := hB
  clear hB
  rcases tri 0 3 k (by decide) with ⟨h0, h1⟩ | ⟨h0, h1⟩ | ⟨h0, h1⟩ <;> rcases eqb v 0 with ⟨g0, g1⟩ | ⟨g0, g1⟩
  all_goals
    go_enter Tryd.func31, Tryd.ntmps31
    go_wp2
    go_ret
    refine ⟨?_, (Below.refl _ _).alloc (Nat.le_refl _) _⟩
    rw [← HB.out]
    first
      | exact says_true (by omega)
      | exact says_false (by omega)

set_option maxHeartbeats 2000000 in
theorem specOpOk_4 (k v : Int) (w : World) :
    Calls Tryd.prog 31 #[OpV 4 k v] w fun e w' => e = .returned (.bool (decide ((0 ≤ k ∧ k ≤ 3) ∧ (v = 0)))) ∧ Below w.heap.size w w' := by
  obtain ⟨B, hB⟩ : ∃ B, decide ((0 ≤ k ∧ k ≤ 3) ∧ (v = 0)) = B := ⟨_, rfl⟩
  rw [hB]
  have HB : Hid (decide ((0 ≤ k ∧ k ≤ 3) ∧ (v = 0)) = B) := hB
  clear hB
  rcases tri 0 3 k (by decide) with ⟨h0, h1⟩ | ⟨h0, h1⟩ | ⟨h0, h1⟩ <;> rcases eqb v 0 with ⟨g0, g1⟩ | ⟨g0, g1⟩
  all_goals
    go_enter Tryd.func31, Tryd.ntmps31
    go_wp2
    go_ret
    refine ⟨?_, (Below.refl _ _).alloc (Nat.le_refl _) _⟩
    rw [← HB.out]
    first
      | exact says_true (by omega)
      | exact says_false (by omega)

set_option maxHeartbeats 2000000 in
theorem specOpOk_5 (k v : Int) (w : World) :
    Calls Tryd.prog 31 #[OpV 5 k v] w fun e w' => e = .returned (.bool (decide ((k = 0) ∧ (1 ≤ v ∧ v ≤ 6)))) ∧ Below w.heap.size w w' := by
  obtain ⟨B, hB⟩ : ∃ B, decide ((k = 0) ∧ (1 ≤ v ∧ v ≤ 6)) = B := ⟨_, rfl⟩
  rw [hB]
  have HB : Hid (decide ((k = 0) ∧ (1 ≤ v ∧ v ≤ 6)) = B) := hB
  clear hB
  rcases eqb k 0 with ⟨h0, h1⟩ | ⟨h0, h1⟩ <;> rcases tri 1 6 v (by decide) with ⟨g0, g1⟩ | ⟨g0, g1⟩ | ⟨g0, g1⟩
  all_goals
    go_enter Tryd.func31, Tryd.ntmps31
    go_wp2
    go_ret
    refine ⟨?_, (Below.refl _ _).alloc (Nat.le_refl _) _⟩
    rw [← HB.out]
    first
      | exact says_true (by omega)
      | exact says_false (by omega)

set_option maxHeartbeats 2000000 in
theorem specOpOk_6 (k v : Int) (w : World) :
    Calls Tryd.prog 31 #[OpV 6 k v] w fun e w' => e = .returned (.bool (decide ((0 ≤ k ∧ k ≤ 2) ∧ (v = 0)))) ∧ Below w.heap.size w w' := by
  obtain ⟨B, hB⟩ : ∃ B, decide ((0 ≤ k ∧ k ≤ 2) ∧ (v = 0)) = B := ⟨_, rfl⟩
  rw [hB]
  have HB : Hid (decide ((0 ≤ k ∧ k ≤ 2) ∧ (v = 0)) = B) := hB
  clear hB
  rcases tri 0 2 k (by decide) with ⟨h0, h1⟩ | ⟨h0, h1⟩ | ⟨h0, h1⟩ <;> rcases eqb v 0 with ⟨g0, g1⟩ | ⟨g0, g1⟩
  all_goals
    go_enter Tryd.func31, Tryd.ntmps31
    go_wp2
    go_ret
    refine ⟨?_, (Below.refl _ _).alloc (Nat.le_refl _) _⟩
    rw [← HB.out]
    first
      | exact says_true (by omega)
      | exact says_false (by omega)

set_option maxHeartbeats 2000000 in
theorem specOpOk_7 (k v : Int) (w : World) :
    Calls Tryd.prog 31 #[OpV 7 k v] w fun e w' => e = .returned (.bool (decide ((k = 0) ∧ (v = 0)))) ∧ Below w.heap.size w w' := by
  obtain ⟨B, hB⟩ : ∃ B, decide ((k = 0) ∧ (v = 0)) = B := ⟨_, rfl⟩
  rw [hB]
  have HB : Hid (decide ((k = 0) ∧ (v = 0)) = B) := hB
  clear hB
  rcases eqb k 0 with ⟨h0, h1⟩ | ⟨h0, h1⟩ <;> rcases eqb v 0 with ⟨g0, g1⟩ | ⟨g0, g1⟩
  all_goals
    go_enter Tryd.func31, Tryd.ntmps31
    go_wp2
    go_ret
    refine ⟨?_, (Below.refl _ _).alloc (Nat.le_refl _) _⟩
    rw [← HB.out]
    first
      | exact says_true (by omega)
      | exact says_false (by omega)

set_option maxHeartbeats 2000000 in
theorem specOpOk_8 (k v : Int) (w : World) :
    Calls Tryd.prog 31 #[OpV 8 k v] w fun e w' => e = .returned (.bool (decide ((k = 0) ∧ (v = 0)))) ∧ Below w.heap.size w w' := by
  obtain ⟨B, hB⟩ : ∃ B, decide ((k = 0) ∧ (v = 0)) = B := ⟨_, rfl⟩
  rw [hB]
  have HB : Hid (decide ((k = 0) ∧ (v = 0)) = B) := hB
  clear hB
  rcases eqb k 0 with ⟨h0, h1⟩ | ⟨h0, h1⟩ <;> rcases eqb v 0 with ⟨g0, g1⟩ | ⟨g0, g1⟩
  all_goals
    go_enter Tryd.func31, Tryd.ntmps31
    go_wp2
    go_ret
    refine ⟨?_, (Below.refl _ _).alloc (Nat.le_refl _) _⟩
    rw [← HB.out]
    first
      | exact says_true (by omega)
      | exact says_false (by omega)

set_option maxHeartbeats 2000000 in
theorem specOpOk_9 (k v : Int) (w : World) :
    Calls Tryd.prog 31 #[OpV 9 k v] w fun e w' => e = .returned (.bool (decide ((k = 0) ∧ (v = 0)))) ∧ Below w.heap.size w w' := by
  obtain ⟨B, hB⟩ : ∃ B, decide ((k = 0) ∧ (v = 0)) = B := ⟨_, rfl⟩
  rw [hB]
  have HB : Hid (decide ((k = 0) ∧ (v = 0)) = B) := hB
  clear hB
  rcases eqb k 0 with ⟨h0, h1⟩ | ⟨h0, h1⟩ <;> rcases eqb v 0 with ⟨g0, g1⟩ | ⟨g0, g1⟩
  all_goals
    go_enter Tryd.func31, Tryd.ntmps31
    go_wp2
    go_ret
    refine ⟨?_, (Below.refl _ _).alloc (Nat.le_refl _) _⟩
    rw [← HB.out]
    first
      | exact says_true (by omega)
      | exact says_false (by omega)

set_option maxHeartbeats 2000000 in
theorem specOpOk_10 (k v : Int) (w : World) :
    Calls Tryd.prog 31 #[OpV 10 k v] w fun e w' => e = .returned (.bool (decide ((k = 0) ∧ (1 ≤ v ∧ v ≤ 6)))) ∧ Below w.heap.size w w' := by
  obtain ⟨B, hB⟩ : ∃ B, decide ((k = 0) ∧ (1 ≤ v ∧ v ≤ 6)) = B := ⟨_, rfl⟩
  rw [hB]
  have HB : Hid (decide ((k = 0) ∧ (1 ≤ v ∧ v ≤ 6)) = B) := hB
  clear hB
  rcases eqb k 0 with ⟨h0, h1⟩ | ⟨h0, h1⟩ <;> rcases tri 1 6 v (by decide) with ⟨g0, g1⟩ | ⟨g0, g1⟩ | ⟨g0, g1⟩
  all_goals
    go_enter Tryd.func31, Tryd.ntmps31
    go_wp2
    go_ret
    refine ⟨?_, (Below.refl _ _).alloc (Nat.le_refl _) _⟩
    rw [← HB.out]
    first
      | exact says_true (by omega)
      | exact says_false (by omega)

set_option maxHeartbeats 2000000 in
theorem specOpOk_any (kind k v : Int) (w : World) :
    Calls Tryd.prog 31 #[OpV kind k v] w fun e w' => e = .returned (.bool (decide (OpGood kind k v))) ∧ Below w.heap.size w w' := by
  by_cases hk : 1 ≤ kind ∧ kind ≤ 10
  · have hd : ∀ (P : Prop) [Decidable P], (OpGood kind k v ↔ P) → decide (OpGood kind k v) = decide P := fun P _ h => decide_eq_decide.2 h
    rcases kinds hk with rfl | rfl | rfl | rfl | rfl | rfl | rfl | rfl | rfl | rfl
    · rw [hd _ (good_of hk (P := 0 ≤ k ∧ k ≤ 3) (Q := 1 ≤ v ∧ v ≤ 6) (by unfold KeyGood; omega) (by unfold ValGood; omega))]
      exact specOpOk_1 k v w
    · rw [hd _ (good_of hk (P := 0 ≤ k ∧ k ≤ 3) (Q := 1 ≤ v ∧ v ≤ 6) (by unfold KeyGood; omega) (by unfold ValGood; omega))]
      exact specOpOk_2 k v w
    · rw [hd _ (good_of hk (P := 0 ≤ k ∧ k ≤ 3) (Q := v = 0) (by unfold KeyGood; omega) (by unfold ValGood; omega))]
      exact specOpOk_3 k v w
    · rw [hd _ (good_of hk (P := 0 ≤ k ∧ k ≤ 3) (Q := v = 0) (by unfold KeyGood; omega) (by unfold ValGood; omega))]
      exact specOpOk_4 k v w
    · rw [hd _ (good_of hk (P := k = 0) (Q := 1 ≤ v ∧ v ≤ 6) (by unfold KeyGood; omega) (by unfold ValGood; omega))]
      exact specOpOk_5 k v w
    · rw [hd _ (good_of hk (P := 0 ≤ k ∧ k ≤ 2) (Q := v = 0) (by unfold KeyGood; omega) (by unfold ValGood; omega))]
      exact specOpOk_6 k v w
    · rw [hd _ (good_of hk (P := k = 0) (Q := v = 0) (by unfold KeyGood; omega) (by unfold ValGood; omega))]
      exact specOpOk_7 k v w
    · rw [hd _ (good_of hk (P := k = 0) (Q := v = 0) (by unfold KeyGood; omega) (by unfold ValGood; omega))]
      exact specOpOk_8 k v w
    · rw [hd _ (good_of hk (P := k = 0) (Q := v = 0) (by unfold KeyGood; omega) (by unfold ValGood; omega))]
      exact specOpOk_9 k v w
    · rw [hd _ (good_of hk (P := k = 0) (Q := 1 ≤ v ∧ v ≤ 6) (by unfold KeyGood; omega) (by unfold ValGood; omega))]
      exact specOpOk_10 k v w
  · rw [show decide (OpGood kind k v) = false from decide_eq_false (fun h => hk h.1)]
    by_cases h0 : 1 ≤ kind
    · have h1 : ¬ kind ≤ 10 := fun h => hk ⟨h0, h⟩
      clear hk
      go_enter Tryd.func31, Tryd.ntmps31
      go_wp2
      go_ret
      exact ⟨rfl, (Below.refl _ _).alloc (Nat.le_refl _) _⟩
    · clear hk
      go_enter Tryd.func31, Tryd.ntmps31
      go_wp2
      go_ret
      exact ⟨rfl, (Below.refl _ _).alloc (Nat.le_refl _) _⟩
end Go.Proofs.YtkbodiggdajbeaaDoor

/- spec.l14Names, l4Key, l4Val, spec.OpText, walked. -/
namespace Go.Proofs.YtkbodiggdajbeaaDoor
open Go.ChangeShapes Go.WideShapes Go.ChangeAt Go.RowKit Go.Lib

/-- The words of kinds, in a list. -/
def namesT : List (List UInt8) := [[], nameB 1, nameB 2, nameB 3, nameB 4, nameB 5, nameB 6, nameB 7, nameB 8, nameB 9, nameB 10]
theorem namesT_at {k : Nat} (h0 : 1 ≤ k) (h1 : k ≤ 10) : namesT.getD k [] = nameB (k : Int) := by
  have h : k = 1 ∨ k = 2 ∨ k = 3 ∨ k = 4 ∨ k = 5 ∨ k = 6 ∨ k = 7 ∨ k = 8 ∨ k = 9 ∨ k = 10 := by omega
  rcases h with rfl | rfl | rfl | rfl | rfl | rfl | rfl | rfl | rfl | rfl <;> rfl
theorem StrAt.below {w w' : World} {a : Option Addr} {n : Nat} {xs : List (List UInt8)} (h : StrAt w a n xs) {B : Nat} (hb : Below B w w') (hB : w.heap.size ≤ B) : StrAt w' a n xs := by
  obtain ⟨h1, h2, h3 | ⟨b, o, h3, h4⟩⟩ := h
  · exact ⟨h1, h2, .inl h3⟩
  · refine ⟨h1, h2, .inr ⟨b, o, h3, fun i hi => ?_⟩⟩
    have h5 := h4 i hi
    have h6 := World.block_lt_of_cell? w _ h5
    rw [hb.cell (show _ < B from Nat.lt_of_lt_of_le h6 hB)]
    exact h5
set_option maxRecDepth 100000 in
theorem l14Names_is (w : World) : Calls Tryd.prog 32 #[] w fun e w' => e = .returned (.slice (some ⟨w.heap.size, 0, none⟩) 11 11) ∧ StrAt w' (some ⟨w.heap.size, 0, none⟩) 11 namesT ∧ Below w.heap.size w w' := by
  go_enter Tryd.func32, Tryd.ntmps32
  go_wp2
  go_ret
  refine ⟨rfl, ⟨rfl, by omega, .inr ⟨_, _, rfl, fun i hi => ?_⟩⟩, (Below.refl _ w).alloc (Nat.le_refl _) _⟩
  have h : i = 0 ∨ i = 1 ∨ i = 2 ∨ i = 3 ∨ i = 4 ∨ i = 5 ∨ i = 6 ∨ i = 7 ∨ i = 8 ∨ i = 9 ∨ i = 10 := by omega
  rw [Nat.zero_add, World.cell?_alloc_at _ _ _ _ rfl]
  rcases h with rfl | rfl | rfl | rfl | rfl | rfl | rfl | rfl | rfl | rfl | rfl <;> rfl
theorem l4Key_is (k : Int) (w : World) : Calls Tryd.prog 33 #[.int .i64 k] w fun e w' => e = .returned (.bool (inB k 1 4)) ∧ w' = w := by
  go_enter Tryd.func33, Tryd.ntmps33
  go_wp2_with fail
  refine (l1In_g k 1 4 _).mono ?_
  rintro e w1 ⟨rfl, hw⟩
  rw [hw]
  go_wp2
  go_ret
  exact ⟨rfl, rfl⟩
theorem l4Val_k (k : Int) (w : World) : Calls Tryd.prog 34 #[.int .i64 k] w fun e w' => e = .returned (.bool (decide (HasV k))) ∧ w' = w := by
  unfold HasV
  by_cases hv : k = 1 ∨ k = 2 ∨ k = 5 ∨ k = 10
  · rw [decide_eq_true hv]
    rcases eqb k 1 with ⟨h1, g1⟩ | ⟨h1, g1⟩ <;> rcases eqb k 2 with ⟨h2, g2⟩ | ⟨h2, g2⟩ <;> rcases eqb k 5 with ⟨h5, g5⟩ | ⟨h5, g5⟩ <;> rcases eqb k 10 with ⟨h9, g9⟩ | ⟨h9, g9⟩
    all_goals first
      | (exfalso; omega)
      | (clear h1 h2 h5 h9 hv
         go_enter Tryd.func34, Tryd.ntmps34
         go_wp2
         go_ret
         exact ⟨rfl, rfl⟩)
  · rw [decide_eq_false hv]
    rcases eqb k 1 with ⟨h1, g1⟩ | ⟨h1, g1⟩ <;> rcases eqb k 2 with ⟨h2, g2⟩ | ⟨h2, g2⟩ <;> rcases eqb k 5 with ⟨h5, g5⟩ | ⟨h5, g5⟩ <;> rcases eqb k 10 with ⟨h9, g9⟩ | ⟨h9, g9⟩
    all_goals first
      | (exfalso; omega)
      | (clear h1 h2 h5 h9 hv
         go_enter Tryd.func34, Tryd.ntmps34
         go_wp2
         go_ret
         exact ⟨rfl, rfl⟩)
theorem name_len (k : Int) : (nameB k).length ≤ 5 := by
  unfold nameB
  repeat' split
  all_goals decide
theorem itoa_one {k : Int} (h0 : 0 ≤ k) (h1 : k ≤ 6) : (itoa k).length ≤ 1 := by rw [itoa_small h0 h1]; simp
theorem Box.threeT {w : World} {b : Nat} {T : TypeId} {x y z : Value} (h : Box w b #[x, y, z] T) : w.cell? ⟨b, 0, none⟩ = some x ∧ w.cell? ⟨b, 1, none⟩ = some y ∧ w.cell? ⟨b, 2, none⟩ = some z := ⟨h.cell 0, h.cell 1, h.cell 2⟩
set_option maxHeartbeats 4000000 in
set_option maxRecDepth 100000 in
theorem specOpText_any (kind k v : Int) (w : World) :
    Calls Tryd.prog 17 #[OpV kind k v] w fun e w' => TextSays e (opB kind k v) ∧ Below w.heap.size w w' := by
  obtain ⟨W, hW⟩ : ∃ W, w.alloc (.cells #[.int .i64 kind, .int .i64 k, .int .i64 v] 31) = W := ⟨_, rfl⟩
  have HB0 : Hid (Below w.heap.size w W) := by rw [← hW]; exact (Below.refl _ w).alloc (Nat.le_refl _) _
  have X0 : Hid (Box W w.heap.size #[.int .i64 kind, .int .i64 k, .int .i64 v] 31) := by rw [← hW]; exact box_of w _ _
  have HW : Hid (w.alloc (.cells #[.int .i64 kind, .int .i64 k, .int .i64 v] 31) = W) := hW
  clear hW
  by_cases hg : OpGood kind k v
  case neg =>
    have HT : Hid (opB kind k v = noneB) := if_neg hg
    have HD : Hid (decide (OpGood kind k v) = false) := decide_eq_false hg
    clear hg
    go_enter Tryd.func17, Tryd.ntmps17
    go_upto_region 1 with (fail)
    rw [HW.out]
    obtain ⟨c0, c1, c2⟩ := X0.out.threeT
    go_wp2_with fail
    refine (specOpOk_any kind k v _).mono ?_
    rintro e w1 ⟨rfl, hb1⟩
    rw [HD.out]
    have HB1 : Hid (Below w.heap.size w w1) := HB0.out.trans (hb1.mono HB0.out.size)
    clear hb1 c0 c1 c2
    go_wp2
    go_ret
    exact ⟨⟨_, rfl, HT.out.symm⟩, HB1.out⟩
  have HT : Hid (opB kind k v = nameB kind ++ tailB kind k v) := if_pos hg
  have HD : Hid (decide (OpGood kind k v) = true) := decide_eq_true hg
  obtain ⟨⟨hk1, hk10⟩, ⟨k0, k6⟩, ⟨v0, v6⟩, _, _⟩ := good_small hg
  obtain ⟨kn, rfl⟩ : ∃ kn : Nat, kind = (kn : Int) := ⟨kind.toNat, by omega⟩
  have hn1 : 1 ≤ kn := by omega
  have hn10 : kn ≤ 10 := by omega
  have hn11 : kn < 11 := by omega
  clear hg hk1 hk10
  go_enter Tryd.func17, Tryd.ntmps17
  go_upto_region 1 with (fail)
  rw [HW.out]
  obtain ⟨c0, c1, c2⟩ := X0.out.threeT
  go_wp2_with fail
  refine (specOpOk_any (kn : Int) k v _).mono ?_
  rintro e w1 ⟨rfl, hb1⟩
  rw [HD.out]
  have HB1 : Hid (Below w.heap.size w w1) := HB0.out.trans (hb1.mono HB0.out.size)
  have X1 : Hid (Box w1 w.heap.size #[.int .i64 (kn : Int), .int .i64 k, .int .i64 v] 31) := X0.out.below hb1 X0.out.lt
  have hs1 : w.heap.size < w1.heap.size := X1.out.lt
  clear hb1 c0 c1 c2 HB0 X0 HW
  obtain ⟨c0, c1, c2⟩ := X1.out.threeT
  have hkey : inB (kn : Int) 1 4 = decide (kn ≤ 4) := by
    by_cases h : kn ≤ 4
    · rw [decide_eq_true h, inB_yes (by omega)]
    · rw [decide_eq_false h, inB_no (by omega)]
  have HKEY : Hid (inB (kn : Int) 1 4 = decide (kn ≤ 4)) := hkey
  clear hkey
  obtain ⟨nb, hnb⟩ : ∃ nb : ByteArray, nb = ⟨(nameB (kn : Int)).toArray⟩ := ⟨_, rfl⟩
  have HNB : Hid (nb = ⟨(nameB (kn : Int)).toArray⟩) := hnb
  have HNL : Hid (nb.data.toList = nameB (kn : Int)) := by show _ = _; rw [HNB.out]
  have hnsz : nb.size ≤ 5 := by
    have h1 := name_len (kn : Int)
    rw [← HNL.out] at h1
    simpa using h1
  clear hnb
  go_upto_region 3 with (fail)
  go_region_with (first
    | (go_at_call 32; refine (l14Names_is _).mono ?_; rintro e w2 ⟨rfl, hN2, hb2⟩
       have hbx : Below w1.heap.size w1 w2 := (Below.refl w1.heap.size w1).drew.trans hb2
       have HB2 : Hid (Below w.heap.size w w2) := HB1.out.trans (hbx.mono HB1.out.size)
       have X2 : Hid (Box w2 w.heap.size #[.int .i64 (kn : Int), .int .i64 k, .int .i64 v] 31) := X1.out.below hbx X1.out.lt
       obtain ⟨d0, d1, d2⟩ := X2.out.threeT
       have hcn : w2.cell? ⟨w1.heap.size, kn, none⟩ = some (.string nb) := by
         rw [HNB.out]
         rcases hN2.2.2 with h0 | ⟨b, o, he, hc⟩
         · omega
         · cases he
           have := hc kn hn11
           rwa [namesT_at hn1 hn10, Nat.zero_add] at this
       clear hbx hN2 hb2))
  all_goals
    clear c0 c1 c2
    have hK3 : kn ≤ 4 ∨ kn = 6 ∨ (¬ kn ≤ 4 ∧ ¬ kn = 6) := by omega
    rcases hK3 with hk | hk | ⟨hk, hk6⟩
    · have HHK : Hid (HasK (kn : Int)) := by show _ ∨ _; omega
      have hdk : inB (kn : Int) 1 4 = true := by rw [HKEY.out]; exact decide_eq_true hk
      clear hk
      go_wp2_with fail
      refine (l4Key_is (kn : Int) _).mono ?_
      rintro e wk ⟨rfl, hwk⟩
      rw [hwk, hdk]
      clear hwk
      go_wp2_with fail
      refine (digits_any k (by omega) (by omega) _).mono ?_
      rintro e w3 ⟨⟨s3, rfl, hs3⟩, hb3⟩
      have hz3 : s3.size ≤ 1 := by
        have h1 := itoa_one k0 k6
        rw [← hs3] at h1
        simpa using h1
      have HS3 : Hid (s3.data.toList = itoa k) := hs3
      have HB3 : Hid (Below w.heap.size w w3) := HB2.out.trans (hb3.mono HB2.out.size)
      have X3 : Hid (Box w3 w.heap.size #[.int .i64 (kn : Int), .int .i64 k, .int .i64 v] 31) := X2.out.below hb3 X2.out.lt
      clear hs3 hb3 d0 d1 d2 hcn
      obtain ⟨d0, d1, d2⟩ := X3.out.threeT
      go_wp2_with fail
      refine (l4Val_k (kn : Int) _).mono ?_
      rintro e wv ⟨rfl, hwv⟩
      rw [hwv]
      clear hwv
      by_cases hV : HasV (kn : Int)
      · have hdv : decide (HasV (kn : Int)) = true := decide_eq_true hV
        have HHV : Hid (HasV (kn : Int)) := hV
        rw [hdv]
        clear hV hdv
        go_wp2_with fail
        refine (digits_any v (by omega) (by omega) _).mono ?_
        rintro e w5 ⟨⟨s5, rfl, hs5⟩, hb5⟩
        have hz5 : s5.size ≤ 1 := by
          have h1 := itoa_one v0 v6
          rw [← hs5] at h1
          simpa using h1
        have HS5 : Hid (s5.data.toList = itoa v) := hs5
        have HB5 : Hid (Below w.heap.size w w5) := HB3.out.trans (hb5.mono HB3.out.size)
        clear hs5 hb5
        go_wp2
        go_ret
        refine ⟨⟨_, rfl, ?_⟩, HB5.out⟩
        rw [HT.out, tailB, if_pos HHK.out, if_pos HHV.out]
        simp [HNL.out, HS5.out, HS3.out]
      · have hdv : decide (HasV (kn : Int)) = false := decide_eq_false hV
        have HHV : Hid (¬ HasV (kn : Int)) := hV
        rw [hdv]
        clear hV hdv
        go_wp2
        go_ret
        refine ⟨⟨_, rfl, ?_⟩, HB3.out⟩
        rw [HT.out, tailB, if_pos HHK.out, if_neg HHV.out]
        simp [HNL.out, HS3.out]
    · have HHK : Hid (HasK (kn : Int)) := by show _ ∨ _; omega
      have hdk : inB (kn : Int) 1 4 = false := by rw [HKEY.out]; exact decide_eq_false (by omega)
      have hk6 : ((kn : Int) == 6) = true := by simp; omega
      clear hk
      go_wp2_with fail
      refine (l4Key_is (kn : Int) _).mono ?_
      rintro e wk ⟨rfl, hwk⟩
      rw [hwk, hdk]
      clear hwk
      go_wp2_with fail
      refine (digits_any k (by omega) (by omega) _).mono ?_
      rintro e w3 ⟨⟨s3, rfl, hs3⟩, hb3⟩
      have hz3 : s3.size ≤ 1 := by
        have h1 := itoa_one k0 k6
        rw [← hs3] at h1
        simpa using h1
      have HS3 : Hid (s3.data.toList = itoa k) := hs3
      have HB3 : Hid (Below w.heap.size w w3) := HB2.out.trans (hb3.mono HB2.out.size)
      have X3 : Hid (Box w3 w.heap.size #[.int .i64 (kn : Int), .int .i64 k, .int .i64 v] 31) := X2.out.below hb3 X2.out.lt
      clear hs3 hb3 d0 d1 d2 hcn
      obtain ⟨d0, d1, d2⟩ := X3.out.threeT
      go_wp2_with fail
      refine (l4Val_k (kn : Int) _).mono ?_
      rintro e wv ⟨rfl, hwv⟩
      rw [hwv]
      clear hwv
      by_cases hV : HasV (kn : Int)
      · have hdv : decide (HasV (kn : Int)) = true := decide_eq_true hV
        have HHV : Hid (HasV (kn : Int)) := hV
        rw [hdv]
        clear hV hdv
        go_wp2_with fail
        refine (digits_any v (by omega) (by omega) _).mono ?_
        rintro e w5 ⟨⟨s5, rfl, hs5⟩, hb5⟩
        have hz5 : s5.size ≤ 1 := by
          have h1 := itoa_one v0 v6
          rw [← hs5] at h1
          simpa using h1
        have HS5 : Hid (s5.data.toList = itoa v) := hs5
        have HB5 : Hid (Below w.heap.size w w5) := HB3.out.trans (hb5.mono HB3.out.size)
        clear hs5 hb5
        go_wp2
        go_ret
        refine ⟨⟨_, rfl, ?_⟩, HB5.out⟩
        rw [HT.out, tailB, if_pos HHK.out, if_pos HHV.out]
        simp [HNL.out, HS5.out, HS3.out]
      · have hdv : decide (HasV (kn : Int)) = false := decide_eq_false hV
        have HHV : Hid (¬ HasV (kn : Int)) := hV
        rw [hdv]
        clear hV hdv
        go_wp2
        go_ret
        refine ⟨⟨_, rfl, ?_⟩, HB3.out⟩
        rw [HT.out, tailB, if_pos HHK.out, if_neg HHV.out]
        simp [HNL.out, HS3.out]
    · have HHK : Hid (¬ HasK (kn : Int)) := by intro h; unfold HasK at h; omega
      have hdk : inB (kn : Int) 1 4 = false := by rw [HKEY.out]; exact decide_eq_false hk
      have hk6' : ((kn : Int) == 6) = false := by simp; omega
      clear hk hk6
      go_wp2_with fail
      refine (l4Key_is (kn : Int) _).mono ?_
      rintro e wk ⟨rfl, hwk⟩
      rw [hwk, hdk]
      clear hwk
      go_wp2_with fail
      refine (l4Val_k (kn : Int) _).mono ?_
      rintro e wv ⟨rfl, hwv⟩
      rw [hwv]
      clear hwv
      by_cases hV : HasV (kn : Int)
      · have hdv : decide (HasV (kn : Int)) = true := decide_eq_true hV
        have HHV : Hid (HasV (kn : Int)) := hV
        rw [hdv]
        clear hV hdv
        go_wp2_with fail
        refine (digits_any v (by omega) (by omega) _).mono ?_
        rintro e w5 ⟨⟨s5, rfl, hs5⟩, hb5⟩
        have hz5 : s5.size ≤ 1 := by
          have h1 := itoa_one v0 v6
          rw [← hs5] at h1
          simpa using h1
        have HS5 : Hid (s5.data.toList = itoa v) := hs5
        have HB5 : Hid (Below w.heap.size w w5) := HB2.out.trans (hb5.mono HB2.out.size)
        clear hs5 hb5
        go_wp2
        go_ret
        refine ⟨⟨_, rfl, ?_⟩, HB5.out⟩
        rw [HT.out, tailB, if_neg HHK.out, if_pos HHV.out]
        simp [HNL.out, HS5.out]
      · have hdv : decide (HasV (kn : Int)) = false := decide_eq_false hV
        have HHV : Hid (¬ HasV (kn : Int)) := hV
        rw [hdv]
        clear hV hdv
        go_wp2
        go_ret
        refine ⟨⟨_, rfl, ?_⟩, HB2.out⟩
        rw [HT.out, tailB, if_neg HHK.out, if_neg HHV.out]
        simp [HNL.out]
end Go.Proofs.YtkbodiggdajbeaaDoor

/- What comes of an op, as a value. -/
namespace Go.Proofs.YtkbodiggdajbeaaDoor
/-- What comes of an op, as a value. -/
abbrev ResV (code : Int) (a : Option Addr) (n c : Nat) : Value := .agg #[.int .i64 code, .slice a n c]
end Go.Proofs.YtkbodiggdajbeaaDoor

/- spec.ProgText and spec.ResText, walked. -/
namespace Go.Proofs.YtkbodiggdajbeaaDoor
open Go.ChangeShapes Go.WideShapes Go.ChangeAt Go.RowKit Go.Lib

theorem opB_len (a b c : Int) : (opB a b c).length ≤ 9 := by
  unfold opB
  split
  · rename_i h
    obtain ⟨_, ⟨b0, b6⟩, ⟨c0, c6⟩, _, _⟩ := good_small h
    have h1 := name_len a
    have h2 := itoa_one b0 b6
    have h3 := itoa_one c0 c6
    unfold tailB
    rw [List.length_append, List.length_append]
    split <;> split <;> simp <;> omega
  · decide
/-- The texts of the first k ops of a list. -/
def opsT (fs : List Int) (k : Nat) : List (List UInt8) := (List.range k).map fun i => opB (fs.getD (i * 3) 0) (fs.getD (i * 3 + 1) 0) (fs.getD (i * 3 + 2) 0)
theorem opsT_succ (fs : List Int) (k : Nat) : opsT fs (k + 1) = opsT fs k ++ [opB (fs.getD (k * 3) 0) (fs.getD (k * 3 + 1) 0) (fs.getD (k * 3 + 2) 0)] := by simp [opsT, List.range_succ]
theorem opsT_len (fs : List Int) (k : Nat) : (opsT fs k).length = k := by simp [opsT]
/-- The text of these. -/
def progT (fs : List Int) (k : Nat) : List UInt8 := join (opsT fs k) [59]
theorem progT_one (fs : List Int) : progT fs 1 = opB (fs.getD (0 * 3) 0) (fs.getD (0 * 3 + 1) 0) (fs.getD (0 * 3 + 2) 0) := by
  show join [_] [59] = _
  exact join_one _ _
theorem progT_succ (fs : List Int) {k : Nat} (h : 0 < k) : progT fs (k + 1) = progT fs k ++ [59] ++ opB (fs.getD (k * 3) 0) (fs.getD (k * 3 + 1) 0) (fs.getD (k * 3 + 2) 0) := by
  unfold progT
  rw [opsT_succ, join_snoc _ _ _ (fun e => by have := opsT_len fs k; rw [e] at this; simp at this; omega)]
theorem progT_len (fs : List Int) : ∀ k, (progT fs k).length ≤ 10 * k
  | 0 => by simp [progT, opsT, join_nil]
  | 1 => by rw [progT_one]; have := opB_len (fs.getD (0 * 3) 0) (fs.getD (0 * 3 + 1) 0) (fs.getD (0 * 3 + 2) 0); omega
  | k + 2 => by
    rw [progT_succ fs (by omega), List.length_append, List.length_append]
    have h1 := progT_len fs (k + 1)
    have h2 := opB_len (fs.getD ((k + 1) * 3) 0) (fs.getD ((k + 1) * 3 + 1) 0) (fs.getD ((k + 1) * 3 + 2) 0)
    simp only [List.length_cons, List.length_nil]
    omega
end Go.Proofs.YtkbodiggdajbeaaDoor

/- spec.ResText, walked. -/
namespace Go.Proofs.YtkbodiggdajbeaaDoor
open Go.ChangeShapes Go.WideShapes Go.ChangeAt Go.RowKit Go.Lib

theorem size_str (x : UInt8) : (⟨#[x]⟩ : ByteArray).size = 1 := rfl
theorem size_cat (a b : ByteArray) : (a ++ b).size = a.size + b.size := by simp
theorem cat_str {P : Program} (t : TypeId) (a b : ByteArray) (h : a.size + b.size ≤ 281474976710656) (w : World) : (binOp .add t (.string a) (.string b)).run P w = .ok (.string (a ++ b)) w := by
  simp [binOp, run_string_add_sum w a b (by omega)]
/-- The words of codes, in a list. -/
def codesT : List (List UInt8) := [[100, 111, 110, 101], [116, 104, 101, 114, 101], [116, 97, 107, 101, 110], [110, 111, 110, 101], [110, 111, 116], [119, 104, 97, 116]]
theorem codesT_at {k : Nat} (h : k < 6) : codesT.getD k [] = codeB (k : Int) := by
  have h : k = 0 ∨ k = 1 ∨ k = 2 ∨ k = 3 ∨ k = 4 ∨ k = 5 := by omega
  rcases h with rfl | rfl | rfl | rfl | rfl | rfl <;> rfl
theorem codeB_no {code : Int} (h : ¬ (0 ≤ code ∧ code ≤ 5)) : codeB code = codeB 5 := by
  unfold codeB
  repeat' split
  all_goals first | rfl | omega
theorem codeB_len (code : Int) : (codeB code).length ≤ 5 := by
  unfold codeB
  repeat' split
  all_goals decide
set_option maxHeartbeats 4000000 in
set_option maxRecDepth 100000 in
theorem specResText_any (code : Int) (a : Option Addr) (n c : Nat) (xs : List Int) (w : World) (hA : IntAt w a n xs) (hx : In64s xs) (hn : n ≤ 1048576) :
    Calls Tryd.prog 18 #[.agg #[.int .i64 code, .slice a n c]] w fun e w' => TextSays e (resB code xs) ∧ Below w.heap.size w w' := by
  obtain ⟨W, hW⟩ : ∃ W, (w.alloc (.cells #[.int .i64 code, .slice a n c] 32)).alloc (.cells #[S [100, 111, 110, 101], S [116, 104, 101, 114, 101], S [116, 97, 107, 101, 110], S [110, 111, 110, 101], S [110, 111, 116], S [119, 104, 97, 116]] 9) = W := ⟨_, rfl⟩
  have HB0 : Hid (Below w.heap.size w W) := by rw [← hW]; exact ((Below.refl _ w).alloc (Nat.le_refl _) _).alloc (by simp) _
  have X0 : Hid (Box W w.heap.size #[.int .i64 code, .slice a n c] 32) := by rw [← hW]; exact (box_of w _ _).alloc _
  have N0 : Hid (∀ k, k < 6 → W.cell? ⟨w.heap.size + 1, k, none⟩ = some (S (codesT.getD k []))) := by
    intro k hk
    have hbx := box_of (w.alloc (.cells #[.int .i64 code, .slice a n c] 32)) #[S [100, 111, 110, 101], S [116, 104, 101, 114, 101], S [116, 97, 107, 101, 110], S [110, 111, 110, 101], S [110, 111, 116], S [119, 104, 97, 116]] 9
    rw [hW, World.size_alloc] at hbx
    rw [hbx.cell k]
    have h : k = 0 ∨ k = 1 ∨ k = 2 ∨ k = 3 ∨ k = 4 ∨ k = 5 := by omega
    rcases h with rfl | rfl | rfl | rfl | rfl | rfl <;> rfl
  have HW : Hid ((w.alloc (.cells #[.int .i64 code, .slice a n c] 32)).alloc (.cells #[S [100, 111, 110, 101], S [116, 104, 101, 114, 101], S [116, 97, 107, 101, 110], S [110, 111, 110, 101], S [110, 111, 116], S [119, 104, 97, 116]] 9) = W) := hW
  have HA : Hid (IntAt w a n xs) := hA
  have HI : Hid (In64s xs) := hx
  have HXL : Hid (xs.length = n) := hA.1
  clear hW hA hx
  -- which word it is
  obtain ⟨kk, hk6, hkc⟩ : ∃ kk : Nat, kk < 6 ∧ codeB code = codeB (kk : Int) ∧ (inB code 0 5 = true ∧ code = (kk : Int) ∨ inB code 0 5 = false ∧ kk = 5) := by
    by_cases h : 0 ≤ code ∧ code ≤ 5
    · exact ⟨code.toNat, by omega, by rw [show ((code.toNat : Nat) : Int) = code by omega], .inl ⟨inB_yes h, by omega⟩⟩
    · exact ⟨5, by omega, codeB_no h, .inr ⟨inB_no h, rfl⟩⟩
  obtain ⟨hcb, hwh⟩ := hkc
  have HCB : Hid (codeB code = codeB (kk : Int)) := hcb
  obtain ⟨nb, hnb⟩ : ∃ nb : ByteArray, nb = ⟨(codeB (kk : Int)).toArray⟩ := ⟨_, rfl⟩
  have HNL : Hid (nb.data.toList = codeB code) := by show _ = _; rw [hnb, hcb]
  have hnsz : nb.size ≤ 5 := by
    have h1 := codeB_len code
    rw [← HNL.out] at h1
    simpa using h1
  have c2 : W.cell? ⟨w.heap.size + 1, kk, none⟩ = some (.string nb) := by rw [N0.out kk hk6, codesT_at hk6, hnb]
  have hk0 : (0 : Int) ≤ (kk : Int) := by omega
  have hk5 : (kk : Int) < 6 := by omega
  obtain ⟨c0, c1, _, _⟩ := X0.out.two
  clear hnb hcb N0
  go_enter Tryd.func18, Tryd.ntmps18
  go_upto_region 2 with (fail)
  rw [HW.out]
  go_wp2_with fail
  refine (l1In_g code 0 5 _).mono ?_
  rintro e w1 ⟨rfl, hw1⟩
  rw [hw1]
  clear hw1
  have tail_no : n = 0 → resB code xs = codeB code := fun h => by
    have : xs = [] := List.length_eq_zero_iff.1 (by rw [HXL.out]; exact h)
    rw [resB, if_pos this]
  have tail_yes : ¬ n = 0 → resB code xs = codeB code ++ 32 :: numsB xs := fun h => by
    have : ¬ xs = [] := fun e => h (by rw [← HXL.out, e]; rfl)
    rw [resB, if_neg this]
  have HTN : Hid (n = 0 → resB code xs = codeB code) := tail_no
  have HTY : Hid (¬ n = 0 → resB code xs = codeB code ++ 32 :: numsB xs) := tail_yes
  clear tail_no tail_yes
  have K0 : Hid (W.drew.cell? ⟨w.heap.size + 1, kk, none⟩ = some (.string nb) ∧ W.drew.cell? ⟨w.heap.size, 1, none⟩ = some (.slice a n c)) := ⟨c2, c1⟩
  rcases hwh with ⟨hin, hcode⟩ | ⟨hin, hcode⟩
  · subst hcode
    rw [hin]
    clear hin
    by_cases hz : n = 0
    · have HZ : Hid (n = 0) := hz
      have hz1 : ¬ (0 : Int) < (n : Int) := by omega
      clear hz
      go_wp2
      go_ret
      exact ⟨⟨nb, rfl, HNL.out.trans (HTN.out HZ.out).symm⟩, HB0.out⟩
    · have HZ : Hid (¬ n = 0) := hz
      have hz1 : (0 : Int) < (n : Int) := by omega
      clear hz
      have hc1 : nb.size + 1 ≤ 9223372036854775807 := by omega
      have hc1' : ¬ (9223372036854775807 < nb.size + 1) := by omega
      have hcat : ∀ w : World, (binOp .add 9 (.string nb) (.string ⟨#[32]⟩)).run Tryd.prog w = .ok (.string (nb ++ ⟨#[32]⟩)) w := fun w => cat_str _ _ _ (by rw [size_str]; omega) w
      go_upto_region 6 with (fail)
      go_region_held3 (fun w' => w'.cell? ⟨w.heap.size + 1, kk, none⟩ = some (.string nb) ∧ w'.cell? ⟨w.heap.size, 1, none⟩ = some (.slice a n c))
        (first | (with_reducible exact K1.out) | (with_reducible exact K0.out) | go_keep)
        (first
        | (go_at_call 27
           refine (specNums_any a n c xs _ (HA.out.below HB0.out.drew (Nat.le_refl _)) HI.out).mono ?_
           rintro e w2 ⟨⟨s2, rfl, hs2⟩, hb2⟩
           have hz2 : s2.size ≤ 22 * n := by
             have h1 := numsB_len n xs HXL.out HI.out
             rw [← hs2] at h1
             simpa using h1
           have HS2 : Hid (s2.data.toList = numsB xs) := hs2
           have hc2 : nb.size + 1 + s2.size ≤ 9223372036854775807 := by omega
           have hc2' : ¬ (9223372036854775807 < nb.size + 1 + s2.size) := by omega
           have hcat2 : ∀ w : World, (binOp .add 9 (.string (nb ++ ⟨#[32]⟩)) (.string s2)).run Tryd.prog w = .ok (.string (nb ++ ⟨#[32]⟩ ++ s2)) w := fun w => cat_str _ _ _ (by rw [size_cat, size_str]; omega) w
           have hbx : Below W.heap.size W w2 := (Below.refl W.heap.size W).drew.trans hb2
           have HB2 : Hid (Below w.heap.size w w2) := HB0.out.trans (hbx.mono HB0.out.size)
           have K1 : Hid (w2.cell? ⟨w.heap.size + 1, kk, none⟩ = some (.string nb) ∧ w2.cell? ⟨w.heap.size, 1, none⟩ = some (.slice a n c)) := ⟨(hbx.cell (World.block_lt_of_cell? W _ c2)).trans c2, (hbx.cell (World.block_lt_of_cell? W _ c1)).trans c1⟩
           clear hs2 hb2 hbx))
      go_wp2
      go_ret
      refine ⟨⟨_, rfl, ?_⟩, HB2.out⟩
      rw [HTY.out HZ.out]
      simp [HNL.out, HS2.out]
  · subst hcode
    rw [hin]
    clear hin
    by_cases hz : n = 0
    · have HZ : Hid (n = 0) := hz
      have hz1 : ¬ (0 : Int) < (n : Int) := by omega
      clear hz
      go_wp2
      go_ret
      exact ⟨⟨nb, rfl, HNL.out.trans (HTN.out HZ.out).symm⟩, HB0.out⟩
    · have HZ : Hid (¬ n = 0) := hz
      have hz1 : (0 : Int) < (n : Int) := by omega
      clear hz
      have hc1 : nb.size + 1 ≤ 9223372036854775807 := by omega
      have hc1' : ¬ (9223372036854775807 < nb.size + 1) := by omega
      have hcat : ∀ w : World, (binOp .add 9 (.string nb) (.string ⟨#[32]⟩)).run Tryd.prog w = .ok (.string (nb ++ ⟨#[32]⟩)) w := fun w => cat_str _ _ _ (by rw [size_str]; omega) w
      go_upto_region 6 with (fail)
      go_region_held3 (fun w' => w'.cell? ⟨w.heap.size + 1, 5, none⟩ = some (.string nb) ∧ w'.cell? ⟨w.heap.size, 1, none⟩ = some (.slice a n c))
        (first | (with_reducible exact K1.out) | (with_reducible exact K0.out) | go_keep)
        (first
        | (go_at_call 27
           refine (specNums_any a n c xs _ (HA.out.below HB0.out.drew (Nat.le_refl _)) HI.out).mono ?_
           rintro e w2 ⟨⟨s2, rfl, hs2⟩, hb2⟩
           have hz2 : s2.size ≤ 22 * n := by
             have h1 := numsB_len n xs HXL.out HI.out
             rw [← hs2] at h1
             simpa using h1
           have HS2 : Hid (s2.data.toList = numsB xs) := hs2
           have hc2 : nb.size + 1 + s2.size ≤ 9223372036854775807 := by omega
           have hc2' : ¬ (9223372036854775807 < nb.size + 1 + s2.size) := by omega
           have hcat2 : ∀ w : World, (binOp .add 9 (.string (nb ++ ⟨#[32]⟩)) (.string s2)).run Tryd.prog w = .ok (.string (nb ++ ⟨#[32]⟩ ++ s2)) w := fun w => cat_str _ _ _ (by rw [size_cat, size_str]; omega) w
           have hbx : Below W.heap.size W w2 := (Below.refl W.heap.size W).drew.trans hb2
           have HB2 : Hid (Below w.heap.size w w2) := HB0.out.trans (hbx.mono HB0.out.size)
           have K1 : Hid (w2.cell? ⟨w.heap.size + 1, 5, none⟩ = some (.string nb) ∧ w2.cell? ⟨w.heap.size, 1, none⟩ = some (.slice a n c)) := ⟨(hbx.cell (World.block_lt_of_cell? W _ c2)).trans c2, (hbx.cell (World.block_lt_of_cell? W _ c1)).trans c1⟩
           clear hs2 hb2 hbx))
      go_wp2
      go_ret
      refine ⟨⟨_, rfl, ?_⟩, HB2.out⟩
      rw [HTY.out HZ.out]
      simp [HNL.out, HS2.out]
end Go.Proofs.YtkbodiggdajbeaaDoor

/- The program's tables of the words of kinds and of codes. -/
namespace Go.Proofs.YtkbodiggdajbeaaDoor
open Go.ChangeShapes Go.WideShapes Go.ChangeAt Go.RowKit Go.Lib

theorem cStr14 : Tryd.prog.cellsOf 9 = 1 := by kernel_rfl
theorem gOpNames : Tryd.prog.globalNamed "loop.example/g00468/impl.opNames" = some 0 := by kernel_rfl
theorem tOpNames : (Tryd.prog.globals[0]?).map (·.type) = some 82 := by kernel_rfl
theorem cOpNames : Tryd.prog.cellsOf 82 = 11 := by kernel_rfl
def OpNamesIs (w : World) : Prop := StrsIs Tryd.prog w "loop.example/g00468/impl.opNames" namesT
theorem OpNames_tab : (Rows.laid_loop_example_g00468_impl_opNames : DataW Unit) = strD namesT := by kernel_rfl
theorem OpNames_reads {H : Type} (enc : TypeId × Value → H) (W : World) (base : Nat) (sp : Nat → Bool) (held : Bool) : DataW.trod enc Tryd.prog W base sp held 4 82 (namesT.map S) = some (strD namesT, []) := by kernel_rfl
theorem OpNames_of_laid {r : List (String × DataW Unit)} {W : World} (h : laidMet Tryd.prog (("loop.example/g00468/impl.opNames", Rows.laid_loop_example_g00468_impl_opNames) :: r) W) : OpNamesIs W := by
  rw [OpNames_tab] at h
  exact strsIs_of_head gOpNames tOpNames Tryd.underlying82 Tryd.underlying9 cStr14 cOpNames h
theorem OpNames_open {H : Type} {enc : TypeId × Value → H} {W : World} {sp : Nat → Bool} {gs : List (DataW H)} {q : List MemPlace} (hN : OpNamesIs W)
    (hV : DataW.TrodVars enc Tryd.prog W sp ["loop.example/g00468/impl.opNames"] gs q) : gs = [strD namesT] :=
  strs_open hN gOpNames tOpNames (fun b h => OpNames_reads enc W b sp h) hV
theorem OpNames_shut {H : Type} {enc : TypeId × Value → H} {W : World} (sp : Nat → Bool) (hN : OpNamesIs W) :
    DataW.TrodVars enc Tryd.prog W sp ["loop.example/g00468/impl.opNames"] [strD namesT] (MemPlace.row ⟨0, 0, none⟩ (namesT.map S).toArray.size ++ []) :=
  trodVars_mk1 gOpNames tOpNames hN (OpNames_reads enc W _ _ _)
theorem OpNamesIs.below {w w' : World} {B : Nat} (h : OpNamesIs w) (hb : Below B w w') (hB : w.heap.size ≤ B) : OpNamesIs w' := StrsIs.below h gOpNames hb hB
/-- The words of codes. -/
def codesR : List (List UInt8) := [codeB 0, codeB 1, codeB 2, codeB 3, codeB 4]
theorem gResNames : Tryd.prog.globalNamed "loop.example/g00468/impl.resNames" = some 1 := by kernel_rfl
theorem tResNames : (Tryd.prog.globals[1]?).map (·.type) = some 91 := by kernel_rfl
theorem cResNames : Tryd.prog.cellsOf 91 = 5 := by kernel_rfl
def ResNamesIs (w : World) : Prop := StrsIs Tryd.prog w "loop.example/g00468/impl.resNames" codesR
theorem ResNames_tab : (Rows.laid_loop_example_g00468_impl_resNames : DataW Unit) = strD codesR := by kernel_rfl
theorem ResNames_reads {H : Type} (enc : TypeId × Value → H) (W : World) (base : Nat) (sp : Nat → Bool) (held : Bool) : DataW.trod enc Tryd.prog W base sp held 4 91 (codesR.map S) = some (strD codesR, []) := by kernel_rfl
theorem ResNames_of_laid {r : List (String × DataW Unit)} {W : World} (h : laidMet Tryd.prog (("loop.example/g00468/impl.resNames", Rows.laid_loop_example_g00468_impl_resNames) :: r) W) : ResNamesIs W := by
  rw [ResNames_tab] at h
  exact strsIs_of_head gResNames tResNames Tryd.underlying91 Tryd.underlying9 cStr14 cResNames h
theorem ResNames_open {H : Type} {enc : TypeId × Value → H} {W : World} {sp : Nat → Bool} {gs : List (DataW H)} {q : List MemPlace} (hN : ResNamesIs W)
    (hV : DataW.TrodVars enc Tryd.prog W sp ["loop.example/g00468/impl.resNames"] gs q) : gs = [strD codesR] :=
  strs_open hN gResNames tResNames (fun b h => ResNames_reads enc W b sp h) hV
theorem ResNames_shut {H : Type} {enc : TypeId × Value → H} {W : World} (sp : Nat → Bool) (hN : ResNamesIs W) :
    DataW.TrodVars enc Tryd.prog W sp ["loop.example/g00468/impl.resNames"] [strD codesR] (MemPlace.row ⟨1, 0, none⟩ (codesR.map S).toArray.size ++ []) :=
  trodVars_mk1 gResNames tResNames hN (ResNames_reads enc W _ _ _)
theorem ResNamesIs.below {w w' : World} {B : Nat} (h : ResNamesIs w) (hb : Below B w w') (hB : w.heap.size ≤ B) : ResNamesIs w' := StrsIs.below h gResNames hb hB
end Go.Proofs.YtkbodiggdajbeaaDoor
