/- Texts joined: ShelfB, ImplSh, TabS, Tab14, ImplOp, ImplTx, ImplNums, ImplRt, EndedO, ImplCt, ImplRx, AnewW, ImplIn. -/
import Derived.Test.YtkbodiggdajbeaaGreatDoorMT06
import Derived.Test.YtkbodiggdajbeaaGreatDoorMT01
import Derived.Deep.Cut
import Derived.WalkKit
import Derived.WalkSmall
import Derived.ProofKit
import Derived.Below
import Derived.Lib.LaidTab
import Derived.ChangeArms
import Derived.ChangeVars
import Derived.ChangeReads
import Derived.LaidMore
import Derived.Lib.SmallJoins
import Derived.Test.YtkbodiggdajbeaaGreatDoorRows
import Derived.Test.YtkbodiggdajbeaaGreatDoorMT02
import Derived.KernelRfl
import Derived.Test.YtkbodiggdajbeaaGreatDoorMT03
import Derived.Deep.RegionHeld3
import Derived.Test.YtkbodiggdajbeaaGreatDoorMT05
/- (*strings.Builder).WriteString and WriteByte, by the library's contracts: the kit's own laying of these two falls (a type that their bodies do not name), so they go by the laying of strings.Join, whose closure holds them. -/
namespace Go.Proofs
open Go.Shelf Go.RowKit

def Tryz.lays167_ren : Go.Shelf.Ren := ⟨fun | 167 => 54 | n => Tryz.lays156_ren.f n, Tryz.lays156_ren.t, Tryz.lays156_ren.g⟩
theorem Tryz.Builder_WriteString (B b : Nat) (bs : List Value) (s : ByteArray) (w : World) (h : Lib.IsBuilder 110 5 B b bs w) (hlen : bs.length + s.size ≤ 140737488355328) (hBw : B ≤ w.heap.size) :
    Calls Tryz.prog 53 #[.pointer (some ⟨b, 0, none⟩), .string s] w fun e w' => e = .returned (.tuple #[.int .i64 s.size, .nilIface]) ∧ (Lib.BuilderAt 110 5 B b (.pointer (some ⟨b, 0, none⟩)) (bs ++ Lib.strCells s) w' ∧ Below B w w') :=
  Any.Builder_WriteString (ρ := Tryz.lays156_ren) { Tryz.lays156, Tryz.Builder_Extra_156 with } Tryz.Builder_Extra_156 B b bs s w h hlen hBw
set_option maxRecDepth 100000 in
theorem Tryz.lays167 : Go.Proofs.Lays.n167 Tryz.prog Tryz.lays167_ren := {
  mixed := Tryz.lays156.mixed
  f240 := Tryz.lays156.f240
  f276 := Tryz.lays156.f276
  t0 := Tryz.lays156.t0
  a0 := Tryz.lays156.a0
  z0 := Tryz.lays156.z0
  v0 := Tryz.lays156.v0
  t4 := Tryz.lays156.t4
  a4 := Tryz.lays156.a4
  z4 := Tryz.lays156.z4
  v4 := Tryz.lays156.v4
  t9 := Tryz.lays156.t9
  a9 := Tryz.lays156.a9
  z9 := Tryz.lays156.z9
  v9 := Tryz.lays156.v9
  t20 := Tryz.lays156.t20
  a20 := Tryz.lays156.a20
  z20 := Tryz.lays156.z20
  v20 := Tryz.lays156.v20
  t37 := Tryz.lays156.t37
  a37 := Tryz.lays156.a37
  z37 := Tryz.lays156.z37
  v37 := Tryz.lays156.v37
  t70 := Tryz.lays156.t70
  a70 := Tryz.lays156.a70
  z70 := Tryz.lays156.z70
  v70 := Tryz.lays156.v70
  t72 := Tryz.lays156.t72
  a72 := Tryz.lays156.a72
  z72 := Tryz.lays156.z72
  v72 := Tryz.lays156.v72
  t75 := Tryz.lays156.t75
  a75 := Tryz.lays156.a75
  z75 := Tryz.lays156.z75
  v75 := Tryz.lays156.v75
  t164 := Tryz.lays156.t164
  a164 := Tryz.lays156.a164
  z164 := Tryz.lays156.z164
  v164 := Tryz.lays156.v164
  t5 := Tryz.Builder_Extra_156.t5
  a5 := Tryz.Builder_Extra_156.a5
  z5 := Tryz.Builder_Extra_156.z5
  v5 := Tryz.Builder_Extra_156.v5
  f167 := Tryz.func54.trans (congrArg some (by kernel_rfl)) }
set_option maxRecDepth 100000 in
theorem Tryz.Builder_Extra_167 : Builder.Extra Tryz.prog Tryz.lays167_ren := {
  sizeBuilder := Tryz.Builder_Extra_156.sizeBuilder
  liesBuilder := Tryz.Builder_Extra_156.liesBuilder
  t5 := Tryz.Builder_Extra_156.t5
  a5 := Tryz.Builder_Extra_156.a5
  z5 := Tryz.Builder_Extra_156.z5
  v5 := Tryz.Builder_Extra_156.v5
  infoByte := Tryz.Builder_Extra_156.infoByte
  cellsByte := Tryz.Builder_Extra_156.cellsByte
  sizeByte := Tryz.Builder_Extra_156.sizeByte
  neB5 := Tryz.Builder_Extra_156.neB5 }
theorem Tryz.Builder_WriteByte (B b : Nat) (bs : List Value) (c : Int) (w : World) (h : Lib.IsBuilder 110 5 B b bs w) (hlen : bs.length + 1 ≤ 140737488355328) (hBw : B ≤ w.heap.size) :
    Calls Tryz.prog 54 #[.pointer (some ⟨b, 0, none⟩), .int .u8 c] w fun e w' => e = .returned .nilIface ∧ (Lib.BuilderAt 110 5 B b (.pointer (some ⟨b, 0, none⟩)) (bs ++ [.int .u8 c]) w' ∧ Below B w w') :=
  Any.Builder_WriteByte Tryz.lays167 Tryz.Builder_Extra_167 B b bs c w h hlen hBw
end Go.Proofs

/- The program's parts: what each tells, and shown, by the library's contracts of strings.Builder. -/
namespace Go.Proofs.YtkbodiggdajbeaaGreatDoor
open Go.ChangeShapes Go.WideShapes Go.ChangeAt Go.RowKit
open Go.Lib (itoa IsBuilder BuilderAt byteCells strCells byteCells_length strCells_eq byteCells_append fresh_isBuilder)

theorem builder_below {T e : TypeId} {B b : Nat} {bs : List Value} {w w' : World} (h : IsBuilder T e B b bs w) (hb : Below w.heap.size w w') : IsBuilder T e B b bs w' := by
  have go : ∀ p, BuilderAt T e B b p bs w → BuilderAt T e B b p bs w' := by
    rintro p ⟨h1, v, h2, h3, h4⟩
    refine ⟨h1, v, ?_, owns_below h3 hb (Nat.le_refl _), h4⟩
    rw [hb.block _ (Array.getElem?_eq_some_iff.1 h2).1]
    exact h2
  exact h.elim (fun x => .inl (go _ x)) (fun x => .inr (go _ x))
theorem fits_one {l a b : List UInt8} {s : ByteArray} (h : l.length ≤ 70368744177664) (e : l = a ++ b) (hz : s.size + 1 ≤ b.length) : (byteCells (a ++ s.data.toList)).length + 1 ≤ 140737488355328 := by
  rw [byteCells_length, List.length_append]
  rw [e, List.length_append] at h
  have h3 : s.data.toList.length = s.size := by simp
  omega
theorem ten_cells : [Value.int .u8 10] = byteCells [10] := rfl
set_option maxHeartbeats 1000000 in
theorem numberText_any (n : Int) (h0 : -9223372036854775808 ≤ n) (h1 : n ≤ 9223372036854775807) (w : World) (htab : Lib.TabIs Tryz.prog w "internal/strconv.uint64pow10" .u64 Lib.pow10Tab) :
    Calls Tryz.prog 148 #[.int .i64 n] w fun e w' => e = .returned (.string ⟨(itoa n).toArray⟩) ∧ Below w.heap.size w w' := by
  go_enter Tryz.func148, Tryz.ntmps148
  go_wp2_with fail
  refine (implDigits_any n h0 h1 _ htab).mono ?_
  rintro e w1 ⟨rfl, hb1⟩
  go_wp2
  go_ret
  exact ⟨rfl, hb1⟩
theorem pieceText_any (s : ByteArray) (w : World) : Calls Tryz.prog 147 #[.string s] w fun e w' => e = .returned (.string s) ∧ Below w.heap.size w w' := by
  go_enter Tryz.func147, Tryz.ntmps147
  go_wp2
  go_ret
  exact ⟨rfl, Below.refl _ _⟩
theorem lineText_any (s : ByteArray) (w : World) : Calls Tryz.prog 146 #[.string s] w fun e w' => e = .returned (.string s) ∧ Below w.heap.size w w' := by
  go_enter Tryz.func146, Tryz.ntmps146
  go_wp2
  go_ret
  exact ⟨rfl, Below.refl _ _⟩
set_option maxHeartbeats 4000000 in
set_option maxRecDepth 100000 in
theorem implShown_any (a : Option Addr) (n c : Nat) (ps : List Pt) (w : World) (hP : PtsAt w a n ps) (hO : ∀ x ∈ ps, PtOk x) (hn : n ≤ 1073741824) (hL : (shownB ps).length ≤ 70368744177664) (htab : Lib.TabIs Tryz.prog w "internal/strconv.uint64pow10" .u64 Lib.pow10Tab) :
    Calls Tryz.prog 27 #[.slice a n c] w fun e w' => TextSays e (shownB ps) ∧ Below w.heap.size w w' := by
  obtain ⟨B, hBq⟩ : ∃ B, w.heap.size = B := ⟨_, rfl⟩
  obtain ⟨W, hW⟩ : ∃ W, w.alloc (.cells #[.pointer none, .slice none 0 0] 110) = W := ⟨_, rfl⟩
  have HI0 : Hid (IsBuilder 110 5 B B (byteCells (shownB (ps.take 0))) W) := by rw [← hW, ← hBq]; exact fresh_isBuilder _ _ _
  have HB0 : Hid (Below B w W) := by rw [← hW, ← hBq]; exact (Below.refl _ w).alloc (Nat.le_refl _) _
  have HW : Hid (w.alloc (.cells #[.pointer none, .slice none 0 0] 110) = W) := hW
  have HBQ : Hid (w.heap.size = B) := hBq
  have HTAB : Hid (Lib.TabIs Tryz.prog w "internal/strconv.uint64pow10" .u64 Lib.pow10Tab) := htab
  have HP : Hid (PtsAt w a n ps) := hP
  have HO : Hid (∀ x ∈ ps, PtOk x) := hO
  have HL : Hid ((shownB ps).length ≤ 70368744177664) := hL
  have hpl := hP.1
  clear hW hBq hP hO hL htab
  go_enter Tryz.func27, Tryz.ntmps27
  go_upto_region 2 with (fail)
  rw [HW.out]
  (try rw [HBQ.out])
  go_wp2
  go_loopw [10] (fun i wr => ∃ j : Nat, j ≤ n ∧ i = .int .i64 (j : Int) ∧ IsBuilder 110 5 B B (byteCells (shownB (ps.take j))) wr ∧ Below B w wr) (fun i _ => n - (intOf i).toNat)
  case atStart => exact ⟨0, Nat.zero_le _, rfl, HI0.out, HB0.out⟩
  case round =>
    obtain ⟨j, hj, rfl, hi, hb⟩ := hrel
    have HI : Hid (IsBuilder 110 5 B B (byteCells (shownB (ps.take j))) wr) := hi
    have HB : Hid (Below B w wr) := hb
    have HBS : Hid (B ≤ wr.heap.size) := by have h1 := hb.size; rw [HBQ.out] at h1; exact h1
    clear hi hb
    by_cases hlt : j < n
    · rcases (HP.out.below HB.out (Nat.le_of_eq HBQ.out)).2 with h0 | ⟨p1, o1, rfl, g1⟩
      · omega
      obtain ⟨x, hx⟩ : ∃ x, ps[j]? = some x := ⟨_, List.getElem?_eq_getElem (by omega)⟩
      have e1 := g1 j x hx
      have hxo : PtOk x := HO.out x (List.mem_of_getElem? hx)
      have HNX : Hid (shownB (ps.take (j + 1)) = shownB (ps.take j) ++ ptB x) := shown_succ hx
      have HLEN : Hid ((shownB (ps.take (j + 1))).length ≤ 70368744177664) := Nat.le_trans (shown_le ps _) HL.out
      have HTB : Hid (Lib.TabIs Tryz.prog wr "internal/strconv.uint64pow10" .u64 Lib.pow10Tab) := Joins.tab_stays gTab HTAB.out HB.out (Nat.le_of_eq HBQ.out)
      clear g1 hx
      cases x with
      | num m =>
        have ht : ∀ w : World, (Instr.typeAssert (.iface 105 (.int .i64 m)) 112 67 true).run Tryz.prog w = .ok (.tuple #[(.string ⟨#[]⟩), .bool false]) w := fun _ => by kernel_rfl
        have hm : ∀ w : World, (method 344 105 (.int .i64 m) "loop.example/g00468/impl.text").run Tryz.prog w = .ok (148, .int .i64 m) w := fun _ => by kernel_rfl
        rw [show ptV (.num m) = .iface 105 (.int .i64 m) from rfl] at e1
        go_wp2_with fail
        refine (numberText_any m hxo.1 hxo.2 _ HTB.out).mono ?_
        obtain ⟨sx, hsx⟩ : ∃ sx : ByteArray, sx = ⟨(itoa m).toArray⟩ := ⟨_, rfl⟩
        rw [← hsx]
        rintro e w2 ⟨rfl, hb2⟩
        have HSX : Hid (sx.data.toList = ptB (.num m)) := by show _ = itoa m; rw [hsx]
        clear hsx hxo
        have HZ : Hid (sx.size ≤ (ptB (.num m)).length) := by show _ ≤ _; rw [← HSX.out]; simp
        have HBC : Hid (Below B wr w2) := hb2.mono HBS.out
        have HB2 : Hid (Below B w w2) := HB.out.trans HBC.out
        have hB2 : B ≤ w2.heap.size := Nat.le_trans HBS.out hb2.size
        have HI2 : Hid (IsBuilder 110 5 B B (byteCells (shownB (ps.take j))) w2) := builder_below HI.out hb2
        clear hb2 e1 hm
        go_wp2_with fail
        refine (Tryz.Builder_WriteString B B _ sx w2 HI2.out (by rw [byteCells_length]; have := HLEN.out; rw [HNX.out, List.length_append] at this; have h2 := HZ.out; omega) hB2).mono ?_
        rintro e w3 ⟨rfl, hi3, hb3⟩
        rw [strCells_eq, HSX.out, ← byteCells_append] at hi3
        have HI3 : Hid (BuilderAt 110 5 B B _ _ w3) := hi3
        have HB3 : Hid (Below B w w3) := HB2.out.trans hb3
        have hB3 : B ≤ w3.heap.size := Nat.le_trans hB2 hb3.size
        clear hi3 hb3
        have hIN : IsBuilder 110 5 B B (byteCells (shownB (ps.take (j + 1)))) w3 := by
          rw [HNX.out]
          exact .inr HI3.out
        go_wp2
        go_roundw
        case rel => exact ⟨j + 1, by omega, by go_num, hIN, HB3.out⟩
        case measure => simp [intOf]; omega
      | pc s =>
        have ht : ∀ w : World, (Instr.typeAssert (.iface 104 (.string s)) 112 67 true).run Tryz.prog w = .ok (.tuple #[(.string ⟨#[]⟩), .bool false]) w := fun _ => by kernel_rfl
        have hm : ∀ w : World, (method 344 104 (.string s) "loop.example/g00468/impl.text").run Tryz.prog w = .ok (147, .string s) w := fun _ => by kernel_rfl
        rw [show ptV (.pc s) = .iface 104 (.string s) from rfl] at e1
        go_wp2_with fail
        refine (pieceText_any s _).mono ?_
        rintro e w2 ⟨rfl, hb2⟩
        have HZ : Hid (s.size ≤ (ptB (.pc s)).length) := by show _ ≤ _; show _ ≤ s.data.toList.length; simp
        have HBC : Hid (Below B wr w2) := hb2.mono HBS.out
        have HB2 : Hid (Below B w w2) := HB.out.trans HBC.out
        have hB2 : B ≤ w2.heap.size := Nat.le_trans HBS.out hb2.size
        have HI2 : Hid (IsBuilder 110 5 B B (byteCells (shownB (ps.take j))) w2) := builder_below HI.out hb2
        clear hb2 e1 hm
        go_wp2_with fail
        refine (Tryz.Builder_WriteString B B _ s w2 HI2.out (by rw [byteCells_length]; have := HLEN.out; rw [HNX.out, List.length_append] at this; have h2 := HZ.out; omega) hB2).mono ?_
        rintro e w3 ⟨rfl, hi3, hb3⟩
        rw [strCells_eq, ← byteCells_append] at hi3
        have HI3 : Hid (BuilderAt 110 5 B B _ _ w3) := hi3
        have HB3 : Hid (Below B w w3) := HB2.out.trans hb3
        have hB3 : B ≤ w3.heap.size := Nat.le_trans hB2 hb3.size
        clear hi3 hb3
        have hIN : IsBuilder 110 5 B B (byteCells (shownB (ps.take (j + 1)))) w3 := by
          rw [HNX.out]
          exact .inr HI3.out
        go_wp2
        go_roundw
        case rel => exact ⟨j + 1, by omega, by go_num, hIN, HB3.out⟩
        case measure => simp [intOf]; omega
      | ln s =>
        have ht : ∀ w : World, (Instr.typeAssert (.iface 67 (.string s)) 112 67 true).run Tryz.prog w = .ok (.tuple #[(.string s), .bool true]) w := fun _ => by kernel_rfl
        have hm : ∀ w : World, (method 344 67 (.string s) "loop.example/g00468/impl.text").run Tryz.prog w = .ok (146, .string s) w := fun _ => by kernel_rfl
        rw [show ptV (.ln s) = .iface 67 (.string s) from rfl] at e1
        go_wp2_with fail
        refine (lineText_any s _).mono ?_
        rintro e w2 ⟨rfl, hb2⟩
        have HZ : Hid (s.size + 1 ≤ (ptB (.ln s)).length) := by show _ ≤ _; show _ ≤ (s.data.toList ++ [10]).length; simp
        have HBC : Hid (Below B wr w2) := hb2.mono HBS.out
        have HB2 : Hid (Below B w w2) := HB.out.trans HBC.out
        have hB2 : B ≤ w2.heap.size := Nat.le_trans HBS.out hb2.size
        have HI2 : Hid (IsBuilder 110 5 B B (byteCells (shownB (ps.take j))) w2) := builder_below HI.out hb2
        clear hb2 e1 hm
        go_wp2_with fail
        refine (Tryz.Builder_WriteString B B _ s w2 HI2.out (by rw [byteCells_length]; have := HLEN.out; rw [HNX.out, List.length_append] at this; have h2 := HZ.out; omega) hB2).mono ?_
        rintro e w3 ⟨rfl, hi3, hb3⟩
        rw [strCells_eq, ← byteCells_append] at hi3
        have HI3 : Hid (BuilderAt 110 5 B B _ _ w3) := hi3
        have HB3 : Hid (Below B w w3) := HB2.out.trans hb3
        have hB3 : B ≤ w3.heap.size := Nat.le_trans hB2 hb3.size
        clear hi3 hb3
        go_wp2_with fail
        refine (Tryz.Builder_WriteByte B B _ 10 w3 (.inr HI3.out) (fits_one HLEN.out HNX.out HZ.out) hB3).mono ?_
        rintro e w4 ⟨rfl, hi4, hb4⟩
        rw [ten_cells, ← byteCells_append] at hi4
        have HI4 : Hid (BuilderAt 110 5 B B _ _ w4) := hi4
        have HB4 : Hid (Below B w w4) := HB3.out.trans hb4
        clear hi4 hb4
        have hIN : IsBuilder 110 5 B B (byteCells (shownB (ps.take (j + 1)))) w4 := by
          rw [HNX.out]
          have h4 := HI4.out
          rw [List.append_assoc] at h4
          exact .inr h4
        go_wp2
        go_roundw
        case rel => exact ⟨j + 1, by omega, by go_num, hIN, HB4.out⟩
        case measure => simp [intOf]; omega
    · obtain rfl : j = n := by omega
      have HEND : Hid (ps.take j = ps) := by show _ = _; rw [List.take_of_length_le (by omega)]
      go_wp2_with fail
      have hI := HI.out
      rw [HEND.out] at hI
      refine (Tryz.Builder_String_any B B _ wr hI HBS.out).mono ?_
      rintro e w5 ⟨rfl, hb5⟩
      have HB5 : Hid (Below B w w5) := HB.out.trans hb5
      clear hb5 hI
      go_wp2
      go_ret
      exact ⟨⟨_, rfl, rfl⟩, by rw [HBQ.out]; exact HB5.out⟩
end Go.Proofs.YtkbodiggdajbeaaGreatDoor

/- A table of texts at package level, from the row's condition to memory and back. No program. -/
namespace Go.Proofs.YtkbodiggdajbeaaGreatDoor
open Go.ChangeShapes Go.WideShapes Go.ChangeAt Go.RowKit Go.Lib

/-- The table as a row lists it. -/
def strD {H : Type} (zs : List (List UInt8)) : DataW H := .agg (zs.map fun z => .lit (.string z))
/-- The variable holds just these texts. -/
def StrsIs (P : Program) (w : World) (name : String) (zs : List (List UInt8)) : Prop := w.var? P name = some (zs.map S).toArray
theorem cells_of_strs {H : Type} {enc : TypeId × Value → H} {P : Program} {w : World} {base : Nat} {sp : Nat → Bool} {held : Bool} {fuel : Nat} {t e : TypeId} {n : Nat} {cs : List Value} {zs : List (List UInt8)} {p : List MemPlace}
    (ht : P.underlying t = some (.array n e)) (he : P.underlying e = some .string) (hce : P.cellsOf e = 1) (hct : P.cellsOf t = n)
    (h : DataW.trod enc P w base sp held fuel t cs = some (strD zs, p)) : cs = zs.map S := by
  cases fuel with
  | zero => simp [DataW.trod] at h
  | succ fuel =>
    simp only [DataW.trod, ht, hce, hct, Nat.mul_one] at h
    split at h
    · rename_i hl
      obtain ⟨xs, hm, hx⟩ := Option.map_eq_some_iff.1 h
      have hxs : xs.map (·.1) = zs.map fun z => (DataW.lit (.string z) : DataW H) := by
        have := congrArg Prod.fst hx
        simpa [strD] using this
      have hxl : xs.length = n := by simpa using mapM_length hm
      have hzl : zs.length = n := by
        have := congrArg List.length hxs
        simp at this
        omega
      apply List.ext_getElem?
      intro i
      by_cases hi : i < n
      · obtain ⟨b, hb, hf⟩ := mapM_at hm i i (by simp [hi])
        obtain ⟨z, hc, rfl, _⟩ := DataW.trod_string he hf
        have h1 : cs[i]? = some (.string z) := by
          have := congrArg (·[0]?) hc
          simpa [List.getElem?_take, List.getElem?_drop] using this
        have h2 : (xs.map (·.1))[i]? = some (DataW.lit (.string z.data.toList) : DataW H) := by simp [hb]
        rw [hxs] at h2
        simp only [List.getElem?_map, Option.map_eq_some_iff, DataW.lit.injEq, Lit.string.injEq] at h2
        obtain ⟨z', hz', hz2⟩ := h2
        rw [h1, str_S, List.getElem?_map, hz', hz2]
        rfl
      · rw [List.getElem?_eq_none (by omega), List.getElem?_eq_none (by simp; omega)]
    · cases h
theorem strsIs_of_head {P : Program} {W : World} {name : String} {zs : List (List UInt8)} {rest : List (String × DataW Unit)} {g : Nat} {t e : TypeId} {n : Nat}
    (hg : P.globalNamed name = some g) (hty : (P.globals[g]?).map (·.type) = some t) (ht : P.underlying t = some (.array n e)) (he : P.underlying e = some .string) (hce : P.cellsOf e = 1) (hct : P.cellsOf t = n)
    (h : laidMet P ((name, strD zs) :: rest) W) : StrsIs P W name zs := by
  obtain ⟨ps, ⟨g', t', cs, fuel, p, q, hg', ht', hvar, hd, _, _⟩, _⟩ := h
  obtain rfl := Option.some.inj (hg.symm.trans hg')
  obtain rfl := Option.some.inj (hty.symm.trans ht')
  unfold StrsIs
  rw [hvar, ← cells_of_strs ht he hce hct hd]
theorem StrsIs.cell {P : Program} {W : World} {name : String} {zs : List (List UInt8)} {g : Nat} (h : StrsIs P W name zs) (hg : P.globalNamed name = some g) (i : Nat) (hi : i < zs.length) :
    W.cell? ⟨g, i, none⟩ = some (S (zs.getD i [])) := by
  have := World.var?_cell hg h i
  simpa [List.getD, hi] using this
theorem StrsIs.lt {P : Program} {w : World} {name : String} {zs : List (List UInt8)} {g : Nat} (h : StrsIs P w name zs) (hg : P.globalNamed name = some g) : g < w.heap.size := by
  unfold StrsIs at h
  simp only [World.var?, hg, Option.bind_some] at h
  split at h
  · rename_i c t fr hb
    exact (Array.getElem?_eq_some_iff.1 hb).1
  · cases h
theorem StrsIs.below {P : Program} {w w' : World} {name : String} {zs : List (List UInt8)} {g B : Nat} (h : StrsIs P w name zs) (hg : P.globalNamed name = some g) (hb : Below B w w') (hB : w.heap.size ≤ B) : StrsIs P w' name zs :=
  var?_below hb hg (Nat.lt_of_lt_of_le (h.lt hg) hB) h
/-- What the table reads as, ahead of the call and behind it. -/
theorem strs_open {H : Type} {enc : TypeId × Value → H} {P : Program} {W : World} {sp : Nat → Bool} {name : String} {zs : List (List UInt8)} {gs : List (DataW H)} {q : List MemPlace} {g : Nat} {t : TypeId} (hN : StrsIs P W name zs)
    (hg : P.globalNamed name = some g) (hty : (P.globals[g]?).map (·.type) = some t)
    (hr : ∀ base held, DataW.trod enc P W base sp held 4 t (zs.map S) = some (strD zs, []))
    (hV : DataW.TrodVars enc P W sp [name] gs q) : gs = [strD zs] := by
  obtain ⟨g1, t1, cs, fuel, d, p', rfl, hg1, ht1, hvar, hd, rfl⟩ := trodVars_one hV
  obtain rfl := Option.some.inj (hg.symm.trans hg1)
  obtain rfl := Option.some.inj (hty.symm.trans ht1)
  obtain rfl : cs = (zs.map S).toArray := Option.some.inj (hvar.symm.trans hN)
  obtain ⟨rfl, rfl⟩ := DataW.Trod.unique (v := .agg (zs.map S).toArray) ⟨fuel, hd⟩ ⟨4, by simpa [Value.cells] using hr _ _⟩
  rfl
end Go.Proofs.YtkbodiggdajbeaaGreatDoor

/- The program's tables of the words of kinds and of codes. -/
namespace Go.Proofs.YtkbodiggdajbeaaGreatDoor
open Go.ChangeShapes Go.WideShapes Go.ChangeAt Go.RowKit Go.Lib

theorem cStr14 : Tryz.prog.cellsOf 9 = 1 := by kernel_rfl
theorem gOpNames : Tryz.prog.globalNamed "loop.example/g00468/impl.opNames" = some 0 := by kernel_rfl
theorem tOpNames : (Tryz.prog.globals[0]?).map (·.type) = some 162 := by kernel_rfl
theorem cOpNames : Tryz.prog.cellsOf 162 = 11 := by kernel_rfl
def OpNamesIs (w : World) : Prop := StrsIs Tryz.prog w "loop.example/g00468/impl.opNames" namesT
theorem OpNames_tab : (Rows.laid_loop_example_g00468_impl_opNames : DataW Unit) = strD namesT := by kernel_rfl
theorem OpNames_reads {H : Type} (enc : TypeId × Value → H) (W : World) (base : Nat) (sp : Nat → Bool) (held : Bool) : DataW.trod enc Tryz.prog W base sp held 4 162 (namesT.map S) = some (strD namesT, []) := by kernel_rfl
theorem OpNames_of_laid {r : List (String × DataW Unit)} {W : World} (h : laidMet Tryz.prog (("loop.example/g00468/impl.opNames", Rows.laid_loop_example_g00468_impl_opNames) :: r) W) : OpNamesIs W := by
  rw [OpNames_tab] at h
  exact strsIs_of_head gOpNames tOpNames Tryz.underlying162 Tryz.underlying9 cStr14 cOpNames h
theorem OpNames_open {H : Type} {enc : TypeId × Value → H} {W : World} {sp : Nat → Bool} {gs : List (DataW H)} {q : List MemPlace} (hN : OpNamesIs W)
    (hV : DataW.TrodVars enc Tryz.prog W sp ["loop.example/g00468/impl.opNames"] gs q) : gs = [strD namesT] :=
  strs_open hN gOpNames tOpNames (fun b h => OpNames_reads enc W b sp h) hV
theorem OpNames_shut {H : Type} {enc : TypeId × Value → H} {W : World} (sp : Nat → Bool) (hN : OpNamesIs W) :
    DataW.TrodVars enc Tryz.prog W sp ["loop.example/g00468/impl.opNames"] [strD namesT] (MemPlace.row ⟨0, 0, none⟩ (namesT.map S).toArray.size ++ []) :=
  trodVars_mk1 gOpNames tOpNames hN (OpNames_reads enc W _ _ _)
theorem OpNamesIs.below {w w' : World} {B : Nat} (h : OpNamesIs w) (hb : Below B w w') (hB : w.heap.size ≤ B) : OpNamesIs w' := StrsIs.below h gOpNames hb hB
/-- The words of codes. -/
def codesR : List (List UInt8) := [codeB 0, codeB 1, codeB 2, codeB 3, codeB 4]
theorem gResNames : Tryz.prog.globalNamed "loop.example/g00468/impl.resNames" = some 2 := by kernel_rfl
theorem tResNames : (Tryz.prog.globals[2]?).map (·.type) = some 192 := by kernel_rfl
theorem cResNames : Tryz.prog.cellsOf 192 = 5 := by kernel_rfl
def ResNamesIs (w : World) : Prop := StrsIs Tryz.prog w "loop.example/g00468/impl.resNames" codesR
theorem ResNames_tab : (Rows.laid_loop_example_g00468_impl_resNames : DataW Unit) = strD codesR := by kernel_rfl
theorem ResNames_reads {H : Type} (enc : TypeId × Value → H) (W : World) (base : Nat) (sp : Nat → Bool) (held : Bool) : DataW.trod enc Tryz.prog W base sp held 4 192 (codesR.map S) = some (strD codesR, []) := by kernel_rfl
theorem ResNames_of_laid {r : List (String × DataW Unit)} {W : World} (h : laidMet Tryz.prog (("loop.example/g00468/impl.resNames", Rows.laid_loop_example_g00468_impl_resNames) :: r) W) : ResNamesIs W := by
  rw [ResNames_tab] at h
  exact strsIs_of_head gResNames tResNames Tryz.underlying192 Tryz.underlying9 cStr14 cResNames h
theorem ResNames_open {H : Type} {enc : TypeId × Value → H} {W : World} {sp : Nat → Bool} {gs : List (DataW H)} {q : List MemPlace} (hN : ResNamesIs W)
    (hV : DataW.TrodVars enc Tryz.prog W sp ["loop.example/g00468/impl.resNames"] gs q) : gs = [strD codesR] :=
  strs_open hN gResNames tResNames (fun b h => ResNames_reads enc W b sp h) hV
theorem ResNames_shut {H : Type} {enc : TypeId × Value → H} {W : World} (sp : Nat → Bool) (hN : ResNamesIs W) :
    DataW.TrodVars enc Tryz.prog W sp ["loop.example/g00468/impl.resNames"] [strD codesR] (MemPlace.row ⟨2, 0, none⟩ (codesR.map S).toArray.size ++ []) :=
  trodVars_mk1 gResNames tResNames hN (ResNames_reads enc W _ _ _)
theorem ResNamesIs.below {w w' : World} {B : Nat} (h : ResNamesIs w) (hb : Below B w w') (hB : w.heap.size ≤ B) : ResNamesIs w' := StrsIs.below h gResNames hb hB
end Go.Proofs.YtkbodiggdajbeaaGreatDoor

/- impl.deedOf and impl.OpOk, walked. -/
namespace Go.Proofs.YtkbodiggdajbeaaGreatDoor
open Go.ChangeShapes Go.WideShapes Go.ChangeAt Go.RowKit

/-- The type of an op of that kind. -/
def deedT (kind : Int) : TypeId :=
  if kind = 1 then 202 else if kind = 2 then 203 else if kind = 3 then 204
  else if kind = 4 then 205 else if kind = 5 then 206 else if kind = 6 then 207
  else if kind = 7 then 208 else if kind = 8 then 209 else if kind = 9 then 210
  else if kind = 10 then 211 else 212
/-- An op of its own kind as a value. -/
abbrev DeedV (kind k v : Int) : Value := .iface (deedT kind) (OpV kind k v)

set_option maxHeartbeats 2000000 in
theorem implDeedOf_any (kind k v : Int) (w : World) :
    Calls Tryz.prog 107 #[OpV kind k v] w fun e w' => e = .returned (DeedV kind k v) ∧ Below w.heap.size w w' := by
  by_cases h : 1 ≤ kind ∧ kind ≤ 10
  · rcases kinds h with rfl | rfl | rfl | rfl | rfl | rfl | rfl | rfl | rfl | rfl
    all_goals
      go_enter Tryz.func107, Tryz.ntmps107
      go_wp2
      go_ret
      exact ⟨rfl, (Below.refl _ _).alloc (Nat.le_refl _) _⟩
  · have hT : deedT kind = 212 := by
      unfold deedT
      rw [if_neg (by omega), if_neg (by omega), if_neg (by omega), if_neg (by omega), if_neg (by omega), if_neg (by omega), if_neg (by omega), if_neg (by omega), if_neg (by omega), if_neg (by omega)]
    have h1 : (kind == 1) = false := by simp; omega
    have h2 : (kind == 2) = false := by simp; omega
    have h3 : (kind == 3) = false := by simp; omega
    have h4 : (kind == 4) = false := by simp; omega
    have h5 : (kind == 5) = false := by simp; omega
    have h6 : (kind == 6) = false := by simp; omega
    have h7 : (kind == 7) = false := by simp; omega
    have h8 : (kind == 8) = false := by simp; omega
    have h9 : (kind == 9) = false := by simp; omega
    have h10 : (kind == 10) = false := by simp; omega
    rw [show DeedV kind k v = .iface 212 (OpV kind k v) by rw [DeedV, hT]]
    clear hT h
    go_enter Tryz.func107, Tryz.ntmps107
    go_wp2
    go_ret
    exact ⟨rfl, (Below.refl _ _).alloc (Nat.le_refl _) _⟩

set_option maxHeartbeats 2000000 in
theorem fits_1 (k v : Int) (w : World) :
    Calls Tryz.prog 150 #[OpV 1 k v] w fun e w' => e = .returned (.bool (decide ((0 ≤ k ∧ k ≤ 3) ∧ (1 ≤ v ∧ v ≤ 6)))) ∧ Below w.heap.size w w' := by
  obtain ⟨B, hB⟩ : ∃ B, decide ((0 ≤ k ∧ k ≤ 3) ∧ (1 ≤ v ∧ v ≤ 6)) = B := ⟨_, rfl⟩
  rw [hB]
  have HB : Hid (decide ((0 ≤ k ∧ k ≤ 3) ∧ (1 ≤ v ∧ v ≤ 6)) = B) := hB
  clear hB
  rcases tri 0 3 k (by decide) with ⟨h0, h1⟩ | ⟨h0, h1⟩ | ⟨h0, h1⟩ <;> rcases tri 1 6 v (by decide) with ⟨g0, g1⟩ | ⟨g0, g1⟩ | ⟨g0, g1⟩
  all_goals
    go_enter Tryz.func150, Tryz.ntmps150
    go_wp2
    go_ret
    refine ⟨?_, (Below.refl _ _).alloc (Nat.le_refl _) _⟩
    rw [← HB.out]
    first
      | exact says_true (by omega)
      | exact says_false (by omega)
set_option maxHeartbeats 2000000 in
set_option maxRecDepth 100000 in
theorem implOpOk_1 (k v : Int) (w : World) :
    Calls Tryz.prog 85 #[OpV 1 k v] w fun e w' => e = .returned (.bool (decide ((0 ≤ k ∧ k ≤ 3) ∧ (1 ≤ v ∧ v ≤ 6)))) ∧ Below w.heap.size w w' := by
  have hm : ∀ w : World, (method 344 202 (OpV 1 k v) "loop.example/g00468/impl.fits").run Tryz.prog w = .ok (150, OpV 1 k v) w := fun _ => by kernel_rfl
  obtain ⟨B, hB⟩ : ∃ B, decide ((0 ≤ k ∧ k ≤ 3) ∧ (1 ≤ v ∧ v ≤ 6)) = B := ⟨_, rfl⟩
  rw [hB]
  have HB : Hid (decide ((0 ≤ k ∧ k ≤ 3) ∧ (1 ≤ v ∧ v ≤ 6)) = B) := hB
  clear hB
  go_enter Tryz.func85, Tryz.ntmps85
  go_wp2_with fail
  refine (implDeedOf_any 1 k v _).mono ?_
  rintro e w1 ⟨rfl, hb1⟩
  rw [show DeedV 1 k v = .iface 202 (OpV 1 k v) from rfl]
  go_wp2_with fail
  refine (fits_1 k v _).mono ?_
  rintro e w2 ⟨rfl, hb2⟩
  rw [HB.out]
  have hs : w.heap.size + 1 ≤ w1.heap.size := by simpa using hb1.size
  have hall : Below w.heap.size w w2 := (((Below.refl _ w).alloc (Nat.le_refl _) _).trans (hb1.mono (by simp))).trans (hb2.mono (by omega))
  clear hb1 hb2 hm
  go_wp2
  go_ret
  exact ⟨rfl, hall⟩

set_option maxHeartbeats 2000000 in
theorem fits_2 (k v : Int) (w : World) :
    Calls Tryz.prog 153 #[OpV 2 k v] w fun e w' => e = .returned (.bool (decide ((0 ≤ k ∧ k ≤ 3) ∧ (1 ≤ v ∧ v ≤ 6)))) ∧ Below w.heap.size w w' := by
  obtain ⟨B, hB⟩ : ∃ B, decide ((0 ≤ k ∧ k ≤ 3) ∧ (1 ≤ v ∧ v ≤ 6)) = B := ⟨_, rfl⟩
  rw [hB]
  have HB : Hid (decide ((0 ≤ k ∧ k ≤ 3) ∧ (1 ≤ v ∧ v ≤ 6)) = B) := hB
  clear hB
  rcases tri 0 3 k (by decide) with ⟨h0, h1⟩ | ⟨h0, h1⟩ | ⟨h0, h1⟩ <;> rcases tri 1 6 v (by decide) with ⟨g0, g1⟩ | ⟨g0, g1⟩ | ⟨g0, g1⟩
  all_goals
    go_enter Tryz.func153, Tryz.ntmps153
    go_wp2
    go_ret
    refine ⟨?_, (Below.refl _ _).alloc (Nat.le_refl _) _⟩
    rw [← HB.out]
    first
      | exact says_true (by omega)
      | exact says_false (by omega)
set_option maxHeartbeats 2000000 in
set_option maxRecDepth 100000 in
theorem implOpOk_2 (k v : Int) (w : World) :
    Calls Tryz.prog 85 #[OpV 2 k v] w fun e w' => e = .returned (.bool (decide ((0 ≤ k ∧ k ≤ 3) ∧ (1 ≤ v ∧ v ≤ 6)))) ∧ Below w.heap.size w w' := by
  have hm : ∀ w : World, (method 344 203 (OpV 2 k v) "loop.example/g00468/impl.fits").run Tryz.prog w = .ok (153, OpV 2 k v) w := fun _ => by kernel_rfl
  obtain ⟨B, hB⟩ : ∃ B, decide ((0 ≤ k ∧ k ≤ 3) ∧ (1 ≤ v ∧ v ≤ 6)) = B := ⟨_, rfl⟩
  rw [hB]
  have HB : Hid (decide ((0 ≤ k ∧ k ≤ 3) ∧ (1 ≤ v ∧ v ≤ 6)) = B) := hB
  clear hB
  go_enter Tryz.func85, Tryz.ntmps85
  go_wp2_with fail
  refine (implDeedOf_any 2 k v _).mono ?_
  rintro e w1 ⟨rfl, hb1⟩
  rw [show DeedV 2 k v = .iface 203 (OpV 2 k v) from rfl]
  go_wp2_with fail
  refine (fits_2 k v _).mono ?_
  rintro e w2 ⟨rfl, hb2⟩
  rw [HB.out]
  have hs : w.heap.size + 1 ≤ w1.heap.size := by simpa using hb1.size
  have hall : Below w.heap.size w w2 := (((Below.refl _ w).alloc (Nat.le_refl _) _).trans (hb1.mono (by simp))).trans (hb2.mono (by omega))
  clear hb1 hb2 hm
  go_wp2
  go_ret
  exact ⟨rfl, hall⟩

set_option maxHeartbeats 2000000 in
theorem fits_3 (k v : Int) (w : World) :
    Calls Tryz.prog 154 #[OpV 3 k v] w fun e w' => e = .returned (.bool (decide ((0 ≤ k ∧ k ≤ 3) ∧ v = 0))) ∧ Below w.heap.size w w' := by
  obtain ⟨B, hB⟩ : ∃ B, decide ((0 ≤ k ∧ k ≤ 3) ∧ v = 0) = B := ⟨_, rfl⟩
  rw [hB]
  have HB : Hid (decide ((0 ≤ k ∧ k ≤ 3) ∧ v = 0) = B) := hB
  clear hB
  rcases tri 0 3 k (by decide) with ⟨h0, h1⟩ | ⟨h0, h1⟩ | ⟨h0, h1⟩ <;> rcases eqb v 0 with ⟨g0, g1⟩ | ⟨g0, g1⟩
  all_goals
    go_enter Tryz.func154, Tryz.ntmps154
    go_wp2
    go_ret
    refine ⟨?_, (Below.refl _ _).alloc (Nat.le_refl _) _⟩
    rw [← HB.out]
    first
      | exact says_true (by omega)
      | exact says_false (by omega)
set_option maxHeartbeats 2000000 in
set_option maxRecDepth 100000 in
theorem implOpOk_3 (k v : Int) (w : World) :
    Calls Tryz.prog 85 #[OpV 3 k v] w fun e w' => e = .returned (.bool (decide ((0 ≤ k ∧ k ≤ 3) ∧ v = 0))) ∧ Below w.heap.size w w' := by
  have hm : ∀ w : World, (method 344 204 (OpV 3 k v) "loop.example/g00468/impl.fits").run Tryz.prog w = .ok (154, OpV 3 k v) w := fun _ => by kernel_rfl
  obtain ⟨B, hB⟩ : ∃ B, decide ((0 ≤ k ∧ k ≤ 3) ∧ v = 0) = B := ⟨_, rfl⟩
  rw [hB]
  have HB : Hid (decide ((0 ≤ k ∧ k ≤ 3) ∧ v = 0) = B) := hB
  clear hB
  go_enter Tryz.func85, Tryz.ntmps85
  go_wp2_with fail
  refine (implDeedOf_any 3 k v _).mono ?_
  rintro e w1 ⟨rfl, hb1⟩
  rw [show DeedV 3 k v = .iface 204 (OpV 3 k v) from rfl]
  go_wp2_with fail
  refine (fits_3 k v _).mono ?_
  rintro e w2 ⟨rfl, hb2⟩
  rw [HB.out]
  have hs : w.heap.size + 1 ≤ w1.heap.size := by simpa using hb1.size
  have hall : Below w.heap.size w w2 := (((Below.refl _ w).alloc (Nat.le_refl _) _).trans (hb1.mono (by simp))).trans (hb2.mono (by omega))
  clear hb1 hb2 hm
  go_wp2
  go_ret
  exact ⟨rfl, hall⟩

set_option maxHeartbeats 2000000 in
theorem fits_4 (k v : Int) (w : World) :
    Calls Tryz.prog 155 #[OpV 4 k v] w fun e w' => e = .returned (.bool (decide ((0 ≤ k ∧ k ≤ 3) ∧ v = 0))) ∧ Below w.heap.size w w' := by
  obtain ⟨B, hB⟩ : ∃ B, decide ((0 ≤ k ∧ k ≤ 3) ∧ v = 0) = B := ⟨_, rfl⟩
  rw [hB]
  have HB : Hid (decide ((0 ≤ k ∧ k ≤ 3) ∧ v = 0) = B) := hB
  clear hB
  rcases tri 0 3 k (by decide) with ⟨h0, h1⟩ | ⟨h0, h1⟩ | ⟨h0, h1⟩ <;> rcases eqb v 0 with ⟨g0, g1⟩ | ⟨g0, g1⟩
  all_goals
    go_enter Tryz.func155, Tryz.ntmps155
    go_wp2
    go_ret
    refine ⟨?_, (Below.refl _ _).alloc (Nat.le_refl _) _⟩
    rw [← HB.out]
    first
      | exact says_true (by omega)
      | exact says_false (by omega)
set_option maxHeartbeats 2000000 in
set_option maxRecDepth 100000 in
theorem implOpOk_4 (k v : Int) (w : World) :
    Calls Tryz.prog 85 #[OpV 4 k v] w fun e w' => e = .returned (.bool (decide ((0 ≤ k ∧ k ≤ 3) ∧ v = 0))) ∧ Below w.heap.size w w' := by
  have hm : ∀ w : World, (method 344 205 (OpV 4 k v) "loop.example/g00468/impl.fits").run Tryz.prog w = .ok (155, OpV 4 k v) w := fun _ => by kernel_rfl
  obtain ⟨B, hB⟩ : ∃ B, decide ((0 ≤ k ∧ k ≤ 3) ∧ v = 0) = B := ⟨_, rfl⟩
  rw [hB]
  have HB : Hid (decide ((0 ≤ k ∧ k ≤ 3) ∧ v = 0) = B) := hB
  clear hB
  go_enter Tryz.func85, Tryz.ntmps85
  go_wp2_with fail
  refine (implDeedOf_any 4 k v _).mono ?_
  rintro e w1 ⟨rfl, hb1⟩
  rw [show DeedV 4 k v = .iface 205 (OpV 4 k v) from rfl]
  go_wp2_with fail
  refine (fits_4 k v _).mono ?_
  rintro e w2 ⟨rfl, hb2⟩
  rw [HB.out]
  have hs : w.heap.size + 1 ≤ w1.heap.size := by simpa using hb1.size
  have hall : Below w.heap.size w w2 := (((Below.refl _ w).alloc (Nat.le_refl _) _).trans (hb1.mono (by simp))).trans (hb2.mono (by omega))
  clear hb1 hb2 hm
  go_wp2
  go_ret
  exact ⟨rfl, hall⟩

set_option maxHeartbeats 2000000 in
theorem fits_5 (k v : Int) (w : World) :
    Calls Tryz.prog 156 #[OpV 5 k v] w fun e w' => e = .returned (.bool (decide (k = 0 ∧ (1 ≤ v ∧ v ≤ 6)))) ∧ Below w.heap.size w w' := by
  obtain ⟨B, hB⟩ : ∃ B, decide (k = 0 ∧ (1 ≤ v ∧ v ≤ 6)) = B := ⟨_, rfl⟩
  rw [hB]
  have HB : Hid (decide (k = 0 ∧ (1 ≤ v ∧ v ≤ 6)) = B) := hB
  clear hB
  rcases eqb k 0 with ⟨h0, h1⟩ | ⟨h0, h1⟩ <;> rcases tri 1 6 v (by decide) with ⟨g0, g1⟩ | ⟨g0, g1⟩ | ⟨g0, g1⟩
  all_goals
    go_enter Tryz.func156, Tryz.ntmps156
    go_wp2
    go_ret
    refine ⟨?_, (Below.refl _ _).alloc (Nat.le_refl _) _⟩
    rw [← HB.out]
    first
      | exact says_true (by omega)
      | exact says_false (by omega)
set_option maxHeartbeats 2000000 in
set_option maxRecDepth 100000 in
theorem implOpOk_5 (k v : Int) (w : World) :
    Calls Tryz.prog 85 #[OpV 5 k v] w fun e w' => e = .returned (.bool (decide (k = 0 ∧ (1 ≤ v ∧ v ≤ 6)))) ∧ Below w.heap.size w w' := by
  have hm : ∀ w : World, (method 344 206 (OpV 5 k v) "loop.example/g00468/impl.fits").run Tryz.prog w = .ok (156, OpV 5 k v) w := fun _ => by kernel_rfl
  obtain ⟨B, hB⟩ : ∃ B, decide (k = 0 ∧ (1 ≤ v ∧ v ≤ 6)) = B := ⟨_, rfl⟩
  rw [hB]
  have HB : Hid (decide (k = 0 ∧ (1 ≤ v ∧ v ≤ 6)) = B) := hB
  clear hB
  go_enter Tryz.func85, Tryz.ntmps85
  go_wp2_with fail
  refine (implDeedOf_any 5 k v _).mono ?_
  rintro e w1 ⟨rfl, hb1⟩
  rw [show DeedV 5 k v = .iface 206 (OpV 5 k v) from rfl]
  go_wp2_with fail
  refine (fits_5 k v _).mono ?_
  rintro e w2 ⟨rfl, hb2⟩
  rw [HB.out]
  have hs : w.heap.size + 1 ≤ w1.heap.size := by simpa using hb1.size
  have hall : Below w.heap.size w w2 := (((Below.refl _ w).alloc (Nat.le_refl _) _).trans (hb1.mono (by simp))).trans (hb2.mono (by omega))
  clear hb1 hb2 hm
  go_wp2
  go_ret
  exact ⟨rfl, hall⟩

set_option maxHeartbeats 2000000 in
theorem fits_6 (k v : Int) (w : World) :
    Calls Tryz.prog 157 #[OpV 6 k v] w fun e w' => e = .returned (.bool (decide ((0 ≤ k ∧ k ≤ 2) ∧ v = 0))) ∧ Below w.heap.size w w' := by
  obtain ⟨B, hB⟩ : ∃ B, decide ((0 ≤ k ∧ k ≤ 2) ∧ v = 0) = B := ⟨_, rfl⟩
  rw [hB]
  have HB : Hid (decide ((0 ≤ k ∧ k ≤ 2) ∧ v = 0) = B) := hB
  clear hB
  rcases tri 0 2 k (by decide) with ⟨h0, h1⟩ | ⟨h0, h1⟩ | ⟨h0, h1⟩ <;> rcases eqb v 0 with ⟨g0, g1⟩ | ⟨g0, g1⟩
  all_goals
    go_enter Tryz.func157, Tryz.ntmps157
    go_wp2
    go_ret
    refine ⟨?_, (Below.refl _ _).alloc (Nat.le_refl _) _⟩
    rw [← HB.out]
    first
      | exact says_true (by omega)
      | exact says_false (by omega)
set_option maxHeartbeats 2000000 in
set_option maxRecDepth 100000 in
theorem implOpOk_6 (k v : Int) (w : World) :
    Calls Tryz.prog 85 #[OpV 6 k v] w fun e w' => e = .returned (.bool (decide ((0 ≤ k ∧ k ≤ 2) ∧ v = 0))) ∧ Below w.heap.size w w' := by
  have hm : ∀ w : World, (method 344 207 (OpV 6 k v) "loop.example/g00468/impl.fits").run Tryz.prog w = .ok (157, OpV 6 k v) w := fun _ => by kernel_rfl
  obtain ⟨B, hB⟩ : ∃ B, decide ((0 ≤ k ∧ k ≤ 2) ∧ v = 0) = B := ⟨_, rfl⟩
  rw [hB]
  have HB : Hid (decide ((0 ≤ k ∧ k ≤ 2) ∧ v = 0) = B) := hB
  clear hB
  go_enter Tryz.func85, Tryz.ntmps85
  go_wp2_with fail
  refine (implDeedOf_any 6 k v _).mono ?_
  rintro e w1 ⟨rfl, hb1⟩
  rw [show DeedV 6 k v = .iface 207 (OpV 6 k v) from rfl]
  go_wp2_with fail
  refine (fits_6 k v _).mono ?_
  rintro e w2 ⟨rfl, hb2⟩
  rw [HB.out]
  have hs : w.heap.size + 1 ≤ w1.heap.size := by simpa using hb1.size
  have hall : Below w.heap.size w w2 := (((Below.refl _ w).alloc (Nat.le_refl _) _).trans (hb1.mono (by simp))).trans (hb2.mono (by omega))
  clear hb1 hb2 hm
  go_wp2
  go_ret
  exact ⟨rfl, hall⟩

set_option maxHeartbeats 2000000 in
theorem fits_7 (k v : Int) (w : World) :
    Calls Tryz.prog 158 #[OpV 7 k v] w fun e w' => e = .returned (.bool (decide (k = 0 ∧ v = 0))) ∧ Below w.heap.size w w' := by
  obtain ⟨B, hB⟩ : ∃ B, decide (k = 0 ∧ v = 0) = B := ⟨_, rfl⟩
  rw [hB]
  have HB : Hid (decide (k = 0 ∧ v = 0) = B) := hB
  clear hB
  rcases eqb k 0 with ⟨h0, h1⟩ | ⟨h0, h1⟩ <;> rcases eqb v 0 with ⟨g0, g1⟩ | ⟨g0, g1⟩
  all_goals
    go_enter Tryz.func158, Tryz.ntmps158
    go_wp2
    go_ret
    refine ⟨?_, (Below.refl _ _).alloc (Nat.le_refl _) _⟩
    rw [← HB.out]
    first
      | exact says_true (by omega)
      | exact says_false (by omega)
set_option maxHeartbeats 2000000 in
set_option maxRecDepth 100000 in
theorem implOpOk_7 (k v : Int) (w : World) :
    Calls Tryz.prog 85 #[OpV 7 k v] w fun e w' => e = .returned (.bool (decide (k = 0 ∧ v = 0))) ∧ Below w.heap.size w w' := by
  have hm : ∀ w : World, (method 344 208 (OpV 7 k v) "loop.example/g00468/impl.fits").run Tryz.prog w = .ok (158, OpV 7 k v) w := fun _ => by kernel_rfl
  obtain ⟨B, hB⟩ : ∃ B, decide (k = 0 ∧ v = 0) = B := ⟨_, rfl⟩
  rw [hB]
  have HB : Hid (decide (k = 0 ∧ v = 0) = B) := hB
  clear hB
  go_enter Tryz.func85, Tryz.ntmps85
  go_wp2_with fail
  refine (implDeedOf_any 7 k v _).mono ?_
  rintro e w1 ⟨rfl, hb1⟩
  rw [show DeedV 7 k v = .iface 208 (OpV 7 k v) from rfl]
  go_wp2_with fail
  refine (fits_7 k v _).mono ?_
  rintro e w2 ⟨rfl, hb2⟩
  rw [HB.out]
  have hs : w.heap.size + 1 ≤ w1.heap.size := by simpa using hb1.size
  have hall : Below w.heap.size w w2 := (((Below.refl _ w).alloc (Nat.le_refl _) _).trans (hb1.mono (by simp))).trans (hb2.mono (by omega))
  clear hb1 hb2 hm
  go_wp2
  go_ret
  exact ⟨rfl, hall⟩

set_option maxHeartbeats 2000000 in
theorem fits_8 (k v : Int) (w : World) :
    Calls Tryz.prog 159 #[OpV 8 k v] w fun e w' => e = .returned (.bool (decide (k = 0 ∧ v = 0))) ∧ Below w.heap.size w w' := by
  obtain ⟨B, hB⟩ : ∃ B, decide (k = 0 ∧ v = 0) = B := ⟨_, rfl⟩
  rw [hB]
  have HB : Hid (decide (k = 0 ∧ v = 0) = B) := hB
  clear hB
  rcases eqb k 0 with ⟨h0, h1⟩ | ⟨h0, h1⟩ <;> rcases eqb v 0 with ⟨g0, g1⟩ | ⟨g0, g1⟩
  all_goals
    go_enter Tryz.func159, Tryz.ntmps159
    go_wp2
    go_ret
    refine ⟨?_, (Below.refl _ _).alloc (Nat.le_refl _) _⟩
    rw [← HB.out]
    first
      | exact says_true (by omega)
      | exact says_false (by omega)
set_option maxHeartbeats 2000000 in
set_option maxRecDepth 100000 in
theorem implOpOk_8 (k v : Int) (w : World) :
    Calls Tryz.prog 85 #[OpV 8 k v] w fun e w' => e = .returned (.bool (decide (k = 0 ∧ v = 0))) ∧ Below w.heap.size w w' := by
  have hm : ∀ w : World, (method 344 209 (OpV 8 k v) "loop.example/g00468/impl.fits").run Tryz.prog w = .ok (159, OpV 8 k v) w := fun _ => by kernel_rfl
  obtain ⟨B, hB⟩ : ∃ B, decide (k = 0 ∧ v = 0) = B := ⟨_, rfl⟩
  rw [hB]
  have HB : Hid (decide (k = 0 ∧ v = 0) = B) := hB
  clear hB
  go_enter Tryz.func85, Tryz.ntmps85
  go_wp2_with fail
  refine (implDeedOf_any 8 k v _).mono ?_
  rintro e w1 ⟨rfl, hb1⟩
  rw [show DeedV 8 k v = .iface 209 (OpV 8 k v) from rfl]
  go_wp2_with fail
  refine (fits_8 k v _).mono ?_
  rintro e w2 ⟨rfl, hb2⟩
  rw [HB.out]
  have hs : w.heap.size + 1 ≤ w1.heap.size := by simpa using hb1.size
  have hall : Below w.heap.size w w2 := (((Below.refl _ w).alloc (Nat.le_refl _) _).trans (hb1.mono (by simp))).trans (hb2.mono (by omega))
  clear hb1 hb2 hm
  go_wp2
  go_ret
  exact ⟨rfl, hall⟩

set_option maxHeartbeats 2000000 in
theorem fits_9 (k v : Int) (w : World) :
    Calls Tryz.prog 160 #[OpV 9 k v] w fun e w' => e = .returned (.bool (decide (k = 0 ∧ v = 0))) ∧ Below w.heap.size w w' := by
  obtain ⟨B, hB⟩ : ∃ B, decide (k = 0 ∧ v = 0) = B := ⟨_, rfl⟩
  rw [hB]
  have HB : Hid (decide (k = 0 ∧ v = 0) = B) := hB
  clear hB
  rcases eqb k 0 with ⟨h0, h1⟩ | ⟨h0, h1⟩ <;> rcases eqb v 0 with ⟨g0, g1⟩ | ⟨g0, g1⟩
  all_goals
    go_enter Tryz.func160, Tryz.ntmps160
    go_wp2
    go_ret
    refine ⟨?_, (Below.refl _ _).alloc (Nat.le_refl _) _⟩
    rw [← HB.out]
    first
      | exact says_true (by omega)
      | exact says_false (by omega)
set_option maxHeartbeats 2000000 in
set_option maxRecDepth 100000 in
theorem implOpOk_9 (k v : Int) (w : World) :
    Calls Tryz.prog 85 #[OpV 9 k v] w fun e w' => e = .returned (.bool (decide (k = 0 ∧ v = 0))) ∧ Below w.heap.size w w' := by
  have hm : ∀ w : World, (method 344 210 (OpV 9 k v) "loop.example/g00468/impl.fits").run Tryz.prog w = .ok (160, OpV 9 k v) w := fun _ => by kernel_rfl
  obtain ⟨B, hB⟩ : ∃ B, decide (k = 0 ∧ v = 0) = B := ⟨_, rfl⟩
  rw [hB]
  have HB : Hid (decide (k = 0 ∧ v = 0) = B) := hB
  clear hB
  go_enter Tryz.func85, Tryz.ntmps85
  go_wp2_with fail
  refine (implDeedOf_any 9 k v _).mono ?_
  rintro e w1 ⟨rfl, hb1⟩
  rw [show DeedV 9 k v = .iface 210 (OpV 9 k v) from rfl]
  go_wp2_with fail
  refine (fits_9 k v _).mono ?_
  rintro e w2 ⟨rfl, hb2⟩
  rw [HB.out]
  have hs : w.heap.size + 1 ≤ w1.heap.size := by simpa using hb1.size
  have hall : Below w.heap.size w w2 := (((Below.refl _ w).alloc (Nat.le_refl _) _).trans (hb1.mono (by simp))).trans (hb2.mono (by omega))
  clear hb1 hb2 hm
  go_wp2
  go_ret
  exact ⟨rfl, hall⟩

set_option maxHeartbeats 2000000 in
theorem fits_10 (k v : Int) (w : World) :
    Calls Tryz.prog 161 #[OpV 10 k v] w fun e w' => e = .returned (.bool (decide (k = 0 ∧ (1 ≤ v ∧ v ≤ 6)))) ∧ Below w.heap.size w w' := by
  obtain ⟨B, hB⟩ : ∃ B, decide (k = 0 ∧ (1 ≤ v ∧ v ≤ 6)) = B := ⟨_, rfl⟩
  rw [hB]
  have HB : Hid (decide (k = 0 ∧ (1 ≤ v ∧ v ≤ 6)) = B) := hB
  clear hB
  rcases eqb k 0 with ⟨h0, h1⟩ | ⟨h0, h1⟩ <;> rcases tri 1 6 v (by decide) with ⟨g0, g1⟩ | ⟨g0, g1⟩ | ⟨g0, g1⟩
  all_goals
    go_enter Tryz.func161, Tryz.ntmps161
    go_wp2
    go_ret
    refine ⟨?_, (Below.refl _ _).alloc (Nat.le_refl _) _⟩
    rw [← HB.out]
    first
      | exact says_true (by omega)
      | exact says_false (by omega)
set_option maxHeartbeats 2000000 in
set_option maxRecDepth 100000 in
theorem implOpOk_10 (k v : Int) (w : World) :
    Calls Tryz.prog 85 #[OpV 10 k v] w fun e w' => e = .returned (.bool (decide (k = 0 ∧ (1 ≤ v ∧ v ≤ 6)))) ∧ Below w.heap.size w w' := by
  have hm : ∀ w : World, (method 344 211 (OpV 10 k v) "loop.example/g00468/impl.fits").run Tryz.prog w = .ok (161, OpV 10 k v) w := fun _ => by kernel_rfl
  obtain ⟨B, hB⟩ : ∃ B, decide (k = 0 ∧ (1 ≤ v ∧ v ≤ 6)) = B := ⟨_, rfl⟩
  rw [hB]
  have HB : Hid (decide (k = 0 ∧ (1 ≤ v ∧ v ≤ 6)) = B) := hB
  clear hB
  go_enter Tryz.func85, Tryz.ntmps85
  go_wp2_with fail
  refine (implDeedOf_any 10 k v _).mono ?_
  rintro e w1 ⟨rfl, hb1⟩
  rw [show DeedV 10 k v = .iface 211 (OpV 10 k v) from rfl]
  go_wp2_with fail
  refine (fits_10 k v _).mono ?_
  rintro e w2 ⟨rfl, hb2⟩
  rw [HB.out]
  have hs : w.heap.size + 1 ≤ w1.heap.size := by simpa using hb1.size
  have hall : Below w.heap.size w w2 := (((Below.refl _ w).alloc (Nat.le_refl _) _).trans (hb1.mono (by simp))).trans (hb2.mono (by omega))
  clear hb1 hb2 hm
  go_wp2
  go_ret
  exact ⟨rfl, hall⟩

set_option maxHeartbeats 2000000 in
set_option maxRecDepth 100000 in
theorem implOpOk_none (kind k v : Int) (w : World) (h : ¬ (1 ≤ kind ∧ kind ≤ 10)) :
    Calls Tryz.prog 85 #[OpV kind k v] w fun e w' => e = .returned (.bool false) ∧ Below w.heap.size w w' := by
  have hm : ∀ w : World, (method 344 212 (OpV kind k v) "loop.example/g00468/impl.fits").run Tryz.prog w = .ok (162, OpV kind k v) w := fun _ => by kernel_rfl
  have hT : deedT kind = 212 := by
    unfold deedT
    rw [if_neg (by omega), if_neg (by omega), if_neg (by omega), if_neg (by omega), if_neg (by omega), if_neg (by omega), if_neg (by omega), if_neg (by omega), if_neg (by omega), if_neg (by omega)]
  go_enter Tryz.func85, Tryz.ntmps85
  go_wp2_with fail
  refine (implDeedOf_any kind k v _).mono ?_
  rintro e w1 ⟨rfl, hb1⟩
  rw [show DeedV kind k v = .iface 212 (OpV kind k v) by rw [DeedV, hT]]
  clear hT
  have hs : w.heap.size + 1 ≤ w1.heap.size := by simpa using hb1.size
  have hall : Below w.heap.size w w1 := (((Below.refl _ w).alloc (Nat.le_refl _) _).trans (hb1.mono (by simp)))
  clear hb1 h
  go_wp2
  go_ret
  first
    | exact ⟨rfl, hall⟩
    | exact ⟨rfl, hall.alloc (by omega) _⟩

theorem implOpOk_any (kind k v : Int) (w : World) :
    Calls Tryz.prog 85 #[OpV kind k v] w fun e w' => e = .returned (.bool (decide (OpGood kind k v))) ∧ Below w.heap.size w w' := by
  by_cases h : 1 ≤ kind ∧ kind ≤ 10
  · have key : ∀ (P : Prop) [Decidable P], (OpGood kind k v ↔ P) → decide P = decide (OpGood kind k v) := fun P _ hP => decide_eq_decide.2 hP.symm
    rcases kinds h with rfl | rfl | rfl | rfl | rfl | rfl | rfl | rfl | rfl | rfl
    · refine (implOpOk_1 k v w).mono ?_
      rintro e w' ⟨rfl, hb⟩
      exact ⟨by rw [key _ (by unfold OpGood KeyGood ValGood; omega)], hb⟩
    · refine (implOpOk_2 k v w).mono ?_
      rintro e w' ⟨rfl, hb⟩
      exact ⟨by rw [key _ (by unfold OpGood KeyGood ValGood; omega)], hb⟩
    · refine (implOpOk_3 k v w).mono ?_
      rintro e w' ⟨rfl, hb⟩
      exact ⟨by rw [key _ (by unfold OpGood KeyGood ValGood; omega)], hb⟩
    · refine (implOpOk_4 k v w).mono ?_
      rintro e w' ⟨rfl, hb⟩
      exact ⟨by rw [key _ (by unfold OpGood KeyGood ValGood; omega)], hb⟩
    · refine (implOpOk_5 k v w).mono ?_
      rintro e w' ⟨rfl, hb⟩
      exact ⟨by rw [key _ (by unfold OpGood KeyGood ValGood; omega)], hb⟩
    · refine (implOpOk_6 k v w).mono ?_
      rintro e w' ⟨rfl, hb⟩
      exact ⟨by rw [key _ (by unfold OpGood KeyGood ValGood; omega)], hb⟩
    · refine (implOpOk_7 k v w).mono ?_
      rintro e w' ⟨rfl, hb⟩
      exact ⟨by rw [key _ (by unfold OpGood KeyGood ValGood; omega)], hb⟩
    · refine (implOpOk_8 k v w).mono ?_
      rintro e w' ⟨rfl, hb⟩
      exact ⟨by rw [key _ (by unfold OpGood KeyGood ValGood; omega)], hb⟩
    · refine (implOpOk_9 k v w).mono ?_
      rintro e w' ⟨rfl, hb⟩
      exact ⟨by rw [key _ (by unfold OpGood KeyGood ValGood; omega)], hb⟩
    · refine (implOpOk_10 k v w).mono ?_
      rintro e w' ⟨rfl, hb⟩
      exact ⟨by rw [key _ (by unfold OpGood KeyGood ValGood; omega)], hb⟩
  · refine (implOpOk_none kind k v w h).mono ?_
    rintro e w' ⟨rfl, hb⟩
    exact ⟨by rw [decide_eq_false (fun g => h g.1)], hb⟩
end Go.Proofs.YtkbodiggdajbeaaGreatDoor

/- The program's numsOf and OpText, walked. -/
namespace Go.Proofs.YtkbodiggdajbeaaGreatDoor
open Go.ChangeShapes Go.WideShapes Go.ChangeAt Go.RowKit 
open Go.Lib hiding intOf

/-- The numbers behind the word of a kind. -/
def numsL (kind k v : Int) : List Int := (if HasK kind then [k] else []) ++ (if HasV kind then [v] else [])
/-- What these are as text. -/
def tailsL (xs : List Int) : List UInt8 := xs.flatMap fun n => 32 :: itoa n
theorem tails_nums (kind k v : Int) : tailsL (numsL kind k v) = tailB kind k v := by
  unfold tailsL numsL tailB
  by_cases h1 : HasK kind <;> by_cases h2 : HasV kind <;> simp [h1, h2]
theorem nums_two (kind k v : Int) : (numsL kind k v).length ≤ 2 := by
  unfold numsL
  split <;> split <;> simp
theorem nums_small {kind k v : Int} (h : OpGood kind k v) : ∀ x ∈ numsL kind k v, 0 ≤ x ∧ x ≤ 6 := by
  obtain ⟨_, hk, hv, _, _⟩ := good_small h
  intro x hx
  unfold numsL at hx
  rcases List.mem_append.1 hx with h | h <;> split at h <;> simp at h <;> subst h <;> assumption
theorem tails_len (xs : List Int) (h : ∀ x ∈ xs, 0 ≤ x ∧ x ≤ 6) : (tailsL xs).length = 2 * xs.length := by
  induction xs with
  | nil => rfl
  | cons x xs ih =>
    obtain ⟨h0, h1⟩ := h x (by simp)
    have h2 := ih fun y hy => h y (by simp [hy])
    unfold tailsL at h2 ⊢
    rw [List.flatMap_cons, List.length_append, h2, itoa_small h0 h1]
    simp
    omega
theorem tails_succ {xs : List Int} {j : Nat} (h : j < xs.length) : tailsL (xs.take (j + 1)) = tailsL (xs.take j) ++ 32 :: itoa (xs.getD j 0) := by
  unfold tailsL
  rw [take_snocI h, List.flatMap_append]
  simp
set_option maxHeartbeats 2000000 in
set_option maxRecDepth 100000 in
theorem numsOf_any (kind k v : Int) (h : 1 ≤ kind ∧ kind ≤ 10) (w : World) :
    Calls Tryz.prog 86 #[OpV kind k v] w fun e w' => (∃ a, e = .returned (.slice a (numsL kind k v).length (numsL kind k v).length) ∧ IntAt w' a (numsL kind k v).length (numsL kind k v)) ∧ Below w.heap.size w w' := by
  have hb1 : ∀ o, Below w.heap.size w (w.alloc o) := fun o => (Below.refl _ w).alloc (Nat.le_refl _) _
  have hb2 : ∀ o o', Below w.heap.size w ((w.alloc o).alloc o') := fun o o' => ((Below.refl _ w).alloc (Nat.le_refl _) _).alloc (by simp) _
  have HB1 : Hid (∀ o, Below w.heap.size w (w.alloc o)) := hb1
  have HB2 : Hid (∀ o o', Below w.heap.size w ((w.alloc o).alloc o')) := hb2
  clear hb1 hb2
  have two : ∀ kd, kd = 1 ∨ kd = 2 → numsL kd k v = [k, v] := fun kd h => by unfold numsL HasK HasV; rcases h with rfl | rfl <;> simp
  have one : ∀ kd, kd = 3 ∨ kd = 4 ∨ kd = 6 → numsL kd k v = [k] := fun kd h => by unfold numsL HasK HasV; rcases h with rfl | rfl | rfl <;> simp
  have val : ∀ kd, kd = 5 ∨ kd = 10 → numsL kd k v = [v] := fun kd h => by unfold numsL HasK HasV; rcases h with rfl | rfl <;> simp
  have non : ∀ kd, kd = 7 ∨ kd = 8 ∨ kd = 9 → numsL kd k v = [] := fun kd h => by unfold numsL HasK HasV; rcases h with rfl | rfl | rfl <;> simp
  have ends2 : ∀ (o o' : Obj) (x y : Int), o' = .cells #[.int .i64 x, .int .i64 y] 3 → IntAt ((w.alloc o).alloc o') (some ⟨w.heap.size + 1, 0, none⟩) 2 [x, y] := by
    rintro o o' x y rfl
    refine ⟨rfl, by omega, .inr ⟨_, _, rfl, fun i hi => ?_⟩⟩
    have h : i = 0 ∨ i = 1 := by omega
    rw [Nat.zero_add, World.cell?_alloc_at _ _ _ _ (by simp)]
    rcases h with rfl | rfl <;> rfl
  have ends1 : ∀ (o o' : Obj) (x : Int), o' = .cells #[.int .i64 x] 3 → IntAt ((w.alloc o).alloc o') (some ⟨w.heap.size + 1, 0, none⟩) 1 [x] := by
    rintro o o' x rfl
    refine ⟨rfl, by omega, .inr ⟨_, _, rfl, fun i hi => ?_⟩⟩
    have h : i = 0 := by omega
    rw [Nat.zero_add, World.cell?_alloc_at _ _ _ _ (by simp)]
    subst h
    rfl
  have E2 : Hid (∀ (o o' : Obj) (x y : Int), o' = .cells #[.int .i64 x, .int .i64 y] 3 → IntAt ((w.alloc o).alloc o') (some ⟨w.heap.size + 1, 0, none⟩) 2 [x, y]) := ends2
  have E1 : Hid (∀ (o o' : Obj) (x : Int), o' = .cells #[.int .i64 x] 3 → IntAt ((w.alloc o).alloc o') (some ⟨w.heap.size + 1, 0, none⟩) 1 [x]) := ends1
  clear ends1 ends2
  rcases kinds h with rfl | rfl | rfl | rfl | rfl | rfl | rfl | rfl | rfl | rfl
  all_goals first
    | rw [two _ (by decide)]
    | rw [one _ (by decide)]
    | rw [val _ (by decide)]
    | rw [non _ (by decide)]
  all_goals
    clear two one val non h
    go_enter Tryz.func86, Tryz.ntmps86
    go_wp2
    go_ret
  all_goals first
    | exact ⟨⟨_, rfl, E2.out _ _ _ _ rfl⟩, HB2.out _ _⟩
    | exact ⟨⟨_, rfl, E1.out _ _ _ rfl⟩, HB2.out _ _⟩
    | exact ⟨⟨_, rfl, ⟨rfl, by simp, .inl rfl⟩⟩, HB1.out _⟩
set_option maxHeartbeats 4000000 in
set_option maxRecDepth 100000 in
theorem implOpText_any (kind k v : Int) (w : World) (hN : OpNamesIs w) (htab : Lib.TabIs Tryz.prog w "internal/strconv.uint64pow10" .u64 Lib.pow10Tab) :
    Calls Tryz.prog 51 #[OpV kind k v] w fun e w' => TextSays e (opB kind k v) ∧ Below w.heap.size w w' := by
  obtain ⟨W, hW⟩ : ∃ W, w.alloc (.cells #[.int .i64 kind, .int .i64 k, .int .i64 v] 57) = W := ⟨_, rfl⟩
  have HB0 : Hid (Below w.heap.size w W) := by rw [← hW]; exact (Below.refl _ w).alloc (Nat.le_refl _) _
  have X0 : Hid (Box W w.heap.size #[.int .i64 kind, .int .i64 k, .int .i64 v] 57) := by rw [← hW]; exact box_of w _ _
  have HW : Hid (w.alloc (.cells #[.int .i64 kind, .int .i64 k, .int .i64 v] 57) = W) := hW
  have HN : Hid (OpNamesIs w) := hN
  have HTAB : Hid (Lib.TabIs Tryz.prog w "internal/strconv.uint64pow10" .u64 Lib.pow10Tab) := htab
  clear hW hN htab
  by_cases hg : OpGood kind k v
  case neg =>
    have HT : Hid (opB kind k v = noneB) := if_neg hg
    have HD : Hid (decide (OpGood kind k v) = false) := decide_eq_false hg
    clear hg
    go_enter Tryz.func51, Tryz.ntmps51
    go_upto_region 1 with (fail)
    rw [HW.out]
    obtain ⟨c0, c1, c2⟩ := X0.out.threeT
    go_wp2_with fail
    refine (implOpOk_any kind k v _).mono ?_
    rintro e w1 ⟨rfl, hb1⟩
    rw [HD.out]
    have HB1 : Hid (Below w.heap.size w w1) := HB0.out.trans (hb1.mono HB0.out.size)
    clear hb1 c0 c1 c2
    go_wp2
    go_ret
    exact ⟨⟨_, rfl, HT.out.symm⟩, HB1.out⟩
  have HT : Hid (opB kind k v = nameB kind ++ tailsL (numsL kind k v)) := by rw [tails_nums]; exact if_pos hg
  have HD : Hid (decide (OpGood kind k v) = true) := decide_eq_true hg
  have HS : Hid (∀ x ∈ numsL kind k v, 0 ≤ x ∧ x ≤ 6) := nums_small hg
  obtain ⟨⟨hk1, hk10⟩, ⟨k0, k6⟩, ⟨v0, v6⟩, _, _⟩ := good_small hg
  obtain ⟨kn, rfl⟩ : ∃ kn : Nat, kind = (kn : Int) := ⟨kind.toNat, by omega⟩
  have hn1 : 1 ≤ kn := by omega
  have hn10 : kn ≤ 10 := by omega
  have hn11 : kn < 11 := by omega
  have HK : Hid (1 ≤ (kn : Int) ∧ (kn : Int) ≤ 10) := ⟨hk1, hk10⟩
  clear hg hk1 hk10
  go_enter Tryz.func51, Tryz.ntmps51
  go_upto_region 1 with (fail)
  rw [HW.out]
  obtain ⟨c0, c1, c2⟩ := X0.out.threeT
  go_wp2_with fail
  refine (implOpOk_any (kn : Int) k v _).mono ?_
  rintro e w1 ⟨rfl, hb1⟩
  rw [HD.out]
  have HB1 : Hid (Below w.heap.size w w1) := HB0.out.trans (hb1.mono HB0.out.size)
  have X1 : Hid (Box w1 w.heap.size #[.int .i64 (kn : Int), .int .i64 k, .int .i64 v] 57) := X0.out.below hb1 X0.out.lt
  clear hb1 c0 c1 c2 HB0 X0 HW
  obtain ⟨c0, c1, c2⟩ := X1.out.threeT
  obtain ⟨nb, hnb⟩ : ∃ nb : ByteArray, nb = ⟨(nameB (kn : Int)).toArray⟩ := ⟨_, rfl⟩
  have HNL : Hid (nb.data.toList = nameB (kn : Int)) := by show _ = _; rw [hnb]
  have hnsz : nb.size ≤ 5 := by
    have h1 := name_len (kn : Int)
    rw [← HNL.out] at h1
    simpa using h1
  have hcn : w1.cell? ⟨0, kn, none⟩ = some (.string nb) := by
    have h1 := (HN.out.below HB1.out (Nat.le_refl _)).cell gOpNames kn (by exact hn11)
    rw [namesT_at hn1 hn10] at h1
    rw [hnb]
    exact h1
  clear hnb
  go_wp2_with fail
  refine (numsOf_any (kn : Int) k v HK.out _).mono ?_
  obtain ⟨xs, hxs⟩ : ∃ xs, numsL (kn : Int) k v = xs := ⟨_, rfl⟩
  obtain ⟨m, hm⟩ : ∃ m, xs.length = m := ⟨_, rfl⟩
  have hm2 : m ≤ 2 := by rw [← hm, ← hxs]; exact nums_two _ _ _
  rw [hxs] at HS HT ⊢
  rw [hm]
  rintro e w2 ⟨⟨a2, rfl, hi2⟩, hb2⟩
  have HB2 : Hid (Below w.heap.size w w2) := HB1.out.trans (hb2.mono HB1.out.size)
  have HI2 : Hid (IntAt w2 a2 m xs) := hi2
  have HM : Hid (xs.length = m) := hm
  clear hb2 c0 c1 c2 hcn hxs hm hi2
  go_wp2
  go_loopw [3, 16] (fun out i wr => ∃ (j : Nat) (s : ByteArray), j ≤ m ∧ i = .int .i64 (j : Int) ∧ out = .string s ∧ s.data.toList = nameB (kn : Int) ++ tailsL (xs.take j) ∧ Below w2.heap.size w2 wr) (fun _ i _ => m - (intOf i).toNat)
  case atStart => exact ⟨0, nb, Nat.zero_le _, rfl, rfl, by rw [HNL.out]; simp [tailsL], Below.refl _ _⟩
  case round =>
    obtain ⟨j, s, hj, rfl, rfl, hs, hb⟩ := hrel
    have hsz : s.size ≤ 9 := by
      have h1 := name_len (kn : Int)
      have h2 := tails_len (xs.take j) fun x hx => HS.out x (List.mem_of_mem_take hx)
      have h3 : s.size = (nameB (kn : Int) ++ tailsL (xs.take j)).length := by rw [← hs]; simp
      rw [h3, List.length_append, h2, List.length_take]
      omega
    have HSS : Hid (s.data.toList = nameB (kn : Int) ++ tailsL (xs.take j)) := hs
    have HB : Hid (Below w2.heap.size w2 wr) := hb
    by_cases hlt : j < m
    · rcases (HI2.out.below hb (Nat.le_refl _)).2.2 with h0 | ⟨p1, o1, rfl, g1⟩
      · omega
      have e1 := g1 j hlt
      obtain ⟨x, hx⟩ : ∃ x, xs.getD j 0 = x := ⟨_, rfl⟩
      have hxm : 0 ≤ x ∧ x ≤ 6 := by
        have hjl : j < xs.length := by rw [HM.out]; exact hlt
        refine HS.out x ?_
        rw [← hx]
        simp [List.getD, hjl]
      have HT1 : Hid (tailsL (xs.take (j + 1)) = tailsL (xs.take j) ++ 32 :: itoa x) := by show _ = _; rw [← hx]; exact tails_succ (by rw [HM.out]; exact hlt)
      have HTB : Hid (Lib.TabIs Tryz.prog wr "internal/strconv.uint64pow10" .u64 Lib.pow10Tab) := Joins.tab_stays gTab HTAB.out (HB2.out.trans (hb.mono HB2.out.size)) (Nat.le_refl _)
      rw [hx] at e1
      obtain ⟨x0, x6⟩ := hxm
      clear g1 hs hb hx
      go_wp2_with fail
      refine (implDigits_any x (by omega) (by omega) _ HTB.out).mono ?_
      obtain ⟨sx, hsx⟩ : ∃ sx : ByteArray, sx = ⟨(itoa x).toArray⟩ := ⟨_, rfl⟩
      have HSX : Hid (sx.data.toList = itoa x) := by show _ = _; rw [hsx]
      have hz3 : sx.size ≤ 1 := by
        have h1 := itoa_one x0 x6
        rw [← HSX.out] at h1
        simpa using h1
      rw [← hsx]
      rintro e w3 ⟨rfl, hb3⟩
      have HB3 : Hid (Below w2.heap.size w2 w3) := HB.out.trans (hb3.mono HB.out.size)
      clear hb3 hsx e1
      go_wp2
      refine ⟨⟨j + 1, _, by omega, by go_num, rfl, ?_, HB3.out⟩, by simp [intOf]; omega⟩
      rw [HT1.out]
      simp [HSS.out, HSX.out]
    · obtain rfl : j = m := by omega
      have HEND : Hid (xs.take j = xs) := by show _ = _; rw [List.take_of_length_le (by rw [HM.out]; exact Nat.le_refl _)]
      clear hs hb
      go_wp2
      go_ret
      refine ⟨⟨s, rfl, ?_⟩, HB2.out.trans (HB.out.mono HB2.out.size)⟩
      rw [HSS.out, HEND.out, HT.out]
end Go.Proofs.YtkbodiggdajbeaaGreatDoor

/- The program's NumsText, walked by the library's contracts of strconv.Itoa and strings.Join: the numerals with commas between. -/
namespace Go.Proofs.YtkbodiggdajbeaaGreatDoor
open Go.ChangeShapes Go.WideShapes Go.ChangeAt Go.RowKit
open Go.Lib hiding intOf

/-- What has been written of the texts so far: the numerals of the first k, empty texts behind them. -/
def uptoS (xs : List Int) (k n : Nat) : List (List UInt8) := (xs.take k).map itoa ++ List.replicate (n - k) []
theorem uptoS_step {xs : List Int} {k n : Nat} (hx : xs.length = n) (h : k < n) : (((uptoS xs k n).map S).set k (S (itoa (xs.getD k 0)))) = (uptoS xs (k + 1) n).map S := by
  rw [← List.map_set]
  congr 1
  unfold uptoS
  have hl : ((xs.take k).map itoa).length = k := by rw [List.length_map, List.length_take]; omega
  rw [List.set_append_right _ _ (by omega), hl, Nat.sub_self, show n - k = (n - (k + 1)) + 1 by omega, List.replicate_succ, List.set_cons_zero,
    take_snocI (show k < xs.length by omega), List.map_append, List.append_assoc]
  rfl
theorem uptoS_end {xs : List Int} {n : Nat} (hx : xs.length = n) : uptoS xs n n = xs.map itoa := by
  unfold uptoS
  rw [List.take_of_length_le (by omega)]; simp

/-- The texts as the library's contract speaks of them. -/
def texts (xs : List Int) : List ByteArray := xs.map fun x => ⟨(itoa x).toArray⟩
theorem texts_list (xs : List Int) : (texts xs).map (·.data.toList) = xs.map itoa := by simp [texts, Function.comp_def]

theorem join_cells {w : World} {base g n : Nat} {xs : List Int} (h : w.ownsRow base 9 1 (.slice (some ⟨g, 0, none⟩) n n) n ((xs.map itoa).map S)) (hx : xs.length = n) :
    ∀ (j : Nat) x, (texts xs)[j]? = some x → w.cell? ⟨g, 0 + j, none⟩ = some (.string x) := by
  intro j x hj
  have hjl : j < xs.length := by have := (List.getElem?_eq_some_iff.1 hj).1; simpa [texts] using this
  rw [Nat.zero_add, h.cellAt j (by omega)]
  simp [texts, hjl] at hj
  subst hj
  simp [hjl]

set_option maxHeartbeats 1000000 in
theorem implNums_any (a : Option Addr) (n c : Nat) (xs : List Int) (w : World) (h : IntAt w a n xs) (hn : n ≤ 1048576) (hi : In64s xs) (htab : Lib.TabIs Tryz.prog w "internal/strconv.uint64pow10" .u64 Lib.pow10Tab) :
    Calls Tryz.prog 50 #[.slice a n c] w fun e w' => e = .returned (.string ⟨(numsB xs).toArray⟩) ∧ Below w.heap.size w w' := by
  have HH : Hid (IntAt w a n xs) := h
  have L1 : Hid (xs.length = n) := h.1
  have HI : Hid (In64s xs) := hi
  have HTAB : Hid (Lib.TabIs Tryz.prog w "internal/strconv.uint64pow10" .u64 Lib.pow10Tab) := htab
  have HLEN : Hid ((join ((texts xs).map (·.data.toList)) [44]).length ≤ 140737488355328) := by
    have h1 := numsB_len n xs h.1 hi
    rw [texts_list]
    show (numsB xs).length ≤ _
    omega
  clear h hi htab
  obtain ⟨i0, hi, hz0, hz1, hz2⟩ := info_parts infoStr
  go_enter Tryz.func50, Tryz.ntmps50
  go_wp2_with (at_make; refine wpList_make_full _ rfl _ _ 143 rfl w.heap.size 9 i0 (.string ⟨#[]⟩) 1 Tryz.underlying143 hi hz0 hz1 .i64 .i64 _ _ n rfl rfl rfl rfl (by rw [hz2]; omega) (by unfold maxLen; omega) (Nat.le_refl _) ?_; intro w1 own1 grow1)
  have own0 : w1.ownsRow w.heap.size 9 1 (.slice (some ⟨w.heap.size, 0, none⟩) n n) n ((uptoS xs 0 n).map S) := by
    have e : (madeCells (Value.string ⟨#[]⟩).cells (n * 1)).toList = (uptoS xs 0 n).map S := by
      rw [Nat.mul_one]
      exact (toList_madeCells_one _ _).trans (by simp [uptoS])
    rwa [e] at own1
  have hb1 : Below w.heap.size w w1 := (Below.refl _ _).grown grow1 (Nat.le_refl _) (fun k e => by cases e)
  clear own1 grow1
  go_loopw [11] (fun i wr => ∃ k : Nat, k ≤ n ∧ i = .int .i64 (k : Int) ∧ wr.ownsRow w.heap.size 9 1 (.slice (some ⟨w.heap.size, 0, none⟩) n n) n ((uptoS xs k n).map S) ∧ Below w.heap.size w wr) (fun i _ => n - (intOf i).toNat)
  case atStart => exact ⟨0, Nat.zero_le _, rfl, own0, hb1⟩
  case round =>
    obtain ⟨k, hk, rfl, ho, hb⟩ := hrel
    clear own0 hb1
    by_cases hlt : k < n
    · rcases (HH.out.below hb (Nat.le_refl _)).2.2 with h0 | ⟨p1, o1, rfl, g1⟩
      · omega
      have e1 := g1 k hlt
      obtain ⟨h0, h1⟩ := in64_at HI.out k (by have := L1.out; omega)
      obtain ⟨x, hx⟩ : ∃ x, xs.getD k 0 = x := ⟨_, rfl⟩
      have HU : Hid (((uptoS xs k n).map S).set k (S (itoa x)) = (uptoS xs (k + 1) n).map S) := by rw [← hx]; exact uptoS_step L1.out hlt
      rw [hx] at e1 h0 h1
      have ht1 := Joins.tab_stays gTab HTAB.out hb (Nat.le_refl _)
      have HT1 : Hid (Lib.TabIs Tryz.prog wr "internal/strconv.uint64pow10" .u64 Lib.pow10Tab) := ht1
      clear g1 hx ht1
      go_wp2_with (go_at_call 83; refine (implDigits_any x h0 h1 _ HT1.out).mono ?_; rintro e w2 ⟨rfl, hb2⟩; have ho2 := owns_below ho hb2 (Nat.le_refl _); have hf2 := ho2.frozenAt k; obtain ⟨u, hc2⟩ := own_cell ho2 hlt)
      have hst := (ho2.stored k (S (itoa x))).1
      rw [HU.out] at hst
      go_roundw
      case rel => exact ⟨k + 1, by omega, by go_num, hst, (hb.trans (hb2.mono hb.size)).setCell (Nat.le_refl _) _⟩
      case measure => simp [intOf]; omega
    · obtain rfl : k = n := by omega
      rw [uptoS_end L1.out] at ho
      have hcells := join_cells ho L1.out
      have HC : Hid (∀ (j : Nat) x, (texts xs)[j]? = some x → wr.cell? ⟨w.heap.size, 0 + j, none⟩ = some (.string x)) := hcells
      have hlt2 := (own_base ho).2
      clear hcells ho
      have htl : Hid ((texts xs).length = k) := by have := L1.out; show (texts xs).length = k; simp [texts, this]
      go_wp2_with fail
      have J := Tryz.strings_Join w.heap.size 0 k (texts xs) ⟨#[44]⟩ wr HC.out hlt2 (by have := htl.out; omega) (by have := htl.out; omega) HLEN.out
      rw [htl.out] at J
      refine J.mono ?_
      rintro e w3 ⟨rfl, hb3⟩
      go_wp2
      go_ret
      exact ⟨ret_str (by rw [texts_list]; rfl), hb.trans (hb3.mono hb.size)⟩
end Go.Proofs.YtkbodiggdajbeaaGreatDoor

/- The program's ResText, walked. -/
namespace Go.Proofs.YtkbodiggdajbeaaGreatDoor
open Go.ChangeShapes Go.WideShapes Go.ChangeAt Go.RowKit 
open Go.Lib hiding intOf

theorem codesR_at {k : Nat} (h : k < 5) : codesR.getD k [] = codeB (k : Int) := by
  have h : k = 0 ∨ k = 1 ∨ k = 2 ∨ k = 3 ∨ k = 4 := by omega
  rcases h with rfl | rfl | rfl | rfl | rfl <;> rfl
theorem codeB_what {code : Int} (h : ¬ (0 ≤ code ∧ code ≤ 4)) : codeB code = [119, 104, 97, 116] := by
  unfold codeB
  repeat' split
  all_goals first | rfl | omega
set_option maxHeartbeats 4000000 in
set_option maxRecDepth 100000 in
theorem implResText_any (code : Int) (a : Option Addr) (n c : Nat) (xs : List Int) (w : World) (hA : IntAt w a n xs) (hn : n ≤ 1048576) (hx : In64s xs) (hN : ResNamesIs w) (htab : Lib.TabIs Tryz.prog w "internal/strconv.uint64pow10" .u64 Lib.pow10Tab) :
    Calls Tryz.prog 88 #[ResV code a n c] w fun e w' => TextSays e (resB code xs) ∧ Below w.heap.size w w' := by
  obtain ⟨W, hW⟩ : ∃ W, w.alloc (.cells #[.int .i64 code, .slice a n c] 59) = W := ⟨_, rfl⟩
  have HB0 : Hid (Below w.heap.size w W) := by rw [← hW]; exact (Below.refl _ w).alloc (Nat.le_refl _) _
  have X0 : Hid (Box W w.heap.size #[.int .i64 code, .slice a n c] 59) := by rw [← hW]; exact box_of w _ _
  have HW : Hid (w.alloc (.cells #[.int .i64 code, .slice a n c] 59) = W) := hW
  have HA : Hid (IntAt W a n xs) := hA.below HB0.out (Nat.le_refl _)
  have HN : Hid (ResNamesIs W) := hN.below HB0.out (Nat.le_refl _)
  have HTAB : Hid (Lib.TabIs Tryz.prog W "internal/strconv.uint64pow10" .u64 Lib.pow10Tab) := Joins.tab_stays gTab htab HB0.out (Nat.le_refl _)
  have HI : Hid (In64s xs) := hx
  have HXL : Hid (xs.length = n) := hA.1
  clear hW hA hx hN htab
  obtain ⟨nb, hnb⟩ : ∃ nb : ByteArray, nb = ⟨(codeB code).toArray⟩ := ⟨_, rfl⟩
  have HNL : Hid (nb.data.toList = codeB code) := by show _ = _; rw [hnb]
  have hnsz : nb.size ≤ 5 := by
    have h1 := codeB_len code
    rw [← HNL.out] at h1
    simpa using h1
  have HTN : Hid (n = 0 → resB code xs = codeB code) := fun h => by
    have : xs = [] := List.length_eq_zero_iff.1 (by rw [HXL.out]; exact h)
    rw [resB, if_pos this]
  have HTY : Hid (¬ n = 0 → resB code xs = codeB code ++ 32 :: numsB xs) := fun h => by
    have : ¬ xs = [] := fun e => h (by rw [← HXL.out, e]; rfl)
    rw [resB, if_neg this]
  obtain ⟨c0, c1, _, _⟩ := X0.out.two
  have tail : ∀ {Q : Prop}, Q → Q := fun h => h
  by_cases hc : 0 ≤ code ∧ code ≤ 4
  · have hin : inB code 0 4 = true := inB_yes hc
    obtain ⟨kk, rfl⟩ : ∃ kk : Nat, code = (kk : Int) := ⟨code.toNat, by omega⟩
    have hk5 : kk < 5 := by omega
    have hk0 : (0 : Int) ≤ (kk : Int) := by omega
    have hk5' : (kk : Int) < 5 := by omega
    have hcn : W.cell? ⟨2, kk, none⟩ = some (.string nb) := by
      have h1 := HN.out.cell gResNames kk (by exact hk5)
      rw [codesR_at hk5] at h1
      rw [hnb]
      exact h1
    clear hnb hc
    go_enter Tryz.func88, Tryz.ntmps88
    go_upto_region 2 with (fail)
    rw [HW.out]
    go_wp2_with fail
    refine (within_g (kk : Int) 0 4 _).mono ?_
    rintro e w1 ⟨rfl, hw1⟩
    rw [hw1, hin]
    clear hw1 hin
    by_cases hz : n = 0
    · have hz1 : ¬ (0 : Int) < (n : Int) := by omega
      go_wp2
      go_ret
      exact ⟨⟨nb, rfl, HNL.out.trans (HTN.out hz).symm⟩, HB0.out⟩
    · have hz1 : (0 : Int) < (n : Int) := by omega
      have HZ : Hid (¬ n = 0) := hz
      clear hz
      go_wp2_with fail
      refine (implNums_any a n c xs _ HA.out hn HI.out HTAB.out).mono ?_
      obtain ⟨sx, hsx⟩ : ∃ sx : ByteArray, sx = ⟨(numsB xs).toArray⟩ := ⟨_, rfl⟩
      have HSX : Hid (sx.data.toList = numsB xs) := by show _ = _; rw [hsx]
      have hz2 : sx.size ≤ 22 * n := by
        have h1 := numsB_len n xs HXL.out HI.out
        rw [← HSX.out] at h1
        simpa using h1
      rw [← hsx]
      rintro e w2 ⟨rfl, hb2⟩
      have HB2 : Hid (Below w.heap.size w w2) := HB0.out.trans (hb2.mono HB0.out.size)
      clear hb2 hsx
      go_wp2
      go_ret
      refine ⟨⟨_, rfl, ?_⟩, HB2.out⟩
      rw [HTY.out HZ.out]
      simp [HNL.out, HSX.out]
  · have hin : inB code 0 4 = false := inB_no hc
    have hwh : nb = ⟨#[119, 104, 97, 116]⟩ := by rw [hnb, codeB_what hc]
    clear hnb hc
    go_enter Tryz.func88, Tryz.ntmps88
    go_upto_region 2 with (fail)
    rw [HW.out, ← hwh]
    go_wp2_with fail
    refine (within_g code 0 4 _).mono ?_
    rintro e w1 ⟨rfl, hw1⟩
    rw [hw1, hin]
    clear hw1 hin hwh
    by_cases hz : n = 0
    · have hz1 : ¬ (0 : Int) < (n : Int) := by omega
      go_wp2
      go_ret
      exact ⟨⟨nb, rfl, HNL.out.trans (HTN.out hz).symm⟩, HB0.out⟩
    · have hz1 : (0 : Int) < (n : Int) := by omega
      have HZ : Hid (¬ n = 0) := hz
      clear hz
      go_wp2_with fail
      refine (implNums_any a n c xs _ HA.out hn HI.out HTAB.out).mono ?_
      obtain ⟨sx, hsx⟩ : ∃ sx : ByteArray, sx = ⟨(numsB xs).toArray⟩ := ⟨_, rfl⟩
      have HSX : Hid (sx.data.toList = numsB xs) := by show _ = _; rw [hsx]
      have hz2 : sx.size ≤ 22 * n := by
        have h1 := numsB_len n xs HXL.out HI.out
        rw [← HSX.out] at h1
        simpa using h1
      rw [← hsx]
      rintro e w2 ⟨rfl, hb2⟩
      have HB2 : Hid (Below w.heap.size w w2) := HB0.out.trans (hb2.mono HB0.out.size)
      clear hb2 hsx
      go_wp2
      go_ret
      refine ⟨⟨_, rfl, ?_⟩, HB2.out⟩
      rw [HTY.out HZ.out]
      simp [HNL.out, HSX.out]
end Go.Proofs.YtkbodiggdajbeaaGreatDoor

/- impl.ended, walked. -/
namespace Go.Proofs.YtkbodiggdajbeaaGreatDoor
open Go.ChangeShapes Go.WideShapes Go.ChangeAt Go.RowKit

set_option maxHeartbeats 1000000 in
theorem impl_ended (c : CaD) (v : Value) (w : World) : Calls Tryz.prog 87 #[CaV c v] w fun e w' => e = .returned (.bool (decide (0 ≤ c.en))) ∧ Below w.heap.size w w' := by
  obtain ⟨t, kd, k, vv, st, ln, en, cd⟩ := c
  have HB : Hid (Below w.heap.size w (w.alloc (.cells #[.int .i64 t, .int .i64 kd, .int .i64 k, .int .i64 vv, .int .i64 st, .int .i64 ln, .int .i64 en, .int .i64 cd, v] 61))) := (Below.refl _ w).alloc (Nat.le_refl _) _
  by_cases h : 0 ≤ en
  · have h' : decide (0 ≤ en) = true := decide_eq_true h
    show Calls Tryz.prog 87 #[.agg #[.int .i64 t, .int .i64 kd, .int .i64 k, .int .i64 vv, .int .i64 st, .int .i64 ln, .int .i64 en, .int .i64 cd, v]] w fun e w' => e = .returned (.bool (decide (0 ≤ en))) ∧ Below w.heap.size w w'
    rw [h']
    go_enter Tryz.func87, Tryz.ntmps87
    go_wp2
    go_ret
    exact ⟨rfl, HB.out⟩
  · have h' : decide (0 ≤ en) = false := decide_eq_false h
    show Calls Tryz.prog 87 #[.agg #[.int .i64 t, .int .i64 kd, .int .i64 k, .int .i64 vv, .int .i64 st, .int .i64 ln, .int .i64 en, .int .i64 cd, v]] w fun e w' => e = .returned (.bool (decide (0 ≤ en))) ∧ Below w.heap.size w w'
    rw [h']
    go_enter Tryz.func87, Tryz.ntmps87
    go_wp2
    go_ret
    exact ⟨rfl, HB.out⟩
end Go.Proofs.YtkbodiggdajbeaaGreatDoor

/- The program's outcome and CallText, walked. -/
namespace Go.Proofs.YtkbodiggdajbeaaGreatDoor
open Go.ChangeShapes Go.WideShapes Go.ChangeAt Go.RowKit
open Go.Lib (itoa itoa_length_le)

/-- The tables that calls are written by. -/
def Tabs15 (w : World) : Prop := OpNamesIs w ∧ ResNamesIs w ∧ Lib.TabIs Tryz.prog w "internal/strconv.uint64pow10" .u64 Lib.pow10Tab
theorem Tabs15.below {w w' : World} {B : Nat} (h : Tabs15 w) (hb : Below B w w') (hB : w.heap.size ≤ B) : Tabs15 w' := ⟨h.1.below hb hB, h.2.1.below hb hB, Joins.tab_stays gTab h.2.2 hb hB⟩
theorem parts_call {s1 s2 : ByteArray} {t kd k v sT ln en cd : Int} {rl : List Int} (h1 : s1.data.toList = opB kd k v) (h2 : s2.data.toList = outB en cd rl) : shownB [.num t, .pc ⟨#[32]⟩, .pc s1, .pc ⟨#[58, 32]⟩, .pc s2] = callB ⟨t, kd, k, v, sT, ln, en, cd⟩ rl := by
  show itoa t ++ ([32] ++ (s1.data.toList ++ ([58, 32] ++ (s2.data.toList ++ [])))) = itoa t ++ 32 :: (opB kd k v ++ 58 :: 32 :: outB en cd rl)
  rw [h1, h2]
  simp
set_option maxHeartbeats 4000000 in
set_option maxRecDepth 100000 in
theorem implOutcome_any (t kd k vv sT ln en cd : Int) (ra : Option Addr) (rn rc : Nat) (rl : List Int) (w : World) (hA : IntAt w ra rn rl) (hx : In64s rl) (hn : rn ≤ 1048576) (hT : Tabs15 w) :
    Calls Tryz.prog 52 #[.agg #[.int .i64 t, .int .i64 kd, .int .i64 k, .int .i64 vv, .int .i64 sT, .int .i64 ln, .int .i64 en, .int .i64 cd, .slice ra rn rc]] w fun e w' => TextSays e (outB en cd rl) ∧ Below w.heap.size w w' := by
  obtain ⟨W, hW⟩ : ∃ W, w.alloc (.cells #[.int .i64 t, .int .i64 kd, .int .i64 k, .int .i64 vv, .int .i64 sT, .int .i64 ln, .int .i64 en, .int .i64 cd, .slice ra rn rc] 61) = W := ⟨_, rfl⟩
  have HB0 : Hid (Below w.heap.size w W) := by rw [← hW]; exact (Below.refl _ w).alloc (Nat.le_refl _) _
  have X0 : Hid (Box W w.heap.size #[.int .i64 t, .int .i64 kd, .int .i64 k, .int .i64 vv, .int .i64 sT, .int .i64 ln, .int .i64 en, .int .i64 cd, .slice ra rn rc] 61) := by rw [← hW]; exact box_of w _ _
  have HW : Hid (w.alloc (.cells #[.int .i64 t, .int .i64 kd, .int .i64 k, .int .i64 vv, .int .i64 sT, .int .i64 ln, .int .i64 en, .int .i64 cd, .slice ra rn rc] 61) = W) := hW
  have HA : Hid (IntAt w ra rn rl) := hA
  have HI : Hid (In64s rl) := hx
  have HXL : Hid (rl.length = rn) := hA.1
  have HT : Hid (∀ y, Below W.heap.size W y → Tabs15 y) := fun y hb => hT.below (HB0.out.trans (hb.mono HB0.out.size)) (Nat.le_refl _)
  have BX : Hid (∀ y, Below W.heap.size W y → y.cell? ⟨w.heap.size, 0, none⟩ = some (.int .i64 t) ∧ y.cell? ⟨w.heap.size, 1, none⟩ = some (.int .i64 kd) ∧ y.cell? ⟨w.heap.size, 2, none⟩ = some (.int .i64 k) ∧ y.cell? ⟨w.heap.size, 3, none⟩ = some (.int .i64 vv) ∧ y.cell? ⟨w.heap.size, 4, none⟩ = some (.int .i64 sT) ∧ y.cell? ⟨w.heap.size, 5, none⟩ = some (.int .i64 ln) ∧ y.cell? ⟨w.heap.size, 6, none⟩ = some (.int .i64 en) ∧ y.cell? ⟨w.heap.size, 7, none⟩ = some (.int .i64 cd) ∧ y.cell? ⟨w.heap.size, 8, none⟩ = some (.slice ra rn rc)) := fun y hb => nine_of (X0.out.below hb X0.out.lt)
  obtain ⟨c0, c1, c2, c3, c4, c5, c6, c7, c8⟩ := BX.out _ (Below.refl _ _)
  clear hW hA hx hT
  go_enter Tryz.func52, Tryz.ntmps52
  go_upto_region 1 with (fail)
  rw [HW.out]
  go_wp2_with fail
  refine (impl_ended ⟨t, kd, k, vv, sT, ln, en, cd⟩ (.slice ra rn rc) _).mono ?_
  rintro e w1 ⟨rfl, hb1⟩
  have HB1 : Hid (Below W.heap.size W w1) := hb1
  clear hb1 c0 c1 c2 c3 c4 c5 c6 c7 c8
  obtain ⟨c0, c1, c2, c3, c4, c5, c6, c7, c8⟩ := BX.out _ HB1.out
  by_cases he : en < 0
  · have hd : decide (0 ≤ en) = false := decide_eq_false (by omega)
    have HO : Hid (outB en cd rl = [111, 112, 101, 110]) := if_pos he
    dsimp only
    rw [hd]
    go_wp2
    go_ret
    exact ⟨⟨_, rfl, HO.out.symm⟩, HB0.out.trans (HB1.out.mono HB0.out.size)⟩
  · have hd : decide (0 ≤ en) = true := decide_eq_true (by omega)
    have HO : Hid (outB en cd rl = resB cd rl) := if_neg he
    dsimp only
    rw [hd]
    have HB01 : Hid (Below w.heap.size w w1) := HB0.out.trans (HB1.out.mono HB0.out.size)
    go_wp2_with fail
    refine (implResText_any cd ra rn rc rl _ (HA.out.below HB01.out (Nat.le_refl _)) hn HI.out (HT.out _ HB1.out).2.1 (HT.out _ HB1.out).2.2).mono ?_
    rintro e w2 ⟨⟨s2, rfl, hs2⟩, hb2⟩
    have HS2 : Hid (s2.data.toList = resB cd rl) := hs2
    have HB2 : Hid (Below w.heap.size w w2) := HB01.out.trans (hb2.mono HB01.out.size)
    clear hs2 hb2
    go_wp2
    go_ret
    exact ⟨⟨s2, rfl, HS2.out.trans HO.out.symm⟩, HB2.out⟩
set_option maxHeartbeats 4000000 in
set_option maxRecDepth 100000 in
theorem implCallText_any (C : CaD) (ra : Option Addr) (rn rc : Nat) (rl : List Int) (w : World) (hA : IntAt w ra rn rl) (hx : In64s rl) (ht : I64 C.t) (hn : rn ≤ 1048576) (hT : Tabs15 w) :
    Calls Tryz.prog 26 #[CaV C (.slice ra rn rc)] w fun e w' => TextSays e (callB C rl) ∧ Below w.heap.size w w' := by
  obtain ⟨t, kd, k, vv, sT, ln, en, cd⟩ := C
  dsimp only at ht
  show Calls Tryz.prog 26 #[.agg #[.int .i64 t, .int .i64 kd, .int .i64 k, .int .i64 vv, .int .i64 sT, .int .i64 ln, .int .i64 en, .int .i64 cd, .slice ra rn rc]] w fun e w' => TextSays e (callB ⟨t, kd, k, vv, sT, ln, en, cd⟩ rl) ∧ Below w.heap.size w w'
  obtain ⟨W, hW⟩ : ∃ W, w.alloc (.cells #[.int .i64 t, .int .i64 kd, .int .i64 k, .int .i64 vv, .int .i64 sT, .int .i64 ln, .int .i64 en, .int .i64 cd, .slice ra rn rc] 61) = W := ⟨_, rfl⟩
  have HB0 : Hid (Below w.heap.size w W) := by rw [← hW]; exact (Below.refl _ w).alloc (Nat.le_refl _) _
  have X0 : Hid (Box W w.heap.size #[.int .i64 t, .int .i64 kd, .int .i64 k, .int .i64 vv, .int .i64 sT, .int .i64 ln, .int .i64 en, .int .i64 cd, .slice ra rn rc] 61) := by rw [← hW]; exact box_of w _ _
  have HW : Hid (w.alloc (.cells #[.int .i64 t, .int .i64 kd, .int .i64 k, .int .i64 vv, .int .i64 sT, .int .i64 ln, .int .i64 en, .int .i64 cd, .slice ra rn rc] 61) = W) := hW
  have HA : Hid (IntAt w ra rn rl) := hA
  have HI : Hid (In64s rl) := hx
  have HXL : Hid (rl.length = rn) := hA.1
  have HT : Hid (∀ y, Below W.heap.size W y → Tabs15 y) := fun y hb => hT.below (HB0.out.trans (hb.mono HB0.out.size)) (Nat.le_refl _)
  have BX : Hid (∀ y, Below W.heap.size W y → y.cell? ⟨w.heap.size, 0, none⟩ = some (.int .i64 t) ∧ y.cell? ⟨w.heap.size, 1, none⟩ = some (.int .i64 kd) ∧ y.cell? ⟨w.heap.size, 2, none⟩ = some (.int .i64 k) ∧ y.cell? ⟨w.heap.size, 3, none⟩ = some (.int .i64 vv) ∧ y.cell? ⟨w.heap.size, 4, none⟩ = some (.int .i64 sT) ∧ y.cell? ⟨w.heap.size, 5, none⟩ = some (.int .i64 ln) ∧ y.cell? ⟨w.heap.size, 6, none⟩ = some (.int .i64 en) ∧ y.cell? ⟨w.heap.size, 7, none⟩ = some (.int .i64 cd) ∧ y.cell? ⟨w.heap.size, 8, none⟩ = some (.slice ra rn rc)) := fun y hb => nine_of (X0.out.below hb X0.out.lt)
  have HOK : Hid (∀ s1 s2, ∀ x ∈ [Pt.num t, .pc ⟨#[32]⟩, .pc s1, .pc ⟨#[58, 32]⟩, .pc s2], PtOk x) := fun s1 s2 x hx => by
    simp only [List.mem_cons, List.not_mem_nil, or_false] at hx
    rcases hx with rfl | rfl | rfl | rfl | rfl
    · exact ht
    · trivial
    · trivial
    · trivial
    · trivial
  have HLEN : Hid ((callB ⟨t, kd, k, vv, sT, ln, en, cd⟩ rl).length ≤ 70368744177664) := by
    have h1 := callB_le (c := ⟨t, kd, k, vv, sT, ln, en, cd⟩) ht hx (by have := hA.1; omega)
    show _ ≤ _
    omega
  have HBD : Hid (Below W.heap.size W W.drew) := (Below.refl _ _).drew
  have K0 : Hid (W.drew.cell? ⟨w.heap.size, 0, none⟩ = some (.int .i64 t) ∧ W.drew.cell? ⟨w.heap.size, 1, none⟩ = some (.int .i64 kd) ∧ W.drew.cell? ⟨w.heap.size, 2, none⟩ = some (.int .i64 k) ∧ W.drew.cell? ⟨w.heap.size, 3, none⟩ = some (.int .i64 vv) ∧ W.drew.cell? ⟨w.heap.size, 4, none⟩ = some (.int .i64 sT) ∧ W.drew.cell? ⟨w.heap.size, 5, none⟩ = some (.int .i64 ln) ∧ W.drew.cell? ⟨w.heap.size, 6, none⟩ = some (.int .i64 en) ∧ W.drew.cell? ⟨w.heap.size, 7, none⟩ = some (.int .i64 cd) ∧ W.drew.cell? ⟨w.heap.size, 8, none⟩ = some (.slice ra rn rc)) := BX.out _ HBD.out
  clear hW hA hx ht hT
  go_enter Tryz.func26, Tryz.ntmps26
  go_upto_region 1 with (fail)
  rw [HW.out]
  go_region_held3 (fun w' => w'.cell? ⟨w.heap.size, 0, none⟩ = some (.int .i64 t) ∧ w'.cell? ⟨w.heap.size, 1, none⟩ = some (.int .i64 kd) ∧ w'.cell? ⟨w.heap.size, 2, none⟩ = some (.int .i64 k) ∧ w'.cell? ⟨w.heap.size, 3, none⟩ = some (.int .i64 vv) ∧ w'.cell? ⟨w.heap.size, 4, none⟩ = some (.int .i64 sT) ∧ w'.cell? ⟨w.heap.size, 5, none⟩ = some (.int .i64 ln) ∧ w'.cell? ⟨w.heap.size, 6, none⟩ = some (.int .i64 en) ∧ w'.cell? ⟨w.heap.size, 7, none⟩ = some (.int .i64 cd) ∧ w'.cell? ⟨w.heap.size, 8, none⟩ = some (.slice ra rn rc))
    (first | (with_reducible exact K9.out) | (with_reducible exact K2.out) | (with_reducible exact K1.out) | (with_reducible exact K0.out) | (exact BX.out _ (HB2.out.alloc HB2.out.size _)) | go_keep)
    (first
    | (go_at_call 51
       refine (implOpText_any kd k vv _ (HT.out _ HBD.out).1 (HT.out _ HBD.out).2.2).mono ?_
       rintro e w1 ⟨⟨s1, rfl, hs1⟩, hb1⟩
       have HS1 : Hid (s1.data.toList = opB kd k vv) := hs1
       have hb1' : Below W.heap.size W w1 := HBD.out.trans hb1
       have HB1 : Hid (Below W.heap.size W w1) := hb1'
       have K1 : Hid (w1.cell? ⟨w.heap.size, 0, none⟩ = some (.int .i64 t) ∧ w1.cell? ⟨w.heap.size, 1, none⟩ = some (.int .i64 kd) ∧ w1.cell? ⟨w.heap.size, 2, none⟩ = some (.int .i64 k) ∧ w1.cell? ⟨w.heap.size, 3, none⟩ = some (.int .i64 vv) ∧ w1.cell? ⟨w.heap.size, 4, none⟩ = some (.int .i64 sT) ∧ w1.cell? ⟨w.heap.size, 5, none⟩ = some (.int .i64 ln) ∧ w1.cell? ⟨w.heap.size, 6, none⟩ = some (.int .i64 en) ∧ w1.cell? ⟨w.heap.size, 7, none⟩ = some (.int .i64 cd) ∧ w1.cell? ⟨w.heap.size, 8, none⟩ = some (.slice ra rn rc)) := BX.out _ hb1'
       clear hs1 hb1 hb1')
    | (go_at_call 52
       refine (implOutcome_any t kd k vv sT ln en cd ra rn rc rl _ (HA.out.below (HB0.out.trans (HB1.out.mono HB0.out.size)) (Nat.le_refl _)) HI.out hn (HT.out _ HB1.out)).mono ?_
       rintro e w2 ⟨⟨s2, rfl, hs2⟩, hb2⟩
       have HS2 : Hid (s2.data.toList = outB en cd rl) := hs2
       have hb2' : Below W.heap.size W w2 := HB1.out.trans (hb2.mono HB1.out.size)
       have HB2 : Hid (Below W.heap.size W w2) := hb2'
       have K2 : Hid (w2.cell? ⟨w.heap.size, 0, none⟩ = some (.int .i64 t) ∧ w2.cell? ⟨w.heap.size, 1, none⟩ = some (.int .i64 kd) ∧ w2.cell? ⟨w.heap.size, 2, none⟩ = some (.int .i64 k) ∧ w2.cell? ⟨w.heap.size, 3, none⟩ = some (.int .i64 vv) ∧ w2.cell? ⟨w.heap.size, 4, none⟩ = some (.int .i64 sT) ∧ w2.cell? ⟨w.heap.size, 5, none⟩ = some (.int .i64 ln) ∧ w2.cell? ⟨w.heap.size, 6, none⟩ = some (.int .i64 en) ∧ w2.cell? ⟨w.heap.size, 7, none⟩ = some (.int .i64 cd) ∧ w2.cell? ⟨w.heap.size, 8, none⟩ = some (.slice ra rn rc)) := BX.out _ hb2'
       clear hs2 hb2 hb2')
    | (go_at_call 27
       refine (implShown_any (some ⟨w2.heap.size, 0, none⟩) 5 5 [.num t, .pc ⟨#[32]⟩, .pc s1, .pc ⟨#[58, 32]⟩, .pc s2] _ (Box.pts (ps := [.num t, .pc ⟨#[32]⟩, .pc s1, .pc ⟨#[58, 32]⟩, .pc s2]) (box_of w2 _ _)) (HOK.out s1 s2) (by omega) (by rw [parts_call (sT := sT) (ln := ln) HS1.out HS2.out]; exact HLEN.out) ((fun y hb => (HT.out y hb).2.2) _ (HB2.out.alloc HB2.out.size _))).mono ?_
       rintro e w9 ⟨⟨s9, rfl, hs9⟩, hb9⟩
       have HS9 : Hid (s9.data.toList = shownB [.num t, .pc ⟨#[32]⟩, .pc s1, .pc ⟨#[58, 32]⟩, .pc s2]) := hs9
       have hb9' : Below W.heap.size W w9 := (HB2.out.alloc HB2.out.size _).trans (hb9.mono (Nat.le_trans HB2.out.size (by simp)))
       have HB9 : Hid (Below W.heap.size W w9) := hb9'
       have K9 : Hid (w9.cell? ⟨w.heap.size, 0, none⟩ = some (.int .i64 t) ∧ w9.cell? ⟨w.heap.size, 1, none⟩ = some (.int .i64 kd) ∧ w9.cell? ⟨w.heap.size, 2, none⟩ = some (.int .i64 k) ∧ w9.cell? ⟨w.heap.size, 3, none⟩ = some (.int .i64 vv) ∧ w9.cell? ⟨w.heap.size, 4, none⟩ = some (.int .i64 sT) ∧ w9.cell? ⟨w.heap.size, 5, none⟩ = some (.int .i64 ln) ∧ w9.cell? ⟨w.heap.size, 6, none⟩ = some (.int .i64 en) ∧ w9.cell? ⟨w.heap.size, 7, none⟩ = some (.int .i64 cd) ∧ w9.cell? ⟨w.heap.size, 8, none⟩ = some (.slice ra rn rc)) := BX.out _ hb9'
       clear hs9 hb9 hb9'))
  go_wp2
  go_ret
  exact ⟨⟨s9, rfl, HS9.out.trans (parts_call HS1.out HS2.out)⟩, HB0.out.trans (HB9.out.mono HB0.out.size)⟩
end Go.Proofs.YtkbodiggdajbeaaGreatDoor

/- The program's RowsText, walked. -/
namespace Go.Proofs.YtkbodiggdajbeaaGreatDoor
open Go.ChangeShapes Go.WideShapes Go.ChangeAt Go.RowKit
open Go.Lib (itoa itoa_length_le)

theorem parts_rows {s1 : ByteArray} {xs : List Int} {st : Int} (h : s1.data.toList = numsB xs) : shownB [.pc s1, .pc ⟨#[47]⟩, .num st] = rowsB xs st := by
  show s1.data.toList ++ ([47] ++ (itoa st ++ [])) = numsB xs ++ 47 :: itoa st
  rw [h]
  simp
set_option maxHeartbeats 4000000 in
set_option maxRecDepth 100000 in
theorem implRowsText_any (a : Option Addr) (n c : Nat) (st : Int) (xs : List Int) (w : World) (hA : IntAt w a n xs) (hx : In64s xs) (hs : I64 st) (hn : n ≤ 1048576) (htab : Lib.TabIs Tryz.prog w "internal/strconv.uint64pow10" .u64 Lib.pow10Tab) :
    Calls Tryz.prog 25 #[.agg #[.slice a n c, .int .i64 st]] w fun e w' => TextSays e (rowsB xs st) ∧ Below w.heap.size w w' := by
  obtain ⟨W, hW⟩ : ∃ W, w.alloc (.cells #[.slice a n c, .int .i64 st] 41) = W := ⟨_, rfl⟩
  have HB0 : Hid (Below w.heap.size w W) := by rw [← hW]; exact (Below.refl _ w).alloc (Nat.le_refl _) _
  have X0 : Hid (Box W w.heap.size #[.slice a n c, .int .i64 st] 41) := by rw [← hW]; exact box_of w _ _
  have HW : Hid (w.alloc (.cells #[.slice a n c, .int .i64 st] 41) = W) := hW
  have HA : Hid (IntAt w a n xs) := hA
  have HI : Hid (In64s xs) := hx
  have HXL : Hid (xs.length = n) := hA.1
  have HTAB : Hid (∀ y, Below W.heap.size W y → Lib.TabIs Tryz.prog y "internal/strconv.uint64pow10" .u64 Lib.pow10Tab) := fun y hb => Joins.tab_stays gTab htab (HB0.out.trans (hb.mono HB0.out.size)) (Nat.le_refl _)
  have HOK : Hid (∀ s1, ∀ x ∈ [Pt.pc s1, .pc ⟨#[47]⟩, .num st], PtOk x) := fun s1 x hx => by
    simp only [List.mem_cons, List.not_mem_nil, or_false] at hx
    rcases hx with rfl | rfl | rfl
    · trivial
    · trivial
    · exact hs
  have HLEN : Hid ((rowsB xs st).length ≤ 70368744177664) := by
    have h1 := rowsB_le hx hs
    have h2 := hA.1
    show _ ≤ _
    omega
  have BX : Hid (∀ y, Below W.heap.size W y → y.cell? ⟨w.heap.size, 0, none⟩ = some (.slice a n c) ∧ y.cell? ⟨w.heap.size, 1, none⟩ = some (.int .i64 st)) := fun y hb => by
    obtain ⟨h0, h1, _, _⟩ := (X0.out.below hb X0.out.lt).two
    exact ⟨h0, h1⟩
  have HBD : Hid (Below W.heap.size W W.drew) := (Below.refl _ _).drew
  have K0 : Hid (W.drew.cell? ⟨w.heap.size, 0, none⟩ = some (.slice a n c) ∧ W.drew.cell? ⟨w.heap.size, 1, none⟩ = some (.int .i64 st)) := BX.out _ HBD.out
  clear hW hA hx hs htab
  go_enter Tryz.func25, Tryz.ntmps25
  go_upto_region 1 with (fail)
  rw [HW.out]
  go_region_held3 (fun w' => w'.cell? ⟨w.heap.size, 0, none⟩ = some (.slice a n c) ∧ w'.cell? ⟨w.heap.size, 1, none⟩ = some (.int .i64 st))
    (first | (with_reducible exact K9.out) | (with_reducible exact K1.out) | (with_reducible exact K0.out) | (exact BX.out _ (HB1.out.alloc HB1.out.size _)) | go_keep)
    (first
    | (go_at_call 50
       refine (implNums_any a n c xs _ (HA.out.below HB0.out.drew (Nat.le_refl _)) hn HI.out (HTAB.out _ HBD.out)).mono ?_
       obtain ⟨s1, hs1⟩ : ∃ s1 : ByteArray, s1 = ⟨(numsB xs).toArray⟩ := ⟨_, rfl⟩
       rw [← hs1]
       rintro e w1 ⟨rfl, hb1⟩
       have HS1 : Hid (s1.data.toList = numsB xs) := by show _ = _; rw [hs1]
       have hb1' : Below W.heap.size W w1 := HBD.out.trans hb1
       have HB1 : Hid (Below W.heap.size W w1) := hb1'
       have K1 : Hid (w1.cell? ⟨w.heap.size, 0, none⟩ = some (.slice a n c) ∧ w1.cell? ⟨w.heap.size, 1, none⟩ = some (.int .i64 st)) := BX.out _ hb1'
       clear hs1 hb1 hb1')
    | (go_at_call 27
       refine (implShown_any (some ⟨w1.heap.size, 0, none⟩) 3 3 [.pc s1, .pc ⟨#[47]⟩, .num st] _ (Box.pts (ps := [.pc s1, .pc ⟨#[47]⟩, .num st]) (box_of w1 _ _)) (HOK.out s1) (by omega) (by rw [parts_rows HS1.out]; exact HLEN.out) (HTAB.out _ (HB1.out.alloc HB1.out.size _))).mono ?_
       rintro e w9 ⟨⟨s9, rfl, hs9⟩, hb9⟩
       have HS9 : Hid (s9.data.toList = shownB [.pc s1, .pc ⟨#[47]⟩, .num st]) := hs9
       have hb9' : Below W.heap.size W w9 := (HB1.out.alloc HB1.out.size _).trans (hb9.mono (Nat.le_trans HB1.out.size (by simp)))
       have HB9 : Hid (Below W.heap.size W w9) := hb9'
       have K9 : Hid (w9.cell? ⟨w.heap.size, 0, none⟩ = some (.slice a n c) ∧ w9.cell? ⟨w.heap.size, 1, none⟩ = some (.int .i64 st)) := BX.out _ hb9'
       clear hs9 hb9 hb9'))
  go_wp2
  go_ret
  exact ⟨⟨s9, rfl, HS9.out.trans (parts_rows HS1.out)⟩, HB0.out.trans (HB9.out.mono HB0.out.size)⟩
end Go.Proofs.YtkbodiggdajbeaaGreatDoor

/- impl.rowsAnew: Rows that are copied, with memory of their own. -/
namespace Go.Proofs.YtkbodiggdajbeaaGreatDoor
open Go.ChangeShapes Go.WideShapes Go.ChangeAt Go.RowKit Go.Joins

set_option maxHeartbeats 2000000 in
set_option maxRecDepth 100000 in
theorem rowsAnew_o (st : Int) (a : Option Addr) (n c : Nat) (rs : List Int) (w : World) (h : IntAt w a n rs) (ha : a = none → c = 0) :
    Calls Tryz.prog 47 #[.agg #[.slice a n c, .int .i64 st]] w fun e w' => ∃ v, e = .returned (.agg #[v, .int .i64 st]) ∧ w'.ownsRow w.heap.size 3 1 v n (rs.map I) ∧ Below w.heap.size w w' := by
  obtain ⟨W, hW⟩ : ∃ W, ((w.alloc (.cells #[.slice a n c, .int .i64 st] 41)).alloc (.cells #[.slice none 0 0, .int .i64 0] 41)) = W := ⟨_, rfl⟩
  have hb0 : Below w.heap.size w W := by rw [← hW]; exact ((Below.refl _ w).alloc (Nat.le_refl _) _).alloc (by simp) _
  have hsz : w.heap.size + 1 < W.heap.size := by rw [← hW]; simp
  have X0 : Hid (Box W w.heap.size #[.slice a n c, .int .i64 st] 41) := by rw [← hW]; exact (box_of w _ _).alloc _
  have R0 : Hid (Box W (w.heap.size + 1) #[.slice none 0 0, .int .i64 0] 41) := by
    have := box_of (w.alloc (.cells #[.slice a n c, .int .i64 st] 41)) #[.slice none 0 0, .int .i64 0] 41
    rw [hW] at this
    show Box _ _ _ _
    simpa using this
  have HA : Hid (IntAt W a n rs) := h.below hb0 (Nat.le_refl _)
  have HB0 : Hid (Below w.heap.size w W) := hb0
  have HW : Hid (((w.alloc (.cells #[.slice a n c, .int .i64 st] 41)).alloc (.cells #[.slice none 0 0, .int .i64 0] 41)) = W) := hW
  have HAN : Hid (a = none → c = 0) := ha
  obtain ⟨k0, k1, _, _⟩ := X0.out.two
  have K0 : Hid (W.drew.cell? ⟨w.heap.size, 0, none⟩ = some (.slice a n c) ∧ W.drew.cell? ⟨w.heap.size, 1, none⟩ = some (.int .i64 st)) := ⟨k0, k1⟩
  clear h ha hW hb0 k0 k1
  go_enter Tryz.func47, Tryz.ntmps47
  go_wp2_with fail
  rw [HW.out]
  go_region_held3 (fun w' => w'.cell? ⟨w.heap.size, 0, none⟩ = some (.slice a n c) ∧ w'.cell? ⟨w.heap.size, 1, none⟩ = some (.int .i64 st))
    (first | (with_reducible exact K2.out) | (with_reducible exact K1.out) | (with_reducible exact K0.out) | go_keep)
    (first
    | (go_at_call 78
       refine (cloneI_o a n c rs _ (HA.out.below (Below.refl W.heap.size W).drew (Nat.le_refl _)) HAN.out).mono ?_
       rintro e w1 ⟨v, rfl, own1, hb1⟩
       have hb1' : Below W.heap.size W w1 := (Below.refl W.heap.size W).drew.trans hb1
       obtain ⟨va, vc, rfl, _⟩ := owns_slice own1
       have OW : Hid (w1.ownsRow W.heap.size 3 1 (.slice va n vc) n (rs.map I)) := own1
       have HB1 : Hid (Below W.heap.size W w1) := hb1'
       have R1 : Hid (Box w1 (w.heap.size + 1) #[.slice none 0 0, .int .i64 0] 41) := R0.out.below hb1' hsz
       obtain ⟨r0, r1, z0, z1⟩ := R1.out.two
       obtain ⟨k0, k1, _, _⟩ := (X0.out.below hb1' X0.out.lt).two
       have K1 : Hid (w1.cell? ⟨w.heap.size, 0, none⟩ = some (.slice a n c) ∧ w1.cell? ⟨w.heap.size, 1, none⟩ = some (.int .i64 st)) := ⟨k0, k1⟩
       have K2 : Hid (((w1.setCell ⟨w.heap.size + 1, 0, none⟩ (.slice va n vc)).setCell ⟨w.heap.size + 1, 1, none⟩ (.int .i64 st)).cell? ⟨w.heap.size, 0, none⟩ = some (.slice a n c) ∧ ((w1.setCell ⟨w.heap.size + 1, 0, none⟩ (.slice va n vc)).setCell ⟨w.heap.size + 1, 1, none⟩ (.int .i64 st)).cell? ⟨w.heap.size, 1, none⟩ = some (.int .i64 st)) := by
         have := (((X0.out.below hb1' X0.out.lt).set (q := ⟨w.heap.size + 1, 0, none⟩) (show w.heap.size ≠ w.heap.size + 1 by omega) (.slice va n vc)).set (q := ⟨w.heap.size + 1, 1, none⟩) (show w.heap.size ≠ w.heap.size + 1 by omega) (.int .i64 st)).two
         exact ⟨this.1, this.2.1⟩
       clear own1 hb1 hb1' k0 k1))
  obtain ⟨e0, e1, _, _⟩ := ((R1.out.put 0 (.slice va n vc)).put 1 (.int .i64 st)).two
  go_wp2
  (try simp only [Exit.inBlock, Exit.then])
  refine bodyPost_ret (by simp [results, Tryz.results47, go_sem, e0, e1]; try rfl) rfl ?_
  have hwb : (Value.slice va n vc).ownBlock ≠ some (w.heap.size + 1) := fun e => by have := (OW.out.lt _ e).1; omega
  exact ⟨.slice va n vc, rfl, own_setCell_far (own_setCell_far (own_weaken OW.out HB0.out.size) hwb _) hwb _, ((HB0.out.trans (HB1.out.mono HB0.out.size)).setCell (by simp) _).setCell (by simp) _⟩
end Go.Proofs.YtkbodiggdajbeaaGreatDoor

/- impl.RowsIn, walked at any list. -/
namespace Go.Proofs.YtkbodiggdajbeaaGreatDoor
open Go.ChangeShapes Go.WideShapes Go.ChangeAt Go.RowKit Go.Joins

set_option maxHeartbeats 2000000 in
set_option maxRecDepth 100000 in
theorem implRowsIn_any (a : Option Addr) (n c : Nat) (ws : List Int) (w : World) (hA : IntAt w a n ws) (hc : n ≤ c) (hN : Names w) :
    Calls Tryz.prog 23 #[.slice a n c] w fun e w' => RowsSay e w w' ws ∧ Below w.heap.size w w' := by
  by_cases hn : n = 20
  case neg =>
    have hl : ¬ ws.length = 20 := by rw [hA.1]; exact hn
    have HX : Hid (inX ws = [] ∧ inS ws = 0) := ⟨inX_no hl, inS_no hl⟩
    have hd : ((n : Int) != 20) = true := by simp; omega
    have HB : Hid (Below w.heap.size w (w.alloc (.cells #[.slice none 0 0, .int .i64 0] 41))) := (Below.refl _ w).alloc (Nat.le_refl _) _
    have hnn := hA.2.1
    clear hA hl hn
    go_enter Tryz.func23, Tryz.ntmps23
    go_wp2
    (try simp only [Exit.inBlock, Exit.then])
    refine bodyPost_ret (by simp [results, Tryz.results23, go_sem]; try rfl) rfl ?_
    exact ⟨rowsSay_of HX.out.1 HX.out.2 rfl rfl (World.ownsRow_nil _ _ _ _), by first | exact HB.out | exact (HB.out.setCell (by simp) _).setCell (by simp) _⟩
  subst hn
  have hl : ws.length = 20 := hA.1
  obtain ⟨hl0, hn0, h0 | ⟨p, o, rfl, hcell⟩⟩ := hA
  · omega
  have HX : Hid (inX ws = ws.take 4 ∧ inS ws = ws.getD 13 0) := ⟨inX_yes hl, inS_yes hl⟩
  obtain ⟨st, hst⟩ : ∃ st, ws.getD 13 0 = st := ⟨_, rfl⟩
  rw [hst] at HX
  have h4 : ∀ i, i < 4 → w.cell? ⟨p, o + i, none⟩ = some (I ((ws.take 4).getD i 0)) := fun i hi => by
    rw [hcell i (by omega)]
    have : (ws.take 4).getD i 0 = ws.getD i 0 := by simp [List.getD, hi]
    rw [this]
  have H4 : Hid (IntAt w (some ⟨p, o, none⟩) 4 (ws.take 4)) := ⟨by simp; omega, by omega, .inr ⟨p, o, rfl, h4⟩⟩
  have c13 := hcell 13 (by omega)
  rw [hst] at c13
  obtain ⟨o13, ho13⟩ : ∃ o13, o + 13 = o13 := ⟨_, rfl⟩
  rw [ho13] at c13
  have plt : p < w.heap.size := World.block_lt_of_cell? w _ c13
  have H20 : Hid (20 ≤ c) := hc
  obtain ⟨m, hm⟩ : ∃ m, 4 = m := ⟨_, rfl⟩
  have hsl : ∀ w : World, (Instr.slice 28 (.slice (some ⟨p, o, none⟩) 20 c) none (some (.int .i64 4)) none).run Tryz.prog w = .ok (.slice (some ⟨p, o, none⟩) m c) w := fun w => by
    rw [run_slice_h w 28 (some ⟨p, o, none⟩) 20 c Tryz.underlying28 .i64 4 (by omega) (by omega), show Tryz.prog.elem 28 = 3 from rfl, Tryz.sizeOf3 w, ← hm]
    simp [Result.andThen, sliced, Addr.add]
  obtain ⟨xs, hxs⟩ : ∃ xs, ws.take 4 = xs := ⟨_, rfl⟩
  rw [hxs] at H4 HX
  rw [hm] at H4
  have hl4 : Hid (xs.length = m) := H4.out.1
  have HN : Hid (Names w) := hN
  clear hcell hl hl0 h4 hst hc hm hxs hN
  obtain ⟨W, hW⟩ : ∃ W, w.alloc (.cells #[.slice none 0 0, .int .i64 0] 41) = W := ⟨_, rfl⟩
  have HB0 : Hid (Below w.heap.size w W) := by rw [← hW]; exact (Below.refl _ w).alloc (Nat.le_refl _) _
  have R0 : Hid (Box W w.heap.size #[.slice none 0 0, .int .i64 0] 41) := by rw [← hW]; exact box_of w _ _
  have hsz : w.heap.size < W.heap.size := R0.out.lt
  have HW : Hid (w.alloc (.cells #[.slice none 0 0, .int .i64 0] 41) = W) := hW
  have k0 : W.drew.cell? ⟨p, o13, none⟩ = some (I st) := (HB0.out.drew.cell plt).trans c13
  have K0 : Hid (W.drew.cell? ⟨p, o13, none⟩ = some (I st)) := k0
  have HC : Hid (w.cell? ⟨p, o13, none⟩ = some (I st)) := c13
  clear hW k0 c13
  go_enter Tryz.func23, Tryz.ntmps23
  go_upto_region 3 with (fail)
  rw [HW.out]
  go_region_held3 (fun w' => w'.cell? ⟨p, o13, none⟩ = some (I st))
    (first | (with_reducible exact K3.out) | (with_reducible exact K2.out) | (with_reducible exact K1.out) | (with_reducible exact K0.out) | go_keep)
    (first
    | (go_at_call 48
       refine (implStateAt_any _ (HN.out.below HB0.out.drew HN.out.lt)).mono ?_
       rintro e w1 ⟨rfl, hb1⟩
       have hb1' : Below W.heap.size W w1 := (Below.refl W.heap.size W).drew.trans hb1
       have HB1 : Hid (Below w.heap.size w w1) := HB0.out.trans (hb1'.mono HB0.out.size)
       have R1 : Hid (Box w1 w.heap.size #[.slice none 0 0, .int .i64 0] 41) := R0.out.below hb1' hsz
       have hs1 : W.heap.size ≤ w1.heap.size := hb1'.size
       have K1 : Hid (w1.cell? ⟨p, o13, none⟩ = some (I st)) := (HB1.out.cell plt).trans HC.out
       clear hb1 hb1')
    | (go_at_call 47
       refine (rowsAnew_o st (some ⟨p, o, none⟩) m c xs _ (H4.out.below HB1.out (Nat.le_refl _)) (fun h => by cases h)).mono ?_
       rintro e w2 ⟨v, rfl, own2, hb2⟩
       obtain ⟨va, vc, rfl, _⟩ := owns_slice own2
       have OW : Hid (w2.ownsRow w1.heap.size 3 1 (.slice va m vc) m (xs.map I)) := own2
       have HB2 : Hid (Below w.heap.size w w2) := HB1.out.trans (hb2.mono HB1.out.size)
       have R2 : Hid (Box w2 w.heap.size #[.slice none 0 0, .int .i64 0] 41) := R1.out.below hb2 (by omega)
       have K2 : Hid (w2.cell? ⟨p, o13, none⟩ = some (I st)) := (HB2.out.cell plt).trans HC.out
       have K3 : Hid (((w2.setCell ⟨w.heap.size, 0, none⟩ (.slice va m vc)).setCell ⟨w.heap.size, 1, none⟩ (.int .i64 st)).cell? ⟨p, o13, none⟩ = some (I st)) := (((HB2.out.setCell (show w.heap.size ≤ w.heap.size from Nat.le_refl _) _).setCell (show w.heap.size ≤ w.heap.size from Nat.le_refl _) _).cell plt).trans HC.out
       obtain ⟨r0, r1, z0, z1⟩ := R2.out.two
       clear own2 hb2))
  obtain ⟨e0, e1, _, _⟩ := ((R2.out.put 0 (.slice va m vc)).put 1 (.int .i64 st)).two
  go_wp2
  (try simp only [Exit.inBlock, Exit.then])
  refine bodyPost_ret (by simp [results, Tryz.results23, go_sem, e0, e1]; try rfl) rfl ?_
  have hwb : (Value.slice va m vc).ownBlock ≠ some w.heap.size := fun e => by have := (OW.out.lt _ e).1; omega
  exact ⟨rowsSay_of HX.out.1 HX.out.2 hl4.out.symm rfl (own_setCell_far (own_setCell_far (own_weaken OW.out (by omega)) hwb _) hwb _), (HB2.out.setCell (by simp) _).setCell (by simp) _⟩
end Go.Proofs.YtkbodiggdajbeaaGreatDoor
