/- A Desc that came in, opened. -/
import Derived.Test.YtbdfopokimpeiaqDesc
import Derived.OpenShut
import Derived.ChangeOld
namespace Go.Proofs.Ytbdfopokimpeiaq
open Go.ChangeShapes Go.WideShapes Go.ChangeAt Go.RowKit Go.Joins

theorem cellsLDesc : Try.prog.cellsOf 77 = 5 := by kernel_rfl
theorem cellsInt6 : Try.prog.cellsOf 3 = 1 := by kernel_rfl
theorem cellsLEntS : Try.prog.cellsOf 59 = 1 := by kernel_rfl
theorem cellsIntS6 : Try.prog.cellsOf 34 = 1 := by kernel_rfl
theorem cellsLRes6 : Try.prog.cellsOf 61 = 2 := by kernel_rfl
theorem list5 {α : Type} : ∀ {l : List α}, l.length = 5 → ∃ c0 c1 c2 c3 c4, l = [c0, c1, c2, c3, c4]
  | [c0, c1, c2, c3, c4], _ => ⟨c0, c1, c2, c3, c4, rfl⟩

/-- What is known of a Desc's five cells that came in. -/
structure DescIn (W : World) (sq st : Int) (ea : Option Addr) (en : Nat) (es : List Int) (cd : Int) (ra : Option Addr) (rn : Nat) (rs : List Int) : Prop where
  we : en ≤ 9223372036854775807
  wr : rn ≤ 9223372036854775807
  ents : en ≤ 1048576 → TripAt W ea en es
  ints : rn ≤ 1048576 → IntAt W ra rn rs
set_option maxRecDepth 100000 in
theorem open_desc_cells {H : Type} {enc : TypeId × Value → H} {W : World} {base : Nat} {held : Bool} {fuel : Nat} {cs : List Value} {x : DataW H × List MemPlace}
    (h : DataW.trod enc Try.prog W base (fun _ => true) held fuel 77 cs = some x) :
    ∃ (sq st : Int) (ea : Option Addr) (en ec : Nat) (es : List Int) (cd : Int) (ra : Option Addr) (rn rc : Nat) (rs : List Int), cs = [.int .i64 sq, .int .i64 st, .slice ea en ec, .int .i64 cd, .slice ra rn rc] ∧ DescIn W sq st ea en es cd ra rn rs := by
  obtain ⟨y0, y1, y2, y3, n, _, hl, h0, h1, h2, h3⟩ := trod_struct4 Try.underlying77 h
  rw [cellsLDesc] at hl
  obtain ⟨c0, c1, c2, c3, c4, rfl⟩ := list5 hl
  have h0' : DataW.trod enc Try.prog W base (fun _ => true) held n 3 [c0] = some y0 := by simpa [cellsInt6] using h0
  have h1' : DataW.trod enc Try.prog W base (fun _ => true) held n 3 [c1] = some y1 := by simpa [cellsInt6] using h1
  have h2' : DataW.trod enc Try.prog W base (fun _ => true) held n 59 [c2] = some y2 := by simpa [cellsLEntS] using h2
  have h3' : DataW.trod enc Try.prog W base (fun _ => true) held n 61 [c3, c4] = some y3 := by simpa [cellsLRes6] using h3
  clear h0 h1 h2 h3
  obtain ⟨z0, z1, m, _, _, g0, g1⟩ := trod_struct2 Try.underlying61 h3'
  have g0' : DataW.trod enc Try.prog W base (fun _ => true) held m 3 [c3] = some z0 := by simpa [cellsInt6] using g0
  have g1' : DataW.trod enc Try.prog W base (fun _ => true) held m 34 [c4] = some z1 := by simpa [cellsIntS6] using g1
  clear g0 g1 h3'
  obtain ⟨sq, e0, _, w0⟩ := DataW.trod_int Try.underlying3 h0'
  obtain ⟨st, e1, _, w1⟩ := DataW.trod_int Try.underlying3 h1'
  obtain ⟨cd, e3, _, w3⟩ := DataW.trod_int Try.underlying3 g0'
  obtain rfl : c0 = .int .i64 sq := by simpa using e0
  obtain rfl : c1 = .int .i64 st := by simpa using e1
  obtain rfl : c3 = .int .i64 cd := by simpa using e3
  obtain ⟨ea, en, ec, es, rfl, he, _, hE⟩ := open_trips Try.underlying59 Try.underlying108 (by kernel_rfl) rfl rfl rfl (by kernel_rfl) (by kernel_rfl) (by kernel_rfl) Try.underlying3 Try.underlying3 Try.underlying3 h2'
  rcases open_ints Try.underlying34 Try.underlying3 (by kernel_rfl) g1' with ⟨hcs, _⟩ | ⟨x, l, cc, zs, hcs, _, hl, hm, hz, _, hcell, hwz⟩
  · obtain rfl : c4 = .slice none 0 0 := by simpa using hcs
    exact ⟨sq, st, ea, en, ec, es, cd, none, 0, 0, [], rfl, he, by omega, hE, fun _ => ⟨rfl, by omega, .inl rfl⟩⟩
  · obtain rfl : c4 = .slice (some x) l cc := by simpa using hcs
    refine ⟨sq, st, ea, en, ec, es, cd, some x, l, cc, zs.take l, rfl, he, by unfold maxLen at hm; omega, hE, fun hn => ⟨by simp at hz; rw [List.length_take]; omega, by omega, ?_⟩⟩
    by_cases h0 : l = 0
    · exact .inl h0
    · simp at hz
      obtain ⟨b, o, rfl, hc⟩ := ints_at hcell (by omega)
      refine .inr ⟨b, o, rfl, fun i hi => ?_⟩
      rw [hc i (by omega)]
      simp [List.getD, hi]
set_option maxRecDepth 100000 in
theorem open_desc {H : Type} {enc : TypeId × Value → H} {W : World} {base b0 : Nat} {held : Bool} {v : Value} {d : DataW H} {p : List MemPlace}
    (hv : Value.okWide Try.prog W .any b0 77 v) (h : DataW.Trod enc Try.prog W base (fun _ => true) held 77 v d p) :
    ∃ (sq st : Int) (ea : Option Addr) (en ec : Nat) (es : List Int) (cd : Int) (ra : Option Addr) (rn rc : Nat) (rs : List Int), v = DescV sq st ea en ec cd ra rn rc ∧ DescIn W sq st ea en es cd ra rn rs := by
  obtain ⟨cs, rfl, _⟩ := okWide_struct Try.underlying77 hv
  obtain ⟨fuel, hf⟩ := h
  obtain ⟨sq, st, ea, en, ec, es, cd, ra, rn, rc, rs, hcs, hin⟩ := open_desc_cells hf
  refine ⟨sq, st, ea, en, ec, es, cd, ra, rn, rc, rs, ?_, hin⟩
  have e : cs.toList = [.int .i64 sq, .int .i64 st, .slice ea en ec, .int .i64 cd, .slice ra rn rc] := by simpa [Value.cells] using hcs
  rw [show cs = cs.toList.toArray by simp, e]
end Go.Proofs.Ytbdfopokimpeiaq
