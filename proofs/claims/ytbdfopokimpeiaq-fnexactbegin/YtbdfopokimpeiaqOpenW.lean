/- Words, and a list of Descs, that came in, opened. -/
import Derived.Test.YtbdfopokimpeiaqWrds
import Derived.Test.YtbdfopokimpeiaqDescs
import Derived.OpenShut
import Derived.ChangeOld
namespace Go.Proofs.Ytbdfopokimpeiaq
open Go.ChangeShapes Go.WideShapes Go.ChangeAt Go.RowKit Go.Joins

set_option maxRecDepth 100000 in
/-- Words that came in, opened. -/
theorem open_words {H : Type} {enc : TypeId × Value → H} {W : World} {base : Nat} {held : Bool} {v : Value} {d : DataW H} {p : List MemPlace} {b0 : Nat}
    (hv : Value.okWide Try.prog W .any b0 22 v) (h : DataW.Trod enc Try.prog W base (fun _ => true) held 22 v d p) :
    ∃ (a : Option Addr) (n c : Nat) (fs : List Int), v = .slice a n c ∧ n ≤ 9223372036854775807 ∧ (n ≤ 1048576 → TripAt W a n fs) := by
  obtain ⟨a0, n0, c0, rfl⟩ := okWide_slice Try.underlying22 hv
  obtain ⟨fuel, hf⟩ := h
  have hf' : DataW.trod enc Try.prog W base (fun _ => true) held fuel 22 [.slice a0 n0 c0] = some (d, p) := by simpa [Value.cells] using hf
  obtain ⟨a, n, c, fs, e, h1, _, h2⟩ := open_trips Try.underlying22 Try.underlying88 (by kernel_rfl) rfl rfl rfl (by kernel_rfl) (by kernel_rfl) (by kernel_rfl) Try.underlying3 Try.underlying3 Try.underlying3 hf'
  exact ⟨a, n, c, fs, e, h1, h2⟩
set_option maxRecDepth 100000 in
/-- A list of Descs that came in, opened. -/
theorem open_descs_v {H : Type} {enc : TypeId × Value → H} {W : World} {base : Nat} {held : Bool} {v : Value} {d : DataW H} {p : List MemPlace} {b0 : Nat}
    (hv : Value.okWide Try.prog W .any b0 23 v) (h : DataW.Trod enc Try.prog W base (fun _ => true) held 23 v d p) :
    ∃ (a : Option Addr) (n c : Nat) (ds : List DK), v = .slice a n c ∧ n ≤ 9223372036854775807 ∧ (n ≤ 1048576 → DescPre W a n ds) := by
  obtain ⟨a0, n0, c0, rfl⟩ := okWide_slice Try.underlying23 hv
  obtain ⟨fuel, hf⟩ := h
  have hf' : DataW.trod enc Try.prog W base (fun _ => true) held fuel 23 [.slice a0 n0 c0] = some (d, p) := by simpa [Value.cells] using hf
  exact open_descs hf'
end Go.Proofs.Ytbdfopokimpeiaq
