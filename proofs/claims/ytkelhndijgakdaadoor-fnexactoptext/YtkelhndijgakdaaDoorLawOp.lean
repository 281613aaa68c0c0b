/- The laws' own helper for ops, walked: toOp (a new op that reads alike); an op that came in, opened. -/
import Derived.Test.YtkelhndijgakdaaDoorSpecOp
import Derived.Handy
import Derived.OpenShut
import Derived.ChangeOld
import Derived.Lib.SmallJoins
namespace Go.Proofs.YtkelhndijgakdaaDoor
open Go.ChangeShapes Go.WideShapes Go.ChangeAt Go.RowKit Go.Joins

set_option maxHeartbeats 1000000 in
theorem toOp_any (kind k v : Int) (w : World) :
    Calls Tryd.prog 7 #[OpV kind k v] w fun e w' => e = .returned (OpV kind k v) ∧ Below w.heap.size w w' := by
  go_enter Tryd.func7, Tryd.ntmps7
  go_wp2
  (try simp only [Exit.inBlock, Exit.then])
  refine bodyPost_ret (by simp [results, Tryd.results7, go_sem]; try rfl) rfl ?_
  exact ⟨rfl, (((Below.refl _ w).alloc (Nat.le_refl _) _).alloc (by simp) _).alloc (by simp; omega) _⟩

theorem cellsOp : Tryd.prog.cellsOf 23 = 3 := by kernel_rfl
set_option maxRecDepth 100000 in
theorem open_op {H : Type} {enc : TypeId × Value → H} {W : World} {base b0 : Nat} {held : Bool} {v : Value} {d : DataW H} {p : List MemPlace}
    (hv : Value.okWide Tryd.prog W .any b0 23 v) (h : DataW.Trod enc Tryd.prog W base (fun _ => true) held 23 v d p) :
    ∃ (kind k x : Int), v = OpV kind k x ∧ (Lit.int .i64 kind).wf = true ∧ (Lit.int .i64 k).wf = true ∧ (Lit.int .i64 x).wf = true := by
  obtain ⟨v0, v1, v2, y0, y1, y2, m, rfl, rfl, rfl, h0, h1, h2⟩ := open_agg3 Tryd.underlying23 (by kernel_rfl) cellsOp hv h
  obtain ⟨x0, e0, rfl, w0⟩ := DataW.trod_int Tryd.underlying3 h0
  obtain ⟨x1, e1, rfl, w1⟩ := DataW.trod_int Tryd.underlying3 h1
  obtain ⟨x2, e2, rfl, w2⟩ := DataW.trod_int Tryd.underlying3 h2
  obtain rfl : v0 = .int .i64 x0 := by simpa using e0
  obtain rfl : v1 = .int .i64 x1 := by simpa using e1
  obtain rfl : v2 = .int .i64 x2 := by simpa using e2
  exact ⟨x0, x1, x2, rfl, w0, w1, w2⟩
end Go.Proofs.YtkelhndijgakdaaDoor
