/- If OpOk of the program answers of every op as the document says, then the statement of the law FnExactOpOk holds. -/
import Derived.Test.YtlnhmmpmnflagaoRows
import Derived.Test.YtlnhmmpmnflagaoLawOp
import Derived.WalkKit
import Derived.ProofKit
import Derived.OpenShut
import Derived.ChangeOld
import Derived.Below
import Derived.Lib.SmallJoins
import Derived.Deep.RegionWith
namespace Go.Proofs.Ytlnhmmpmnflagao.fnExactOpOk
open Go.ChangeShapes Go.WideShapes Go.ChangeAt Go.RowKit Go.Joins

theorem own : ownKnob Try.prog.godebug = none := by kernel_rfl
theorem laidOut : laidOutB Try.prog = true := by kernel_rfl
/-- What is asked of the program's OpOk. -/
def Asked : Prop := ∀ (kind k v : Int) (w : World), Calls Try.prog 9 #[OpV kind k v] w fun e w' => e = .returned (.bool (decide (OpGood kind k v))) ∧ Below w.heap.size w w'

set_option maxHeartbeats 2000000 in
set_option maxRecDepth 100000 in
theorem walk (hI : Asked) (kind k v : Int) (w : World) :
    Calls Try.prog 3 #[OpV kind k v] w fun e w' => e = .returned (.bool true) ∧ Below w.heap.size w w' := by
  have HI : Hid Asked := hI
  clear hI
  obtain ⟨B, hB⟩ : ∃ B, decide (OpGood kind k v) = B := ⟨_, rfl⟩
  have HB : Hid (decide (OpGood kind k v) = B) := hB
  clear hB
  go_enter Try.func3, Try.ntmps3
  go_wp2_with fail
  refine (toOp_any kind k v _).mono ?_
  rintro e w1 ⟨rfl, hb1⟩
  simp only [World.size_alloc] at hb1
  have hs1 : w.heap.size + 1 ≤ w1.heap.size := by simpa using hb1.size
  go_wp2_with fail
  refine (specOpOk_any kind k v _).mono ?_
  rintro e w2 ⟨rfl, hb2⟩
  rw [HB.out]
  have hb02 := hb1.trans (hb2.mono hs1)
  have hs2 : w.heap.size + 1 ≤ w2.heap.size := by simpa using hb02.size
  have c0 : w2.cell? ⟨w.heap.size, 0, none⟩ = some (.int .i64 kind) := by rw [hb02.cell (by simp)]; simp
  have c1 : w2.cell? ⟨w.heap.size, 1, none⟩ = some (.int .i64 k) := by rw [hb02.cell (by simp)]; simp
  have c2 : w2.cell? ⟨w.heap.size, 2, none⟩ = some (.int .i64 v) := by rw [hb02.cell (by simp)]; simp
  clear hb1 hb2 hs1
  go_wp2_with fail
  refine (toOp_any kind k v _).mono ?_
  rintro e w3 ⟨rfl, hb3⟩
  have hb03 := hb02.trans (hb3.mono hs2)
  have hs3 : w.heap.size + 1 ≤ w3.heap.size := by simpa using hb03.size
  clear hb3 hb02 c0 c1 c2 hs2
  go_wp2_with fail
  refine (HI.out kind k v _).mono ?_
  rintro e w4 ⟨rfl, hb4⟩
  rw [HB.out]
  have hb04 := hb03.trans (hb4.mono hs3)
  have hall : Below w.heap.size w w4 := ((Below.refl _ w).alloc (Nat.le_refl _) _).trans (hb04.mono (Nat.le_succ _))
  clear hb4 hb03 hs3 hb04
  cases B
  all_goals
    go_wp2
    go_ret
    exact ⟨rfl, hall⟩

set_option maxRecDepth 100000 in
theorem lifted (hI : Asked) (os : Os) (started : os.Started) (H : Type) (enc : TypeId × Value → H) :
    ReturnsInHanded {} Try.checked os 3 .any (Rows.fnExactOpOkSpec.pre6 enc Try.prog Try.f3 Rows.fnExactOpOkRow.domain false) (Rows.fnExactOpOkSpec.post enc Try.prog Try.f3 false true false false) := by
  refine returnsInHanded_of_change (C := Try.checked) own started (by kernel_rfl) Try.func3
    (ChangeSpec.witness6 (enc := enc) (C := Try.checked) false ⟨#[], #[.agg #[.int .i64 0, .int .i64 0, .int .i64 0]], []⟩ 8 (by kernel_rfl) (by kernel_rfl) (by kernel_rfl) (by kernel_rfl)) ?_
  intro W base args ds gs before hval0 hW hcnd _
  have hval : ∀ (j : Nat) t v, Try.f3.params[j]? = some t → args[j]? = some v → Value.okWide Try.prog W .any base t v := hval0
  have hW' := hW
  obtain ⟨p, q, hA0, hV, rfl, hfz, hnd⟩ := hW
  have hA : DataW.TrodAll enc Try.prog W 0 (fun _ => true) true Try.f3.params.toList args.toList ds p := hA0
  rw [Try.params3] at hA hval
  obtain ⟨v0, d0, rfl, rfl, h0⟩ := trodAll_one hA
  obtain ⟨rfl, rfl⟩ := trodVars_none hV
  have k0 := h0
  have lt0 : ∀ x ∈ p, x.block < W.heap.size := by obtain ⟨m, hm⟩ := k0; exact DataW.trod_lt m _ _ _ hm
  obtain ⟨kind, k, v, rfl, _, _, _⟩ := open_op (hval 0 23 v0 rfl rfl) h0
  refine (walk hI kind k v W).mono fun e W' ⟨he, bel⟩ => ?_
  subst he
  exact ⟨_, rfl, _, _, _, [], _, [], hW', trodAll_mk1 (shut_bool Try.underlying4 _), (trodAll_cons_mk (Below.trod laidOut (by kernel_rfl) (of_decide_eq_true (by kernel_rfl)) k0 bel lt0) trodAll_mk0), rfl, bel.frame _, fun h => by cases h⟩

theorem over (hI : Asked) : Rows.FnExactOpOkSaid :=
  OpenClaim.holds_of_wide 3 Try.f3 rfl rfl rfl rfl rfl rfl rfl ⟨rfl, rfl, rfl, rfl, rfl⟩ rfl rfl rfl rfl rfl (by kernel_rfl) Try.func3 (by kernel_rfl)
    (of_decide_eq_true (by kernel_rfl)) (by unfold Func.isWrapper; first | (rw [if_pos (by decide +kernel)]; kernel_rfl) | (rw [if_neg (by decide +kernel)]; exact ⟨rfl, rfl⟩))
    (fun os started H enc _ => lifted hI os started H enc)
end Go.Proofs.Ytlnhmmpmnflagao.fnExactOpOk
