/- The law FnExactTupleOk, walked from what the program's function is said to answer. -/
import Derived.Test.YtgibeakclknhnaaRows
import Derived.Test.YtgibeakclknhnaaVasC
import Derived.Test.YtgibeakclknhnaaSp18a
import Derived.Test.YtgibeakclknhnaaDatVs
import Derived.Test.YtgibeakclknhnaaDatVt
import Derived.OpenShut
import Derived.ChangeOld
import Derived.Below
import Derived.Lib.SmallJoins
import Derived.Deep.RegionHeld3
import Derived.Deep.Cut
namespace Go.Proofs.Ytgibeakclknhnaa
open Go.ChangeShapes Go.WideShapes Go.ChangeAt Go.RowKit Go.Joins

namespace fnExactTupleOk
theorem own : ownKnob Try.prog.godebug = none := by kernel_rfl
theorem laidOut : laidOutB Try.prog = true := by kernel_rfl
/-- What the law asks of the program's function. -/
def Asked : Prop := ∀ (a : Option Addr) (n c : Nat) (L : List Va3) (w : World), VasAt w a n L → n ≤ c → Calls Try.prog 12 #[.slice a n c] w fun e w' => e = .returned (.bool (decide (TupGood L))) ∧ Below w.heap.size w w'
set_option maxHeartbeats 8000000 in
set_option maxRecDepth 100000 in
theorem walk (v : Value) (n : Nat) (cs : List Cel) (w : World) (h : In w v (.l 44 3 n cs)) (hs : Has (.l 44 3 n cs) (.l 44 3 tyValue)) (implC : Asked) :
    Calls Try.prog 5 #[v] w fun e w' => e = .returned (.bool true) ∧ Below w.heap.size w w' := by
  have HIN : Hid (In w v (.l 44 3 n cs)) := h
  have HS : Hid (Has (.l 44 3 n cs) (.l 44 3 tyValue)) := hs
  have HC : Hid (∀ (a : Option Addr) (n c : Nat) (L : List Va3) (w : World), VasAt w a n L → n ≤ c → Calls Try.prog 12 #[.slice a n c] w fun e w' => e = .returned (.bool (decide (TupGood L))) ∧ Below w.heap.size w w') := implC
  obtain ⟨B, hB⟩ : ∃ B, decide (TupGood (vasD cs n)) = B := ⟨_, rfl⟩
  have HB : Hid (decide (TupGood (vasD cs n)) = B) := hB
  have nb : (B != B) = false := by simp
  clear h hs implC hB
  go_enter Try.func5, Try.ntmps5
  go_wp2_with fail
  refine (dSzValueS v n cs 1048576 w HIN.out HS.out (by omega) (by omega)).mono ?_
  rintro e w1 ⟨hb1, ⟨r, rfl, hr0, hr1⟩ | ⟨rfl, hbig⟩⟩
  case inr =>
    go_wp2
    go_ret
    exact ⟨rfl, hb1⟩
  have BIG : Hid (n + bigL cs ≤ 1048576) := by show _ ≤ _; omega
  have hr2 : ¬ r < 0 := by omega
  have HB1 : Hid (Below w.heap.size w w1) := hb1
  have INS : Hid (∀ y, Below w.heap.size w y → At false y v (.l 44 3 n cs)) := fun y hb => (HIN.out.on hb (Nat.le_refl _)).at (by have := BIG.out; simp only [Cel.big]; omega)
  clear hb1 hr0 hr1
  go_wp2_with fail
  refine (dToValueS v n cs _ (INS.out _ HB1.out) HS.out).mono ?_
  rintro e w2 ⟨hb2, u2, S2, rfl, hO2⟩
  obtain ⟨a2, c2, rfl, hv2, -⟩ := vas_of hO2.at HS.out
  have HB2 : Hid (Below w.heap.size w w2) := HB1.out.trans (hb2.mono HB1.out.size)
  have HV2 : Hid (VasAt w2 a2 n (vasD cs n)) := hv2
  clear hb2 hO2 hv2
  go_wp2_with fail
  refine (specTupleOk_any a2 n c2 (vasD cs n) _ HV2.out).mono ?_
  rintro e w3 ⟨rfl, hb3⟩
  rw [HB.out]
  have HB3 : Hid (Below w.heap.size w w3) := HB2.out.trans (hb3.mono HB2.out.size)
  clear hb3
  go_wp2_with fail
  refine (dToValueS v n cs _ (INS.out _ HB3.out) HS.out).mono ?_
  rintro e w4 ⟨hb4, u4, S4, rfl, hO4⟩
  obtain ⟨a4, c4, rfl, hv4, hc4⟩ := vas_of hO4.at HS.out
  have HB4 : Hid (Below w.heap.size w w4) := HB3.out.trans (hb4.mono HB3.out.size)
  have HV4 : Hid (VasAt w4 a4 n (vasD cs n)) := hv4
  have HC4 : Hid (n ≤ c4) := hc4 rfl
  have UA4 : Hid (At false w4 (.slice a4 n c4) (.l 44 3 n cs)) := hO4.at.loose
  clear hb4 hO4 hv4 hc4
  go_wp2_with fail
  refine (HC.out a4 n c4 (vasD cs n) _ HV4.out HC4.out).mono ?_
  rintro e w5 ⟨rfl, hb5⟩
  rw [HB.out]
  have HB45 : Hid (Below w4.heap.size w4 w5) := hb5
  have HB5 : Hid (Below w.heap.size w w5) := HB4.out.trans (hb5.mono HB4.out.size)
  clear hb5
  go_wp2_with fail
  refine (dToValueS v n cs _ (INS.out _ HB5.out) HS.out).mono ?_
  rintro e w6 ⟨hb6, u6, S6, rfl, hO6⟩
  have HB46 : Hid (Below w4.heap.size w4 w6) := HB45.out.trans (hb6.mono HB45.out.size)
  have HB6 : Hid (Below w.heap.size w w6) := HB5.out.trans (hb6.mono HB5.out.size)
  have SA6 : Hid (At false w6 u6 (.l 44 3 n cs)) := hO6.at.loose
  clear hb6 hO6
  go_wp2_with fail
  refine (dEqValueS (.slice a4 n c4) u6 n cs _ (UA4.out.on HB46.out (Nat.le_refl _)) SA6.out HS.out).mono ?_
  rintro e w7 ⟨rfl, hb7⟩
  have HB7 : Hid (Below w.heap.size w w7) := HB6.out.trans (hb7.mono HB6.out.size)
  clear hb7
  go_wp2
  go_ret
  exact ⟨rfl, HB7.out⟩
set_option maxRecDepth 100000 in
theorem lifted (implC : Asked) (os : Os) (started : os.Started) (H : Type) (enc : TypeId × Value → H) :
    ReturnsInHanded {} Try.checked os 5 .any (Rows.fnExactTupleOkSpec.pre6 enc Try.prog Try.f5 Rows.fnExactTupleOkRow.domain false) (Rows.fnExactTupleOkSpec.post enc Try.prog Try.f5 false true false false) := by
  refine returnsInHanded_of_change (C := Try.checked) own started (by kernel_rfl) Try.func5
    (ChangeSpec.witness6 (enc := enc) (C := Try.checked) false ⟨#[], #[.slice none 0 0], []⟩ 8 (by kernel_rfl) (by kernel_rfl) (by kernel_rfl) (by kernel_rfl)) ?_
  intro W base args ds gs before hval0 hW hcnd _
  have hval : ∀ (j : Nat) t v, Try.f5.params[j]? = some t → args[j]? = some v → Value.okWide Try.prog W .any base t v := hval0
  have hW' := hW
  obtain ⟨p, q, hA0, hV, rfl, hfz, hnd⟩ := hW
  have hA : DataW.TrodAll enc Try.prog W 0 (fun _ => true) true Try.f5.params.toList args.toList ds p := hA0
  rw [Try.params5] at hA hval
  obtain ⟨v0, d0, rfl, rfl, h0⟩ := trodAll_one hA
  obtain ⟨rfl, rfl⟩ := trodVars_none hV
  have k0 := h0
  have lt0 : ∀ x ∈ p, x.block < W.heap.size := by obtain ⟨m, hm⟩ := k0; exact DataW.trod_lt m _ _ _ hm
  obtain ⟨la, ln, lc, rfl⟩ := okWide_slice Try.underlying32 (hval 0 32 v0 rfl rfl)
  obtain ⟨nl, cl, hI, hH, hF⟩ := open_vas h0
  refine (walk (.slice la ln lc) nl cl W hI hH implC).mono fun e W' ⟨he, bel⟩ => ?_
  subst he
  exact ⟨_, rfl, _, _, _, [], _, [], hW', trodAll_mk1 (shut_bool Try.underlying4 _), (trodAll_cons_mk (Below.trod laidOut (by kernel_rfl) (of_decide_eq_true (by kernel_rfl)) k0 bel lt0) trodAll_mk0), rfl, bel.frame _, fun h => by cases h⟩
theorem over (implC : Asked) : Rows.FnExactTupleOkSaid :=
  OpenClaim.holds_of_wide 5 Try.f5 rfl rfl rfl rfl rfl rfl rfl ⟨rfl, rfl, rfl, rfl, rfl⟩ rfl rfl rfl rfl rfl (by kernel_rfl) Try.func5 (by kernel_rfl)
    (of_decide_eq_true (by kernel_rfl)) (by unfold Func.isWrapper; first | (rw [if_pos (by decide +kernel)]; kernel_rfl) | (rw [if_neg (by decide +kernel)]; exact ⟨rfl, rfl⟩))
    (fun os started H enc _ => lifted implC os started H enc)
end fnExactTupleOk
end Go.Proofs.Ytgibeakclknhnaa
