/- Split of the program answers as the specification's Split at every text and every byte, in memory of its own: the law FnExactSplit holds at every input, with no condition. -/
import Derived.Test.YtpcbjifklcdnaalRows
import Derived.Test.YtpcbjifklcdnaalImplSplit
import Derived.Test.YtpcbjifklcdnaalStrs
import Derived.WalkKit
import Derived.ProofKit
import Derived.OpenShut
import Derived.ShutString
import Derived.Below
namespace Go.Proofs.Ytpcbjifklcdnaal.fnExactSplit
open Go.ChangeShapes Go.WideShapes Go.ChangeAt Go.RowKit
open Go.ChangeMaps (open_string shut_string)

theorem own : ownKnob Try.prog.godebug = none := by kernel_rfl

set_option maxHeartbeats 1000000 in
theorem walk (s : ByteArray) (b : UInt8) (w : World) :
    Calls Try.prog 4 #[.string s, .int .u8 (b.toNat : Int)] w fun e w' => e = .returned (.bool true) ∧ Below w.heap.size w w' := by
  by_cases hbig : 1048576 < s.size
  · go_enter Try.func4, Try.ntmps4
    go_wp2
    go_ret
    exact ⟨rfl, Below.refl _ _⟩
  have hs : s.size ≤ 1048576 := by omega
  have hpos : 0 < (splitB b s.data.toList).length := List.length_pos_iff.2 (splitB_ne _ _)
  have hlen : (splitB b s.data.toList).length ≤ 1048577 := by have := splitB_len b s.data.toList; simp at this; omega
  obtain ⟨parts, HP⟩ : ∃ p, Hid (splitB b s.data.toList = p) := ⟨_, rfl⟩
  rw [HP.out] at hpos hlen
  have hspec := fun w => specSplit_any s b hs w
  have himpl := fun w => implSplit_any s b hs w
  rw [HP.out] at hspec himpl
  obtain ⟨n, HN⟩ : ∃ n, Hid (parts.length = n) := ⟨_, rfl⟩
  rw [HN.out] at hspec himpl hpos hlen
  go_enter Try.func4, Try.ntmps4
  go_wp2_with fail
  refine (hspec _).mono ?_
  rintro e w1 ⟨g1, c1, rfl, own1, hb1⟩
  go_wp2_with fail
  refine (himpl _).mono ?_
  rintro e w2 ⟨g2, c2, rfl, own2, hb2⟩
  have own12 := owns_below own1 hb2 (Nat.le_refl _)
  go_wp2_with fail
  refine (eqStringS_any _ _ _ _ _ _ parts parts _ (own_strAt own2 (by omega)) (own_strAt own12 (by omega))).mono ?_
  rintro e w2' ⟨rfl, m, rfl⟩
  go_wp2_with fail
  refine (markStringS_one w1.heap.size g2 n c2 parts (w2.drewN m) HN.out (by omega) (by exact hb2.size) (by exact own2)).mono ?_
  rintro e w3 ⟨rfl, own3, hb3⟩
  have hb13 : Below w1.heap.size w1 w3 := (below_drewN hb2 m).trans hb3
  have own13 := owns_below own1 hb13 (Nat.le_refl _)
  clear own12 own2 hb3
  go_wp2_with fail
  refine (heldStringS_one g2 n c2 _ (by omega) (own_base own3).2 (own_strAt own3 (by omega))).mono ?_
  rintro e w4 ⟨rfl, hb4⟩
  have own34 := owns_below own3 hb4 (Nat.le_refl _)
  have own14 := owns_below own13 hb4 (Nat.le_refl _)
  have z13 := hb13.size
  have z4 := hb4.size
  clear own3 own13
  go_wp2_with fail
  refine (himpl _).mono ?_
  rintro e w5 ⟨g3, c3, rfl, own5, hb5⟩
  have own35 := owns_below own34 hb5 (Nat.le_refl _)
  have own15 := owns_below own14 hb5 (Nat.le_refl _)
  clear own34 own14
  go_wp2_with fail
  refine (eqStringS_any _ _ _ _ _ _ parts parts _ (own_strAt own5 (by omega)) (own_strAt own15 (by omega))).mono ?_
  rintro e w5' ⟨rfl, m', rfl⟩
  go_wp2_with fail
  refine (heldStringS_one g2 n c2 (w5.drewN m') (by omega) (by exact (own_base own35).2) (by exact own_strAt own35 (by omega))).mono ?_
  rintro e w6 ⟨rfl, hb6⟩
  have z1 := hb1.size
  have z5 := hb5.size
  have hz : w.heap.size ≤ (w5.drewN m').heap.size := by
    show w.heap.size ≤ w5.heap.size
    omega
  have hall : Below w.heap.size w w6 := ((hb1.trans (hb13.mono z1)).trans (hb4.mono (by omega))).trans ((below_drewN (hb5.mono (by omega)) m').trans (hb6.mono hz))
  clear own1 own35 own5 own15 hb1 hb2 hb13 hb4 hb5 hb6 hz hspec himpl
  go_wp2
  go_ret
  exact ⟨rfl, hall⟩

set_option maxRecDepth 100000 in
theorem lifted (os : Os) (started : os.Started) (H : Type) (enc : TypeId × Value → H) :
    ReturnsInHanded {} Try.checked os 4 .any (Rows.fnExactSplitSpec.pre6 enc Try.prog Try.f4 Rows.fnExactSplitRow.domain false) (Rows.fnExactSplitSpec.post enc Try.prog Try.f4 false true false false) := by
  refine returnsInHanded_of_change (C := Try.checked) own started (by kernel_rfl) Try.func4
    (ChangeSpec.witness6 (enc := enc) (C := Try.checked) false ⟨#[], #[.string ByteArray.empty, .int .u8 0], []⟩ 8 (by kernel_rfl) (by kernel_rfl) (by kernel_rfl) (by kernel_rfl)) ?_
  intro W base args ds gs before hval0 hW hcnd _
  have hval : ∀ (j : Nat) t v, Try.f4.params[j]? = some t → args[j]? = some v → Value.okWide Try.prog W .any base t v := hval0
  have hW' := hW
  obtain ⟨p, q, hA0, hV, rfl, hfz, hnd⟩ := hW
  have hA : DataW.TrodAll enc Try.prog W 0 (fun _ => true) true Try.f4.params.toList args.toList ds p := hA0
  rw [Try.params4] at hA hval
  obtain ⟨v0, v1, d0, d1, p0, p1, rfl, rfl, rfl, h0, h1⟩ := trodAll_two hA
  obtain ⟨rfl, rfl⟩ := trodVars_none hV
  obtain ⟨a0, rfl, rfl, rfl, w0⟩ := open_string Try.underlying9 (hval 0 9 v0 rfl rfl) h0
  obtain ⟨a1, rfl, rfl, rfl, w1⟩ := open_int Try.underlying5 (hval 1 5 v1 rfl rfl) h1
  have bd := bounds_u8 w1
  obtain ⟨b, rfl⟩ : ∃ b : UInt8, a1 = (b.toNat : Int) := ⟨UInt8.ofNat a1.toNat, by simp; omega⟩
  refine (walk a0 b W).mono fun e W' ⟨he, bel⟩ => ?_
  subst he
  exact ⟨_, rfl, _, _, _, [], [], [], hW', trodAll_mk1 (shut_bool Try.underlying4 _), (trodAll_cons_mk (shut_string Try.underlying9 w0) (trodAll_cons_mk (shut_int Try.underlying5 w1) trodAll_mk0)), rfl, bel.frame _, fun h => by cases h⟩

theorem over : Rows.FnExactSplitSaid :=
  OpenClaim.holds_of_wide 4 Try.f4 rfl rfl rfl rfl rfl rfl rfl ⟨rfl, rfl, rfl, rfl, rfl⟩ rfl rfl rfl rfl rfl (by kernel_rfl) Try.func4 (by kernel_rfl)
    (of_decide_eq_true (by kernel_rfl)) (by unfold Func.isWrapper; first | (rw [if_pos (by decide +kernel)]; kernel_rfl) | (rw [if_neg (by decide +kernel)]; exact ⟨rfl, rfl⟩))
    (fun os started H enc _ => lifted os started H enc)
end Go.Proofs.Ytpcbjifklcdnaal.fnExactSplit
namespace Go.Proofs.Ytpcbjifklcdnaal
theorem fnExactSplit_holds : Rows.FnExactSplitSaid := fnExactSplit.over
#print axioms fnExactSplit_holds
end Go.Proofs.Ytpcbjifklcdnaal
