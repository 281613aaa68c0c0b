/- The law FnExactTupleLess, walked from what the program's function is said to answer. -/
import Derived.Test.YtgibeakclknhnaaRows
import Derived.Test.YtgibeakclknhnaaVasC
import Derived.Test.YtgibeakclknhnaaSp18b
import Derived.Test.YtgibeakclknhnaaDatVs
import Derived.Test.YtgibeakclknhnaaDatVt
import Derived.OpenShut
import Derived.ChangeOld
import Derived.Below
import Derived.Lib.SmallJoins
import Derived.Deep.RegionHeld3
import Derived.Deep.Cut
namespace Go.Proofs.Ytgibeakclknhnaa
open Go.ChangeShapes Go.WideShapes Go.ChangeAt Go.RowKit Go.Joins

namespace fnExactTupleLess
theorem own : ownKnob Try.prog.godebug = none := by kernel_rfl
theorem laidOut : laidOutB Try.prog = true := by kernel_rfl
/-- What the law asks of the program's function. -/
def Asked : Prop := ∀ (a b : Option Addr) (n c n' c' : Nat) (L M : List Va3) (w : World), VasAt w a n L → n ≤ c → VasAt w b n' M → n' ≤ c' → Calls Try.prog 10 #[.slice a n c, .slice b n' c'] w fun e w' => e = .returned (.bool (tupLess L M)) ∧ Below w.heap.size w w'
set_option maxHeartbeats 8000000 in
set_option maxRecDepth 100000 in
theorem walk (x y : Value) (n m : Nat) (cs ds : List Cel) (w : World) (h : In w x (.l 44 3 n cs)) (hs : Has (.l 44 3 n cs) (.l 44 3 tyValue)) (h' : In w y (.l 44 3 m ds)) (hs' : Has (.l 44 3 m ds) (.l 44 3 tyValue)) (implC : Asked) :
    Calls Try.prog 6 #[x, y] w fun e w' => e = .returned (.bool true) ∧ Below w.heap.size w w' := by
  have HINx : Hid (In w x (.l 44 3 n cs)) := h
  have Hx : Hid (Has (.l 44 3 n cs) (.l 44 3 tyValue)) := hs
  have HINy : Hid (In w y (.l 44 3 m ds)) := h'
  have Hy : Hid (Has (.l 44 3 m ds) (.l 44 3 tyValue)) := hs'
  have HC : Hid (∀ (a b : Option Addr) (n c n' c' : Nat) (L M : List Va3) (w : World), VasAt w a n L → n ≤ c → VasAt w b n' M → n' ≤ c' → Calls Try.prog 10 #[.slice a n c, .slice b n' c'] w fun e w' => e = .returned (.bool (tupLess L M)) ∧ Below w.heap.size w w') := implC
  obtain ⟨B, hB⟩ : ∃ B, tupLess (vasD cs n) (vasD ds m) = B := ⟨_, rfl⟩
  have HB : Hid (tupLess (vasD cs n) (vasD ds m) = B) := hB
  have nb : (B != B) = false := by simp
  clear h hs h' hs' implC hB
  go_enter Try.func6, Try.ntmps6
  go_wp2_with fail
  refine (dSzValueS x n cs 1048576 _ HINx.out Hx.out (by omega) (by omega)).mono ?_
  rintro e w1 ⟨hb, ⟨r1, rfl, hq0, hq1⟩ | ⟨rfl, hbig⟩⟩
  case inr =>
    go_wp2
    go_ret
    exact ⟨rfl, hb⟩
  have BIGx : Hid (n + bigL cs ≤ 2097152) := by show _ ≤ _; omega
  have hr1 : ¬ r1 < 0 := by omega
  have hg1 : 0 ≤ r1 ∧ r1 ≤ 2097152 := by omega
  have HB1 : Hid (Below w.heap.size w w1) := hb
  have INx : Hid (∀ z, Below w.heap.size w z → At false z x (.l 44 3 n cs)) := fun z hb => (HINx.out.on hb (Nat.le_refl _)).at (by have := BIGx.out; simp only [Cel.big]; omega)
  clear hb hq0 hq1
  go_wp2_with fail
  refine (dSzValueS y m ds r1 _ (HINy.out.on HB1.out (Nat.le_refl _)) Hy.out hg1.1 hg1.2).mono ?_
  rintro e w2 ⟨hb, ⟨r2, rfl, hq0, hq1⟩ | ⟨rfl, hbig⟩⟩
  case inr =>
    go_wp2
    go_ret
    exact ⟨rfl, HB1.out.trans (hb.mono HB1.out.size)⟩
  have BIGy : Hid (m + bigL ds ≤ 2097152) := by show _ ≤ _; omega
  have hr2 : ¬ r2 < 0 := by omega
  have hg2 : 0 ≤ r2 ∧ r2 ≤ 2097152 := by omega
  have HB2 : Hid (Below w.heap.size w w2) := HB1.out.trans (hb.mono HB1.out.size)
  have INy : Hid (∀ z, Below w.heap.size w z → At false z y (.l 44 3 m ds)) := fun z hb => (HINy.out.on hb (Nat.le_refl _)).at (by have := BIGy.out; simp only [Cel.big]; omega)
  clear hb hq0 hq1
  go_wp2_with fail
  refine (dToValueS x n cs _ (INx.out _ HB2.out) Hx.out).mono ?_
  rintro e w3 ⟨hb, u3, S3, rfl, hO⟩
  obtain ⟨a3, c3, rfl, hv, hc⟩ := vas_of hO.at Hx.out
  have HB3 : Hid (Below w.heap.size w w3) := HB2.out.trans (hb.mono HB2.out.size)
  have HS3 : Hid (Below w2.heap.size w2 w3) := hb
  have HV3 : Hid (VasAt w3 a3 n (vasD cs n)) := hv
  have HC3 : Hid (n ≤ c3) := hc rfl
  have UA3 : Hid (At false w3 (.slice a3 n c3) (.l 44 3 n cs)) := hO.at.loose
  clear hb hO hv hc
  go_wp2_with fail
  refine (dToValueS y m ds _ (INy.out _ HB3.out) Hy.out).mono ?_
  rintro e w4 ⟨hb, u4, S4, rfl, hO⟩
  obtain ⟨a4, c4, rfl, hv, hc⟩ := vas_of hO.at Hy.out
  have HB4 : Hid (Below w.heap.size w w4) := HB3.out.trans (hb.mono HB3.out.size)
  have HS4 : Hid (Below w3.heap.size w3 w4) := hb
  have HV4 : Hid (VasAt w4 a4 m (vasD ds m)) := hv
  have HC4 : Hid (m ≤ c4) := hc rfl
  have UA4 : Hid (At false w4 (.slice a4 m c4) (.l 44 3 m ds)) := hO.at.loose
  clear hb hO hv hc
  go_wp2_with fail
  refine (specTupleLess_any a3 a4 n m c3 c4 (vasD cs n) (vasD ds m) _ (HV3.out.below HS4.out (Nat.le_refl _)) HV4.out).mono ?_
  rintro e w5 ⟨rfl, hb⟩
  rw [HB.out]
  have HB5 : Hid (Below w.heap.size w w5) := HB4.out.trans (hb.mono HB4.out.size)
  have HS5 : Hid (Below w4.heap.size w4 w5) := hb
  clear hb
  go_wp2_with fail
  refine (dToValueS x n cs _ (INx.out _ HB5.out) Hx.out).mono ?_
  rintro e w6 ⟨hb, u6, S6, rfl, hO⟩
  obtain ⟨a6, c6, rfl, hv, hc⟩ := vas_of hO.at Hx.out
  have HB6 : Hid (Below w.heap.size w w6) := HB5.out.trans (hb.mono HB5.out.size)
  have HS6 : Hid (Below w5.heap.size w5 w6) := hb
  have HV6 : Hid (VasAt w6 a6 n (vasD cs n)) := hv
  have HC6 : Hid (n ≤ c6) := hc rfl
  have UA6 : Hid (At false w6 (.slice a6 n c6) (.l 44 3 n cs)) := hO.at.loose
  clear hb hO hv hc
  go_wp2_with fail
  refine (dToValueS y m ds _ (INy.out _ HB6.out) Hy.out).mono ?_
  rintro e w7 ⟨hb, u7, S7, rfl, hO⟩
  obtain ⟨a7, c7, rfl, hv, hc⟩ := vas_of hO.at Hy.out
  have HB7 : Hid (Below w.heap.size w w7) := HB6.out.trans (hb.mono HB6.out.size)
  have HS7 : Hid (Below w6.heap.size w6 w7) := hb
  have HV7 : Hid (VasAt w7 a7 m (vasD ds m)) := hv
  have HC7 : Hid (m ≤ c7) := hc rfl
  have UA7 : Hid (At false w7 (.slice a7 m c7) (.l 44 3 m ds)) := hO.at.loose
  clear hb hO hv hc
  go_wp2_with fail
  refine (HC.out a6 a7 n c6 m c7 (vasD cs n) (vasD ds m) _ (HV6.out.below HS7.out (Nat.le_refl _)) HC6.out HV7.out HC7.out).mono ?_
  rintro e w8 ⟨rfl, hb⟩
  rw [HB.out]
  have HB8 : Hid (Below w.heap.size w w8) := HB7.out.trans (hb.mono HB7.out.size)
  have HS8 : Hid (Below w7.heap.size w7 w8) := hb
  clear hb
  go_wp2_with fail
  refine (dToValueS x n cs _ (INx.out _ HB8.out) Hx.out).mono ?_
  rintro e w9 ⟨hb, u9, S9, rfl, hO⟩
  obtain ⟨a9, c9, rfl, hv, hc⟩ := vas_of hO.at Hx.out
  have HB9 : Hid (Below w.heap.size w w9) := HB8.out.trans (hb.mono HB8.out.size)
  have HS9 : Hid (Below w8.heap.size w8 w9) := hb
  have HV9 : Hid (VasAt w9 a9 n (vasD cs n)) := hv
  have HC9 : Hid (n ≤ c9) := hc rfl
  have UA9 : Hid (At false w9 (.slice a9 n c9) (.l 44 3 n cs)) := hO.at.loose
  clear hb hO hv hc
  go_wp2_with fail
  refine (dEqValueS (.slice a6 n c6) (.slice a9 n c9) n cs _ (UA6.out.on (show Below w6.heap.size w6 w9 from ((HS7.out.trans (HS8.out.mono HS7.out.size)).trans (HS9.out.mono (HS7.out.trans (HS8.out.mono HS7.out.size)).size))) (Nat.le_refl _)) UA9.out Hx.out).mono ?_
  rintro e w10 ⟨rfl, hb⟩
  have HB10 : Hid (Below w.heap.size w w10) := HB9.out.trans (hb.mono HB9.out.size)
  have HS10 : Hid (Below w9.heap.size w9 w10) := hb
  clear hb
  go_wp2_with fail
  refine (dToValueS y m ds _ (INy.out _ HB10.out) Hy.out).mono ?_
  rintro e w11 ⟨hb, u11, S11, rfl, hO⟩
  obtain ⟨a11, c11, rfl, hv, hc⟩ := vas_of hO.at Hy.out
  have HB11 : Hid (Below w.heap.size w w11) := HB10.out.trans (hb.mono HB10.out.size)
  have HS11 : Hid (Below w10.heap.size w10 w11) := hb
  have HV11 : Hid (VasAt w11 a11 m (vasD ds m)) := hv
  have HC11 : Hid (m ≤ c11) := hc rfl
  have UA11 : Hid (At false w11 (.slice a11 m c11) (.l 44 3 m ds)) := hO.at.loose
  clear hb hO hv hc
  go_wp2_with fail
  refine (dEqValueS (.slice a7 m c7) (.slice a11 m c11) m ds _ (UA7.out.on (show Below w7.heap.size w7 w11 from (((HS8.out.trans (HS9.out.mono HS8.out.size)).trans (HS10.out.mono (HS8.out.trans (HS9.out.mono HS8.out.size)).size)).trans (HS11.out.mono ((HS8.out.trans (HS9.out.mono HS8.out.size)).trans (HS10.out.mono (HS8.out.trans (HS9.out.mono HS8.out.size)).size)).size))) (Nat.le_refl _)) UA11.out Hy.out).mono ?_
  rintro e w12 ⟨rfl, hb⟩
  have HB12 : Hid (Below w.heap.size w w12) := HB11.out.trans (hb.mono HB11.out.size)
  have HS12 : Hid (Below w11.heap.size w11 w12) := hb
  clear hb
  go_wp2
  go_ret
  exact ⟨rfl, HB12.out⟩
set_option maxRecDepth 100000 in
theorem lifted (implC : Asked) (os : Os) (started : os.Started) (H : Type) (enc : TypeId × Value → H) :
    ReturnsInHanded {} Try.checked os 6 .any (Rows.fnExactTupleLessSpec.pre6 enc Try.prog Try.f6 Rows.fnExactTupleLessRow.domain false) (Rows.fnExactTupleLessSpec.post enc Try.prog Try.f6 false true false false) := by
  refine returnsInHanded_of_change (C := Try.checked) own started (by kernel_rfl) Try.func6
    (ChangeSpec.witness6 (enc := enc) (C := Try.checked) false ⟨#[], #[.slice none 0 0, .slice none 0 0], []⟩ 8 (by kernel_rfl) (by kernel_rfl) (by kernel_rfl) (by kernel_rfl)) ?_
  intro W base args ds gs before hval0 hW hcnd _
  have hval : ∀ (j : Nat) t v, Try.f6.params[j]? = some t → args[j]? = some v → Value.okWide Try.prog W .any base t v := hval0
  have hW' := hW
  obtain ⟨p, q, hA0, hV, rfl, hfz, hnd⟩ := hW
  have hA : DataW.TrodAll enc Try.prog W 0 (fun _ => true) true Try.f6.params.toList args.toList ds p := hA0
  rw [Try.params6] at hA hval
  obtain ⟨v0, v1, d0, d1, p0, p1, rfl, rfl, rfl, h0, h1⟩ := trodAll_two hA
  obtain ⟨rfl, rfl⟩ := trodVars_none hV
  have k0 := h0
  have k1 := h1
  have lt0 : ∀ x ∈ p0, x.block < W.heap.size := by obtain ⟨m, hm⟩ := k0; exact DataW.trod_lt m _ _ _ hm
  have lt1 : ∀ x ∈ p1, x.block < W.heap.size := by obtain ⟨m, hm⟩ := k1; exact DataW.trod_lt m _ _ _ hm
  obtain ⟨la, ln, lc, rfl⟩ := okWide_slice Try.underlying32 (hval 0 32 v0 rfl rfl)
  obtain ⟨ka, kn, kc, rfl⟩ := okWide_slice Try.underlying32 (hval 1 32 v1 rfl rfl)
  obtain ⟨nl, cl, hI, hH, hF⟩ := open_vas h0
  obtain ⟨ml, el, hI', hH', hF'⟩ := open_vas h1
  refine (walk (.slice la ln lc) (.slice ka kn kc) nl ml cl el W hI hH hI' hH' implC).mono fun e W' ⟨he, bel⟩ => ?_
  subst he
  exact ⟨_, rfl, _, _, _, [], _, [], hW', trodAll_mk1 (shut_bool Try.underlying4 _), (trodAll_cons_mk (Below.trod laidOut (by kernel_rfl) (of_decide_eq_true (by kernel_rfl)) k0 bel lt0) (trodAll_cons_mk (Below.trod laidOut (by kernel_rfl) (of_decide_eq_true (by kernel_rfl)) k1 bel lt1) trodAll_mk0)), rfl, bel.frame _, fun h => by cases h⟩
theorem over (implC : Asked) : Rows.FnExactTupleLessSaid :=
  OpenClaim.holds_of_wide 6 Try.f6 rfl rfl rfl rfl rfl rfl rfl ⟨rfl, rfl, rfl, rfl, rfl⟩ rfl rfl rfl rfl rfl (by kernel_rfl) Try.func6 (by kernel_rfl)
    (of_decide_eq_true (by kernel_rfl)) (by unfold Func.isWrapper; first | (rw [if_pos (by decide +kernel)]; kernel_rfl) | (rw [if_neg (by decide +kernel)]; exact ⟨rfl, rfl⟩))
    (fun os started H enc _ => lifted implC os started H enc)
end fnExactTupleLess
end Go.Proofs.Ytgibeakclknhnaa
