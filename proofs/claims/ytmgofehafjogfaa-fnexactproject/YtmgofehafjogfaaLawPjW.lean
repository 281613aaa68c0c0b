/- The law FnExactProject, walked from what the program's function is said to answer. -/
import Derived.Test.YtmgofehafjogfaaRows
import Derived.Test.YtmgofehafjogfaaSpecPj
import Derived.Test.YtmgofehafjogfaaVasC
import Derived.Test.YtmgofehafjogfaaProjL
import Derived.Test.YtmgofehafjogfaaOwnV
import Derived.Test.YtmgofehafjogfaaEqV
import Derived.Test.YtmgofehafjogfaaMarkVo
import Derived.Test.YtmgofehafjogfaaIntsC
import Derived.Test.YtmgofehafjogfaaDatVs
import Derived.Test.YtmgofehafjogfaaDatVt
import Derived.Test.YtmgofehafjogfaaDatCt
import Derived.Test.YtmgofehafjogfaaDatCe
import Derived.Test.YtmgofehafjogfaaDatCm
import Derived.OpenShut
import Derived.ChangeOld
import Derived.Below
import Derived.Lib.SmallJoins
import Derived.Deep.RegionHeld3
import Derived.Deep.Cut
namespace Go.Proofs.Ytmgofehafjogfaa
open Go.ChangeShapes Go.WideShapes Go.ChangeAt Go.RowKit Go.Joins

namespace fnExactProject
theorem row_textK (cs : List Cel) (i k : Nat) (hk : k < 3) : (textC (nthC (row cs 3 i) k)).size ≤ bigL cs := by
  refine Nat.le_trans (text_big _) ?_
  unfold nthC row
  rw [List.getD_eq_getElem?_getD]
  rcases hc : ((cs.drop (i * 3)).take 3)[k]? with _ | c
  · simp [Cel.big]
  · rw [List.getElem?_take_of_lt hk, List.getElem?_drop] at hc
    exact big_mem hc
theorem vas_sz {cs : List Cel} {n : Nat} : ∀ x ∈ vasD cs n, x.2.2.size ≤ bigL cs := by
  intro x hx
  obtain ⟨i, _, rfl⟩ := List.mem_map.1 hx
  exact row_textK _ i 2 (by decide)
theorem own : ownKnob Try.prog.godebug = none := by kernel_rfl
theorem laidOut : laidOutB Try.prog = true := by kernel_rfl
/-- What the law asks of the program's function. -/
def Asked : Prop := ∀ (a : Option Addr) (n c : Nat) (L : List Va3) (b : Option Addr) (m d : Nat) (xs : List Int) (w : World), VasAt w a n L → n ≤ c → VasSz L → IntAt w b m xs → m ≤ d → m ≤ 1048576 → Calls Try.prog 28 #[.slice a n c, .slice b m d] w fun e w' => (∃ v, e = .returned v ∧ VOwn w' w.heap.size v (projL L xs)) ∧ Below w.heap.size w w'
set_option maxHeartbeats 16000000 in
set_option maxRecDepth 100000 in
theorem walk (v : Value) (n : Nat) (ds : List Cel) (ua : Option Addr) (m uc : Nat) (es : List Cel) (w : World) (h : In w v (.l 43 3 n ds)) (hs : Has (.l 43 3 n ds) (.l 43 3 tyValue)) (h' : In w (.slice ua m uc) (.l 3 1 m es)) (hs' : Has (.l 3 1 m es) (.l 3 1 [.i])) (implC : Asked) :
    Calls Try.prog 8 #[v, .slice ua m uc] w fun e w' => e = .returned (.bool true) ∧ Below w.heap.size w w' := by
  have HINv : Hid (In w v (.l 43 3 n ds)) := h
  have Hv : Hid (Has (.l 43 3 n ds) (.l 43 3 tyValue)) := hs
  obtain ⟨u, hu⟩ : ∃ u, Value.slice ua m uc = u := ⟨_, rfl⟩
  have HU : Hid (Value.slice ua m uc = u) := hu
  have HINu : Hid (In w u (.l 3 1 m es)) := hu ▸ h'
  have Hu : Hid (Has (.l 3 1 m es) (.l 3 1 [.i])) := hs'
  have HC : Hid (∀ (a : Option Addr) (n c : Nat) (L : List Va3) (b : Option Addr) (m d : Nat) (xs : List Int) (w : World), VasAt w a n L → n ≤ c → VasSz L → IntAt w b m xs → m ≤ d → m ≤ 1048576 → Calls Try.prog 28 #[.slice a n c, .slice b m d] w fun e w' => (∃ v, e = .returned v ∧ VOwn w' w.heap.size v (projL L xs)) ∧ Below w.heap.size w w') := implC
  obtain ⟨P, hP⟩ : ∃ P, projL (vasD ds n) (nums es) = P := ⟨_, rfl⟩
  have HP : Hid (projL (vasD ds n) (nums es) = P) := hP
  obtain ⟨hct, hbz⟩ := cnt_ints hs'
  have HCT : Hid (cntL es = m) := hct
  have HBZ : Hid (bigL es = 0) := hbz
  have HB0 : Hid (Below w.heap.size w w) := Below.refl _ _
  have hnl : (nums es).length = m := by
    have h2 : es.length = m := by cases hs'; omega
    unfold nums; rw [List.length_map]; exact h2
  have HPM : Hid (P.length ≤ m) := by show _ ≤ _; rw [← hP]; exact Nat.le_trans (proj_len _ _) (by omega)
  clear hu
  by_cases hmb : (m : Int) ≤ 1048576
  case neg =>
    have hgt : (1048576 : Int) < (m : Int) := by omega
    have hgt2 : 1048576 < m := by omega
    clear hmb
    go_enter Try.func8, Try.ntmps8
    go_wp2
    go_ret
    exact ⟨rfl, HB0.out⟩
  have HM : Hid (m ≤ 1048576) := by show _ ≤ _; omega
  have HPL : Hid (P.length ≤ 2097152) := by have := HPM.out; show _ ≤ _; omega
  have INu : Hid (∀ y, Below w.heap.size w y → At false y u (.l 3 1 m es)) := fun y hb => (HINu.out.on hb (Nat.le_refl _)).at (by have := HBZ.out; have := HM.out; simp only [Cel.big]; omega)
  clear h hs h' hs' implC hP hct hbz hnl
  go_enter Try.func8, Try.ntmps8
  go_wp2_with fail
  refine (dSzValueS v n ds 1048576 w HINv.out Hv.out (by omega) (by omega)).mono ?_
  rintro e w1 ⟨hb, ⟨r, rfl, hq0, hq1⟩ | ⟨rfl, hbig⟩⟩
  case inr =>
    go_wp2
    go_ret
    exact ⟨rfl, hb⟩
  have BIGv : Hid (n + bigL ds ≤ 1048576) := by show _ ≤ _; omega
  have VZ : Hid (VasSz (vasD ds n)) := fun x hx => Nat.le_trans (vas_sz x hx) (by have := BIGv.out; omega)
  have hnn : n ≤ 1048576 := by omega
  have hr2 : ¬ r < 0 := by omega
  have INv : Hid (∀ y, Below w.heap.size w y → At false y v (.l 43 3 n ds)) := fun y hb => (HINv.out.on hb (Nat.le_refl _)).at (by have := BIGv.out; simp only [Cel.big]; omega)
  clear hq0 hq1
  have HB1 : Hid (Below w.heap.size w w1) := hb
  clear hb
  rw [HU.out]
  go_wp2_with fail
  refine (dToValueS v n ds _ (INv.out _ HB1.out) Hv.out).mono ?_
  rintro e w2 ⟨hb, u2, S2, rfl, hO⟩
  obtain ⟨a2, c2, hu, hv, hc⟩ := vas_of hO.at Hv.out
  have OW2 : Hid _ := own_va hO Hv.out
  have UA2 : Hid (At false w2 u2 (.l 43 3 n ds)) := hO.at.loose
  subst hu
  have HV2 : Hid (VasAt w2 a2 n (vasD ds n)) := hv
  have HC2 : Hid (n ≤ c2) := hc rfl
  clear hO hv hc
  have HST2 : Hid (Below w1.heap.size w1 w2) := hb
  have HB2 : Hid (Below w.heap.size w w2) := HB1.out.trans (hb.mono HB1.out.size)
  clear hb
  go_wp2_with fail
  refine (dToIntS u m es _ (INu.out _ HB2.out) Hu.out).mono ?_
  rintro e w3 ⟨hb, u3, S3, rfl, hO⟩
  obtain ⟨a3, c3, hu, hv, -, hc⟩ := ints_of hO.at Hu.out
  subst hu
  have OI3 : Hid (Own w3 w2.heap.size (.slice a3 m c3) (.l 3 1 m es) S3) := hO
  have UA3 : Hid (At false w3 (.slice a3 m c3) (.l 3 1 m es)) := hO.at.loose
  have HV3 : Hid (IntAt w3 a3 m (nums es)) := hv
  have HC3 : Hid (m ≤ c3) := hc
  clear hO hv hc
  have HST3 : Hid (Below w2.heap.size w2 w3) := hb
  have HB3 : Hid (Below w.heap.size w w3) := HB2.out.trans (hb.mono HB2.out.size)
  clear hb
  go_wp2_with fail
  refine (specProject_any a2 n c2 (vasD ds n) a3 m c3 (nums es) _ (HV2.out.below HST3.out (Nat.le_refl _)) HV3.out (by have := HM.out; omega)).mono ?_
  rintro e w4 ⟨⟨v4, rfl, ho⟩, hb⟩
  rw [HP.out] at ho
  have V4 : Hid (VOwn w4 w3.heap.size v4 P) := ho
  clear ho
  have HST4 : Hid (Below w3.heap.size w3 w4) := hb
  have HB4 : Hid (Below w.heap.size w w4) := HB3.out.trans (hb.mono HB3.out.size)
  clear hb
  go_wp2_with fail
  refine (dToValueS v n ds _ (INv.out _ HB4.out) Hv.out).mono ?_
  rintro e w5 ⟨hb, u5, S5, rfl, hO⟩
  obtain ⟨a5, c5, hu, hv, hc⟩ := vas_of hO.at Hv.out
  have OW5 : Hid _ := own_va hO Hv.out
  have UA5 : Hid (At false w5 u5 (.l 43 3 n ds)) := hO.at.loose
  subst hu
  have HV5 : Hid (VasAt w5 a5 n (vasD ds n)) := hv
  have HC5 : Hid (n ≤ c5) := hc rfl
  clear hO hv hc
  have HST5 : Hid (Below w4.heap.size w4 w5) := hb
  have HB5 : Hid (Below w.heap.size w w5) := HB4.out.trans (hb.mono HB4.out.size)
  clear hb
  go_wp2_with fail
  refine (dToIntS u m es _ (INu.out _ HB5.out) Hu.out).mono ?_
  rintro e w6 ⟨hb, u6, S6, rfl, hO⟩
  obtain ⟨a6, c6, hu, hv, -, hc⟩ := ints_of hO.at Hu.out
  subst hu
  have OI6 : Hid (Own w6 w5.heap.size (.slice a6 m c6) (.l 3 1 m es) S6) := hO
  have UA6 : Hid (At false w6 (.slice a6 m c6) (.l 3 1 m es)) := hO.at.loose
  have HV6 : Hid (IntAt w6 a6 m (nums es)) := hv
  have HC6 : Hid (m ≤ c6) := hc
  clear hO hv hc
  have HST6 : Hid (Below w5.heap.size w5 w6) := hb
  have HB6 : Hid (Below w.heap.size w w6) := HB5.out.trans (hb.mono HB5.out.size)
  clear hb
  go_wp2_with fail
  refine (HC.out a5 n c5 (vasD ds n) a6 m c6 (nums es) _ (HV5.out.below HST6.out (Nat.le_refl _)) HC5.out VZ.out HV6.out HC6.out HM.out).mono ?_
  rintro e w7 ⟨⟨v7, rfl, ho⟩, hb⟩
  rw [HP.out] at ho
  have V7 : Hid (VOwn w7 w6.heap.size v7 P) := ho
  clear ho
  have HST7 : Hid (Below w6.heap.size w6 w7) := hb
  have HB7 : Hid (Below w.heap.size w w7) := HB6.out.trans (hb.mono HB6.out.size)
  clear hb
  have E8x : Hid (VOwn w7 _ v7 P) := V7.out
  have E8y : Hid (VOwn w7 _ v4 P) := (owns_below (owns_below (owns_below V4.out HST5.out (Nat.le_refl _)) HST6.out (Nat.le_refl _)) HST7.out (Nat.le_refl _))
  obtain ⟨xa8, xc8, hx8, -, ax8⟩ := own_vas E8x.out HPL.out
  obtain ⟨ya8, yc8, hy8, -, ay8⟩ := own_vas E8y.out HPL.out
  have AX8 : Hid (VasAt w7 xa8 P.length P) := ax8
  have AY8 : Hid (VasAt w7 ya8 P.length P) := ay8
  have EQX8 : Hid (v7 = .slice xa8 P.length xc8) := hx8
  have EQY8 : Hid (v4 = .slice ya8 P.length yc8) := hy8
  clear ax8 ay8 hx8 hy8
  go_wp2_with
    (go_at_call 36
     rw [EQX8.out, EQY8.out]
     refine (eqValueS_vas xa8 ya8 P.length xc8 yc8 P _ AX8.out AY8.out).mono ?_
     rintro e w8 ⟨rfl, hb⟩
     rw [← EQX8.out, ← EQY8.out]
     have HST8 : Hid (Below w7.heap.size w7 w8) := hb
     have HB8 : Hid (Below w.heap.size w w8) := HB7.out.trans (hb.mono HB7.out.size)
     clear hb)
  go_wp2_with fail
  refine (dToValueS v n ds _ (INv.out _ HB8.out) Hv.out).mono ?_
  rintro e w9 ⟨hb, u9, S9, rfl, hO⟩
  obtain ⟨a9, c9, hu, hv, hc⟩ := vas_of hO.at Hv.out
  have OW9 : Hid _ := own_va hO Hv.out
  have UA9 : Hid (At false w9 u9 (.l 43 3 n ds)) := hO.at.loose
  subst hu
  have HV9 : Hid (VasAt w9 a9 n (vasD ds n)) := hv
  have HC9 : Hid (n ≤ c9) := hc rfl
  clear hO hv hc
  have HST9 : Hid (Below w8.heap.size w8 w9) := hb
  have HB9 : Hid (Below w.heap.size w w9) := HB8.out.trans (hb.mono HB8.out.size)
  clear hb
  go_wp2_with fail
  refine (dEqValueS (.slice a5 n c5) (.slice a9 n c9) n ds _ ((((UA5.out.on HST6.out (Nat.le_refl _)).on HST7.out (Nat.le_refl _)).on HST8.out (Nat.le_refl _)).on HST9.out (Nat.le_refl _)) UA9.out Hv.out).mono ?_
  rintro e w10 ⟨rfl, hb⟩
  have HST10 : Hid (Below w9.heap.size w9 w10) := hb
  have HB10 : Hid (Below w.heap.size w w10) := HB9.out.trans (hb.mono HB9.out.size)
  clear hb
  go_wp2_with fail
  refine (dToIntS u m es _ (INu.out _ HB10.out) Hu.out).mono ?_
  rintro e w11 ⟨hb, u11, S11, rfl, hO⟩
  obtain ⟨a11, c11, hu, hv, -, hc⟩ := ints_of hO.at Hu.out
  subst hu
  have OI11 : Hid (Own w11 w10.heap.size (.slice a11 m c11) (.l 3 1 m es) S11) := hO
  have UA11 : Hid (At false w11 (.slice a11 m c11) (.l 3 1 m es)) := hO.at.loose
  have HV11 : Hid (IntAt w11 a11 m (nums es)) := hv
  have HC11 : Hid (m ≤ c11) := hc
  clear hO hv hc
  have HST11 : Hid (Below w10.heap.size w10 w11) := hb
  have HB11 : Hid (Below w.heap.size w w11) := HB10.out.trans (hb.mono HB10.out.size)
  clear hb
  go_wp2_with fail
  refine (dEqIntS (.slice a6 m c6) (.slice a11 m c11) m es _ (((((UA6.out.on HST7.out (Nat.le_refl _)).on HST8.out (Nat.le_refl _)).on HST9.out (Nat.le_refl _)).on HST10.out (Nat.le_refl _)).on HST11.out (Nat.le_refl _)) UA11.out Hu.out).mono ?_
  rintro e w12 ⟨rfl, hb⟩
  have HST12 : Hid (Below w11.heap.size w11 w12) := hb
  have HB12 : Hid (Below w.heap.size w w12) := HB11.out.trans (hb.mono HB11.out.size)
  clear hb
  have X5 : Hid (∀ k, (Value.slice a5 n c5).ownBlock = some k → w4.heap.size ≤ k ∧ k < w5.heap.size) := fun k hk => by
    rcases OW5.out with ⟨h1, _⟩ | ⟨g, cap, h1, h2⟩
    · rw [h1] at hk; cases hk
    · rw [h1] at hk h2; exact ⟨own_block h2 k hk, own_lt h2 k hk⟩
  have OW12 : Hid ((Value.slice a5 n c5 = .slice none 0 0 ∧ n = 0) ∨ ∃ g cap, Value.slice a5 n c5 = .slice (some ⟨g, 0, none⟩) n cap ∧ w12.ownsRow w4.heap.size 43 3 (.slice a5 n c5) n (vaC (vasD ds n))) := by
    rcases OW5.out with h1 | ⟨g, cap, h1, h2⟩
    · exact .inl h1
    · exact .inr ⟨g, cap, h1, (owns_below (owns_below (owns_below (owns_below (owns_below (owns_below (owns_below h2 HST6.out (Nat.le_refl _)) HST7.out (Nat.le_refl _)) HST8.out (Nat.le_refl _)) HST9.out (Nat.le_refl _)) HST10.out (Nat.le_refl _)) HST11.out (Nat.le_refl _)) HST12.out (Nat.le_refl _))⟩
  have V4w12 : Hid (VOwn w12 w3.heap.size v4 P) := (owns_below (owns_below (owns_below (owns_below (owns_below (owns_below (owns_below (owns_below V4.out HST5.out (Nat.le_refl _)) HST6.out (Nat.le_refl _)) HST7.out (Nat.le_refl _)) HST8.out (Nat.le_refl _)) HST9.out (Nat.le_refl _)) HST10.out (Nat.le_refl _)) HST11.out (Nat.le_refl _)) HST12.out (Nat.le_refl _))
  have V7w12 : Hid (VOwn w12 w6.heap.size v7 P) := (owns_below (owns_below (owns_below (owns_below (owns_below V7.out HST8.out (Nat.le_refl _)) HST9.out (Nat.le_refl _)) HST10.out (Nat.le_refl _)) HST11.out (Nat.le_refl _)) HST12.out (Nat.le_refl _))
  have OI12 : Hid (Own w12 w5.heap.size (.slice a6 m c6) (.l 3 1 m es) S6) := ((((((OI6.out.on HST7.out (Nat.le_refl _)).on HST8.out (Nat.le_refl _)).on HST9.out (Nat.le_refl _)).on HST10.out (Nat.le_refl _)).on HST11.out (Nat.le_refl _)).on HST12.out (Nat.le_refl _))
  have L4 : Hid (∀ k, v4.ownBlock = some k → k < w4.heap.size) := own_lt V4.out
  have L7 : Hid (∀ k, v7.ownBlock = some k → w6.heap.size ≤ k) := own_block V7.out
  have L6 : Hid (∀ x, S6 x → w5.heap.size ≤ x ∧ x < w6.heap.size) := OI6.out.lt
  have Z45 : Hid (w4.heap.size ≤ w5.heap.size) := HST5.out.size
  have Z56 : Hid (w5.heap.size ≤ w6.heap.size) := HST6.out.size
  have Z612 : Hid (w6.heap.size ≤ w12.heap.size) := by have h7 := HST7.out.size; have h8 := HST8.out.size; have h9 := HST9.out.size; have h10 := HST10.out.size; have h11 := HST11.out.size; have h12 := HST12.out.size; show _ ≤ _; omega
  have Z4 : Hid (w.heap.size ≤ w4.heap.size) := HB4.out.size
  go_wp2_with fail
  refine (markValueS_at w4.heap.size n (vasD ds n) (.slice a5 n c5) _ HV5.out.1 (by omega) OW12.out).mono ?_
  rintro e w13 ⟨rfl, -, hg13⟩
  have HG13 : Hid (w12.grownBy w13 (Value.slice a5 n c5).ownBlock) := hg13
  have HB13 : Hid (Below w.heap.size w w13) := HB12.out.grown hg13 HB12.out.size (fun k hk => Nat.le_trans Z4.out (X5.out k hk).1)
  have V7w13 : Hid (VOwn w13 w6.heap.size v7 P) := own_far V7w12.out hg13 (fun k hk he => by have h1 := L7.out k hk; have h2 := (X5.out k he.symm).2; have := Z56.out; omega)
  have V4w13 : Hid (VOwn w13 w3.heap.size v4 P) := own_far V4w12.out hg13 (fun k hk he => by have h1 := L4.out k hk; have h2 := (X5.out k he.symm).1; omega)
  have OI13 : Hid (Own w13 w5.heap.size (.slice a6 m c6) (.l 3 1 m es) S6) := OI12.out.heap fun x hx => hg13.block x (OI12.out.lt x hx).2 (fun he => by have h1 := (L6.out x hx).1; have h2 := (X5.out x he.symm).2; omega)
  have Z613 : Hid (w6.heap.size ≤ w13.heap.size) := Nat.le_trans Z612.out hg13.size
  clear hg13
  go_wp2_with fail
  refine (dMarkIntS (fun _ => ⟨#[]⟩) w5.heap.size (.slice a6 m c6) m es S6 ((n : Int) * 3 + 1) _ OI13.out Hu.out (by omega) (by have := HCT.out; have := HM.out; omega)).mono ?_
  rintro e w14 ⟨rfl, -, hk14⟩
  have HB14 : Hid (Below w.heap.size w w14) := HB13.out.trans (hk14.below (fun x hx => Nat.le_trans (Nat.le_trans Z4.out Z45.out) (L6.out x hx).1) HB13.out.size)
  have V7w14 : Hid (VOwn w14 w6.heap.size v7 P) := owns_heap V7w13.out fun k hk => hk14.oth k (own_lt V7w13.out k hk) (fun hs => by have h1 := L7.out k hk; have h2 := (L6.out k hs).2; omega)
  have V4w14 : Hid (VOwn w14 w3.heap.size v4 P) := owns_heap V4w13.out fun k hk => hk14.oth k (own_lt V4w13.out k hk) (fun hs => by have h1 := L4.out k hk; have h2 := (L6.out k hs).1; have := Z45.out; omega)
  have Z614 : Hid (w6.heap.size ≤ w14.heap.size) := Nat.le_trans Z613.out hk14.on.size
  clear hk14
  obtain ⟨kk, hkk⟩ : ∃ kk : Int, (n : Int) * 3 + 1 + ((Cel.l 3 1 m es).cnt : Int) = kk := ⟨_, rfl⟩
  have hk0 : ¬ kk < 0 := by rw [← hkk]; omega
  rw [hkk]
  clear hkk
  have E15x : Hid (VOwn w14 _ v7 P) := V7w14.out
  have E15y : Hid (VOwn w14 _ v4 P) := V4w14.out
  obtain ⟨xa15, xc15, hx15, -, ax15⟩ := own_vas E15x.out HPL.out
  obtain ⟨ya15, yc15, hy15, -, ay15⟩ := own_vas E15y.out HPL.out
  have AX15 : Hid (VasAt w14 xa15 P.length P) := ax15
  have AY15 : Hid (VasAt w14 ya15 P.length P) := ay15
  have EQX15 : Hid (v7 = .slice xa15 P.length xc15) := hx15
  have EQY15 : Hid (v4 = .slice ya15 P.length yc15) := hy15
  clear ax15 ay15 hx15 hy15
  go_wp2_with
    (go_at_call 36
     rw [EQX15.out, EQY15.out]
     refine (eqValueS_vas xa15 ya15 P.length xc15 yc15 P _ AX15.out AY15.out).mono ?_
     rintro e w15 ⟨rfl, hb⟩
     rw [← EQX15.out, ← EQY15.out]
     have HST15 : Hid (Below w14.heap.size w14 w15) := hb
     have HB15 : Hid (Below w.heap.size w w15) := HB14.out.trans (hb.mono HB14.out.size)
     clear hb)
  have V7w15 : Hid (VOwn w15 w6.heap.size v7 P) := (owns_below V7w14.out HST15.out (Nat.le_refl _))
  have V4w15 : Hid (VOwn w15 w3.heap.size v4 P) := (owns_below V4w14.out HST15.out (Nat.le_refl _))
  go_wp2_with fail
  refine (markVOwn_at w6.heap.size P v7 _ HPL.out V7w15.out).mono ?_
  rintro e w16 ⟨rfl, ho16, hg16⟩
  have HB16 : Hid (Below w.heap.size w w16) := HB15.out.grown hg16 HB15.out.size (fun k hk => by have := L7.out k hk; have := Z4.out; have := Z45.out; have := Z56.out; omega)
  have V4w16 : Hid (VOwn w16 w3.heap.size v4 P) := own_far V4w15.out hg16 (fun k hk he => by have h1 := L4.out k hk; have h2 := L7.out k he.symm; have := Z45.out; have := Z56.out; omega)
  obtain ⟨ha, hc, hv7, -, hby⟩ := own_vas ho16 (by rw [marksV_len]; exact HPL.out)
  rw [marksV_len] at hv7 hby
  have HV7 : Hid (v7 = .slice ha P.length hc) := hv7
  have HY16 : Hid (VasAt w16 ha P.length (marksV P.length)) := hby
  have hLk : ¬ ((P.length : Int) * 3 + 1 < 0) := by omega
  have hLq : (((P.length : Int) * 3 + 1) != ((P.length : Int) * 3 + 1)) = false := by simp
  clear hv7 hby ho16 hg16
  go_wp2_with
    (go_at_call 41
     rw [HV7.out]
     refine (heldValueS_any ha P.length hc _ HY16.out).mono ?_
     rintro e w17 ⟨rfl, hb⟩
     rw [← HV7.out]
     have HST17 : Hid (Below w16.heap.size w16 w17) := hb
     have HB17 : Hid (Below w.heap.size w w17) := HB16.out.trans (hb.mono HB16.out.size)
     clear hb)
  go_wp2_with fail
  refine (dToValueS v n ds _ (INv.out _ HB17.out) Hv.out).mono ?_
  rintro e w18 ⟨hb, u18, S18, rfl, hO⟩
  obtain ⟨a18, c18, hu, hv, hc⟩ := vas_of hO.at Hv.out
  have OW18 : Hid _ := own_va hO Hv.out
  have UA18 : Hid (At false w18 u18 (.l 43 3 n ds)) := hO.at.loose
  subst hu
  have HV18 : Hid (VasAt w18 a18 n (vasD ds n)) := hv
  have HC18 : Hid (n ≤ c18) := hc rfl
  clear hO hv hc
  have HST18 : Hid (Below w17.heap.size w17 w18) := hb
  have HB18 : Hid (Below w.heap.size w w18) := HB17.out.trans (hb.mono HB17.out.size)
  clear hb
  go_wp2_with fail
  refine (dToIntS u m es _ (INu.out _ HB18.out) Hu.out).mono ?_
  rintro e w19 ⟨hb, u19, S19, rfl, hO⟩
  obtain ⟨a19, c19, hu, hv, -, hc⟩ := ints_of hO.at Hu.out
  subst hu
  have OI19 : Hid (Own w19 w18.heap.size (.slice a19 m c19) (.l 3 1 m es) S19) := hO
  have UA19 : Hid (At false w19 (.slice a19 m c19) (.l 3 1 m es)) := hO.at.loose
  have HV19 : Hid (IntAt w19 a19 m (nums es)) := hv
  have HC19 : Hid (m ≤ c19) := hc
  clear hO hv hc
  have HST19 : Hid (Below w18.heap.size w18 w19) := hb
  have HB19 : Hid (Below w.heap.size w w19) := HB18.out.trans (hb.mono HB18.out.size)
  clear hb
  go_wp2_with fail
  refine (HC.out a18 n c18 (vasD ds n) a19 m c19 (nums es) _ (HV18.out.below HST19.out (Nat.le_refl _)) HC18.out VZ.out HV19.out HC19.out HM.out).mono ?_
  rintro e w20 ⟨⟨v20, rfl, ho⟩, hb⟩
  rw [HP.out] at ho
  have V20 : Hid (VOwn w20 w19.heap.size v20 P) := ho
  clear ho
  have HST20 : Hid (Below w19.heap.size w19 w20) := hb
  have HB20 : Hid (Below w.heap.size w w20) := HB19.out.trans (hb.mono HB19.out.size)
  clear hb
  have E21x : Hid (VOwn w20 _ v20 P) := V20.out
  have E21y : Hid (VOwn w20 _ v4 P) := (owns_below (owns_below (owns_below (owns_below V4w16.out HST17.out (Nat.le_refl _)) HST18.out (Nat.le_refl _)) HST19.out (Nat.le_refl _)) HST20.out (Nat.le_refl _))
  obtain ⟨xa21, xc21, hx21, -, ax21⟩ := own_vas E21x.out HPL.out
  obtain ⟨ya21, yc21, hy21, -, ay21⟩ := own_vas E21y.out HPL.out
  have AX21 : Hid (VasAt w20 xa21 P.length P) := ax21
  have AY21 : Hid (VasAt w20 ya21 P.length P) := ay21
  have EQX21 : Hid (v20 = .slice xa21 P.length xc21) := hx21
  have EQY21 : Hid (v4 = .slice ya21 P.length yc21) := hy21
  clear ax21 ay21 hx21 hy21
  go_wp2_with
    (go_at_call 36
     rw [EQX21.out, EQY21.out]
     refine (eqValueS_vas xa21 ya21 P.length xc21 yc21 P _ AX21.out AY21.out).mono ?_
     rintro e w21 ⟨rfl, hb⟩
     rw [← EQX21.out, ← EQY21.out]
     have HST21 : Hid (Below w20.heap.size w20 w21) := hb
     have HB21 : Hid (Below w.heap.size w w21) := HB20.out.trans (hb.mono HB20.out.size)
     clear hb)
  go_wp2_with
    (go_at_call 41
     rw [HV7.out]
     refine (heldValueS_any ha P.length hc _ (((((HY16.out.below HST17.out (Nat.le_refl _)).below HST18.out (Nat.le_refl _)).below HST19.out (Nat.le_refl _)).below HST20.out (Nat.le_refl _)).below HST21.out (Nat.le_refl _))).mono ?_
     rintro e w22 ⟨rfl, hb⟩
     rw [← HV7.out]
     have HST22 : Hid (Below w21.heap.size w21 w22) := hb
     have HB22 : Hid (Below w.heap.size w w22) := HB21.out.trans (hb.mono HB21.out.size)
     clear hb)
  go_ret
  exact ⟨rfl, HB22.out⟩
set_option maxRecDepth 100000 in
theorem lifted (implC : Asked) (os : Os) (started : os.Started) (H : Type) (enc : TypeId × Value → H) :
    ReturnsInHanded {} Try.checked os 8 .any (Rows.fnExactProjectSpec.pre6 enc Try.prog Try.f8 Rows.fnExactProjectRow.domain false) (Rows.fnExactProjectSpec.post enc Try.prog Try.f8 false true false false) := by
  refine returnsInHanded_of_change (C := Try.checked) own started (by kernel_rfl) Try.func8
    (ChangeSpec.witness6 (enc := enc) (C := Try.checked) false ⟨#[], #[.slice none 0 0, .slice none 0 0], []⟩ 8 (by kernel_rfl) (by kernel_rfl) (by kernel_rfl) (by kernel_rfl)) ?_
  intro W base args ds gs before hval0 hW hcnd _
  have hval : ∀ (j : Nat) t v, Try.f8.params[j]? = some t → args[j]? = some v → Value.okWide Try.prog W .any base t v := hval0
  have hW' := hW
  obtain ⟨p, q, hA0, hV, rfl, hfz, hnd⟩ := hW
  have hA : DataW.TrodAll enc Try.prog W 0 (fun _ => true) true Try.f8.params.toList args.toList ds p := hA0
  rw [Try.params8] at hA hval
  obtain ⟨v0, v1, d0, d1, p0, p1, rfl, rfl, rfl, h0, h1⟩ := trodAll_two hA
  obtain ⟨rfl, rfl⟩ := trodVars_none hV
  have k0 := h0
  have k1 := h1
  have lt0 : ∀ x ∈ p0, x.block < W.heap.size := by obtain ⟨m, hm⟩ := k0; exact DataW.trod_lt m _ _ _ hm
  have lt1 : ∀ x ∈ p1, x.block < W.heap.size := by obtain ⟨m, hm⟩ := k1; exact DataW.trod_lt m _ _ _ hm
  obtain ⟨la, ln, lc, rfl⟩ := okWide_slice Try.underlying57 (hval 0 57 v0 rfl rfl)
  obtain ⟨ka, kn, kc, rfl⟩ := okWide_slice Try.underlying25 (hval 1 25 v1 rfl rfl)
  obtain ⟨nl, cl, hI, hH, hF⟩ := open_vas h0
  obtain ⟨ml, el, hI', hH', hF'⟩ := open_intsD h1
  obtain rfl : kn = ml := by
    obtain ⟨_, _, _, hq, _⟩ := hI'.openL
    cases hq
    rfl
  refine (walk (.slice la ln lc) nl cl ka kn kc el W hI hH hI' hH' implC).mono fun e W' ⟨he, bel⟩ => ?_
  subst he
  exact ⟨_, rfl, _, _, _, [], _, [], hW', trodAll_mk1 (shut_bool Try.underlying4 _), (trodAll_cons_mk (Below.trod laidOut (by kernel_rfl) (of_decide_eq_true (by kernel_rfl)) k0 bel lt0) (trodAll_cons_mk (Below.trod laidOut (by kernel_rfl) (of_decide_eq_true (by kernel_rfl)) k1 bel lt1) trodAll_mk0)), rfl, bel.frame _, fun h => by cases h⟩
theorem over (implC : Asked) : Rows.FnExactProjectSaid :=
  OpenClaim.holds_of_wide 8 Try.f8 rfl rfl rfl rfl rfl rfl rfl ⟨rfl, rfl, rfl, rfl, rfl⟩ rfl rfl rfl rfl rfl (by kernel_rfl) Try.func8 (by kernel_rfl)
    (of_decide_eq_true (by kernel_rfl)) (by unfold Func.isWrapper; first | (rw [if_pos (by decide +kernel)]; kernel_rfl) | (rw [if_neg (by decide +kernel)]; exact ⟨rfl, rfl⟩))
    (fun os started H enc _ => lifted implC os started H enc)
end fnExactProject
end Go.Proofs.Ytmgofehafjogfaa
