/- The law FnExactTupleBytes, walked from what the program's function is said to answer. -/
import Derived.Test.YtgibeakclknhnaaRows
import Derived.Test.YtgibeakclknhnaaMarkAt
import Derived.Test.YtgibeakclknhnaaSp18t
import Derived.Test.YtgibeakclknhnaaDatVs
import Derived.Test.YtgibeakclknhnaaDatVt
import Derived.OpenShut
import Derived.ChangeOld
import Derived.Below
import Derived.Lib.SmallJoins
import Derived.Deep.RegionHeld3
import Derived.Deep.Cut
namespace Go.Proofs.Ytgibeakclknhnaa
open Go.ChangeShapes Go.WideShapes Go.ChangeAt Go.RowKit Go.Joins

namespace fnExactTupleBytes
theorem own : ownKnob Try.prog.godebug = none := by kernel_rfl
theorem laidOut : laidOutB Try.prog = true := by kernel_rfl
theorem chain4 {a b c d : World} (h1 : Below a.heap.size a b) (h2 : Below b.heap.size b c) (h3 : Below c.heap.size c d) : Below a.heap.size a d := (h1.trans (h2.mono h1.size)).trans (h3.mono (Nat.le_trans h1.size h2.size))
/-- What the law asks of the program's function. -/
def Asked : Prop := ∀ (a : Option Addr) (n c : Nat) (L : List Va3) (w : World), VasAt w a n L → n ≤ c → Calls Try.prog 13 #[.slice a n c] w fun e w' => VbSays w (tupBytes L) e w'
set_option maxHeartbeats 8000000 in
set_option maxRecDepth 100000 in
theorem walk (v : Value) (n : Nat) (cs : List Cel) (w : World) (h : In w v (.l 44 3 n cs)) (hs : Has (.l 44 3 n cs) (.l 44 3 tyValue)) (implC : Asked) :
    Calls Try.prog 7 #[v] w fun e w' => e = .returned (.bool true) ∧ Below w.heap.size w w' := by
  have HIN : Hid (In w v (.l 44 3 n cs)) := h
  have HS : Hid (Has (.l 44 3 n cs) (.l 44 3 tyValue)) := hs
  have HC : Hid (∀ (a : Option Addr) (n c : Nat) (L : List Va3) (w : World), VasAt w a n L → n ≤ c → Calls Try.prog 13 #[.slice a n c] w fun e w' => VbSays w (tupBytes L) e w') := implC
  obtain ⟨lb, hlb⟩ : ∃ lb, tupBytes (vasD cs n) = lb := ⟨_, rfl⟩
  have HLB : Hid (tupBytes (vasD cs n) = lb) := hlb
  have HLE : Hid (lb.length ≤ 2097152) := by
    show lb.length ≤ 2097152
    rw [← hlb]
    unfold tupBytes
    split
    · rename_i hg
      have := tupB_le hg
      omega
    · decide
  clear h hs implC hlb
  go_enter Try.func7, Try.ntmps7
  go_wp2_with fail
  refine (dSzValueS v n cs 1048576 w HIN.out HS.out (by omega) (by omega)).mono ?_
  rintro e w1 ⟨hb1, ⟨r, rfl, hr0, hr1⟩ | ⟨rfl, hbig⟩⟩
  case inr =>
    go_wp2
    go_ret
    exact ⟨rfl, hb1⟩
  have BIG : Hid (n + bigL cs ≤ 1048576) := by show _ ≤ _; omega
  have hnn : n ≤ 1048576 := by omega
  have hr2 : ¬ r < 0 := by omega
  have HB1 : Hid (Below w.heap.size w w1) := hb1
  have INS : Hid (∀ y, Below w.heap.size w y → At false y v (.l 44 3 n cs)) := fun y hb => (HIN.out.on hb (Nat.le_refl _)).at (by have := BIG.out; simp only [Cel.big]; omega)
  clear hb1 hr0 hr1
  go_wp2_with fail
  refine (dToValueS v n cs _ (INS.out _ HB1.out) HS.out).mono ?_
  rintro e w2 ⟨hb, u2, S2, rfl, hO⟩
  have HST2 : Hid (Below w1.heap.size w1 w2) := hb
  have HB2 : Hid (Below w.heap.size w w2) := HB1.out.trans (hb.mono HB1.out.size)
  obtain ⟨a2, c2, hu2, hv2, hc2⟩ := vas_of hO.at HS.out
  have UA2 : Hid (At false w2 u2 (.l 44 3 n cs)) := hO.at.loose
  subst hu2
  have HV2 : Hid (VasAt w2 a2 n (vasD cs n)) := hv2
  have HC2 : Hid (n ≤ c2) := hc2 rfl
  clear hv2 hc2
  clear hb hO
  go_wp2_with fail
  refine (specTupleBytes_any a2 n c2 (vasD cs n) _ HV2.out).mono ?_
  rintro e w3 ⟨v3, rfl, ho, hb⟩
  rw [HLB.out] at ho
  have O3 : Hid (BOwn w3 w2.heap.size v3 lb) := ho
  have HST3 : Hid (Below w2.heap.size w2 w3) := hb
  have HB3 : Hid (Below w.heap.size w w3) := HB2.out.trans (hb.mono HB2.out.size)
  clear ho hb
  go_wp2_with fail
  refine (dToValueS v n cs _ (INS.out _ HB3.out) HS.out).mono ?_
  rintro e w4 ⟨hb, u4, S4, rfl, hO⟩
  have HST4 : Hid (Below w3.heap.size w3 w4) := hb
  have HB4 : Hid (Below w.heap.size w w4) := HB3.out.trans (hb.mono HB3.out.size)
  obtain ⟨a4, c4, hu4, hv4, hc4⟩ := vas_of hO.at HS.out
  have OW4 := own_va hO HS.out
  have UA4 : Hid (At false w4 u4 (.l 44 3 n cs)) := hO.at.loose
  subst hu4
  have HV4 : Hid (VasAt w4 a4 n (vasD cs n)) := hv4
  have HC4 : Hid (n ≤ c4) := hc4 rfl
  clear hv4 hc4
  have OWN4 : Hid _ := OW4
  clear OW4
  clear hb hO
  go_wp2_with fail
  refine (HC.out a4 n c4 (vasD cs n) _ HV4.out HC4.out).mono ?_
  rintro e w5 ⟨v5, rfl, ho, hb⟩
  rw [HLB.out] at ho
  have O5 : Hid (BOwn w5 w4.heap.size v5 lb) := ho
  have HST5 : Hid (Below w4.heap.size w4 w5) := hb
  have HB5 : Hid (Below w.heap.size w w5) := HB4.out.trans (hb.mono HB4.out.size)
  clear ho hb
  have E6x : Hid (BOwn w5 _ v5 lb) := O5.out
  have E6y : Hid (BOwn w5 _ v3 lb) := owns_below (owns_below O3.out HST4.out (Nat.le_refl _)) HST5.out (Nat.le_refl _)
  obtain ⟨xa6, xc6, hx6, -, ax6⟩ := bown_bys E6x.out HLE.out
  obtain ⟨ya6, yc6, hy6, -, ay6⟩ := bown_bys E6y.out HLE.out
  have AX6 : Hid (BysAt w5 xa6 lb.length lb) := ax6
  have AY6 : Hid (BysAt w5 ya6 lb.length lb) := ay6
  have EQX6 : Hid (v5 = .slice xa6 lb.length xc6) := hx6
  have EQY6 : Hid (v3 = .slice ya6 lb.length yc6) := hy6
  clear ax6 ay6 hx6 hy6
  go_wp2_with
    (go_at_call 22
     rw [EQX6.out, EQY6.out]
     refine (eqByteS_any xa6 ya6 lb.length lb.length xc6 yc6 lb lb _ AX6.out AY6.out).mono ?_
     rintro e w6 ⟨rfl, hb⟩
     rw [decide_eq_true (rfl : lb = lb), ← EQX6.out, ← EQY6.out]
     have HST6 : Hid (Below w5.heap.size w5 w6) := hb
     have HB6 : Hid (Below w.heap.size w w6) := HB5.out.trans (hb.mono HB5.out.size)
     clear hb)
  go_wp2_with fail
  refine (dToValueS v n cs _ (INS.out _ HB6.out) HS.out).mono ?_
  rintro e w7 ⟨hb, u7, S7, rfl, hO⟩
  have HST7 : Hid (Below w6.heap.size w6 w7) := hb
  have HB7 : Hid (Below w.heap.size w w7) := HB6.out.trans (hb.mono HB6.out.size)
  obtain ⟨a7, c7, hu7, hv7, hc7⟩ := vas_of hO.at HS.out
  have UA7 : Hid (At false w7 u7 (.l 44 3 n cs)) := hO.at.loose
  subst hu7
  have HV7 : Hid (VasAt w7 a7 n (vasD cs n)) := hv7
  have HC7 : Hid (n ≤ c7) := hc7 rfl
  clear hv7 hc7
  clear hb hO
  have CH47 : Hid (Below w4.heap.size w4 w7) := chain4 HST5.out HST6.out HST7.out
  go_wp2_with fail
  refine (dEqValueS (.slice a4 n c4) (.slice a7 n c7) n cs _ (UA4.out.on CH47.out (Nat.le_refl _)) UA7.out HS.out).mono ?_
  rintro e w8 ⟨rfl, hb⟩
  have HST8 : Hid (Below w7.heap.size w7 w8) := hb
  have HB8 : Hid (Below w.heap.size w w8) := HB7.out.trans (hb.mono HB7.out.size)
  have CH48 : Hid (Below w4.heap.size w4 w8) := CH47.out.trans (hb.mono CH47.out.size)
  clear hb
  have X4 : Hid (∀ k, (Value.slice a4 n c4).ownBlock = some k → w3.heap.size ≤ k ∧ k < w4.heap.size) := fun k hk => by
    rcases OWN4.out with ⟨h1, _⟩ | ⟨g, cap, h1, h2⟩
    · rw [h1] at hk; cases hk
    · exact ⟨own_block h2 k hk, own_lt h2 k hk⟩
  have OW8 : Hid ((Value.slice a4 n c4 = .slice none 0 0 ∧ n = 0) ∨ ∃ g cap, Value.slice a4 n c4 = .slice (some ⟨g, 0, none⟩) n cap ∧ w8.ownsRow w3.heap.size 44 3 (.slice a4 n c4) n (vaC (vasD cs n))) := by
    rcases OWN4.out with h1 | ⟨g, cap, h1, h2⟩
    · exact .inl h1
    · exact .inr ⟨g, cap, h1, owns_below h2 CH48.out (Nat.le_refl _)⟩
  have O5w8 : Hid (BOwn w8 w4.heap.size v5 lb) := owns_below (owns_below (owns_below O5.out HST6.out (Nat.le_refl _)) HST7.out (Nat.le_refl _)) HST8.out (Nat.le_refl _)
  have O3w8 : Hid (BOwn w8 w2.heap.size v3 lb) := owns_below (owns_below O3.out HST4.out (Nat.le_refl _)) CH48.out (Nat.le_refl _)
  have L3 : Hid (∀ k, v3.ownBlock = some k → k < w3.heap.size) := own_lt O3.out
  have L5 : Hid (∀ k, v5.ownBlock = some k → w4.heap.size ≤ k) := own_block O5.out
  have S34 : Hid (w3.heap.size ≤ w4.heap.size) := HST4.out.size
  have S48 : Hid (w4.heap.size ≤ w8.heap.size) := CH48.out.size
  have SW3 : Hid (w.heap.size ≤ w3.heap.size) := HB3.out.size
  go_wp2_with fail
  refine (markValueS_at w3.heap.size n (vasD cs n) (.slice a4 n c4) _ HV4.out.1 (by omega) (by
    rcases OW8.out with h1 | ⟨g, cap, h1, h2⟩
    · exact .inl h1
    · exact .inr ⟨g, cap, h1, h2⟩)).mono ?_
  rintro e w9 ⟨rfl, -, hg9⟩
  have HB9 : Hid (Below w.heap.size w w9) := HB8.out.grown hg9 HB8.out.size (fun k hk => Nat.le_trans SW3.out (X4.out k hk).1)
  have O5w9 : Hid (BOwn w9 w4.heap.size v5 lb) := own_far O5w8.out hg9 (fun k hk he => by have h1 := L5.out k hk; have h2 := (X4.out k he.symm).2; omega)
  have O3w9 : Hid (BOwn w9 w2.heap.size v3 lb) := own_far O3w8.out hg9 (fun k hk he => by have h1 := L3.out k hk; have h2 := (X4.out k he.symm).1; omega)
  clear hg9
  have hnk : ¬ ((n : Int) * 3 + 1 < 0) := by omega
  have E10x : Hid (BOwn w9 _ v5 lb) := O5w9.out
  have E10y : Hid (BOwn w9 _ v3 lb) := O3w9.out
  obtain ⟨xa10, xc10, hx10, -, ax10⟩ := bown_bys E10x.out HLE.out
  obtain ⟨ya10, yc10, hy10, -, ay10⟩ := bown_bys E10y.out HLE.out
  have AX10 : Hid (BysAt w9 xa10 lb.length lb) := ax10
  have AY10 : Hid (BysAt w9 ya10 lb.length lb) := ay10
  have EQX10 : Hid (v5 = .slice xa10 lb.length xc10) := hx10
  have EQY10 : Hid (v3 = .slice ya10 lb.length yc10) := hy10
  clear ax10 ay10 hx10 hy10
  go_wp2_with
    (go_at_call 22
     rw [EQX10.out, EQY10.out]
     refine (eqByteS_any xa10 ya10 lb.length lb.length xc10 yc10 lb lb _ AX10.out AY10.out).mono ?_
     rintro e w10 ⟨rfl, hb⟩
     rw [decide_eq_true (rfl : lb = lb), ← EQX10.out, ← EQY10.out]
     have HST10 : Hid (Below w9.heap.size w9 w10) := hb
     have HB10 : Hid (Below w.heap.size w w10) := HB9.out.trans (hb.mono HB9.out.size)
     clear hb)
  have O5w10 : Hid (BOwn w10 w4.heap.size v5 lb) := owns_below O5w9.out HST10.out (Nat.le_refl _)
  have O3w10 : Hid (BOwn w10 w2.heap.size v3 lb) := owns_below O3w9.out HST10.out (Nat.le_refl _)
  go_wp2_with fail
  refine (markByteS_at w4.heap.size lb v5 _ HLE.out O5w10.out).mono ?_
  rintro e w11 ⟨rfl, ho11, hg11⟩
  have HB11 : Hid (Below w.heap.size w w11) := HB10.out.grown hg11 HB10.out.size (fun k hk => Nat.le_trans (Nat.le_trans SW3.out S34.out) (L5.out k hk))
  have O5w11 : Hid (BOwn w11 w4.heap.size v5 (marksB lb.length)) := ho11
  have O3w11 : Hid (BOwn w11 w2.heap.size v3 lb) := own_far O3w10.out hg11 (fun k hk he => by have h1 := L3.out k hk; have h2 := L5.out k he.symm; have h3 := S34.out; omega)
  clear ho11 hg11
  obtain ⟨ha, hc, hv5, -, hby⟩ := bown_bys O5w11.out (by rw [marksB_len]; exact HLE.out)
  rw [marksB_len] at hv5 hby
  have HV5 : Hid (v5 = .slice ha lb.length hc) := hv5
  have HY11 : Hid (BysAt w11 ha lb.length (marksB lb.length)) := hby
  have hlk : ¬ ((lb.length : Int) + 1 < 0) := by omega
  have hlq : (((lb.length : Int) + 1) != ((lb.length : Int) + 1)) = false := by simp
  clear hv5 hby
  go_wp2_with
    (go_at_call 25
     rw [HV5.out]
     refine (heldByteS_any ha lb.length hc _ HY11.out).mono ?_
     rintro e w12 ⟨rfl, hw⟩
     rw [hw, ← HV5.out]
     clear hw)
  go_wp2_with fail
  refine (dToValueS v n cs _ (INS.out _ HB11.out) HS.out).mono ?_
  rintro e w13 ⟨hb, u13, S13, rfl, hO⟩
  have HST13 : Hid (Below w11.heap.size w11 w13) := hb
  have HB13 : Hid (Below w.heap.size w w13) := HB11.out.trans (hb.mono HB11.out.size)
  obtain ⟨a13, c13, hu13, hv13, hc13⟩ := vas_of hO.at HS.out
  have UA13 : Hid (At false w13 u13 (.l 44 3 n cs)) := hO.at.loose
  subst hu13
  have HV13 : Hid (VasAt w13 a13 n (vasD cs n)) := hv13
  have HC13 : Hid (n ≤ c13) := hc13 rfl
  clear hv13 hc13
  clear hb hO
  go_wp2_with fail
  refine (HC.out a13 n c13 (vasD cs n) _ HV13.out HC13.out).mono ?_
  rintro e w14 ⟨v14, rfl, ho, hb⟩
  rw [HLB.out] at ho
  have O14 : Hid (BOwn w14 w13.heap.size v14 lb) := ho
  have HST14 : Hid (Below w13.heap.size w13 w14) := hb
  have HB14 : Hid (Below w.heap.size w w14) := HB13.out.trans (hb.mono HB13.out.size)
  clear ho hb
  have E15x : Hid (BOwn w14 _ v14 lb) := O14.out
  have E15y : Hid (BOwn w14 _ v3 lb) := owns_below (owns_below O3w11.out HST13.out (Nat.le_refl _)) HST14.out (Nat.le_refl _)
  obtain ⟨xa15, xc15, hx15, -, ax15⟩ := bown_bys E15x.out HLE.out
  obtain ⟨ya15, yc15, hy15, -, ay15⟩ := bown_bys E15y.out HLE.out
  have AX15 : Hid (BysAt w14 xa15 lb.length lb) := ax15
  have AY15 : Hid (BysAt w14 ya15 lb.length lb) := ay15
  have EQX15 : Hid (v14 = .slice xa15 lb.length xc15) := hx15
  have EQY15 : Hid (v3 = .slice ya15 lb.length yc15) := hy15
  clear ax15 ay15 hx15 hy15
  go_wp2_with
    (go_at_call 22
     rw [EQX15.out, EQY15.out]
     refine (eqByteS_any xa15 ya15 lb.length lb.length xc15 yc15 lb lb _ AX15.out AY15.out).mono ?_
     rintro e w15 ⟨rfl, hb⟩
     rw [decide_eq_true (rfl : lb = lb), ← EQX15.out, ← EQY15.out]
     have HST15 : Hid (Below w14.heap.size w14 w15) := hb
     have HB15 : Hid (Below w.heap.size w w15) := HB14.out.trans (hb.mono HB14.out.size)
     clear hb)
  have HY15 : Hid (BysAt w15 ha lb.length (marksB lb.length)) := ((HY11.out.below HST13.out (Nat.le_refl _)).below HST14.out (Nat.le_refl _)).below HST15.out (Nat.le_refl _)
  go_wp2_with
    (go_at_call 25
     rw [HV5.out]
     refine (heldByteS_any ha lb.length hc _ HY15.out).mono ?_
     rintro e w16 ⟨rfl, hw⟩
     rw [hw, ← HV5.out]
     clear hw)
  go_ret
  exact ⟨rfl, HB15.out⟩
set_option maxRecDepth 100000 in
theorem lifted (implC : Asked) (os : Os) (started : os.Started) (H : Type) (enc : TypeId × Value → H) :
    ReturnsInHanded {} Try.checked os 7 .any (Rows.fnExactTupleBytesSpec.pre6 enc Try.prog Try.f7 Rows.fnExactTupleBytesRow.domain false) (Rows.fnExactTupleBytesSpec.post enc Try.prog Try.f7 false true false false) := by
  refine returnsInHanded_of_change (C := Try.checked) own started (by kernel_rfl) Try.func7
    (ChangeSpec.witness6 (enc := enc) (C := Try.checked) false ⟨#[], #[.slice none 0 0], []⟩ 8 (by kernel_rfl) (by kernel_rfl) (by kernel_rfl) (by kernel_rfl)) ?_
  intro W base args ds gs before hval0 hW hcnd _
  have hval : ∀ (j : Nat) t v, Try.f7.params[j]? = some t → args[j]? = some v → Value.okWide Try.prog W .any base t v := hval0
  have hW' := hW
  obtain ⟨p, q, hA0, hV, rfl, hfz, hnd⟩ := hW
  have hA : DataW.TrodAll enc Try.prog W 0 (fun _ => true) true Try.f7.params.toList args.toList ds p := hA0
  rw [Try.params7] at hA hval
  obtain ⟨v0, d0, rfl, rfl, h0⟩ := trodAll_one hA
  obtain ⟨rfl, rfl⟩ := trodVars_none hV
  have k0 := h0
  have lt0 : ∀ x ∈ p, x.block < W.heap.size := by obtain ⟨m, hm⟩ := k0; exact DataW.trod_lt m _ _ _ hm
  obtain ⟨la, ln, lc, rfl⟩ := okWide_slice Try.underlying32 (hval 0 32 v0 rfl rfl)
  obtain ⟨nl, cl, hI, hH, hF⟩ := open_vas h0
  refine (walk (.slice la ln lc) nl cl W hI hH implC).mono fun e W' ⟨he, bel⟩ => ?_
  subst he
  exact ⟨_, rfl, _, _, _, [], _, [], hW', trodAll_mk1 (shut_bool Try.underlying4 _), (trodAll_cons_mk (Below.trod laidOut (by kernel_rfl) (of_decide_eq_true (by kernel_rfl)) k0 bel lt0) trodAll_mk0), rfl, bel.frame _, fun h => by cases h⟩
theorem over (implC : Asked) : Rows.FnExactTupleBytesSaid :=
  OpenClaim.holds_of_wide 7 Try.f7 rfl rfl rfl rfl rfl rfl rfl ⟨rfl, rfl, rfl, rfl, rfl⟩ rfl rfl rfl rfl rfl (by kernel_rfl) Try.func7 (by kernel_rfl)
    (of_decide_eq_true (by kernel_rfl)) (by unfold Func.isWrapper; first | (rw [if_pos (by decide +kernel)]; kernel_rfl) | (rw [if_neg (by decide +kernel)]; exact ⟨rfl, rfl⟩))
    (fun os started H enc _ => lifted implC os started H enc)
end fnExactTupleBytes
end Go.Proofs.Ytgibeakclknhnaa
