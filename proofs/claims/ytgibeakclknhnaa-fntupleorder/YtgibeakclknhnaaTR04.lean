/- Texts joined: InB, SpecVa, Sp18a, Sp18t, LawTor, Within, ImplVo, ImplTok, ImplVl, ImplVs. -/
import Derived.Test.YtgibeakclknhnaaRows
import Derived.WalkKit
import Derived.ProofKit
import Derived.Test.YtgibeakclknhnaaTR01
import Derived.Deep.Cut
import Derived.Test.YtgibeakclknhnaaTR02
import Derived.Test.YtgibeakclknhnaaTR03
import Derived.Deep.RegionHeld3
import Derived.OpenShut
import Derived.ChangeOld
import Derived.Below
import Derived.Lib.SmallJoins
set_option maxHeartbeats 8000000
set_option maxRecDepth 100000
namespace Go.Proofs.Ytgibeakclknhnaa
section
open Go.ChangeShapes Go.WideShapes Go.ChangeAt Go.RowKit
def inB (x lo hi : Int) : Bool := decide (lo ≤ x ∧ x ≤ hi)
theorem inB_yes {x lo hi : Int} (h : lo ≤ x ∧ x ≤ hi) : inB x lo hi = true := decide_eq_true h
theorem inB_no {x lo hi : Int} (h : ¬ (lo ≤ x ∧ x ≤ hi)) : inB x lo hi = false := decide_eq_false h


open Go.Lib (byteCells byteCells_length byteCells_append)

theorem tup_succ {L : List Va3} {j : Nat} {x : Va3} (h : L[j]? = some x) : tupB (L.take (j + 1)) = tupB (L.take j) ++ vaB x := by
  have hl : j < L.length := (List.getElem?_eq_some_iff.1 h).1
  rw [List.take_succ_eq_append_getElem hl, tupB_append, (List.getElem?_eq_some_iff.1 h).2]
  show _ ++ (vaB x ++ []) = _
  rw [List.append_nil]
theorem TupGood.take {L : List Va3} (h : TupGood L) (j : Nat) : TupGood (L.take j) := ⟨fun x hx => h.1 x (List.mem_of_mem_take hx), by rw [List.length_take]; have := h.2; omega⟩
def tupBytes (L : List Va3) : List UInt8 := if TupGood L then tupB L else []
end
end Go.Proofs.Ytgibeakclknhnaa
namespace Go.Proofs.Ytgibeakclknhnaa
open Go.ChangeShapes Go.WideShapes Go.ChangeAt Go.RowKit Go.Joins

namespace fnTupleOrder
theorem own : ownKnob Try.prog.godebug = none := by kernel_rfl
theorem laidOut : laidOutB Try.prog = true := by kernel_rfl
def AskOk : Prop := ∀ (a : Option Addr) (n c : Nat) (L : List Va3) (w : World), VasAt w a n L → n ≤ c → Calls Try.prog 12 #[.slice a n c] w fun e w' => e = .returned (.bool (decide (TupGood L))) ∧ Below w.heap.size w w'
def AskL : Prop := ∀ (a b : Option Addr) (n c n' c' : Nat) (L M : List Va3) (w : World), VasAt w a n L → n ≤ c → VasAt w b n' M → n' ≤ c' → Calls Try.prog 10 #[.slice a n c, .slice b n' c'] w fun e w' => e = .returned (.bool (tupLess L M)) ∧ Below w.heap.size w w'
def AskB : Prop := ∀ (a : Option Addr) (n c : Nat) (L : List Va3) (w : World), VasAt w a n L → n ≤ c → Calls Try.prog 13 #[.slice a n c] w fun e w' => VbSays w (tupBytes L) e w'
theorem txt_list (l : List UInt8) : (⟨l.toArray⟩ : ByteArray).toList = l := by rw [ByteArray.toList_eq]
theorem walk (a : Option Addr) (n c : Nat) (w : World) (hB : BytesAt w w.heap.size a n) (iOk : AskOk) (iL : AskL) (iB : AskB) :
    Calls Try.prog 3 #[.slice a n c] w fun e w' => e = .returned (.bool true) ∧ Below w.heap.size w w' := by
  have HB : Hid (BytesAt w w.heap.size a n) := hB
  have IOk : Hid (∀ (a : Option Addr) (n c : Nat) (L : List Va3) (w : World), VasAt w a n L → n ≤ c → Calls Try.prog 12 #[.slice a n c] w fun e w' => e = .returned (.bool (decide (TupGood L))) ∧ Below w.heap.size w w') := iOk
  have IL : Hid (∀ (a b : Option Addr) (n c n' c' : Nat) (L M : List Va3) (w : World), VasAt w a n L → n ≤ c → VasAt w b n' M → n' ≤ c' → Calls Try.prog 10 #[.slice a n c, .slice b n' c'] w fun e w' => e = .returned (.bool (tupLess L M)) ∧ Below w.heap.size w w') := iL
  have IB : Hid (∀ (a : Option Addr) (n c : Nat) (L : List Va3) (w : World), VasAt w a n L → n ≤ c → Calls Try.prog 13 #[.slice a n c] w fun e w' => VbSays w (tupBytes L) e w') := iB
  clear hB iOk iL iB
  by_cases hbig : 1048576 < n
  · go_enter Try.func3, Try.ntmps3
    go_wp2_with fail
    refine (bigI a n c w).mono ?_
    rintro e w0 ⟨rfl, hw⟩
    rw [hw, decide_eq_true hbig]
    go_wp2
    go_ret
    exact ⟨rfl, Below.refl _ _⟩
  have hn : n ≤ 1048576 := by omega
  go_enter Try.func3, Try.ntmps3
  go_wp2_with fail
  refine (bigI a n c w).mono ?_
  rintro e w0 ⟨rfl, hw⟩
  rw [hw, decide_eq_false hbig]
  clear hw hbig
  go_wp2_with fail
  refine (drawTupleLess_any a n c _ hn HB.out).mono ?_
  rintro e w1 ⟨⟨v1, v2, L, M, rfl, o1, o2, l1, l2⟩, hb⟩
  have B1 : Hid (Below w.heap.size w w1) := hb
  obtain ⟨a1, c1, rfl, hc1, hv1⟩ := own_vas o1 (by omega)
  obtain ⟨a2, c2, rfl, hc2, hv2⟩ := own_vas o2 (by omega)
  have V1 : Hid (VasAt w1 a1 L.length L) := hv1
  have V2 : Hid (VasAt w1 a2 M.length M) := hv2
  have HC1 : Hid (L.length ≤ c1) := hc1
  have HC2 : Hid (M.length ≤ c2) := hc2
  obtain ⟨bl, hbl⟩ : ∃ bl, tupLess L M = bl := ⟨_, rfl⟩
  have HBL : Hid (tupLess L M = bl) := hbl
  have nb : (bl != bl) = false := by cases bl <;> rfl
  clear hb o1 o2 l1 l2 hv1 hv2 hc1 hc2 hbl
  go_wp2_with fail
  refine (IL.out a1 a2 L.length c1 M.length c2 L M _ V1.out HC1.out V2.out HC2.out).mono ?_
  rintro e w2 ⟨rfl, hb⟩
  rw [HBL.out]
  have B2 : Hid (Below w.heap.size w w2) := B1.out.trans (hb.mono B1.out.size)
  have V12 : Hid (VasAt w2 a1 L.length L) := V1.out.below hb (Nat.le_refl _)
  have V22 : Hid (VasAt w2 a2 M.length M) := V2.out.below hb (Nat.le_refl _)
  clear hb
  go_wp2_with fail
  refine (specTupleLess_any a1 a2 L.length M.length c1 c2 L M _ V12.out V22.out).mono ?_
  rintro e w3 ⟨rfl, hb⟩
  rw [HBL.out]
  have B3 : Hid (Below w.heap.size w w3) := B2.out.trans (hb.mono B2.out.size)
  have V13 : Hid (VasAt w3 a1 L.length L) := V12.out.below hb (Nat.le_refl _)
  have V23 : Hid (VasAt w3 a2 M.length M) := V22.out.below hb (Nat.le_refl _)
  clear hb
  go_wp2_with fail
  refine (IOk.out a1 L.length c1 L _ V13.out HC1.out).mono ?_
  rintro e w4 ⟨rfl, hb⟩
  have B4 : Hid (Below w.heap.size w w4) := B3.out.trans (hb.mono B3.out.size)
  have V14 : Hid (VasAt w4 a1 L.length L) := V13.out.below hb (Nat.le_refl _)
  have V24 : Hid (VasAt w4 a2 M.length M) := V23.out.below hb (Nat.le_refl _)
  clear hb
  by_cases hgL : TupGood L
  case neg =>
    rw [decide_eq_false hgL]
    go_wp2
    go_ret
    exact ⟨rfl, B4.out⟩
  rw [decide_eq_true hgL]
  go_wp2_with fail
  refine (IOk.out a2 M.length c2 M _ V24.out HC2.out).mono ?_
  rintro e w5 ⟨rfl, hb⟩
  have B5 : Hid (Below w.heap.size w w5) := B4.out.trans (hb.mono B4.out.size)
  have V15 : Hid (VasAt w5 a1 L.length L) := V14.out.below hb (Nat.le_refl _)
  have V25 : Hid (VasAt w5 a2 M.length M) := V24.out.below hb (Nat.le_refl _)
  clear hb
  by_cases hgM : TupGood M
  case neg =>
    rw [decide_eq_false hgM]
    go_wp2
    go_ret
    exact ⟨rfl, B5.out⟩
  rw [decide_eq_true hgM]
  obtain ⟨lx, hlx⟩ : ∃ l, tupB L = l := ⟨_, rfl⟩
  obtain ⟨ly, hly⟩ : ∃ l, tupB M = l := ⟨_, rfl⟩
  obtain ⟨tx, htx⟩ : ∃ t, (⟨lx.toArray⟩ : ByteArray) = t := ⟨_, rfl⟩
  obtain ⟨ty, hty⟩ : ∃ t, (⟨ly.toArray⟩ : ByteArray) = t := ⟨_, rfl⟩
  obtain ⟨bm, hbm⟩ : ∃ b, tupLess M L = b := ⟨_, rfl⟩
  obtain ⟨be, hbe⟩ : ∃ b, decide (L = M) = b := ⟨_, rfl⟩
  have TL : Hid (tupBytes L = lx) := by show _ = _; rw [← hlx]; exact if_pos hgL
  have TM : Hid (tupBytes M = ly) := by show _ = _; rw [← hly]; exact if_pos hgM
  have HTX : Hid ((⟨lx.toArray⟩ : ByteArray) = tx) := htx
  have HTY : Hid ((⟨ly.toArray⟩ : ByteArray) = ty) := hty
  have HBM : Hid (tupLess M L = bm) := hbm
  have HBE : Hid (decide (L = M) = be) := hbe
  have hxl : tx.toList = tupB L := by rw [← htx, txt_list, hlx]
  have hyl : ty.toList = tupB M := by rw [← hty, txt_list, hly]
  have hL1 : Op.bytesLess tx.toList ty.toList = bl := by rw [hxl, hyl, tup_less hgL.1 hgM.1]; exact HBL.out
  have hL2 : Op.bytesLess ty.toList tx.toList = bm := by rw [hxl, hyl, tup_less hgM.1 hgL.1]; exact hbm
  have hL3 : (tx.toList == ty.toList) = be := by
    rw [hxl, hyl, ← hbe]
    by_cases h : L = M
    · subst h
      simp
    · rw [decide_eq_false h, beq_eq_false_iff_ne]
      exact fun e => h (tup_inj hgL.1 hgM.1 e)
  have nl : (bl == bl) = true := by cases bl <;> rfl
  have nm : (bm == bm) = true := by cases bm <;> rfl
  have ne : (be == be) = true := by cases be <;> rfl
  have B5d : Hid (Below w.heap.size w w5.drew) := B5.out.drew
  have V1d : Hid (VasAt w5.drew a1 L.length L) := V15.out.below (Below.refl _ _).drew (Nat.le_refl _)
  have V2d : Hid (VasAt w5.drew a2 M.length M) := V25.out.below (Below.refl _ _).drew (Nat.le_refl _)
  clear hlx hly htx hty hbm hbe hxl hyl
  go_upto_region 9 with (fail)
  refine wp_region_held_drew (S := fun _ => True) (by kernel_rfl) trivial (fun hHeld => ?_)
  refine wpAnyH_take (i := 0) (oi := _) (v := .slice a1 L.length c1) (by rw [List.getElem?_toArray]; exact rfl) (by kernel_rfl) (by kernel_rfl) (by kernel_rfl) (by intro _ _ _ h; exact h) (Or.inl ⟨by kernel_rfl, ?_⟩) hHeld ?_
  · intro w _; go_simp
  (try simp only [Act.put, List.setIfInBounds_toArray, List.set_cons_zero, List.set_cons_succ])
  refine wpAnyH_take (i := 3) (oi := _) (v := .slice a2 M.length c2) (by rw [List.getElem?_toArray]; exact rfl) (by kernel_rfl) (by kernel_rfl) (by kernel_rfl) (by intro _ _ _ h; exact h) (Or.inl ⟨by kernel_rfl, ?_⟩) hHeld ?_
  · intro w _; go_simp
  (try simp only [Act.put, List.setIfInBounds_toArray, List.set_cons_zero, List.set_cons_succ])
  refine wpAnyH_ready (rs := [1]) (by kernel_rfl) (by simp) ?_
  refine AllReadyH.cons (o := _) (by rw [List.getElem?_toArray]; exact rfl) (fun K hK => ?_) AllReadyH.nil
  rw [if_pos (by kernel_rfl)]
  go_simp
  refine (IB.out a1 L.length c1 L _ V1d.out HC1.out).mono ?_
  rintro e z1 ⟨v3, rfl, ho, hb⟩
  rw [TL.out] at ho
  have O1 : Hid (BOwn z1 w5.drew.heap.size v3 lx) := ho
  have Z1 : Hid (Below w5.drew.heap.size w5.drew z1) := hb
  clear ho hb
  have F1 := bown_text O1.out
  rw [HTX.out] at F1
  refine hK.out _ _ trivial (fun hHeld => ?_)
  clear hK K
  (try simp only [Act.put, List.setIfInBounds_toArray, List.set_cons_zero, List.set_cons_succ])
  refine wpAnyH_ready (rs := [2, 4]) (by kernel_rfl) (by simp) ?_
  refine AllReadyH.cons (o := _) (by rw [List.getElem?_toArray]; exact rfl) (fun K hK => ?_) (AllReadyH.cons (o := _) (by rw [List.getElem?_toArray]; exact rfl) (fun K hK => ?_) AllReadyH.nil)
  · rw [if_pos (by kernel_rfl)]
    go_simp
    refine hK.out _ _ trivial (fun hHeld => ?_)
    clear hK K
    (try simp only [Act.put, List.setIfInBounds_toArray, List.set_cons_zero, List.set_cons_succ])
    refine wpAnyH_ready (rs := [4]) (by kernel_rfl) (by simp) ?_
    refine AllReadyH.cons (o := _) (by rw [List.getElem?_toArray]; exact rfl) (fun K hK => ?_) AllReadyH.nil
    rw [if_pos (by kernel_rfl)]
    go_simp
    refine (IB.out a2 M.length c2 M _ (V2d.out.below Z1.out (Nat.le_refl _)) HC2.out).mono ?_
    rintro e z2 ⟨v4, rfl, ho, hb⟩
    rw [TM.out] at ho
    have O2 : Hid (BOwn z2 z1.heap.size v4 ly) := ho
    have Z2 : Hid (Below z1.heap.size z1 z2) := hb
    clear ho hb
    have F2 := bown_text O2.out
    rw [HTY.out] at F2
    have F1 := bown_text (owns_below O1.out Z2.out (Nat.le_refl _))
    rw [HTX.out] at F1
    refine hK.out _ _ trivial (fun hHeld => ?_)
    clear hK K
    (try simp only [Act.put, List.setIfInBounds_toArray, List.set_cons_zero, List.set_cons_succ])
    refine wpAnyH_ready (rs := [5, 6]) (by kernel_rfl) (by simp) ?_
    refine AllReadyH.cons (o := _) (by rw [List.getElem?_toArray]; exact rfl) (fun K hK => ?_) (AllReadyH.cons (o := _) (by rw [List.getElem?_toArray]; exact rfl) (fun K hK => ?_) AllReadyH.nil)
    · rw [if_pos (by kernel_rfl)]
      go_simp
      refine hK.out _ _ trivial (fun hHeld => ?_)
      clear hK K
      (try simp only [Act.put, List.setIfInBounds_toArray, List.set_cons_zero, List.set_cons_succ])
      refine wpAnyH_ready (rs := [6]) (by kernel_rfl) (by simp) ?_
      refine AllReadyH.cons (o := _) (by rw [List.getElem?_toArray]; exact rfl) (fun K hK => ?_) AllReadyH.nil
      rw [if_pos (by kernel_rfl)]
      go_simp
      refine hK.out _ _ trivial (fun hHeld => ?_)
      clear hK K
      (try simp only [Act.put, List.setIfInBounds_toArray, List.set_cons_zero, List.set_cons_succ])
      refine wpAnyH_ready (rs := [7]) (by kernel_rfl) (by simp) ?_
      refine AllReadyH.cons (o := _) (by rw [List.getElem?_toArray]; exact rfl) (fun K hK => ?_) AllReadyH.nil
      rw [if_pos (by kernel_rfl)]
      go_simp
      refine hK.out _ _ trivial (fun hHeld => ?_)
      clear hK K
      (try simp only [Act.put, List.setIfInBounds_toArray, List.set_cons_zero, List.set_cons_succ])
      refine wpAnyH_done (by kernel_rfl) ?_ _
      (try simp only [Exit.then])
      have B7 : Hid (Below w.heap.size w z2) := B5d.out.trans ((Z1.out.trans (Z2.out.mono Z1.out.size)).mono B5d.out.size)
      have V1z : Hid (VasAt z2 a1 L.length L) := (V1d.out.below Z1.out (Nat.le_refl _)).below Z2.out (Nat.le_refl _)
      have V2z : Hid (VasAt z2 a2 M.length M) := (V2d.out.below Z1.out (Nat.le_refl _)).below Z2.out (Nat.le_refl _)
      clear F1 F2
      go_wp2_with fail
      refine (IL.out a2 a1 M.length c2 L.length c1 M L _ V2z.out HC2.out V1z.out HC1.out).mono ?_
      rintro e z3 ⟨rfl, hb⟩
      rw [HBM.out]
      have B8 : Hid (Below w.heap.size w z3) := B7.out.trans (hb.mono B7.out.size)
      have V1y : Hid (VasAt z3 a1 L.length L) := V1z.out.below hb (Nat.le_refl _)
      have V2y : Hid (VasAt z3 a2 M.length M) := V2z.out.below hb (Nat.le_refl _)
      clear hb
      go_wp2_with fail
      refine (sameT_any a1 a2 L.length M.length c1 c2 L M _ V1y.out V2y.out).mono ?_
      rintro e z4 ⟨rfl, hb⟩
      rw [HBE.out]
      have B9 : Hid (Below w.heap.size w z4) := B8.out.trans (hb.mono B8.out.size)
      clear hb
      go_wp2
      go_ret
      exact ⟨rfl, B9.out⟩
    · rw [if_pos (by kernel_rfl)]
      go_simp
      refine hK.out _ _ trivial (fun hHeld => ?_)
      clear hK K
      (try simp only [Act.put, List.setIfInBounds_toArray, List.set_cons_zero, List.set_cons_succ])
      refine wpAnyH_ready (rs := [5]) (by kernel_rfl) (by simp) ?_
      refine AllReadyH.cons (o := _) (by rw [List.getElem?_toArray]; exact rfl) (fun K hK => ?_) AllReadyH.nil
      rw [if_pos (by kernel_rfl)]
      go_simp
      refine hK.out _ _ trivial (fun hHeld => ?_)
      clear hK K
      (try simp only [Act.put, List.setIfInBounds_toArray, List.set_cons_zero, List.set_cons_succ])
      refine wpAnyH_ready (rs := [7]) (by kernel_rfl) (by simp) ?_
      refine AllReadyH.cons (o := _) (by rw [List.getElem?_toArray]; exact rfl) (fun K hK => ?_) AllReadyH.nil
      rw [if_pos (by kernel_rfl)]
      go_simp
      refine hK.out _ _ trivial (fun hHeld => ?_)
      clear hK K
      (try simp only [Act.put, List.setIfInBounds_toArray, List.set_cons_zero, List.set_cons_succ])
      refine wpAnyH_done (by kernel_rfl) ?_ _
      (try simp only [Exit.then])
      have B7 : Hid (Below w.heap.size w z2) := B5d.out.trans ((Z1.out.trans (Z2.out.mono Z1.out.size)).mono B5d.out.size)
      have V1z : Hid (VasAt z2 a1 L.length L) := (V1d.out.below Z1.out (Nat.le_refl _)).below Z2.out (Nat.le_refl _)
      have V2z : Hid (VasAt z2 a2 M.length M) := (V2d.out.below Z1.out (Nat.le_refl _)).below Z2.out (Nat.le_refl _)
      clear F1 F2
      go_wp2_with fail
      refine (IL.out a2 a1 M.length c2 L.length c1 M L _ V2z.out HC2.out V1z.out HC1.out).mono ?_
      rintro e z3 ⟨rfl, hb⟩
      rw [HBM.out]
      have B8 : Hid (Below w.heap.size w z3) := B7.out.trans (hb.mono B7.out.size)
      have V1y : Hid (VasAt z3 a1 L.length L) := V1z.out.below hb (Nat.le_refl _)
      have V2y : Hid (VasAt z3 a2 M.length M) := V2z.out.below hb (Nat.le_refl _)
      clear hb
      go_wp2_with fail
      refine (sameT_any a1 a2 L.length M.length c1 c2 L M _ V1y.out V2y.out).mono ?_
      rintro e z4 ⟨rfl, hb⟩
      rw [HBE.out]
      have B9 : Hid (Below w.heap.size w z4) := B8.out.trans (hb.mono B8.out.size)
      clear hb
      go_wp2
      go_ret
      exact ⟨rfl, B9.out⟩
  · rw [if_pos (by kernel_rfl)]
    go_simp
    refine (IB.out a2 M.length c2 M _ (V2d.out.below Z1.out (Nat.le_refl _)) HC2.out).mono ?_
    rintro e z2 ⟨v4, rfl, ho, hb⟩
    rw [TM.out] at ho
    have O2 : Hid (BOwn z2 z1.heap.size v4 ly) := ho
    have Z2 : Hid (Below z1.heap.size z1 z2) := hb
    clear ho hb
    have F2 := bown_text O2.out
    rw [HTY.out] at F2
    have F1 := bown_text (owns_below O1.out Z2.out (Nat.le_refl _))
    rw [HTX.out] at F1
    refine hK.out _ _ trivial (fun hHeld => ?_)
    clear hK K
    (try simp only [Act.put, List.setIfInBounds_toArray, List.set_cons_zero, List.set_cons_succ])
    refine wpAnyH_ready (rs := [2, 5]) (by kernel_rfl) (by simp) ?_
    refine AllReadyH.cons (o := _) (by rw [List.getElem?_toArray]; exact rfl) (fun K hK => ?_) (AllReadyH.cons (o := _) (by rw [List.getElem?_toArray]; exact rfl) (fun K hK => ?_) AllReadyH.nil)
    · rw [if_pos (by kernel_rfl)]
      go_simp
      refine hK.out _ _ trivial (fun hHeld => ?_)
      clear hK K
      (try simp only [Act.put, List.setIfInBounds_toArray, List.set_cons_zero, List.set_cons_succ])
      refine wpAnyH_ready (rs := [5, 6]) (by kernel_rfl) (by simp) ?_
      refine AllReadyH.cons (o := _) (by rw [List.getElem?_toArray]; exact rfl) (fun K hK => ?_) (AllReadyH.cons (o := _) (by rw [List.getElem?_toArray]; exact rfl) (fun K hK => ?_) AllReadyH.nil)
      · rw [if_pos (by kernel_rfl)]
        go_simp
        refine hK.out _ _ trivial (fun hHeld => ?_)
        clear hK K
        (try simp only [Act.put, List.setIfInBounds_toArray, List.set_cons_zero, List.set_cons_succ])
        refine wpAnyH_ready (rs := [6]) (by kernel_rfl) (by simp) ?_
        refine AllReadyH.cons (o := _) (by rw [List.getElem?_toArray]; exact rfl) (fun K hK => ?_) AllReadyH.nil
        rw [if_pos (by kernel_rfl)]
        go_simp
        refine hK.out _ _ trivial (fun hHeld => ?_)
        clear hK K
        (try simp only [Act.put, List.setIfInBounds_toArray, List.set_cons_zero, List.set_cons_succ])
        refine wpAnyH_ready (rs := [7]) (by kernel_rfl) (by simp) ?_
        refine AllReadyH.cons (o := _) (by rw [List.getElem?_toArray]; exact rfl) (fun K hK => ?_) AllReadyH.nil
        rw [if_pos (by kernel_rfl)]
        go_simp
        refine hK.out _ _ trivial (fun hHeld => ?_)
        clear hK K
        (try simp only [Act.put, List.setIfInBounds_toArray, List.set_cons_zero, List.set_cons_succ])
        refine wpAnyH_done (by kernel_rfl) ?_ _
        (try simp only [Exit.then])
        have B7 : Hid (Below w.heap.size w z2) := B5d.out.trans ((Z1.out.trans (Z2.out.mono Z1.out.size)).mono B5d.out.size)
        have V1z : Hid (VasAt z2 a1 L.length L) := (V1d.out.below Z1.out (Nat.le_refl _)).below Z2.out (Nat.le_refl _)
        have V2z : Hid (VasAt z2 a2 M.length M) := (V2d.out.below Z1.out (Nat.le_refl _)).below Z2.out (Nat.le_refl _)
        clear F1 F2
        go_wp2_with fail
        refine (IL.out a2 a1 M.length c2 L.length c1 M L _ V2z.out HC2.out V1z.out HC1.out).mono ?_
        rintro e z3 ⟨rfl, hb⟩
        rw [HBM.out]
        have B8 : Hid (Below w.heap.size w z3) := B7.out.trans (hb.mono B7.out.size)
        have V1y : Hid (VasAt z3 a1 L.length L) := V1z.out.below hb (Nat.le_refl _)
        have V2y : Hid (VasAt z3 a2 M.length M) := V2z.out.below hb (Nat.le_refl _)
        clear hb
        go_wp2_with fail
        refine (sameT_any a1 a2 L.length M.length c1 c2 L M _ V1y.out V2y.out).mono ?_
        rintro e z4 ⟨rfl, hb⟩
        rw [HBE.out]
        have B9 : Hid (Below w.heap.size w z4) := B8.out.trans (hb.mono B8.out.size)
        clear hb
        go_wp2
        go_ret
        exact ⟨rfl, B9.out⟩
      · rw [if_pos (by kernel_rfl)]
        go_simp
        refine hK.out _ _ trivial (fun hHeld => ?_)
        clear hK K
        (try simp only [Act.put, List.setIfInBounds_toArray, List.set_cons_zero, List.set_cons_succ])
        refine wpAnyH_ready (rs := [5]) (by kernel_rfl) (by simp) ?_
        refine AllReadyH.cons (o := _) (by rw [List.getElem?_toArray]; exact rfl) (fun K hK => ?_) AllReadyH.nil
        rw [if_pos (by kernel_rfl)]
        go_simp
        refine hK.out _ _ trivial (fun hHeld => ?_)
        clear hK K
        (try simp only [Act.put, List.setIfInBounds_toArray, List.set_cons_zero, List.set_cons_succ])
        refine wpAnyH_ready (rs := [7]) (by kernel_rfl) (by simp) ?_
        refine AllReadyH.cons (o := _) (by rw [List.getElem?_toArray]; exact rfl) (fun K hK => ?_) AllReadyH.nil
        rw [if_pos (by kernel_rfl)]
        go_simp
        refine hK.out _ _ trivial (fun hHeld => ?_)
        clear hK K
        (try simp only [Act.put, List.setIfInBounds_toArray, List.set_cons_zero, List.set_cons_succ])
        refine wpAnyH_done (by kernel_rfl) ?_ _
        (try simp only [Exit.then])
        have B7 : Hid (Below w.heap.size w z2) := B5d.out.trans ((Z1.out.trans (Z2.out.mono Z1.out.size)).mono B5d.out.size)
        have V1z : Hid (VasAt z2 a1 L.length L) := (V1d.out.below Z1.out (Nat.le_refl _)).below Z2.out (Nat.le_refl _)
        have V2z : Hid (VasAt z2 a2 M.length M) := (V2d.out.below Z1.out (Nat.le_refl _)).below Z2.out (Nat.le_refl _)
        clear F1 F2
        go_wp2_with fail
        refine (IL.out a2 a1 M.length c2 L.length c1 M L _ V2z.out HC2.out V1z.out HC1.out).mono ?_
        rintro e z3 ⟨rfl, hb⟩
        rw [HBM.out]
        have B8 : Hid (Below w.heap.size w z3) := B7.out.trans (hb.mono B7.out.size)
        have V1y : Hid (VasAt z3 a1 L.length L) := V1z.out.below hb (Nat.le_refl _)
        have V2y : Hid (VasAt z3 a2 M.length M) := V2z.out.below hb (Nat.le_refl _)
        clear hb
        go_wp2_with fail
        refine (sameT_any a1 a2 L.length M.length c1 c2 L M _ V1y.out V2y.out).mono ?_
        rintro e z4 ⟨rfl, hb⟩
        rw [HBE.out]
        have B9 : Hid (Below w.heap.size w z4) := B8.out.trans (hb.mono B8.out.size)
        clear hb
        go_wp2
        go_ret
        exact ⟨rfl, B9.out⟩
    · rw [if_pos (by kernel_rfl)]
      go_simp
      refine hK.out _ _ trivial (fun hHeld => ?_)
      clear hK K
      (try simp only [Act.put, List.setIfInBounds_toArray, List.set_cons_zero, List.set_cons_succ])
      refine wpAnyH_ready (rs := [2]) (by kernel_rfl) (by simp) ?_
      refine AllReadyH.cons (o := _) (by rw [List.getElem?_toArray]; exact rfl) (fun K hK => ?_) AllReadyH.nil
      rw [if_pos (by kernel_rfl)]
      go_simp
      refine hK.out _ _ trivial (fun hHeld => ?_)
      clear hK K
      (try simp only [Act.put, List.setIfInBounds_toArray, List.set_cons_zero, List.set_cons_succ])
      refine wpAnyH_ready (rs := [6]) (by kernel_rfl) (by simp) ?_
      refine AllReadyH.cons (o := _) (by rw [List.getElem?_toArray]; exact rfl) (fun K hK => ?_) AllReadyH.nil
      rw [if_pos (by kernel_rfl)]
      go_simp
      refine hK.out _ _ trivial (fun hHeld => ?_)
      clear hK K
      (try simp only [Act.put, List.setIfInBounds_toArray, List.set_cons_zero, List.set_cons_succ])
      refine wpAnyH_ready (rs := [7]) (by kernel_rfl) (by simp) ?_
      refine AllReadyH.cons (o := _) (by rw [List.getElem?_toArray]; exact rfl) (fun K hK => ?_) AllReadyH.nil
      rw [if_pos (by kernel_rfl)]
      go_simp
      refine hK.out _ _ trivial (fun hHeld => ?_)
      clear hK K
      (try simp only [Act.put, List.setIfInBounds_toArray, List.set_cons_zero, List.set_cons_succ])
      refine wpAnyH_done (by kernel_rfl) ?_ _
      (try simp only [Exit.then])
      have B7 : Hid (Below w.heap.size w z2) := B5d.out.trans ((Z1.out.trans (Z2.out.mono Z1.out.size)).mono B5d.out.size)
      have V1z : Hid (VasAt z2 a1 L.length L) := (V1d.out.below Z1.out (Nat.le_refl _)).below Z2.out (Nat.le_refl _)
      have V2z : Hid (VasAt z2 a2 M.length M) := (V2d.out.below Z1.out (Nat.le_refl _)).below Z2.out (Nat.le_refl _)
      clear F1 F2
      go_wp2_with fail
      refine (IL.out a2 a1 M.length c2 L.length c1 M L _ V2z.out HC2.out V1z.out HC1.out).mono ?_
      rintro e z3 ⟨rfl, hb⟩
      rw [HBM.out]
      have B8 : Hid (Below w.heap.size w z3) := B7.out.trans (hb.mono B7.out.size)
      have V1y : Hid (VasAt z3 a1 L.length L) := V1z.out.below hb (Nat.le_refl _)
      have V2y : Hid (VasAt z3 a2 M.length M) := V2z.out.below hb (Nat.le_refl _)
      clear hb
      go_wp2_with fail
      refine (sameT_any a1 a2 L.length M.length c1 c2 L M _ V1y.out V2y.out).mono ?_
      rintro e z4 ⟨rfl, hb⟩
      rw [HBE.out]
      have B9 : Hid (Below w.heap.size w z4) := B8.out.trans (hb.mono B8.out.size)
      clear hb
      go_wp2
      go_ret
      exact ⟨rfl, B9.out⟩

theorem lifted (iOk : AskOk) (iL : AskL) (iB : AskB) (os : Os) (started : os.Started) (H : Type) (enc : TypeId × Value → H) :
    ReturnsInHanded {} Try.checked os 3 .any (Rows.fnTupleOrderSpec.pre6 enc Try.prog Try.f3 Rows.fnTupleOrderRow.domain false) (Rows.fnTupleOrderSpec.post enc Try.prog Try.f3 false true false false) := by
  refine returnsInHanded_of_change (C := Try.checked) own started (by kernel_rfl) Try.func3
    (ChangeSpec.witness6 (enc := enc) (C := Try.checked) false ⟨#[], #[.slice none 0 0], []⟩ 8 (by kernel_rfl) (by kernel_rfl) (by kernel_rfl) (by kernel_rfl)) ?_
  intro W base args ds gs before hval0 hW hcnd _
  have hval : ∀ (j : Nat) t v, Try.f3.params[j]? = some t → args[j]? = some v → Value.okWide Try.prog W .any base t v := hval0
  have hW' := hW
  obtain ⟨p, q, hA0, hV, rfl, hfz, hnd⟩ := hW
  have hA : DataW.TrodAll enc Try.prog W 0 (fun _ => true) true Try.f3.params.toList args.toList ds p := hA0
  rw [Try.params3] at hA hval
  obtain ⟨v0, d0, rfl, rfl, h0⟩ := trodAll_one hA
  obtain ⟨rfl, rfl⟩ := trodVars_none hV
  obtain ⟨a0, n, c, rfl⟩ := okWide_slice Try.underlying22 (hval 0 22 v0 rfl rfl)
  have k0 := h0
  have lt0 : ∀ x ∈ p, x.block < W.heap.size := by obtain ⟨m, hm⟩ := k0; exact DataW.trod_lt m _ _ _ hm
  have hB : BytesAt W W.heap.size a0 n := by
    obtain ⟨fuel, hf⟩ := h0
    rcases open_ints Try.underlying22 Try.underlying5 (by kernel_rfl) hf with ⟨hcs, _⟩ | ⟨x, l, cc, zs, hcs, _, hl, hm, hz, _, hcell, hwz⟩
    · simp [Value.cells] at hcs
      obtain ⟨rfl, rfl, rfl⟩ := hcs
      exact .inl rfl
    · simp [Value.cells] at hcs
      obtain ⟨rfl, rfl, rfl⟩ := hcs
      by_cases h0 : n = 0
      · exact .inl h0
      · simp at hz
        obtain ⟨b, o, rfl, hc⟩ := ints_at hcell (by omega)
        refine .inr ⟨b, o, rfl, World.block_lt_of_cell? W _ (hc 0 (by omega)), fun i hi => ?_⟩
        have hzi : i < zs.length := by omega
        have bd := bounds_u8 (hwz zs[i] (List.getElem_mem hzi))
        refine ⟨zs[i].toNat, by omega, ?_⟩
        rw [hc i hzi, show ((zs[i].toNat : Nat) : Int) = zs[i] by omega]
        simp [List.getD, hzi]
  refine (walk a0 n c W hB iOk iL iB).mono fun e W' ⟨he, bel⟩ => ?_
  subst he
  exact ⟨_, rfl, _, _, _, [], _, [], hW', trodAll_mk1 (shut_bool Try.underlying4 _), (trodAll_cons_mk (Below.trod laidOut (by kernel_rfl) (of_decide_eq_true (by kernel_rfl)) k0 bel lt0) trodAll_mk0), rfl, bel.frame _, fun h => by cases h⟩

theorem over (iOk : AskOk) (iL : AskL) (iB : AskB) : Rows.FnTupleOrderSaid :=
  OpenClaim.holds_of_wide 3 Try.f3 rfl rfl rfl rfl rfl rfl rfl ⟨rfl, rfl, rfl, rfl, rfl⟩ rfl rfl rfl rfl rfl (by kernel_rfl) Try.func3 (by kernel_rfl)
    (of_decide_eq_true (by kernel_rfl)) (by unfold Func.isWrapper; first | (rw [if_pos (by decide +kernel)]; kernel_rfl) | (rw [if_neg (by decide +kernel)]; exact ⟨rfl, rfl⟩))
    (fun os started H enc _ => lifted iOk iL iB os started H enc)

end fnTupleOrder
end Go.Proofs.Ytgibeakclknhnaa
namespace Go.Proofs.Ytgibeakclknhnaa
section
open Go.ChangeShapes Go.WideShapes Go.ChangeAt Go.RowKit
theorem within_g (x lo hi : Int) (w : World) : Calls Try.prog 50 #[.int .i64 x, .int .i64 lo, .int .i64 hi] w fun e w' => e = .returned (.bool (inB x lo hi)) ∧ w' = w := by
  by_cases h0 : lo ≤ x
  · by_cases h1 : x ≤ hi
    · rw [inB_yes ⟨h0, h1⟩]
      go_enter Try.func50, Try.ntmps50
      go_wp2
      go_ret
      exact ⟨rfl, rfl⟩
    · rw [inB_no (fun h => h1 h.2)]
      go_enter Try.func50, Try.ntmps50
      go_wp2
      go_ret
      exact ⟨rfl, rfl⟩
  · rw [inB_no (fun h => h0 h.1)]
    go_enter Try.func50, Try.ntmps50
    go_wp2
    go_ret
    exact ⟨rfl, rfl⟩
theorem same_yes {k n : Int} {s : ByteArray} {k' n' : Int} {s' : ByteArray} (h : k = k' ∧ n = n' ∧ s = s') : sameV k n s k' n' s' = true := decide_eq_true h
theorem same_no {k n : Int} {s : ByteArray} {k' n' : Int} {s' : ByteArray} (h : ¬ (k = k' ∧ n = n' ∧ s = s')) : sameV k n s k' n' s' = false := decide_eq_false h
theorem str_sz {s : ByteArray} (h : s = ⟨#[]⟩) : s.size = 0 := by subst h; rfl
theorem implValueOk_any (k n : Int) (s : ByteArray) (w : World) :
    Calls Try.prog 35 #[VaV k n s] w fun e w' => e = .returned (.bool (decide (VaGood k n s))) ∧ Below w.heap.size w w' := by
  obtain ⟨B, hB⟩ : ∃ B, decide (VaGood k n s) = B := ⟨_, rfl⟩
  rw [hB]
  have HB : Hid (decide (VaGood k n s) = B) := hB
  clear hB
  obtain ⟨W, hW⟩ : ∃ W, w.alloc (.cells #[.int .i64 k, .int .i64 n, .string s] 44) = W := ⟨_, rfl⟩
  have HB0 : Hid (Below w.heap.size w W) := by rw [← hW]; exact (Below.refl _ w).alloc (Nat.le_refl _) _
  have X0 : Hid (Box W w.heap.size #[.int .i64 k, .int .i64 n, .string s] 44) := by rw [← hW]; exact box_of w _ _
  have HW : Hid (w.alloc (.cells #[.int .i64 k, .int .i64 n, .string s] 44) = W) := hW
  obtain ⟨c0, c1, c2⟩ := X0.out.triV
  clear hW
  have e1 : ∀ w : World, (binOp .eql 44 (.agg #[.int .i64 k, .int .i64 n, .string s]) (.agg #[.int .i64 0, .int .i64 0, .string ⟨#[]⟩])).run Try.prog w = .ok (.bool (sameV k n s 0 0 ⟨#[]⟩)) w := eql_va k n s 0 0 ⟨#[]⟩
  have e2 : ∀ w : World, (binOp .eql 44 (.agg #[.int .i64 k, .int .i64 n, .string s]) (.agg #[.int .i64 1, .int .i64 n, .string ⟨#[]⟩])).run Try.prog w = .ok (.bool (sameV k n s 1 n ⟨#[]⟩)) w := eql_va k n s 1 n ⟨#[]⟩
  have e3 : ∀ w : World, (binOp .eql 44 (.agg #[.int .i64 k, .int .i64 n, .string s]) (.agg #[.int .i64 2, .int .i64 n, .string ⟨#[]⟩])).run Try.prog w = .ok (.bool (sameV k n s 2 n ⟨#[]⟩)) w := eql_va k n s 2 n ⟨#[]⟩
  have e4 : ∀ w : World, (binOp .eql 44 (.agg #[.int .i64 k, .int .i64 n, .string s]) (.agg #[.int .i64 3, .int .i64 0, .string s])).run Try.prog w = .ok (.bool (sameV k n s 3 0 s)) w := eql_va k n s 3 0 s
  by_cases h1 : k = 0 ∧ n = 0 ∧ s = ⟨#[]⟩
  · have HBV : Hid (B = true) := by
      show _ = _
      rw [← HB.out]
      exact decide_eq_true (by have := str_sz h1.2.2; unfold VaGood; omega)
    rw [HBV.out]
    have q1 := same_yes h1
    rw [q1] at e1
    clear e2 e3 e4 h1 q1
    go_enter Try.func35, Try.ntmps35
    go_upto_region 1 with (fail)
    rw [HW.out]
    go_wp2
    go_ret
    exact ⟨rfl, HB0.out⟩
  rw [same_no h1] at e1
  by_cases h2 : k = 1 ∧ n = n ∧ s = ⟨#[]⟩
  · have HBV : Hid (B = inB n 0 1) := by
      show _ = _
      rw [← HB.out]
      have h5 := str_sz h2.2.2
      have h6 := h2.1
      by_cases hn : 0 ≤ n ∧ n ≤ 1
      · rw [inB_yes hn]
        exact decide_eq_true (by unfold VaGood; omega)
      · rw [inB_no hn]
        exact decide_eq_false (by unfold VaGood; omega)
    rw [HBV.out]
    rw [same_yes h2] at e2
    clear e3 e4 h1 h2
    go_enter Try.func35, Try.ntmps35
    go_upto_region 1 with (fail)
    rw [HW.out]
    go_wp2_with fail
    refine (within_g n 0 1 _).mono ?_
    rintro e w1 ⟨rfl, rfl⟩
    go_wp2
    go_ret
    exact ⟨rfl, HB0.out⟩
  rw [same_no h2] at e2
  by_cases h3 : k = 2 ∧ n = n ∧ s = ⟨#[]⟩
  · have HBV : Hid (B = inB n (-1000000000000) 1000000000000) := by
      show _ = _
      rw [← HB.out]
      have h5 := str_sz h3.2.2
      have h6 := h3.1
      by_cases hn : -1000000000000 ≤ n ∧ n ≤ 1000000000000
      · rw [inB_yes hn]
        exact decide_eq_true (by unfold VaGood; omega)
      · rw [inB_no hn]
        exact decide_eq_false (by unfold VaGood; omega)
    rw [HBV.out]
    rw [same_yes h3] at e3
    clear e4 h1 h2 h3
    go_enter Try.func35, Try.ntmps35
    go_upto_region 1 with (fail)
    rw [HW.out]
    go_wp2_with fail
    refine (within_g n (-1000000000000) 1000000000000 _).mono ?_
    rintro e w1 ⟨rfl, rfl⟩
    go_wp2
    go_ret
    exact ⟨rfl, HB0.out⟩
  rw [same_no h3] at e3
  by_cases h4 : k = 3 ∧ n = 0 ∧ s = s
  · rw [same_yes h4] at e4
    by_cases hs : s.size ≤ 20
    · have HBV : Hid (B = true) := by
        show _ = _
        rw [← HB.out]
        exact decide_eq_true (by unfold VaGood; omega)
      rw [HBV.out]
      have hsz : ((s.size : Int) ≤ 20) := by omega
      clear h1 h2 h3 h4
      go_enter Try.func35, Try.ntmps35
      go_upto_region 1 with (fail)
      rw [HW.out]
      go_wp2
      go_ret
      exact ⟨rfl, HB0.out⟩
    · have HBV : Hid (B = false) := by
        show _ = _
        rw [← HB.out]
        exact decide_eq_false (by unfold VaGood; omega)
      rw [HBV.out]
      have hsz : ¬ ((s.size : Int) ≤ 20) := by omega
      clear h1 h2 h3 h4
      go_enter Try.func35, Try.ntmps35
      go_upto_region 1 with (fail)
      rw [HW.out]
      go_wp2
      go_ret
      exact ⟨rfl, HB0.out⟩
  rw [same_no h4] at e4
  have HBV : Hid (B = false) := by
    show _ = _
    rw [← HB.out]
    refine decide_eq_false ?_
    unfold VaGood
    rintro (⟨r1, r2, r3⟩ | ⟨r1, r2, r3⟩ | ⟨r1, r2, r3⟩ | ⟨r1, r2, r3⟩)
    · exact h1 ⟨r1, r2, str_nil r3⟩
    · exact h2 ⟨r1, rfl, str_nil r3⟩
    · exact h3 ⟨r1, rfl, str_nil r3⟩
    · exact h4 ⟨r1, r2, rfl⟩
  rw [HBV.out]
  clear h1 h2 h3 h4
  go_enter Try.func35, Try.ntmps35
  go_upto_region 1 with (fail)
  rw [HW.out]
  go_wp2
  go_ret
  exact ⟨rfl, HB0.out⟩
theorem tokBad_any (k n : Int) (s : ByteArray) (w : World) :
    Calls Try.prog 34 #[VaV k n s] w fun e w' => e = .returned (.bool !(decide (VaGood k n s))) ∧ Below w.heap.size w w' := by
  obtain ⟨B, hB⟩ : ∃ B, decide (VaGood k n s) = B := ⟨_, rfl⟩
  rw [hB]
  have HB : Hid (decide (VaGood k n s) = B) := hB
  clear hB
  obtain ⟨W, hW⟩ : ∃ W, w.alloc (.cells #[.int .i64 k, .int .i64 n, .string s] 44) = W := ⟨_, rfl⟩
  have HB0 : Hid (Below w.heap.size w W) := by rw [← hW]; exact (Below.refl _ w).alloc (Nat.le_refl _) _
  have X0 : Hid (Box W w.heap.size #[.int .i64 k, .int .i64 n, .string s] 44) := by rw [← hW]; exact box_of w _ _
  have HW : Hid (w.alloc (.cells #[.int .i64 k, .int .i64 n, .string s] 44) = W) := hW
  obtain ⟨c0, c1, c2⟩ := X0.out.triV
  clear hW
  go_enter Try.func34, Try.ntmps34
  go_upto_region 1 with (fail)
  rw [HW.out]
  go_wp2_with fail
  refine (implValueOk_any k n s _).mono ?_
  rintro e w1 ⟨rfl, hb1⟩
  rw [HB.out]
  have HB1 : Hid (Below w.heap.size w w1) := HB0.out.trans (hb1.mono HB0.out.size)
  clear hb1 c0 c1 c2
  go_wp2
  go_ret
  exact ⟨rfl, HB1.out⟩
theorem tokIndex_any (a : Option Addr) (n c : Nat) (L : List Va3) (w : World) (h : VasAt w a n L) :
    Calls Try.prog 51 #[.slice a n c, .func (.func 34) #[] #[]] w fun e w' => ∃ r : Int, (e = .returned (.int .i64 r) ∧ (0 ≤ r ↔ ¬ ∀ x ∈ L, VaGood x.1 x.2.1 x.2.2)) ∧ Below w.heap.size w w' := by
  have HL : Hid (VasAt w a n L) := h
  have hl := h.1
  have hn := h.2.1
  clear h
  go_enter Try.func51, Try.ntmps51
  go_wp2
  go_loopw [8] (fun i wr => ∃ j : Nat, j ≤ n ∧ i = .int .i64 (j : Int) ∧ (∀ x ∈ L.take j, VaGood x.1 x.2.1 x.2.2) ∧ Below w.heap.size w wr) (fun i _ => n - (RowKit.intOf i).toNat)
  case atStart => exact ⟨0, Nat.zero_le _, rfl, fun x hx => by simp at hx, Below.refl _ _⟩
  case round =>
    obtain ⟨j, hj, rfl, hg, hb⟩ := hrel
    have HG : Hid (∀ x ∈ L.take j, VaGood x.1 x.2.1 x.2.2) := hg
    have HBW : Hid (Below w.heap.size w wr) := hb
    clear hg hb
    by_cases hlt : j < n
    · rcases (HL.out.below HBW.out (Nat.le_refl _)).2.2 with h0 | ⟨p1, o1, rfl, g1⟩
      · omega
      obtain ⟨x, hx⟩ : ∃ x, L[j]? = some x := ⟨_, List.getElem?_eq_getElem (by omega)⟩
      obtain ⟨e0, e1, e2⟩ := g1 j x hx
      have HX : Hid (L[j]? = some x) := hx
      have HT : Hid (L.take (j + 1) = L.take j ++ [x]) := by
        show _ = _
        rw [List.take_succ_eq_append_getElem (by omega), ← (List.getElem?_eq_some_iff.1 hx).2]
      obtain ⟨k, m, s⟩ := x
      dsimp only at e0 e1 e2
      have hk0 : (0 : Int) ≤ (j : Int) := by omega
      have hk1 : (j : Int) < (n : Int) := by omega
      clear g1 hx
      go_wp2_with fail
      refine (tokBad_any k m s _).mono ?_
      rintro e w2 ⟨rfl, hb2⟩
      have HB2 : Hid (Below w.heap.size w w2) := HBW.out.trans (hb2.mono HBW.out.size)
      clear hb2 e0 e1 e2
      by_cases hv : VaGood k m s
      · rw [decide_eq_true hv]
        have hall : ∀ x ∈ L.take (j + 1), VaGood x.1 x.2.1 x.2.2 := by
          rw [HT.out]
          intro x hx
          rcases List.mem_append.1 hx with h1 | h1
          · exact HG.out x h1
          · simp at h1; subst h1; exact hv
        go_wp2
        go_roundw
        case rel => exact ⟨j + 1, by omega, by go_num, hall, HB2.out⟩
        case measure => simp [RowKit.intOf]; omega
      · rw [decide_eq_false hv]
        have HV : Hid (¬ ∀ x ∈ L, VaGood x.1 x.2.1 x.2.2) := fun h => hv (h _ (List.mem_of_getElem? HX.out))
        clear hv
        go_wp2
        go_ret
        exact ⟨(j : Int), ⟨rfl, ⟨fun _ => HV.out, fun _ => by omega⟩⟩, HB2.out⟩
    · obtain rfl : j = n := by omega
      have HALL : Hid (∀ x ∈ L, VaGood x.1 x.2.1 x.2.2) := by
        have h1 := HG.out
        rwa [List.take_of_length_le (by omega)] at h1
      go_wp2
      go_ret
      exact ⟨-1, ⟨rfl, ⟨fun h => by omega, fun h => absurd HALL.out h⟩⟩, HBW.out⟩
theorem tokContains_any (a : Option Addr) (n c : Nat) (L : List Va3) (w : World) (h : VasAt w a n L) :
    Calls Try.prog 36 #[.slice a n c, .func (.func 34) #[] #[]] w fun e w' => e = .returned (.bool !(decide (∀ x ∈ L, VaGood x.1 x.2.1 x.2.2))) ∧ Below w.heap.size w w' := by
  have HL : Hid (VasAt w a n L) := h
  clear h
  obtain ⟨B, hB⟩ : ∃ B, decide (∀ x ∈ L, VaGood x.1 x.2.1 x.2.2) = B := ⟨_, rfl⟩
  rw [hB]
  have HB : Hid (decide (∀ x ∈ L, VaGood x.1 x.2.1 x.2.2) = B) := hB
  clear hB
  go_enter Try.func36, Try.ntmps36
  go_wp2_with fail
  refine (tokIndex_any a n c L w HL.out).mono ?_
  rintro e w1 ⟨r, ⟨rfl, hr⟩, hb1⟩
  have HB1 : Hid (Below w.heap.size w w1) := hb1
  by_cases hall : ∀ x ∈ L, VaGood x.1 x.2.1 x.2.2
  · obtain rfl : true = B := (decide_eq_true hall).symm.trans HB.out
    have h1 : Hid (decide (0 ≤ r) = false) := decide_eq_false fun h => hr.1 h hall
    clear hr hall hb1
    go_wp2
    go_ret
    exact ⟨by show Ending.returned (.bool (decide (0 ≤ r))) = _; rw [h1.out]; rfl, HB1.out⟩
  · obtain rfl : false = B := (decide_eq_false hall).symm.trans HB.out
    have h1 : Hid (decide (0 ≤ r) = true) := decide_eq_true (hr.2 hall)
    clear hr hall hb1
    go_wp2
    go_ret
    exact ⟨by show Ending.returned (.bool (decide (0 ≤ r))) = _; rw [h1.out]; rfl, HB1.out⟩
theorem implTupleOk_any (a : Option Addr) (n c : Nat) (L : List Va3) (w : World) (h : VasAt w a n L) :
    Calls Try.prog 12 #[.slice a n c] w fun e w' => e = .returned (.bool (decide (TupGood L))) ∧ Below w.heap.size w w' := by
  have HL : Hid (VasAt w a n L) := h
  have hl := h.1
  have hn := h.2.1
  clear h
  by_cases h4 : n ≤ 4
  · have h5 : (n : Int) ≤ 4 := by omega
    have HD : Hid (decide (TupGood L) = decide (∀ x ∈ L, VaGood x.1 x.2.1 x.2.2)) := decide_eq_decide.2 ⟨fun h => h.1, fun h => ⟨h, by omega⟩⟩
    rw [HD.out]
    obtain ⟨B, hB⟩ : ∃ B, decide (∀ x ∈ L, VaGood x.1 x.2.1 x.2.2) = B := ⟨_, rfl⟩
    have HB : Hid (decide (∀ x ∈ L, VaGood x.1 x.2.1 x.2.2) = B) := hB
    rw [hB]
    clear hB
    go_enter Try.func12, Try.ntmps12
    go_wp2_with fail
    refine (tokContains_any a n c L w HL.out).mono ?_
    rintro e w1 ⟨rfl, hb1⟩
    rw [HB.out]
    have HB1 : Hid (Below w.heap.size w w1) := hb1
    clear hb1
    go_wp2
    go_ret
    cases B <;> exact ⟨rfl, HB1.out⟩
  · have h5 : ¬ (n : Int) ≤ 4 := by omega
    have HD : Hid (decide (TupGood L) = false) := decide_eq_false fun h => by have := h.2; omega
    rw [HD.out]
    go_enter Try.func12, Try.ntmps12
    go_wp2
    go_ret
    exact ⟨rfl, Below.refl _ _⟩
theorem Box.six {w : World} {b : Nat} {T : TypeId} {x0 x1 x2 x3 x4 x5 : Value} (h : Box w b #[x0, x1, x2, x3, x4, x5] T) : w.cell? ⟨b, 0, none⟩ = some x0 ∧ w.cell? ⟨b, 1, none⟩ = some x1 ∧ w.cell? ⟨b, 2, none⟩ = some x2 ∧ w.cell? ⟨b, 3, none⟩ = some x3 ∧ w.cell? ⟨b, 4, none⟩ = some x4 ∧ w.cell? ⟨b, 5, none⟩ = some x5 := ⟨h.cell 0, h.cell 1, h.cell 2, h.cell 3, h.cell 4, h.cell 5⟩
theorem lessByKind_any (k n : Int) (s : ByteArray) (k' n' : Int) (s' : ByteArray) (w : World) :
    Calls Try.prog 57 #[.agg #[.int .i64 k, .int .i64 n, .string s, .int .i64 k', .int .i64 n', .string s']] w fun e w' => e = .returned (.bool (decide (k < k'))) ∧ Below w.heap.size w w' := by
  obtain ⟨W, hW⟩ : ∃ W, w.alloc (.cells #[.int .i64 k, .int .i64 n, .string s, .int .i64 k', .int .i64 n', .string s'] 62) = W := ⟨_, rfl⟩
  have HB0 : Hid (Below w.heap.size w W) := by rw [← hW]; exact (Below.refl _ w).alloc (Nat.le_refl _) _
  have X0 : Hid (Box W w.heap.size #[.int .i64 k, .int .i64 n, .string s, .int .i64 k', .int .i64 n', .string s'] 62) := by rw [← hW]; exact box_of w _ _
  have HW : Hid (w.alloc (.cells #[.int .i64 k, .int .i64 n, .string s, .int .i64 k', .int .i64 n', .string s'] 62) = W) := hW
  obtain ⟨c0, c1, c2, c3, c4, c5⟩ := X0.out.six
  clear hW
  go_enter Try.func57, Try.ntmps57
  go_upto_region 1 with (fail)
  rw [HW.out]
  go_wp2
  go_ret
  exact ⟨rfl, HB0.out⟩
theorem lessByN_any (k n : Int) (s : ByteArray) (k' n' : Int) (s' : ByteArray) (w : World) :
    Calls Try.prog 58 #[.agg #[.int .i64 k, .int .i64 n, .string s, .int .i64 k', .int .i64 n', .string s']] w fun e w' => e = .returned (.bool (decide (n < n'))) ∧ Below w.heap.size w w' := by
  obtain ⟨W, hW⟩ : ∃ W, w.alloc (.cells #[.int .i64 k, .int .i64 n, .string s, .int .i64 k', .int .i64 n', .string s'] 62) = W := ⟨_, rfl⟩
  have HB0 : Hid (Below w.heap.size w W) := by rw [← hW]; exact (Below.refl _ w).alloc (Nat.le_refl _) _
  have X0 : Hid (Box W w.heap.size #[.int .i64 k, .int .i64 n, .string s, .int .i64 k', .int .i64 n', .string s'] 62) := by rw [← hW]; exact box_of w _ _
  have HW : Hid (w.alloc (.cells #[.int .i64 k, .int .i64 n, .string s, .int .i64 k', .int .i64 n', .string s'] 62) = W) := hW
  obtain ⟨c0, c1, c2, c3, c4, c5⟩ := X0.out.six
  clear hW
  go_enter Try.func58, Try.ntmps58
  go_upto_region 1 with (fail)
  rw [HW.out]
  go_wp2
  go_ret
  exact ⟨rfl, HB0.out⟩
theorem lessByS_any (k n : Int) (s : ByteArray) (k' n' : Int) (s' : ByteArray) (w : World) :
    Calls Try.prog 59 #[.agg #[.int .i64 k, .int .i64 n, .string s, .int .i64 k', .int .i64 n', .string s']] w fun e w' => e = .returned (.bool (Op.bytesLess s.toList s'.toList)) ∧ Below w.heap.size w w' := by
  obtain ⟨W, hW⟩ : ∃ W, w.alloc (.cells #[.int .i64 k, .int .i64 n, .string s, .int .i64 k', .int .i64 n', .string s'] 62) = W := ⟨_, rfl⟩
  have HB0 : Hid (Below w.heap.size w W) := by rw [← hW]; exact (Below.refl _ w).alloc (Nat.le_refl _) _
  have X0 : Hid (Box W w.heap.size #[.int .i64 k, .int .i64 n, .string s, .int .i64 k', .int .i64 n', .string s'] 62) := by rw [← hW]; exact box_of w _ _
  have HW : Hid (w.alloc (.cells #[.int .i64 k, .int .i64 n, .string s, .int .i64 k', .int .i64 n', .string s'] 62) = W) := hW
  obtain ⟨c0, c1, c2, c3, c4, c5⟩ := X0.out.six
  clear hW
  go_enter Try.func59, Try.ntmps59
  go_upto_region 1 with (fail)
  rw [HW.out]
  go_wp2
  go_ret
  exact ⟨rfl, HB0.out⟩
theorem less_kind (k n : Int) (s : ByteArray) (k' n' : Int) (s' : ByteArray) (w : World) (hk : ¬ k = k') :
    Calls Try.prog 49 #[.agg #[.int .i64 k, .int .i64 n, .string s, .int .i64 k', .int .i64 n', .string s']] w fun e w' => e = .returned (.func (.func 57) #[.agg #[.int .i64 k, .int .i64 n, .string s, .int .i64 k', .int .i64 n', .string s']] #[]) ∧ Below w.heap.size w w' := by
  have hmf : ∀ (fn : Fn) (first cap : Array Value) (w : World), (Instr.makeFunc fn first cap).run Try.prog w = .ok (.func fn first cap) w := fun _ _ _ _ => rfl
  obtain ⟨W, hW⟩ : ∃ W, w.alloc (.cells #[.int .i64 k, .int .i64 n, .string s, .int .i64 k', .int .i64 n', .string s'] 62) = W := ⟨_, rfl⟩
  have HB0 : Hid (Below w.heap.size w W) := by rw [← hW]; exact (Below.refl _ w).alloc (Nat.le_refl _) _
  have X0 : Hid (Box W w.heap.size #[.int .i64 k, .int .i64 n, .string s, .int .i64 k', .int .i64 n', .string s'] 62) := by rw [← hW]; exact box_of w _ _
  have HW : Hid (w.alloc (.cells #[.int .i64 k, .int .i64 n, .string s, .int .i64 k', .int .i64 n', .string s'] 62) = W) := hW
  obtain ⟨c0, c1, c2, c3, c4, c5⟩ := X0.out.six
  clear hW
  have hb : (k == k') = false := by simpa using hk
  have hc : (k != k') = true := by simpa using hk
  go_enter Try.func49, Try.ntmps49
  go_upto_region 1 with (fail)
  rw [HW.out]
  go_wp2
  go_ret
  exact ⟨rfl, HB0.out⟩
theorem less_n (k n : Int) (s : ByteArray) (k' n' : Int) (s' : ByteArray) (w : World) (hk : k = k') (hn : ¬ n = n') :
    Calls Try.prog 49 #[.agg #[.int .i64 k, .int .i64 n, .string s, .int .i64 k', .int .i64 n', .string s']] w fun e w' => e = .returned (.func (.func 58) #[.agg #[.int .i64 k, .int .i64 n, .string s, .int .i64 k', .int .i64 n', .string s']] #[]) ∧ Below w.heap.size w w' := by
  have hmf : ∀ (fn : Fn) (first cap : Array Value) (w : World), (Instr.makeFunc fn first cap).run Try.prog w = .ok (.func fn first cap) w := fun _ _ _ _ => rfl
  obtain ⟨W, hW⟩ : ∃ W, w.alloc (.cells #[.int .i64 k, .int .i64 n, .string s, .int .i64 k', .int .i64 n', .string s'] 62) = W := ⟨_, rfl⟩
  have HB0 : Hid (Below w.heap.size w W) := by rw [← hW]; exact (Below.refl _ w).alloc (Nat.le_refl _) _
  have X0 : Hid (Box W w.heap.size #[.int .i64 k, .int .i64 n, .string s, .int .i64 k', .int .i64 n', .string s'] 62) := by rw [← hW]; exact box_of w _ _
  have HW : Hid (w.alloc (.cells #[.int .i64 k, .int .i64 n, .string s, .int .i64 k', .int .i64 n', .string s'] 62) = W) := hW
  obtain ⟨c0, c1, c2, c3, c4, c5⟩ := X0.out.six
  clear hW
  subst hk
  have hb : (n == n') = false := by simpa using hn
  have hc : (n != n') = true := by simpa using hn
  go_enter Try.func49, Try.ntmps49
  go_upto_region 1 with (fail)
  rw [HW.out]
  go_wp2
  go_ret
  exact ⟨rfl, HB0.out⟩
theorem less_s (k n : Int) (s : ByteArray) (k' n' : Int) (s' : ByteArray) (w : World) (hk : k = k') (hn : n = n') :
    Calls Try.prog 49 #[.agg #[.int .i64 k, .int .i64 n, .string s, .int .i64 k', .int .i64 n', .string s']] w fun e w' => e = .returned (.func (.func 59) #[.agg #[.int .i64 k, .int .i64 n, .string s, .int .i64 k', .int .i64 n', .string s']] #[]) ∧ Below w.heap.size w w' := by
  have hmf : ∀ (fn : Fn) (first cap : Array Value) (w : World), (Instr.makeFunc fn first cap).run Try.prog w = .ok (.func fn first cap) w := fun _ _ _ _ => rfl
  obtain ⟨W, hW⟩ : ∃ W, w.alloc (.cells #[.int .i64 k, .int .i64 n, .string s, .int .i64 k', .int .i64 n', .string s'] 62) = W := ⟨_, rfl⟩
  have HB0 : Hid (Below w.heap.size w W) := by rw [← hW]; exact (Below.refl _ w).alloc (Nat.le_refl _) _
  have X0 : Hid (Box W w.heap.size #[.int .i64 k, .int .i64 n, .string s, .int .i64 k', .int .i64 n', .string s'] 62) := by rw [← hW]; exact box_of w _ _
  have HW : Hid (w.alloc (.cells #[.int .i64 k, .int .i64 n, .string s, .int .i64 k', .int .i64 n', .string s'] 62) = W) := hW
  obtain ⟨c0, c1, c2, c3, c4, c5⟩ := X0.out.six
  clear hW
  subst hk hn
  go_enter Try.func49, Try.ntmps49
  go_upto_region 1 with (fail)
  rw [HW.out]
  go_wp2
  go_ret
  exact ⟨rfl, HB0.out⟩
theorem implValueLess_any (k n : Int) (s : ByteArray) (k' n' : Int) (s' : ByteArray) (w : World) :
    Calls Try.prog 31 #[VaV k n s, VaV k' n' s'] w fun e w' => e = .returned (.bool (lessV k n s k' n' s')) ∧ Below w.heap.size w w' := by
  obtain ⟨W, hW⟩ : ∃ W, (w.alloc (.cells #[.int .i64 k, .int .i64 n, .string s] 44)).alloc (.cells #[.int .i64 k', .int .i64 n', .string s'] 44) = W := ⟨_, rfl⟩
  have HB0 : Hid (Below w.heap.size w W) := by rw [← hW]; exact ((Below.refl _ w).alloc (Nat.le_refl _) _).alloc (by simp) _
  have X0 : Hid (Box W w.heap.size #[.int .i64 k, .int .i64 n, .string s] 44) := by rw [← hW]; exact (box_of w _ _).alloc _
  have X1 : Hid (Box W (w.heap.size + 1) #[.int .i64 k', .int .i64 n', .string s'] 44) := by rw [← hW]; have := box_of (w.alloc (.cells #[.int .i64 k, .int .i64 n, .string s] 44)) #[.int .i64 k', .int .i64 n', .string s'] 44; rwa [World.size_alloc] at this
  have HW : Hid ((w.alloc (.cells #[.int .i64 k, .int .i64 n, .string s] 44)).alloc (.cells #[.int .i64 k', .int .i64 n', .string s'] 44) = W) := hW
  obtain ⟨c0, c1, c2⟩ := X0.out.triV
  obtain ⟨d0, d1, d2⟩ := X1.out.triV
  clear hW
  by_cases hk : k = k'
  · by_cases hn : n = n'
    · have HK : Hid (k = k' ∧ n = n') := ⟨hk, hn⟩
      clear hk hn
      have HL : Hid (lessV k n s k' n' s' = Op.bytesLess s.toList s'.toList) := by show _ = _; unfold lessV; rw [if_pos HK.out.1, if_pos HK.out.2]
      rw [HL.out]
      go_enter Try.func31, Try.ntmps31
      go_upto_region 1 with (fail)
      rw [HW.out]
      go_wp2_with fail
      refine (less_s k n s k' n' s' _ HK.out.1 HK.out.2).mono ?_
      rintro e w1 ⟨rfl, hb1⟩
      have HB1 : Hid (Below w.heap.size w w1) := HB0.out.trans (hb1.mono HB0.out.size)
      clear hb1 c0 c1 c2 d0 d1 d2
      go_wp2_with fail
      refine (lessByS_any k n s k' n' s' _).mono ?_
      rintro e w2 ⟨rfl, hb2⟩
      have HB2 : Hid (Below w.heap.size w w2) := HB1.out.trans (hb2.mono HB1.out.size)
      clear hb2
      go_wp2
      go_ret
      exact ⟨rfl, HB2.out⟩
    · have HK : Hid (k = k' ∧ ¬ n = n') := ⟨hk, hn⟩
      clear hk hn
      have HL : Hid (lessV k n s k' n' s' = decide (n < n')) := by show _ = _; unfold lessV; rw [if_pos HK.out.1, if_neg HK.out.2]
      rw [HL.out]
      go_enter Try.func31, Try.ntmps31
      go_upto_region 1 with (fail)
      rw [HW.out]
      go_wp2_with fail
      refine (less_n k n s k' n' s' _ HK.out.1 HK.out.2).mono ?_
      rintro e w1 ⟨rfl, hb1⟩
      have HB1 : Hid (Below w.heap.size w w1) := HB0.out.trans (hb1.mono HB0.out.size)
      clear hb1 c0 c1 c2 d0 d1 d2
      go_wp2_with fail
      refine (lessByN_any k n s k' n' s' _).mono ?_
      rintro e w2 ⟨rfl, hb2⟩
      have HB2 : Hid (Below w.heap.size w w2) := HB1.out.trans (hb2.mono HB1.out.size)
      clear hb2
      go_wp2
      go_ret
      exact ⟨rfl, HB2.out⟩
  · have HK : Hid (¬ k = k') := hk
    clear hk
    have HL : Hid (lessV k n s k' n' s' = decide (k < k')) := by show _ = _; unfold lessV; rw [if_neg HK.out]
    rw [HL.out]
    go_enter Try.func31, Try.ntmps31
    go_upto_region 1 with (fail)
    rw [HW.out]
    go_wp2_with fail
    refine (less_kind k n s k' n' s' _ HK.out).mono ?_
    rintro e w1 ⟨rfl, hb1⟩
    have HB1 : Hid (Below w.heap.size w w1) := HB0.out.trans (hb1.mono HB0.out.size)
    clear hb1 c0 c1 c2 d0 d1 d2
    go_wp2_with fail
    refine (lessByKind_any k n s k' n' s' _).mono ?_
    rintro e w2 ⟨rfl, hb2⟩
    have HB2 : Hid (Below w.heap.size w w2) := HB1.out.trans (hb2.mono HB1.out.size)
    clear hb2
    go_wp2
    go_ret
    exact ⟨rfl, HB2.out⟩
theorem implValueSame_any (k n : Int) (s : ByteArray) (k' n' : Int) (s' : ByteArray) (w : World) :
    Calls Try.prog 30 #[VaV k n s, VaV k' n' s'] w fun e w' => e = .returned (.bool (sameV k n s k' n' s')) ∧ Below w.heap.size w w' := by
  obtain ⟨W, hW⟩ : ∃ W, (w.alloc (.cells #[.int .i64 k, .int .i64 n, .string s] 44)).alloc (.cells #[.int .i64 k', .int .i64 n', .string s'] 44) = W := ⟨_, rfl⟩
  have HB0 : Hid (Below w.heap.size w W) := by rw [← hW]; exact ((Below.refl _ w).alloc (Nat.le_refl _) _).alloc (by simp) _
  have X0 : Hid (Box W w.heap.size #[.int .i64 k, .int .i64 n, .string s] 44) := by rw [← hW]; exact (box_of w _ _).alloc _
  have X1 : Hid (Box W (w.heap.size + 1) #[.int .i64 k', .int .i64 n', .string s'] 44) := by rw [← hW]; have := box_of (w.alloc (.cells #[.int .i64 k, .int .i64 n, .string s] 44)) #[.int .i64 k', .int .i64 n', .string s'] 44; rwa [World.size_alloc] at this
  have HW : Hid ((w.alloc (.cells #[.int .i64 k, .int .i64 n, .string s] 44)).alloc (.cells #[.int .i64 k', .int .i64 n', .string s'] 44) = W) := hW
  obtain ⟨c0, c1, c2⟩ := X0.out.triV
  obtain ⟨d0, d1, d2⟩ := X1.out.triV
  obtain ⟨B, hB⟩ : ∃ B, sameV k n s k' n' s' = B := ⟨_, rfl⟩
  have heq : ∀ w : World, (binOp .eql 44 (.agg #[.int .i64 k, .int .i64 n, .string s]) (.agg #[.int .i64 k', .int .i64 n', .string s'])).run Try.prog w = .ok (.bool B) w := fun w => by rw [← hB]; exact eql_va k n s k' n' s' w
  rw [hB]
  clear hW hB
  go_enter Try.func30, Try.ntmps30
  go_upto_region 1 with (fail)
  rw [HW.out]
  go_wp2
  go_ret
  exact ⟨rfl, HB0.out⟩
end
end Go.Proofs.Ytgibeakclknhnaa
