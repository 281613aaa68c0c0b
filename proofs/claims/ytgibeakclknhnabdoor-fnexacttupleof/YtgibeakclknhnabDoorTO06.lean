/- Texts joined: LawTofC, RdAt, RdX, ImplCt, ImplNm, Shelf, ShelfH. -/
import Derived.Test.YtgibeakclknhnabDoorRows
import Derived.Test.YtgibeakclknhnabDoorTie
import Derived.Test.YtgibeakclknhnabDoorCards
import Derived.Test.YtgibeakclknhnabDoorTO01
import Derived.Test.YtgibeakclknhnabDoorTO03
import Derived.Test.YtgibeakclknhnabDoorTO05
import Derived.OpenShut
import Derived.ChangeOld
import Derived.Below
import Derived.Lib.SmallJoins
import Derived.Deep.RegionHeld3
import Derived.Deep.Cut
import Derived.WalkKit
import Derived.ProofKit
import Derived.LaidMore
import Derived.Stop.Joined
import Derived.Stop.LaidErr
import Derived.Lib.LaidTab
import Derived.MakeChecks
import Derived.SevenTiedAt
import Derived.Test.YtgibeakclknhnabDoorTO02
import Derived.Shelf.Strings.Builder1
import Derived.Shelf.Strings.Builder2
import Derived.Shelf.Strings.OnBuilder
import Derived.Shelf.Strconv.Itoa0
import Derived.Shelf.Strconv.Itoa1
import Derived.Shelf.LaysM
import Derived.Shelf.Strconv.Itoa2
import Derived.Shelf.Strconv.Itoa3
import Derived.Test.YtgibeakclknhnabDoorProg
set_option maxHeartbeats 8000000
set_option maxRecDepth 100000
namespace Go.Proofs.YtgibeakclknhnabDoor
open Go.ChangeShapes Go.WideShapes Go.ChangeAt Go.RowKit Go.Joins

namespace fnExactTupleOf
theorem own : ownKnob Tryd.prog.godebug = none := by kernel_rfl
theorem laidOut : laidOutB Tryd.prog = true := by kernel_rfl
def Asked : Prop := ∀ (a : Option Addr) (n c : Nat) (l : List UInt8) (w : World), ErrT w → BysAt w a n l → n ≤ c → Calls Tryd.prog 7 #[.slice a n c] w fun e w' => TupAns l w e w' ∧ Below w.heap.size w w'
theorem walk (a : Option Addr) (c : Nat) (l : List UInt8) (w : World) (h : BysAt w a l.length l) (hle : l.length ≤ 1048576) (hT : ErrT w) (implC : Asked) :
    Calls Tryd.prog 3 #[.slice a l.length c] w fun e w' => e = .returned (.bool true) ∧ Below w.heap.size w w' := by
  have HL : Hid (BysAt w a l.length l) := h
  have HLE : Hid (l.length ≤ 1048576) := hle
  have HT : Hid (ErrT w) := hT
  clear hT
  have HC : Hid (∀ (a : Option Addr) (n c : Nat) (l : List UInt8) (w : World), ErrT w → BysAt w a n l → n ≤ c → Calls Tryd.prog 7 #[.slice a n c] w fun e w' => TupAns l w e w' ∧ Below w.heap.size w w') := implC
  obtain ⟨ok, hok⟩ : ∃ ok, okT l = ok := ⟨_, rfl⟩
  obtain ⟨L, hL⟩ : ∃ L, lstT l = L := ⟨_, rfl⟩
  have HOK : Hid (okT l = ok) := hok
  have HLT : Hid (lstT l = L) := hL
  have HLL : Hid (L.length ≤ 2097152) := by
    show L.length ≤ 2097152
    rw [← hL]
    have := lstT_le l
    omega
  have hl1 : ¬ ((l.length : Int) > 1048576) := by omega
  have hl2 : ¬ ((1048576 : Int) < (l.length : Int)) := by omega
  have nb : (ok != ok) = false := by cases ok <;> rfl
  have HB0 : Hid (Below w.heap.size w w) := Below.refl _ _
  obtain ⟨w0, hw0⟩ : ∃ w0, w = w0 := ⟨_, rfl⟩
  clear h implC hok hL hw0 hle
  go_enter Tryd.func3, Tryd.ntmps3
  go_wp2_with fail
  refine (toByteS_any a l.length c l _ (HL.out.below HB0.out (Nat.le_refl _))).mono ?_
  rintro e w1 ⟨rfl, ho, hb⟩
  have O1 : Hid (BOwn w1 w.heap.size (.slice (some ⟨w.heap.size, 0, none⟩) l.length l.length) l) := ho
  obtain ⟨_, _, hq, -, hy⟩ := bown_bys ho (Nat.le_trans HLE.out (by omega))
  cases hq
  have Y1 : Hid (BysAt w1 (some ⟨w.heap.size, 0, none⟩) l.length l) := hy
  clear ho hy
  have HST1 : Hid (Below w.heap.size w w1) := hb
  have HB1 : Hid (Below w.heap.size w w1) := HB0.out.trans (hb.mono HB0.out.size)
  clear hb
  go_wp2_with fail
  refine (specTupleOf_any _ l.length l.length l _ Y1.out).mono ?_
  rintro e w2 ⟨ht, hb⟩
  obtain ⟨v2, rfl, ho⟩ := ht.one
  rw [HLT.out] at ho
  rw [HOK.out]
  have V2 : Hid (VOwn w2 w1.heap.size v2 L) := ho
  clear ht ho
  have HST2 : Hid (Below w1.heap.size w1 w2) := hb
  have HB2 : Hid (Below w.heap.size w w2) := HB1.out.trans (hb.mono HB1.out.size)
  clear hb
  go_wp2_with fail
  refine (toByteS_any a l.length c l _ (HL.out.below HB2.out (Nat.le_refl _))).mono ?_
  rintro e w3 ⟨rfl, ho, hb⟩
  have O3 : Hid (BOwn w3 w2.heap.size (.slice (some ⟨w2.heap.size, 0, none⟩) l.length l.length) l) := ho
  obtain ⟨_, _, hq, -, hy⟩ := bown_bys ho (Nat.le_trans HLE.out (by omega))
  cases hq
  have Y3 : Hid (BysAt w3 (some ⟨w2.heap.size, 0, none⟩) l.length l) := hy
  clear ho hy
  have HST3 : Hid (Below w2.heap.size w2 w3) := hb
  have HB3 : Hid (Below w.heap.size w w3) := HB2.out.trans (hb.mono HB2.out.size)
  clear hb
  go_wp2_with fail
  refine (HC.out _ l.length l.length l _ (HT.out.below HB3.out (Nat.le_refl _)) Y3.out (Nat.le_refl _)).mono ?_
  rintro e w4 ⟨ht, hb⟩
  obtain ⟨v4, rfl, ho⟩ := ht.one
  rw [HLT.out] at ho
  rw [HOK.out]
  have V4 : Hid (VOwn w4 w3.heap.size v4 L) := ho
  clear ht ho
  have HST4 : Hid (Below w3.heap.size w3 w4) := hb
  have HB4 : Hid (Below w.heap.size w w4) := HB3.out.trans (hb.mono HB3.out.size)
  clear hb
  have E5x : Hid (VOwn w4 _ v4 L) := V4.out
  have E5y : Hid (VOwn w4 _ v2 L) := owns_below (owns_below V2.out HST3.out (Nat.le_refl _)) HST4.out (Nat.le_refl _)
  obtain ⟨xa5, xc5, hx5, -, ax5⟩ := own_vas E5x.out HLL.out
  obtain ⟨ya5, yc5, hy5, -, ay5⟩ := own_vas E5y.out HLL.out
  have AX5 : Hid (VasAt w4 xa5 L.length L) := ax5
  have AY5 : Hid (VasAt w4 ya5 L.length L) := ay5
  have EQX5 : Hid (v4 = .slice xa5 L.length xc5) := hx5
  have EQY5 : Hid (v2 = .slice ya5 L.length yc5) := hy5
  clear ax5 ay5 hx5 hy5
  go_wp2_with
    (go_at_call 8
     rw [EQX5.out, EQY5.out]
     refine (eqValueS_vas xa5 ya5 L.length xc5 yc5 L _ AX5.out AY5.out).mono ?_
     rintro e w5 ⟨rfl, hb⟩
     rw [← EQX5.out, ← EQY5.out]
     have HST5 : Hid (Below w4.heap.size w4 w5) := hb
     have HB5 : Hid (Below w.heap.size w w5) := HB4.out.trans (hb.mono HB4.out.size)
     clear hb)
  go_wp2_with fail
  refine (toByteS_any a l.length c l _ (HL.out.below HB5.out (Nat.le_refl _))).mono ?_
  rintro e w6 ⟨rfl, ho, hb⟩
  have O6 : Hid (BOwn w6 w5.heap.size (.slice (some ⟨w5.heap.size, 0, none⟩) l.length l.length) l) := ho
  obtain ⟨_, _, hq, -, hy⟩ := bown_bys ho (Nat.le_trans HLE.out (by omega))
  cases hq
  have Y6 : Hid (BysAt w6 (some ⟨w5.heap.size, 0, none⟩) l.length l) := hy
  clear ho hy
  have HST6 : Hid (Below w5.heap.size w5 w6) := hb
  have HB6 : Hid (Below w.heap.size w w6) := HB5.out.trans (hb.mono HB5.out.size)
  clear hb
  have Y3w6 : Hid (BysAt w6 (some ⟨w2.heap.size, 0, none⟩) l.length l) := ((((((Y3.out).below HST4.out (Nat.le_refl _))).below HST5.out (Nat.le_refl _))).below HST6.out (Nat.le_refl _))
  go_wp2_with fail
  refine (eqByteS_any _ _ l.length l.length l.length l.length l l _ Y3w6.out Y6.out).mono ?_
  rintro e w7 ⟨rfl, hb⟩
  rw [decide_eq_true (rfl : l = l)]
  have HST7 : Hid (Below w6.heap.size w6 w7) := hb
  have HB7 : Hid (Below w.heap.size w w7) := HB6.out.trans (hb.mono HB6.out.size)
  clear hb
  have O3w7 : Hid (BOwn w7 w2.heap.size (.slice (some ⟨w2.heap.size, 0, none⟩) l.length l.length) l) := owns_below (owns_below (owns_below (owns_below (O3.out) HST4.out (Nat.le_refl _)) HST5.out (Nat.le_refl _)) HST6.out (Nat.le_refl _)) HST7.out (Nat.le_refl _)
  have V2w7 : Hid (VOwn w7 w1.heap.size v2 L) := owns_below (owns_below (owns_below (owns_below (owns_below (V2.out) HST3.out (Nat.le_refl _)) HST4.out (Nat.le_refl _)) HST5.out (Nat.le_refl _)) HST6.out (Nat.le_refl _)) HST7.out (Nat.le_refl _)
  have V4w7 : Hid (VOwn w7 w3.heap.size v4 L) := owns_below (owns_below (owns_below (V4.out) HST5.out (Nat.le_refl _)) HST6.out (Nat.le_refl _)) HST7.out (Nat.le_refl _)
  have L2 : Hid (∀ k, v2.ownBlock = some k → k < w2.heap.size) := own_lt V2.out
  have L4 : Hid (∀ k, v4.ownBlock = some k → w3.heap.size ≤ k) := own_block V4.out
  have S23 : Hid (w2.heap.size < w3.heap.size) := own_lt O3.out _ rfl
  have SW2 : Hid (w.heap.size ≤ w2.heap.size) := HB2.out.size
  go_wp2_with fail
  refine (markByteS_at w2.heap.size l _ _ (Nat.le_trans HLE.out (by omega)) O3w7.out).mono ?_
  rintro e w8 ⟨rfl, -, hg8⟩
  have HB8 : Hid (Below w.heap.size w w8) := HB7.out.grown hg8 HB7.out.size (fun k hk => by cases hk; exact SW2.out)
  have V2w8 : Hid (VOwn w8 w1.heap.size v2 L) := own_far V2w7.out hg8 (fun k hk he => by have h1 := L2.out k hk; have h3 : k = w2.heap.size := Option.some.inj he; omega)
  have V4w8 : Hid (VOwn w8 w3.heap.size v4 L) := own_far V4w7.out hg8 (fun k hk he => by have h1 := L4.out k hk; have h2 := S23.out; have h3 : k = w2.heap.size := Option.some.inj he; omega)
  clear hg8
  have hlk : ¬ ((l.length : Int) + 1 < 0) := by omega
  have E9x : Hid (VOwn w8 _ v4 L) := V4w8.out
  have E9y : Hid (VOwn w8 _ v2 L) := V2w8.out
  obtain ⟨xa9, xc9, hx9, -, ax9⟩ := own_vas E9x.out HLL.out
  obtain ⟨ya9, yc9, hy9, -, ay9⟩ := own_vas E9y.out HLL.out
  have AX9 : Hid (VasAt w8 xa9 L.length L) := ax9
  have AY9 : Hid (VasAt w8 ya9 L.length L) := ay9
  have EQX9 : Hid (v4 = .slice xa9 L.length xc9) := hx9
  have EQY9 : Hid (v2 = .slice ya9 L.length yc9) := hy9
  clear ax9 ay9 hx9 hy9
  go_wp2_with
    (go_at_call 8
     rw [EQX9.out, EQY9.out]
     refine (eqValueS_vas xa9 ya9 L.length xc9 yc9 L _ AX9.out AY9.out).mono ?_
     rintro e w9 ⟨rfl, hb⟩
     rw [← EQX9.out, ← EQY9.out]
     have HST9 : Hid (Below w8.heap.size w8 w9) := hb
     have HB9 : Hid (Below w.heap.size w w9) := HB8.out.trans (hb.mono HB8.out.size)
     clear hb)
  have V2w9 : Hid (VOwn w9 w1.heap.size v2 L) := owns_below V2w8.out HST9.out (Nat.le_refl _)
  have V4w9 : Hid (VOwn w9 w3.heap.size v4 L) := owns_below V4w8.out HST9.out (Nat.le_refl _)
  go_wp2_with fail
  refine (markVOwn_at w3.heap.size L v4 _ HLL.out V4w9.out).mono ?_
  rintro e w10 ⟨rfl, ho10, hg10⟩
  have HB10 : Hid (Below w.heap.size w w10) := HB9.out.grown hg10 HB9.out.size (fun k hk => Nat.le_trans (Nat.le_trans SW2.out (Nat.le_of_lt S23.out)) (L4.out k hk))
  have V2w10 : Hid (VOwn w10 w1.heap.size v2 L) := own_far V2w9.out hg10 (fun k hk he => by have h1 := L2.out k hk; have h2 := L4.out k he.symm; have h3 := S23.out; omega)
  obtain ⟨ha, hc, hv4, -, hby⟩ := own_vas ho10 (by rw [marksV_len]; exact HLL.out)
  rw [marksV_len] at hv4 hby
  have HV4 : Hid (v4 = .slice ha L.length hc) := hv4
  have HY10 : Hid (VasAt w10 ha L.length (marksV L.length)) := hby
  have hLk : ¬ ((L.length : Int) * 3 + 1 < 0) := by omega
  have hLq : (((L.length : Int) * 3 + 1) != ((L.length : Int) * 3 + 1)) = false := by simp
  clear hv4 hby ho10 hg10
  go_wp2_with
    (go_at_call 12
     rw [HV4.out]
     refine (heldValueS_any ha L.length hc _ HY10.out).mono ?_
     rintro e w11 ⟨rfl, hb⟩
     rw [← HV4.out]
     have HST11 : Hid (Below w10.heap.size w10 w11) := hb
     have HB11 : Hid (Below w.heap.size w w11) := HB10.out.trans (hb.mono HB10.out.size)
     clear hb)
  go_wp2_with fail
  refine (toByteS_any a l.length c l _ (HL.out.below HB11.out (Nat.le_refl _))).mono ?_
  rintro e w12 ⟨rfl, ho, hb⟩
  have O12 : Hid (BOwn w12 w11.heap.size (.slice (some ⟨w11.heap.size, 0, none⟩) l.length l.length) l) := ho
  obtain ⟨_, _, hq, -, hy⟩ := bown_bys ho (Nat.le_trans HLE.out (by omega))
  cases hq
  have Y12 : Hid (BysAt w12 (some ⟨w11.heap.size, 0, none⟩) l.length l) := hy
  clear ho hy
  have HST12 : Hid (Below w11.heap.size w11 w12) := hb
  have HB12 : Hid (Below w.heap.size w w12) := HB11.out.trans (hb.mono HB11.out.size)
  clear hb
  go_wp2_with fail
  refine (HC.out _ l.length l.length l _ (HT.out.below HB12.out (Nat.le_refl _)) Y12.out (Nat.le_refl _)).mono ?_
  rintro e w13 ⟨ht, hb⟩
  obtain ⟨v13, rfl, ho⟩ := ht.one
  rw [HLT.out] at ho
  rw [HOK.out]
  have V13 : Hid (VOwn w13 w12.heap.size v13 L) := ho
  clear ht ho
  have HST13 : Hid (Below w12.heap.size w12 w13) := hb
  have HB13 : Hid (Below w.heap.size w w13) := HB12.out.trans (hb.mono HB12.out.size)
  clear hb
  have E14x : Hid (VOwn w13 _ v13 L) := V13.out
  have E14y : Hid (VOwn w13 _ v2 L) := owns_below (owns_below (owns_below (V2w10.out) HST11.out (Nat.le_refl _)) HST12.out (Nat.le_refl _)) HST13.out (Nat.le_refl _)
  obtain ⟨xa14, xc14, hx14, -, ax14⟩ := own_vas E14x.out HLL.out
  obtain ⟨ya14, yc14, hy14, -, ay14⟩ := own_vas E14y.out HLL.out
  have AX14 : Hid (VasAt w13 xa14 L.length L) := ax14
  have AY14 : Hid (VasAt w13 ya14 L.length L) := ay14
  have EQX14 : Hid (v13 = .slice xa14 L.length xc14) := hx14
  have EQY14 : Hid (v2 = .slice ya14 L.length yc14) := hy14
  clear ax14 ay14 hx14 hy14
  go_wp2_with
    (go_at_call 8
     rw [EQX14.out, EQY14.out]
     refine (eqValueS_vas xa14 ya14 L.length xc14 yc14 L _ AX14.out AY14.out).mono ?_
     rintro e w14 ⟨rfl, hb⟩
     rw [← EQX14.out, ← EQY14.out]
     have HST14 : Hid (Below w13.heap.size w13 w14) := hb
     have HB14 : Hid (Below w.heap.size w w14) := HB13.out.trans (hb.mono HB13.out.size)
     clear hb)
  go_wp2_with
    (go_at_call 12
     rw [HV4.out]
     refine (heldValueS_any ha L.length hc _ ((((((((HY10.out).below HST11.out (Nat.le_refl _))).below HST12.out (Nat.le_refl _))).below HST13.out (Nat.le_refl _))).below HST14.out (Nat.le_refl _))).mono ?_
     rintro e w15 ⟨rfl, hb⟩
     rw [← HV4.out]
     have HST15 : Hid (Below w14.heap.size w14 w15) := hb
     have HB15 : Hid (Below w.heap.size w w15) := HB14.out.trans (hb.mono HB14.out.size)
     clear hb)
  go_ret
  exact ⟨rfl, HB15.out⟩
theorem walkAny (a : Option Addr) (n c : Nat) (w : World) (hB : BytesAt w w.heap.size a n) (hT : ErrT w) (implC : Asked) :
    Calls Tryd.prog 3 #[.slice a n c] w fun e w' => e = .returned (.bool true) ∧ Below w.heap.size w w' := by
  by_cases hle : n ≤ 1048576
  · obtain ⟨l, hl⟩ := bys_of hB (Nat.le_trans hle (by decide))
    obtain rfl : l.length = n := hl.1
    exact walk a c l w hl hle hT implC
  · have h1 : (1048576 : Int) < (n : Int) := by omega
    clear hB hT implC
    go_enter Tryd.func3, Tryd.ntmps3
    go_wp2
    go_ret
    exact ⟨rfl, Below.refl _ _⟩
theorem door_met (os : Os) (args : Array Value) : laidMetH Tryd.prog Rows.fnExactTupleOfRow.laid ((World.doorLaid Tryd.prog 200 os).forCall (fun _ _ => 0) ⟨#[], args, []⟩).memory :=
  laidMetH_of_parts (laidMet_nil _ _) (by kernel_rfl)
theorem of_laid {W : World} (h : laidMetH Tryd.prog Rows.fnExactTupleOfRow.laid W) : ErrT W := by
  have h' : laidMet Tryd.prog [] W ∧ handlesMet Tryd.prog [("errors.errorType", Rows.laid_errors_errorType)] W := h
  exact errT_of h'.2
theorem lifted (implC : Asked) (os : Os) (started : os.Started) (H : Type) (enc : TypeId × Value → H) :
    ReturnsInHanded {} Tryd.checked os 3 .any (fun w args => (Rows.fnExactTupleOfSpec.pre enc Tryd.prog Tryd.f3 [] false w args ∧ laidMetH Tryd.prog Rows.fnExactTupleOfRow.laid w) ∧ sizedMet enc Tryd.prog Tryd.f3 (OpenSpec.ofChange Rows.fnExactTupleOfSpec) false w args)
      (Rows.fnExactTupleOfSpec.post enc Tryd.prog Tryd.f3 false true false false) := by
  refine returnsInHanded_of_change_and (C := Tryd.checked) (X := fun w _ => laidMetH Tryd.prog Rows.fnExactTupleOfRow.laid w) (fun _ _ _ hh h => h.of_heap hh) own started (by kernel_rfl) Tryd.func3
    (ChangeSpec.witness_shaped (enc := enc) (C := Tryd.checked) (os := os) (X := fun w _ => laidMetH Tryd.prog Rows.fnExactTupleOfRow.laid w) false (World.doorLaid Tryd.prog 200 os) #[.slice none 0 0] 8 rfl (World.shaped_of_RefB (by kernel_rfl) (by kernel_rfl)) (by kernel_rfl) (by kernel_rfl) (by kernel_rfl) (door_met os _)) ?_
  intro W base args ds gs before hval0 hW _ _ hL _
  have hval : ∀ (j : Nat) t v, Tryd.f3.params[j]? = some t → args[j]? = some v → Value.okWide Tryd.prog W .any base t v := hval0
  have hW' := hW
  obtain ⟨p, q, hA0, hV0, rfl, hfz, hnd⟩ := hW
  have hA : DataW.TrodAll enc Tryd.prog W 0 (fun _ => true) true Tryd.f3.params.toList args.toList ds p := hA0
  have hT := of_laid hL
  obtain ⟨rfl, rfl⟩ := trodVars_none hV0
  rw [Tryd.params3] at hA hval
  obtain ⟨v0, d0, rfl, rfl, h0⟩ := trodAll_one hA
  have k0 := h0
  have lt0 : ∀ x ∈ p, x.block < W.heap.size := by obtain ⟨m, hm⟩ := k0; exact DataW.trod_lt m _ _ _ hm
  obtain ⟨a0, n, c, rfl⟩ := okWide_slice Tryd.underlying22 (hval 0 22 v0 rfl rfl)
  have hB : BytesAt W W.heap.size a0 n := by
    obtain ⟨fuel, hf⟩ := h0
    rcases open_ints Tryd.underlying22 Tryd.underlying5 (by kernel_rfl) hf with ⟨hcs, _⟩ | ⟨x, l, cc, zs, hcs, _, hl, hm, hz, _, hcell, hwz⟩
    · simp [Value.cells] at hcs
      obtain ⟨rfl, rfl, rfl⟩ := hcs
      exact .inl rfl
    · simp [Value.cells] at hcs
      obtain ⟨rfl, rfl, rfl⟩ := hcs
      by_cases h0 : n = 0
      · exact .inl h0
      · simp at hz
        obtain ⟨b, o, rfl, hc⟩ := ints_at hcell (by omega)
        refine .inr ⟨b, o, rfl, World.block_lt_of_cell? W _ (hc 0 (by omega)), fun i hi => ?_⟩
        have hzi : i < zs.length := by omega
        have bd := bounds_u8 (hwz zs[i] (List.getElem_mem hzi))
        refine ⟨zs[i].toNat, by omega, ?_⟩
        rw [hc i hzi, show ((zs[i].toNat : Nat) : Int) = zs[i] by omega]
        simp [List.getD, hzi]
  refine (walkAny a0 n c W hB hT implC).mono fun e W' ⟨he, bel⟩ => ?_
  subst he
  exact ⟨_, rfl, _, _, _, [], _, _, hW', trodAll_mk1 (shut_bool Tryd.underlying4 _), (trodAll_cons_mk (Below.trod laidOut (by kernel_rfl) (of_decide_eq_true (by kernel_rfl)) k0 bel lt0) trodAll_mk0), rfl, bel.frame _, fun h => by cases h⟩
theorem row_holds (implC : Asked) : Rows.FnExactTupleOfSaid :=
  OpenClaim.holds_of_wide 3 Tryd.f3 rfl rfl rfl rfl rfl rfl rfl ⟨rfl, rfl, rfl, rfl, rfl⟩ rfl rfl rfl rfl rfl (by kernel_rfl) Tryd.func3 (by kernel_rfl)
    (of_decide_eq_true (by kernel_rfl)) (by unfold Func.isWrapper; first | (rw [if_pos (by decide +kernel)]; kernel_rfl) | (rw [if_neg (by decide +kernel)]; exact ⟨rfl, rfl⟩))
    (fun os started H enc _ => lifted implC os started H enc)
end fnExactTupleOf
theorem fnExactTupleOf_over (implC : fnExactTupleOf.Asked) : Rows.FnExactTupleOfCardSaid :=
  Claim7.holds_tied_plain_at .later [] [.handle] true Rows.fnExactTupleOfCard.stood.harness Rows.fnExactTupleOfCard.stood.looks
    (fnExactTupleOf.row_holds implC) (fun _ h => by cases h) (by kernel_rfl) (fun _ h => by cases h) fnExactTupleOf_row_tie rfl ⟨rfl, rfl⟩ (by kernel_rfl) rfl
    (fun f fn hf hfn => by
      obtain rfl : f = 3 := Option.some.inj ((show Tryd.prog.funcNamed Rows.fnExactTupleOfRow.func = some 3 by kernel_rfl).symm.trans hf) |>.symm
      obtain rfl : fn = Tryd.f3 := (Option.some.inj (Tryd.func3.symm.trans hfn)).symm
      exact ⟨by kernel_rfl, fun j t ht => by
        rw [Tryd.params3] at ht
        have hm : t ∈ [22] := by simpa using Array.mem_of_getElem? ht
        have hall : ([22].all fun u => !Tryd.prog.wantsStandIn u) = true := by kernel_rfl
        exact (show Tryd.prog.wantsStandIn t = false by simpa using List.all_eq_true.1 hall t hm)⟩)
    (by kernel_rfl)
end Go.Proofs.YtgibeakclknhnabDoor
namespace Go.Proofs.YtgibeakclknhnabDoor
section
open Go.ChangeShapes Go.WideShapes Go.ChangeAt Go.RowKit
structure RdAt (w : World) (R : Nat) (a : Option Addr) (n c : Nat) (l : List UInt8) (j : Nat) : Prop where
  box : Box w R #[.slice a n c, .int .i64 (j : Int)] 65
  bys : BysAt w a n l
  far : ∀ ad, a = some ad → ad.block ≠ R
  le : j ≤ n
  cap : n ≤ c
theorem BysAt.grown {w w' : World} {a : Option Addr} {n : Nat} {l : List UInt8} {R : Nat} (h : BysAt w a n l) (hg : w.grownBy w' (some R)) (hf : ∀ ad, a = some ad → ad.block ≠ R) : BysAt w' a n l := by
  obtain ⟨h1, h2, h3 | ⟨b, o, rfl, h4⟩⟩ := h
  · exact ⟨h1, h2, .inl h3⟩
  · refine ⟨h1, h2, .inr ⟨b, o, rfl, fun i x hi => ?_⟩⟩
    exact far_cell hg (h4 i x hi) (hf _ rfl)
theorem RdAt.turn {w w' : World} {R : Nat} {a : Option Addr} {n c : Nat} {l : List UInt8} {j k : Nat} (h : RdAt w R a n c l j) (hg : w.grownBy w' (some R)) (hb : Box w' R #[.slice a n c, .int .i64 (k : Int)] 65) (hk : k ≤ n) : RdAt w' R a n c l k := ⟨hb, h.bys.grown hg h.far, h.far, hk, h.cap⟩
theorem RdAt.below {w w' : World} {R : Nat} {a : Option Addr} {n c : Nat} {l : List UInt8} {j : Nat} (h : RdAt w R a n c l j) (hb : Below w.heap.size w w') : RdAt w' R a n c l j := ⟨h.box.below hb h.box.lt, h.bys.below hb (Nat.le_refl _), h.far, h.le, h.cap⟩
theorem RdAt.byte {w : World} {R : Nat} {a : Option Addr} {n c : Nat} {l : List UInt8} {j : Nat} (h : RdAt w R a n c l j) (hj : j < n) : ∃ b, l[j]? = some b := ⟨_, List.getElem?_eq_getElem (by have := h.bys.1; omega)⟩
abbrev ErrV (p : Int) : Value := .iface 48 (.agg #[.int .i64 p])
theorem esc_tail : ∀ (o s u r : List UInt8), escB o ++ u = escB s ++ 0 :: 1 :: r → ∃ s', s = o ++ s' ∧ u = escB s' ++ 0 :: 1 :: r
  | [], s, u, r, h => ⟨s, rfl, h⟩
  | d :: o, [], u, r, h => by
    exfalso
    rw [escB, escB] at h
    by_cases hd : d = 0
    · rw [if_pos hd] at h
      have h1 : (255 : UInt8) = 1 := by simpa using congrArg (fun l => l.getD 1 0) h
      exact absurd h1 (by decide)
    · rw [if_neg hd] at h
      exact hd (by simpa using congrArg (fun l => l.getD 0 9) h)
  | d :: o, c :: s, u, r, h => by
    rw [escB, escB] at h
    by_cases hd : d = 0
    · by_cases hc : c = 0
      · rw [if_pos hd, if_pos hc] at h
        have h1 : escB o ++ u = escB s ++ 0 :: 1 :: r := by simpa using h
        obtain ⟨s', h2, h3⟩ := esc_tail o s u r h1
        exact ⟨s', by rw [h2, hd, hc]; rfl, h3⟩
      · rw [if_pos hd, if_neg hc] at h
        exact absurd (by simpa using (congrArg (fun l => l.getD 0 9) h).symm) hc
    · by_cases hc : c = 0
      · rw [if_neg hd, if_pos hc] at h
        exact absurd (by simpa using congrArg (fun l => l.getD 0 9) h) hd
      · rw [if_neg hd, if_neg hc] at h
        have h1 : d = c ∧ escB o ++ u = escB s ++ 0 :: 1 :: r := by simpa using h
        obtain ⟨s', h2, h3⟩ := esc_tail o s u r h1.2
        exact ⟨s', by rw [h2, h1.1]; rfl, h3⟩
def EscT (l : List UInt8) (i j : Nat) (o : List UInt8) : Prop := l.drop i = escB o ++ l.drop j
theorem EscT.start (l : List UInt8) (i : Nat) : EscT l i i [] := rfl
theorem EscT.one {l : List UInt8} {i j : Nat} {o : List UInt8} {x : UInt8} (h : EscT l i j o) (hx : l[j]? = some x) (h0 : ¬ x = 0) : EscT l i (j + 1) (o ++ [x]) := by
  unfold EscT at h ⊢
  rw [h, dropB hx, escB_append]
  show _ = (_ ++ (if x = 0 then 0 :: 255 :: escB [] else x :: escB [])) ++ _
  rw [if_neg h0, List.append_assoc]
  rfl
theorem EscT.two {l : List UInt8} {i j : Nat} {o : List UInt8} (h : EscT l i j o) (hx : l[j]? = some 0) (hy : l[j + 1]? = some 255) : EscT l i (j + 2) (o ++ [0]) := by
  unfold EscT at h ⊢
  rw [h, dropB hx, dropB hy, escB_append]
  show _ = (_ ++ (if (0 : UInt8) = 0 then 0 :: 255 :: escB [] else 0 :: escB [])) ++ _
  rw [if_pos rfl, List.append_assoc]
  rfl
theorem EscT.done {l : List UInt8} {i j : Nat} {o : List UInt8} (h : EscT l i j o) (hx : l[j]? = some 0) (hy : l[j + 1]? = some 1) : l.drop i = (escB o ++ [0, 1]) ++ l.drop (j + 2) := by
  unfold EscT at h
  rw [h, dropB hx, dropB hy, List.append_assoc]
  rfl
theorem EscT.no {l : List UInt8} {i j : Nat} {o : List UInt8} (h : EscT l i j o) (hn : ∀ x, l[j]? = some x → x = 0 ∧ ∀ y, l[j + 1]? = some y → ¬ y = 1 ∧ ¬ y = 255) : ∀ s r, ¬ l.drop i = (escB s ++ [0, 1]) ++ r := by
  intro s r he
  unfold EscT at h
  have e : (escB s ++ [0, 1]) ++ r = escB s ++ 0 :: 1 :: r := by simp
  rw [h, e] at he
  obtain ⟨s', _, h2⟩ := esc_tail o s _ r he
  have at0 : ∀ k, l[j + k]? = (escB s' ++ 0 :: 1 :: r)[k]? := fun k => by rw [← h2, List.getElem?_drop]
  rcases s' with _ | ⟨c, s'⟩
  · have h3 : l[j]? = some 0 := by simpa [escB] using at0 0
    have h4 : l[j + 1]? = some 1 := by simpa [escB] using at0 1
    exact ((hn 0 h3).2 1 h4).1 rfl
  · by_cases hc : c = 0
    · have h3 : l[j]? = some 0 := by simpa [escB, hc] using at0 0
      have h4 : l[j + 1]? = some 255 := by simpa [escB, hc] using at0 1
      exact ((hn 0 h3).2 255 h4).2 rfl
    · have h3 : l[j]? = some c := by simpa [escB, hc] using at0 0
      exact hc (hn c h3).1
def numV (bs : List UInt8) : Int := bs.foldl (fun N b => bits .or .i64 (wrap64 (N * 256)) (b.toNat : Int)) 0
theorem numV_snoc (bs : List UInt8) (b : UInt8) : numV (bs ++ [b]) = bits .or .i64 (wrap64 (numV bs * 256)) (b.toNat : Int) := by unfold numV; rw [List.foldl_append]; rfl
theorem or_wrap (V : Nat) {b : Nat} (hb : b < 256) : bits .or .i64 (wrap64 (wrap64 (V : Int) * 256)) (b : Int) = wrap64 ((V * 256 + b : Nat) : Int) := by
  have eA : (BitVec.ofInt 64 (wrap64 (wrap64 (V : Int) * 256))).toNat = V % 72057594037927936 * 256 := by
    rw [BitVec.toNat_ofInt]
    unfold wrap64
    omega
  have eB : (BitVec.ofInt 64 (b : Int)).toNat = b := ofInt_u64 b (by omega)
  have e : (BitVec.ofInt 64 (wrap64 (wrap64 (V : Int) * 256)) ||| BitVec.ofInt 64 (b : Int)).toNat = V % 72057594037927936 * 256 + b := by
    rw [BitVec.toNat_or, eA, eB]
    exact nat_join 8 _ _ (by omega) (by omega)
  show IntKind.i64.wrap ((BitVec.ofInt 64 (wrap64 (wrap64 (V : Int) * 256)) ||| BitVec.ofInt 64 (b : Int)).toNat : Int) = _
  rw [e, IntKind.wrap_i64]
  unfold wrap64
  omega
theorem numV_beV (bs : List UInt8) : numV bs = wrap64 (beV bs : Int) := by
  suffices h : ∀ r : List UInt8, numV r.reverse = wrap64 (beV r.reverse : Int) by
    have := h bs.reverse
    rwa [List.reverse_reverse] at this
  intro r
  induction r with
  | nil => show (0 : Int) = wrap64 ((0 : Nat) : Int); unfold wrap64; omega
  | cons b r ih =>
    rw [List.reverse_cons, numV_snoc, ih, or_wrap _ b.toNat_lt, beV_snoc]
theorem beN_beV : ∀ (k : Nat) (bs : List UInt8), bs.length = k → beN k (beV bs) = bs
  | 0, bs, h => by rw [List.length_eq_zero_iff.1 h]; rfl
  | k + 1, bs, h => by
    have hne : bs ≠ [] := fun e => by rw [e] at h; cases h
    have hs := List.dropLast_concat_getLast hne
    rw [← hs, beV_snoc, beN, show (beV bs.dropLast * 256 + (bs.getLast hne).toNat) / 256 = beV bs.dropLast by have := (bs.getLast hne).toNat_lt; omega, show (beV bs.dropLast * 256 + (bs.getLast hne).toNat) % 256 = (bs.getLast hne).toNat by have := (bs.getLast hne).toNat_lt; omega, beN_beV k _ (by rw [List.length_dropLast, h]; rfl), UInt8.ofNat_toNat]
theorem beV_lt : ∀ (k : Nat) (bs : List UInt8), bs.length = k → beV bs < 256 ^ k
  | 0, bs, h => by rw [List.length_eq_zero_iff.1 h]; decide
  | k + 1, bs, h => by
    have hne : bs ≠ [] := fun e => by rw [e] at h; cases h
    have hs := List.dropLast_concat_getLast hne
    have ih := beV_lt k bs.dropLast (by rw [List.length_dropLast, h]; rfl)
    rw [← hs, beV_snoc, Nat.pow_succ]
    have := (bs.getLast hne).toNat_lt
    omega
theorem numV_one (b : UInt8) : numV [b] = (b.toNat : Int) := by
  rw [numV_beV]
  show wrap64 (((0 * 256 + b.toNat : Nat)) : Int) = _
  have := b.toNat_lt
  unfold wrap64
  omega
def VaIs (l : List UInt8) (i : Nat) (x : Va3) (next : Nat) : Prop := VaGood x.1 x.2.1 x.2.2 ∧ RdSays l i x next ∧ l.drop i = vaB x ++ l.drop next ∧ next ≤ l.length
def VaNo (l : List UInt8) (i : Nat) : Prop := ∀ y r, VaGood y.1 y.2.1 y.2.2 → ¬ l.drop i = vaB y ++ r
theorem VaNo.of {l : List UInt8} {i next : Nat} {x : Va3} (h : RdSays l i x next) (hb : ¬ VaGood x.1 x.2.1 x.2.2) : VaNo l i := fun y r hy he => hb (by rw [(h.2 y r hy he).1]; exact hy)
theorem one_len {l : List UInt8} {i : Nat} {b : UInt8} (h : l[i]? = some b) : i < l.length := (List.getElem?_eq_some_iff.1 h).1
theorem va_null {l : List UInt8} {i : Nat} (h : l[i]? = some 1) : VaIs l i (0, 0, ⟨#[]⟩) (i + 1) := by
  refine ⟨.inl ⟨rfl, rfl, rfl⟩, rd_null h, ?_, one_len h⟩
  rw [dropB h]
  rfl
theorem va_flag {l : List UInt8} {i : Nat} {b : UInt8} (h : l[i]? = some 2) (h1 : l[i + 1]? = some b) (hg : VaGood 1 (b.toNat : Int) ⟨#[]⟩) : VaIs l i (1, (b.toNat : Int), ⟨#[]⟩) (i + 2) := by
  refine ⟨hg, rd_flag h h1, ?_, one_len h1⟩
  rw [dropB h, dropB h1]
  show _ = [2, UInt8.ofNat ((b.toNat : Int)).toNat] ++ _
  rw [Int.toNat_natCast, UInt8.ofNat_toNat]
  rfl
theorem rd_int8 {l : List UInt8} {i : Nat} (h : l[i]? = some 3) : RdSays l i (2, wrap64 (numV ((l.drop (i + 1)).take 8) - 4611686018427387904), ⟨#[]⟩) (i + 9) := rd_int h fun m hm he => by
  rw [he, numV_beV, beV_be 8 m (by omega)]
  unfold wrap64
  omega
theorem va_int {l : List UInt8} {i : Nat} (h : l[i]? = some 3) (hle : i + 9 ≤ l.length) (hg : VaGood 2 (wrap64 (numV ((l.drop (i + 1)).take 8) - 4611686018427387904)) ⟨#[]⟩) : VaIs l i (2, wrap64 (numV ((l.drop (i + 1)).take 8) - 4611686018427387904), ⟨#[]⟩) (i + 9) := by
  refine ⟨hg, rd_int8 h, ?_, hle⟩
  have hl8 : ((l.drop (i + 1)).take 8).length = 8 := by rw [List.length_take, List.length_drop]; omega
  have hlt := beV_lt 8 _ hl8
  have hN : -1000000000000 ≤ wrap64 (numV ((l.drop (i + 1)).take 8) - 4611686018427387904) ∧ wrap64 (numV ((l.drop (i + 1)).take 8) - 4611686018427387904) ≤ 1000000000000 := by
    rcases hg with ⟨h1, _⟩ | ⟨h1, _⟩ | ⟨_, h1, _⟩ | ⟨h1, _⟩
    · omega
    · omega
    · exact h1
    · omega
  have hbe := beN_beV 8 _ hl8
  have e : (wrap64 (numV ((l.drop (i + 1)).take 8) - 4611686018427387904) + 4611686018427387904).toNat = beV ((l.drop (i + 1)).take 8) := by
    rw [numV_beV] at hN ⊢
    generalize beV ((l.drop (i + 1)).take 8) = q at hlt hN ⊢
    unfold wrap64 at hN ⊢
    omega
  show _ = 3 :: beN 8 _ ++ _
  rw [e, hbe, dropB h]
  show _ = 3 :: ((l.drop (i + 1)).take 8 ++ _)
  have h9 : l.drop (i + 9) = (l.drop (i + 1)).drop 8 := by rw [List.drop_drop]
  rw [h9, List.take_append_drop]
theorem va_text {l : List UInt8} {i j : Nat} {s : ByteArray} (h : l[i]? = some 4) (he : l.drop (i + 1) = (escB s.data.toList ++ [0, 1]) ++ l.drop j) (hj : i + 1 < j) (hle : j ≤ l.length) : RdSays l i (3, 0, s) j ∧ (VaGood 3 0 s → VaIs l i (3, 0, s) j) := by
  have hrd : RdSays l i (3, 0, s) j := rd_text h hj fun t r ht => by
    rw [he, show (escB s.data.toList ++ [0, 1]) ++ l.drop j = escB s.data.toList ++ 0 :: 1 :: l.drop j by simp, rdT_esc] at ht
    cases ht
    refine ⟨rfl, ?_⟩
    rw [List.length_drop]
    omega
  refine ⟨hrd, fun hg => ⟨hg, hrd, ?_, hle⟩⟩
  rw [dropB h, he]
  rfl
theorem no_text {l : List UInt8} {i : Nat} (h : l[i]? = some 4) (hn : ∀ s r, ¬ l.drop (i + 1) = (escB s ++ [0, 1]) ++ r) : VaNo l i := by
  rintro ⟨k, n, s⟩ r hy hd
  dsimp only at hy
  rcases hy with ⟨rfl, rfl, h2⟩ | ⟨rfl, h3, h2⟩ | ⟨rfl, h3, h2⟩ | ⟨rfl, rfl, h2⟩
  · exact absurd (head_eq (t := []) h hd).1 (by decide)
  · exact absurd (head_eq (t := [UInt8.ofNat n.toNat]) h hd).1 (by decide)
  · exact absurd (head_eq (t := beN 8 (n + 4611686018427387904).toNat) h hd).1 (by decide)
  · exact hn _ _ (head_eq (t := escB s.data.toList ++ [0, 1]) h hd).2
theorem no_flag {l : List UInt8} {i : Nat} (h : l[i]? = some 2) (h1 : ¬ i + 1 < l.length) : VaNo l i := by
  rintro ⟨k, n, s⟩ r hy hd
  have h2 := (rd_flag0 h h1 9).2 (k, n, s) r hy hd
  have h3 := congrArg (fun x : Va3 => x.2.1) h2.1
  have h4 := congrArg (fun x : Va3 => x.1) h2.1
  dsimp only at h3 h4 hy
  subst h3 h4
  rcases hy with ⟨h1, _⟩ | ⟨_, h1, _⟩ | ⟨h1, _⟩ | ⟨h1, _⟩ <;> omega
theorem no_int {l : List UInt8} {i : Nat} (h : l[i]? = some 3) (hs : l.length < i + 9) : VaNo l i := by
  rintro ⟨k, n, s⟩ r hy hd
  have h2 := (RdN.short 4611686018427387904 h hs).2 (k, n, s) r hy hd
  have h3 := congrArg (fun x : Va3 => x.2.1) h2.1
  have h4 := congrArg (fun x : Va3 => x.1) h2.1
  dsimp only at h3 h4 hy
  subst h3 h4
  rcases hy with ⟨h1, _⟩ | ⟨h1, _⟩ | ⟨_, h1, _⟩ | ⟨h1, _⟩ <;> omega
theorem no_none {l : List UInt8} {i : Nat} {c : UInt8} (h : l[i]? = some c) (hc : ¬ (1 ≤ c.toNat ∧ c.toNat ≤ 4)) : VaNo l i := VaNo.of (x := (7, 0, ⟨#[]⟩)) (next := i + 1) (rd_none _ h hc (Nat.lt_succ_self _)) (by rintro (⟨h1, _⟩ | ⟨h1, _⟩ | ⟨h1, _⟩ | ⟨h1, _⟩) <;> exact absurd h1 (by decide))
structure TupTo (l : List UInt8) (L : List Va3) (j : Nat) : Prop where
  rd : RdTup l L j
  good : ∀ x ∈ L, VaGood x.1 x.2.1 x.2.2
  byt : l = tupB L ++ l.drop j
  len : L.length ≤ 4
  le : j ≤ l.length
theorem TupTo.start (l : List UInt8) : TupTo l [] 0 := ⟨RdTup.start l, fun _ h => (by cases h), rfl, Nat.zero_le _, Nat.zero_le _⟩
theorem TupTo.next {l : List UInt8} {L : List Va3} {j next : Nat} {x : Va3} (h : TupTo l L j) (hj : j < l.length) (h4 : ¬ L.length = 4) (hx : VaIs l j x next) : TupTo l (L ++ [x]) next := by
  refine ⟨h.rd.next hj hx.2.1, fun y hy => ?_, ?_, ?_, hx.2.2.2⟩
  · rcases List.mem_append.1 hy with h1 | h1
    · exact h.good y h1
    · rw [List.mem_singleton.1 h1]; exact hx.1
  · rw [tupB_append, List.append_assoc]
    show l = tupB L ++ ((vaB x ++ []) ++ l.drop next)
    rw [List.append_nil, ← hx.2.2.1]
    exact h.byt
  · have := h.len
    rw [List.length_append]
    show _ + 1 ≤ 4
    omega
theorem TupTo.done {l : List UInt8} {L : List Va3} {j : Nat} (h : TupTo l L j) (hj : ¬ j < l.length) : TupIs l L := by
  refine ⟨⟨h.good, h.len⟩, ?_⟩
  have h1 := h.byt
  rw [List.drop_eq_nil_of_le (by omega), List.append_nil] at h1
  exact h1.symm
theorem TupTo.many {l : List UInt8} {L : List Va3} {j : Nat} (h : TupTo l L j) (hj : j < l.length) (h4 : L.length = 4) : ∀ M, ¬ TupIs l M := by
  intro M hM
  obtain ⟨S, hS, hle, hd⟩ := h.rd M hM
  have h1 := hM.1.2
  rw [hS, List.length_append] at h1
  have h2 : S = [] := List.length_eq_zero_iff.1 (by omega)
  have h3 : (l.drop j).length = 0 := by rw [hd, h2]; rfl
  rw [List.length_drop] at h3
  omega
theorem TupTo.no {l : List UInt8} {L : List Va3} {j : Nat} (h : TupTo l L j) (hj : j < l.length) (hn : VaNo l j) : ∀ M, ¬ TupIs l M := by
  intro M hM
  obtain ⟨S, hS, hle, hd⟩ := h.rd M hM
  rcases S with _ | ⟨y, S⟩
  · have h3 : (l.drop j).length = 0 := by rw [hd]; rfl
    rw [List.length_drop] at h3
    omega
  · exact hn y (tupB S) (hM.1.1 y (by rw [hS]; simp)) hd
theorem sub_wrap {n j : Nat} (hj : j ≤ n) (hn : n ≤ 2097152) : IntKind.i64.wrap ((n : Int) - (j : Int)) = (n : Int) - (j : Int) := by rw [IntKind.wrap_i64]; omega
theorem grownBy_setAt (w : World) (R i : Nat) (v : Value) : w.grownBy (w.setCell ⟨R, i, none⟩ v) (some R) := ⟨rfl, rfl, rfl, by simp [World.setCell], fun k _ hr => Below.heap_setCell _ _ _ _ (fun e => hr (by rw [e]))⟩
theorem grown_same (w : World) (row : Option Nat) : w.grownBy w row := ⟨rfl, rfl, rfl, Nat.le_refl _, fun _ _ _ => rfl⟩
theorem cut_short (w : World) (R : Nat) (a : Option Addr) (n c : Nat) (l : List UInt8) (j : Nat) (h : RdAt w R a n c l j) (m : Nat) (hm : n - j < m) :
    Calls Tryd.prog 56 #[.pointer (some ⟨R, 0, none⟩), .int .i64 (m : Int)] w fun e w' => e = .returned (.tuple #[.slice none 0 0, ErrV (n : Int)]) ∧ RdAt w' R a n c l j ∧ w.grownBy w' (some R) := by
  have H : Hid (RdAt w R a n c l j) := h
  obtain ⟨c0, c1, _, _⟩ := h.box.two
  obtain ⟨d0, d1, _, _⟩ := h.box.drew.two
  have hw := sub_wrap h.le h.bys.2.1
  have hd : decide ((n : Int) - (j : Int) < (m : Int)) = true := decide_eq_true (by have := h.le; omega)
  clear h
  go_enter Tryd.func56, Tryd.ntmps56
  go_upto_region 1 with (fail)
  go_region_held3 (fun w' => w'.cell? ⟨R, 0, none⟩ = some (.slice a n c) ∧ w'.cell? ⟨R, 1, none⟩ = some (.int .i64 (j : Int)))
    (first | (with_reducible exact ⟨c0, c1⟩) | go_keep)
    (fail)
  clear hw hd
  go_upto_region 2 with (fail)
  go_region_held3 (fun w' => w'.cell? ⟨R, 0, none⟩ = some (.slice a n c) ∧ w'.cell? ⟨R, 1, none⟩ = some (.int .i64 (j : Int)))
    (first | (with_reducible exact ⟨d0, d1⟩) | go_keep)
    (fail)
  go_wp2
  go_ret2
  exact ⟨rfl, H.out.turn (far_drew (far_drew (grown_same w _))) H.out.box.drew.drew H.out.le, far_drew (far_drew (grown_same w _))⟩
theorem cut_ok (w : World) (R : Nat) (b o : Nat) (n c : Nat) (l : List UInt8) (j : Nat) (h : RdAt w R (some ⟨b, o, none⟩) n c l j) (m : Nat) (hm : j + m ≤ n) (hm8 : m ≤ 8) (hm0 : 0 < m) :
    Calls Tryd.prog 56 #[.pointer (some ⟨R, 0, none⟩), .int .i64 (m : Int)] w fun e w' => e = .returned (.tuple #[.slice (some ⟨b, o + j, none⟩) m m, .nilIface]) ∧ RdAt w' R (some ⟨b, o, none⟩) n c l (j + m) ∧ w.grownBy w' (some R) := by
  have H : Hid (RdAt w R (some ⟨b, o, none⟩) n c l j) := h
  obtain ⟨c0, c1, f0, f1⟩ := h.box.two
  obtain ⟨d0, d1, g0, g1⟩ := h.box.drew.two
  have hn := h.bys.2.1
  have hcap := h.cap
  have hw := sub_wrap h.le hn
  have hd : decide ((n : Int) - (j : Int) < (m : Int)) = false := decide_eq_false (by omega)
  have hs : wrap64 ((j : Int) + (m : Int)) = (j : Int) + (m : Int) := by unfold wrap64; omega
  have hs0 : (0 : Int) ≤ (j : Int) + (m : Int) := by omega
  have hs1 : (j : Int) + (m : Int) ≤ (n : Int) := by omega
  have hcapi : (n : Int) ≤ (c : Int) := by omega
  have hji : (j : Int) ≤ (j : Int) + (m : Int) := by omega
  have hj0 : (0 : Int) ≤ (j : Int) := by omega
  have hsl : ∀ w : World, (Instr.slice 22 (.slice (some ⟨b, o, none⟩) n c) (some (.int .i64 (j : Int))) (some (.int .i64 ((j : Int) + (m : Int)))) (some (.int .i64 ((j : Int) + (m : Int))))).run Tryd.prog w = .ok (.slice (some ⟨b, o + j, none⟩) m m) w := fun w => by
    rw [run_slice_lhm w 22 (some ⟨b, o, none⟩) n c Tryd.underlying22 .i64 .i64 .i64 (j : Int) ((j : Int) + (m : Int)) ((j : Int) + (m : Int)) (by omega) (by omega) (Int.le_refl _) (by omega), show Tryd.prog.elem 22 = 5 from rfl, Tryd.sizeOf5 w]
    have e1 : ((j : Int) + (m : Int)).toNat = j + m := by omega
    have e2 : ¬ j + m = j := by omega
    simp only [Result.andThen, sliced, e1, Int.toNat_natCast, if_neg e2, Option.map_some, Nat.mul_one, add_plain, Nat.add_sub_cancel_left]
  obtain ⟨W, hW⟩ : ∃ W, w.setCell ⟨R, 1, none⟩ (.int .i64 ((j : Int) + (m : Int))) = W := ⟨_, rfl⟩
  have XW : Hid (Box W R #[.slice (some ⟨b, o, none⟩) n c, .int .i64 ((j : Int) + (m : Int))] 65) := by rw [← hW]; exact h.box.put 1 _
  have HGW : Hid (w.grownBy W (some R)) := by rw [← hW]; exact grownBy_setAt _ _ _ _
  have HW : Hid (w.setCell ⟨R, 1, none⟩ (.int .i64 ((j : Int) + (m : Int))) = W) := hW
  obtain ⟨k0, k1, _, _⟩ := XW.out.drew.two
  clear h hW
  go_enter Tryd.func56, Tryd.ntmps56
  go_upto_region 1 with (fail)
  go_region_held3 (fun w' => w'.cell? ⟨R, 0, none⟩ = some (.slice (some ⟨b, o, none⟩) n c) ∧ w'.cell? ⟨R, 1, none⟩ = some (.int .i64 (j : Int)))
    (first | (with_reducible exact ⟨c0, c1⟩) | go_keep)
    (fail)
  clear hw hd
  go_upto_region 5 with (fail)
  rw [HW.out]
  clear hs hn hcap
  go_region_held3 (fun w' => w'.cell? ⟨R, 0, none⟩ = some (.slice (some ⟨b, o, none⟩) n c) ∧ w'.cell? ⟨R, 1, none⟩ = some (.int .i64 (j + m : Int)))
    (first | (with_reducible exact ⟨k0, k1⟩) | go_keep)
    (fail)
  go_wp2
  go_ret2
  exact ⟨rfl, H.out.turn (far_drew (far_drew HGW.out)) (by have := XW.out.drew.drew; push_cast; exact this) hm, far_drew (far_drew HGW.out)⟩
theorem number_short (w : World) (R : Nat) (a : Option Addr) (n c : Nat) (l : List UInt8) (j : Nat) (h : RdAt w R a n c l j) (m : Nat) (hm : n - j < m) :
    Calls Tryd.prog 46 #[.pointer (some ⟨R, 0, none⟩), .int .i64 (m : Int)] w fun e w' => e = .returned (.tuple #[.int .i64 0, ErrV (n : Int)]) ∧ RdAt w' R a n c l j ∧ w.grownBy w' (some R) := by
  have H : Hid (RdAt w R a n c l j) := h
  clear h
  go_enter Tryd.func46, Tryd.ntmps46
  go_wp2_with fail
  refine (cut_short w R a n c l j H.out m hm).mono ?_
  rintro e w1 ⟨rfl, h1, h2⟩
  have H1 : Hid (RdAt w1 R a n c l j ∧ w.grownBy w1 (some R)) := ⟨h1, h2⟩
  clear h1 h2
  go_wp2
  go_loopw [8, 19] (fun v i wr => v = .int .i64 0 ∧ i = .int .i64 0 ∧ wr = w1) (fun _ _ _ => 0)
  case atStart => exact ⟨rfl, rfl, rfl⟩
  case round =>
    obtain ⟨rfl, rfl, rfl⟩ := hrel
    go_wp2
    go_ret2
    exact ⟨rfl, H1.out⟩
theorem number_ok (w : World) (R : Nat) (a : Option Addr) (n c : Nat) (l : List UInt8) (j : Nat) (h : RdAt w R a n c l j) (m : Nat) (hm : j + m ≤ n) (hm8 : m ≤ 8) (hm0 : 0 < m) :
    Calls Tryd.prog 46 #[.pointer (some ⟨R, 0, none⟩), .int .i64 (m : Int)] w fun e w' => e = .returned (.tuple #[.int .i64 (numV ((l.drop j).take m)), .nilIface]) ∧ RdAt w' R a n c l (j + m) ∧ w.grownBy w' (some R) := by
  have H : Hid (RdAt w R a n c l j) := h
  obtain ⟨hlen, _, h0 | ⟨b, o, rfl, _⟩⟩ := h.bys
  · omega
  clear h
  go_enter Tryd.func46, Tryd.ntmps46
  go_wp2_with fail
  refine (cut_ok w R b o n c l j H.out m hm hm8 hm0).mono ?_
  rintro e w1 ⟨rfl, h1, h2⟩
  have HBY : Hid (BysAt w1 (some ⟨b, o, none⟩) n l) := h1.bys
  have H1 : Hid (RdAt w1 R (some ⟨b, o, none⟩) n c l (j + m) ∧ w.grownBy w1 (some R)) := ⟨h1, h2⟩
  clear h1 h2
  go_wp2
  go_loopw [8, 19] (fun v i wr => ∃ k : Nat, k ≤ m ∧ i = .int .i64 (k : Int) ∧ v = .int .i64 (numV ((l.drop j).take k)) ∧ wr = w1) (fun _ i _ => m - (RowKit.intOf i).toNat)
  case atStart => exact ⟨0, Nat.zero_le _, rfl, rfl, rfl⟩
  case round =>
    obtain ⟨k, hk, rfl, rfl, rfl⟩ := hrel
    by_cases hlt : k < m
    · obtain ⟨x, hx⟩ : ∃ x, l[j + k]? = some x := ⟨_, List.getElem?_eq_getElem (by omega)⟩
      rcases HBY.out.2.2 with h0 | ⟨b', o', e', hc⟩
      · omega
      cases e'
      have c0 := hc _ _ hx
      rw [← Nat.add_assoc] at c0
      have HN : Hid (bits .or .i64 (wrap64 (numV ((l.drop j).take k) * 256)) (x.toNat : Int) = numV ((l.drop j).take (k + 1))) := by
        show _ = _
        have h2 : (l.drop j)[k]? = some x := by rw [List.getElem?_drop, hx]
        have h3 : k < (l.drop j).length := (List.getElem?_eq_some_iff.1 h2).1
        rw [List.take_succ_eq_append_getElem h3, (List.getElem?_eq_some_iff.1 h2).2, numV_snoc]
      obtain ⟨N, hN⟩ : ∃ N, numV ((l.drop j).take k) = N := ⟨_, rfl⟩
      rw [hN] at HN ⊢
      have hk0 : (0 : Int) ≤ (k : Int) := by omega
      have hk1 : (k : Int) < (m : Int) := by omega
      have hx0 : (0 : Int) ≤ (x.toNat : Int) := by omega
      have hx1 : (x.toNat : Int) < 256 := by have := x.toNat_lt; omega
      clear hc hx hN
      go_wp2
      (try rw [HN.out])
      go_roundw
      case rel => exact ⟨k + 1, by omega, by go_num, rfl, trivial⟩
      case measure => simp [RowKit.intOf]; omega
    · obtain rfl : m = k := by omega
      go_wp2
      go_ret2
      exact ⟨rfl, H1.out⟩
end
end Go.Proofs.YtgibeakclknhnabDoor
namespace Go.Proofs
open Go.Shelf
def Tryd.lays169_ren : Go.Shelf.Ren := ⟨fun | 169 => 44 | n => n, fun | 70 => 82 | 9 => 9 | 0 => 0 | 72 => 84 | 37 => 22 | 127 => 109 | 3 => 3 | 5 => 5 | n => n, fun | n => n⟩
theorem Tryd.lays169 : Go.Proofs.Lays.n169 Tryd.prog Tryd.lays169_ren := {
  mixed := by kernel_rfl
  f169 := Tryd.func44.trans (congrArg some (by kernel_rfl))
  t0 := Tryd.underlying0
  a0 := Tryd.isAgg0
  z0 := Tryd.sizeOf0
  v0 := Tryd.zeroValue0
  t3 := Tryd.underlying3
  a3 := Tryd.isAgg3
  z3 := Tryd.sizeOf3
  v3 := Tryd.zeroValue3
  t9 := Tryd.underlying9
  a9 := Tryd.isAgg9
  z9 := Tryd.sizeOf9
  v9 := Tryd.zeroValue9
  t37 := Tryd.underlying22
  a37 := Tryd.isAgg22
  z37 := Tryd.sizeOf22
  v37 := Tryd.zeroValue22
  t70 := Tryd.underlying82
  a70 := Tryd.isAgg82
  z70 := Tryd.sizeOf82
  v70 := Tryd.zeroValue82
  t72 := Tryd.underlying84
  a72 := Tryd.isAgg84
  z72 := Tryd.sizeOf84
  v72 := Tryd.zeroValue84
  t127 := Tryd.underlying109
  a127 := Tryd.isAgg109
  z127 := Tryd.sizeOf109
  v127 := Tryd.zeroValue109 }
theorem Tryd.Builder_Extra_169 : Builder.Extra Tryd.prog Tryd.lays169_ren := {
  sizeBuilder := by kernel_rfl
  liesBuilder := by kernel_rfl
  t5 := Tryd.underlying5
  a5 := Tryd.isAgg5
  z5 := Tryd.sizeOf5
  v5 := Tryd.zeroValue5
  infoByte := by kernel_rfl
  cellsByte := by kernel_rfl
  sizeByte := by kernel_rfl
  neB5 := by decide }
open Go.RowKit in
theorem Tryd.Builder_String_any (B b : Nat) (l : List UInt8) (w : World) (h : Lib.IsBuilder 84 5 B b (Lib.byteCells l) w) (hBw : B ≤ w.heap.size) :
    Calls Tryd.prog 44 #[.pointer (some ⟨b, 0, none⟩)] w fun e w' => e = .returned (.string ⟨l.toArray⟩) ∧ Below B w w' := Any.Builder_String_any Tryd.lays169 Tryd.Builder_Extra_169 B b l w h hBw
def Tryd.lays156_ren : Go.Shelf.Ren := ⟨fun | 156 => 28 | 165 => 42 | 166 => 43 | 169 => 44 | 240 => 54 | 241 => 55 | 276 => 58 | 277 => 59 | n => n, fun | 31 => 57 | 9 => 9 | 3 => 3 | 4 => 4 | 0 => 0 | 20 => 20 | 72 => 84 | 76 => 86 | 70 => 82 | 37 => 22 | 75 => 44 | 127 => 109 | 164 => 68 | 5 => 5 | 80 => 88 | n => n, fun | n => n⟩
theorem Tryd.lays156 : Go.Proofs.Lays.n156 Tryd.prog Tryd.lays156_ren := {
  mixed := by kernel_rfl
  f156 := Tryd.func28.trans (congrArg some (by kernel_rfl))
  f165 := Tryd.func42.trans (congrArg some (by kernel_rfl))
  f166 := Tryd.func43.trans (congrArg some (by kernel_rfl))
  f169 := Tryd.func44.trans (congrArg some (by kernel_rfl))
  f240 := Tryd.func54.trans (congrArg some (by kernel_rfl))
  f241 := Tryd.func55.trans (congrArg some (by kernel_rfl))
  f276 := Tryd.func58.trans (congrArg some (by kernel_rfl))
  f277 := Tryd.func59.trans (congrArg some (by kernel_rfl))
  t0 := Tryd.underlying0
  a0 := Tryd.isAgg0
  z0 := Tryd.sizeOf0
  v0 := Tryd.zeroValue0
  t3 := Tryd.underlying3
  a3 := Tryd.isAgg3
  z3 := Tryd.sizeOf3
  v3 := Tryd.zeroValue3
  t4 := Tryd.underlying4
  a4 := Tryd.isAgg4
  z4 := Tryd.sizeOf4
  v4 := Tryd.zeroValue4
  t9 := Tryd.underlying9
  a9 := Tryd.isAgg9
  z9 := Tryd.sizeOf9
  v9 := Tryd.zeroValue9
  t20 := Tryd.underlying20
  a20 := Tryd.isAgg20
  z20 := Tryd.sizeOf20
  v20 := Tryd.zeroValue20
  t31 := Tryd.underlying57
  a31 := Tryd.isAgg57
  z31 := Tryd.sizeOf57
  v31 := Tryd.zeroValue57
  t37 := Tryd.underlying22
  a37 := Tryd.isAgg22
  z37 := Tryd.sizeOf22
  v37 := Tryd.zeroValue22
  t70 := Tryd.underlying82
  a70 := Tryd.isAgg82
  z70 := Tryd.sizeOf82
  v70 := Tryd.zeroValue82
  t72 := Tryd.underlying84
  a72 := Tryd.isAgg84
  z72 := Tryd.sizeOf84
  v72 := Tryd.zeroValue84
  t75 := Tryd.underlying44
  a75 := Tryd.isAgg44
  z75 := Tryd.sizeOf44
  v75 := Tryd.zeroValue44
  t76 := Tryd.underlying86
  a76 := Tryd.isAgg86
  z76 := Tryd.sizeOf86
  v76 := Tryd.zeroValue86
  t127 := Tryd.underlying109
  a127 := Tryd.isAgg109
  z127 := Tryd.sizeOf109
  v127 := Tryd.zeroValue109
  t164 := Tryd.underlying68
  a164 := Tryd.isAgg68
  z164 := Tryd.sizeOf68
  v164 := Tryd.zeroValue68 }
theorem Tryd.Builder_Extra_156 : Builder.Extra Tryd.prog Tryd.lays156_ren := {
  sizeBuilder := by kernel_rfl
  liesBuilder := by kernel_rfl
  t5 := Tryd.underlying5
  a5 := Tryd.isAgg5
  z5 := Tryd.sizeOf5
  v5 := Tryd.zeroValue5
  infoByte := by kernel_rfl
  cellsByte := by kernel_rfl
  sizeByte := by kernel_rfl
  neB5 := by decide }
open Go.RowKit in
theorem Tryd.strings_Join (bk o c : Nat) (xs : List ByteArray) (sep : ByteArray) (w : World) (hcells : ∀ (j : Nat) x, xs[j]? = some x → w.cell? ⟨bk, o + j, none⟩ = some (.string x)) (hbk : bk < w.heap.size) (hN : xs.length ≤ 140737488355328) (hcap : xs.length ≤ c) (hlen : (Lib.join (xs.map (·.data.toList)) sep.data.toList).length ≤ 140737488355328) :
    Calls Tryd.prog 28 #[.slice (some ⟨bk, o, none⟩) xs.length c, .string sep] w fun e w' => e = .returned (.string ⟨(Lib.join (xs.map (·.data.toList)) sep.data.toList).toArray⟩) ∧ Below w.heap.size w w' := Any.strings_Join Tryd.lays156 Tryd.Builder_Extra_156 bk o c xs sep w hcells hbk hN hcap hlen
def Tryd.laysM171_ren : Go.Shelf.Ren := ⟨fun | 171 => 52 | 243 => 57 | 246 => 60 | 283 => 61 | 284 => 62 | 285 => 63 | 286 => 64 | 129 => 66 | 317 => 65 | 318 => 67 | 319 => 68 | 320 => 69 | 337 => 70 | 338 => 71 | n => n, fun | 3 => 3 | 9 => 9 | 2 => 2 | 4 => 4 | 171 => 115 | 0 => 0 | 53 => 116 | 37 => 22 | 5 => 5 | 173 => 119 | 212 => 123 | 51 => 124 | 20 => 20 | 213 => 125 | 46 => 59 | 232 => 129 | 233 => 130 | n => n, fun | 17 => 2 | 18 => 3 | 19 => 4 | n => n⟩
theorem Tryd.laysM171 : Go.Proofs.LaysM.n171 Tryd.prog Tryd.laysM171_ren := {
  mixed := by kernel_rfl
  f129 := Tryd.func66.trans (congrArg some (by kernel_rfl))
  f171 := Tryd.func52.trans (congrArg some (by kernel_rfl))
  f243 := Tryd.func57.trans (congrArg some (by kernel_rfl))
  f246 := Tryd.func60.trans (congrArg some (by kernel_rfl))
  f283 := Tryd.func61.trans (congrArg some (by kernel_rfl))
  f284 := Tryd.func62.trans (congrArg some (by kernel_rfl))
  f285 := Tryd.func63.trans (congrArg some (by kernel_rfl))
  f286 := Tryd.func64.trans (congrArg some (by kernel_rfl))
  f317 := Tryd.func65.trans (congrArg some (by kernel_rfl))
  f318 := Tryd.func67.trans (congrArg some (by kernel_rfl))
  f319 := Tryd.func68.trans (congrArg some (by kernel_rfl))
  f320 := Tryd.func69.trans (congrArg some (by kernel_rfl))
  f337 := Tryd.func70.trans (congrArg some (by kernel_rfl))
  f338 := Tryd.func71.trans (congrArg some (by kernel_rfl))
  t0 := Tryd.underlying0
  a0 := Tryd.isAgg0
  z0 := Tryd.sizeOf0
  v0 := Tryd.zeroValue0
  t2 := Tryd.underlying2
  a2 := Tryd.isAgg2
  z2 := Tryd.sizeOf2
  v2 := Tryd.zeroValue2
  t3 := Tryd.underlying3
  a3 := Tryd.isAgg3
  z3 := Tryd.sizeOf3
  v3 := Tryd.zeroValue3
  t4 := Tryd.underlying4
  a4 := Tryd.isAgg4
  z4 := Tryd.sizeOf4
  v4 := Tryd.zeroValue4
  t5 := Tryd.underlying5
  a5 := Tryd.isAgg5
  z5 := Tryd.sizeOf5
  v5 := Tryd.zeroValue5
  t9 := Tryd.underlying9
  a9 := Tryd.isAgg9
  z9 := Tryd.sizeOf9
  v9 := Tryd.zeroValue9
  t20 := Tryd.underlying20
  a20 := Tryd.isAgg20
  z20 := Tryd.sizeOf20
  v20 := Tryd.zeroValue20
  t37 := Tryd.underlying22
  a37 := Tryd.isAgg22
  z37 := Tryd.sizeOf22
  v37 := Tryd.zeroValue22
  t46 := Tryd.underlying59
  a46 := Tryd.isAgg59
  z46 := Tryd.sizeOf59
  v46 := Tryd.zeroValue59
  t51 := Tryd.underlying124
  a51 := Tryd.isAgg124
  z51 := Tryd.sizeOf124
  v51 := Tryd.zeroValue124
  t53 := Tryd.underlying116
  a53 := Tryd.isAgg116
  z53 := Tryd.sizeOf116
  v53 := Tryd.zeroValue116
  t171 := Tryd.underlying115
  a171 := Tryd.isAgg115
  z171 := Tryd.sizeOf115
  v171 := Tryd.zeroValue115
  t173 := Tryd.underlying119
  a173 := Tryd.isAgg119
  z173 := Tryd.sizeOf119
  v173 := Tryd.zeroValue119
  t212 := Tryd.underlying123
  a212 := Tryd.isAgg123
  z212 := Tryd.sizeOf123
  v212 := Tryd.zeroValue123
  t213 := Tryd.underlying125
  a213 := Tryd.isAgg125
  z213 := Tryd.sizeOf125
  t232 := Tryd.underlying129
  a232 := Tryd.isAgg129
  z232 := Tryd.sizeOf129
  v232 := Tryd.zeroValue129
  t233 := Tryd.underlying130
  a233 := Tryd.isAgg130
  z233 := Tryd.sizeOf130
  v233 := Tryd.zeroValue130
  g17 := by kernel_rfl
  g18 := by kernel_rfl
  g19 := by kernel_rfl
  i0 := by kernel_rfl
  i2 := by kernel_rfl
  i3 := by kernel_rfl
  i4 := by kernel_rfl
  i5 := by kernel_rfl
  i9 := by kernel_rfl
  i20 := by kernel_rfl
  i37 := by kernel_rfl
  i46 := by kernel_rfl
  i51 := by kernel_rfl
  i53 := by kernel_rfl
  i171 := by kernel_rfl
  i173 := by kernel_rfl
  i212 := by kernel_rfl
  i232 := by kernel_rfl
  i233 := by kernel_rfl
  m17 := by kernel_rfl
  m18 := by kernel_rfl
  m19 := by kernel_rfl }
open Go.RowKit Go.Sort Go.Lib in
theorem Tryd.strconv_Itoa (n : Int) (h0 : -9223372036854775808 ≤ n) (h1 : n ≤ 9223372036854775807) (w : World) (htab : Lib.TabIs Tryd.prog w "internal/strconv.uint64pow10" .u64 Lib.pow10Tab) :
    Calls Tryd.prog 52 #[.int .i64 n] w fun e w' => e = .returned (.string ⟨(Lib.itoa n).toArray⟩) ∧ ∃ k os, w' = grow (w.drewN k) os := Any.strconv_Itoa Tryd.laysM171 n h0 h1 w htab
end Go.Proofs
namespace Go.Proofs
open Go.Shelf Go.RowKit

def Tryd.lays167_ren : Go.Shelf.Ren := ⟨fun | 167 => 53 | 240 => 54 | 276 => 58 | n => n, fun | 0 => 0 | 4 => 4 | 5 => 5 | 9 => 9 | 20 => 20 | 37 => 22 | 70 => 82 | 72 => 84 | 75 => 44 | 80 => 88 | 164 => 68 | n => n, fun | n => n⟩
theorem Tryd.lays167 : Go.Proofs.Lays.n167 Tryd.prog Tryd.lays167_ren := {
  mixed := by kernel_rfl
  f167 := Tryd.func53.trans (congrArg some (by kernel_rfl))
  f240 := Tryd.func54.trans (congrArg some (by kernel_rfl))
  f276 := Tryd.func58.trans (congrArg some (by kernel_rfl))
  t0 := Tryd.underlying0
  a0 := Tryd.isAgg0
  z0 := Tryd.sizeOf0
  v0 := Tryd.zeroValue0
  t4 := Tryd.underlying4
  a4 := Tryd.isAgg4
  z4 := Tryd.sizeOf4
  v4 := Tryd.zeroValue4
  t5 := Tryd.underlying5
  a5 := Tryd.isAgg5
  z5 := Tryd.sizeOf5
  v5 := Tryd.zeroValue5
  t9 := Tryd.underlying9
  a9 := Tryd.isAgg9
  z9 := Tryd.sizeOf9
  v9 := Tryd.zeroValue9
  t20 := Tryd.underlying20
  a20 := Tryd.isAgg20
  z20 := Tryd.sizeOf20
  v20 := Tryd.zeroValue20
  t37 := Tryd.underlying22
  a37 := Tryd.isAgg22
  z37 := Tryd.sizeOf22
  v37 := Tryd.zeroValue22
  t70 := Tryd.underlying82
  a70 := Tryd.isAgg82
  z70 := Tryd.sizeOf82
  v70 := Tryd.zeroValue82
  t72 := Tryd.underlying84
  a72 := Tryd.isAgg84
  z72 := Tryd.sizeOf84
  v72 := Tryd.zeroValue84
  t75 := Tryd.underlying44
  a75 := Tryd.isAgg44
  z75 := Tryd.sizeOf44
  v75 := Tryd.zeroValue44
  t164 := Tryd.underlying68
  a164 := Tryd.isAgg68
  z164 := Tryd.sizeOf68
  v164 := Tryd.zeroValue68 }
theorem Tryd.Builder_Extra_167 : Builder.Extra Tryd.prog Tryd.lays167_ren := {
  sizeBuilder := by kernel_rfl
  liesBuilder := by kernel_rfl
  t5 := Tryd.underlying5
  a5 := Tryd.isAgg5
  z5 := Tryd.sizeOf5
  v5 := Tryd.zeroValue5
  infoByte := by kernel_rfl
  cellsByte := by kernel_rfl
  sizeByte := by kernel_rfl
  neB5 := by decide }
theorem Tryd.Builder_WriteByte (B b : Nat) (bs : List Value) (c : Int) (w : World) (h : Lib.IsBuilder 84 5 B b bs w) (hlen : bs.length + 1 ≤ 140737488355328) (hBw : B ≤ w.heap.size) :
    Calls Tryd.prog 53 #[.pointer (some ⟨b, 0, none⟩), .int .u8 c] w fun e w' => e = .returned .nilIface ∧ (Lib.BuilderAt 84 5 B b (.pointer (some ⟨b, 0, none⟩)) (bs ++ [.int .u8 c]) w' ∧ Below B w w') :=
  Any.Builder_WriteByte Tryd.lays167 Tryd.Builder_Extra_167 B b bs c w h hlen hBw
end Go.Proofs
