/- Texts joined: LawTuC. -/
import Derived.Test.YtgibeakclknhnaaDoorRows
import Derived.Test.YtgibeakclknhnaaDoorTie
import Derived.Test.YtgibeakclknhnaaDoorCards
import Derived.Test.YtgibeakclknhnaaDoorTU01
import Derived.Test.YtgibeakclknhnaaDoorTU05
import Derived.Test.YtgibeakclknhnaaDoorTU04
import Derived.Test.YtgibeakclknhnaaDoorTU07
import Derived.Test.YtgibeakclknhnaaDoorTU08
import Derived.WalkKit
import Derived.ProofKit
import Derived.OpenShut
import Derived.ChangeOld
import Derived.Below
import Derived.LaidMore
import Derived.Stop.Joined
import Derived.Stop.LaidErr
import Derived.Lib.LaidTab
import Derived.Lib.SmallJoins
import Derived.MakeChecks
import Derived.SevenTiedAt
import Derived.Deep.RegionHeld3
import Derived.Deep.Cut
set_option maxHeartbeats 16000000
set_option maxRecDepth 100000
namespace Go.Proofs.YtgibeakclknhnaaDoor
open Go.ChangeShapes Go.WideShapes Go.ChangeAt Go.RowKit Go.Joins
open Go.Lib (byteCells byteCells_length byteCells_append)

namespace fnTuples
theorem own : ownKnob Tryd.prog.godebug = none := by kernel_rfl
theorem laidOut : laidOutB Tryd.prog = true := by kernel_rfl
def AskOk : Prop := ∀ (a : Option Addr) (n c : Nat) (L : List Va3) (w : World), VasAt w a n L → n ≤ c → Calls Tryd.prog 14 #[.slice a n c] w fun e w' => e = .returned (.bool (decide (TupGood L))) ∧ Below w.heap.size w w'
def AskB : Prop := ∀ (a : Option Addr) (n c : Nat) (L : List Va3) (w : World), VasAt w a n L → n ≤ c → Calls Tryd.prog 6 #[.slice a n c] w fun e w' => VbSays w (tupBytes L) e w'
def AskO : Prop := ∀ (a : Option Addr) (n c : Nat) (l : List UInt8) (w : World), ErrT w → BysAt w a n l → n ≤ c → Calls Tryd.prog 8 #[.slice a n c] w fun e w' => TupAns l w e w' ∧ Below w.heap.size w w'
def AskT : Prop := ∀ (a : Option Addr) (n c : Nat) (L : List Va3) (w : World), PowT w → VasAt w a n L → n ≤ c → Calls Tryd.prog 16 #[.slice a n c] w fun e w' => TextSays e (txtsB L) ∧ Below w.heap.size w w'
theorem okT_is {b : List UInt8} (h : okT b = true) : TupIs b (lstT b) := by
  unfold okT at h
  have he : ∃ L, TupIs b L := @of_decide_eq_true _ (Classical.propDecidable _) h
  obtain ⟨L, hL⟩ := he
  rw [(lstT_is hL).2]
  exact hL
theorem grown_at {w w' : World} (h : Below w.heap.size w w') : Below w.heap.size w w' := h
theorem chain2 {a b c : World} (h1 : Below a.heap.size a b) (h2 : Below b.heap.size b c) : Below a.heap.size a c := h1.trans (h2.mono h1.size)
theorem chain3 {a b c d : World} (h1 : Below a.heap.size a b) (h2 : Below b.heap.size b c) (h3 : Below c.heap.size c d) : Below a.heap.size a d := chain2 (chain2 h1 h2) h3
theorem chain4' {a b c d e : World} (h1 : Below a.heap.size a b) (h2 : Below b.heap.size b c) (h3 : Below c.heap.size c d) (h4 : Below d.heap.size d e) : Below a.heap.size a e := chain2 (chain3 h1 h2 h3) h4
theorem chain5 {a b c d e f : World} (h1 : Below a.heap.size a b) (h2 : Below b.heap.size b c) (h3 : Below c.heap.size c d) (h4 : Below d.heap.size d e) (h5 : Below e.heap.size e f) : Below a.heap.size a f := chain2 (chain4' h1 h2 h3 h4) h5
theorem chain6 {a b c d e f g : World} (h1 : Below a.heap.size a b) (h2 : Below b.heap.size b c) (h3 : Below c.heap.size c d) (h4 : Below d.heap.size d e) (h5 : Below e.heap.size e f) (h6 : Below f.heap.size f g) : Below a.heap.size a g := chain2 (chain5 h1 h2 h3 h4 h5) h6
theorem chainT {a b c d e f g h : World} (h1 : Below a.heap.size a b) (h2 : Below b.heap.size b c) (h3 : Below c.heap.size c d) (h4 : Below d.heap.size d e) (h5 : Below e.heap.size e f) (h6 : Below f.heap.size f g) (h7 : Below g.heap.size g h) : Below a.heap.size a h := chain2 (chain6 h1 h2 h3 h4 h5 h6) h7
def lenOf : Value → Nat
  | .slice _ n _ => n
  | _ => 0
theorem tuples_walk (a : Option Addr) (n c : Nat) (w : World) (hB : BytesAt w w.heap.size a n) (hT : PowT w) (hEE : ErrT w) (iOk : AskOk) (iB : AskB) (iO : AskO) (iT : AskT) :
    Calls Tryd.prog 3 #[.slice a n c] w fun e w' => e = .returned (.bool true) ∧ Below w.heap.size w w' := by
  have HB : Hid (BytesAt w w.heap.size a n) := hB
  have HT : Hid (PowT w) := hT
  have HEE : Hid (ErrT w) := hEE
  have IOk : Hid (∀ (a : Option Addr) (n c : Nat) (L : List Va3) (w : World), VasAt w a n L → n ≤ c → Calls Tryd.prog 14 #[.slice a n c] w fun e w' => e = .returned (.bool (decide (TupGood L))) ∧ Below w.heap.size w w') := iOk
  have IB : Hid (∀ (a : Option Addr) (n c : Nat) (L : List Va3) (w : World), VasAt w a n L → n ≤ c → Calls Tryd.prog 6 #[.slice a n c] w fun e w' => VbSays w (tupBytes L) e w') := iB
  have IO : Hid (∀ (a : Option Addr) (n c : Nat) (l : List UInt8) (w : World), ErrT w → BysAt w a n l → n ≤ c → Calls Tryd.prog 8 #[.slice a n c] w fun e w' => TupAns l w e w' ∧ Below w.heap.size w w') := iO
  have IT : Hid (∀ (a : Option Addr) (n c : Nat) (L : List Va3) (w : World), PowT w → VasAt w a n L → n ≤ c → Calls Tryd.prog 16 #[.slice a n c] w fun e w' => TextSays e (txtsB L) ∧ Below w.heap.size w w') := iT
  clear hB hT hEE iOk iB iO iT
  by_cases hbig : 1048576 < n
  · go_enter Tryd.func3, Tryd.ntmps3
    go_wp2_with fail
    refine (bigI a n c w).mono ?_
    rintro e w0 ⟨rfl, hw⟩
    rw [hw, decide_eq_true hbig]
    go_wp2
    go_ret
    exact ⟨rfl, Below.refl _ _⟩
  have hn : n ≤ 1048576 := by omega
  go_enter Tryd.func3, Tryd.ntmps3
  go_wp2_with fail
  refine (bigI a n c w).mono ?_
  rintro e w0 ⟨rfl, hw⟩
  rw [hw, decide_eq_false hbig]
  clear hw hbig
  go_wp2_with fail
  refine (drawTupleBytes_any a n c _ hn HB.out).mono ?_
  rintro e w1 ⟨⟨v1, L, rfl, o1, l1⟩, hb⟩
  have B1 : Hid (Below w.heap.size w w1) := hb
  obtain ⟨a1, c1, rfl, hc1, hv1⟩ := own_vas o1 (by omega)
  have V1 : Hid (VasAt w1 a1 L.length L) := hv1
  have HC1 : Hid (L.length ≤ c1) := hc1
  clear hb o1 hv1 hc1 l1
  go_wp2_with fail
  refine (IB.out a1 L.length c1 L _ V1.out HC1.out).mono ?_
  rintro e w2 ⟨v4, rfl, ho, hb⟩
  have O4 : Hid (BOwn w2 w1.heap.size v4 (tupBytes L)) := ho
  have T2 : Hid (Below w1.heap.size w1 w2) := hb
  have B2 : Hid (Below w.heap.size w w2) := B1.out.trans (hb.mono B1.out.size)
  clear ho hb
  go_wp2_with fail
  refine (drawTupleOf_any a n c _ hn (bytes_nowV HB.out B2.out)).mono ?_
  rintro e w3 ⟨⟨ax, mx, dx, l, rfl, hx, hxd, hxl⟩, hb⟩
  obtain rfl : l.length = mx := hx.1
  have X3 : Hid (BysAt w3 ax l.length l) := hx
  have HXD : Hid (l.length ≤ dx) := hxd
  have T3 : Hid (Below w2.heap.size w2 w3) := hb
  have B3 : Hid (Below w.heap.size w w3) := B2.out.trans (hb.mono B2.out.size)
  clear hx hxd hxl hb
  obtain ⟨ok, hok⟩ : ∃ ok, okT l = ok := ⟨_, rfl⟩
  obtain ⟨T, hT⟩ : ∃ T, lstT l = T := ⟨_, rfl⟩
  have HOK : Hid (okT l = ok) := hok
  have HTT : Hid (lstT l = T) := hT
  have HT4 : Hid (T.length ≤ 4) := by show _ ≤ _; rw [← hT]; exact lstT_le l
  have nb : (ok != ok) = false := by cases ok <;> rfl
  clear hok hT
  go_wp2_with fail
  refine (IO.out ax l.length dx l _ (HEE.out.below B3.out (Nat.le_refl _)) X3.out HXD.out).mono ?_
  rintro e w4 ⟨ht, hb⟩
  obtain ⟨v6, rfl, ho⟩ := ht.one
  rw [HTT.out] at ho
  rw [HOK.out]
  obtain ⟨ya, yc, rfl, hyc, hy⟩ := own_vas ho (by have := HT4.out; omega)
  have Y4 : Hid (VasAt w4 ya T.length T) := hy
  have HYC : Hid (T.length ≤ yc) := hyc
  have T4 : Hid (Below w3.heap.size w3 w4) := hb
  have B4 : Hid (Below w.heap.size w w4) := B3.out.trans (hb.mono B3.out.size)
  clear ht ho hy hyc hb
  go_wp2_with fail
  refine (specTupleOf_any ax l.length dx l _ (X3.out.below T4.out (Nat.le_refl _))).mono ?_
  rintro e w5 ⟨ht, hb⟩
  obtain ⟨v8, rfl, ho⟩ := ht.one
  rw [HTT.out] at ho
  rw [HOK.out]
  obtain ⟨za, zc, rfl, -, hz⟩ := own_vas ho (by have := HT4.out; omega)
  have Z5 : Hid (VasAt w5 za T.length T) := hz
  have T5 : Hid (Below w4.heap.size w4 w5) := hb
  have B5 : Hid (Below w.heap.size w w5) := B4.out.trans (hb.mono B4.out.size)
  clear ht ho hz hb
  go_wp2_with fail
  refine (drawTupleOk_any a n c _ hn (bytes_nowV HB.out B5.out)).mono ?_
  rintro e w6 ⟨⟨v10, O, rfl, o10, l10⟩, hb⟩
  obtain ⟨oa, oc, rfl, hoc, hvo⟩ := own_vas o10 (by omega)
  have VO6 : Hid (VasAt w6 oa O.length O) := hvo
  have HOC : Hid (O.length ≤ oc) := hoc
  have T6 : Hid (Below w5.heap.size w5 w6) := grown_at hb
  have B6 : Hid (Below w.heap.size w w6) := B5.out.trans (hb.mono B5.out.size)
  clear o10 l10 hvo hoc hb
  go_wp2_with fail
  refine (drawTupleText_any a n c _ hn (bytes_nowV HB.out B6.out)).mono ?_
  rintro e w7 ⟨⟨v11, Q, rfl, o11, l11⟩, hb⟩
  obtain ⟨sa, sc, rfl, hsc, hvs⟩ := own_vas o11 (by omega)
  have VS7 : Hid (VasAt w7 sa Q.length Q) := hvs
  have HSC : Hid (Q.length ≤ sc) := hsc
  have T7 : Hid (Below w6.heap.size w6 w7) := grown_at hb
  have B7 : Hid (Below w.heap.size w w7) := B6.out.trans (hb.mono B6.out.size)
  clear o11 l11 hvs hsc hb
  obtain ⟨w8, hw8⟩ : ∃ y, w7.drew = y := ⟨_, rfl⟩
  have HW8 : Hid (w7.drew = w8) := hw8
  have T8 : Hid (Below w7.heap.size w7 w8) := by rw [← hw8]; exact (Below.refl _ _).drew
  have B8 : Hid (Below w.heap.size w w8) := B7.out.trans (T8.out.mono B7.out.size)
  have VL8 : Hid (VasAt w8 a1 L.length L) := V1.out.below (chainT T2.out T3.out T4.out T5.out T6.out T7.out T8.out) (Nat.le_refl _)
  have O8 : Hid (BOwn w8 w1.heap.size v4 (tupBytes L)) := owns_below O4.out (chain6 T3.out T4.out T5.out T6.out T7.out T8.out) (Nat.le_refl _)
  have X8 : Hid (BysAt w8 ax l.length l) := X3.out.below (chain5 T4.out T5.out T6.out T7.out T8.out) (Nat.le_refl _)
  have VY8 : Hid (VasAt w8 ya T.length T) := Y4.out.below (chain4' T5.out T6.out T7.out T8.out) (Nat.le_refl _)
  have VZ8 : Hid (VasAt w8 za T.length T) := Z5.out.below (chain3 T6.out T7.out T8.out) (Nat.le_refl _)
  have VO8 : Hid (VasAt w8 oa O.length O) := VO6.out.below (chain2 T7.out T8.out) (Nat.le_refl _)
  have VS8 : Hid (VasAt w8 sa Q.length Q) := VS7.out.below T8.out (Nat.le_refl _)
  have HT8 : Hid (PowT w8) := HT.out.below B8.out (Nat.le_refl _)
  obtain ⟨tb, htb⟩ : ∃ t, (⟨(tupBytes L).toArray⟩ : ByteArray) = t := ⟨_, rfl⟩
  obtain ⟨tx, htx⟩ : ∃ t, (⟨l.toArray⟩ : ByteArray) = t := ⟨_, rfl⟩
  obtain ⟨bo, hbo⟩ : ∃ b, decide (TupGood O) = b := ⟨_, rfl⟩
  have nbo : (bo != bo) = false := by cases bo <;> rfl
  have HTB : Hid ((⟨(tupBytes L).toArray⟩ : ByteArray) = tb) := htb
  have HTXX : Hid ((⟨l.toArray⟩ : ByteArray) = tx) := htx
  have HBO : Hid (decide (TupGood O) = bo) := hbo
  have CEL : Hid (∀ y, Below w8.heap.size w8 y → (convert 22 9 v4).run Tryd.prog y = .ok (.string tb) y ∧ (convert 22 9 (.slice ax l.length dx)).run Tryd.prog y = .ok (.string tx) y) := fun y hb => by
    have h1 := bown_text (owns_below O8.out hb (Nat.le_refl _))
    have h2 := bys_text (c := dx) (X8.out.below hb (Nat.le_refl _))
    rw [htb] at h1
    rw [htx] at h2
    exact ⟨h1, h2⟩
  have K0 : Hid ((convert 22 9 v4).run Tryd.prog w7.drew = .ok (.string tb) w7.drew ∧ (convert 22 9 (.slice ax l.length dx)).run Tryd.prog w7.drew = .ok (.string tx) w7.drew) := by rw [hw8]; exact CEL.out _ (Below.refl _ _)
  have LEN0 : Hid (¬ TupGood L → lenOf v4 = 0) := fun hg => by
    have h1 := O4.out
    unfold tupBytes at h1
    rw [if_neg hg] at h1
    rcases owns_forms h1 with ⟨h2, _⟩ | ⟨q, cap, h2⟩ <;> (subst h2; rfl)
  have VF4 : Hid (¬ TupGood L → ∃ ba bc, v4 = .slice ba 0 bc) := fun hg => by
    have h1 := O4.out
    unfold tupBytes at h1
    rw [if_neg hg] at h1
    rcases owns_forms h1 with ⟨h2, _⟩ | ⟨q, cap, h2⟩
    · exact ⟨_, _, h2⟩
    · exact ⟨_, _, h2⟩
  have BY4 : Hid (∀ y, Below w8.heap.size w8 y → ∃ ba bn bc, v4 = .slice ba bn bc ∧ bn ≤ bc ∧ BysAt y ba bn (tupBytes L)) := fun y hb => by
    have h1 := owns_below O8.out hb (Nat.le_refl _)
    have h2 : (tupBytes L).length ≤ 2097152 := by
      unfold tupBytes
      split
      · rename_i hg; have := tupB_le hg; omega
      · decide
    obtain ⟨ba, bc, h3, h4, h5⟩ := bown_bys h1 h2
    exact ⟨ba, _, bc, h3, h4, h5⟩
  clear hw8 htb htx hbo
  go_upto_region 9 with (fail)
  cases ok
  case false =>
    refine wp_region_held_drew (S := fun w' => (convert 22 9 v4).run Tryd.prog w' = .ok (.string tb) w' ∧ (convert 22 9 (.slice ax l.length dx)).run Tryd.prog w' = .ok (.string tx) w') (by kernel_rfl) K0.out (fun hHeld => ?_)
    rw [HW8.out] at hHeld ⊢
    refine wpAnyH_take (i := 0) (oi := _) (v := v4) (by rw [List.getElem?_toArray]; exact rfl) (by kernel_rfl) (by kernel_rfl) (by kernel_rfl) (by intro _ _ _ h; exact h) (Or.inl ⟨by kernel_rfl, ?y0⟩) hHeld ?_
    case y0 =>
      intro w hSw
      obtain ⟨s1, s2⟩ := hSw
      go_simp
      (try with_reducible rfl)
    (try simp only [Act.put, List.setIfInBounds_toArray, List.set_cons_zero, List.set_cons_succ])
    refine wpAnyH_take (i := 1) (oi := _) (v := .string tb) (by rw [List.getElem?_toArray]; exact rfl) (by kernel_rfl) (by kernel_rfl) (by kernel_rfl) (by intro _ _ _ h; exact h) (Or.inl ⟨by kernel_rfl, ?y1⟩) hHeld ?_
    case y1 =>
      intro w hSw
      obtain ⟨s1, s2⟩ := hSw
      go_simp
      (try with_reducible rfl)
    (try simp only [Act.put, List.setIfInBounds_toArray, List.set_cons_zero, List.set_cons_succ])
    refine wpAnyH_take (i := 2) (oi := _) (v := .slice a1 L.length c1) (by rw [List.getElem?_toArray]; exact rfl) (by kernel_rfl) (by kernel_rfl) (by kernel_rfl) (by intro _ _ _ h; exact h) (Or.inl ⟨by kernel_rfl, ?y2⟩) hHeld ?_
    case y2 =>
      intro w hSw
      obtain ⟨s1, s2⟩ := hSw
      go_simp
      (try with_reducible rfl)
    (try simp only [Act.put, List.setIfInBounds_toArray, List.set_cons_zero, List.set_cons_succ])
    refine wpAnyH_ready (rs := [3]) (by kernel_rfl) (by simp) ?_
    refine AllReadyH.cons (o := _) (by rw [List.getElem?_toArray]; exact rfl) (fun K hK => ?_) AllReadyH.nil
    rw [if_pos (by kernel_rfl)]
    go_simp
    refine (specTupleBytes_any a1 L.length c1 L _ VL8.out).mono ?_
    rintro e z3 ⟨v9, rfl, ho, hb⟩
    have F9 := bown_text ho
    rw [HTB.out] at F9
    clear ho
    have H3 : Hid (Below w8.heap.size w8 z3) := hb
    clear hb
    refine hK.out _ _ (CEL.out _ H3.out) (fun hHeld => ?_)
    clear hK K
    (try simp only [Act.put, List.setIfInBounds_toArray, List.set_cons_zero, List.set_cons_succ])
    refine wpAnyH_ready (rs := [4]) (by kernel_rfl) (by simp) ?_
    refine AllReadyH.cons (o := _) (by rw [List.getElem?_toArray]; exact rfl) (fun K hK => ?_) AllReadyH.nil
    rw [if_pos (by kernel_rfl)]
    go_simp
    refine hK.out _ _ hHeld (fun hHeld => ?_)
    clear hK K
    (try simp only [Act.put, List.setIfInBounds_toArray, List.set_cons_zero, List.set_cons_succ])
    refine wpAnyH_ready (rs := [5]) (by kernel_rfl) (by simp) ?_
    refine AllReadyH.cons (o := _) (by rw [List.getElem?_toArray]; exact rfl) (fun K hK => ?_) AllReadyH.nil
    rw [if_pos (by kernel_rfl)]
    go_simp
    refine hK.out _ _ hHeld (fun hHeld => ?_)
    clear hK K
    (try simp only [Act.put, List.setIfInBounds_toArray, List.set_cons_zero, List.set_cons_succ])
    refine wpAnyH_ready (rs := [6]) (by kernel_rfl) (by simp) ?_
    refine AllReadyH.cons (o := _) (by rw [List.getElem?_toArray]; exact rfl) (fun K hK => ?_) AllReadyH.nil
    rw [if_pos (by kernel_rfl)]
    go_simp
    refine hK.out _ _ hHeld (fun hHeld => ?_)
    clear hK K
    (try simp only [Act.put, List.setIfInBounds_toArray, List.set_cons_zero, List.set_cons_succ])
    clear F9
    refine wpAnyH_take (i := 7) (oi := _) (v := .bool false) (by rw [List.getElem?_toArray]; exact rfl) (by kernel_rfl) (by kernel_rfl) (by kernel_rfl) (by intro _ _ _ h; exact h) (Or.inl ⟨by kernel_rfl, ?y7⟩) hHeld ?_
    case y7 =>
      intro w hSw
      obtain ⟨s1, s2⟩ := hSw
      go_simp
      (try with_reducible rfl)
    (try simp only [Act.put, List.setIfInBounds_toArray, List.set_cons_zero, List.set_cons_succ])
    refine wpAnyH_take (i := 8) (oi := _) (v := .bool false) (by rw [List.getElem?_toArray]; exact rfl) (by kernel_rfl) (by kernel_rfl) (by kernel_rfl) (by intro _ _ _ h; exact h) (Or.inl ⟨by kernel_rfl, ?y8⟩) hHeld ?_
    case y8 =>
      intro w hSw
      obtain ⟨s1, s2⟩ := hSw
      go_simp
      (try with_reducible rfl)
    (try simp only [Act.put, List.setIfInBounds_toArray, List.set_cons_zero, List.set_cons_succ])
    refine wpAnyH_ready (rs := [9]) (by kernel_rfl) (by simp) ?_
    refine AllReadyH.cons (o := _) (by rw [List.getElem?_toArray]; exact rfl) (fun K hK => ?_) AllReadyH.nil
    rw [if_pos (by kernel_rfl)]
    go_simp
    refine hK.out _ _ hHeld (fun hHeld => ?_)
    clear hK K
    (try simp only [Act.put, List.setIfInBounds_toArray, List.set_cons_zero, List.set_cons_succ])
    refine wpAnyH_ready (rs := [10]) (by kernel_rfl) (by simp) ?_
    refine AllReadyH.cons (o := _) (by rw [List.getElem?_toArray]; exact rfl) (fun K hK => ?_) AllReadyH.nil
    rw [if_pos (by kernel_rfl)]
    go_simp
    refine hK.out _ _ hHeld (fun hHeld => ?_)
    clear hK K
    (try simp only [Act.put, List.setIfInBounds_toArray, List.set_cons_zero, List.set_cons_succ])
    refine wpAnyH_ready (rs := [11]) (by kernel_rfl) (by simp) ?_
    refine AllReadyH.cons (o := _) (by rw [List.getElem?_toArray]; exact rfl) (fun K hK => ?_) AllReadyH.nil
    rw [if_pos (by kernel_rfl)]
    go_simp
    refine hK.out _ _ hHeld (fun hHeld => ?_)
    clear hK K
    (try simp only [Act.put, List.setIfInBounds_toArray, List.set_cons_zero, List.set_cons_succ])
    refine wpAnyH_take (i := 12) (oi := _) (v := .slice ya T.length yc) (by rw [List.getElem?_toArray]; exact rfl) (by kernel_rfl) (by kernel_rfl) (by kernel_rfl) (by intro _ _ _ h; exact h) (Or.inl ⟨by kernel_rfl, ?y12⟩) hHeld ?_
    case y12 =>
      intro w hSw
      obtain ⟨s1, s2⟩ := hSw
      go_simp
      (try with_reducible rfl)
    (try simp only [Act.put, List.setIfInBounds_toArray, List.set_cons_zero, List.set_cons_succ])
    refine wpAnyH_take (i := 13) (oi := _) (v := .slice za T.length zc) (by rw [List.getElem?_toArray]; exact rfl) (by kernel_rfl) (by kernel_rfl) (by kernel_rfl) (by intro _ _ _ h; exact h) (Or.inl ⟨by kernel_rfl, ?y13⟩) hHeld ?_
    case y13 =>
      intro w hSw
      obtain ⟨s1, s2⟩ := hSw
      go_simp
      (try with_reducible rfl)
    (try simp only [Act.put, List.setIfInBounds_toArray, List.set_cons_zero, List.set_cons_succ])
    refine wpAnyH_ready (rs := [14]) (by kernel_rfl) (by simp) ?_
    refine AllReadyH.cons (o := _) (by rw [List.getElem?_toArray]; exact rfl) (fun K hK => ?_) AllReadyH.nil
    rw [if_pos (by kernel_rfl)]
    go_simp
    refine (sameT_any ya za T.length T.length yc zc T T _ (VY8.out.below H3.out (Nat.le_refl _)) (VZ8.out.below H3.out (Nat.le_refl _))).mono ?_
    rintro e z14 ⟨rfl, hb⟩
    rw [decide_eq_true (rfl : T = T)]
    have H14 : Hid (Below w8.heap.size w8 z14) := H3.out.trans (hb.mono H3.out.size)
    clear hb
    refine hK.out _ _ (CEL.out _ H14.out) (fun hHeld => ?_)
    clear hK K
    (try simp only [Act.put, List.setIfInBounds_toArray, List.set_cons_zero, List.set_cons_succ])
    refine wpAnyH_ready (rs := [15]) (by kernel_rfl) (by simp) ?_
    refine AllReadyH.cons (o := _) (by rw [List.getElem?_toArray]; exact rfl) (fun K hK => ?_) AllReadyH.nil
    rw [if_pos (by kernel_rfl)]
    go_simp
    refine hK.out _ _ hHeld (fun hHeld => ?_)
    clear hK K
    (try simp only [Act.put, List.setIfInBounds_toArray, List.set_cons_zero, List.set_cons_succ])
    refine wpAnyH_ready (rs := [16]) (by kernel_rfl) (by simp) ?_
    refine AllReadyH.cons (o := _) (by rw [List.getElem?_toArray]; exact rfl) (fun K hK => ?_) AllReadyH.nil
    rw [if_pos (by kernel_rfl)]
    go_simp
    refine hK.out _ _ hHeld (fun hHeld => ?_)
    clear hK K
    (try simp only [Act.put, List.setIfInBounds_toArray, List.set_cons_zero, List.set_cons_succ])
    refine wpAnyH_ready (rs := [17]) (by kernel_rfl) (by simp) ?_
    refine AllReadyH.cons (o := _) (by rw [List.getElem?_toArray]; exact rfl) (fun K hK => ?_) AllReadyH.nil
    rw [if_pos (by kernel_rfl)]
    go_simp
    refine hK.out _ _ hHeld (fun hHeld => ?_)
    clear hK K
    (try simp only [Act.put, List.setIfInBounds_toArray, List.set_cons_zero, List.set_cons_succ])
    refine wpAnyH_take (i := 18) (oi := _) (v := .slice oa O.length oc) (by rw [List.getElem?_toArray]; exact rfl) (by kernel_rfl) (by kernel_rfl) (by kernel_rfl) (by intro _ _ _ h; exact h) (Or.inl ⟨by kernel_rfl, ?y18⟩) hHeld ?_
    case y18 =>
      intro w hSw
      obtain ⟨s1, s2⟩ := hSw
      go_simp
      (try with_reducible rfl)
    (try simp only [Act.put, List.setIfInBounds_toArray, List.set_cons_zero, List.set_cons_succ])
    refine wpAnyH_take (i := 20) (oi := _) (v := .slice oa O.length oc) (by rw [List.getElem?_toArray]; exact rfl) (by kernel_rfl) (by kernel_rfl) (by kernel_rfl) (by intro _ _ _ h; exact h) (Or.inl ⟨by kernel_rfl, ?y20⟩) hHeld ?_
    case y20 =>
      intro w hSw
      obtain ⟨s1, s2⟩ := hSw
      go_simp
      (try with_reducible rfl)
    (try simp only [Act.put, List.setIfInBounds_toArray, List.set_cons_zero, List.set_cons_succ])
    refine wpAnyH_ready (rs := [19]) (by kernel_rfl) (by simp) ?_
    refine AllReadyH.cons (o := _) (by rw [List.getElem?_toArray]; exact rfl) (fun K hK => ?_) AllReadyH.nil
    rw [if_pos (by kernel_rfl)]
    go_simp
    refine (IOk.out oa O.length oc O _ (VO8.out.below H14.out (Nat.le_refl _)) HOC.out).mono ?_
    rintro e z19 ⟨rfl, hb⟩
    rw [HBO.out]
    have H19 : Hid (Below w8.heap.size w8 z19) := H14.out.trans (hb.mono H14.out.size)
    clear hb
    refine hK.out _ _ (CEL.out _ H19.out) (fun hHeld => ?_)
    clear hK K
    (try simp only [Act.put, List.setIfInBounds_toArray, List.set_cons_zero, List.set_cons_succ])
    refine wpAnyH_ready (rs := [21]) (by kernel_rfl) (by simp) ?_
    refine AllReadyH.cons (o := _) (by rw [List.getElem?_toArray]; exact rfl) (fun K hK => ?_) AllReadyH.nil
    rw [if_pos (by kernel_rfl)]
    go_simp
    refine (specTupleOk_any oa O.length oc O _ (VO8.out.below H19.out (Nat.le_refl _))).mono ?_
    rintro e z21 ⟨rfl, hb⟩
    rw [HBO.out]
    have H21 : Hid (Below w8.heap.size w8 z21) := H19.out.trans (hb.mono H19.out.size)
    clear hb
    refine hK.out _ _ (CEL.out _ H21.out) (fun hHeld => ?_)
    clear hK K
    (try simp only [Act.put, List.setIfInBounds_toArray, List.set_cons_zero, List.set_cons_succ])
    refine wpAnyH_ready (rs := [22]) (by kernel_rfl) (by simp) ?_
    refine AllReadyH.cons (o := _) (by rw [List.getElem?_toArray]; exact rfl) (fun K hK => ?_) AllReadyH.nil
    rw [if_pos (by kernel_rfl)]
    go_simp
    refine hK.out _ _ hHeld (fun hHeld => ?_)
    clear hK K
    (try simp only [Act.put, List.setIfInBounds_toArray, List.set_cons_zero, List.set_cons_succ])
    refine wpAnyH_ready (rs := [23]) (by kernel_rfl) (by simp) ?_
    refine AllReadyH.cons (o := _) (by rw [List.getElem?_toArray]; exact rfl) (fun K hK => ?_) AllReadyH.nil
    rw [if_pos (by kernel_rfl)]
    go_simp
    refine hK.out _ _ hHeld (fun hHeld => ?_)
    clear hK K
    (try simp only [Act.put, List.setIfInBounds_toArray, List.set_cons_zero, List.set_cons_succ])
    refine wpAnyH_ready (rs := [24]) (by kernel_rfl) (by simp) ?_
    refine AllReadyH.cons (o := _) (by rw [List.getElem?_toArray]; exact rfl) (fun K hK => ?_) AllReadyH.nil
    rw [if_pos (by kernel_rfl)]
    go_simp
    refine hK.out _ _ hHeld (fun hHeld => ?_)
    clear hK K
    (try simp only [Act.put, List.setIfInBounds_toArray, List.set_cons_zero, List.set_cons_succ])
    refine wpAnyH_take (i := 25) (oi := _) (v := .slice sa Q.length sc) (by rw [List.getElem?_toArray]; exact rfl) (by kernel_rfl) (by kernel_rfl) (by kernel_rfl) (by intro _ _ _ h; exact h) (Or.inl ⟨by kernel_rfl, ?y25⟩) hHeld ?_
    case y25 =>
      intro w hSw
      obtain ⟨s1, s2⟩ := hSw
      go_simp
      (try with_reducible rfl)
    (try simp only [Act.put, List.setIfInBounds_toArray, List.set_cons_zero, List.set_cons_succ])
    refine wpAnyH_take (i := 27) (oi := _) (v := .slice sa Q.length sc) (by rw [List.getElem?_toArray]; exact rfl) (by kernel_rfl) (by kernel_rfl) (by kernel_rfl) (by intro _ _ _ h; exact h) (Or.inl ⟨by kernel_rfl, ?y27⟩) hHeld ?_
    case y27 =>
      intro w hSw
      obtain ⟨s1, s2⟩ := hSw
      go_simp
      (try with_reducible rfl)
    (try simp only [Act.put, List.setIfInBounds_toArray, List.set_cons_zero, List.set_cons_succ])
    refine wpAnyH_ready (rs := [26]) (by kernel_rfl) (by simp) ?_
    refine AllReadyH.cons (o := _) (by rw [List.getElem?_toArray]; exact rfl) (fun K hK => ?_) AllReadyH.nil
    rw [if_pos (by kernel_rfl)]
    go_simp
    refine (IT.out sa Q.length sc Q _ (HT8.out.below H21.out (Nat.le_refl _)) (VS8.out.below H21.out (Nat.le_refl _)) HSC.out).mono ?_
    rintro e z26 ⟨⟨t1, rfl, ht1⟩, hb⟩
    have HT1 : Hid (t1.data.toList = txtsB Q) := ht1
    clear ht1
    have H26 : Hid (Below w8.heap.size w8 z26) := H21.out.trans (hb.mono H21.out.size)
    clear hb
    refine hK.out _ _ (CEL.out _ H26.out) (fun hHeld => ?_)
    clear hK K
    (try simp only [Act.put, List.setIfInBounds_toArray, List.set_cons_zero, List.set_cons_succ])
    refine wpAnyH_ready (rs := [28]) (by kernel_rfl) (by simp) ?_
    refine AllReadyH.cons (o := _) (by rw [List.getElem?_toArray]; exact rfl) (fun K hK => ?_) AllReadyH.nil
    rw [if_pos (by kernel_rfl)]
    go_simp
    refine (specTupleText_any sa Q.length sc Q _ (VS8.out.below H26.out (Nat.le_refl _))).mono ?_
    rintro e z28 ⟨⟨t2, rfl, ht2⟩, hb⟩
    obtain rfl : t1 = t2 := str_eq (HT1.out.trans ht2.symm)
    clear ht2
    have H28 : Hid (Below w8.heap.size w8 z28) := H26.out.trans (hb.mono H26.out.size)
    clear hb
    refine hK.out _ _ (CEL.out _ H28.out) (fun hHeld => ?_)
    clear hK K
    (try simp only [Act.put, List.setIfInBounds_toArray, List.set_cons_zero, List.set_cons_succ])
    refine wpAnyH_ready (rs := [29]) (by kernel_rfl) (by simp) ?_
    refine AllReadyH.cons (o := _) (by rw [List.getElem?_toArray]; exact rfl) (fun K hK => ?_) AllReadyH.nil
    rw [if_pos (by kernel_rfl)]
    go_simp
    refine hK.out _ _ hHeld (fun hHeld => ?_)
    clear hK K
    (try simp only [Act.put, List.setIfInBounds_toArray, List.set_cons_zero, List.set_cons_succ])
    refine wpAnyH_ready (rs := [30]) (by kernel_rfl) (by simp) ?_
    refine AllReadyH.cons (o := _) (by rw [List.getElem?_toArray]; exact rfl) (fun K hK => ?_) AllReadyH.nil
    rw [if_pos (by kernel_rfl)]
    go_simp
    refine hK.out _ _ hHeld (fun hHeld => ?_)
    clear hK K
    (try simp only [Act.put, List.setIfInBounds_toArray, List.set_cons_zero, List.set_cons_succ])
    refine wpAnyH_ready (rs := [31]) (by kernel_rfl) (by simp) ?_
    refine AllReadyH.cons (o := _) (by rw [List.getElem?_toArray]; exact rfl) (fun K hK => ?_) AllReadyH.nil
    rw [if_pos (by kernel_rfl)]
    go_simp
    refine hK.out _ _ hHeld (fun hHeld => ?_)
    clear hK K
    (try simp only [Act.put, List.setIfInBounds_toArray, List.set_cons_zero, List.set_cons_succ])
    refine wpAnyH_take (i := 32) (oi := _) (v := .bool false) (by rw [List.getElem?_toArray]; exact rfl) (by kernel_rfl) (by kernel_rfl) (by kernel_rfl) (by intro _ _ _ h; exact h) (Or.inl ⟨by kernel_rfl, ?y32⟩) hHeld ?_
    case y32 =>
      intro w hSw
      obtain ⟨s1, s2⟩ := hSw
      go_simp
      (try with_reducible rfl)
    (try simp only [Act.put, List.setIfInBounds_toArray, List.set_cons_zero, List.set_cons_succ])
    refine wpAnyH_take (i := 33) (oi := _) (v := .bool false) (by rw [List.getElem?_toArray]; exact rfl) (by kernel_rfl) (by kernel_rfl) (by kernel_rfl) (by intro _ _ _ h; exact h) (Or.inl ⟨by kernel_rfl, ?y33⟩) hHeld ?_
    case y33 =>
      intro w hSw
      obtain ⟨s1, s2⟩ := hSw
      go_simp
      (try with_reducible rfl)
    (try simp only [Act.put, List.setIfInBounds_toArray, List.set_cons_zero, List.set_cons_succ])
    refine wpAnyH_take (i := 34) (oi := _) (v := undef) (by rw [List.getElem?_toArray]; exact rfl) (by kernel_rfl) (by kernel_rfl) (by kernel_rfl) (by intro _ _ _ h; exact h) (Or.inr ⟨by kernel_rfl, rfl⟩) hHeld ?_
    (try simp only [Act.put, List.setIfInBounds_toArray, List.set_cons_zero, List.set_cons_succ])
    refine wpAnyH_take (i := 37) (oi := _) (v := undef) (by rw [List.getElem?_toArray]; exact rfl) (by kernel_rfl) (by kernel_rfl) (by kernel_rfl) (by intro _ _ _ h; exact h) (Or.inr ⟨by kernel_rfl, rfl⟩) hHeld ?_
    (try simp only [Act.put, List.setIfInBounds_toArray, List.set_cons_zero, List.set_cons_succ])
    refine wpAnyH_take (i := 38) (oi := _) (v := undef) (by rw [List.getElem?_toArray]; exact rfl) (by kernel_rfl) (by kernel_rfl) (by kernel_rfl) (by intro _ _ _ h; exact h) (Or.inr ⟨by kernel_rfl, rfl⟩) hHeld ?_
    (try simp only [Act.put, List.setIfInBounds_toArray, List.set_cons_zero, List.set_cons_succ])
    refine wpAnyH_ready (rs := [35]) (by kernel_rfl) (by simp) ?_
    refine AllReadyH.cons (o := _) (by rw [List.getElem?_toArray]; exact rfl) (fun K hK => ?_) AllReadyH.nil
    rw [if_neg (by rw [show Region.wanted _ _ = false by kernel_rfl]; decide)]
    refine hK.out _ _ hHeld (fun hHeld => ?_)
    clear hK K
    (try simp only [Act.put, List.setIfInBounds_toArray, List.set_cons_zero, List.set_cons_succ])
    refine wpAnyH_take (i := 36) (oi := _) (v := undef) (by rw [List.getElem?_toArray]; exact rfl) (by kernel_rfl) (by kernel_rfl) (by kernel_rfl) (by intro _ _ _ h; exact h) (Or.inr ⟨by kernel_rfl, rfl⟩) hHeld ?_
    (try simp only [Act.put, List.setIfInBounds_toArray, List.set_cons_zero, List.set_cons_succ])
    refine wpAnyH_take (i := 39) (oi := _) (v := undef) (by rw [List.getElem?_toArray]; exact rfl) (by kernel_rfl) (by kernel_rfl) (by kernel_rfl) (by intro _ _ _ h; exact h) (Or.inr ⟨by kernel_rfl, rfl⟩) hHeld ?_
    (try simp only [Act.put, List.setIfInBounds_toArray, List.set_cons_zero, List.set_cons_succ])
    refine wpAnyH_ready (rs := [40]) (by kernel_rfl) (by simp) ?_
    refine AllReadyH.cons (o := _) (by rw [List.getElem?_toArray]; exact rfl) (fun K hK => ?_) AllReadyH.nil
    rw [if_pos (by kernel_rfl)]
    go_simp
    refine hK.out _ _ hHeld (fun hHeld => ?_)
    clear hK K
    (try simp only [Act.put, List.setIfInBounds_toArray, List.set_cons_zero, List.set_cons_succ])
    refine wpAnyH_ready (rs := [41]) (by kernel_rfl) (by simp) ?_
    refine AllReadyH.cons (o := _) (by rw [List.getElem?_toArray]; exact rfl) (fun K hK => ?_) AllReadyH.nil
    rw [if_pos (by kernel_rfl)]
    go_simp
    refine hK.out _ _ hHeld (fun hHeld => ?_)
    clear hK K
    (try simp only [Act.put, List.setIfInBounds_toArray, List.set_cons_zero, List.set_cons_succ])
    refine wpAnyH_done (by kernel_rfl) ?_ _
    (try simp only [Exit.then])
    have B9 : Hid (Below w.heap.size w z28) := B8.out.trans (H28.out.mono B8.out.size)
    go_wp2_with fail
    refine (IOk.out a1 L.length c1 L _ (VL8.out.below H28.out (Nat.le_refl _)) HC1.out).mono ?_
    rintro e q1 ⟨rfl, hb⟩
    have HQ1 : Hid (Below w8.heap.size w8 q1) := H28.out.trans (hb.mono H28.out.size)
    have B10 : Hid (Below w.heap.size w q1) := B9.out.trans (hb.mono B9.out.size)
    clear hb
    by_cases hgL : TupGood L
    case neg =>
      rw [decide_eq_false hgL]
      have HE : Hid (lenOf v4 = 0) := LEN0.out hgL
      obtain ⟨ba, bc, rfl⟩ := VF4.out hgL
      go_wp2
      go_ret
      exact ⟨rfl, B10.out⟩
    rw [decide_eq_true hgL]
    obtain ⟨ba, bn, bc, rfl, hbc, hby⟩ := BY4.out q1 HQ1.out
    have HBC : Hid (bn ≤ bc) := hbc
    have HBY : Hid (BysAt q1 ba bn (tupBytes L)) := hby
    clear hbc hby
    go_wp2_with fail
    refine (IO.out ba bn bc (tupBytes L) _ (HEE.out.below B10.out (Nat.le_refl _)) HBY.out HBC.out).mono ?_
    rintro e q2 ⟨ht, hb⟩
    obtain ⟨v12, rfl, ho⟩ := ht.one
    obtain ⟨h1, h2⟩ := lstT_is (show TupIs (tupBytes L) L from ⟨hgL, (if_pos hgL).symm⟩)
    rw [h2] at ho
    rw [h1]
    have HQ2 : Hid (Below w8.heap.size w8 q2) := HQ1.out.trans (hb.mono HQ1.out.size)
    have B11 : Hid (Below w.heap.size w q2) := B10.out.trans (hb.mono B10.out.size)
    obtain ⟨ka, kc, rfl, -, hk⟩ := own_vas ho (by have := hgL.2; omega)
    have VK : Hid (VasAt q2 ka L.length L) := hk
    clear ht hb ho h1 h2 hk
    go_wp2_with fail
    refine (sameT_any ka a1 L.length L.length kc c1 L L _ VK.out (VL8.out.below HQ2.out (Nat.le_refl _))).mono ?_
    rintro e q3 ⟨rfl, hb⟩
    rw [decide_eq_true (rfl : L = L)]
    have B12 : Hid (Below w.heap.size w q3) := B11.out.trans (hb.mono B11.out.size)
    clear hb
    go_wp2
    go_ret
    exact ⟨rfl, B12.out⟩
  case true =>
    have HTX : Hid ((⟨(tupBytes T).toArray⟩ : ByteArray) = tx) := by
      show _ = _
      rw [← HTXX.out, ← HTT.out]
      have h1 : TupIs l (lstT l) := okT_is HOK.out
      rw [show tupBytes (lstT l) = l by unfold tupBytes; rw [if_pos h1.1]; exact h1.2]
    refine wp_region_held_drew (S := fun w' => (convert 22 9 v4).run Tryd.prog w' = .ok (.string tb) w' ∧ (convert 22 9 (.slice ax l.length dx)).run Tryd.prog w' = .ok (.string tx) w') (by kernel_rfl) K0.out (fun hHeld => ?_)
    rw [HW8.out] at hHeld ⊢
    refine wpAnyH_take (i := 0) (oi := _) (v := v4) (by rw [List.getElem?_toArray]; exact rfl) (by kernel_rfl) (by kernel_rfl) (by kernel_rfl) (by intro _ _ _ h; exact h) (Or.inl ⟨by kernel_rfl, ?y0⟩) hHeld ?_
    case y0 =>
      intro w hSw
      obtain ⟨s1, s2⟩ := hSw
      go_simp
      (try with_reducible rfl)
    (try simp only [Act.put, List.setIfInBounds_toArray, List.set_cons_zero, List.set_cons_succ])
    refine wpAnyH_take (i := 1) (oi := _) (v := .string tb) (by rw [List.getElem?_toArray]; exact rfl) (by kernel_rfl) (by kernel_rfl) (by kernel_rfl) (by intro _ _ _ h; exact h) (Or.inl ⟨by kernel_rfl, ?y1⟩) hHeld ?_
    case y1 =>
      intro w hSw
      obtain ⟨s1, s2⟩ := hSw
      go_simp
      (try with_reducible rfl)
    (try simp only [Act.put, List.setIfInBounds_toArray, List.set_cons_zero, List.set_cons_succ])
    refine wpAnyH_take (i := 2) (oi := _) (v := .slice a1 L.length c1) (by rw [List.getElem?_toArray]; exact rfl) (by kernel_rfl) (by kernel_rfl) (by kernel_rfl) (by intro _ _ _ h; exact h) (Or.inl ⟨by kernel_rfl, ?y2⟩) hHeld ?_
    case y2 =>
      intro w hSw
      obtain ⟨s1, s2⟩ := hSw
      go_simp
      (try with_reducible rfl)
    (try simp only [Act.put, List.setIfInBounds_toArray, List.set_cons_zero, List.set_cons_succ])
    refine wpAnyH_ready (rs := [3]) (by kernel_rfl) (by simp) ?_
    refine AllReadyH.cons (o := _) (by rw [List.getElem?_toArray]; exact rfl) (fun K hK => ?_) AllReadyH.nil
    rw [if_pos (by kernel_rfl)]
    go_simp
    refine (specTupleBytes_any a1 L.length c1 L _ VL8.out).mono ?_
    rintro e z3 ⟨v9, rfl, ho, hb⟩
    have F9 := bown_text ho
    rw [HTB.out] at F9
    clear ho
    have H3 : Hid (Below w8.heap.size w8 z3) := hb
    clear hb
    refine hK.out _ _ (CEL.out _ H3.out) (fun hHeld => ?_)
    clear hK K
    (try simp only [Act.put, List.setIfInBounds_toArray, List.set_cons_zero, List.set_cons_succ])
    refine wpAnyH_ready (rs := [4]) (by kernel_rfl) (by simp) ?_
    refine AllReadyH.cons (o := _) (by rw [List.getElem?_toArray]; exact rfl) (fun K hK => ?_) AllReadyH.nil
    rw [if_pos (by kernel_rfl)]
    go_simp
    refine hK.out _ _ hHeld (fun hHeld => ?_)
    clear hK K
    (try simp only [Act.put, List.setIfInBounds_toArray, List.set_cons_zero, List.set_cons_succ])
    refine wpAnyH_ready (rs := [5]) (by kernel_rfl) (by simp) ?_
    refine AllReadyH.cons (o := _) (by rw [List.getElem?_toArray]; exact rfl) (fun K hK => ?_) AllReadyH.nil
    rw [if_pos (by kernel_rfl)]
    go_simp
    refine hK.out _ _ hHeld (fun hHeld => ?_)
    clear hK K
    (try simp only [Act.put, List.setIfInBounds_toArray, List.set_cons_zero, List.set_cons_succ])
    refine wpAnyH_ready (rs := [6]) (by kernel_rfl) (by simp) ?_
    refine AllReadyH.cons (o := _) (by rw [List.getElem?_toArray]; exact rfl) (fun K hK => ?_) AllReadyH.nil
    rw [if_pos (by kernel_rfl)]
    go_simp
    refine hK.out _ _ hHeld (fun hHeld => ?_)
    clear hK K
    (try simp only [Act.put, List.setIfInBounds_toArray, List.set_cons_zero, List.set_cons_succ])
    clear F9
    refine wpAnyH_take (i := 7) (oi := _) (v := .bool true) (by rw [List.getElem?_toArray]; exact rfl) (by kernel_rfl) (by kernel_rfl) (by kernel_rfl) (by intro _ _ _ h; exact h) (Or.inl ⟨by kernel_rfl, ?y7⟩) hHeld ?_
    case y7 =>
      intro w hSw
      obtain ⟨s1, s2⟩ := hSw
      go_simp
      (try with_reducible rfl)
    (try simp only [Act.put, List.setIfInBounds_toArray, List.set_cons_zero, List.set_cons_succ])
    refine wpAnyH_take (i := 8) (oi := _) (v := .bool true) (by rw [List.getElem?_toArray]; exact rfl) (by kernel_rfl) (by kernel_rfl) (by kernel_rfl) (by intro _ _ _ h; exact h) (Or.inl ⟨by kernel_rfl, ?y8⟩) hHeld ?_
    case y8 =>
      intro w hSw
      obtain ⟨s1, s2⟩ := hSw
      go_simp
      (try with_reducible rfl)
    (try simp only [Act.put, List.setIfInBounds_toArray, List.set_cons_zero, List.set_cons_succ])
    refine wpAnyH_ready (rs := [9]) (by kernel_rfl) (by simp) ?_
    refine AllReadyH.cons (o := _) (by rw [List.getElem?_toArray]; exact rfl) (fun K hK => ?_) AllReadyH.nil
    rw [if_pos (by kernel_rfl)]
    go_simp
    refine hK.out _ _ hHeld (fun hHeld => ?_)
    clear hK K
    (try simp only [Act.put, List.setIfInBounds_toArray, List.set_cons_zero, List.set_cons_succ])
    refine wpAnyH_ready (rs := [10]) (by kernel_rfl) (by simp) ?_
    refine AllReadyH.cons (o := _) (by rw [List.getElem?_toArray]; exact rfl) (fun K hK => ?_) AllReadyH.nil
    rw [if_pos (by kernel_rfl)]
    go_simp
    refine hK.out _ _ hHeld (fun hHeld => ?_)
    clear hK K
    (try simp only [Act.put, List.setIfInBounds_toArray, List.set_cons_zero, List.set_cons_succ])
    refine wpAnyH_ready (rs := [11]) (by kernel_rfl) (by simp) ?_
    refine AllReadyH.cons (o := _) (by rw [List.getElem?_toArray]; exact rfl) (fun K hK => ?_) AllReadyH.nil
    rw [if_pos (by kernel_rfl)]
    go_simp
    refine hK.out _ _ hHeld (fun hHeld => ?_)
    clear hK K
    (try simp only [Act.put, List.setIfInBounds_toArray, List.set_cons_zero, List.set_cons_succ])
    refine wpAnyH_take (i := 12) (oi := _) (v := .slice ya T.length yc) (by rw [List.getElem?_toArray]; exact rfl) (by kernel_rfl) (by kernel_rfl) (by kernel_rfl) (by intro _ _ _ h; exact h) (Or.inl ⟨by kernel_rfl, ?y12⟩) hHeld ?_
    case y12 =>
      intro w hSw
      obtain ⟨s1, s2⟩ := hSw
      go_simp
      (try with_reducible rfl)
    (try simp only [Act.put, List.setIfInBounds_toArray, List.set_cons_zero, List.set_cons_succ])
    refine wpAnyH_take (i := 13) (oi := _) (v := .slice za T.length zc) (by rw [List.getElem?_toArray]; exact rfl) (by kernel_rfl) (by kernel_rfl) (by kernel_rfl) (by intro _ _ _ h; exact h) (Or.inl ⟨by kernel_rfl, ?y13⟩) hHeld ?_
    case y13 =>
      intro w hSw
      obtain ⟨s1, s2⟩ := hSw
      go_simp
      (try with_reducible rfl)
    (try simp only [Act.put, List.setIfInBounds_toArray, List.set_cons_zero, List.set_cons_succ])
    refine wpAnyH_ready (rs := [14]) (by kernel_rfl) (by simp) ?_
    refine AllReadyH.cons (o := _) (by rw [List.getElem?_toArray]; exact rfl) (fun K hK => ?_) AllReadyH.nil
    rw [if_pos (by kernel_rfl)]
    go_simp
    refine (sameT_any ya za T.length T.length yc zc T T _ (VY8.out.below H3.out (Nat.le_refl _)) (VZ8.out.below H3.out (Nat.le_refl _))).mono ?_
    rintro e z14 ⟨rfl, hb⟩
    rw [decide_eq_true (rfl : T = T)]
    have H14 : Hid (Below w8.heap.size w8 z14) := H3.out.trans (hb.mono H3.out.size)
    clear hb
    refine hK.out _ _ (CEL.out _ H14.out) (fun hHeld => ?_)
    clear hK K
    (try simp only [Act.put, List.setIfInBounds_toArray, List.set_cons_zero, List.set_cons_succ])
    refine wpAnyH_ready (rs := [15]) (by kernel_rfl) (by simp) ?_
    refine AllReadyH.cons (o := _) (by rw [List.getElem?_toArray]; exact rfl) (fun K hK => ?_) AllReadyH.nil
    rw [if_pos (by kernel_rfl)]
    go_simp
    refine hK.out _ _ hHeld (fun hHeld => ?_)
    clear hK K
    (try simp only [Act.put, List.setIfInBounds_toArray, List.set_cons_zero, List.set_cons_succ])
    refine wpAnyH_ready (rs := [16]) (by kernel_rfl) (by simp) ?_
    refine AllReadyH.cons (o := _) (by rw [List.getElem?_toArray]; exact rfl) (fun K hK => ?_) AllReadyH.nil
    rw [if_pos (by kernel_rfl)]
    go_simp
    refine hK.out _ _ hHeld (fun hHeld => ?_)
    clear hK K
    (try simp only [Act.put, List.setIfInBounds_toArray, List.set_cons_zero, List.set_cons_succ])
    refine wpAnyH_ready (rs := [17]) (by kernel_rfl) (by simp) ?_
    refine AllReadyH.cons (o := _) (by rw [List.getElem?_toArray]; exact rfl) (fun K hK => ?_) AllReadyH.nil
    rw [if_pos (by kernel_rfl)]
    go_simp
    refine hK.out _ _ hHeld (fun hHeld => ?_)
    clear hK K
    (try simp only [Act.put, List.setIfInBounds_toArray, List.set_cons_zero, List.set_cons_succ])
    refine wpAnyH_take (i := 18) (oi := _) (v := .slice oa O.length oc) (by rw [List.getElem?_toArray]; exact rfl) (by kernel_rfl) (by kernel_rfl) (by kernel_rfl) (by intro _ _ _ h; exact h) (Or.inl ⟨by kernel_rfl, ?y18⟩) hHeld ?_
    case y18 =>
      intro w hSw
      obtain ⟨s1, s2⟩ := hSw
      go_simp
      (try with_reducible rfl)
    (try simp only [Act.put, List.setIfInBounds_toArray, List.set_cons_zero, List.set_cons_succ])
    refine wpAnyH_take (i := 20) (oi := _) (v := .slice oa O.length oc) (by rw [List.getElem?_toArray]; exact rfl) (by kernel_rfl) (by kernel_rfl) (by kernel_rfl) (by intro _ _ _ h; exact h) (Or.inl ⟨by kernel_rfl, ?y20⟩) hHeld ?_
    case y20 =>
      intro w hSw
      obtain ⟨s1, s2⟩ := hSw
      go_simp
      (try with_reducible rfl)
    (try simp only [Act.put, List.setIfInBounds_toArray, List.set_cons_zero, List.set_cons_succ])
    refine wpAnyH_ready (rs := [19]) (by kernel_rfl) (by simp) ?_
    refine AllReadyH.cons (o := _) (by rw [List.getElem?_toArray]; exact rfl) (fun K hK => ?_) AllReadyH.nil
    rw [if_pos (by kernel_rfl)]
    go_simp
    refine (IOk.out oa O.length oc O _ (VO8.out.below H14.out (Nat.le_refl _)) HOC.out).mono ?_
    rintro e z19 ⟨rfl, hb⟩
    rw [HBO.out]
    have H19 : Hid (Below w8.heap.size w8 z19) := H14.out.trans (hb.mono H14.out.size)
    clear hb
    refine hK.out _ _ (CEL.out _ H19.out) (fun hHeld => ?_)
    clear hK K
    (try simp only [Act.put, List.setIfInBounds_toArray, List.set_cons_zero, List.set_cons_succ])
    refine wpAnyH_ready (rs := [21]) (by kernel_rfl) (by simp) ?_
    refine AllReadyH.cons (o := _) (by rw [List.getElem?_toArray]; exact rfl) (fun K hK => ?_) AllReadyH.nil
    rw [if_pos (by kernel_rfl)]
    go_simp
    refine (specTupleOk_any oa O.length oc O _ (VO8.out.below H19.out (Nat.le_refl _))).mono ?_
    rintro e z21 ⟨rfl, hb⟩
    rw [HBO.out]
    have H21 : Hid (Below w8.heap.size w8 z21) := H19.out.trans (hb.mono H19.out.size)
    clear hb
    refine hK.out _ _ (CEL.out _ H21.out) (fun hHeld => ?_)
    clear hK K
    (try simp only [Act.put, List.setIfInBounds_toArray, List.set_cons_zero, List.set_cons_succ])
    refine wpAnyH_ready (rs := [22]) (by kernel_rfl) (by simp) ?_
    refine AllReadyH.cons (o := _) (by rw [List.getElem?_toArray]; exact rfl) (fun K hK => ?_) AllReadyH.nil
    rw [if_pos (by kernel_rfl)]
    go_simp
    refine hK.out _ _ hHeld (fun hHeld => ?_)
    clear hK K
    (try simp only [Act.put, List.setIfInBounds_toArray, List.set_cons_zero, List.set_cons_succ])
    refine wpAnyH_ready (rs := [23]) (by kernel_rfl) (by simp) ?_
    refine AllReadyH.cons (o := _) (by rw [List.getElem?_toArray]; exact rfl) (fun K hK => ?_) AllReadyH.nil
    rw [if_pos (by kernel_rfl)]
    go_simp
    refine hK.out _ _ hHeld (fun hHeld => ?_)
    clear hK K
    (try simp only [Act.put, List.setIfInBounds_toArray, List.set_cons_zero, List.set_cons_succ])
    refine wpAnyH_ready (rs := [24]) (by kernel_rfl) (by simp) ?_
    refine AllReadyH.cons (o := _) (by rw [List.getElem?_toArray]; exact rfl) (fun K hK => ?_) AllReadyH.nil
    rw [if_pos (by kernel_rfl)]
    go_simp
    refine hK.out _ _ hHeld (fun hHeld => ?_)
    clear hK K
    (try simp only [Act.put, List.setIfInBounds_toArray, List.set_cons_zero, List.set_cons_succ])
    refine wpAnyH_take (i := 25) (oi := _) (v := .slice sa Q.length sc) (by rw [List.getElem?_toArray]; exact rfl) (by kernel_rfl) (by kernel_rfl) (by kernel_rfl) (by intro _ _ _ h; exact h) (Or.inl ⟨by kernel_rfl, ?y25⟩) hHeld ?_
    case y25 =>
      intro w hSw
      obtain ⟨s1, s2⟩ := hSw
      go_simp
      (try with_reducible rfl)
    (try simp only [Act.put, List.setIfInBounds_toArray, List.set_cons_zero, List.set_cons_succ])
    refine wpAnyH_take (i := 27) (oi := _) (v := .slice sa Q.length sc) (by rw [List.getElem?_toArray]; exact rfl) (by kernel_rfl) (by kernel_rfl) (by kernel_rfl) (by intro _ _ _ h; exact h) (Or.inl ⟨by kernel_rfl, ?y27⟩) hHeld ?_
    case y27 =>
      intro w hSw
      obtain ⟨s1, s2⟩ := hSw
      go_simp
      (try with_reducible rfl)
    (try simp only [Act.put, List.setIfInBounds_toArray, List.set_cons_zero, List.set_cons_succ])
    refine wpAnyH_ready (rs := [26]) (by kernel_rfl) (by simp) ?_
    refine AllReadyH.cons (o := _) (by rw [List.getElem?_toArray]; exact rfl) (fun K hK => ?_) AllReadyH.nil
    rw [if_pos (by kernel_rfl)]
    go_simp
    refine (IT.out sa Q.length sc Q _ (HT8.out.below H21.out (Nat.le_refl _)) (VS8.out.below H21.out (Nat.le_refl _)) HSC.out).mono ?_
    rintro e z26 ⟨⟨t1, rfl, ht1⟩, hb⟩
    have HT1 : Hid (t1.data.toList = txtsB Q) := ht1
    clear ht1
    have H26 : Hid (Below w8.heap.size w8 z26) := H21.out.trans (hb.mono H21.out.size)
    clear hb
    refine hK.out _ _ (CEL.out _ H26.out) (fun hHeld => ?_)
    clear hK K
    (try simp only [Act.put, List.setIfInBounds_toArray, List.set_cons_zero, List.set_cons_succ])
    refine wpAnyH_ready (rs := [28]) (by kernel_rfl) (by simp) ?_
    refine AllReadyH.cons (o := _) (by rw [List.getElem?_toArray]; exact rfl) (fun K hK => ?_) AllReadyH.nil
    rw [if_pos (by kernel_rfl)]
    go_simp
    refine (specTupleText_any sa Q.length sc Q _ (VS8.out.below H26.out (Nat.le_refl _))).mono ?_
    rintro e z28 ⟨⟨t2, rfl, ht2⟩, hb⟩
    obtain rfl : t1 = t2 := str_eq (HT1.out.trans ht2.symm)
    clear ht2
    have H28 : Hid (Below w8.heap.size w8 z28) := H26.out.trans (hb.mono H26.out.size)
    clear hb
    refine hK.out _ _ (CEL.out _ H28.out) (fun hHeld => ?_)
    clear hK K
    (try simp only [Act.put, List.setIfInBounds_toArray, List.set_cons_zero, List.set_cons_succ])
    refine wpAnyH_ready (rs := [29]) (by kernel_rfl) (by simp) ?_
    refine AllReadyH.cons (o := _) (by rw [List.getElem?_toArray]; exact rfl) (fun K hK => ?_) AllReadyH.nil
    rw [if_pos (by kernel_rfl)]
    go_simp
    refine hK.out _ _ hHeld (fun hHeld => ?_)
    clear hK K
    (try simp only [Act.put, List.setIfInBounds_toArray, List.set_cons_zero, List.set_cons_succ])
    refine wpAnyH_ready (rs := [30]) (by kernel_rfl) (by simp) ?_
    refine AllReadyH.cons (o := _) (by rw [List.getElem?_toArray]; exact rfl) (fun K hK => ?_) AllReadyH.nil
    rw [if_pos (by kernel_rfl)]
    go_simp
    refine hK.out _ _ hHeld (fun hHeld => ?_)
    clear hK K
    (try simp only [Act.put, List.setIfInBounds_toArray, List.set_cons_zero, List.set_cons_succ])
    refine wpAnyH_ready (rs := [31]) (by kernel_rfl) (by simp) ?_
    refine AllReadyH.cons (o := _) (by rw [List.getElem?_toArray]; exact rfl) (fun K hK => ?_) AllReadyH.nil
    rw [if_pos (by kernel_rfl)]
    go_simp
    refine hK.out _ _ hHeld (fun hHeld => ?_)
    clear hK K
    (try simp only [Act.put, List.setIfInBounds_toArray, List.set_cons_zero, List.set_cons_succ])
    refine wpAnyH_take (i := 32) (oi := _) (v := .bool true) (by rw [List.getElem?_toArray]; exact rfl) (by kernel_rfl) (by kernel_rfl) (by kernel_rfl) (by intro _ _ _ h; exact h) (Or.inl ⟨by kernel_rfl, ?y32⟩) hHeld ?_
    case y32 =>
      intro w hSw
      obtain ⟨s1, s2⟩ := hSw
      go_simp
      (try with_reducible rfl)
    (try simp only [Act.put, List.setIfInBounds_toArray, List.set_cons_zero, List.set_cons_succ])
    refine wpAnyH_take (i := 33) (oi := _) (v := .bool true) (by rw [List.getElem?_toArray]; exact rfl) (by kernel_rfl) (by kernel_rfl) (by kernel_rfl) (by intro _ _ _ h; exact h) (Or.inl ⟨by kernel_rfl, ?y33⟩) hHeld ?_
    case y33 =>
      intro w hSw
      obtain ⟨s1, s2⟩ := hSw
      go_simp
      (try with_reducible rfl)
    (try simp only [Act.put, List.setIfInBounds_toArray, List.set_cons_zero, List.set_cons_succ])
    refine wpAnyH_take (i := 34) (oi := _) (v := .slice ya T.length yc) (by rw [List.getElem?_toArray]; exact rfl) (by kernel_rfl) (by kernel_rfl) (by kernel_rfl) (by intro _ _ _ h; exact h) (Or.inl ⟨by kernel_rfl, ?y34⟩) hHeld ?_
    case y34 =>
      intro w hSw
      obtain ⟨s1, s2⟩ := hSw
      go_simp
      (try with_reducible rfl)
    (try simp only [Act.put, List.setIfInBounds_toArray, List.set_cons_zero, List.set_cons_succ])
    refine wpAnyH_take (i := 37) (oi := _) (v := .slice ax l.length dx) (by rw [List.getElem?_toArray]; exact rfl) (by kernel_rfl) (by kernel_rfl) (by kernel_rfl) (by intro _ _ _ h; exact h) (Or.inl ⟨by kernel_rfl, ?y37⟩) hHeld ?_
    case y37 =>
      intro w hSw
      obtain ⟨s1, s2⟩ := hSw
      go_simp
      (try with_reducible rfl)
    (try simp only [Act.put, List.setIfInBounds_toArray, List.set_cons_zero, List.set_cons_succ])
    refine wpAnyH_take (i := 38) (oi := _) (v := .string tx) (by rw [List.getElem?_toArray]; exact rfl) (by kernel_rfl) (by kernel_rfl) (by kernel_rfl) (by intro _ _ _ h; exact h) (Or.inl ⟨by kernel_rfl, ?y38⟩) hHeld ?_
    case y38 =>
      intro w hSw
      obtain ⟨s1, s2⟩ := hSw
      go_simp
      (try with_reducible rfl)
    (try simp only [Act.put, List.setIfInBounds_toArray, List.set_cons_zero, List.set_cons_succ])
    refine wpAnyH_ready (rs := [35]) (by kernel_rfl) (by simp) ?_
    refine AllReadyH.cons (o := _) (by rw [List.getElem?_toArray]; exact rfl) (fun K hK => ?_) AllReadyH.nil
    rw [if_pos (by kernel_rfl)]
    go_simp
    refine (IB.out ya T.length yc T _ (VY8.out.below H28.out (Nat.le_refl _)) HYC.out).mono ?_
    rintro e z35 ⟨v11, rfl, ho, hb⟩
    have F11 := bown_text ho
    rw [HTX.out] at F11
    clear ho
    have H35 : Hid (Below w8.heap.size w8 z35) := H28.out.trans (hb.mono H28.out.size)
    clear hb
    refine hK.out _ _ (CEL.out _ H35.out) (fun hHeld => ?_)
    clear hK K
    (try simp only [Act.put, List.setIfInBounds_toArray, List.set_cons_zero, List.set_cons_succ])
    refine wpAnyH_ready (rs := [36]) (by kernel_rfl) (by simp) ?_
    refine AllReadyH.cons (o := _) (by rw [List.getElem?_toArray]; exact rfl) (fun K hK => ?_) AllReadyH.nil
    rw [if_pos (by kernel_rfl)]
    go_simp
    refine hK.out _ _ hHeld (fun hHeld => ?_)
    clear hK K
    (try simp only [Act.put, List.setIfInBounds_toArray, List.set_cons_zero, List.set_cons_succ])
    refine wpAnyH_ready (rs := [39]) (by kernel_rfl) (by simp) ?_
    refine AllReadyH.cons (o := _) (by rw [List.getElem?_toArray]; exact rfl) (fun K hK => ?_) AllReadyH.nil
    rw [if_pos (by kernel_rfl)]
    go_simp
    refine hK.out _ _ hHeld (fun hHeld => ?_)
    clear hK K
    (try simp only [Act.put, List.setIfInBounds_toArray, List.set_cons_zero, List.set_cons_succ])
    refine wpAnyH_ready (rs := [40]) (by kernel_rfl) (by simp) ?_
    refine AllReadyH.cons (o := _) (by rw [List.getElem?_toArray]; exact rfl) (fun K hK => ?_) AllReadyH.nil
    rw [if_pos (by kernel_rfl)]
    go_simp
    refine hK.out _ _ hHeld (fun hHeld => ?_)
    clear hK K
    (try simp only [Act.put, List.setIfInBounds_toArray, List.set_cons_zero, List.set_cons_succ])
    refine wpAnyH_ready (rs := [41]) (by kernel_rfl) (by simp) ?_
    refine AllReadyH.cons (o := _) (by rw [List.getElem?_toArray]; exact rfl) (fun K hK => ?_) AllReadyH.nil
    rw [if_pos (by kernel_rfl)]
    go_simp
    refine hK.out _ _ hHeld (fun hHeld => ?_)
    clear hK K
    (try simp only [Act.put, List.setIfInBounds_toArray, List.set_cons_zero, List.set_cons_succ])
    clear F11
    refine wpAnyH_done (by kernel_rfl) ?_ _
    (try simp only [Exit.then])
    have B9 : Hid (Below w.heap.size w z35) := B8.out.trans (H35.out.mono B8.out.size)
    go_wp2_with fail
    refine (IOk.out a1 L.length c1 L _ (VL8.out.below H35.out (Nat.le_refl _)) HC1.out).mono ?_
    rintro e q1 ⟨rfl, hb⟩
    have HQ1 : Hid (Below w8.heap.size w8 q1) := H35.out.trans (hb.mono H35.out.size)
    have B10 : Hid (Below w.heap.size w q1) := B9.out.trans (hb.mono B9.out.size)
    clear hb
    by_cases hgL : TupGood L
    case neg =>
      rw [decide_eq_false hgL]
      have HE : Hid (lenOf v4 = 0) := LEN0.out hgL
      obtain ⟨ba, bc, rfl⟩ := VF4.out hgL
      go_wp2
      go_ret
      exact ⟨rfl, B10.out⟩
    rw [decide_eq_true hgL]
    obtain ⟨ba, bn, bc, rfl, hbc, hby⟩ := BY4.out q1 HQ1.out
    have HBC : Hid (bn ≤ bc) := hbc
    have HBY : Hid (BysAt q1 ba bn (tupBytes L)) := hby
    clear hbc hby
    go_wp2_with fail
    refine (IO.out ba bn bc (tupBytes L) _ (HEE.out.below B10.out (Nat.le_refl _)) HBY.out HBC.out).mono ?_
    rintro e q2 ⟨ht, hb⟩
    obtain ⟨v12, rfl, ho⟩ := ht.one
    obtain ⟨h1, h2⟩ := lstT_is (show TupIs (tupBytes L) L from ⟨hgL, (if_pos hgL).symm⟩)
    rw [h2] at ho
    rw [h1]
    have HQ2 : Hid (Below w8.heap.size w8 q2) := HQ1.out.trans (hb.mono HQ1.out.size)
    have B11 : Hid (Below w.heap.size w q2) := B10.out.trans (hb.mono B10.out.size)
    obtain ⟨ka, kc, rfl, -, hk⟩ := own_vas ho (by have := hgL.2; omega)
    have VK : Hid (VasAt q2 ka L.length L) := hk
    clear ht hb ho h1 h2 hk
    go_wp2_with fail
    refine (sameT_any ka a1 L.length L.length kc c1 L L _ VK.out (VL8.out.below HQ2.out (Nat.le_refl _))).mono ?_
    rintro e q3 ⟨rfl, hb⟩
    rw [decide_eq_true (rfl : L = L)]
    have B12 : Hid (Below w.heap.size w q3) := B11.out.trans (hb.mono B11.out.size)
    clear hb
    go_wp2
    go_ret
    exact ⟨rfl, B12.out⟩
theorem door_met (os : Os) (args : Array Value) : laidMetH Tryd.prog Rows.fnTuplesRow.laid ((World.doorLaid Tryd.prog 200 os).forCall (fun _ _ => 0) ⟨#[], args, []⟩).memory :=
  laidMetH_of_parts3 (fuel := 8) (laidMet_of_run' 8 (by kernel_rfl) (by kernel_rfl)) (by kernel_rfl) (by kernel_rfl)
theorem of_laid {W : World} (h : laidMetH Tryd.prog Rows.fnTuplesRow.laid W) : PowT W ∧ ErrT W := by
  have h' : laidMet Tryd.prog [("math/bits.deBruijn32tab", Rows.laid_math_bits_deBruijn32tab), ("math/bits.deBruijn64tab", Rows.laid_math_bits_deBruijn64tab), ("internal/strconv.uint64pow10", Rows.laid_internal_strconv_uint64pow10)] W ∧ handlesMet Tryd.prog [("errors.errorType", Rows.laid_errors_errorType)] W := h
  have h2 : laidMet Tryd.prog [("internal/strconv.uint64pow10", Rows.laid_internal_strconv_uint64pow10)] W := laidMet.tail (laidMet.tail h'.1)
  rw [tab_is] at h2
  exact ⟨⟨Lib.tabIs_of_head gTab tTab Tryd.underlying131 Tryd.underlying124 cU64 cTab h2⟩, errT_of h'.2⟩
theorem lifted (iOk : AskOk) (iB : AskB) (iO : AskO) (iT : AskT) (os : Os) (started : os.Started) (H : Type) (enc : TypeId × Value → H) :
    ReturnsInHanded {} Tryd.checked os 3 .any (fun w args => (Rows.fnTuplesSpec.pre enc Tryd.prog Tryd.f3 [] false w args ∧ laidMetH Tryd.prog Rows.fnTuplesRow.laid w) ∧ sizedMet enc Tryd.prog Tryd.f3 (OpenSpec.ofChange Rows.fnTuplesSpec) false w args)
      (Rows.fnTuplesSpec.post enc Tryd.prog Tryd.f3 false true false false) := by
  refine returnsInHanded_of_change_and (C := Tryd.checked) (X := fun w _ => laidMetH Tryd.prog Rows.fnTuplesRow.laid w) (fun _ _ _ hh h => h.of_heap hh) own started (by kernel_rfl) Tryd.func3
    (ChangeSpec.witness_shaped (enc := enc) (C := Tryd.checked) (os := os) (X := fun w _ => laidMetH Tryd.prog Rows.fnTuplesRow.laid w) false (World.doorLaid Tryd.prog 200 os) #[.slice none 0 0] 8 rfl (World.shaped_of_RefB (by kernel_rfl) (by kernel_rfl)) (by kernel_rfl) (by kernel_rfl) (by kernel_rfl) (door_met os _)) ?_
  intro W base args ds gs before hval0 hW _ _ hL _
  have hval : ∀ (j : Nat) t v, Tryd.f3.params[j]? = some t → args[j]? = some v → Value.okWide Tryd.prog W .any base t v := hval0
  have hW' := hW
  obtain ⟨p, q, hA0, hV0, rfl, hfz, hnd⟩ := hW
  have hA : DataW.TrodAll enc Tryd.prog W 0 (fun _ => true) true Tryd.f3.params.toList args.toList ds p := hA0
  have hT := of_laid hL
  obtain ⟨rfl, rfl⟩ := trodVars_none hV0
  rw [Tryd.params3] at hA hval
  obtain ⟨v0, d0, rfl, rfl, h0⟩ := trodAll_one hA
  have k0 := h0
  have lt0 : ∀ x ∈ p, x.block < W.heap.size := by obtain ⟨m, hm⟩ := k0; exact DataW.trod_lt m _ _ _ hm
  obtain ⟨a0, n, c, rfl⟩ := okWide_slice Tryd.underlying22 (hval 0 22 v0 rfl rfl)
  have hB : BytesAt W W.heap.size a0 n := by
    obtain ⟨fuel, hf⟩ := h0
    rcases open_ints Tryd.underlying22 Tryd.underlying5 (by kernel_rfl) hf with ⟨hcs, _⟩ | ⟨x, l, cc, zs, hcs, _, hl, hm, hz, _, hcell, hwz⟩
    · simp [Value.cells] at hcs
      obtain ⟨rfl, rfl, rfl⟩ := hcs
      exact .inl rfl
    · simp [Value.cells] at hcs
      obtain ⟨rfl, rfl, rfl⟩ := hcs
      by_cases h0 : n = 0
      · exact .inl h0
      · simp at hz
        obtain ⟨b, o, rfl, hc⟩ := ints_at hcell (by omega)
        refine .inr ⟨b, o, rfl, World.block_lt_of_cell? W _ (hc 0 (by omega)), fun i hi => ?_⟩
        have hzi : i < zs.length := by omega
        have bd := bounds_u8 (hwz zs[i] (List.getElem_mem hzi))
        refine ⟨zs[i].toNat, by omega, ?_⟩
        rw [hc i hzi, show ((zs[i].toNat : Nat) : Int) = zs[i] by omega]
        simp [List.getD, hzi]
  refine (tuples_walk a0 n c W hB hT.1 hT.2 iOk iB iO iT).mono fun e W' ⟨he, bel⟩ => ?_
  subst he
  exact ⟨_, rfl, _, _, _, [], _, _, hW', trodAll_mk1 (shut_bool Tryd.underlying4 _), (trodAll_cons_mk (Below.trod laidOut (by kernel_rfl) (of_decide_eq_true (by kernel_rfl)) k0 bel lt0) trodAll_mk0), rfl, bel.frame _, fun h => by cases h⟩
theorem row_holds (iOk : AskOk) (iB : AskB) (iO : AskO) (iT : AskT) : Rows.FnTuplesSaid :=
  OpenClaim.holds_of_wide 3 Tryd.f3 rfl rfl rfl rfl rfl rfl rfl ⟨rfl, rfl, rfl, rfl, rfl⟩ rfl rfl rfl rfl rfl (by kernel_rfl) Tryd.func3 (by kernel_rfl)
    (of_decide_eq_true (by kernel_rfl)) (by unfold Func.isWrapper; first | (rw [if_pos (by decide +kernel)]; kernel_rfl) | (rw [if_neg (by decide +kernel)]; exact ⟨rfl, rfl⟩))
    (fun os started H enc _ => lifted iOk iB iO iT os started H enc)
end fnTuples
theorem fnTuples_over (iOk : fnTuples.AskOk) (iB : fnTuples.AskB) (iO : fnTuples.AskO) (iT : fnTuples.AskT) : Rows.FnTuplesCardSaid :=
  Claim7.holds_tied_plain_at .later [] [.data, .data, .data, .handle] true Rows.fnTuplesCard.stood.harness Rows.fnTuplesCard.stood.looks
    (fnTuples.row_holds iOk iB iO iT) (fun _ h => by cases h) (by kernel_rfl) (fun _ h => by cases h) fnTuples_row_tie rfl ⟨rfl, rfl⟩ (by kernel_rfl) rfl
    (fun f fn hf hfn => by
      obtain rfl : f = 3 := Option.some.inj ((show Tryd.prog.funcNamed Rows.fnTuplesRow.func = some 3 by kernel_rfl).symm.trans hf) |>.symm
      obtain rfl : fn = Tryd.f3 := (Option.some.inj (Tryd.func3.symm.trans hfn)).symm
      exact ⟨by kernel_rfl, fun j t ht => by
        rw [Tryd.params3] at ht
        have hm : t ∈ [22] := by simpa using Array.mem_of_getElem? ht
        have hall : ([22].all fun u => !Tryd.prog.wantsStandIn u) = true := by kernel_rfl
        exact (show Tryd.prog.wantsStandIn t = false by simpa using List.all_eq_true.1 hall t hm)⟩)
    (by kernel_rfl)
end Go.Proofs.YtgibeakclknhnaaDoor
