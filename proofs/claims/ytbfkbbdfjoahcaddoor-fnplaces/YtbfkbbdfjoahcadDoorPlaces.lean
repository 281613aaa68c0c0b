/- No two words of the program's table are one, and each is in memory; the functions of places answer as the specification's at what is drawn: the card of the law FnPlaces holds, with no condition beyond the program's table of names as its text lays it. -/
import Derived.Test.YtbfkbbdfjoahcadDoorRows
import Derived.Test.YtbfkbbdfjoahcadDoorTie
import Derived.Test.YtbfkbbdfjoahcadDoorCards
import Derived.Test.YtbfkbbdfjoahcadDoorOwn
import Derived.Test.YtbfkbbdfjoahcadDoorIntAt
import Derived.Test.YtbfkbbdfjoahcadDoorDraw2
import Derived.Test.YtbfkbbdfjoahcadDoorRowAt
import Derived.Test.YtbfkbbdfjoahcadDoorOwnerAt
import Derived.Test.YtbfkbbdfjoahcadDoorCountAt
import Derived.Test.YtbfkbbdfjoahcadDoorStateAt
import Derived.Test.YtbfkbbdfjoahcadDoorViaAt
import Derived.Test.YtbfkbbdfjoahcadDoorKeyOk
import Derived.Test.YtbfkbbdfjoahcadDoorValOk
import Derived.Test.YtbfkbbdfjoahcadDoorClassOf
import Derived.Test.YtbfkbbdfjoahcadDoorLaid
import Derived.WalkKit
import Derived.ProofKit
import Derived.OpenShut
import Derived.Below
import Derived.OwnWalk
import Derived.LaidMore
import Derived.Stop.Joined
import Derived.Stop.LaidErr
import Derived.Lib.LaidTab
import Derived.Lib.SmallJoins
import Derived.MakeChecks
import Derived.SevenTiedAt
namespace Go.Proofs.YtbfkbbdfjoahcadDoor
open Go.ChangeShapes Go.WideShapes Go.ChangeAt Go.RowKit

namespace fnPlaces
theorem own : ownKnob Tryd.prog.godebug = none := by kernel_rfl

/-- All places, as the law lists them. -/
def L1 (k : Nat) : List Int := 13 :: (List.range k).map fun (i : Nat) => (i : Int)
def L2 (k : Nat) : List Int := L1 4 ++ (List.range k).flatMap fun (i : Nat) => [(i : Int) + 4, (i : Int) + 14]
def L3 (k : Nat) : List Int := L2 6 ++ (List.range k).map fun (i : Nat) => (i : Int) + 10
theorem L1_succ (k : Nat) : L1 (k + 1) = L1 k ++ [(k : Int)] := by simp [L1, List.range_succ]
theorem L2_succ (k : Nat) : L2 (k + 1) = L2 k ++ [(k : Int) + 4, (k : Int) + 14] := by simp [L2, List.range_succ]
theorem L3_succ (k : Nat) : L3 (k + 1) = L3 k ++ [(k : Int) + 10] := by simp [L3, List.range_succ]
theorem L3_in : ∀ i, i < 20 → 0 ≤ (L3 3).getD i 0 ∧ (L3 3).getD i 0 < 20 := by decide +kernel
theorem L3_apart : ∀ i, i < 20 → ∀ j, j < i → (L3 3).getD i 0 ≠ (L3 3).getD j 0 := by decide +kernel

theorem appendI_step {w wr w1 : World} {base : Nat} {v v1 : Value} {done ys : List Int} {o : Obj} (hB : base ≤ wr.heap.size) (hown : wr.ownsRow base 3 1 v done.length (done.map I)) (hb : Below base w wr)
    (h1 : w1.ownsRow base 3 1 v1 (done.length + ys.length) (done.map I ++ ys.map I)) (hg : (wr.alloc o).grownBy w1 v.ownBlock) :
    w1.ownsRow base 3 1 v1 (done ++ ys).length ((done ++ ys).map I) ∧ Below base w w1 :=
  ⟨by simpa using h1, (hb.alloc hB _).grown hg (by simp; omega) fun k e => (hown.lt k e).1⟩
theorem own_slice {w : World} {base : Nat} {v : Value} {xs : List Int} (h : w.ownsRow base 3 1 v xs.length (xs.map I)) (h0 : 0 < xs.length) (hn : xs.length ≤ 1099511627776) : ∃ g cap, v = .slice (some ⟨g, 0, none⟩) xs.length cap ∧ IntAt w (some ⟨g, 0, none⟩) xs.length xs := by
  obtain ⟨h1, ⟨h2, h3⟩ | ⟨g, cap, cur, rfl, h4, h5, h6⟩⟩ := h
  · omega
  · exact ⟨g, cap, rfl, own_intAt ⟨h1, .inr ⟨g, cap, cur, rfl, h4, h5, h6⟩⟩ hn⟩
theorem int_at {w : World} {g n : Nat} {xs : List Int} (h : IntAt w (some ⟨g, 0, none⟩) n xs) {i : Nat} (hi : i < n) : w.cell? ⟨g, i, none⟩ = some (.int .i64 (xs.getD i 0)) := by
  obtain ⟨h1, h2, h3 | ⟨b, o, h3, h4⟩⟩ := h
  · omega
  · cases h3
    simpa using h4 i hi
theorem laidOut : laidOutB Tryd.prog = true := by kernel_rfl
theorem L1_len (k : Nat) : (L1 k).length = k + 1 := by simp [L1]
theorem L2_len (k : Nat) (hk : k ≤ 6) : (L2 k).length ≤ 17 := by
  have h : k = 0 ∨ k = 1 ∨ k = 2 ∨ k = 3 ∨ k = 4 ∨ k = 5 ∨ k = 6 := by omega
  rcases h with rfl | rfl | rfl | rfl | rfl | rfl | rfl <;> decide
theorem L3_len (k : Nat) : (L3 k).length = k + 17 := by
  have h : (L2 6).length = 17 := by decide
  simp [L3, h]; omega
theorem place1 (k : Nat) (hk : k < 4) : placeN 1 (k : Int) = (k : Int) := by unfold placeN; repeat' split <;> omega
theorem place2 (k : Nat) (hk : k < 6) : placeN 2 ((k : Int) + 1) = (k : Int) + 4 := by unfold placeN; repeat' split <;> omega
theorem place5 (k : Nat) (hk : k < 6) : placeN 5 ((k : Int) + 1) = (k : Int) + 14 := by unfold placeN; repeat' split <;> omega
theorem place3 (k : Nat) (hk : k < 3) : placeN 3 (k : Int) = (k : Int) + 10 := by unfold placeN; repeat' split <;> omega

set_option maxHeartbeats 1000000 in
set_option maxRecDepth 100000 in
theorem walk (a : Option Addr) (n c : Nat) (w : World) (hB : BytesAt w w.heap.size a n) (hN : Names w) :
    Calls Tryd.prog 3 #[.slice a n c] w fun e w' => e = .returned (.bool true) ∧ Below w.heap.size w w' := by
  by_cases hbig : 1048576 < n
  · go_enter Tryd.func3, Tryd.ntmps3
    go_wp2
    go_ret
    exact ⟨rfl, Below.refl _ _⟩
  have hn : n ≤ 1048576 := by omega
  have HB : Hid (BytesAt w w.heap.size a n) := hB
  have HN : Hid (Names w) := hN
  clear hB hN
  go_enter Tryd.func3, Tryd.ntmps3
  go_wp2_with (go_at_call 4; go_in)
  refine (drawRowAt_any a n c _ hn HB.out).mono ?_
  rintro e w1 ⟨k, rfl, -, -, hb01⟩
  go_wp2_with fail
  refine (drawOwnerAt_any a n c _ hn (bytes_now HB.out hb01)).mono ?_
  rintro e w2 ⟨v, rfl, -, -, hb⟩
  have hb02 : Below w.heap.size w w2 := hb01.trans (hb.mono hb01.size)
  clear hb hb01
  go_wp2_with fail
  refine (drawCountAt_any a n c _ hn (bytes_now HB.out hb02)).mono ?_
  rintro e w3 ⟨cl, rfl, -, -, hb⟩
  have hb03 : Below w.heap.size w w3 := hb02.trans (hb.mono hb02.size)
  clear hb hb02
  go_wp2_with fail
  refine (drawViaAt_any a n c _ hn (bytes_now HB.out hb03)).mono ?_
  rintro e w4 ⟨u, rfl, -, -, hb⟩
  have hb04 : Below w.heap.size w w4 := hb03.trans (hb.mono hb03.size)
  clear hb hb03
  go_wp2_with fail
  refine (drawKeyOk_any a n c _ hn (bytes_now HB.out hb04)).mono ?_
  rintro e w5 ⟨x, rfl, -, -, hb⟩
  have hb05 : Below w.heap.size w w5 := hb04.trans (hb.mono hb04.size)
  clear hb hb04
  go_wp2_with fail
  refine (drawValOk_any a n c _ hn (bytes_now HB.out hb05)).mono ?_
  rintro e w6 ⟨y, rfl, -, -, hb⟩
  have hb06 : Below w.heap.size w w6 := hb05.trans (hb.mono hb05.size)
  clear hb hb05
  go_wp2_with fail
  refine (drawClassOf_any a n c _ hn (bytes_now HB.out hb06)).mono ?_
  rintro e w7 ⟨z, rfl, -, -, hb⟩
  have hb07 : Below w.heap.size w w7 := hb06.trans (hb.mono hb06.size)
  clear hb hb06
  go_wp2_with (first
    | (go_at_call 12; refine (implRowAt_any k _ (HN.out.below hb07 HN.out.lt)).mono ?_; rintro e w8 ⟨rfl, hb⟩; have hb08 : Below w.heap.size w w8 := hb07.trans (hb.mono hb07.size); clear hb hb07)
    | (go_at_call 13; refine (specRowAt_any k _).mono ?_; rintro e w' ⟨rfl, rfl⟩)
    | (go_at_call 14; refine (implOwnerAt_any v _ (HN.out.below hb08 HN.out.lt)).mono ?_; rintro e w9 ⟨rfl, hb⟩; have hb09 : Below w.heap.size w w9 := hb08.trans (hb.mono hb08.size); clear hb hb08)
    | (go_at_call 15; refine (specOwnerAt_any v _).mono ?_; rintro e w' ⟨rfl, rfl⟩)
    | (go_at_call 16; refine (implCountAt_any cl _ (HN.out.below hb09 HN.out.lt)).mono ?_; rintro e w10 ⟨rfl, hb⟩; have hb010 : Below w.heap.size w w10 := hb09.trans (hb.mono hb09.size); clear hb hb09)
    | (go_at_call 17; refine (specCountAt_any cl _).mono ?_; rintro e w' ⟨rfl, rfl⟩)
    | (go_at_call 18; refine (implViaAt_any u _ (HN.out.below hb010 HN.out.lt)).mono ?_; rintro e w11 ⟨rfl, hb⟩; have hb011 : Below w.heap.size w w11 := hb010.trans (hb.mono hb010.size); clear hb hb010)
    | (go_at_call 19; refine (specViaAt_any u _).mono ?_; rintro e w' ⟨rfl, rfl⟩)
    | (go_at_call 20; refine (implKeyOk_any x _).mono ?_; rintro e w' ⟨rfl, rfl⟩)
    | (go_at_call 21; refine (specKeyOk_any x _).mono ?_; rintro e w' ⟨rfl, rfl⟩)
    | (go_at_call 22; refine (implValOk_any y _).mono ?_; rintro e w' ⟨rfl, rfl⟩)
    | (go_at_call 23; refine (specValOk_any y _).mono ?_; rintro e w' ⟨rfl, rfl⟩)
    | (go_at_call 24; refine (implClassOf_any z _).mono ?_; rintro e w' ⟨rfl, rfl⟩)
    | (go_at_call 25; refine (specClassOf_any z _).mono ?_; rintro e w' ⟨rfl, rfl⟩)
    | (go_at_call 26; refine (implStateAt_any _ (HN.out.below hb011 HN.out.lt)).mono ?_; rintro e w12 ⟨rfl, hb⟩; have hb012 : Below w.heap.size w w12 := hb011.trans (hb.mono hb011.size); clear hb hb011)
    | (go_at_call 27; refine (specStateAt_any _).mono ?_; rintro e w' ⟨rfl, rfl⟩)
    | (go_at_call 26; refine (implStateAt_any _ (HN.out.below hb012 HN.out.lt)).mono ?_; rintro e w13 ⟨rfl, hb⟩; have hb013 : Below w.heap.size w w13 := hb012.trans (hb.mono hb012.size); clear hb hb012))
  obtain ⟨i0, hi, hz0, hz1, hz2⟩ := info_parts infoInt
  go_loopw [10, 11] (fun v i wr => ∃ (k : Nat) (xs : List Int), i = .int .i64 (k : Int) ∧ xs = L1 k ∧ k ≤ 4 ∧ wr.ownsRow w.heap.size 3 1 v xs.length (xs.map I) ∧ Below w.heap.size w wr) (fun _ i _ => 4 - (intOf i).toNat)
  case atStart =>
    exact ⟨0, L1 0, rfl, rfl, by omega, ⟨rfl, .inr ⟨w13.heap.size, 1, #[I 13], rfl, hb013.size, heap_alloc_new _ _, by decide, by unfold maxLen; omega, rfl, rfl⟩⟩, hb013.alloc hb013.size _⟩
  case round =>
    obtain ⟨k1, xs, rfl, hx, hk, ho, hb⟩ := hrel
    clear hb013
    have HX : Hid (xs = L1 k1) := hx
    have hxl : xs.length ≤ 20 := by rw [hx, L1_len]; omega
    clear hx
    by_cases hlt : k1 < 4
    · go_wp2_with fail
      refine (implRowAt_any _ _ (HN.out.below hb HN.out.lt)).mono ?_
      rintro e wa ⟨rfl, hba⟩
      rw [place1 k1 hlt]
      have hoa := owns_below ho hba (Nat.le_refl _)
      have hbb : Below w.heap.size w wa := hb.trans (hba.mono hb.size)
      have hB := hbb.size
      clear ho hb hba
      go_wp2_with (at_builtin; refine wpList_append_own _ rfl _ _ 28 rfl w.heap.size 3 i0 (.int .i64 0) 1 8 Tryd.underlying28 hi hz0 hz1 hz2 rfl (by decide) _ _ _ rfl (hoa.alloc _) ⟨wa.heap.size, 0, none⟩ 1 1 [I ((k1 : Int))] rfl rfl ?c1 ?c2 ?c3 ?c4 ?c5 ?_)
      case c1 =>
        intro j u hj
        match j, hj with
        | 0, hj => simp at hj; subst hj; simp [Addr.add]
      case c2 => intro u hu; simp at hu; subst hu; rfl
      case c3 => unfold maxLen; omega
      case c4 => omega
      case c5 => simp; omega
      · intro v1 w4 hown1 hgrow _
        have R := appendI_step (ys := [(k1 : Int)]) hB hoa hbb hown1 hgrow
        clear hown1 hgrow hoa hbb
        go_wp2
        go_roundw
        case rel => exact ⟨k1 + 1, xs ++ [(k1 : Int)], by go_num, by rw [HX.out, L1_succ], by omega, R.1, R.2⟩
        case measure => simp [intOf]; omega
    · obtain rfl : k1 = 4 := by omega
      go_wp2_with fail
      go_loopw [10, 12] (fun v i wr => ∃ (k : Nat) (xs : List Int), i = .int .i64 ((k : Int) + 1) ∧ xs = L2 k ∧ k ≤ 6 ∧ wr.ownsRow w.heap.size 3 1 v xs.length (xs.map I) ∧ Below w.heap.size w wr) (fun _ i _ => 7 - (intOf i).toNat)
      case atStart => exact ⟨0, xs, rfl, by rw [HX.out]; rfl, by omega, ho, hb⟩
      case round =>
        clear HX hxl ho hb hlt
        obtain ⟨k2, xs, rfl, hx, hk, ho, hb⟩ := hrel
        have HX : Hid (xs = L2 k2) := hx
        have hxl : xs.length ≤ 20 := by rw [hx]; have := L2_len k2 hk; omega
        clear hx
        by_cases hlt : k2 < 6
        · go_wp2_with fail
          refine (implOwnerAt_any _ _ (HN.out.below hb HN.out.lt)).mono ?_
          rintro e wa ⟨rfl, hba⟩
          rw [place2 k2 hlt]
          have hoa := owns_below ho hba (Nat.le_refl _)
          have hbb : Below w.heap.size w wa := hb.trans (hba.mono hb.size)
          clear ho hb hba
          go_wp2_with fail
          refine (implViaAt_any _ _ (HN.out.below hbb HN.out.lt)).mono ?_
          rintro e wc ⟨rfl, hbc⟩
          rw [place5 k2 hlt]
          have hoc := owns_below hoa hbc (Nat.le_refl _)
          have hbd : Below w.heap.size w wc := hbb.trans (hbc.mono hbb.size)
          have hB := hbd.size
          clear hoa hbb hbc
          go_wp2_with (at_builtin; refine wpList_append_own _ rfl _ _ 28 rfl w.heap.size 3 i0 (.int .i64 0) 1 8 Tryd.underlying28 hi hz0 hz1 hz2 rfl (by decide) _ _ _ rfl (hoc.alloc _) ⟨wc.heap.size, 0, none⟩ 2 2 [I ((k2 : Int) + 4), I ((k2 : Int) + 14)] rfl rfl ?d1 ?d2 ?d3 ?d4 ?d5 ?_)
          case d1 =>
            intro j u hj
            match j, hj with
            | 0, hj => simp at hj; subst hj; simp [Addr.add]
            | 1, hj => simp at hj; subst hj; simp [Addr.add]
          case d2 => intro u hu; simp at hu; rcases hu with rfl | rfl <;> rfl
          case d3 => unfold maxLen; omega
          case d4 => omega
          case d5 => simp; omega
          · intro v1 w4 hown1 hgrow _
            have R := appendI_step (ys := [(k2 : Int) + 4, (k2 : Int) + 14]) hB hoc hbd hown1 hgrow
            clear hown1 hgrow hoc hbd
            go_wp2
            refine ⟨?_, ?m2⟩
            (repeat apply Exists.intro)
            refine ⟨?r2, rfl⟩
            case r2 => exact ⟨k2 + 1, xs ++ [(k2 : Int) + 4, (k2 : Int) + 14], by go_num, by rw [HX.out, L2_succ], by omega, R.1, R.2⟩
            case m2 => simp [intOf]; omega
        · obtain rfl : k2 = 6 := by omega
          go_wp2_with fail
          go_loopw [10, 13] (fun v i wr => ∃ (k : Nat) (xs : List Int), i = .int .i64 (k : Int) ∧ xs = L3 k ∧ k ≤ 3 ∧ wr.ownsRow w.heap.size 3 1 v xs.length (xs.map I) ∧ Below w.heap.size w wr) (fun _ i _ => 3 - (intOf i).toNat)
          case atStart => exact ⟨0, xs, rfl, by rw [HX.out]; rfl, by omega, ho, hb⟩
          case round =>
            clear HX hxl ho hb hlt
            obtain ⟨k3, xs, rfl, hx, hk, ho, hb⟩ := hrel
            have HX : Hid (xs = L3 k3) := hx
            have hxl : xs.length ≤ 20 := by rw [hx, L3_len]; omega
            clear hx
            by_cases hlt : k3 < 3
            · go_wp2_with fail
              refine (implCountAt_any _ _ (HN.out.below hb HN.out.lt)).mono ?_
              rintro e wa ⟨rfl, hba⟩
              rw [place3 k3 hlt]
              have hoa := owns_below ho hba (Nat.le_refl _)
              have hbb : Below w.heap.size w wa := hb.trans (hba.mono hb.size)
              have hB := hbb.size
              clear ho hb hba
              go_wp2_with (at_builtin; refine wpList_append_own _ rfl _ _ 28 rfl w.heap.size 3 i0 (.int .i64 0) 1 8 Tryd.underlying28 hi hz0 hz1 hz2 rfl (by decide) _ _ _ rfl (hoa.alloc _) ⟨wa.heap.size, 0, none⟩ 1 1 [I ((k3 : Int) + 10)] rfl rfl ?e1 ?e2 ?e3 ?e4 ?e5 ?_)
              case e1 =>
                intro j u hj
                match j, hj with
                | 0, hj => simp at hj; subst hj; simp [Addr.add]
              case e2 => intro u hu; simp at hu; subst hu; rfl
              case e3 => unfold maxLen; omega
              case e4 => omega
              case e5 => simp; omega
              · intro v1 w4 hown1 hgrow _
                have R := appendI_step (ys := [(k3 : Int) + 10]) hB hoa hbb hown1 hgrow
                clear hown1 hgrow hoa hbb
                go_wp2
                refine ⟨?_, ?m3⟩
                (repeat apply Exists.intro)
                refine ⟨?r3, rfl⟩
                case r3 => exact ⟨k3 + 1, xs ++ [(k3 : Int) + 10], by go_num, by rw [HX.out, L3_succ], by omega, R.1, R.2⟩
                case m3 => simp [intOf]; omega
            · obtain rfl : k3 = 3 := by omega
              obtain rfl := HX.out
              obtain ⟨g, cap, rfl, hA⟩ := own_slice ho (by rw [L3_len]; omega) (by rw [L3_len]; omega)
              rw [L3_len] at hA
              rw [L3_len]
              clear ho HX hxl hlt
              have HA : Hid (_) := hA
              clear hA
              go_wp2_with fail
              go_loopw [14] (fun i wr => ∃ k : Nat, i = .int .i64 (k : Int) ∧ k ≤ 20 ∧ IntAt wr (some ⟨g, 0, none⟩) 20 (L3 3) ∧ Below w.heap.size w wr) (fun i _ => 20 - (intOf i).toNat)
              case atStart => exact ⟨0, rfl, by omega, HA.out, hb⟩
              case round =>
                clear HA hb
                obtain ⟨k4, rfl, hk4, hA, hb⟩ := hrel
                by_cases hlt : k4 < 20
                · have hck := int_at hA hlt
                  obtain ⟨hp0, hp1⟩ := L3_in k4 hlt
                  obtain ⟨pk, hpk⟩ : ∃ p, p = (L3 3).getD k4 0 := ⟨_, rfl⟩
                  rw [← hpk] at hck hp0 hp1
                  have HPK : Hid (_) := hpk
                  have HA : Hid (_) := hA
                  clear hA hpk
                  go_wp2_with fail
                  go_loopw [15] (fun j wr => ∃ m : Nat, j = .int .i64 (m : Int) ∧ m ≤ k4 ∧ IntAt wr (some ⟨g, 0, none⟩) 20 (L3 3) ∧ Below w.heap.size w wr) (fun j _ => k4 - (intOf j).toNat)
                  case atStart => exact ⟨0, rfl, by omega, HA.out, hb⟩
                  case round =>
                    clear HA hb hck
                    obtain ⟨m, rfl, hm, hA, hb⟩ := hrel
                    by_cases hmk : m < k4
                    · have hck := int_at hA hlt
                      have hcm := int_at hA (show m < 20 by omega)
                      have hne := L3_apart k4 hlt m hmk
                      obtain ⟨pm, hpm⟩ : ∃ p, p = (L3 3).getD m 0 := ⟨_, rfl⟩
                      rw [← HPK.out] at hck hne
                      rw [← hpm] at hcm hne
                      have HPM : Hid (_) := hpm
                      have HA : Hid (_) := hA
                      clear hA hpm
                      go_wp2
                      go_region
                      go_wp2
                      go_roundw
                      case rel => exact ⟨m + 1, by go_num, by omega, HA.out, hb.drew⟩
                      case measure => simp [intOf]; omega
                    · obtain rfl : m = k4 := by omega
                      go_wp2
                      refine ⟨?_, ?m4⟩
                      (repeat apply Exists.intro)
                      refine ⟨?r4, rfl⟩
                      case r4 => exact ⟨m + 1, by go_num, by omega, hA, hb⟩
                      case m4 => simp [intOf]; omega
                · obtain rfl : k4 = 20 := by omega
                  go_wp2
                  go_ret
                  exact ⟨rfl, hb⟩

/-- The heap that the door's own run leaves meets the row's condition on the tables. -/
theorem door_met (os : Os) (args : Array Value) : laidMetH Tryd.prog Rows.fnPlacesRow.laid ((World.doorLaid Tryd.prog 64 os).forCall (fun _ _ => 0) ⟨#[], args, []⟩).memory :=
  laidMetH_of_parts3 (fuel := 8) (laidMet_of_run' 8 (by kernel_rfl) (by kernel_rfl)) (by kernel_rfl) (by kernel_rfl)

theorem of_laid {W : World} (h : laidMetH Tryd.prog Rows.fnPlacesRow.laid W) : Names W := by
  rw [MakeChecks.laidMetH_plain _ _ _ (by kernel_rfl)] at h
  exact names_of_laid h

set_option maxRecDepth 100000 in
theorem lifted (os : Os) (started : os.Started) (H : Type) (enc : TypeId × Value → H) :
    ReturnsInHanded {} Tryd.checked os 3 .any (fun w args => (Rows.fnPlacesSpec.pre enc Tryd.prog Tryd.f3 [] false w args ∧ laidMetH Tryd.prog Rows.fnPlacesRow.laid w) ∧ sizedMet enc Tryd.prog Tryd.f3 (OpenSpec.ofChange Rows.fnPlacesSpec) false w args)
      (Rows.fnPlacesSpec.post enc Tryd.prog Tryd.f3 false true false false) := by
  refine returnsInHanded_of_change_and (C := Tryd.checked) (X := fun w _ => laidMetH Tryd.prog Rows.fnPlacesRow.laid w) (fun _ _ _ hh h => h.of_heap hh) own started (by kernel_rfl) Tryd.func3
    (ChangeSpec.witness_shaped (enc := enc) (C := Tryd.checked) (os := os) (X := fun w _ => laidMetH Tryd.prog Rows.fnPlacesRow.laid w) false (World.doorLaid Tryd.prog 64 os) #[.slice none 0 0] 8 rfl (World.shaped_of_RefB (by kernel_rfl) (by kernel_rfl)) (by kernel_rfl) (by kernel_rfl) (by kernel_rfl) (door_met os _)) ?_
  intro W base args ds gs before hval0 hW _ _ hL _
  have hval : ∀ (j : Nat) t v, Tryd.f3.params[j]? = some t → args[j]? = some v → Value.okWide Tryd.prog W .any base t v := hval0
  have hW' := hW
  obtain ⟨p, q, hA0, hV0, rfl, hfz, hnd⟩ := hW
  have hV : DataW.TrodVars enc Tryd.prog W (fun _ => true) ["loop.example/g00468/impl.wordNames"] gs q := hV0
  have hN := of_laid hL
  obtain rfl := vars_open hN hV
  have hA : DataW.TrodAll enc Tryd.prog W 0 (fun _ => true) true Tryd.f3.params.toList args.toList ds p := hA0
  rw [Tryd.params3] at hA hval
  obtain ⟨v0, d0, rfl, rfl, h0⟩ := trodAll_one hA
  obtain ⟨a0, n, c, rfl⟩ := okWide_slice Tryd.underlying22 (hval 0 22 v0 rfl rfl)
  have k0 := h0
  have lt0 : ∀ x ∈ p, x.block < W.heap.size := by obtain ⟨m, hm⟩ := k0; exact DataW.trod_lt m _ _ _ hm
  have hB : BytesAt W W.heap.size a0 n := by
    obtain ⟨fuel, hf⟩ := h0
    rcases open_ints Tryd.underlying22 Tryd.underlying5 (by kernel_rfl) hf with ⟨hcs, _⟩ | ⟨x, l, cc, zs, hcs, _, hl, hm, hz, _, hcell, hwz⟩
    · simp [Value.cells] at hcs
      obtain ⟨rfl, rfl, rfl⟩ := hcs
      exact .inl rfl
    · simp [Value.cells] at hcs
      obtain ⟨rfl, rfl, rfl⟩ := hcs
      by_cases h0 : n = 0
      · exact .inl h0
      · simp at hz
        obtain ⟨b, o, rfl, hc⟩ := ints_at hcell (by omega)
        refine .inr ⟨b, o, rfl, World.block_lt_of_cell? W _ (hc 0 (by omega)), fun i hi => ?_⟩
        have hzi : i < zs.length := by omega
        have bd := bounds_u8 (hwz zs[i] (List.getElem_mem hzi))
        refine ⟨zs[i].toNat, by omega, ?_⟩
        rw [hc i hzi, show ((zs[i].toNat : Nat) : Int) = zs[i] by omega]
        simp [List.getD, hzi]
  refine (walk a0 n c W hB hN).mono fun e W' ⟨he, bel⟩ => ?_
  subst he
  exact ⟨_, rfl, _, _, _, [], _, _, hW', trodAll_mk1 (shut_bool Tryd.underlying4 _), (trodAll_cons_mk (Below.trod laidOut (by kernel_rfl) (of_decide_eq_true (by kernel_rfl)) k0 bel lt0) trodAll_mk0), vars_shut _ (hN.below bel hN.lt), bel.frame _, fun h => by cases h⟩

theorem row_holds : Rows.FnPlacesSaid :=
  OpenClaim.holds_of_wide 3 Tryd.f3 rfl rfl rfl rfl rfl rfl rfl ⟨rfl, rfl, rfl, rfl, rfl⟩ rfl rfl rfl rfl rfl (by kernel_rfl) Tryd.func3 (by kernel_rfl)
    (of_decide_eq_true (by kernel_rfl)) (by unfold Func.isWrapper; first | (rw [if_pos (by decide +kernel)]; kernel_rfl) | (rw [if_neg (by decide +kernel)]; exact ⟨rfl, rfl⟩))
    (fun os started H enc _ => lifted os started H enc)
end fnPlaces

theorem fnPlaces_holds : Rows.FnPlacesCardSaid :=
  Claim7.holds_tied_plain_at .later [] [.data] true Rows.fnPlacesCard.stood.harness false
    fnPlaces.row_holds (fun _ h => by cases h) (by kernel_rfl) (fun _ h => by cases h) fnPlaces_row_tie rfl ⟨rfl, rfl⟩ (by kernel_rfl) rfl
    (fun f fn hf hfn => by
      obtain rfl : f = 3 := Option.some.inj ((show Tryd.prog.funcNamed Rows.fnPlacesRow.func = some 3 by kernel_rfl).symm.trans hf) |>.symm
      obtain rfl : fn = Tryd.f3 := (Option.some.inj (Tryd.func3.symm.trans hfn)).symm
      exact ⟨by kernel_rfl, fun j t ht => by
        rw [Tryd.params3] at ht
        have hm : t ∈ [22] := by simpa using Array.mem_of_getElem? ht
        have hall : ([22].all fun u => !Tryd.prog.wantsStandIn u) = true := by kernel_rfl
        exact (show Tryd.prog.wantsStandIn t = false by simpa using List.all_eq_true.1 hall t hm)⟩)
    (by kernel_rfl)
#print axioms fnPlaces_holds
end Go.Proofs.YtbfkbbdfjoahcadDoor
