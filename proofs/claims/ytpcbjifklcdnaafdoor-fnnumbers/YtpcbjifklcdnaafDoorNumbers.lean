/- The law FnNumbers, at every code that is drawn from: its card holds, with no condition beyond the library's tables as the program's text lays them. -/
import Derived.Test.YtpcbjifklcdnaafDoorRows
import Derived.Test.YtpcbjifklcdnaafDoorTie
import Derived.Test.YtpcbjifklcdnaafDoorCards
import Derived.Test.YtpcbjifklcdnaafDoorImplNums
import Derived.Test.YtpcbjifklcdnaafDoorImplNum
import Derived.Test.YtpcbjifklcdnaafDoorImplSplit
import Derived.Test.YtpcbjifklcdnaafDoorDraw1
import Derived.Test.YtpcbjifklcdnaafDoorJoinB
import Derived.WalkKit
import Derived.ProofKit
import Derived.OpenShut
import Derived.ChangeOld
import Derived.Below
import Derived.LaidMore
import Derived.Stop.Joined
import Derived.Stop.LaidErr
import Derived.MakeChecks
import Derived.SevenTiedAt
namespace Go.Proofs.YtpcbjifklcdnaafDoor
open Go.ChangeShapes Go.WideShapes Go.ChangeAt Go.RowKit

theorem bytes_now {w w' : World} {a : Option Addr} {n : Nat} (h : BytesAt w w.heap.size a n) (hb : Below w.heap.size w w') : BytesAt w' w'.heap.size a n :=
  (h.keep fun k hk => hb.block k hk).mono hb.size
theorem implNumber_is (l : List UInt8) (hl : l.length ≤ 7) (w : World) :
    Calls Tryd.prog 7 #[S l] w fun e w' => NumEnds l e ∧ w' = w := by
  have h := implNumber_any ⟨l.toArray⟩ (by unfold maxLen; simp [ByteArray.size]; omega) w
  simpa using h
theorem specNumber_is (l : List UInt8) (hl : l.length ≤ 7) (w : World) :
    Calls Tryd.prog 8 #[S l] w fun e w' => NumEnds l e ∧ Below w.heap.size w w' := by
  have h := specNumber_any ⟨l.toArray⟩ (by unfold maxLen; simp [ByteArray.size]; omega) w
  simpa using h
/-- What Number hands back of l. -/
def NumIs (l : List UInt8) (nv : Int) (ok : Bool) : Prop := (Num l ∧ nv = (val l : Int) ∧ ok = true) ∨ (¬ Num l ∧ nv = 0 ∧ ok = false)
theorem numIs_ex (l : List UInt8) : ∃ nv ok, NumIs l nv ok := by
  by_cases h : Num l
  · exact ⟨_, _, .inl ⟨h, rfl, rfl⟩⟩
  · exact ⟨_, _, .inr ⟨h, rfl, rfl⟩⟩
theorem numIs_end {l : List UInt8} {nv : Int} {ok : Bool} {e : Ending} (h : NumIs l nv ok) (he : NumEnds l e) : e = .returned (.tuple #[.int .i64 nv, .bool ok]) := by
  rcases h with ⟨h, rfl, rfl⟩ | ⟨h, rfl, rfl⟩ <;> rcases he with ⟨k, rfl⟩ | ⟨k, rfl⟩ <;> first | rfl | exact absurd k h | exact absurd h k

theorem specDigits_is (n : Int) (h0 : -9223372036854775808 ≤ n) (h1 : n ≤ 9223372036854775807) (w : World) :
    Calls Tryd.prog 13 #[.int .i64 n] w fun e w' => e = .returned (S (Lib.itoa n)) ∧ Below w.heap.size w w' :=
  (digits_any n h0 h1 w).mono fun e w' ⟨⟨s, he, hs⟩, hb⟩ => ⟨by rw [he]; exact ret_str (by rw [hs]), hb⟩
theorem specNums_is (a : Option Addr) (n c : Nat) (xs : List Int) (w : World) (h : IntAt w a n xs) (hi : In64s xs) :
    Calls Tryd.prog 15 #[.slice a n c] w fun e w' => e = .returned (S (numsB xs)) ∧ Below w.heap.size w w' :=
  (specNums_any a n c xs w h hi).mono fun e w' ⟨⟨s, he, hs⟩, hb⟩ => ⟨by rw [he]; exact ret_str (by rw [hs]), hb⟩

theorem implSplit_is (l : List UInt8) (b : UInt8) (hl : l.length ≤ 7) (w : World) :
    Calls Tryd.prog 11 #[S l, .int .u8 (b.toNat : Int)] w fun e w' => ∃ g cap, e = .returned (.slice (some ⟨g, 0, none⟩) (splitB b l).length cap) ∧
      w'.ownsRow w.heap.size 9 1 (.slice (some ⟨g, 0, none⟩) (splitB b l).length cap) (splitB b l).length ((splitB b l).map S) ∧ Below w.heap.size w w' := by
  have h := implSplit_any ⟨l.toArray⟩ b (by simp [ByteArray.size]; omega) w
  simpa using h
theorem specSplit_is (l : List UInt8) (b : UInt8) (hl : l.length ≤ 7) (w : World) :
    Calls Tryd.prog 16 #[S l, .int .u8 (b.toNat : Int)] w fun e w' => ∃ g cap, e = .returned (.slice (some ⟨g, 0, none⟩) (splitB b l).length cap) ∧
      w'.ownsRow w.heap.size 9 1 (.slice (some ⟨g, 0, none⟩) (splitB b l).length cap) (splitB b l).length ((splitB b l).map S) ∧ Below w.heap.size w w' := by
  have h := specSplit_any ⟨l.toArray⟩ b (by simp [ByteArray.size]; omega) w
  simpa using h

namespace fnNumbers
theorem own : ownKnob Tryd.prog.godebug = none := by kernel_rfl
theorem laidOut : laidOutB Tryd.prog = true := by kernel_rfl

set_option maxHeartbeats 2000000 in
theorem walk (a : Option Addr) (n c : Nat) (w : World) (hB : BytesAt w w.heap.size a n) (htab : Lib.TabIs Tryd.prog w "internal/strconv.uint64pow10" .u64 Lib.pow10Tab) :
    Calls Tryd.prog 3 #[.slice a n c] w fun e w' => e = .returned (.bool true) ∧ Below w.heap.size w w' := by
  by_cases hbig : 1048576 < n
  · go_enter Tryd.func3, Tryd.ntmps3
    go_wp2
    go_ret
    exact ⟨rfl, Below.refl _ _⟩
  have hn : n ≤ 1048576 := by omega
  have HB : Hid (BytesAt w w.heap.size a n) := hB
  have HTAB : Hid (Lib.TabIs Tryd.prog w "internal/strconv.uint64pow10" .u64 Lib.pow10Tab) := htab
  clear hB htab
  go_enter Tryd.func3, Tryd.ntmps3
  go_wp2_with (go_at_call 4; go_in)
  refine (drawDigits_any a n c _ hn HB.out).mono ?_
  rintro e w1 ⟨i1, rfl, hb1⟩
  obtain ⟨d0, d1⟩ := digitsList_in i1
  obtain ⟨d, hd⟩ : ∃ d, digitsList.getD i1 0 = d := ⟨_, rfl⟩
  rw [hd] at d0 d1
  rw [hd]
  clear hd
  go_wp2_with fail
  refine (drawNumber_any a n c _ hn (bytes_now HB.out hb1)).mono ?_
  rintro e w2 ⟨i2, rfl, hb2⟩
  have hl2 := numberList_in i2
  obtain ⟨t, ht⟩ : ∃ t, numberList.getD i2 [] = t := ⟨_, rfl⟩
  rw [ht] at hl2
  rw [ht]
  clear ht
  have hb02 : Below w.heap.size w w2 := hb1.trans (hb2.mono hb1.size)
  clear hb1 hb2
  go_wp2_with fail
  obtain ⟨nv, ok, hr⟩ := numIs_ex t
  have HR : Hid (NumIs t nv ok) := hr
  clear hr
  refine (implNumber_is t hl2 _).mono ?_
  rintro e w2' ⟨he, rfl⟩
  obtain rfl := numIs_end HR.out he
  clear he
  go_wp2_with fail
  refine (specNumber_is t hl2 _).mono ?_
  rintro e w3 ⟨he, hb3⟩
  obtain rfl := numIs_end HR.out he
  have hb03 : Below w.heap.size w w3 := hb02.trans (hb3.mono hb02.size)
  clear he hb3 hb02
  go_wp2_with fail
  refine (drawNums_any a n c _ hn (bytes_now HB.out hb03)).mono ?_
  rintro e w4 ⟨xs, a', c', rfl, hxl, hin, hA, hb4⟩
  have HA : Hid (IntAt w4 a' xs.length xs) := hA
  have HIN : Hid (In64s xs) := hin
  have hb04 : Below w.heap.size w w4 := hb03.trans (hb4.mono hb03.size)
  clear hb4 hb03 hA hin
  go_wp2_with fail
  refine (drawSplit_any a n c _ hn (bytes_now HB.out hb04)).mono ?_
  rintro e w5 ⟨i5, b, rfl, hb5⟩
  have hl5 := splitList_in i5
  obtain ⟨l, hl⟩ : ∃ l, splitList.getD i5 [] = l := ⟨_, rfl⟩
  rw [hl] at hl5
  rw [hl]
  clear hl
  have HA5 : Hid (IntAt w5 a' xs.length xs) := HA.out.below hb5 (Nat.le_refl _)
  have hb05 : Below w.heap.size w w5 := hb04.trans (hb5.mono hb04.size)
  clear hb5 hb04 HA
  go_wp2_with fail
  refine (implSplit_is l b hl5 _).mono ?_
  rintro e w6 ⟨g, cap, rfl, own6, hb6⟩
  have HA6 : Hid (IntAt w6 a' xs.length xs) := HA5.out.below hb6 (Nat.le_refl _)
  have hb06 : Below w.heap.size w w6 := hb05.trans (hb6.mono hb05.size)
  clear hb6 hb05 HA5
  go_wp2_with fail
  refine (implDigits_any d d0 d1 _ (Joins.tab_stays gTab HTAB.out hb06 (Nat.le_refl _))).mono ?_
  rintro e w7 ⟨rfl, hb7⟩
  have HA7 : Hid (IntAt w7 a' xs.length xs) := HA6.out.below hb7 (Nat.le_refl _)
  have own7 := owns_below own6 hb7 (Nat.le_refl _)
  have hb07 : Below w.heap.size w w7 := hb06.trans (hb7.mono hb06.size)
  clear hb7 hb06 HA6 own6
  go_wp2_with fail
  refine (specDigits_is d d0 d1 _).mono ?_
  rintro e w8 ⟨rfl, hb8⟩
  have HA8 : Hid (IntAt w8 a' xs.length xs) := HA7.out.below hb8 (Nat.le_refl _)
  have own8 := owns_below own7 hb8 (Nat.le_refl _)
  have hb08 : Below w.heap.size w w8 := hb07.trans (hb8.mono hb07.size)
  clear hb8 hb07 HA7 own7
  rcases HR.out with ⟨hN, rfl, rfl⟩ | ⟨hN, rfl, rfl⟩
  rotate_left
  · have HA9 : Hid (IntAt w8 a' xs.length xs) := HA8
    have own9 := own8
    have hb09 := hb08
    clear hb08 HA8 own8 hN
    go_wp2_with fail
    refine (implNums_any a' xs.length c' xs _ HA9.out (by omega) HIN.out (Joins.tab_stays gTab HTAB.out hb09 (Nat.le_refl _))).mono ?_
    rintro e w10 ⟨rfl, hb10⟩
    have HA10 : Hid (IntAt w10 a' xs.length xs) := HA9.out.below hb10 (Nat.le_refl _)
    have own10 := owns_below own9 hb10 (Nat.le_refl _)
    have hb010 : Below w.heap.size w w10 := hb09.trans (hb10.mono hb09.size)
    clear hb10 hb09 HA9 own9
    go_wp2_with fail
    refine (specNums_is a' xs.length c' xs _ HA10.out HIN.out).mono ?_
    rintro e w11 ⟨rfl, hb11⟩
    have own11 := owns_below own10 hb11 (Nat.le_refl _)
    have hb011 : Below w.heap.size w w11 := hb010.trans (hb11.mono hb010.size)
    clear hb11 hb010 HA10 own10
    go_wp2_with fail
    have hall : ∀ w', Below w11.heap.size w11 w' → Below w.heap.size w w' := fun w' h => hb011.trans (h.mono hb011.size)
    have HALL : Hid (∀ w', Below w11.heap.size w11 w' → Below w.heap.size w w') := hall
    have hg := (own_base own11).2
    have HC : Hid (∀ k, k < (splitB b l).length → w11.cell? ⟨g, k, none⟩ = some (S ((splitB b l).getD k []))) := fun k hk => by
      rw [own11.cellAt k (by omega), List.getElem?_map, List.getElem?_eq_getElem hk]
      simp [List.getD, hk]
    have hm := splitB_len b l
    have hcv := one_byte
    clear hall hb011 own11
    go_loopw [13, 14] (fun bk j wr => ∃ (k : Nat) (s : ByteArray), k ≤ (splitB b l).length ∧ j = .int .i64 (k : Int) ∧ bk = .string s ∧ s.data.toList = Lib.join ((splitB b l).take k) [b] ∧ Below w11.heap.size w11 wr) (fun _ j _ => (splitB b l).length - (intOf j).toNat)
    case atStart => exact ⟨0, _, Nat.zero_le _, rfl, rfl, rfl, Below.refl _ _⟩
    case round =>
      obtain ⟨k, s, hk, rfl, rfl, hs, hb⟩ := hrel
      have hjl := join_take_len (splitB b l) k [b]
      rw [join_split, ← hs] at hjl
      have hsz : s.size ≤ 7 := by simp at hjl; omega
      have HS : Hid (s.data.toList = Lib.join ((splitB b l).take k) [b]) := hs
      clear hs hjl
      by_cases hlt : k < (splitB b l).length
      · have e1 := (hb.cell (p := ⟨g, k, none⟩) hg).trans (HC.out k hlt)
        have ht := take_snocS hlt
        have hjl := join_take_len (splitB b l) (k + 1) [b]
        rw [join_split, ht] at hjl
        obtain ⟨x, hx⟩ : ∃ x, (splitB b l).getD k [] = x := ⟨_, rfl⟩
        rw [hx] at e1 ht hjl
        have HT : Hid ((splitB b l).take (k + 1) = (splitB b l).take k ++ [x]) := ht
        clear hx ht
        by_cases hz : k = 0
        · subst hz
          have hxz : x.length ≤ 7 := by
            rw [List.take_zero, List.nil_append, Lib.join_one] at hjl
            omega
          clear hjl
          go_wp2
          go_roundw
          case rel => exact ⟨1, _, by omega, by go_num, rfl, by rw [app_str, HS.out, HT.out]; simp [Lib.join_one, Lib.join_nil], hb⟩
          case measure => simp [intOf]; omega
        · have hne : (splitB b l).take k ≠ [] := fun e => by
            have := congrArg List.length e
            rw [List.length_take, List.length_nil] at this
            omega
          have HNE : Hid ((splitB b l).take k ≠ []) := hne
          have hxz : x.length ≤ 7 := by
            rw [join_snoc _ _ _ hne] at hjl
            simp at hjl
            omega
          have hgw : g < wr.heap.size := Nat.lt_of_lt_of_le hg hb.size
          have e2 : ∀ o, (wr.alloc o).cell? ⟨g, k, none⟩ = some (S x) := fun o => (((Below.refl wr.heap.size wr).alloc (Nat.le_refl _) o).cell (p := ⟨g, k, none⟩) hgw).trans e1
          clear hjl hne
          go_wp2
          go_roundw
          case rel => exact ⟨k + 1, _, by omega, by go_num, rfl, by rw [app_str, app_str, HS.out, HT.out, join_snoc _ _ _ HNE.out], hb.alloc hb.size _⟩
          case measure => simp [intOf]; omega
      · have hkm : k = (splitB b l).length := by omega
        have hsl : s.data.toList = l := by rw [HS.out, hkm, List.take_length, join_split]
        obtain rfl : s = ⟨l.toArray⟩ := by cases s; simp_all [← hsl]
        clear hkm hsl
        go_wp2_with fail
        refine (specSplit_is l b hl5 _).mono ?_
        rintro e w12 ⟨g2, cap2, rfl, own12, hb12⟩
        have hfin := HALL.out w12 (hb.trans (hb12.mono hb.size))
        clear own12 hb12
        go_wp2
        go_ret
        exact ⟨rfl, hfin⟩
  · have hv := val_le6 t hN.2.2.1 hN.2.1
    have hit : Lib.itoa (val t : Int) = t := by rw [itoa_of_pos, num_dec hN]
    have HIT : Hid (Lib.itoa (val t : Int) = t) := hit
    clear hN hit
    go_wp2_with fail
    refine (implDigits_any (val t : Int) (by omega) (by omega) _ (Joins.tab_stays gTab HTAB.out hb08 (Nat.le_refl _))).mono ?_
    rintro e w9 ⟨rfl, hb9⟩
    rw [HIT.out]
    have HA9 : Hid (IntAt w9 a' xs.length xs) := HA8.out.below hb9 (Nat.le_refl _)
    have own9 := owns_below own8 hb9 (Nat.le_refl _)
    have hb09 : Below w.heap.size w w9 := hb08.trans (hb9.mono hb08.size)
    clear hb9 hb08 HA8 own8
    go_wp2_with fail
    refine (implNums_any a' xs.length c' xs _ HA9.out (by omega) HIN.out (Joins.tab_stays gTab HTAB.out hb09 (Nat.le_refl _))).mono ?_
    rintro e w10 ⟨rfl, hb10⟩
    have HA10 : Hid (IntAt w10 a' xs.length xs) := HA9.out.below hb10 (Nat.le_refl _)
    have own10 := owns_below own9 hb10 (Nat.le_refl _)
    have hb010 : Below w.heap.size w w10 := hb09.trans (hb10.mono hb09.size)
    clear hb10 hb09 HA9 own9
    go_wp2_with fail
    refine (specNums_is a' xs.length c' xs _ HA10.out HIN.out).mono ?_
    rintro e w11 ⟨rfl, hb11⟩
    have own11 := owns_below own10 hb11 (Nat.le_refl _)
    have hb011 : Below w.heap.size w w11 := hb010.trans (hb11.mono hb010.size)
    clear hb11 hb010 HA10 own10
    go_wp2_with fail
    have hall : ∀ w', Below w11.heap.size w11 w' → Below w.heap.size w w' := fun w' h => hb011.trans (h.mono hb011.size)
    have HALL : Hid (∀ w', Below w11.heap.size w11 w' → Below w.heap.size w w') := hall
    have hg := (own_base own11).2
    have HC : Hid (∀ k, k < (splitB b l).length → w11.cell? ⟨g, k, none⟩ = some (S ((splitB b l).getD k []))) := fun k hk => by
      rw [own11.cellAt k (by omega), List.getElem?_map, List.getElem?_eq_getElem hk]
      simp [List.getD, hk]
    have hm := splitB_len b l
    have hcv := one_byte
    clear hall hb011 own11
    go_loopw [13, 14] (fun bk j wr => ∃ (k : Nat) (s : ByteArray), k ≤ (splitB b l).length ∧ j = .int .i64 (k : Int) ∧ bk = .string s ∧ s.data.toList = Lib.join ((splitB b l).take k) [b] ∧ Below w11.heap.size w11 wr) (fun _ j _ => (splitB b l).length - (intOf j).toNat)
    case atStart => exact ⟨0, _, Nat.zero_le _, rfl, rfl, rfl, Below.refl _ _⟩
    case round =>
      obtain ⟨k, s, hk, rfl, rfl, hs, hb⟩ := hrel
      have hjl := join_take_len (splitB b l) k [b]
      rw [join_split, ← hs] at hjl
      have hsz : s.size ≤ 7 := by simp at hjl; omega
      have HS : Hid (s.data.toList = Lib.join ((splitB b l).take k) [b]) := hs
      clear hs hjl
      by_cases hlt : k < (splitB b l).length
      · have e1 := (hb.cell (p := ⟨g, k, none⟩) hg).trans (HC.out k hlt)
        have ht := take_snocS hlt
        have hjl := join_take_len (splitB b l) (k + 1) [b]
        rw [join_split, ht] at hjl
        obtain ⟨x, hx⟩ : ∃ x, (splitB b l).getD k [] = x := ⟨_, rfl⟩
        rw [hx] at e1 ht hjl
        have HT : Hid ((splitB b l).take (k + 1) = (splitB b l).take k ++ [x]) := ht
        clear hx ht
        by_cases hz : k = 0
        · subst hz
          have hxz : x.length ≤ 7 := by
            rw [List.take_zero, List.nil_append, Lib.join_one] at hjl
            omega
          clear hjl
          go_wp2
          go_roundw
          case rel => exact ⟨1, _, by omega, by go_num, rfl, by rw [app_str, HS.out, HT.out]; simp [Lib.join_one, Lib.join_nil], hb⟩
          case measure => simp [intOf]; omega
        · have hne : (splitB b l).take k ≠ [] := fun e => by
            have := congrArg List.length e
            rw [List.length_take, List.length_nil] at this
            omega
          have HNE : Hid ((splitB b l).take k ≠ []) := hne
          have hxz : x.length ≤ 7 := by
            rw [join_snoc _ _ _ hne] at hjl
            simp at hjl
            omega
          have hgw : g < wr.heap.size := Nat.lt_of_lt_of_le hg hb.size
          have e2 : ∀ o, (wr.alloc o).cell? ⟨g, k, none⟩ = some (S x) := fun o => (((Below.refl wr.heap.size wr).alloc (Nat.le_refl _) o).cell (p := ⟨g, k, none⟩) hgw).trans e1
          clear hjl hne
          go_wp2
          go_roundw
          case rel => exact ⟨k + 1, _, by omega, by go_num, rfl, by rw [app_str, app_str, HS.out, HT.out, join_snoc _ _ _ HNE.out], hb.alloc hb.size _⟩
          case measure => simp [intOf]; omega
      · have hkm : k = (splitB b l).length := by omega
        have hsl : s.data.toList = l := by rw [HS.out, hkm, List.take_length, join_split]
        obtain rfl : s = ⟨l.toArray⟩ := by cases s; simp_all [← hsl]
        clear hkm hsl
        go_wp2_with fail
        refine (specSplit_is l b hl5 _).mono ?_
        rintro e w12 ⟨g2, cap2, rfl, own12, hb12⟩
        have hfin := HALL.out w12 (hb.trans (hb12.mono hb.size))
        clear own12 hb12
        go_wp2
        go_ret
        exact ⟨rfl, hfin⟩
/-- The heap that the door's own run leaves meets the row's condition on the tables. -/
theorem door_met (os : Os) (args : Array Value) : laidMetH Tryd.prog Rows.fnNumbersRow.laid ((World.doorLaid Tryd.prog 24 os).forCall (fun _ _ => 0) ⟨#[], args, []⟩).memory :=
  laidMetH_of_parts3 (fuel := 8) (laidMet_of_run' 8 (by kernel_rfl) (by kernel_rfl)) (by kernel_rfl) (by kernel_rfl)

theorem of_laid {W : World} (h : laidMetH Tryd.prog Rows.fnNumbersRow.laid W) : Lib.TabIs Tryd.prog W "internal/strconv.uint64pow10" .u64 Lib.pow10Tab := by
  rw [MakeChecks.laidMetH_plain _ _ _ (by kernel_rfl)] at h
  have h2 : laidMet Tryd.prog [("internal/strconv.uint64pow10", Rows.laid_internal_strconv_uint64pow10)] W := laidMet.tail (laidMet.tail h)
  rw [tab_is] at h2
  exact Lib.tabIs_of_head gTab tTab Tryd.underlying72 Tryd.underlying62 cU64 cTab h2

set_option maxRecDepth 100000 in
theorem lifted (os : Os) (started : os.Started) (H : Type) (enc : TypeId × Value → H) :
    ReturnsInHanded {} Tryd.checked os 3 .any (fun w args => (Rows.fnNumbersSpec.pre enc Tryd.prog Tryd.f3 [] false w args ∧ laidMetH Tryd.prog Rows.fnNumbersRow.laid w) ∧ sizedMet enc Tryd.prog Tryd.f3 (OpenSpec.ofChange Rows.fnNumbersSpec) false w args)
      (Rows.fnNumbersSpec.post enc Tryd.prog Tryd.f3 false true false false) := by
  refine returnsInHanded_of_change_and (C := Tryd.checked) (X := fun w _ => laidMetH Tryd.prog Rows.fnNumbersRow.laid w) (fun _ _ _ hh h => h.of_heap hh) own started (by kernel_rfl) Tryd.func3
    (ChangeSpec.witness_shaped (enc := enc) (C := Tryd.checked) (os := os) (X := fun w _ => laidMetH Tryd.prog Rows.fnNumbersRow.laid w) false (World.doorLaid Tryd.prog 24 os) #[.slice none 0 0] 8 rfl (World.shaped_of_RefB (by kernel_rfl) (by kernel_rfl)) (by kernel_rfl) (by kernel_rfl) (by kernel_rfl) (door_met os _)) ?_
  intro W base args ds gs before hval0 hW _ _ hL _
  have hval : ∀ (j : Nat) t v, Tryd.f3.params[j]? = some t → args[j]? = some v → Value.okWide Tryd.prog W .any base t v := hval0
  have hW' := hW
  obtain ⟨p, q, hA0, hV, rfl, hfz, hnd⟩ := hW
  have hA : DataW.TrodAll enc Tryd.prog W 0 (fun _ => true) true Tryd.f3.params.toList args.toList ds p := hA0
  rw [Tryd.params3] at hA hval
  obtain ⟨v0, d0, rfl, rfl, h0⟩ := trodAll_one hA
  obtain ⟨rfl, rfl⟩ := trodVars_none hV
  obtain ⟨a0, n, c, rfl⟩ := okWide_slice Tryd.underlying22 (hval 0 22 v0 rfl rfl)
  have k0 := h0
  have lt0 : ∀ x ∈ p, x.block < W.heap.size := by obtain ⟨m, hm⟩ := k0; exact DataW.trod_lt m _ _ _ hm
  have hB : BytesAt W W.heap.size a0 n := by
    obtain ⟨fuel, hf⟩ := h0
    rcases open_ints Tryd.underlying22 Tryd.underlying5 (by kernel_rfl) hf with ⟨hcs, _⟩ | ⟨x, l, cc, zs, hcs, _, hl, hm, hz, _, hcell, hwz⟩
    · simp [Value.cells] at hcs
      obtain ⟨rfl, rfl, rfl⟩ := hcs
      exact .inl rfl
    · simp [Value.cells] at hcs
      obtain ⟨rfl, rfl, rfl⟩ := hcs
      by_cases h0 : n = 0
      · exact .inl h0
      · simp at hz
        obtain ⟨b, o, rfl, hc⟩ := ints_at hcell (by omega)
        refine .inr ⟨b, o, rfl, World.block_lt_of_cell? W _ (hc 0 (by omega)), fun i hi => ?_⟩
        have hzi : i < zs.length := by omega
        have bd := bounds_u8 (hwz zs[i] (List.getElem_mem hzi))
        refine ⟨zs[i].toNat, by omega, ?_⟩
        rw [hc i hzi, show ((zs[i].toNat : Nat) : Int) = zs[i] by omega]
        simp [List.getD, hzi]
  refine (walk a0 n c W hB (of_laid hL)).mono fun e W' ⟨he, bel⟩ => ?_
  subst he
  exact ⟨_, rfl, _, _, _, [], _, [], hW', trodAll_mk1 (shut_bool Tryd.underlying4 _), (trodAll_cons_mk (Below.trod laidOut (by kernel_rfl) (of_decide_eq_true (by kernel_rfl)) k0 bel lt0) trodAll_mk0), rfl, bel.frame _, fun h => by cases h⟩

theorem row_holds : Rows.FnNumbersSaid :=
  OpenClaim.holds_of_wide 3 Tryd.f3 rfl rfl rfl rfl rfl rfl rfl ⟨rfl, rfl, rfl, rfl, rfl⟩ rfl rfl rfl rfl rfl (by kernel_rfl) Tryd.func3 (by kernel_rfl)
    (of_decide_eq_true (by kernel_rfl)) (by unfold Func.isWrapper; first | (rw [if_pos (by decide +kernel)]; kernel_rfl) | (rw [if_neg (by decide +kernel)]; exact ⟨rfl, rfl⟩))
    (fun os started H enc _ => lifted os started H enc)
end fnNumbers

theorem fnNumbers_holds : Rows.FnNumbersCardSaid :=
  Claim7.holds_tied_plain_at .later [] [.data, .data, .data] true Rows.fnNumbersCard.stood.harness false
    fnNumbers.row_holds (fun _ h => by cases h) (by kernel_rfl) (fun _ h => by cases h) fnNumbers_row_tie rfl ⟨rfl, rfl⟩ (by kernel_rfl) rfl
    (fun f fn hf hfn => by
      obtain rfl : f = 3 := Option.some.inj ((show Tryd.prog.funcNamed Rows.fnNumbersRow.func = some 3 by kernel_rfl).symm.trans hf) |>.symm
      obtain rfl : fn = Tryd.f3 := (Option.some.inj (Tryd.func3.symm.trans hfn)).symm
      exact ⟨by kernel_rfl, fun j t ht => by
        rw [Tryd.params3] at ht
        have hm : t ∈ [22] := by simpa using Array.mem_of_getElem? ht
        have hall : ([22].all fun u => !Tryd.prog.wantsStandIn u) = true := by kernel_rfl
        exact (show Tryd.prog.wantsStandIn t = false by simpa using List.all_eq_true.1 hall t hm)⟩)
    (by kernel_rfl)
#print axioms fnNumbers_holds
end Go.Proofs.YtpcbjifklcdnaafDoor
