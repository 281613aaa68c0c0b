/- Texts joined: ImplHx, ImplVx, StrAt, ImplTy. -/
import Derived.Test.YtgibeakclknhnaaDoorTU07
import Derived.Test.YtgibeakclknhnaaDoorTU10
import Derived.Laws.BitsAllLaws
import Derived.Deep.Cut
import Derived.Test.YtgibeakclknhnaaDoorTU08
import Derived.Test.YtgibeakclknhnaaDoorRows
import Derived.Test.YtgibeakclknhnaaDoorTU01
import Derived.WalkKit
import Derived.ProofKit
import Derived.WalkSmall
set_option maxHeartbeats 4000000
set_option maxRecDepth 100000
namespace Go.Proofs.YtgibeakclknhnaaDoor
section
open Go.ChangeShapes Go.WideShapes Go.ChangeAt Go.RowKit
open Go.Lib (IsBuilder BuilderAt byteCells byteCells_length byteCells_append fresh_isBuilder)

theorem signI_at {i : Nat} (h : i < 16) : ∀ h', (⟨#[48, 49, 50, 51, 52, 53, 54, 55, 56, 57, 97, 98, 99, 100, 101, 102]⟩ : ByteArray)[i]'h' = signU i := by
  have h1 : ∀ k : Fin 16, (⟨#[48, 49, 50, 51, 52, 53, 54, 55, 56, 57, 97, 98, 99, 100, 101, 102]⟩ : ByteArray)[k.1]'k.2 = signU k.1 := by decide
  exact fun _ => h1 ⟨i, h⟩
theorem byte_cell (c : UInt8) : [Value.int .u8 (c.toNat : Int)] = byteCells [c] := rfl
theorem flagText_any (n : Int) (w : World) : Calls Tryd.prog 50 #[.int .i64 n] w fun e w' => TextSays e (if n = 0 then [110, 111] else [121, 101, 115]) ∧ Below w.heap.size w w' := by
  by_cases hn : n = 0
  · rw [if_pos hn]
    subst hn
    go_enter Tryd.func50, Tryd.ntmps50
    go_wp2
    go_ret
    exact ⟨⟨_, rfl, rfl⟩, Below.refl _ _⟩
  · rw [if_neg hn]
    have hb : (n == 0) = false := by simpa using hn
    go_enter Tryd.func50, Tryd.ntmps50
    go_wp2
    go_ret
    exact ⟨⟨_, rfl, rfl⟩, Below.refl _ _⟩
theorem hexText_any (s : ByteArray) (hs : s.size ≤ 20) (w : World) :
    Calls Tryd.prog 52 #[.string s] w fun e w' => (∃ u : ByteArray, e = .returned (.string u) ∧ u.data.toList = hexB s.data.toList) ∧ Below w.heap.size w w' := by
  obtain ⟨B, hBq⟩ : ∃ B, w.heap.size = B := ⟨_, rfl⟩
  obtain ⟨W, hW⟩ : ∃ W, w.alloc (.cells #[.pointer none, .slice none 0 0] 91) = W := ⟨_, rfl⟩
  have HI0 : Hid (IsBuilder 91 5 B B (byteCells (hexB (s.data.toList.take 0))) W) := by rw [← hW, ← hBq]; exact fresh_isBuilder _ _ _
  have HB0 : Hid (Below B w W) := by rw [← hW, ← hBq]; exact (Below.refl _ w).alloc (Nat.le_refl _) _
  have HW : Hid (w.alloc (.cells #[.pointer none, .slice none 0 0] 91) = W) := hW
  have HBQ : Hid (w.heap.size = B) := hBq
  clear hW hBq
  go_enter Tryd.func52, Tryd.ntmps52
  go_upto_region 2 with (fail)
  rw [HW.out]
  (try rw [HBQ.out])
  go_wp2
  go_loopw [7] (fun i wr => ∃ j : Nat, j ≤ s.size ∧ i = .int .i64 (j : Int) ∧ IsBuilder 91 5 B B (byteCells (hexB (s.data.toList.take j))) wr ∧ Below B w wr) (fun i _ => s.size - (intOf i).toNat)
  case atStart => exact ⟨0, Nat.zero_le _, rfl, HI0.out, HB0.out⟩
  case round =>
    obtain ⟨j, hj, rfl, hi, hb⟩ := hrel
    have HI : Hid (IsBuilder 91 5 B B (byteCells (hexB (s.data.toList.take j))) wr) := hi
    have HB : Hid (Below B w wr) := hb
    have HBS : Hid (B ≤ wr.heap.size) := by have h1 := hb.size; rw [HBQ.out] at h1; exact h1
    have hlen : (hexB (s.data.toList.take j)).length = 2 * j := by
      rw [hex_len, List.length_take, Array.length_toList]
      have : s.data.size = s.size := rfl
      omega
    clear hi hb
    by_cases hlt : j < s.size
    · have hk0 : (0 : Int) ≤ (j : Int) := by omega
      have hk1 : (j : Int) < (s.size : Int) := by omega
      have hb? : s.data.toList[j]? = some (s[j]'hlt) := by
        rw [Array.getElem?_toList]
        exact Array.getElem?_eq_getElem hlt
      have HX : Hid (hexB (s.data.toList.take (j + 1)) = _) := hex_succ hb?
      have hbd : j < s.data.size := hlt
      obtain ⟨b, hbq⟩ : ∃ b, s[j]'hlt = b := ⟨_, rfl⟩
      rw [hbq] at HX
      have hbn : b.toNat < 256 := b.toNat_lt
      have hbits : bits BinOp.and IntKind.u8 (b.toNat : Int) 15 = ((b.toNat % 16 : Nat) : Int) := by
        have h1 := u8_and_nat b.toNat 15 hbn (by decide)
        rw [show (15 : Int) = ((15 : Nat) : Int) from rfl, h1, show (15 : Nat) = 2 ^ 4 - 1 from rfl, Nat.and_two_pow_sub_one_eq_mod]
      obtain ⟨lo, hlo⟩ : ∃ lo : Nat, b.toNat % 16 = lo := ⟨_, rfl⟩
      rw [hlo] at hbits HX
      have hl16 : lo < 16 := by omega
      have hl0 : (0 : Int) ≤ (lo : Int) := by omega
      have hl1 : (lo : Int) < 16 := by omega
      have HS1 : Hid (∀ h, (⟨#[48, 49, 50, 51, 52, 53, 54, 55, 56, 57, 97, 98, 99, 100, 101, 102]⟩ : ByteArray)[b.toNat / 16]'h = signU (b.toNat / 16)) := signI_at (by omega)
      have HS2 : Hid (∀ h, (⟨#[48, 49, 50, 51, 52, 53, 54, 55, 56, 57, 97, 98, 99, 100, 101, 102]⟩ : ByteArray)[lo]'h = signU lo) := signI_at hl16
      have HLEN : Hid ((hexB (s.data.toList.take j)).length = 2 * j) := hlen
      clear hb? hlen
      go_wp2_with fail
      simp only [HS1.out]
      refine (Tryd.Builder_WriteByte B B _ _ wr HI.out (by rw [byteCells_length, HLEN.out]; omega) HBS.out).mono ?_
      rintro e w3 ⟨rfl, hi3, hb3⟩
      rw [byte_cell, ← byteCells_append] at hi3
      have HI3 : Hid (BuilderAt 91 5 B B _ _ w3) := hi3
      have HB3 : Hid (Below B w w3) := HB.out.trans hb3
      have hB3 : B ≤ w3.heap.size := Nat.le_trans HBS.out hb3.size
      clear hi3 hb3
      go_wp2_with fail
      simp only [HS2.out]
      refine (Tryd.Builder_WriteByte B B _ _ w3 (.inr HI3.out) (by rw [byteCells_length, List.length_append, HLEN.out]; show 2 * j + 1 + 1 ≤ _; omega) hB3).mono ?_
      rintro e w4 ⟨rfl, hi4, hb4⟩
      rw [byte_cell, ← byteCells_append] at hi4
      have HI4 : Hid (BuilderAt 91 5 B B _ _ w4) := hi4
      have HB4 : Hid (Below B w w4) := HB3.out.trans hb4
      clear hi4 hb4
      have hIN : IsBuilder 91 5 B B (byteCells (hexB (s.data.toList.take (j + 1)))) w4 := by
        rw [HX.out]
        have h4 := HI4.out
        rw [List.append_assoc] at h4
        exact .inr h4
      go_wp2
      go_roundw
      case rel => exact ⟨j + 1, by omega, by go_num, hIN, HB4.out⟩
      case measure => simp [intOf]; omega
    · obtain rfl : s.size = j := by omega
      have HEND : Hid (s.data.toList.take s.size = s.data.toList) := by show _ = _; rw [List.take_of_length_le (by simp)]
      go_wp2_with fail
      have hI := HI.out
      rw [HEND.out] at hI
      refine (Tryd.Builder_String_any B B _ wr hI HBS.out).mono ?_
      rintro e w5 ⟨rfl, hb5⟩
      have HB5 : Hid (Below B w w5) := HB.out.trans hb5
      clear hb5 hI
      go_wp2
      go_ret
      exact ⟨⟨_, rfl, rfl⟩, by rw [HBQ.out]; exact HB5.out⟩
open Go.Lib (itoa itoa_length_le)

theorem implVT_bad (k n : Int) (s : ByteArray) (hg : ¬ VaGood k n s) (w : World) (hT : PowT w) :
    Calls Tryd.prog 32 #[VaV k n s] w fun e w' => TextSays e [98, 97, 100] ∧ Below w.heap.size w w' := by
  have HG : Hid (decide (VaGood k n s) = false) := decide_eq_false hg
  have HT : Hid (PowT w) := hT
  clear hT
  obtain ⟨W, hW⟩ : ∃ W, w.alloc (.cells #[.int .i64 k, .int .i64 n, .string s] 37) = W := ⟨_, rfl⟩
  have HB0 : Hid (Below w.heap.size w W) := by rw [← hW]; exact (Below.refl _ w).alloc (Nat.le_refl _) _
  have X0 : Hid (Box W w.heap.size #[.int .i64 k, .int .i64 n, .string s] 37) := by rw [← hW]; exact box_of w _ _
  have HW : Hid (w.alloc (.cells #[.int .i64 k, .int .i64 n, .string s] 37) = W) := hW
  obtain ⟨c0, c1, c2⟩ := X0.out.triV
  clear hW
  go_enter Tryd.func32, Tryd.ntmps32
  go_upto_region 1 with (fail)
  rw [HW.out]
  go_wp2_with fail
  refine (implValueOk_any k n s _).mono ?_
  rintro e w1 ⟨rfl, hb1⟩
  rw [HG.out]
  have X1 : Hid (Box w1 w.heap.size #[.int .i64 k, .int .i64 n, .string s] 37) := X0.out.below hb1 X0.out.lt
  have HB1 : Hid (Below w.heap.size w w1) := HB0.out.trans (hb1.mono HB0.out.size)
  clear hb1 c0 c1 c2
  obtain ⟨c0, c1, c2⟩ := X1.out.triV
  go_wp2
  go_ret
  exact ⟨⟨_, rfl, rfl⟩, HB1.out⟩
theorem implVT_null  (w : World) (hT : PowT w) :
    Calls Tryd.prog 32 #[VaV 0 0 ⟨#[]⟩] w fun e w' => TextSays e [110, 117, 108, 108] ∧ Below w.heap.size w w' := by
  have HG : Hid (decide (VaGood 0 0 ⟨#[]⟩) = true) := decide_eq_true (by unfold VaGood; exact .inl ⟨rfl, rfl, rfl⟩)
  have HT : Hid (PowT w) := hT
  clear hT
  obtain ⟨W, hW⟩ : ∃ W, w.alloc (.cells #[.int .i64 0, .int .i64 0, .string ⟨#[]⟩] 37) = W := ⟨_, rfl⟩
  have HB0 : Hid (Below w.heap.size w W) := by rw [← hW]; exact (Below.refl _ w).alloc (Nat.le_refl _) _
  have X0 : Hid (Box W w.heap.size #[.int .i64 0, .int .i64 0, .string ⟨#[]⟩] 37) := by rw [← hW]; exact box_of w _ _
  have HW : Hid (w.alloc (.cells #[.int .i64 0, .int .i64 0, .string ⟨#[]⟩] 37) = W) := hW
  obtain ⟨c0, c1, c2⟩ := X0.out.triV
  clear hW
  go_enter Tryd.func32, Tryd.ntmps32
  go_upto_region 1 with (fail)
  rw [HW.out]
  go_wp2_with fail
  refine (implValueOk_any 0 0 ⟨#[]⟩ _).mono ?_
  rintro e w1 ⟨rfl, hb1⟩
  rw [HG.out]
  have X1 : Hid (Box w1 w.heap.size #[.int .i64 0, .int .i64 0, .string ⟨#[]⟩] 37) := X0.out.below hb1 X0.out.lt
  have HB1 : Hid (Below w.heap.size w w1) := HB0.out.trans (hb1.mono HB0.out.size)
  clear hb1 c0 c1 c2
  obtain ⟨c0, c1, c2⟩ := X1.out.triV
  go_wp2
  go_ret
  exact ⟨⟨_, rfl, rfl⟩, HB1.out⟩
theorem implVT_flag (n : Int) (hn : 0 ≤ n ∧ n ≤ 1) (L : List UInt8) (hL : (if n = 0 then [110, 111] else [121, 101, 115]) = L) (w : World) (hT : PowT w) :
    Calls Tryd.prog 32 #[VaV 1 n ⟨#[]⟩] w fun e w' => TextSays e L ∧ Below w.heap.size w w' := by
  have HG : Hid (decide (VaGood 1 n ⟨#[]⟩) = true) := decide_eq_true (by unfold VaGood; exact .inr (.inl ⟨rfl, hn, rfl⟩))
  have HT : Hid (PowT w) := hT
  clear hT
  obtain ⟨W, hW⟩ : ∃ W, w.alloc (.cells #[.int .i64 1, .int .i64 n, .string ⟨#[]⟩] 37) = W := ⟨_, rfl⟩
  have HB0 : Hid (Below w.heap.size w W) := by rw [← hW]; exact (Below.refl _ w).alloc (Nat.le_refl _) _
  have X0 : Hid (Box W w.heap.size #[.int .i64 1, .int .i64 n, .string ⟨#[]⟩] 37) := by rw [← hW]; exact box_of w _ _
  have HW : Hid (w.alloc (.cells #[.int .i64 1, .int .i64 n, .string ⟨#[]⟩] 37) = W) := hW
  obtain ⟨c0, c1, c2⟩ := X0.out.triV
  clear hW
  go_enter Tryd.func32, Tryd.ntmps32
  go_upto_region 1 with (fail)
  rw [HW.out]
  go_wp2_with fail
  refine (implValueOk_any 1 n ⟨#[]⟩ _).mono ?_
  rintro e w1 ⟨rfl, hb1⟩
  rw [HG.out]
  have X1 : Hid (Box w1 w.heap.size #[.int .i64 1, .int .i64 n, .string ⟨#[]⟩] 37) := X0.out.below hb1 X0.out.lt
  have HB1 : Hid (Below w.heap.size w w1) := HB0.out.trans (hb1.mono HB0.out.size)
  clear hb1 c0 c1 c2
  obtain ⟨c0, c1, c2⟩ := X1.out.triV
  go_wp2_with fail
  refine (flagText_any n _).mono ?_
  rintro e w2 ⟨⟨t, rfl, ht⟩, hb2⟩
  have HTX : Hid (t.data.toList = L) := ht.trans hL
  have HB2 : Hid (Below w.heap.size w w2) := HB1.out.trans (hb2.mono HB1.out.size)
  clear hb2 ht hL
  go_wp2
  go_ret
  exact ⟨⟨_, rfl, HTX.out⟩, HB2.out⟩
theorem implVT_int (n : Int) (hn : -1000000000000 ≤ n ∧ n ≤ 1000000000000) (w : World) (hT : PowT w) :
    Calls Tryd.prog 32 #[VaV 2 n ⟨#[]⟩] w fun e w' => TextSays e (itoa n) ∧ Below w.heap.size w w' := by
  have HG : Hid (decide (VaGood 2 n ⟨#[]⟩) = true) := decide_eq_true (by unfold VaGood; exact .inr (.inr (.inl ⟨rfl, hn, rfl⟩)))
  have HT : Hid (PowT w) := hT
  clear hT
  obtain ⟨W, hW⟩ : ∃ W, w.alloc (.cells #[.int .i64 2, .int .i64 n, .string ⟨#[]⟩] 37) = W := ⟨_, rfl⟩
  have HB0 : Hid (Below w.heap.size w W) := by rw [← hW]; exact (Below.refl _ w).alloc (Nat.le_refl _) _
  have X0 : Hid (Box W w.heap.size #[.int .i64 2, .int .i64 n, .string ⟨#[]⟩] 37) := by rw [← hW]; exact box_of w _ _
  have HW : Hid (w.alloc (.cells #[.int .i64 2, .int .i64 n, .string ⟨#[]⟩] 37) = W) := hW
  obtain ⟨c0, c1, c2⟩ := X0.out.triV
  clear hW
  go_enter Tryd.func32, Tryd.ntmps32
  go_upto_region 1 with (fail)
  rw [HW.out]
  go_wp2_with fail
  refine (implValueOk_any 2 n ⟨#[]⟩ _).mono ?_
  rintro e w1 ⟨rfl, hb1⟩
  rw [HG.out]
  have X1 : Hid (Box w1 w.heap.size #[.int .i64 2, .int .i64 n, .string ⟨#[]⟩] 37) := X0.out.below hb1 X0.out.lt
  have HB1 : Hid (Below w.heap.size w w1) := HB0.out.trans (hb1.mono HB0.out.size)
  clear hb1 c0 c1 c2
  obtain ⟨c0, c1, c2⟩ := X1.out.triV
  go_wp2_with fail
  refine (implDigits_any n (by omega) (by omega) _ (HT.out.below HB1.out (Nat.le_refl _)).pow).mono ?_
  rintro e w2 ⟨rfl, hb2⟩
  have HB2 : Hid (Below w.heap.size w w2) := HB1.out.trans (hb2.mono HB1.out.size)
  clear hb2
  go_wp2
  go_ret
  exact ⟨⟨_, rfl, rfl⟩, HB2.out⟩
theorem implVT_text (s : ByteArray) (hs : s.size ≤ 20) (w : World) (hT : PowT w) :
    Calls Tryd.prog 32 #[VaV 3 0 s] w fun e w' => TextSays e (34 :: hexB s.data.toList) ∧ Below w.heap.size w w' := by
  have HG : Hid (decide (VaGood 3 0 s) = true) := decide_eq_true (by unfold VaGood; exact .inr (.inr (.inr ⟨rfl, rfl, hs⟩)))
  have HT : Hid (PowT w) := hT
  clear hT
  obtain ⟨W, hW⟩ : ∃ W, w.alloc (.cells #[.int .i64 3, .int .i64 0, .string s] 37) = W := ⟨_, rfl⟩
  have HB0 : Hid (Below w.heap.size w W) := by rw [← hW]; exact (Below.refl _ w).alloc (Nat.le_refl _) _
  have X0 : Hid (Box W w.heap.size #[.int .i64 3, .int .i64 0, .string s] 37) := by rw [← hW]; exact box_of w _ _
  have HW : Hid (w.alloc (.cells #[.int .i64 3, .int .i64 0, .string s] 37) = W) := hW
  obtain ⟨c0, c1, c2⟩ := X0.out.triV
  clear hW
  go_enter Tryd.func32, Tryd.ntmps32
  go_upto_region 1 with (fail)
  rw [HW.out]
  go_wp2_with fail
  refine (implValueOk_any 3 0 s _).mono ?_
  rintro e w1 ⟨rfl, hb1⟩
  rw [HG.out]
  have X1 : Hid (Box w1 w.heap.size #[.int .i64 3, .int .i64 0, .string s] 37) := X0.out.below hb1 X0.out.lt
  have HB1 : Hid (Below w.heap.size w w1) := HB0.out.trans (hb1.mono HB0.out.size)
  clear hb1 c0 c1 c2
  obtain ⟨c0, c1, c2⟩ := X1.out.triV
  go_wp2_with fail
  refine (hexText_any s hs _).mono ?_
  rintro e w2 ⟨⟨u, rfl, hu⟩, hb2⟩
  have HB2 : Hid (Below w.heap.size w w2) := HB1.out.trans (hb2.mono HB1.out.size)
  have hul : u.size ≤ 40 := by
    have h1 := congrArg List.length hu
    rw [hex_len] at h1
    have h2 : u.data.toList.length = u.size := by simp
    have h3 : s.data.toList.length = s.size := by simp
    omega
  have HV : Hid ((⟨#[34]⟩ ++ u : ByteArray).data.toList = 34 :: hexB s.data.toList) := by show _ = _; rw [show (⟨#[34]⟩ ++ u : ByteArray).data.toList = 34 :: u.data.toList by simp, hu]
  have hc1 : (⟨#[34]⟩ : ByteArray).size + u.size ≤ 9223372036854775807 := by show 1 + u.size ≤ _; omega
  have hc2 : ¬ 9223372036854775807 < (⟨#[34]⟩ : ByteArray).size + u.size := by omega
  have hc3 : 1 + u.size ≤ 9223372036854775807 := hc1
  have hc4 : ¬ 9223372036854775807 < 1 + u.size := hc2
  clear hb2 hu hul
  go_wp2
  go_ret
  exact ⟨⟨_, rfl, HV.out⟩, HB2.out⟩
theorem implValueText_any (k n : Int) (s : ByteArray) (w : World) (hT : PowT w) :
    Calls Tryd.prog 32 #[VaV k n s] w fun e w' => TextSays e (valB k n s) ∧ Below w.heap.size w w' := by
  by_cases hg : VaGood k n s
  · unfold valB
    rw [if_neg (fun h => h hg)]
    rcases hg with ⟨rfl, rfl, h2⟩ | ⟨rfl, h1, h2⟩ | ⟨rfl, h1, h2⟩ | ⟨rfl, rfl, h2⟩
    · rw [str_nil h2]
      exact implVT_null w hT
    · rw [str_nil h2]
      exact implVT_flag n h1 _ rfl w hT
    · rw [str_nil h2]
      exact implVT_int n h1 w hT
    · exact implVT_text s h2 w hT
  · unfold valB
    rw [if_pos hg]
    exact implVT_bad k n s hg w hT
def StrAt (w : World) (a : Option Addr) (n : Nat) (xs : List (List UInt8)) : Prop :=
  xs.length = n ∧ n ≤ 1099511627776 ∧ (n = 0 ∨ ∃ b o, a = some ⟨b, o, none⟩ ∧ ∀ i, i < n → w.cell? ⟨b, o + i, none⟩ = some (S (xs.getD i [])))

theorem StrAt.draws {w : World} {a : Option Addr} {n : Nat} {xs : List (List UInt8)} (h : StrAt w a n xs) (m : Nat) : StrAt (w.drewN m) a n xs := h

theorem infoStr : (Tryd.prog.info? 9).map (fun i => (i.zero, i.size, i.bytes)) = some (some (.string ⟨#[]⟩), 1, 16) := by kernel_rfl
open Go.Lib hiding intOf

def vaT (x : Va3) : List UInt8 := valB x.1 x.2.1 x.2.2
def uptoV (L : List Va3) (k n : Nat) : List (List UInt8) := (L.take k).map vaT ++ List.replicate (n - k) []
theorem uptoV_step {L : List Va3} {k n : Nat} {x : Va3} (hx : L[k]? = some x) (hn : L.length = n) : (((uptoV L k n).map S).set k (S (vaT x))) = (uptoV L (k + 1) n).map S := by
  rw [← List.map_set]
  congr 1
  unfold uptoV
  have h : k < L.length := (List.getElem?_eq_some_iff.1 hx).1
  have hl : ((L.take k).map vaT).length = k := by rw [List.length_map, List.length_take]; omega
  rw [List.set_append_right _ _ (by omega), hl, Nat.sub_self, show n - k = (n - (k + 1)) + 1 by omega, List.replicate_succ, List.set_cons_zero, take_snocV hx, List.map_append, List.append_assoc]
  rfl
theorem uptoV_end {L : List Va3} {n : Nat} (hn : L.length = n) : uptoV L n n = L.map vaT := by
  unfold uptoV
  rw [List.take_of_length_le (by omega)]; simp
def textsV (L : List Va3) : List ByteArray := L.map fun x => ⟨(vaT x).toArray⟩
theorem textsV_list (L : List Va3) : (textsV L).map (·.data.toList) = L.map vaT := by simp [textsV, Function.comp_def]
theorem textsV_len (L : List Va3) : (textsV L).length = L.length := by simp [textsV]
theorem joinV_cells {w : World} {base g n : Nat} {L : List Va3} (hn : L.length = n) (h : w.ownsRow base 9 1 (.slice (some ⟨g, 0, none⟩) n n) n ((L.map vaT).map S)) :
    ∀ (j : Nat) x, (textsV L)[j]? = some x → w.cell? ⟨g, 0 + j, none⟩ = some (.string x) := by
  intro j x hj
  have hjl : j < L.length := by have := (List.getElem?_eq_some_iff.1 hj).1; simpa [textsV] using this
  rw [Nat.zero_add, h.cellAt j (by omega)]
  simp [textsV, hjl] at hj
  subst hj
  simp [hjl]
theorem implTupleText_any (a : Option Addr) (n c : Nat) (L : List Va3) (w : World) (hT : PowT w) (h : VasAt w a n L) :
    Calls Tryd.prog 16 #[.slice a n c] w fun e w' => TextSays e (txtsB L) ∧ Below w.heap.size w w' := by
  have HH : Hid (VasAt w a n L) := h
  have HT : Hid (PowT w) := hT
  have hn : n ≤ 2097152 := h.2.1
  have HL : Hid (L.length = n) := h.1
  have HLEN : Hid ((join ((textsV L).map (·.data.toList)) [44]).length ≤ 140737488355328) := by
    have h1 := txtsB_len n L h.1
    rw [textsV_list]
    show (txtsB L).length ≤ _
    omega
  clear h hT
  obtain ⟨i0, hi, hz0, hz1, hz2⟩ := info_parts infoStr
  go_enter Tryd.func16, Tryd.ntmps16
  go_wp2_with (at_make; refine wpList_make_full _ rfl _ _ 55 rfl w.heap.size 9 i0 (.string ⟨#[]⟩) 1 Tryd.underlying55 hi hz0 hz1 .i64 .i64 _ _ n rfl rfl rfl rfl (by rw [hz2]; omega) (by unfold maxLen; omega) (Nat.le_refl _) ?_; intro w1 own1 grow1)
  have own0 : w1.ownsRow w.heap.size 9 1 (.slice (some ⟨w.heap.size, 0, none⟩) n n) n ((uptoV L 0 n).map S) := by
    have e : (madeCells (Value.string ⟨#[]⟩).cells (n * 1)).toList = (uptoV L 0 n).map S := by
      rw [Nat.mul_one]
      exact (toList_madeCells_one _ _).trans (by simp [uptoV])
    rwa [e] at own1
  have hb1 : Below w.heap.size w w1 := (Below.refl _ _).grown grow1 (Nat.le_refl _) (fun k e => by cases e)
  clear own1 grow1
  go_loopw [11] (fun i wr => ∃ k : Nat, k ≤ n ∧ i = .int .i64 (k : Int) ∧ wr.ownsRow w.heap.size 9 1 (.slice (some ⟨w.heap.size, 0, none⟩) n n) n ((uptoV L k n).map S) ∧ Below w.heap.size w wr) (fun i _ => n - (intOf i).toNat)
  case atStart => exact ⟨0, Nat.zero_le _, rfl, own0, hb1⟩
  case round =>
    obtain ⟨k, hk, rfl, ho, hb⟩ := hrel
    clear own0 hb1
    by_cases hlt : k < n
    · rcases (HH.out.below hb (Nat.le_refl _)).2.2 with h0 | ⟨p1, o1, rfl, g1⟩
      · omega
      obtain ⟨x, hx⟩ : ∃ x, L[k]? = some x := ⟨_, List.getElem?_eq_getElem (by have := HL.out; omega)⟩
      obtain ⟨e0, e1, e2⟩ := g1 k x hx
      have HU : Hid (((uptoV L k n).map S).set k (S (vaT x)) = (uptoV L (k + 1) n).map S) := uptoV_step hx HL.out
      obtain ⟨xk, xn, xs⟩ := x
      dsimp only at e0 e1 e2
      have hk0 : (0 : Int) ≤ (k : Int) := by omega
      have hk1 : (k : Int) < (n : Int) := by omega
      clear g1 hx
      obtain ⟨W, hW⟩ : ∃ W, wr.alloc (.cells #[.int .i64 xk, .int .i64 xn, .string xs] 37) = W := ⟨_, rfl⟩
      have hbW : Below wr.heap.size wr W := by rw [← hW]; exact (Below.refl _ wr).alloc (Nat.le_refl _) _
      have X0 : Hid (Box W wr.heap.size #[.int .i64 xk, .int .i64 xn, .string xs] 37) := by rw [← hW]; exact box_of wr _ _
      have HW : Hid (wr.alloc (.cells #[.int .i64 xk, .int .i64 xn, .string xs] 37) = W) := hW
      have HBW : Hid (Below wr.heap.size wr W) := hbW
      have HO : Hid (wr.ownsRow w.heap.size 9 1 (.slice (some ⟨w.heap.size, 0, none⟩) n n) n ((uptoV L k n).map S)) := ho
      have HB : Hid (Below w.heap.size w wr) := hb
      have HTW : Hid (PowT W) := HT.out.below (hb.trans (hbW.mono hb.size)) (Nat.le_refl _)
      clear hbW hW ho hb
      go_upto_region 5 with (fail)
      rw [HW.out]
      obtain ⟨c0, c1, c2⟩ := X0.out.triV
      go_wp2_with fail
      refine (implValueText_any xk xn xs _ HTW.out).mono ?_
      rintro e w2 ⟨⟨s2, rfl, hs2⟩, hb2⟩
      obtain rfl : s2 = ⟨(vaT (xk, xn, xs)).toArray⟩ := str_eq (by rw [hs2]; rfl)
      have hbr : Below wr.heap.size wr w2 := HBW.out.trans (hb2.mono HBW.out.size)
      have ho2 := owns_below HO.out hbr (Nat.le_refl _)
      have hf2 := ho2.frozenAt k
      obtain ⟨u, hc2⟩ := own_cell ho2 hlt
      have hst := (ho2.stored k (S (vaT (xk, xn, xs)))).1
      rw [HU.out] at hst
      go_wp2
      exact ⟨⟨k + 1, by omega, by go_num, hst, (HB.out.trans (hbr.mono HB.out.size)).setCell (Nat.le_refl _) _⟩, by simp [intOf]; omega⟩
    · obtain rfl : k = n := by omega
      rw [uptoV_end HL.out] at ho
      have hcells := joinV_cells HL.out ho
      have HC : Hid (∀ (j : Nat) x, (textsV L)[j]? = some x → wr.cell? ⟨w.heap.size, 0 + j, none⟩ = some (.string x)) := hcells
      have hlt2 := (own_base ho).2
      clear hcells ho
      have htl : Hid ((textsV L).length = k) := (textsV_len L).trans HL.out
      go_wp2_with fail
      have J := Tryd.strings_Join w.heap.size 0 k (textsV L) ⟨#[44]⟩ wr HC.out hlt2 (by have := htl.out; omega) (by have := htl.out; omega) HLEN.out
      rw [htl.out] at J
      refine J.mono ?_
      rintro e w3 ⟨rfl, hb3⟩
      go_wp2
      go_ret
      exact ⟨⟨_, rfl, by rw [textsV_list]; rfl⟩, hb.trans (hb3.mono hb.size)⟩
end
end Go.Proofs.YtgibeakclknhnaaDoor
