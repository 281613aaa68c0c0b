/- The program's hexText and flagText: two signs for each byte, written into a strings.Builder. -/
import Derived.Test.YtgibeakclknhnabDoorTxt17
import Derived.Test.YtgibeakclknhnabDoorShelfH
import Derived.Laws.BitsAllLaws
import Derived.Deep.Cut
namespace Go.Proofs.YtgibeakclknhnabDoor
open Go.ChangeShapes Go.WideShapes Go.ChangeAt Go.RowKit
open Go.Lib (IsBuilder BuilderAt byteCells byteCells_length byteCells_append fresh_isBuilder)

theorem signI_at {i : Nat} (h : i < 16) : ∀ h', (⟨#[48, 49, 50, 51, 52, 53, 54, 55, 56, 57, 97, 98, 99, 100, 101, 102]⟩ : ByteArray)[i]'h' = signU i := by
  have h1 : ∀ k : Fin 16, (⟨#[48, 49, 50, 51, 52, 53, 54, 55, 56, 57, 97, 98, 99, 100, 101, 102]⟩ : ByteArray)[k.1]'k.2 = signU k.1 := by decide
  exact fun _ => h1 ⟨i, h⟩
theorem byte_cell (c : UInt8) : [Value.int .u8 (c.toNat : Int)] = byteCells [c] := rfl
theorem flagText_any (n : Int) (w : World) : Calls Tryd.prog 39 #[.int .i64 n] w fun e w' => TextSays e (if n = 0 then [110, 111] else [121, 101, 115]) ∧ Below w.heap.size w w' := by
  by_cases hn : n = 0
  · rw [if_pos hn]
    subst hn
    go_enter Tryd.func39, Tryd.ntmps39
    go_wp2
    go_ret
    exact ⟨⟨_, rfl, rfl⟩, Below.refl _ _⟩
  · rw [if_neg hn]
    have hb : (n == 0) = false := by simpa using hn
    go_enter Tryd.func39, Tryd.ntmps39
    go_wp2
    go_ret
    exact ⟨⟨_, rfl, rfl⟩, Below.refl _ _⟩
set_option maxHeartbeats 4000000 in
set_option maxRecDepth 100000 in
theorem hexText_any (s : ByteArray) (hs : s.size ≤ 20) (w : World) :
    Calls Tryd.prog 41 #[.string s] w fun e w' => (∃ u : ByteArray, e = .returned (.string u) ∧ u.data.toList = hexB s.data.toList) ∧ Below w.heap.size w w' := by
  obtain ⟨B, hBq⟩ : ∃ B, w.heap.size = B := ⟨_, rfl⟩
  obtain ⟨W, hW⟩ : ∃ W, w.alloc (.cells #[.pointer none, .slice none 0 0] 84) = W := ⟨_, rfl⟩
  have HI0 : Hid (IsBuilder 84 5 B B (byteCells (hexB (s.data.toList.take 0))) W) := by rw [← hW, ← hBq]; exact fresh_isBuilder _ _ _
  have HB0 : Hid (Below B w W) := by rw [← hW, ← hBq]; exact (Below.refl _ w).alloc (Nat.le_refl _) _
  have HW : Hid (w.alloc (.cells #[.pointer none, .slice none 0 0] 84) = W) := hW
  have HBQ : Hid (w.heap.size = B) := hBq
  clear hW hBq
  go_enter Tryd.func41, Tryd.ntmps41
  go_upto_region 2 with (fail)
  rw [HW.out]
  (try rw [HBQ.out])
  go_wp2
  go_loopw [7] (fun i wr => ∃ j : Nat, j ≤ s.size ∧ i = .int .i64 (j : Int) ∧ IsBuilder 84 5 B B (byteCells (hexB (s.data.toList.take j))) wr ∧ Below B w wr) (fun i _ => s.size - (intOf i).toNat)
  case atStart => exact ⟨0, Nat.zero_le _, rfl, HI0.out, HB0.out⟩
  case round =>
    obtain ⟨j, hj, rfl, hi, hb⟩ := hrel
    have HI : Hid (IsBuilder 84 5 B B (byteCells (hexB (s.data.toList.take j))) wr) := hi
    have HB : Hid (Below B w wr) := hb
    have HBS : Hid (B ≤ wr.heap.size) := by have h1 := hb.size; rw [HBQ.out] at h1; exact h1
    have hlen : (hexB (s.data.toList.take j)).length = 2 * j := by
      rw [hex_len, List.length_take, Array.length_toList]
      have : s.data.size = s.size := rfl
      omega
    clear hi hb
    by_cases hlt : j < s.size
    · have hk0 : (0 : Int) ≤ (j : Int) := by omega
      have hk1 : (j : Int) < (s.size : Int) := by omega
      have hb? : s.data.toList[j]? = some (s[j]'hlt) := by
        rw [Array.getElem?_toList]
        exact Array.getElem?_eq_getElem hlt
      have HX : Hid (hexB (s.data.toList.take (j + 1)) = _) := hex_succ hb?
      have hbd : j < s.data.size := hlt
      obtain ⟨b, hbq⟩ : ∃ b, s[j]'hlt = b := ⟨_, rfl⟩
      rw [hbq] at HX
      have hbn : b.toNat < 256 := b.toNat_lt
      have hbits : bits BinOp.and IntKind.u8 (b.toNat : Int) 15 = ((b.toNat % 16 : Nat) : Int) := by
        have h1 := u8_and_nat b.toNat 15 hbn (by decide)
        rw [show (15 : Int) = ((15 : Nat) : Int) from rfl, h1, show (15 : Nat) = 2 ^ 4 - 1 from rfl, Nat.and_two_pow_sub_one_eq_mod]
      obtain ⟨lo, hlo⟩ : ∃ lo : Nat, b.toNat % 16 = lo := ⟨_, rfl⟩
      rw [hlo] at hbits HX
      have hl16 : lo < 16 := by omega
      have hl0 : (0 : Int) ≤ (lo : Int) := by omega
      have hl1 : (lo : Int) < 16 := by omega
      have HS1 : Hid (∀ h, (⟨#[48, 49, 50, 51, 52, 53, 54, 55, 56, 57, 97, 98, 99, 100, 101, 102]⟩ : ByteArray)[b.toNat / 16]'h = signU (b.toNat / 16)) := signI_at (by omega)
      have HS2 : Hid (∀ h, (⟨#[48, 49, 50, 51, 52, 53, 54, 55, 56, 57, 97, 98, 99, 100, 101, 102]⟩ : ByteArray)[lo]'h = signU lo) := signI_at hl16
      have HLEN : Hid ((hexB (s.data.toList.take j)).length = 2 * j) := hlen
      clear hb? hlen
      go_wp2_with fail
      simp only [HS1.out]
      refine (Tryd.Builder_WriteByte B B _ _ wr HI.out (by rw [byteCells_length, HLEN.out]; omega) HBS.out).mono ?_
      rintro e w3 ⟨rfl, hi3, hb3⟩
      rw [byte_cell, ← byteCells_append] at hi3
      have HI3 : Hid (BuilderAt 84 5 B B _ _ w3) := hi3
      have HB3 : Hid (Below B w w3) := HB.out.trans hb3
      have hB3 : B ≤ w3.heap.size := Nat.le_trans HBS.out hb3.size
      clear hi3 hb3
      go_wp2_with fail
      simp only [HS2.out]
      refine (Tryd.Builder_WriteByte B B _ _ w3 (.inr HI3.out) (by rw [byteCells_length, List.length_append, HLEN.out]; show 2 * j + 1 + 1 ≤ _; omega) hB3).mono ?_
      rintro e w4 ⟨rfl, hi4, hb4⟩
      rw [byte_cell, ← byteCells_append] at hi4
      have HI4 : Hid (BuilderAt 84 5 B B _ _ w4) := hi4
      have HB4 : Hid (Below B w w4) := HB3.out.trans hb4
      clear hi4 hb4
      have hIN : IsBuilder 84 5 B B (byteCells (hexB (s.data.toList.take (j + 1)))) w4 := by
        rw [HX.out]
        have h4 := HI4.out
        rw [List.append_assoc] at h4
        exact .inr h4
      go_wp2
      go_roundw
      case rel => exact ⟨j + 1, by omega, by go_num, hIN, HB4.out⟩
      case measure => simp [intOf]; omega
    · obtain rfl : s.size = j := by omega
      have HEND : Hid (s.data.toList.take s.size = s.data.toList) := by show _ = _; rw [List.take_of_length_le (by simp)]
      go_wp2_with fail
      have hI := HI.out
      rw [HEND.out] at hI
      refine (Tryd.Builder_String_any B B _ wr hI HBS.out).mono ?_
      rintro e w5 ⟨rfl, hb5⟩
      have HB5 : Hid (Below B w w5) := HB.out.trans hb5
      clear hb5 hI
      go_wp2
      go_ret
      exact ⟨⟨_, rfl, rfl⟩, by rw [HBQ.out]; exact HB5.out⟩
end Go.Proofs.YtgibeakclknhnabDoor
