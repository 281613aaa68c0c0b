/- spec.ValueText, walked. -/
import Derived.Test.YtgibeakclknhnabDoorTxt17
import Derived.Test.YtgibeakclknhnabDoorSpecVa
import Derived.Test.YtgibeakclknhnabDoorAppB
import Derived.Test.YtgibeakclknhnabDoorDig
import Derived.Laws.BitsAllLaws
import Derived.Deep.RegionHeld3
import Derived.Deep.Cut
namespace Go.Proofs.YtgibeakclknhnabDoor
open Go.ChangeShapes Go.WideShapes Go.ChangeAt Go.RowKit
open Go.Lib (byteCells byteCells_length byteCells_append itoa itoa_length_le)

theorem sign_at {i : Nat} (h : i < 16) : ∀ h', (⟨#[48, 49, 50, 51, 52, 53, 54, 55, 56, 57, 97, 98, 99, 100, 101, 102]⟩ : ByteArray)[i]'h' = signU i := by
  have h1 : ∀ k : Fin 16, (⟨#[48, 49, 50, 51, 52, 53, 54, 55, 56, 57, 97, 98, 99, 100, 101, 102]⟩ : ByteArray)[k.1]'k.2 = signU k.1 := by decide
  exact fun _ => h1 ⟨i, h⟩
set_option maxHeartbeats 4000000 in
set_option maxRecDepth 100000 in
theorem specVT_text (s : ByteArray) (hs : s.size ≤ 20) (w : World) :
    Calls Tryd.prog 25 #[VaV 3 0 s] w fun e w' => TextSays e (34 :: hexB s.data.toList) ∧ Below w.heap.size w w' := by
  have hg : VaGood 3 0 s := by unfold VaGood; omega
  have HG : Hid (decide (VaGood 3 0 s) = true) := decide_eq_true hg
  clear hg
  obtain ⟨W, hW⟩ : ∃ W, w.alloc (.cells #[.int .i64 3, .int .i64 0, .string s] 38) = W := ⟨_, rfl⟩
  have HB0 : Hid (Below w.heap.size w W) := by rw [← hW]; exact (Below.refl _ w).alloc (Nat.le_refl _) _
  have X0 : Hid (Box W w.heap.size #[.int .i64 3, .int .i64 0, .string s] 38) := by rw [← hW]; exact box_of w _ _
  have HW : Hid (w.alloc (.cells #[.int .i64 3, .int .i64 0, .string s] 38) = W) := hW
  obtain ⟨c0, c1, c2⟩ := X0.out.triV
  clear hW
  go_enter Tryd.func25, Tryd.ntmps25
  go_upto_region 1 with (fail)
  rw [HW.out]
  go_wp2_with fail
  refine (specValueOk_any 3 0 s _).mono ?_
  rintro e w1 ⟨rfl, hb1⟩
  rw [HG.out]
  have X1 : Hid (Box w1 w.heap.size #[.int .i64 3, .int .i64 0, .string s] 38) := X0.out.below hb1 X0.out.lt
  have HB1 : Hid (Below w.heap.size w w1) := HB0.out.trans (hb1.mono HB0.out.size)
  have HLT : Hid (w.heap.size < w1.heap.size) := X1.out.lt
  clear hb1 c0 c1 c2
  obtain ⟨c0, c1, c2⟩ := X1.out.triV
  obtain ⟨W2, hW2⟩ : ∃ W2, w1.alloc (.cells #[.int .u8 34] 5) = W2 := ⟨_, rfl⟩
  obtain ⟨g, hgq⟩ : ∃ g, w1.heap.size = g := ⟨_, rfl⟩
  have HO0 : Hid (BOwn W2 (w.heap.size + 1) (.slice (some ⟨g, 0, none⟩) 1 1) (34 :: hexB (s.data.toList.take 0))) := by
    rw [← hW2]
    exact bown_new w1 (l := [34]) hgq rfl (by have := HLT.out; omega) (by decide)
  have hb2 : Below w1.heap.size w1 W2 := by rw [← hW2]; exact (Below.refl _ _).alloc (Nat.le_refl _) _
  have X2 : Hid (Box W2 w.heap.size #[.int .i64 3, .int .i64 0, .string s] 38) := X1.out.below hb2 X1.out.lt
  have HB2 : Hid (Below w.heap.size w W2) := HB1.out.trans (hb2.mono HB1.out.size)
  have HW2 : Hid (w1.alloc (.cells #[.int .u8 34] 5) = W2) := hW2
  have HGQ : Hid (w1.heap.size = g) := hgq
  clear hW2 hgq hb2
  go_upto_region 11 with (fail)
  rw [HW2.out]
  (try rw [HGQ.out])
  go_wp2
  go_loopw [4, 5] (fun v i wr => ∃ j : Nat, j ≤ s.size ∧ i = .int .i64 (j : Int) ∧ BOwn wr (w.heap.size + 1) v (34 :: hexB (s.data.toList.take j)) ∧ Box wr w.heap.size #[.int .i64 3, .int .i64 0, .string s] 38 ∧ Below w.heap.size w wr) (fun _ i _ => s.size - (RowKit.intOf i).toNat)
  case atStart => exact ⟨0, Nat.zero_le _, rfl, HO0.out, X2.out, HB2.out⟩
  case round =>
    obtain ⟨j, hj, rfl, ho, hx, hb⟩ := hrel
    have HO : Hid (BOwn wr (w.heap.size + 1) u4 (34 :: hexB (s.data.toList.take j))) := ho
    have XR : Hid (Box wr w.heap.size #[.int .i64 3, .int .i64 0, .string s] 38) := hx
    have HBW : Hid (Below w.heap.size w wr) := hb
    have HSZ : Hid (w.heap.size < wr.heap.size) := XR.out.lt
    have hlen : (34 :: hexB (s.data.toList.take j)).length = 1 + 2 * j := by
      rw [List.length_cons, hex_len, List.length_take, Array.length_toList]
      have : s.data.size = s.size := rfl
      omega
    clear ho hx hb c0 c1 c2
    obtain ⟨c0, c1, c2⟩ := XR.out.triV
    by_cases hlt : j < s.size
    · have hk0 : (0 : Int) ≤ (j : Int) := by omega
      have hk1 : (j : Int) < (s.size : Int) := by omega
      have hb? : s.data.toList[j]? = some (s[j]'hlt) := by
        rw [Array.getElem?_toList]
        exact Array.getElem?_eq_getElem hlt
      have HX : Hid (hexB (s.data.toList.take (j + 1)) = _) := hex_succ hb?
      have K0 : Hid (wr.drew.cell? ⟨w.heap.size, 0, none⟩ = some (.int .i64 3) ∧ wr.drew.cell? ⟨w.heap.size, 1, none⟩ = some (.int .i64 0) ∧ wr.drew.cell? ⟨w.heap.size, 2, none⟩ = some (.string s)) := ⟨c0, c1, c2⟩
      have hbd : j < s.data.size := hlt
      obtain ⟨b, hbq⟩ : ∃ b, s[j]'hlt = b := ⟨_, rfl⟩
      rw [hbq] at HX
      have hbn : b.toNat < 256 := b.toNat_lt
      have hbits : bits BinOp.and IntKind.u8 (b.toNat : Int) 15 = ((b.toNat % 16 : Nat) : Int) := by
        have h1 := u8_and_nat b.toNat 15 hbn (by decide)
        rw [show (15 : Int) = ((15 : Nat) : Int) from rfl, h1, show (15 : Nat) = 2 ^ 4 - 1 from rfl, Nat.and_two_pow_sub_one_eq_mod]
      obtain ⟨lo, hlo⟩ : ∃ lo : Nat, b.toNat % 16 = lo := ⟨_, rfl⟩
      rw [hlo] at hbits HX
      have hl16 : lo < 16 := by omega
      have hl0 : (0 : Int) ≤ (lo : Int) := by omega
      have hl1 : (lo : Int) < 16 := by omega
      have hs1 : ∀ h, (⟨#[48, 49, 50, 51, 52, 53, 54, 55, 56, 57, 97, 98, 99, 100, 101, 102]⟩ : ByteArray)[((b.toNat : Int) / 16).toNat]'h = signU (b.toNat / 16) := by
        have e : ((b.toNat : Int) / 16).toNat = b.toNat / 16 := by omega
        rw [e]
        exact sign_at (by omega)
      have hs2 : ∀ h, (⟨#[48, 49, 50, 51, 52, 53, 54, 55, 56, 57, 97, 98, 99, 100, 101, 102]⟩ : ByteArray)[lo]'h = signU lo := sign_at hl16
      have HS1 : Hid (∀ h, (⟨#[48, 49, 50, 51, 52, 53, 54, 55, 56, 57, 97, 98, 99, 100, 101, 102]⟩ : ByteArray)[((b.toNat : Int) / 16).toNat]'h = signU (b.toNat / 16)) := hs1
      have HS2 : Hid (∀ h, (⟨#[48, 49, 50, 51, 52, 53, 54, 55, 56, 57, 97, 98, 99, 100, 101, 102]⟩ : ByteArray)[lo]'h = signU lo) := hs2
      have HNEW : Hid ((34 :: hexB (s.data.toList.take j)) ++ [signU (b.toNat / 16), signU lo] = 34 :: hexB (s.data.toList.take (j + 1))) := by rw [HX.out]; rfl
      clear hs1 hs2
      go_upto_region 14 with (fail)
      go_region_held3 (fun w' => w'.cell? ⟨w.heap.size, 0, none⟩ = some (.int .i64 3) ∧ w'.cell? ⟨w.heap.size, 1, none⟩ = some (.int .i64 0) ∧ w'.cell? ⟨w.heap.size, 2, none⟩ = some (.string s))
        (first | (with_reducible exact K1.out) | (with_reducible exact K0.out) | go_keep)
        (first
        | (refine step_appB _ (by rfl) _ _ (by rfl) (w.heap.size + 1) u4 _ (by rfl) (HO.out.drew.alloc _) ⟨wr.heap.size, 0, none⟩ 2 [signU (b.toNat / 16), signU lo] (by rfl) (bnews _ _ rfl _ (by simp only [HS1.out, HS2.out]; rfl)) (by rw [hlen]; show 1 + 2 * j + 2 ≤ _; omega) (by have := HSZ.out; simp; omega) ?_
           intro v' w' hown hbel _
           rw [HNEW.out] at hown
           have HOWN : Hid (BOwn w' (w.heap.size + 1) v' (34 :: hexB (s.data.toList.take (j + 1)))) := hown
           have hbw := hbel wr (w.heap.size + 1) (Nat.le_refl _) ((Below.refl _ wr).drew.alloc HSZ.out _)
           have HBX : Hid (Below (w.heap.size + 1) wr w') := hbw
           have K1 : Hid (w'.cell? ⟨w.heap.size, 0, none⟩ = some (.int .i64 3) ∧ w'.cell? ⟨w.heap.size, 1, none⟩ = some (.int .i64 0) ∧ w'.cell? ⟨w.heap.size, 2, none⟩ = some (.string s)) := by
             have hlt : w.heap.size < w.heap.size + 1 := Nat.lt_succ_self _
             exact ⟨(hbw.cell hlt).trans K0.out.1, (hbw.cell hlt).trans K0.out.2.1, (hbw.cell hlt).trans K0.out.2.2⟩
           clear hown hbel hbw))
      go_wp2
      all_goals refine ⟨⟨j + 1, by omega, by go_num, HOWN.out, XR.out.below HBX.out (Nat.lt_succ_self _), HBW.out.trans (HBX.out.mono (Nat.le_succ _))⟩, ?_⟩
      all_goals (simp [RowKit.intOf]; omega)
    · obtain rfl : s.size = j := by omega
      have HT : Hid ((convert 22 9 u4).run Tryd.prog wr = .ok (.string ⟨(34 :: hexB s.data.toList).toArray⟩) wr) := by
        have h1 := HO.out
        rw [List.take_of_length_le (by simp)] at h1
        exact bown_text h1
      have hcv := HT.out
      go_wp2
      go_ret
      exact ⟨⟨_, rfl, rfl⟩, HBW.out⟩
set_option maxHeartbeats 4000000 in
set_option maxRecDepth 100000 in
theorem specVT_bad (k n : Int) (s : ByteArray) (hg : ¬ VaGood k n s) (w : World) :
    Calls Tryd.prog 25 #[VaV k n s] w fun e w' => TextSays e [98, 97, 100] ∧ Below w.heap.size w w' := by
  have HG : Hid (decide (VaGood k n s) = false) := decide_eq_false hg
  obtain ⟨W, hW⟩ : ∃ W, w.alloc (.cells #[.int .i64 k, .int .i64 n, .string s] 38) = W := ⟨_, rfl⟩
  have HB0 : Hid (Below w.heap.size w W) := by rw [← hW]; exact (Below.refl _ w).alloc (Nat.le_refl _) _
  have X0 : Hid (Box W w.heap.size #[.int .i64 k, .int .i64 n, .string s] 38) := by rw [← hW]; exact box_of w _ _
  have HW : Hid (w.alloc (.cells #[.int .i64 k, .int .i64 n, .string s] 38) = W) := hW
  obtain ⟨c0, c1, c2⟩ := X0.out.triV
  clear hW
  go_enter Tryd.func25, Tryd.ntmps25
  go_upto_region 1 with (fail)
  rw [HW.out]
  go_wp2_with fail
  refine (specValueOk_any k n s _).mono ?_
  rintro e w1 ⟨rfl, hb1⟩
  rw [HG.out]
  have X1 : Hid (Box w1 w.heap.size #[.int .i64 k, .int .i64 n, .string s] 38) := X0.out.below hb1 X0.out.lt
  have HB1 : Hid (Below w.heap.size w w1) := HB0.out.trans (hb1.mono HB0.out.size)
  have HLT : Hid (w.heap.size < w1.heap.size) := X1.out.lt
  clear hb1 c0 c1 c2
  obtain ⟨c0, c1, c2⟩ := X1.out.triV
  go_wp2
  go_ret
  exact ⟨⟨_, rfl, rfl⟩, HB1.out⟩
set_option maxHeartbeats 4000000 in
set_option maxRecDepth 100000 in
theorem specVT_null  (w : World) :
    Calls Tryd.prog 25 #[VaV 0 0 ⟨#[]⟩] w fun e w' => TextSays e [110, 117, 108, 108] ∧ Below w.heap.size w w' := by
  have HG : Hid (decide (VaGood 0 0 ⟨#[]⟩) = true) := decide_eq_true (by unfold VaGood; exact .inl ⟨rfl, rfl, rfl⟩)
  obtain ⟨W, hW⟩ : ∃ W, w.alloc (.cells #[.int .i64 0, .int .i64 0, .string ⟨#[]⟩] 38) = W := ⟨_, rfl⟩
  have HB0 : Hid (Below w.heap.size w W) := by rw [← hW]; exact (Below.refl _ w).alloc (Nat.le_refl _) _
  have X0 : Hid (Box W w.heap.size #[.int .i64 0, .int .i64 0, .string ⟨#[]⟩] 38) := by rw [← hW]; exact box_of w _ _
  have HW : Hid (w.alloc (.cells #[.int .i64 0, .int .i64 0, .string ⟨#[]⟩] 38) = W) := hW
  obtain ⟨c0, c1, c2⟩ := X0.out.triV
  clear hW
  go_enter Tryd.func25, Tryd.ntmps25
  go_upto_region 1 with (fail)
  rw [HW.out]
  go_wp2_with fail
  refine (specValueOk_any 0 0 ⟨#[]⟩ _).mono ?_
  rintro e w1 ⟨rfl, hb1⟩
  rw [HG.out]
  have X1 : Hid (Box w1 w.heap.size #[.int .i64 0, .int .i64 0, .string ⟨#[]⟩] 38) := X0.out.below hb1 X0.out.lt
  have HB1 : Hid (Below w.heap.size w w1) := HB0.out.trans (hb1.mono HB0.out.size)
  have HLT : Hid (w.heap.size < w1.heap.size) := X1.out.lt
  clear hb1 c0 c1 c2
  obtain ⟨c0, c1, c2⟩ := X1.out.triV
  go_wp2
  go_ret
  exact ⟨⟨_, rfl, rfl⟩, HB1.out⟩
set_option maxHeartbeats 4000000 in
set_option maxRecDepth 100000 in
theorem specVT_no  (w : World) :
    Calls Tryd.prog 25 #[VaV 1 0 ⟨#[]⟩] w fun e w' => TextSays e [110, 111] ∧ Below w.heap.size w w' := by
  have HG : Hid (decide (VaGood 1 0 ⟨#[]⟩) = true) := decide_eq_true (by unfold VaGood; exact .inr (.inl ⟨rfl, ⟨by decide, by decide⟩, rfl⟩))
  obtain ⟨W, hW⟩ : ∃ W, w.alloc (.cells #[.int .i64 1, .int .i64 0, .string ⟨#[]⟩] 38) = W := ⟨_, rfl⟩
  have HB0 : Hid (Below w.heap.size w W) := by rw [← hW]; exact (Below.refl _ w).alloc (Nat.le_refl _) _
  have X0 : Hid (Box W w.heap.size #[.int .i64 1, .int .i64 0, .string ⟨#[]⟩] 38) := by rw [← hW]; exact box_of w _ _
  have HW : Hid (w.alloc (.cells #[.int .i64 1, .int .i64 0, .string ⟨#[]⟩] 38) = W) := hW
  obtain ⟨c0, c1, c2⟩ := X0.out.triV
  clear hW
  go_enter Tryd.func25, Tryd.ntmps25
  go_upto_region 1 with (fail)
  rw [HW.out]
  go_wp2_with fail
  refine (specValueOk_any 1 0 ⟨#[]⟩ _).mono ?_
  rintro e w1 ⟨rfl, hb1⟩
  rw [HG.out]
  have X1 : Hid (Box w1 w.heap.size #[.int .i64 1, .int .i64 0, .string ⟨#[]⟩] 38) := X0.out.below hb1 X0.out.lt
  have HB1 : Hid (Below w.heap.size w w1) := HB0.out.trans (hb1.mono HB0.out.size)
  have HLT : Hid (w.heap.size < w1.heap.size) := X1.out.lt
  clear hb1 c0 c1 c2
  obtain ⟨c0, c1, c2⟩ := X1.out.triV
  have hlt := HLT.out
  have hne : ¬ w1.heap.size = w.heap.size := by omega
  go_wp2
  go_ret
  exact ⟨⟨_, rfl, rfl⟩, HB1.out.alloc HB1.out.size _⟩
set_option maxHeartbeats 4000000 in
set_option maxRecDepth 100000 in
theorem specVT_yes  (w : World) :
    Calls Tryd.prog 25 #[VaV 1 1 ⟨#[]⟩] w fun e w' => TextSays e [121, 101, 115] ∧ Below w.heap.size w w' := by
  have HG : Hid (decide (VaGood 1 1 ⟨#[]⟩) = true) := decide_eq_true (by unfold VaGood; exact .inr (.inl ⟨rfl, ⟨by decide, by decide⟩, rfl⟩))
  obtain ⟨W, hW⟩ : ∃ W, w.alloc (.cells #[.int .i64 1, .int .i64 1, .string ⟨#[]⟩] 38) = W := ⟨_, rfl⟩
  have HB0 : Hid (Below w.heap.size w W) := by rw [← hW]; exact (Below.refl _ w).alloc (Nat.le_refl _) _
  have X0 : Hid (Box W w.heap.size #[.int .i64 1, .int .i64 1, .string ⟨#[]⟩] 38) := by rw [← hW]; exact box_of w _ _
  have HW : Hid (w.alloc (.cells #[.int .i64 1, .int .i64 1, .string ⟨#[]⟩] 38) = W) := hW
  obtain ⟨c0, c1, c2⟩ := X0.out.triV
  clear hW
  go_enter Tryd.func25, Tryd.ntmps25
  go_upto_region 1 with (fail)
  rw [HW.out]
  go_wp2_with fail
  refine (specValueOk_any 1 1 ⟨#[]⟩ _).mono ?_
  rintro e w1 ⟨rfl, hb1⟩
  rw [HG.out]
  have X1 : Hid (Box w1 w.heap.size #[.int .i64 1, .int .i64 1, .string ⟨#[]⟩] 38) := X0.out.below hb1 X0.out.lt
  have HB1 : Hid (Below w.heap.size w w1) := HB0.out.trans (hb1.mono HB0.out.size)
  have HLT : Hid (w.heap.size < w1.heap.size) := X1.out.lt
  clear hb1 c0 c1 c2
  obtain ⟨c0, c1, c2⟩ := X1.out.triV
  have hlt := HLT.out
  have hne : ¬ w1.heap.size = w.heap.size := by omega
  go_wp2
  go_ret
  exact ⟨⟨_, rfl, rfl⟩, HB1.out.alloc HB1.out.size _⟩
set_option maxHeartbeats 4000000 in
set_option maxRecDepth 100000 in
theorem specVT_int (n : Int) (hn : -1000000000000 ≤ n ∧ n ≤ 1000000000000) (w : World) :
    Calls Tryd.prog 25 #[VaV 2 n ⟨#[]⟩] w fun e w' => TextSays e (itoa n) ∧ Below w.heap.size w w' := by
  have HG : Hid (decide (VaGood 2 n ⟨#[]⟩) = true) := decide_eq_true (by unfold VaGood; exact .inr (.inr (.inl ⟨rfl, hn, rfl⟩)))
  obtain ⟨W, hW⟩ : ∃ W, w.alloc (.cells #[.int .i64 2, .int .i64 n, .string ⟨#[]⟩] 38) = W := ⟨_, rfl⟩
  have HB0 : Hid (Below w.heap.size w W) := by rw [← hW]; exact (Below.refl _ w).alloc (Nat.le_refl _) _
  have X0 : Hid (Box W w.heap.size #[.int .i64 2, .int .i64 n, .string ⟨#[]⟩] 38) := by rw [← hW]; exact box_of w _ _
  have HW : Hid (w.alloc (.cells #[.int .i64 2, .int .i64 n, .string ⟨#[]⟩] 38) = W) := hW
  obtain ⟨c0, c1, c2⟩ := X0.out.triV
  clear hW
  go_enter Tryd.func25, Tryd.ntmps25
  go_upto_region 1 with (fail)
  rw [HW.out]
  go_wp2_with fail
  refine (specValueOk_any 2 n ⟨#[]⟩ _).mono ?_
  rintro e w1 ⟨rfl, hb1⟩
  rw [HG.out]
  have X1 : Hid (Box w1 w.heap.size #[.int .i64 2, .int .i64 n, .string ⟨#[]⟩] 38) := X0.out.below hb1 X0.out.lt
  have HB1 : Hid (Below w.heap.size w w1) := HB0.out.trans (hb1.mono HB0.out.size)
  have HLT : Hid (w.heap.size < w1.heap.size) := X1.out.lt
  clear hb1 c0 c1 c2
  obtain ⟨c0, c1, c2⟩ := X1.out.triV
  go_wp2_with fail
  refine (digits_any n (by omega) (by omega) _).mono ?_
  rintro e w2 ⟨⟨t, rfl, ht⟩, hb2⟩
  have HB2 : Hid (Below w.heap.size w w2) := HB1.out.trans (hb2.mono HB1.out.size)
  clear hb2
  go_wp2
  go_ret
  exact ⟨⟨_, rfl, ht⟩, HB2.out⟩
theorem specValueText_any (k n : Int) (s : ByteArray) (w : World) :
    Calls Tryd.prog 25 #[VaV k n s] w fun e w' => TextSays e (valB k n s) ∧ Below w.heap.size w w' := by
  by_cases hg : VaGood k n s
  · unfold valB
    rw [if_neg (fun h => h hg)]
    rcases hg with ⟨rfl, rfl, h2⟩ | ⟨rfl, h1, h2⟩ | ⟨rfl, h1, h2⟩ | ⟨rfl, rfl, h2⟩
    · rw [str_nil h2]
      exact specVT_null w
    · rw [str_nil h2]
      rcases (show n = 0 ∨ n = 1 by omega) with rfl | rfl
      · exact specVT_no w
      · exact specVT_yes w
    · rw [str_nil h2]
      exact specVT_int n h1 w
    · exact specVT_text s h2 w
  · unfold valB
    rw [if_pos hg]
    exact specVT_bad k n s hg w
end Go.Proofs.YtgibeakclknhnabDoor
