/- spec.l18Value, walked: the bytes of a value that is right. -/
import Derived.Test.YtgibeakclknhnaaBe18
import Derived.Test.YtgibeakclknhnaaAppB
import Derived.Test.YtgibeakclknhnaaCur
import Derived.Deep.RegionHeld3
import Derived.Deep.Cut
namespace Go.Proofs.Ytgibeakclknhnaa
open Go.ChangeShapes Go.WideShapes Go.ChangeAt Go.RowKit
open Go.Lib (byteCells byteCells_length byteCells_append)

/-- The answer is a list of these bytes, of the call's own. -/
def VbSays (w : World) (l : List UInt8) (e : Ending) (w' : World) : Prop := ∃ v, e = .returned v ∧ BOwn w' w.heap.size v l ∧ Below w.heap.size w w'
set_option maxHeartbeats 4000000 in
set_option maxRecDepth 100000 in
theorem l18V_null  (w : World) :
    Calls Try.prog 42 #[VaV 0 0 ⟨#[]⟩] w fun e w' => VbSays w [1] e w' := by
  obtain ⟨W, hW⟩ : ∃ W, w.alloc (.cells #[.int .i64 0, .int .i64 0, .string ⟨#[]⟩] 44) = W := ⟨_, rfl⟩
  have HB0 : Hid (Below w.heap.size w W) := by rw [← hW]; exact (Below.refl _ w).alloc (Nat.le_refl _) _
  have X0 : Hid (Box W w.heap.size #[.int .i64 0, .int .i64 0, .string ⟨#[]⟩] 44) := by rw [← hW]; exact box_of w _ _
  have HW : Hid (w.alloc (.cells #[.int .i64 0, .int .i64 0, .string ⟨#[]⟩] 44) = W) := hW
  obtain ⟨g, hg⟩ : ∃ g, W.heap.size = g := ⟨_, rfl⟩
  have HG : Hid (W.heap.size = g) := hg
  have HGW : Hid (w.heap.size < g) := by rw [← hg]; exact X0.out.lt
  obtain ⟨W2, hW2⟩ : ∃ W2, W.alloc (.cells #[.int .u8 1] 5) = W2 := ⟨_, rfl⟩
  have HO0 : Hid (BOwn W2 g (.slice (some ⟨g, 0, none⟩) 1 1) [1]) := by rw [← hW2]; exact bown_new W (l := [1]) hg rfl (Nat.le_refl _) (by decide)
  have hb2 : Below W.heap.size W W2 := by rw [← hW2]; exact (Below.refl _ _).alloc (Nat.le_refl _) _
  have X2 : Hid (Box W2 w.heap.size #[.int .i64 0, .int .i64 0, .string ⟨#[]⟩] 44) := X0.out.below hb2 X0.out.lt
  have HB2 : Hid (Below w.heap.size w W2) := HB0.out.trans (hb2.mono HB0.out.size)
  have HW2 : Hid (W.alloc (.cells #[.int .u8 1] 5) = W2) := hW2
  have HS2 : Hid (g < W2.heap.size) := by show g < W2.heap.size; rw [← hW2, World.size_alloc, hg]; exact Nat.lt_succ_self _
  obtain ⟨c0, c1, c2⟩ := X0.out.triV
  clear hW hg hW2 hb2
  go_enter Try.func42, Try.ntmps42
  go_upto_region 1 with (fail)
  rw [HW.out]
  go_upto_region 2 with (fail)
  rw [HW2.out, HG.out]
  clear c0 c1 c2
  obtain ⟨c0, c1, c2⟩ := X2.out.triV
  go_wp2
  go_ret
  exact ⟨_, rfl, own_weaken HO0.out (Nat.le_of_lt HGW.out), HB2.out⟩
set_option maxHeartbeats 4000000 in
set_option maxRecDepth 100000 in
theorem l18V_no  (w : World) :
    Calls Try.prog 42 #[VaV 1 0 ⟨#[]⟩] w fun e w' => VbSays w [2, 0] e w' := by
  obtain ⟨W, hW⟩ : ∃ W, w.alloc (.cells #[.int .i64 1, .int .i64 0, .string ⟨#[]⟩] 44) = W := ⟨_, rfl⟩
  have HB0 : Hid (Below w.heap.size w W) := by rw [← hW]; exact (Below.refl _ w).alloc (Nat.le_refl _) _
  have X0 : Hid (Box W w.heap.size #[.int .i64 1, .int .i64 0, .string ⟨#[]⟩] 44) := by rw [← hW]; exact box_of w _ _
  have HW : Hid (w.alloc (.cells #[.int .i64 1, .int .i64 0, .string ⟨#[]⟩] 44) = W) := hW
  obtain ⟨g, hg⟩ : ∃ g, W.heap.size = g := ⟨_, rfl⟩
  have HG : Hid (W.heap.size = g) := hg
  have HGW : Hid (w.heap.size < g) := by rw [← hg]; exact X0.out.lt
  obtain ⟨W2, hW2⟩ : ∃ W2, W.alloc (.cells #[.int .u8 2] 5) = W2 := ⟨_, rfl⟩
  have HO0 : Hid (BOwn W2 g (.slice (some ⟨g, 0, none⟩) 1 1) [2]) := by rw [← hW2]; exact bown_new W (l := [2]) hg rfl (Nat.le_refl _) (by decide)
  have hb2 : Below W.heap.size W W2 := by rw [← hW2]; exact (Below.refl _ _).alloc (Nat.le_refl _) _
  have X2 : Hid (Box W2 w.heap.size #[.int .i64 1, .int .i64 0, .string ⟨#[]⟩] 44) := X0.out.below hb2 X0.out.lt
  have HB2 : Hid (Below w.heap.size w W2) := HB0.out.trans (hb2.mono HB0.out.size)
  have HW2 : Hid (W.alloc (.cells #[.int .u8 2] 5) = W2) := hW2
  have HS2 : Hid (g < W2.heap.size) := by show g < W2.heap.size; rw [← hW2, World.size_alloc, hg]; exact Nat.lt_succ_self _
  obtain ⟨c0, c1, c2⟩ := X0.out.triV
  clear hW hg hW2 hb2
  go_enter Try.func42, Try.ntmps42
  go_upto_region 1 with (fail)
  rw [HW.out]
  go_upto_region 2 with (fail)
  rw [HW2.out, HG.out]
  clear c0 c1 c2
  obtain ⟨c0, c1, c2⟩ := X2.out.triV
  go_wp2_with
    (at_builtin
     refine list_appB _ rfl _ _ rfl g (.slice (some ⟨g, 0, none⟩) 1 1) [2] rfl (HO0.out.alloc _) ⟨W2.heap.size, 0, none⟩ 1 [0] rfl (bnews _ _ rfl _ rfl) (by decide) (by have := HS2.out; simp; omega) ?_
     intro v' w' hown hbel _
     have HO : Hid (BOwn w' g v' [2, 0]) := hown
     have HBX : Hid (Below w.heap.size w w') := hbel w w.heap.size (Nat.le_of_lt HGW.out) (HB2.out.alloc HB2.out.size _)
     clear hown hbel)
  go_ret
  exact ⟨_, rfl, own_weaken HO.out (Nat.le_of_lt HGW.out), HBX.out⟩
set_option maxHeartbeats 4000000 in
set_option maxRecDepth 100000 in
theorem l18V_yes  (w : World) :
    Calls Try.prog 42 #[VaV 1 1 ⟨#[]⟩] w fun e w' => VbSays w [2, 1] e w' := by
  obtain ⟨W, hW⟩ : ∃ W, w.alloc (.cells #[.int .i64 1, .int .i64 1, .string ⟨#[]⟩] 44) = W := ⟨_, rfl⟩
  have HB0 : Hid (Below w.heap.size w W) := by rw [← hW]; exact (Below.refl _ w).alloc (Nat.le_refl _) _
  have X0 : Hid (Box W w.heap.size #[.int .i64 1, .int .i64 1, .string ⟨#[]⟩] 44) := by rw [← hW]; exact box_of w _ _
  have HW : Hid (w.alloc (.cells #[.int .i64 1, .int .i64 1, .string ⟨#[]⟩] 44) = W) := hW
  obtain ⟨g, hg⟩ : ∃ g, W.heap.size = g := ⟨_, rfl⟩
  have HG : Hid (W.heap.size = g) := hg
  have HGW : Hid (w.heap.size < g) := by rw [← hg]; exact X0.out.lt
  obtain ⟨W2, hW2⟩ : ∃ W2, W.alloc (.cells #[.int .u8 2] 5) = W2 := ⟨_, rfl⟩
  have HO0 : Hid (BOwn W2 g (.slice (some ⟨g, 0, none⟩) 1 1) [2]) := by rw [← hW2]; exact bown_new W (l := [2]) hg rfl (Nat.le_refl _) (by decide)
  have hb2 : Below W.heap.size W W2 := by rw [← hW2]; exact (Below.refl _ _).alloc (Nat.le_refl _) _
  have X2 : Hid (Box W2 w.heap.size #[.int .i64 1, .int .i64 1, .string ⟨#[]⟩] 44) := X0.out.below hb2 X0.out.lt
  have HB2 : Hid (Below w.heap.size w W2) := HB0.out.trans (hb2.mono HB0.out.size)
  have HW2 : Hid (W.alloc (.cells #[.int .u8 2] 5) = W2) := hW2
  have HS2 : Hid (g < W2.heap.size) := by show g < W2.heap.size; rw [← hW2, World.size_alloc, hg]; exact Nat.lt_succ_self _
  obtain ⟨c0, c1, c2⟩ := X0.out.triV
  clear hW hg hW2 hb2
  go_enter Try.func42, Try.ntmps42
  go_upto_region 1 with (fail)
  rw [HW.out]
  go_upto_region 2 with (fail)
  rw [HW2.out, HG.out]
  clear c0 c1 c2
  obtain ⟨c0, c1, c2⟩ := X2.out.triV
  go_wp2_with
    (at_builtin
     refine list_appB _ rfl _ _ rfl g (.slice (some ⟨g, 0, none⟩) 1 1) [2] rfl (HO0.out.alloc _) ⟨W2.heap.size, 0, none⟩ 1 [1] rfl (bnews _ _ rfl _ rfl) (by decide) (by have := HS2.out; simp; omega) ?_
     intro v' w' hown hbel _
     have HO : Hid (BOwn w' g v' [2, 1]) := hown
     have HBX : Hid (Below w.heap.size w w') := hbel w w.heap.size (Nat.le_of_lt HGW.out) (HB2.out.alloc HB2.out.size _)
     clear hown hbel)
  go_ret
  exact ⟨_, rfl, own_weaken HO.out (Nat.le_of_lt HGW.out), HBX.out⟩
set_option maxHeartbeats 4000000 in
set_option maxRecDepth 100000 in
theorem l18V_int (n : Int) (hn : -1000000000000 ≤ n ∧ n ≤ 1000000000000) (m : Nat) (hm : n + 4611686018427387904 = (m : Int)) (w : World) :
    Calls Try.prog 42 #[VaV 2 n ⟨#[]⟩] w fun e w' => VbSays w (3 :: beN 8 m) e w' := by
  obtain ⟨W, hW⟩ : ∃ W, w.alloc (.cells #[.int .i64 2, .int .i64 n, .string ⟨#[]⟩] 44) = W := ⟨_, rfl⟩
  have HB0 : Hid (Below w.heap.size w W) := by rw [← hW]; exact (Below.refl _ w).alloc (Nat.le_refl _) _
  have X0 : Hid (Box W w.heap.size #[.int .i64 2, .int .i64 n, .string ⟨#[]⟩] 44) := by rw [← hW]; exact box_of w _ _
  have HW : Hid (w.alloc (.cells #[.int .i64 2, .int .i64 n, .string ⟨#[]⟩] 44) = W) := hW
  obtain ⟨g, hg⟩ : ∃ g, W.heap.size = g := ⟨_, rfl⟩
  have HG : Hid (W.heap.size = g) := hg
  have HGW : Hid (w.heap.size < g) := by rw [← hg]; exact X0.out.lt
  obtain ⟨W2, hW2⟩ : ∃ W2, W.alloc (.cells #[.int .u8 3] 5) = W2 := ⟨_, rfl⟩
  have HO0 : Hid (BOwn W2 g (.slice (some ⟨g, 0, none⟩) 1 1) [3]) := by rw [← hW2]; exact bown_new W (l := [3]) hg rfl (Nat.le_refl _) (by decide)
  have hb2 : Below W.heap.size W W2 := by rw [← hW2]; exact (Below.refl _ _).alloc (Nat.le_refl _) _
  have X2 : Hid (Box W2 w.heap.size #[.int .i64 2, .int .i64 n, .string ⟨#[]⟩] 44) := X0.out.below hb2 X0.out.lt
  have HB2 : Hid (Below w.heap.size w W2) := HB0.out.trans (hb2.mono HB0.out.size)
  have HW2 : Hid (W.alloc (.cells #[.int .u8 3] 5) = W2) := hW2
  have HS2 : Hid (g < W2.heap.size) := by show g < W2.heap.size; rw [← hW2, World.size_alloc, hg]; exact Nat.lt_succ_self _
  obtain ⟨c0, c1, c2⟩ := X0.out.triV
  clear hW hg hW2 hb2
  go_enter Try.func42, Try.ntmps42
  go_upto_region 1 with (fail)
  rw [HW.out]
  go_upto_region 2 with (fail)
  rw [HW2.out, HG.out]
  clear c0 c1 c2
  obtain ⟨c0, c1, c2⟩ := X2.out.triV
  have hm0 : (0 : Int) ≤ (m : Int) := by omega
  have hm1 : (m : Int) ≤ 9223372036854775807 := by omega
  have hadd : wrap64 (n + 4611686018427387904) = (m : Int) := by rw [hm]; unfold wrap64; omega
  clear hm hn
  go_upto_region 7 with (fail)
  rw [hadd]
  clear hadd
  go_wp2
  go_loopw [3, 5] (fun v i wr => ∃ j : Nat, j ≤ 8 ∧ i = .int .i64 (56 - 8 * (j : Int)) ∧ BOwn wr g v (3 :: (beN 8 m).take j) ∧ Below w.heap.size w wr ∧ g ≤ wr.heap.size) (fun _ i _ => (RowKit.intOf i + 8).toNat)
  case atStart => exact ⟨0, Nat.zero_le _, rfl, HO0.out, HB2.out, Nat.le_of_lt HS2.out⟩
  case round =>
    obtain ⟨j, hj, rfl, ho, hb, hs⟩ := hrel
    have HO : Hid (BOwn wr g u3 (3 :: (beN 8 m).take j)) := ho
    have HBW : Hid (Below w.heap.size w wr) := hb
    have HSZ : Hid (g ≤ wr.heap.size) := hs
    obtain ⟨iv, hiv⟩ : ∃ iv : Int, 56 - 8 * (j : Int) = iv := ⟨_, rfl⟩
    have HIV : Hid (56 - 8 * (j : Int) = iv) := hiv
    clear ho hb hs c0 c1 c2
    by_cases hlt : j < 8
    · have hi0 : 0 ≤ iv := by omega
      have hi1 : iv ≤ 56 := by omega
      have HSH := shift_byte (m := m) hlt
      obtain ⟨q, hq⟩ : ∃ q : Nat, m / 256 ^ (8 - 1 - j) % 256 = q := ⟨_, rfl⟩
      have hq256 : q < 256 := by omega
      have HNEW : Hid ((3 :: (beN 8 m).take j) ++ [UInt8.ofNat q] = 3 :: (beN 8 m).take (j + 1)) := by show _ = _; rw [beN_succ hlt, hq]; rfl
      rw [hq, hiv] at HSH
      have hand : bits BinOp.and IntKind.i64 ((m : Int) / 2 ^ iv.toNat) 255 = (q : Int) := by rw [and255]; exact HSH
      have hq0 : (0 : Int) ≤ (q : Int) := by omega
      have hq1 : (q : Int) < 256 := by omega
      have hqm : (q : Int) % 256 = q := by omega
      have HQ : Hid (.int .u8 (q : Int) = (Value.int .u8 ((UInt8.ofNat q).toNat : Int))) := by show _ = _; rw [u8_nat hq256]
      have hlen : (3 :: (beN 8 m).take j).length ≤ 9 := by rw [List.length_cons, List.length_take]; omega
      have HLEN : Hid ((3 :: (beN 8 m).take j).length ≤ 9) := hlen
      clear HSH hq hlen hq256
      rw [HIV.out]
      go_wp2_with
        (at_builtin
         refine list_appB _ rfl _ _ rfl g u3 _ rfl (HO.out.alloc _) ⟨wr.heap.size, 0, none⟩ 1 [UInt8.ofNat q] rfl (bnews _ _ rfl _ (by rw [HQ.out]; rfl)) (by have := HLEN.out; simp only [List.length_singleton]; omega) (by have := HSZ.out; simp; omega) ?_
         intro v' w' hown hbel _
         rw [HNEW.out] at hown
         have HO' : Hid (BOwn w' g v' (3 :: (beN 8 m).take (j + 1))) := hown
         have HBX : Hid (Below w.heap.size w w') := hbel w w.heap.size (Nat.le_of_lt HGW.out) (HBW.out.alloc HBW.out.size _)
         have HSX : Hid (g ≤ w'.heap.size) := Nat.le_trans HSZ.out (hbel wr 0 (Nat.zero_le _) ((Below.refl 0 wr).alloc (Nat.zero_le _) _)).size
         clear hown hbel)
      go_roundw
      case rel => exact ⟨j + 1, by omega, by have := HIV.out; simp only [Value.int.injEq, true_and]; push_cast; omega, HO'.out, HBX.out, HSX.out⟩
      case measure => simp [RowKit.intOf]; omega
    · obtain rfl : 8 = j := by omega
      obtain rfl : -8 = iv := by omega
      have HT : Hid (BOwn wr g u3 (3 :: beN 8 m)) := by
        have h1 := HO.out
        rw [List.take_of_length_le (by rw [beN_length]; exact Nat.le_refl _)] at h1
        exact h1
      go_wp2
      go_ret
      exact ⟨_, rfl, own_weaken HT.out (Nat.le_of_lt HGW.out), HBW.out⟩
set_option maxHeartbeats 4000000 in
set_option maxRecDepth 100000 in
theorem l18V_text (s : ByteArray) (hs : s.size ≤ 20) (w : World) :
    Calls Try.prog 42 #[VaV 3 0 s] w fun e w' => VbSays w (4 :: (escB s.data.toList ++ [0, 1])) e w' := by
  obtain ⟨W, hW⟩ : ∃ W, w.alloc (.cells #[.int .i64 3, .int .i64 0, .string s] 44) = W := ⟨_, rfl⟩
  have HB0 : Hid (Below w.heap.size w W) := by rw [← hW]; exact (Below.refl _ w).alloc (Nat.le_refl _) _
  have X0 : Hid (Box W w.heap.size #[.int .i64 3, .int .i64 0, .string s] 44) := by rw [← hW]; exact box_of w _ _
  have HW : Hid (w.alloc (.cells #[.int .i64 3, .int .i64 0, .string s] 44) = W) := hW
  obtain ⟨g, hg⟩ : ∃ g, W.heap.size = g := ⟨_, rfl⟩
  have HG : Hid (W.heap.size = g) := hg
  have HGW : Hid (w.heap.size < g) := by rw [← hg]; exact X0.out.lt
  obtain ⟨W2, hW2⟩ : ∃ W2, W.alloc (.cells #[.int .u8 4] 5) = W2 := ⟨_, rfl⟩
  have HO0 : Hid (BOwn W2 g (.slice (some ⟨g, 0, none⟩) 1 1) [4]) := by rw [← hW2]; exact bown_new W (l := [4]) hg rfl (Nat.le_refl _) (by decide)
  have hb2 : Below W.heap.size W W2 := by rw [← hW2]; exact (Below.refl _ _).alloc (Nat.le_refl _) _
  have X2 : Hid (Box W2 w.heap.size #[.int .i64 3, .int .i64 0, .string s] 44) := X0.out.below hb2 X0.out.lt
  have HB2 : Hid (Below w.heap.size w W2) := HB0.out.trans (hb2.mono HB0.out.size)
  have HW2 : Hid (W.alloc (.cells #[.int .u8 4] 5) = W2) := hW2
  have HS2 : Hid (g < W2.heap.size) := by show g < W2.heap.size; rw [← hW2, World.size_alloc, hg]; exact Nat.lt_succ_self _
  obtain ⟨c0, c1, c2⟩ := X0.out.triV
  clear hW hg hW2 hb2
  go_enter Try.func42, Try.ntmps42
  go_upto_region 1 with (fail)
  rw [HW.out]
  go_upto_region 2 with (fail)
  rw [HW2.out, HG.out]
  clear c0 c1 c2
  obtain ⟨c0, c1, c2⟩ := X2.out.triV
  go_upto_region 13 with (fail)
  go_loopw [3, 6] (fun v i wr => ∃ j : Nat, j ≤ s.size ∧ i = .int .i64 (j : Int) ∧ BOwn wr g v (4 :: escB (s.data.toList.take j)) ∧ Box wr w.heap.size #[.int .i64 3, .int .i64 0, .string s] 44 ∧ Below w.heap.size w wr ∧ g ≤ wr.heap.size) (fun _ i _ => s.size - (RowKit.intOf i).toNat)
  case atStart => exact ⟨0, Nat.zero_le _, rfl, HO0.out, X2.out, HB2.out, Nat.le_of_lt HS2.out⟩
  case round =>
    obtain ⟨j, hj, rfl, ho, hx, hb, hz⟩ := hrel
    have HO : Hid (BOwn wr g u3 (4 :: escB (s.data.toList.take j))) := ho
    have XR : Hid (Box wr w.heap.size #[.int .i64 3, .int .i64 0, .string s] 44) := hx
    have HBW : Hid (Below w.heap.size w wr) := hb
    have HSZ : Hid (g ≤ wr.heap.size) := hz
    have HLEN : Hid ((4 :: escB (s.data.toList.take j)).length ≤ 41) := by
      show (4 :: escB (s.data.toList.take j)).length ≤ 41
      have h1 := escB_le (s.data.toList.take j)
      rw [List.length_take] at h1
      rw [List.length_cons]
      omega
    clear ho hx hb hz c0 c1 c2
    obtain ⟨c0, c1, c2⟩ := XR.out.triV
    by_cases hlt : j < s.size
    · have hk0 : (0 : Int) ≤ (j : Int) := by omega
      have hk1 : (j : Int) < (s.size : Int) := by omega
      have hbd : j < s.data.size := hlt
      have hb? : s.data.toList[j]? = some (s[j]'hlt) := by
        rw [Array.getElem?_toList]
        exact Array.getElem?_eq_getElem hlt
      obtain ⟨b, hbq⟩ : ∃ b, s[j]'hlt = b := ⟨_, rfl⟩
      have HX := escB_succ hb?
      rw [hbq] at HX
      go_upto_region 16 with
        (at_builtin
         refine list_appB _ rfl _ _ rfl g u3 _ rfl (HO.out.alloc _) ⟨wr.heap.size, 0, none⟩ 1 [b] rfl (bnews _ _ rfl _ rfl) (by have := HLEN.out; simp only [List.length_singleton]; omega) (by have := HSZ.out; simp; omega) ?_
         intro v1 w1 hown hbel _
         have HO1 : Hid (BOwn w1 g v1 ((4 :: escB (s.data.toList.take j)) ++ [b])) := hown
         have HB1 : Hid (Below w.heap.size w w1) := hbel w w.heap.size (Nat.le_of_lt HGW.out) (HBW.out.alloc HBW.out.size _)
         have X1 : Hid (Box w1 w.heap.size #[.int .i64 3, .int .i64 0, .string s] 44) := XR.out.below (hbel wr g (Nat.le_refl _) ((Below.refl g wr).alloc HSZ.out _)) HGW.out
         have HZ1 : Hid (g ≤ w1.heap.size) := Nat.le_trans HSZ.out (hbel wr 0 (Nat.zero_le _) ((Below.refl 0 wr).alloc (Nat.zero_le _) _)).size
         clear hown hbel)
      clear c0 c1 c2
      obtain ⟨c0, c1, c2⟩ := X1.out.triV
      by_cases hb0 : b = 0
      · have hbe : ((b.toNat : Int) == 0) = true := by rw [hb0]; rfl
        rw [if_pos hb0] at HX
        have HNEW : Hid (((4 :: escB (s.data.toList.take j)) ++ [b]) ++ [255] = 4 :: escB (s.data.toList.take (j + 1))) := by show _ = _; rw [HX, hb0]; simp
        have HLE1 : Hid (((4 :: escB (s.data.toList.take j)) ++ [b]).length ≤ 42) := by show _ ≤ _; rw [List.length_append]; exact Nat.add_le_add_right HLEN.out 1
        clear HX hb0
        go_wp2_with
          (at_builtin
           refine list_appB _ rfl _ _ rfl g v1 _ rfl (HO1.out.alloc _) ⟨w1.heap.size, 0, none⟩ 1 [255] rfl (bnews _ _ rfl _ rfl) (by have := HLE1.out; simp only [List.length_singleton]; omega) (by have := HZ1.out; simp; omega) ?_
           intro v2 w2 hown hbel _
           rw [HNEW.out] at hown
           have HO2 : Hid (BOwn w2 g v2 (4 :: escB (s.data.toList.take (j + 1)))) := hown
           have HB2' : Hid (Below w.heap.size w w2) := hbel w w.heap.size (Nat.le_of_lt HGW.out) (HB1.out.alloc HB1.out.size _)
           have X2' : Hid (Box w2 w.heap.size #[.int .i64 3, .int .i64 0, .string s] 44) := X1.out.below (hbel w1 g (Nat.le_refl _) ((Below.refl g w1).alloc HZ1.out _)) HGW.out
           have HZ2 : Hid (g ≤ w2.heap.size) := Nat.le_trans HZ1.out (hbel w1 0 (Nat.zero_le _) ((Below.refl 0 w1).alloc (Nat.zero_le _) _)).size
           clear hown hbel)
        go_roundw
        case rel => exact ⟨j + 1, by omega, by go_num, HO2.out, X2'.out, HB2'.out, HZ2.out⟩
        case measure => simp [RowKit.intOf]; omega
      · have hbe : ((b.toNat : Int) == 0) = false := by
          rw [beq_eq_false_iff_ne]
          have := u8_pos hb0
          omega
        rw [if_neg hb0] at HX
        have HNEW : Hid ((4 :: escB (s.data.toList.take j)) ++ [b] = 4 :: escB (s.data.toList.take (j + 1))) := by show _ = _; rw [HX]; rfl
        rw [HNEW.out] at HO1
        clear HX hb0
        go_wp2
        go_roundw
        case rel => exact ⟨j + 1, by omega, by go_num, HO1.out, X1.out, HB1.out, HZ1.out⟩
        case measure => simp [RowKit.intOf]; omega
    · obtain rfl : s.size = j := by omega
      have HT : Hid (BOwn wr g u3 (4 :: escB s.data.toList)) := by
        have h1 := HO.out
        rw [List.take_of_length_le (by simp)] at h1
        exact h1
      have HLT := HLEN
      rw [List.take_of_length_le (by simp)] at HLT
      go_wp2_with
        (at_builtin
         refine list_appB _ rfl _ _ rfl g u3 _ rfl (HT.out.alloc _) ⟨wr.heap.size, 0, none⟩ 2 [0, 1] rfl (bnews _ _ rfl _ rfl) (by have := HLT.out; show _ + 2 ≤ _; omega) (by have := HSZ.out; simp; omega) ?_
         intro v' w' hown hbel _
         have HO' : Hid (BOwn w' g v' (4 :: (escB s.data.toList ++ [0, 1]))) := hown
         have HBX : Hid (Below w.heap.size w w') := hbel w w.heap.size (Nat.le_of_lt HGW.out) (HBW.out.alloc HBW.out.size _)
         clear hown hbel)
      go_ret
      exact ⟨_, rfl, own_weaken HO'.out (Nat.le_of_lt HGW.out), HBX.out⟩
theorem l18Value_any (x : Va3) (hg : VaGood x.1 x.2.1 x.2.2) (w : World) :
    Calls Try.prog 42 #[VaV x.1 x.2.1 x.2.2] w fun e w' => VbSays w (vaB x) e w' := by
  obtain ⟨k, n, s⟩ := x
  dsimp only at hg ⊢
  rcases hg with ⟨rfl, rfl, h2⟩ | ⟨rfl, h1, h2⟩ | ⟨rfl, h1, h2⟩ | ⟨rfl, rfl, h2⟩
  · rw [str_nil h2]
    exact l18V_null w
  · rw [str_nil h2]
    rcases (show n = 0 ∨ n = 1 by omega) with rfl | rfl
    · exact l18V_no w
    · exact l18V_yes w
  · rw [str_nil h2]
    exact l18V_int n h1 (n + 4611686018427387904).toNat (by omega) w
  · exact l18V_text s h2 w
end Go.Proofs.Ytgibeakclknhnaa
