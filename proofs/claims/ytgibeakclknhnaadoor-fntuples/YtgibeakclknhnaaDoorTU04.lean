/- Texts joined: Be18, Sp18v, InB, SpecVa, Sp18a, Sp18t. -/
import Derived.Test.YtgibeakclknhnaaDoorTU02
import Derived.Deep.RegionHeld3
import Derived.Deep.Cut
import Derived.Test.YtgibeakclknhnaaDoorRows
import Derived.WalkKit
import Derived.ProofKit
import Derived.Test.YtgibeakclknhnaaDoorTU01
set_option maxHeartbeats 4000000
set_option maxRecDepth 100000
namespace Go.Proofs.YtgibeakclknhnaaDoor
section
open Go.ChangeShapes Go.WideShapes Go.ChangeAt Go.RowKit
open Go.Lib (byteCells byteCells_length byteCells_append)

theorem beN_at : ∀ (k m j : Nat), j < k → (beN k m)[j]? = some (UInt8.ofNat (m / 256 ^ (k - 1 - j) % 256))
  | k + 1, m, j, h => by
    rw [beN]
    by_cases hj : j < k
    · rw [List.getElem?_append_left (by rw [beN_length]; exact hj), beN_at k _ j hj, Nat.div_div_eq_div_mul, ← Nat.pow_succ', show (k - 1 - j).succ = k + 1 - 1 - j by omega]
    · have e : j = k := by omega
      subst e
      rw [List.getElem?_append_right (by rw [beN_length]; exact Nat.le_refl _), beN_length, Nat.sub_self, show j + 1 - 1 - j = 0 by omega, Nat.pow_zero, Nat.div_one]
      rfl
theorem beN_succ {k m j : Nat} (h : j < k) : (beN k m).take (j + 1) = (beN k m).take j ++ [UInt8.ofNat (m / 256 ^ (k - 1 - j) % 256)] := by
  have h1 := beN_at k m j h
  have hl : j < (beN k m).length := (List.getElem?_eq_some_iff.1 h1).1
  rw [List.take_succ_eq_append_getElem hl, (List.getElem?_eq_some_iff.1 h1).2]
theorem escB_append (a b : List UInt8) : escB (a ++ b) = escB a ++ escB b := by
  induction a with
  | nil => rfl
  | cons x a ih =>
    show escB (x :: (a ++ b)) = _
    rw [escB, escB, ih]
    split <;> rfl
theorem escB_succ {l : List UInt8} {j : Nat} {b : UInt8} (h : l[j]? = some b) : escB (l.take (j + 1)) = escB (l.take j) ++ (if b = 0 then [0, 255] else [b]) := by
  have hl : j < l.length := (List.getElem?_eq_some_iff.1 h).1
  rw [List.take_succ_eq_append_getElem hl, escB_append, (List.getElem?_eq_some_iff.1 h).2, escB, escB]
theorem shift_byte {m : Nat} {j : Nat} (h : j < 8) : (m : Int) / 2 ^ (56 - 8 * (j : Int)).toNat % 256 = ((m / 256 ^ (8 - 1 - j) % 256 : Nat) : Int) := by
  have e : (2 : Int) ^ (56 - 8 * (j : Int)).toNat = ((256 ^ (8 - 1 - j) : Nat) : Int) := by
    match j, h with
    | 0, _ => rfl
    | 1, _ => rfl
    | 2, _ => rfl
    | 3, _ => rfl
    | 4, _ => rfl
    | 5, _ => rfl
    | 6, _ => rfl
    | 7, _ => rfl
  rw [e, ← Int.natCast_ediv]
  show _ = ((_ : Nat) : Int)
  rw [Int.natCast_emod]
  rfl
open Go.Lib (byteCells byteCells_length byteCells_append)

def VbSays (w : World) (l : List UInt8) (e : Ending) (w' : World) : Prop := ∃ v, e = .returned v ∧ BOwn w' w.heap.size v l ∧ Below w.heap.size w w'
theorem l18V_null  (w : World) :
    Calls Tryd.prog 27 #[VaV 0 0 ⟨#[]⟩] w fun e w' => VbSays w [1] e w' := by
  obtain ⟨W, hW⟩ : ∃ W, w.alloc (.cells #[.int .i64 0, .int .i64 0, .string ⟨#[]⟩] 37) = W := ⟨_, rfl⟩
  have HB0 : Hid (Below w.heap.size w W) := by rw [← hW]; exact (Below.refl _ w).alloc (Nat.le_refl _) _
  have X0 : Hid (Box W w.heap.size #[.int .i64 0, .int .i64 0, .string ⟨#[]⟩] 37) := by rw [← hW]; exact box_of w _ _
  have HW : Hid (w.alloc (.cells #[.int .i64 0, .int .i64 0, .string ⟨#[]⟩] 37) = W) := hW
  obtain ⟨g, hg⟩ : ∃ g, W.heap.size = g := ⟨_, rfl⟩
  have HG : Hid (W.heap.size = g) := hg
  have HGW : Hid (w.heap.size < g) := by rw [← hg]; exact X0.out.lt
  obtain ⟨W2, hW2⟩ : ∃ W2, W.alloc (.cells #[.int .u8 1] 5) = W2 := ⟨_, rfl⟩
  have HO0 : Hid (BOwn W2 g (.slice (some ⟨g, 0, none⟩) 1 1) [1]) := by rw [← hW2]; exact bown_new W (l := [1]) hg rfl (Nat.le_refl _) (by decide)
  have hb2 : Below W.heap.size W W2 := by rw [← hW2]; exact (Below.refl _ _).alloc (Nat.le_refl _) _
  have X2 : Hid (Box W2 w.heap.size #[.int .i64 0, .int .i64 0, .string ⟨#[]⟩] 37) := X0.out.below hb2 X0.out.lt
  have HB2 : Hid (Below w.heap.size w W2) := HB0.out.trans (hb2.mono HB0.out.size)
  have HW2 : Hid (W.alloc (.cells #[.int .u8 1] 5) = W2) := hW2
  have HS2 : Hid (g < W2.heap.size) := by show g < W2.heap.size; rw [← hW2, World.size_alloc, hg]; exact Nat.lt_succ_self _
  obtain ⟨c0, c1, c2⟩ := X0.out.triV
  clear hW hg hW2 hb2
  go_enter Tryd.func27, Tryd.ntmps27
  go_upto_region 1 with (fail)
  rw [HW.out]
  go_upto_region 2 with (fail)
  rw [HW2.out, HG.out]
  clear c0 c1 c2
  obtain ⟨c0, c1, c2⟩ := X2.out.triV
  go_wp2
  go_ret
  exact ⟨_, rfl, own_weaken HO0.out (Nat.le_of_lt HGW.out), HB2.out⟩
theorem l18V_no  (w : World) :
    Calls Tryd.prog 27 #[VaV 1 0 ⟨#[]⟩] w fun e w' => VbSays w [2, 0] e w' := by
  obtain ⟨W, hW⟩ : ∃ W, w.alloc (.cells #[.int .i64 1, .int .i64 0, .string ⟨#[]⟩] 37) = W := ⟨_, rfl⟩
  have HB0 : Hid (Below w.heap.size w W) := by rw [← hW]; exact (Below.refl _ w).alloc (Nat.le_refl _) _
  have X0 : Hid (Box W w.heap.size #[.int .i64 1, .int .i64 0, .string ⟨#[]⟩] 37) := by rw [← hW]; exact box_of w _ _
  have HW : Hid (w.alloc (.cells #[.int .i64 1, .int .i64 0, .string ⟨#[]⟩] 37) = W) := hW
  obtain ⟨g, hg⟩ : ∃ g, W.heap.size = g := ⟨_, rfl⟩
  have HG : Hid (W.heap.size = g) := hg
  have HGW : Hid (w.heap.size < g) := by rw [← hg]; exact X0.out.lt
  obtain ⟨W2, hW2⟩ : ∃ W2, W.alloc (.cells #[.int .u8 2] 5) = W2 := ⟨_, rfl⟩
  have HO0 : Hid (BOwn W2 g (.slice (some ⟨g, 0, none⟩) 1 1) [2]) := by rw [← hW2]; exact bown_new W (l := [2]) hg rfl (Nat.le_refl _) (by decide)
  have hb2 : Below W.heap.size W W2 := by rw [← hW2]; exact (Below.refl _ _).alloc (Nat.le_refl _) _
  have X2 : Hid (Box W2 w.heap.size #[.int .i64 1, .int .i64 0, .string ⟨#[]⟩] 37) := X0.out.below hb2 X0.out.lt
  have HB2 : Hid (Below w.heap.size w W2) := HB0.out.trans (hb2.mono HB0.out.size)
  have HW2 : Hid (W.alloc (.cells #[.int .u8 2] 5) = W2) := hW2
  have HS2 : Hid (g < W2.heap.size) := by show g < W2.heap.size; rw [← hW2, World.size_alloc, hg]; exact Nat.lt_succ_self _
  obtain ⟨c0, c1, c2⟩ := X0.out.triV
  clear hW hg hW2 hb2
  go_enter Tryd.func27, Tryd.ntmps27
  go_upto_region 1 with (fail)
  rw [HW.out]
  go_upto_region 2 with (fail)
  rw [HW2.out, HG.out]
  clear c0 c1 c2
  obtain ⟨c0, c1, c2⟩ := X2.out.triV
  go_wp2_with
    (at_builtin
     refine list_appB _ rfl _ _ rfl g (.slice (some ⟨g, 0, none⟩) 1 1) [2] rfl (HO0.out.alloc _) ⟨W2.heap.size, 0, none⟩ 1 [0] rfl (bnews _ _ rfl _ rfl) (by decide) (by have := HS2.out; simp; omega) ?_
     intro v' w' hown hbel _
     have HO : Hid (BOwn w' g v' [2, 0]) := hown
     have HBX : Hid (Below w.heap.size w w') := hbel w w.heap.size (Nat.le_of_lt HGW.out) (HB2.out.alloc HB2.out.size _)
     clear hown hbel)
  go_ret
  exact ⟨_, rfl, own_weaken HO.out (Nat.le_of_lt HGW.out), HBX.out⟩
theorem l18V_yes  (w : World) :
    Calls Tryd.prog 27 #[VaV 1 1 ⟨#[]⟩] w fun e w' => VbSays w [2, 1] e w' := by
  obtain ⟨W, hW⟩ : ∃ W, w.alloc (.cells #[.int .i64 1, .int .i64 1, .string ⟨#[]⟩] 37) = W := ⟨_, rfl⟩
  have HB0 : Hid (Below w.heap.size w W) := by rw [← hW]; exact (Below.refl _ w).alloc (Nat.le_refl _) _
  have X0 : Hid (Box W w.heap.size #[.int .i64 1, .int .i64 1, .string ⟨#[]⟩] 37) := by rw [← hW]; exact box_of w _ _
  have HW : Hid (w.alloc (.cells #[.int .i64 1, .int .i64 1, .string ⟨#[]⟩] 37) = W) := hW
  obtain ⟨g, hg⟩ : ∃ g, W.heap.size = g := ⟨_, rfl⟩
  have HG : Hid (W.heap.size = g) := hg
  have HGW : Hid (w.heap.size < g) := by rw [← hg]; exact X0.out.lt
  obtain ⟨W2, hW2⟩ : ∃ W2, W.alloc (.cells #[.int .u8 2] 5) = W2 := ⟨_, rfl⟩
  have HO0 : Hid (BOwn W2 g (.slice (some ⟨g, 0, none⟩) 1 1) [2]) := by rw [← hW2]; exact bown_new W (l := [2]) hg rfl (Nat.le_refl _) (by decide)
  have hb2 : Below W.heap.size W W2 := by rw [← hW2]; exact (Below.refl _ _).alloc (Nat.le_refl _) _
  have X2 : Hid (Box W2 w.heap.size #[.int .i64 1, .int .i64 1, .string ⟨#[]⟩] 37) := X0.out.below hb2 X0.out.lt
  have HB2 : Hid (Below w.heap.size w W2) := HB0.out.trans (hb2.mono HB0.out.size)
  have HW2 : Hid (W.alloc (.cells #[.int .u8 2] 5) = W2) := hW2
  have HS2 : Hid (g < W2.heap.size) := by show g < W2.heap.size; rw [← hW2, World.size_alloc, hg]; exact Nat.lt_succ_self _
  obtain ⟨c0, c1, c2⟩ := X0.out.triV
  clear hW hg hW2 hb2
  go_enter Tryd.func27, Tryd.ntmps27
  go_upto_region 1 with (fail)
  rw [HW.out]
  go_upto_region 2 with (fail)
  rw [HW2.out, HG.out]
  clear c0 c1 c2
  obtain ⟨c0, c1, c2⟩ := X2.out.triV
  go_wp2_with
    (at_builtin
     refine list_appB _ rfl _ _ rfl g (.slice (some ⟨g, 0, none⟩) 1 1) [2] rfl (HO0.out.alloc _) ⟨W2.heap.size, 0, none⟩ 1 [1] rfl (bnews _ _ rfl _ rfl) (by decide) (by have := HS2.out; simp; omega) ?_
     intro v' w' hown hbel _
     have HO : Hid (BOwn w' g v' [2, 1]) := hown
     have HBX : Hid (Below w.heap.size w w') := hbel w w.heap.size (Nat.le_of_lt HGW.out) (HB2.out.alloc HB2.out.size _)
     clear hown hbel)
  go_ret
  exact ⟨_, rfl, own_weaken HO.out (Nat.le_of_lt HGW.out), HBX.out⟩
theorem l18V_int (n : Int) (hn : -1000000000000 ≤ n ∧ n ≤ 1000000000000) (m : Nat) (hm : n + 4611686018427387904 = (m : Int)) (w : World) :
    Calls Tryd.prog 27 #[VaV 2 n ⟨#[]⟩] w fun e w' => VbSays w (3 :: beN 8 m) e w' := by
  obtain ⟨W, hW⟩ : ∃ W, w.alloc (.cells #[.int .i64 2, .int .i64 n, .string ⟨#[]⟩] 37) = W := ⟨_, rfl⟩
  have HB0 : Hid (Below w.heap.size w W) := by rw [← hW]; exact (Below.refl _ w).alloc (Nat.le_refl _) _
  have X0 : Hid (Box W w.heap.size #[.int .i64 2, .int .i64 n, .string ⟨#[]⟩] 37) := by rw [← hW]; exact box_of w _ _
  have HW : Hid (w.alloc (.cells #[.int .i64 2, .int .i64 n, .string ⟨#[]⟩] 37) = W) := hW
  obtain ⟨g, hg⟩ : ∃ g, W.heap.size = g := ⟨_, rfl⟩
  have HG : Hid (W.heap.size = g) := hg
  have HGW : Hid (w.heap.size < g) := by rw [← hg]; exact X0.out.lt
  obtain ⟨W2, hW2⟩ : ∃ W2, W.alloc (.cells #[.int .u8 3] 5) = W2 := ⟨_, rfl⟩
  have HO0 : Hid (BOwn W2 g (.slice (some ⟨g, 0, none⟩) 1 1) [3]) := by rw [← hW2]; exact bown_new W (l := [3]) hg rfl (Nat.le_refl _) (by decide)
  have hb2 : Below W.heap.size W W2 := by rw [← hW2]; exact (Below.refl _ _).alloc (Nat.le_refl _) _
  have X2 : Hid (Box W2 w.heap.size #[.int .i64 2, .int .i64 n, .string ⟨#[]⟩] 37) := X0.out.below hb2 X0.out.lt
  have HB2 : Hid (Below w.heap.size w W2) := HB0.out.trans (hb2.mono HB0.out.size)
  have HW2 : Hid (W.alloc (.cells #[.int .u8 3] 5) = W2) := hW2
  have HS2 : Hid (g < W2.heap.size) := by show g < W2.heap.size; rw [← hW2, World.size_alloc, hg]; exact Nat.lt_succ_self _
  obtain ⟨c0, c1, c2⟩ := X0.out.triV
  clear hW hg hW2 hb2
  go_enter Tryd.func27, Tryd.ntmps27
  go_upto_region 1 with (fail)
  rw [HW.out]
  go_upto_region 2 with (fail)
  rw [HW2.out, HG.out]
  clear c0 c1 c2
  obtain ⟨c0, c1, c2⟩ := X2.out.triV
  have hm0 : (0 : Int) ≤ (m : Int) := by omega
  have hm1 : (m : Int) ≤ 9223372036854775807 := by omega
  have hadd : wrap64 (n + 4611686018427387904) = (m : Int) := by rw [hm]; unfold wrap64; omega
  clear hm hn
  go_upto_region 7 with (fail)
  rw [hadd]
  clear hadd
  go_wp2
  go_loopw [3, 5] (fun v i wr => ∃ j : Nat, j ≤ 8 ∧ i = .int .i64 (56 - 8 * (j : Int)) ∧ BOwn wr g v (3 :: (beN 8 m).take j) ∧ Below w.heap.size w wr ∧ g ≤ wr.heap.size) (fun _ i _ => (RowKit.intOf i + 8).toNat)
  case atStart => exact ⟨0, Nat.zero_le _, rfl, HO0.out, HB2.out, Nat.le_of_lt HS2.out⟩
  case round =>
    obtain ⟨j, hj, rfl, ho, hb, hs⟩ := hrel
    have HO : Hid (BOwn wr g u3 (3 :: (beN 8 m).take j)) := ho
    have HBW : Hid (Below w.heap.size w wr) := hb
    have HSZ : Hid (g ≤ wr.heap.size) := hs
    obtain ⟨iv, hiv⟩ : ∃ iv : Int, 56 - 8 * (j : Int) = iv := ⟨_, rfl⟩
    have HIV : Hid (56 - 8 * (j : Int) = iv) := hiv
    clear ho hb hs c0 c1 c2
    by_cases hlt : j < 8
    · have hi0 : 0 ≤ iv := by omega
      have hi1 : iv ≤ 56 := by omega
      have HSH := shift_byte (m := m) hlt
      obtain ⟨q, hq⟩ : ∃ q : Nat, m / 256 ^ (8 - 1 - j) % 256 = q := ⟨_, rfl⟩
      have hq256 : q < 256 := by omega
      have HNEW : Hid ((3 :: (beN 8 m).take j) ++ [UInt8.ofNat q] = 3 :: (beN 8 m).take (j + 1)) := by show _ = _; rw [beN_succ hlt, hq]; rfl
      rw [hq, hiv] at HSH
      have hand : bits BinOp.and IntKind.i64 ((m : Int) / 2 ^ iv.toNat) 255 = (q : Int) := by rw [and255]; exact HSH
      have hq0 : (0 : Int) ≤ (q : Int) := by omega
      have hq1 : (q : Int) < 256 := by omega
      have hqm : (q : Int) % 256 = q := by omega
      have HQ : Hid (.int .u8 (q : Int) = (Value.int .u8 ((UInt8.ofNat q).toNat : Int))) := by show _ = _; rw [u8_nat hq256]
      have hlen : (3 :: (beN 8 m).take j).length ≤ 9 := by rw [List.length_cons, List.length_take]; omega
      have HLEN : Hid ((3 :: (beN 8 m).take j).length ≤ 9) := hlen
      clear HSH hq hlen hq256
      rw [HIV.out]
      go_wp2_with
        (at_builtin
         refine list_appB _ rfl _ _ rfl g u3 _ rfl (HO.out.alloc _) ⟨wr.heap.size, 0, none⟩ 1 [UInt8.ofNat q] rfl (bnews _ _ rfl _ (by rw [HQ.out]; rfl)) (by have := HLEN.out; simp only [List.length_singleton]; omega) (by have := HSZ.out; simp; omega) ?_
         intro v' w' hown hbel _
         rw [HNEW.out] at hown
         have HO' : Hid (BOwn w' g v' (3 :: (beN 8 m).take (j + 1))) := hown
         have HBX : Hid (Below w.heap.size w w') := hbel w w.heap.size (Nat.le_of_lt HGW.out) (HBW.out.alloc HBW.out.size _)
         have HSX : Hid (g ≤ w'.heap.size) := Nat.le_trans HSZ.out (hbel wr 0 (Nat.zero_le _) ((Below.refl 0 wr).alloc (Nat.zero_le _) _)).size
         clear hown hbel)
      go_roundw
      case rel => exact ⟨j + 1, by omega, by have := HIV.out; simp only [Value.int.injEq, true_and]; push_cast; omega, HO'.out, HBX.out, HSX.out⟩
      case measure => simp [RowKit.intOf]; omega
    · obtain rfl : 8 = j := by omega
      obtain rfl : -8 = iv := by omega
      have HT : Hid (BOwn wr g u3 (3 :: beN 8 m)) := by
        have h1 := HO.out
        rw [List.take_of_length_le (by rw [beN_length]; exact Nat.le_refl _)] at h1
        exact h1
      go_wp2
      go_ret
      exact ⟨_, rfl, own_weaken HT.out (Nat.le_of_lt HGW.out), HBW.out⟩
theorem l18V_text (s : ByteArray) (hs : s.size ≤ 20) (w : World) :
    Calls Tryd.prog 27 #[VaV 3 0 s] w fun e w' => VbSays w (4 :: (escB s.data.toList ++ [0, 1])) e w' := by
  obtain ⟨W, hW⟩ : ∃ W, w.alloc (.cells #[.int .i64 3, .int .i64 0, .string s] 37) = W := ⟨_, rfl⟩
  have HB0 : Hid (Below w.heap.size w W) := by rw [← hW]; exact (Below.refl _ w).alloc (Nat.le_refl _) _
  have X0 : Hid (Box W w.heap.size #[.int .i64 3, .int .i64 0, .string s] 37) := by rw [← hW]; exact box_of w _ _
  have HW : Hid (w.alloc (.cells #[.int .i64 3, .int .i64 0, .string s] 37) = W) := hW
  obtain ⟨g, hg⟩ : ∃ g, W.heap.size = g := ⟨_, rfl⟩
  have HG : Hid (W.heap.size = g) := hg
  have HGW : Hid (w.heap.size < g) := by rw [← hg]; exact X0.out.lt
  obtain ⟨W2, hW2⟩ : ∃ W2, W.alloc (.cells #[.int .u8 4] 5) = W2 := ⟨_, rfl⟩
  have HO0 : Hid (BOwn W2 g (.slice (some ⟨g, 0, none⟩) 1 1) [4]) := by rw [← hW2]; exact bown_new W (l := [4]) hg rfl (Nat.le_refl _) (by decide)
  have hb2 : Below W.heap.size W W2 := by rw [← hW2]; exact (Below.refl _ _).alloc (Nat.le_refl _) _
  have X2 : Hid (Box W2 w.heap.size #[.int .i64 3, .int .i64 0, .string s] 37) := X0.out.below hb2 X0.out.lt
  have HB2 : Hid (Below w.heap.size w W2) := HB0.out.trans (hb2.mono HB0.out.size)
  have HW2 : Hid (W.alloc (.cells #[.int .u8 4] 5) = W2) := hW2
  have HS2 : Hid (g < W2.heap.size) := by show g < W2.heap.size; rw [← hW2, World.size_alloc, hg]; exact Nat.lt_succ_self _
  obtain ⟨c0, c1, c2⟩ := X0.out.triV
  clear hW hg hW2 hb2
  go_enter Tryd.func27, Tryd.ntmps27
  go_upto_region 1 with (fail)
  rw [HW.out]
  go_upto_region 2 with (fail)
  rw [HW2.out, HG.out]
  clear c0 c1 c2
  obtain ⟨c0, c1, c2⟩ := X2.out.triV
  go_upto_region 13 with (fail)
  go_loopw [3, 6] (fun v i wr => ∃ j : Nat, j ≤ s.size ∧ i = .int .i64 (j : Int) ∧ BOwn wr g v (4 :: escB (s.data.toList.take j)) ∧ Box wr w.heap.size #[.int .i64 3, .int .i64 0, .string s] 37 ∧ Below w.heap.size w wr ∧ g ≤ wr.heap.size) (fun _ i _ => s.size - (RowKit.intOf i).toNat)
  case atStart => exact ⟨0, Nat.zero_le _, rfl, HO0.out, X2.out, HB2.out, Nat.le_of_lt HS2.out⟩
  case round =>
    obtain ⟨j, hj, rfl, ho, hx, hb, hz⟩ := hrel
    have HO : Hid (BOwn wr g u3 (4 :: escB (s.data.toList.take j))) := ho
    have XR : Hid (Box wr w.heap.size #[.int .i64 3, .int .i64 0, .string s] 37) := hx
    have HBW : Hid (Below w.heap.size w wr) := hb
    have HSZ : Hid (g ≤ wr.heap.size) := hz
    have HLEN : Hid ((4 :: escB (s.data.toList.take j)).length ≤ 41) := by
      show (4 :: escB (s.data.toList.take j)).length ≤ 41
      have h1 := escB_le (s.data.toList.take j)
      rw [List.length_take] at h1
      rw [List.length_cons]
      omega
    clear ho hx hb hz c0 c1 c2
    obtain ⟨c0, c1, c2⟩ := XR.out.triV
    by_cases hlt : j < s.size
    · have hk0 : (0 : Int) ≤ (j : Int) := by omega
      have hk1 : (j : Int) < (s.size : Int) := by omega
      have hbd : j < s.data.size := hlt
      have hb? : s.data.toList[j]? = some (s[j]'hlt) := by
        rw [Array.getElem?_toList]
        exact Array.getElem?_eq_getElem hlt
      obtain ⟨b, hbq⟩ : ∃ b, s[j]'hlt = b := ⟨_, rfl⟩
      have HX := escB_succ hb?
      rw [hbq] at HX
      go_upto_region 16 with
        (at_builtin
         refine list_appB _ rfl _ _ rfl g u3 _ rfl (HO.out.alloc _) ⟨wr.heap.size, 0, none⟩ 1 [b] rfl (bnews _ _ rfl _ rfl) (by have := HLEN.out; simp only [List.length_singleton]; omega) (by have := HSZ.out; simp; omega) ?_
         intro v1 w1 hown hbel _
         have HO1 : Hid (BOwn w1 g v1 ((4 :: escB (s.data.toList.take j)) ++ [b])) := hown
         have HB1 : Hid (Below w.heap.size w w1) := hbel w w.heap.size (Nat.le_of_lt HGW.out) (HBW.out.alloc HBW.out.size _)
         have X1 : Hid (Box w1 w.heap.size #[.int .i64 3, .int .i64 0, .string s] 37) := XR.out.below (hbel wr g (Nat.le_refl _) ((Below.refl g wr).alloc HSZ.out _)) HGW.out
         have HZ1 : Hid (g ≤ w1.heap.size) := Nat.le_trans HSZ.out (hbel wr 0 (Nat.zero_le _) ((Below.refl 0 wr).alloc (Nat.zero_le _) _)).size
         clear hown hbel)
      clear c0 c1 c2
      obtain ⟨c0, c1, c2⟩ := X1.out.triV
      by_cases hb0 : b = 0
      · have hbe : ((b.toNat : Int) == 0) = true := by rw [hb0]; rfl
        rw [if_pos hb0] at HX
        have HNEW : Hid (((4 :: escB (s.data.toList.take j)) ++ [b]) ++ [255] = 4 :: escB (s.data.toList.take (j + 1))) := by show _ = _; rw [HX, hb0]; simp
        have HLE1 : Hid (((4 :: escB (s.data.toList.take j)) ++ [b]).length ≤ 42) := by show _ ≤ _; rw [List.length_append]; exact Nat.add_le_add_right HLEN.out 1
        clear HX hb0
        go_wp2_with
          (at_builtin
           refine list_appB _ rfl _ _ rfl g v1 _ rfl (HO1.out.alloc _) ⟨w1.heap.size, 0, none⟩ 1 [255] rfl (bnews _ _ rfl _ rfl) (by have := HLE1.out; simp only [List.length_singleton]; omega) (by have := HZ1.out; simp; omega) ?_
           intro v2 w2 hown hbel _
           rw [HNEW.out] at hown
           have HO2 : Hid (BOwn w2 g v2 (4 :: escB (s.data.toList.take (j + 1)))) := hown
           have HB2' : Hid (Below w.heap.size w w2) := hbel w w.heap.size (Nat.le_of_lt HGW.out) (HB1.out.alloc HB1.out.size _)
           have X2' : Hid (Box w2 w.heap.size #[.int .i64 3, .int .i64 0, .string s] 37) := X1.out.below (hbel w1 g (Nat.le_refl _) ((Below.refl g w1).alloc HZ1.out _)) HGW.out
           have HZ2 : Hid (g ≤ w2.heap.size) := Nat.le_trans HZ1.out (hbel w1 0 (Nat.zero_le _) ((Below.refl 0 w1).alloc (Nat.zero_le _) _)).size
           clear hown hbel)
        go_roundw
        case rel => exact ⟨j + 1, by omega, by go_num, HO2.out, X2'.out, HB2'.out, HZ2.out⟩
        case measure => simp [RowKit.intOf]; omega
      · have hbe : ((b.toNat : Int) == 0) = false := by
          rw [beq_eq_false_iff_ne]
          have := u8_pos hb0
          omega
        rw [if_neg hb0] at HX
        have HNEW : Hid ((4 :: escB (s.data.toList.take j)) ++ [b] = 4 :: escB (s.data.toList.take (j + 1))) := by show _ = _; rw [HX]; rfl
        rw [HNEW.out] at HO1
        clear HX hb0
        go_wp2
        go_roundw
        case rel => exact ⟨j + 1, by omega, by go_num, HO1.out, X1.out, HB1.out, HZ1.out⟩
        case measure => simp [RowKit.intOf]; omega
    · obtain rfl : s.size = j := by omega
      have HT : Hid (BOwn wr g u3 (4 :: escB s.data.toList)) := by
        have h1 := HO.out
        rw [List.take_of_length_le (by simp)] at h1
        exact h1
      have HLT := HLEN
      rw [List.take_of_length_le (by simp)] at HLT
      go_wp2_with
        (at_builtin
         refine list_appB _ rfl _ _ rfl g u3 _ rfl (HT.out.alloc _) ⟨wr.heap.size, 0, none⟩ 2 [0, 1] rfl (bnews _ _ rfl _ rfl) (by have := HLT.out; show _ + 2 ≤ _; omega) (by have := HSZ.out; simp; omega) ?_
         intro v' w' hown hbel _
         have HO' : Hid (BOwn w' g v' (4 :: (escB s.data.toList ++ [0, 1]))) := hown
         have HBX : Hid (Below w.heap.size w w') := hbel w w.heap.size (Nat.le_of_lt HGW.out) (HBW.out.alloc HBW.out.size _)
         clear hown hbel)
      go_ret
      exact ⟨_, rfl, own_weaken HO'.out (Nat.le_of_lt HGW.out), HBX.out⟩
theorem l18Value_any (x : Va3) (hg : VaGood x.1 x.2.1 x.2.2) (w : World) :
    Calls Tryd.prog 27 #[VaV x.1 x.2.1 x.2.2] w fun e w' => VbSays w (vaB x) e w' := by
  obtain ⟨k, n, s⟩ := x
  dsimp only at hg ⊢
  rcases hg with ⟨rfl, rfl, h2⟩ | ⟨rfl, h1, h2⟩ | ⟨rfl, h1, h2⟩ | ⟨rfl, rfl, h2⟩
  · rw [str_nil h2]
    exact l18V_null w
  · rw [str_nil h2]
    rcases (show n = 0 ∨ n = 1 by omega) with rfl | rfl
    · exact l18V_no w
    · exact l18V_yes w
  · rw [str_nil h2]
    exact l18V_int n h1 (n + 4611686018427387904).toNat (by omega) w
  · exact l18V_text s h2 w
def inB (x lo hi : Int) : Bool := decide (lo ≤ x ∧ x ≤ hi)
theorem inB_yes {x lo hi : Int} (h : lo ≤ x ∧ x ≤ hi) : inB x lo hi = true := decide_eq_true h
theorem inB_no {x lo hi : Int} (h : ¬ (lo ≤ x ∧ x ≤ hi)) : inB x lo hi = false := decide_eq_false h
theorem l1In_g (x lo hi : Int) (w : World) : Calls Tryd.prog 49 #[.int .i64 x, .int .i64 lo, .int .i64 hi] w fun e w' => e = .returned (.bool (inB x lo hi)) ∧ w' = w := by
  by_cases h0 : lo ≤ x
  · by_cases h1 : x ≤ hi
    · rw [inB_yes ⟨h0, h1⟩]
      go_enter Tryd.func49, Tryd.ntmps49
      go_wp2
      go_ret
      exact ⟨rfl, rfl⟩
    · rw [inB_no (fun h => h1 h.2)]
      go_enter Tryd.func49, Tryd.ntmps49
      go_wp2
      go_ret
      exact ⟨rfl, rfl⟩
  · rw [inB_no (fun h => h0 h.1)]
    go_enter Tryd.func49, Tryd.ntmps49
    go_wp2
    go_ret
    exact ⟨rfl, rfl⟩
theorem specValueOk_any (k n : Int) (s : ByteArray) (w : World) :
    Calls Tryd.prog 31 #[VaV k n s] w fun e w' => e = .returned (.bool (decide (VaGood k n s))) ∧ Below w.heap.size w w' := by
  obtain ⟨B, hB⟩ : ∃ B, decide (VaGood k n s) = B := ⟨_, rfl⟩
  rw [hB]
  have HB : Hid (decide (VaGood k n s) = B) := hB
  clear hB
  obtain ⟨W, hW⟩ : ∃ W, w.alloc (.cells #[.int .i64 k, .int .i64 n, .string s] 37) = W := ⟨_, rfl⟩
  have HB0 : Hid (Below w.heap.size w W) := by rw [← hW]; exact (Below.refl _ w).alloc (Nat.le_refl _) _
  have X0 : Hid (Box W w.heap.size #[.int .i64 k, .int .i64 n, .string s] 37) := by rw [← hW]; exact box_of w _ _
  have HW : Hid (w.alloc (.cells #[.int .i64 k, .int .i64 n, .string s] 37) = W) := hW
  clear hW
  have hk : k = 0 ∨ k = 1 ∨ k = 2 ∨ k = 3 ∨ (¬ k = 0 ∧ ¬ k = 1 ∧ ¬ k = 2 ∧ ¬ k = 3) := by omega
  rcases hk with rfl | rfl | rfl | rfl | ⟨hk0, hk1, hk2, hk3⟩
  · by_cases hn : n = 0 <;> by_cases hs : s.size = 0
    · have HBV : Hid (B = true) := by
        show _ = _
        rw [← HB.out]
        exact decide_eq_true (by unfold VaGood; omega)
      rw [HBV.out]
      obtain rfl := str_nil hs
      subst hn
      obtain ⟨c0, c1, c2⟩ := X0.out.triV
      go_enter Tryd.func31, Tryd.ntmps31
      go_upto_region 1 with (fail)
      rw [HW.out]
      go_wp2
      go_ret
      exact ⟨rfl, HB0.out⟩
    · have HBV : Hid (B = false) := by
        show _ = _
        rw [← HB.out]
        exact decide_eq_false (by unfold VaGood; omega)
      rw [HBV.out]
      have hse := str_some hs
      subst hn
      obtain ⟨c0, c1, c2⟩ := X0.out.triV
      go_enter Tryd.func31, Tryd.ntmps31
      go_upto_region 1 with (fail)
      rw [HW.out]
      go_wp2
      go_ret
      exact ⟨rfl, HB0.out⟩
    · have HBV : Hid (B = false) := by
        show _ = _
        rw [← HB.out]
        exact decide_eq_false (by unfold VaGood; omega)
      rw [HBV.out]
      obtain rfl := str_nil hs
      obtain ⟨c0, c1, c2⟩ := X0.out.triV
      have hnb : (n == 0) = false := by simpa using hn
      go_enter Tryd.func31, Tryd.ntmps31
      go_upto_region 1 with (fail)
      rw [HW.out]
      go_wp2
      go_ret
      exact ⟨rfl, HB0.out⟩
    · have HBV : Hid (B = false) := by
        show _ = _
        rw [← HB.out]
        exact decide_eq_false (by unfold VaGood; omega)
      rw [HBV.out]
      have hse := str_some hs
      obtain ⟨c0, c1, c2⟩ := X0.out.triV
      have hnb : (n == 0) = false := by simpa using hn
      go_enter Tryd.func31, Tryd.ntmps31
      go_upto_region 1 with (fail)
      rw [HW.out]
      go_wp2
      go_ret
      exact ⟨rfl, HB0.out⟩
  · by_cases hn : 0 ≤ n ∧ n ≤ 1 <;> by_cases hs : s.size = 0
    · have HBV : Hid (B = true) := by
        show _ = _
        rw [← HB.out]
        exact decide_eq_true (by unfold VaGood; omega)
      rw [HBV.out]
      obtain rfl := str_nil hs
      have hin : inB n 0 1 = true := inB_yes hn
      obtain ⟨c0, c1, c2⟩ := X0.out.triV
      go_enter Tryd.func31, Tryd.ntmps31
      go_upto_region 1 with (fail)
      rw [HW.out]
      go_wp2_with fail
      refine (l1In_g n 0 1 _).mono ?_
      rintro e w1 ⟨rfl, hw1⟩
      rw [hw1, hin]
      clear hw1
      go_wp2
      go_ret
      exact ⟨rfl, HB0.out⟩
    · have HBV : Hid (B = false) := by
        show _ = _
        rw [← HB.out]
        exact decide_eq_false (by unfold VaGood; omega)
      rw [HBV.out]
      have hse := str_some hs
      have hin : inB n 0 1 = true := inB_yes hn
      obtain ⟨c0, c1, c2⟩ := X0.out.triV
      go_enter Tryd.func31, Tryd.ntmps31
      go_upto_region 1 with (fail)
      rw [HW.out]
      go_wp2_with fail
      refine (l1In_g n 0 1 _).mono ?_
      rintro e w1 ⟨rfl, hw1⟩
      rw [hw1, hin]
      clear hw1
      go_wp2
      go_ret
      exact ⟨rfl, HB0.out⟩
    · have HBV : Hid (B = false) := by
        show _ = _
        rw [← HB.out]
        exact decide_eq_false (by unfold VaGood; omega)
      rw [HBV.out]
      obtain rfl := str_nil hs
      have hin : inB n 0 1 = false := inB_no hn
      obtain ⟨c0, c1, c2⟩ := X0.out.triV
      go_enter Tryd.func31, Tryd.ntmps31
      go_upto_region 1 with (fail)
      rw [HW.out]
      go_wp2_with fail
      refine (l1In_g n 0 1 _).mono ?_
      rintro e w1 ⟨rfl, hw1⟩
      rw [hw1, hin]
      clear hw1
      go_wp2
      go_ret
      exact ⟨rfl, HB0.out⟩
    · have HBV : Hid (B = false) := by
        show _ = _
        rw [← HB.out]
        exact decide_eq_false (by unfold VaGood; omega)
      rw [HBV.out]
      have hse := str_some hs
      have hin : inB n 0 1 = false := inB_no hn
      obtain ⟨c0, c1, c2⟩ := X0.out.triV
      go_enter Tryd.func31, Tryd.ntmps31
      go_upto_region 1 with (fail)
      rw [HW.out]
      go_wp2_with fail
      refine (l1In_g n 0 1 _).mono ?_
      rintro e w1 ⟨rfl, hw1⟩
      rw [hw1, hin]
      clear hw1
      go_wp2
      go_ret
      exact ⟨rfl, HB0.out⟩
  · by_cases hn : -1000000000000 ≤ n ∧ n ≤ 1000000000000 <;> by_cases hs : s.size = 0
    · have HBV : Hid (B = true) := by
        show _ = _
        rw [← HB.out]
        exact decide_eq_true (by unfold VaGood; omega)
      rw [HBV.out]
      obtain rfl := str_nil hs
      have hin : inB n (-1000000000000) 1000000000000 = true := inB_yes hn
      obtain ⟨c0, c1, c2⟩ := X0.out.triV
      go_enter Tryd.func31, Tryd.ntmps31
      go_upto_region 1 with (fail)
      rw [HW.out]
      go_wp2_with fail
      refine (l1In_g n (-1000000000000) 1000000000000 _).mono ?_
      rintro e w1 ⟨rfl, hw1⟩
      rw [hw1, hin]
      clear hw1
      go_wp2
      go_ret
      exact ⟨rfl, HB0.out⟩
    · have HBV : Hid (B = false) := by
        show _ = _
        rw [← HB.out]
        exact decide_eq_false (by unfold VaGood; omega)
      rw [HBV.out]
      have hse := str_some hs
      have hin : inB n (-1000000000000) 1000000000000 = true := inB_yes hn
      obtain ⟨c0, c1, c2⟩ := X0.out.triV
      go_enter Tryd.func31, Tryd.ntmps31
      go_upto_region 1 with (fail)
      rw [HW.out]
      go_wp2_with fail
      refine (l1In_g n (-1000000000000) 1000000000000 _).mono ?_
      rintro e w1 ⟨rfl, hw1⟩
      rw [hw1, hin]
      clear hw1
      go_wp2
      go_ret
      exact ⟨rfl, HB0.out⟩
    · have HBV : Hid (B = false) := by
        show _ = _
        rw [← HB.out]
        exact decide_eq_false (by unfold VaGood; omega)
      rw [HBV.out]
      obtain rfl := str_nil hs
      have hin : inB n (-1000000000000) 1000000000000 = false := inB_no hn
      obtain ⟨c0, c1, c2⟩ := X0.out.triV
      go_enter Tryd.func31, Tryd.ntmps31
      go_upto_region 1 with (fail)
      rw [HW.out]
      go_wp2_with fail
      refine (l1In_g n (-1000000000000) 1000000000000 _).mono ?_
      rintro e w1 ⟨rfl, hw1⟩
      rw [hw1, hin]
      clear hw1
      go_wp2
      go_ret
      exact ⟨rfl, HB0.out⟩
    · have HBV : Hid (B = false) := by
        show _ = _
        rw [← HB.out]
        exact decide_eq_false (by unfold VaGood; omega)
      rw [HBV.out]
      have hse := str_some hs
      have hin : inB n (-1000000000000) 1000000000000 = false := inB_no hn
      obtain ⟨c0, c1, c2⟩ := X0.out.triV
      go_enter Tryd.func31, Tryd.ntmps31
      go_upto_region 1 with (fail)
      rw [HW.out]
      go_wp2_with fail
      refine (l1In_g n (-1000000000000) 1000000000000 _).mono ?_
      rintro e w1 ⟨rfl, hw1⟩
      rw [hw1, hin]
      clear hw1
      go_wp2
      go_ret
      exact ⟨rfl, HB0.out⟩
  · by_cases hn : n = 0 <;> by_cases hs : s.size ≤ 20
    · have HBV : Hid (B = true) := by
        show _ = _
        rw [← HB.out]
        exact decide_eq_true (by unfold VaGood; omega)
      rw [HBV.out]
      have hsz : ((s.size : Int) ≤ 20) := by omega
      subst hn
      obtain ⟨c0, c1, c2⟩ := X0.out.triV
      go_enter Tryd.func31, Tryd.ntmps31
      go_upto_region 1 with (fail)
      rw [HW.out]
      go_wp2
      go_ret
      exact ⟨rfl, HB0.out⟩
    · have HBV : Hid (B = false) := by
        show _ = _
        rw [← HB.out]
        exact decide_eq_false (by unfold VaGood; omega)
      rw [HBV.out]
      have hsz : ¬ ((s.size : Int) ≤ 20) := by omega
      subst hn
      obtain ⟨c0, c1, c2⟩ := X0.out.triV
      go_enter Tryd.func31, Tryd.ntmps31
      go_upto_region 1 with (fail)
      rw [HW.out]
      go_wp2
      go_ret
      exact ⟨rfl, HB0.out⟩
    · have HBV : Hid (B = false) := by
        show _ = _
        rw [← HB.out]
        exact decide_eq_false (by unfold VaGood; omega)
      rw [HBV.out]
      have hsz : ((s.size : Int) ≤ 20) := by omega
      obtain ⟨c0, c1, c2⟩ := X0.out.triV
      have hnb : (n == 0) = false := by simpa using hn
      go_enter Tryd.func31, Tryd.ntmps31
      go_upto_region 1 with (fail)
      rw [HW.out]
      go_wp2
      go_ret
      exact ⟨rfl, HB0.out⟩
    · have HBV : Hid (B = false) := by
        show _ = _
        rw [← HB.out]
        exact decide_eq_false (by unfold VaGood; omega)
      rw [HBV.out]
      have hsz : ¬ ((s.size : Int) ≤ 20) := by omega
      obtain ⟨c0, c1, c2⟩ := X0.out.triV
      have hnb : (n == 0) = false := by simpa using hn
      go_enter Tryd.func31, Tryd.ntmps31
      go_upto_region 1 with (fail)
      rw [HW.out]
      go_wp2
      go_ret
      exact ⟨rfl, HB0.out⟩
  · have HBV : Hid (B = false) := by
      show _ = _
      rw [← HB.out]
      exact decide_eq_false (by unfold VaGood; omega)
    rw [HBV.out]
    obtain ⟨c0, c1, c2⟩ := X0.out.triV
    go_enter Tryd.func31, Tryd.ntmps31
    go_upto_region 1 with (fail)
    rw [HW.out]
    go_wp2
    go_ret
    exact ⟨rfl, HB0.out⟩
theorem specTupleOk_any (a : Option Addr) (n c : Nat) (L : List Va3) (w : World) (h : VasAt w a n L) :
    Calls Tryd.prog 15 #[.slice a n c] w fun e w' => e = .returned (.bool (decide (TupGood L))) ∧ Below w.heap.size w w' := by
  obtain ⟨B, hB⟩ : ∃ B, decide (TupGood L) = B := ⟨_, rfl⟩
  rw [hB]
  have HB : Hid (decide (TupGood L) = B) := hB
  have HL : Hid (VasAt w a n L) := h
  have hl := h.1
  have hn := h.2.1
  clear hB h
  go_enter Tryd.func15, Tryd.ntmps15
  go_wp2
  go_loopw [3] (fun i wr => ∃ j : Nat, j ≤ n ∧ i = .int .i64 (j : Int) ∧ (∀ x ∈ L.take j, VaGood x.1 x.2.1 x.2.2) ∧ Below w.heap.size w wr) (fun i _ => n - (RowKit.intOf i).toNat)
  case atStart => exact ⟨0, Nat.zero_le _, rfl, fun x hx => by simp at hx, Below.refl _ _⟩
  case round =>
    obtain ⟨j, hj, rfl, hg, hb⟩ := hrel
    have HG : Hid (∀ x ∈ L.take j, VaGood x.1 x.2.1 x.2.2) := hg
    have HBW : Hid (Below w.heap.size w wr) := hb
    clear hg hb
    by_cases hlt : j < n
    · rcases (HL.out.below HBW.out (Nat.le_refl _)).2.2 with h0 | ⟨p1, o1, rfl, g1⟩
      · omega
      obtain ⟨x, hx⟩ : ∃ x, L[j]? = some x := ⟨_, List.getElem?_eq_getElem (by omega)⟩
      obtain ⟨e0, e1, e2⟩ := g1 j x hx
      have HX : Hid (L[j]? = some x) := hx
      have HT : Hid (L.take (j + 1) = L.take j ++ [x]) := by
        show _ = _
        rw [List.take_succ_eq_append_getElem (by omega), ← (List.getElem?_eq_some_iff.1 hx).2]
      obtain ⟨k, m, s⟩ := x
      dsimp only at e0 e1 e2
      have hk0 : (0 : Int) ≤ (j : Int) := by omega
      have hk1 : (j : Int) < (n : Int) := by omega
      clear g1 hx
      go_wp2_with fail
      refine (specValueOk_any k m s _).mono ?_
      rintro e w2 ⟨rfl, hb2⟩
      have HB2 : Hid (Below w.heap.size w w2) := HBW.out.trans (hb2.mono HBW.out.size)
      clear hb2 e0 e1 e2
      by_cases hv : VaGood k m s
      · rw [decide_eq_true hv]
        have hall : ∀ x ∈ L.take (j + 1), VaGood x.1 x.2.1 x.2.2 := by
          rw [HT.out]
          intro x hx
          rcases List.mem_append.1 hx with h1 | h1
          · exact HG.out x h1
          · simp at h1; subst h1; exact hv
        go_wp2
        go_roundw
        case rel => exact ⟨j + 1, by omega, by go_num, hall, HB2.out⟩
        case measure => simp [RowKit.intOf]; omega
      · rw [decide_eq_false hv]
        have HBV : Hid (B = false) := by
          show _ = _
          rw [← HB.out]
          exact decide_eq_false fun h => hv (h.1 _ (List.mem_of_getElem? HX.out))
        go_wp2
        go_ret
        exact ⟨by rw [HBV.out]; rfl, HB2.out⟩
    · obtain rfl : j = n := by omega
      have hall : ∀ x ∈ L, VaGood x.1 x.2.1 x.2.2 := by
        have h1 := HG.out
        rwa [List.take_of_length_le (by omega)] at h1
      have HBV : Hid (decide ((j : Int) ≤ 4) = B) := by
        show _ = _
        rw [← HB.out]
        refine decide_eq_decide.2 ⟨fun h => ⟨hall, by omega⟩, fun h => by have := h.2; omega⟩
      clear hall
      go_wp2
      go_ret
      exact ⟨by rw [← HBV.out]; rfl, HBW.out⟩
open Go.Lib (byteCells byteCells_length byteCells_append)

theorem tup_succ {L : List Va3} {j : Nat} {x : Va3} (h : L[j]? = some x) : tupB (L.take (j + 1)) = tupB (L.take j) ++ vaB x := by
  have hl : j < L.length := (List.getElem?_eq_some_iff.1 h).1
  rw [List.take_succ_eq_append_getElem hl, tupB_append, (List.getElem?_eq_some_iff.1 h).2]
  show _ ++ (vaB x ++ []) = _
  rw [List.append_nil]
theorem TupGood.take {L : List Va3} (h : TupGood L) (j : Nat) : TupGood (L.take j) := ⟨fun x hx => h.1 x (List.mem_of_mem_take hx), by rw [List.length_take]; have := h.2; omega⟩
def tupBytes (L : List Va3) : List UInt8 := if TupGood L then tupB L else []
theorem specTupleBytes_any (a : Option Addr) (n c : Nat) (L : List Va3) (w : World) (h : VasAt w a n L) :
    Calls Tryd.prog 12 #[.slice a n c] w fun e w' => VbSays w (tupBytes L) e w' := by
  have HL : Hid (VasAt w a n L) := h
  have hl := h.1
  have hn := h.2.1
  obtain ⟨W, hW⟩ : ∃ W, w.alloc (.cells #[] 5) = W := ⟨_, rfl⟩
  obtain ⟨g, hg⟩ : ∃ g, w.heap.size = g := ⟨_, rfl⟩
  have HG : Hid (w.heap.size = g) := hg
  have HO0 : Hid (BOwn W g (.slice (some ⟨g, 0, none⟩) 0 0) []) := by rw [← hW]; exact bown_new w (l := []) hg rfl (Nat.le_refl _) (by decide)
  have HB0 : Hid (Below g w W) := by rw [← hW]; exact (Below.refl _ w).alloc (Nat.le_of_eq hg.symm) _
  have HW : Hid (w.alloc (.cells #[] 5) = W) := hW
  have HS0 : Hid (g ≤ W.heap.size) := by show g ≤ W.heap.size; rw [← hW, World.size_alloc, hg]; exact Nat.le_succ _
  clear h hW hg
  by_cases hg : TupGood L
  · have HT : Hid (decide (TupGood L) = true) := decide_eq_true hg
    have HTG : Hid (TupGood L) := hg
    have HE : Hid (tupBytes L = tupB L) := if_pos hg
    rw [HE.out]
    have h4 : n ≤ 4 := by have := hg.2; omega
    clear hg
    go_enter Tryd.func12, Tryd.ntmps12
    go_upto_region 2 with (fail)
    rw [HW.out, HG.out]
    go_wp2
    go_loopw [3, 4] (fun v i wr => ∃ j : Nat, j ≤ n ∧ i = .int .i64 (j : Int) ∧ BOwn wr g v (tupB (L.take j)) ∧ Below g w wr ∧ g ≤ wr.heap.size) (fun _ i _ => n - (RowKit.intOf i).toNat)
    case atStart => exact ⟨0, Nat.zero_le _, rfl, HO0.out, HB0.out, HS0.out⟩
    case round =>
      obtain ⟨j, hj, rfl, ho, hb, hz⟩ := hrel
      have HO : Hid (BOwn wr g u3 (tupB (L.take j))) := ho
      have HBW : Hid (Below g w wr) := hb
      have HSZ : Hid (g ≤ wr.heap.size) := hz
      have HLW : Hid (VasAt wr a n L) := HL.out.below hb (Nat.le_of_eq HG.out)
      have HLEN : Hid ((tupB (L.take j)).length ≤ 172) := tupB_le (HTG.out.take j)
      clear ho hb hz
      by_cases hlt : j < n
      · have hk1 : (j : Int) < (n : Int) := by omega
        go_upto_region 5 with
          (go_at_call 15
           refine (specTupleOk_any a n c L wr HLW.out).mono ?_
           rintro e w1 ⟨rfl, hb1⟩
           rw [HT.out]
           have HB1 : Hid (Below wr.heap.size wr w1) := hb1
           clear hb1)
        have hz1 : g ≤ w1.heap.size := Nat.le_trans HSZ.out HB1.out.size
        have HZ1 : Hid (g ≤ w1.heap.size) := hz1
        have HO1 : Hid (BOwn w1 g u3 (tupB (L.take j))) := owns_below HO.out HB1.out (Nat.le_refl _)
        have HBW1 : Hid (Below g w w1) := HBW.out.trans (HB1.out.mono HSZ.out)
        rcases (HLW.out.below HB1.out (Nat.le_refl _)).2.2 with h0 | ⟨p1, o1, rfl, g1⟩
        · omega
        obtain ⟨x, hx⟩ : ∃ x, L[j]? = some x := ⟨_, List.getElem?_eq_getElem (by omega)⟩
        obtain ⟨e0, e1, e2⟩ := g1 j x hx
        have HXG : Hid (VaGood x.1 x.2.1 x.2.2) := HTG.out.1 x (List.mem_of_getElem? hx)
        have HNEW : Hid (tupB (L.take j) ++ vaB x = tupB (L.take (j + 1))) := (tup_succ hx).symm
        have hk0 : (0 : Int) ≤ (j : Int) := by omega
        clear g1 hx hz1
        go_wp2_with (first
          | (go_at_call 27
             refine (l18Value_any x HXG.out w1).mono ?_
             rintro e w2 ⟨v2, rfl, ho2, hb2⟩
             have HO2 : Hid (BOwn w2 w1.heap.size v2 (vaB x)) := ho2
             have HB2 : Hid (Below w1.heap.size w1 w2) := hb2
             have HO1' : Hid (BOwn w2 g u3 (tupB (L.take j))) := owns_below HO1.out HB2.out (Nat.le_refl _)
             clear ho2 hb2
             rcases owns_forms HO2.out with ⟨_, h0⟩ | ⟨g2, c2, rfl⟩
             · exfalso
               obtain ⟨_, _, hc⟩ := vaB_some x
               rw [hc] at h0
               simp at h0)
          | (at_builtin
             refine list_appB _ rfl _ _ rfl g u3 _ rfl HO1'.out ⟨g2, 0, none⟩ c2 (vaB x) rfl (fun i u hi => by rw [add_plain, Nat.zero_add]; exact own_cellV HO2.out hi) (by have h1 := vaB_le HXG.out; have h2 := HLEN.out; omega) (Nat.le_trans HZ1.out HB2.out.size) ?_
             intro v3 w3 hown hbel _
             rw [HNEW.out] at hown
             have HO3 : Hid (BOwn w3 g v3 (tupB (L.take (j + 1)))) := hown
             have HB3 : Hid (Below g w w3) := hbel w g (Nat.le_refl _) (HBW1.out.trans (HB2.out.mono HZ1.out))
             have HZ3 : Hid (g ≤ w3.heap.size) := Nat.le_trans (Nat.le_trans HZ1.out HB2.out.size) (hbel w2 0 (Nat.zero_le _) (Below.refl 0 w2)).size
             clear hown hbel))
        go_roundw
        case rel => exact ⟨j + 1, by omega, by go_num, HO3.out, HB3.out, HZ3.out⟩
        case measure => simp [RowKit.intOf]; omega
      · obtain rfl : n = j := by omega
        have HE2 : Hid (tupB (L.take n) = tupB L) := by show _ = _; rw [List.take_of_length_le (by omega)]
        rw [HE2.out] at HO
        go_wp2
        go_ret
        have ho := HO.out
        have hb := HBW.out
        have hg := HG.out
        subst hg
        exact ⟨_, rfl, ho, hb⟩
  · have HT : Hid (decide (TupGood L) = false) := decide_eq_false hg
    have HE : Hid (tupBytes L = []) := if_neg hg
    rw [HE.out]
    have h0 : 0 < n := by
      rcases Nat.eq_zero_or_pos n with h0 | h0
      · exfalso
        apply hg
        have h1 : L = [] := List.length_eq_zero_iff.1 (by omega)
        rw [h1]
        exact ⟨fun x hx => (by cases hx), by decide⟩
      · exact h0
    clear hg
    go_enter Tryd.func12, Tryd.ntmps12
    go_upto_region 2 with (fail)
    rw [HW.out, HG.out]
    go_wp2
    go_loopw [3, 4] (fun v i wr => v = .slice (some ⟨g, 0, none⟩) 0 0 ∧ i = .int .i64 0 ∧ wr = W) (fun _ _ _ => 0)
    case atStart => exact ⟨rfl, rfl, rfl⟩
    case round =>
      obtain ⟨rfl, rfl, rfl⟩ := hrel
      have hk1 : (0 : Int) < (n : Int) := by omega
      go_wp2_with
        (go_at_call 15
         refine (specTupleOk_any a n c L wr (HL.out.below HB0.out (Nat.le_of_eq HG.out))).mono ?_
         rintro e w1 ⟨rfl, hb1⟩
         rw [HT.out]
         have HB1 : Hid (Below wr.heap.size wr w1) := hb1
         clear hb1)
      go_ret
      have ho := owns_below HO0.out HB1.out (Nat.le_refl _)
      have hb := HB0.out.trans (HB1.out.mono HS0.out)
      have hg := HG.out
      subst hg
      exact ⟨_, rfl, ho, hb⟩
end
end Go.Proofs.YtgibeakclknhnaaDoor
