/- The program's appendValue. -/
import Derived.Test.YtgibeakclknhnaaImplAx
import Derived.Test.YtgibeakclknhnaaVasL
import Derived.Test.YtgibeakclknhnaaMarkAt
namespace Go.Proofs.Ytgibeakclknhnaa
open Go.ChangeShapes Go.WideShapes Go.ChangeAt Go.RowKit
open Go.Lib (byteCells byteCells_length byteCells_append)

set_option maxHeartbeats 4000000 in
set_option maxRecDepth 100000 in
theorem appV_null (base : Nat) (v : Value) (l : List UInt8) (w : World) (ho : BOwn w base v l) (hl : l.length ≤ 1000) (hb : base ≤ w.heap.size) :
    Calls Try.prog 37 #[v, VaV 0 0 ⟨#[]⟩] w fun e w' => AppSays base w v (l ++ [1]) e w' := by
  obtain ⟨W, hW⟩ : ∃ W, w.alloc (.cells #[.int .i64 0, .int .i64 0, .string ⟨#[]⟩] 44) = W := ⟨_, rfl⟩
  have HKP : Hid (Grw w v W v) := by rw [← hW]; exact (Grw.refl w v).alloc _
  have X0 : Hid (Box W w.heap.size #[.int .i64 0, .int .i64 0, .string ⟨#[]⟩] 44) := by rw [← hW]; exact box_of w _ _
  have HO : Hid (BOwn W base v l) := by rw [← hW]; exact ho.alloc _
  have HNE : Hid (∀ k, v.ownBlock = some k → k ≠ w.heap.size) := fun k e h => by have := own_lt ho k e; omega
  have HSB : Hid (base ≤ w.heap.size) := hb
  have HSZ : Hid (base ≤ W.heap.size) := Nat.le_trans hb HKP.out.1.size
  have HLEN : Hid (l.length ≤ 1000) := hl
  have HW : Hid (w.alloc (.cells #[.int .i64 0, .int .i64 0, .string ⟨#[]⟩] 44) = W) := hW
  obtain ⟨c0, c1, c2⟩ := X0.out.triV
  clear hW ho hl hb
  go_enter Try.func37, Try.ntmps37
  go_upto_region 1 with (fail)
  rw [HW.out]
  go_upto_region 2 with
    (at_builtin
     refine list_appG _ rfl _ _ rfl base v _ rfl (HO.out.alloc _) ⟨W.heap.size, 0, none⟩ 1 [1] rfl (bnews _ _ rfl _ rfl) (by have := HLEN.out; simp only [List.length_cons, List.length_nil]; omega) (by have := HSZ.out; simp; omega) ?_
     intro v1 w1 hown hbel
     have HO1 : Hid (BOwn w1 base v1 _) := hown
     have HK1 : Hid (Grw w v w1 v1) := hbel _ _ (HKP.out.alloc _)
     have HS1 : Hid (base ≤ w1.heap.size) := Nat.le_trans HSB.out HK1.out.1.size
     have HG1 : Hid (Grw W v w1 v1) := hbel _ _ ((Grw.refl W v).alloc _)
     clear hown hbel)
  have HKG : Hid (Grw W v w1 v1) := HG1.out
  have X1 : Hid (Box w1 w.heap.size #[.int .i64 0, .int .i64 0, .string ⟨#[]⟩] 44) := HKG.out.box X0.out HNE.out
  have HLE1 : Hid ((l ++ [1]).length ≤ 1001) := by show _ ≤ _; rw [List.length_append]; exact Nat.add_le_add_right HLEN.out 1
  clear c0 c1 c2
  obtain ⟨c0, c1, c2⟩ := X1.out.triV
  go_wp2
  go_ret
  exact ⟨_, rfl, HO1.out, HK1.out⟩
set_option maxHeartbeats 4000000 in
set_option maxRecDepth 100000 in
theorem appV_no (base : Nat) (v : Value) (l : List UInt8) (w : World) (ho : BOwn w base v l) (hl : l.length ≤ 1000) (hb : base ≤ w.heap.size) :
    Calls Try.prog 37 #[v, VaV 1 0 ⟨#[]⟩] w fun e w' => AppSays base w v (l ++ [2, 0]) e w' := by
  obtain ⟨W, hW⟩ : ∃ W, w.alloc (.cells #[.int .i64 1, .int .i64 0, .string ⟨#[]⟩] 44) = W := ⟨_, rfl⟩
  have HKP : Hid (Grw w v W v) := by rw [← hW]; exact (Grw.refl w v).alloc _
  have X0 : Hid (Box W w.heap.size #[.int .i64 1, .int .i64 0, .string ⟨#[]⟩] 44) := by rw [← hW]; exact box_of w _ _
  have HO : Hid (BOwn W base v l) := by rw [← hW]; exact ho.alloc _
  have HNE : Hid (∀ k, v.ownBlock = some k → k ≠ w.heap.size) := fun k e h => by have := own_lt ho k e; omega
  have HSB : Hid (base ≤ w.heap.size) := hb
  have HSZ : Hid (base ≤ W.heap.size) := Nat.le_trans hb HKP.out.1.size
  have HLEN : Hid (l.length ≤ 1000) := hl
  have HW : Hid (w.alloc (.cells #[.int .i64 1, .int .i64 0, .string ⟨#[]⟩] 44) = W) := hW
  obtain ⟨c0, c1, c2⟩ := X0.out.triV
  clear hW ho hl hb
  go_enter Try.func37, Try.ntmps37
  go_upto_region 1 with (fail)
  rw [HW.out]
  go_upto_region 2 with
    (at_builtin
     refine list_appG _ rfl _ _ rfl base v _ rfl (HO.out.alloc _) ⟨W.heap.size, 0, none⟩ 1 [2] rfl (bnews _ _ rfl _ rfl) (by have := HLEN.out; simp only [List.length_cons, List.length_nil]; omega) (by have := HSZ.out; simp; omega) ?_
     intro v1 w1 hown hbel
     have HO1 : Hid (BOwn w1 base v1 _) := hown
     have HK1 : Hid (Grw w v w1 v1) := hbel _ _ (HKP.out.alloc _)
     have HS1 : Hid (base ≤ w1.heap.size) := Nat.le_trans HSB.out HK1.out.1.size
     have HG1 : Hid (Grw W v w1 v1) := hbel _ _ ((Grw.refl W v).alloc _)
     clear hown hbel)
  have HKG : Hid (Grw W v w1 v1) := HG1.out
  have X1 : Hid (Box w1 w.heap.size #[.int .i64 1, .int .i64 0, .string ⟨#[]⟩] 44) := HKG.out.box X0.out HNE.out
  have HLE1 : Hid ((l ++ [2]).length ≤ 1001) := by show _ ≤ _; rw [List.length_append]; exact Nat.add_le_add_right HLEN.out 1
  clear c0 c1 c2
  obtain ⟨c0, c1, c2⟩ := X1.out.triV
  have HKP := HK1
  go_wp2_with
    (at_builtin
     refine list_appG _ rfl _ _ rfl base v1 _ rfl (HO1.out.alloc _) ⟨w1.heap.size, 0, none⟩ 1 [0] rfl (bnews _ _ rfl _ rfl) (by have := HLE1.out; simp only [List.length_cons, List.length_nil]; omega) (by have := HS1.out; simp; omega) ?_
     intro v2 w2 hown hbel
     have HO2 : Hid (BOwn w2 base v2 _) := hown
     have HK2 : Hid (Grw w v w2 v2) := hbel _ _ (HKP.out.alloc _)
     have HS2 : Hid (base ≤ w2.heap.size) := Nat.le_trans HSB.out HK2.out.1.size
     clear hown hbel)
  go_ret
  have hfin := HO2.out
  rw [List.append_assoc] at hfin
  exact ⟨_, rfl, hfin, HK2.out⟩
set_option maxHeartbeats 4000000 in
set_option maxRecDepth 100000 in
theorem appV_yes (base : Nat) (v : Value) (l : List UInt8) (w : World) (ho : BOwn w base v l) (hl : l.length ≤ 1000) (hb : base ≤ w.heap.size) :
    Calls Try.prog 37 #[v, VaV 1 1 ⟨#[]⟩] w fun e w' => AppSays base w v (l ++ [2, 1]) e w' := by
  obtain ⟨W, hW⟩ : ∃ W, w.alloc (.cells #[.int .i64 1, .int .i64 1, .string ⟨#[]⟩] 44) = W := ⟨_, rfl⟩
  have HKP : Hid (Grw w v W v) := by rw [← hW]; exact (Grw.refl w v).alloc _
  have X0 : Hid (Box W w.heap.size #[.int .i64 1, .int .i64 1, .string ⟨#[]⟩] 44) := by rw [← hW]; exact box_of w _ _
  have HO : Hid (BOwn W base v l) := by rw [← hW]; exact ho.alloc _
  have HNE : Hid (∀ k, v.ownBlock = some k → k ≠ w.heap.size) := fun k e h => by have := own_lt ho k e; omega
  have HSB : Hid (base ≤ w.heap.size) := hb
  have HSZ : Hid (base ≤ W.heap.size) := Nat.le_trans hb HKP.out.1.size
  have HLEN : Hid (l.length ≤ 1000) := hl
  have HW : Hid (w.alloc (.cells #[.int .i64 1, .int .i64 1, .string ⟨#[]⟩] 44) = W) := hW
  obtain ⟨c0, c1, c2⟩ := X0.out.triV
  clear hW ho hl hb
  go_enter Try.func37, Try.ntmps37
  go_upto_region 1 with (fail)
  rw [HW.out]
  go_upto_region 2 with
    (at_builtin
     refine list_appG _ rfl _ _ rfl base v _ rfl (HO.out.alloc _) ⟨W.heap.size, 0, none⟩ 1 [2] rfl (bnews _ _ rfl _ rfl) (by have := HLEN.out; simp only [List.length_cons, List.length_nil]; omega) (by have := HSZ.out; simp; omega) ?_
     intro v1 w1 hown hbel
     have HO1 : Hid (BOwn w1 base v1 _) := hown
     have HK1 : Hid (Grw w v w1 v1) := hbel _ _ (HKP.out.alloc _)
     have HS1 : Hid (base ≤ w1.heap.size) := Nat.le_trans HSB.out HK1.out.1.size
     have HG1 : Hid (Grw W v w1 v1) := hbel _ _ ((Grw.refl W v).alloc _)
     clear hown hbel)
  have HKG : Hid (Grw W v w1 v1) := HG1.out
  have X1 : Hid (Box w1 w.heap.size #[.int .i64 1, .int .i64 1, .string ⟨#[]⟩] 44) := HKG.out.box X0.out HNE.out
  have HLE1 : Hid ((l ++ [2]).length ≤ 1001) := by show _ ≤ _; rw [List.length_append]; exact Nat.add_le_add_right HLEN.out 1
  clear c0 c1 c2
  obtain ⟨c0, c1, c2⟩ := X1.out.triV
  have HKP := HK1
  go_wp2_with
    (at_builtin
     refine list_appG _ rfl _ _ rfl base v1 _ rfl (HO1.out.alloc _) ⟨w1.heap.size, 0, none⟩ 1 [1] rfl (bnews _ _ rfl _ rfl) (by have := HLE1.out; simp only [List.length_cons, List.length_nil]; omega) (by have := HS1.out; simp; omega) ?_
     intro v2 w2 hown hbel
     have HO2 : Hid (BOwn w2 base v2 _) := hown
     have HK2 : Hid (Grw w v w2 v2) := hbel _ _ (HKP.out.alloc _)
     have HS2 : Hid (base ≤ w2.heap.size) := Nat.le_trans HSB.out HK2.out.1.size
     clear hown hbel)
  go_ret
  have hfin := HO2.out
  rw [List.append_assoc] at hfin
  exact ⟨_, rfl, hfin, HK2.out⟩
set_option maxHeartbeats 4000000 in
set_option maxRecDepth 100000 in
theorem appV_int (base : Nat) (v : Value) (l : List UInt8) (n : Int) (hn : -1000000000000 ≤ n ∧ n ≤ 1000000000000) (m : Nat) (hm : n + 4611686018427387904 = (m : Int)) (w : World) (ho : BOwn w base v l) (hl : l.length ≤ 1000) (hb : base ≤ w.heap.size) :
    Calls Try.prog 37 #[v, VaV 2 n ⟨#[]⟩] w fun e w' => AppSays base w v (l ++ (3 :: beN 8 m)) e w' := by
  have HN : Hid (-1000000000000 ≤ n ∧ n ≤ 1000000000000) := hn
  have HM : Hid (n + 4611686018427387904 = (m : Int)) := hm
  clear hn hm
  obtain ⟨W, hW⟩ : ∃ W, w.alloc (.cells #[.int .i64 2, .int .i64 n, .string ⟨#[]⟩] 44) = W := ⟨_, rfl⟩
  have HKP : Hid (Grw w v W v) := by rw [← hW]; exact (Grw.refl w v).alloc _
  have X0 : Hid (Box W w.heap.size #[.int .i64 2, .int .i64 n, .string ⟨#[]⟩] 44) := by rw [← hW]; exact box_of w _ _
  have HO : Hid (BOwn W base v l) := by rw [← hW]; exact ho.alloc _
  have HNE : Hid (∀ k, v.ownBlock = some k → k ≠ w.heap.size) := fun k e h => by have := own_lt ho k e; omega
  have HSB : Hid (base ≤ w.heap.size) := hb
  have HSZ : Hid (base ≤ W.heap.size) := Nat.le_trans hb HKP.out.1.size
  have HLEN : Hid (l.length ≤ 1000) := hl
  have HW : Hid (w.alloc (.cells #[.int .i64 2, .int .i64 n, .string ⟨#[]⟩] 44) = W) := hW
  obtain ⟨c0, c1, c2⟩ := X0.out.triV
  clear hW ho hl hb
  go_enter Try.func37, Try.ntmps37
  go_upto_region 1 with (fail)
  rw [HW.out]
  go_upto_region 2 with
    (at_builtin
     refine list_appG _ rfl _ _ rfl base v _ rfl (HO.out.alloc _) ⟨W.heap.size, 0, none⟩ 1 [3] rfl (bnews _ _ rfl _ rfl) (by have := HLEN.out; simp only [List.length_cons, List.length_nil]; omega) (by have := HSZ.out; simp; omega) ?_
     intro v1 w1 hown hbel
     have HO1 : Hid (BOwn w1 base v1 _) := hown
     have HK1 : Hid (Grw w v w1 v1) := hbel _ _ (HKP.out.alloc _)
     have HS1 : Hid (base ≤ w1.heap.size) := Nat.le_trans HSB.out HK1.out.1.size
     have HG1 : Hid (Grw W v w1 v1) := hbel _ _ ((Grw.refl W v).alloc _)
     clear hown hbel)
  have HKG : Hid (Grw W v w1 v1) := HG1.out
  have X1 : Hid (Box w1 w.heap.size #[.int .i64 2, .int .i64 n, .string ⟨#[]⟩] 44) := HKG.out.box X0.out HNE.out
  have HLE1 : Hid ((l ++ [3]).length ≤ 1001) := by show _ ≤ _; rw [List.length_append]; exact Nat.add_le_add_right HLEN.out 1
  clear c0 c1 c2
  obtain ⟨c0, c1, c2⟩ := X1.out.triV
  go_wp2_with fail
  refine (appendInt_any base v1 _ n HN.out m HM.out w1 HO1.out (by have := HLE1.out; omega) HS1.out).mono ?_
  rintro e w2 ⟨v2, rfl, hown, hg⟩
  have HO2 : Hid (BOwn w2 base v2 _) := hown
  have HK2 : Hid (Grw w v w2 v2) := HK1.out.trans hg
  clear hown hg c0 c1 c2
  go_wp2
  go_ret
  have hfin := HO2.out
  rw [List.append_assoc] at hfin
  exact ⟨_, rfl, hfin, HK2.out⟩
set_option maxHeartbeats 4000000 in
set_option maxRecDepth 100000 in
theorem appV_text (base : Nat) (v : Value) (l : List UInt8) (s : ByteArray) (hs : s.size ≤ 20) (w : World) (ho : BOwn w base v l) (hl : l.length ≤ 1000) (hb : base ≤ w.heap.size) :
    Calls Try.prog 37 #[v, VaV 3 0 s] w fun e w' => AppSays base w v (l ++ (4 :: (escB s.data.toList ++ [0, 1]))) e w' := by
  have HSS : Hid (s.size ≤ 20) := hs
  clear hs
  obtain ⟨W, hW⟩ : ∃ W, w.alloc (.cells #[.int .i64 3, .int .i64 0, .string s] 44) = W := ⟨_, rfl⟩
  have HKP : Hid (Grw w v W v) := by rw [← hW]; exact (Grw.refl w v).alloc _
  have X0 : Hid (Box W w.heap.size #[.int .i64 3, .int .i64 0, .string s] 44) := by rw [← hW]; exact box_of w _ _
  have HO : Hid (BOwn W base v l) := by rw [← hW]; exact ho.alloc _
  have HNE : Hid (∀ k, v.ownBlock = some k → k ≠ w.heap.size) := fun k e h => by have := own_lt ho k e; omega
  have HSB : Hid (base ≤ w.heap.size) := hb
  have HSZ : Hid (base ≤ W.heap.size) := Nat.le_trans hb HKP.out.1.size
  have HLEN : Hid (l.length ≤ 1000) := hl
  have HW : Hid (w.alloc (.cells #[.int .i64 3, .int .i64 0, .string s] 44) = W) := hW
  obtain ⟨c0, c1, c2⟩ := X0.out.triV
  clear hW ho hl hb
  go_enter Try.func37, Try.ntmps37
  go_upto_region 1 with (fail)
  rw [HW.out]
  go_upto_region 2 with
    (at_builtin
     refine list_appG _ rfl _ _ rfl base v _ rfl (HO.out.alloc _) ⟨W.heap.size, 0, none⟩ 1 [4] rfl (bnews _ _ rfl _ rfl) (by have := HLEN.out; simp only [List.length_cons, List.length_nil]; omega) (by have := HSZ.out; simp; omega) ?_
     intro v1 w1 hown hbel
     have HO1 : Hid (BOwn w1 base v1 _) := hown
     have HK1 : Hid (Grw w v w1 v1) := hbel _ _ (HKP.out.alloc _)
     have HS1 : Hid (base ≤ w1.heap.size) := Nat.le_trans HSB.out HK1.out.1.size
     have HG1 : Hid (Grw W v w1 v1) := hbel _ _ ((Grw.refl W v).alloc _)
     clear hown hbel)
  have HKG : Hid (Grw W v w1 v1) := HG1.out
  have X1 : Hid (Box w1 w.heap.size #[.int .i64 3, .int .i64 0, .string s] 44) := HKG.out.box X0.out HNE.out
  have HLE1 : Hid ((l ++ [4]).length ≤ 1001) := by show _ ≤ _; rw [List.length_append]; exact Nat.add_le_add_right HLEN.out 1
  clear c0 c1 c2
  obtain ⟨c0, c1, c2⟩ := X1.out.triV
  go_wp2_with fail
  refine (appendText_any base v1 _ s HSS.out w1 HO1.out (by have := HLE1.out; omega) HS1.out).mono ?_
  rintro e w2 ⟨v2, rfl, hown, hg⟩
  have HO2 : Hid (BOwn w2 base v2 _) := hown
  have HK2 : Hid (Grw w v w2 v2) := HK1.out.trans hg
  clear hown hg c0 c1 c2
  go_wp2
  go_ret
  have hfin := HO2.out
  rw [List.append_assoc] at hfin
  exact ⟨_, rfl, hfin, HK2.out⟩
theorem appendValue_any (base : Nat) (v : Value) (l : List UInt8) (x : Va3) (hg : VaGood x.1 x.2.1 x.2.2) (w : World) (ho : BOwn w base v l) (hl : l.length ≤ 1000) (hb : base ≤ w.heap.size) :
    Calls Try.prog 37 #[v, VaV x.1 x.2.1 x.2.2] w fun e w' => AppSays base w v (l ++ vaB x) e w' := by
  obtain ⟨k, n, s⟩ := x
  dsimp only at hg ⊢
  rcases hg with ⟨rfl, rfl, h2⟩ | ⟨rfl, h1, h2⟩ | ⟨rfl, h1, h2⟩ | ⟨rfl, rfl, h2⟩
  · rw [str_nil h2]
    exact appV_null base v l w ho hl hb
  · rw [str_nil h2]
    rcases (show n = 0 ∨ n = 1 by omega) with rfl | rfl
    · exact appV_no base v l w ho hl hb
    · exact appV_yes base v l w ho hl hb
  · rw [str_nil h2]
    exact appV_int base v l n h1 (n + 4611686018427387904).toNat (by omega) w ho hl hb
  · exact appV_text base v l s h2 w ho hl hb
end Go.Proofs.Ytgibeakclknhnaa
