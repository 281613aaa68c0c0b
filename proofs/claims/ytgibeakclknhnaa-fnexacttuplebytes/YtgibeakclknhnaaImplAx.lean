/- The program's appendText. -/
import Derived.Test.YtgibeakclknhnaaImplAi
namespace Go.Proofs.Ytgibeakclknhnaa
open Go.ChangeShapes Go.WideShapes Go.ChangeAt Go.RowKit
open Go.Lib (byteCells byteCells_length byteCells_append)

set_option maxHeartbeats 4000000 in
set_option maxRecDepth 100000 in
theorem appendText_any (base : Nat) (v : Value) (l : List UInt8) (s : ByteArray) (hs : s.size ≤ 20) (w : World) (ho : BOwn w base v l) (hl : l.length ≤ 1000000) (hb : base ≤ w.heap.size) :
    Calls Try.prog 53 #[v, .string s] w fun e w' => AppSays base w v (l ++ (escB s.data.toList ++ [0, 1])) e w' := by
  have HO0 : Hid (BOwn w base v l) := ho
  have HSB : Hid (base ≤ w.heap.size) := hb
  have HLL : Hid (l.length ≤ 1000000) := hl
  clear ho hl hb
  go_enter Try.func53, Try.ntmps53
  go_wp2
  go_loopw [0, 8] (fun u i wr => ∃ j : Nat, j ≤ s.size ∧ i = .int .i64 (j : Int) ∧ BOwn wr base u (l ++ escB (s.data.toList.take j)) ∧ Grw w v wr u) (fun _ i _ => s.size - (RowKit.intOf i).toNat)
  case atStart => exact ⟨0, Nat.zero_le _, rfl, by rw [List.take_zero]; show BOwn _ _ _ (l ++ []); rw [List.append_nil]; exact HO0.out, Grw.refl _ _⟩
  case round =>
    obtain ⟨j, hj, rfl, ho, hk⟩ := hrel
    have HO : Hid (BOwn wr base u0 (l ++ escB (s.data.toList.take j))) := ho
    have HKP : Hid (Grw w v wr u0) := hk
    have HSZ : Hid (base ≤ wr.heap.size) := Nat.le_trans HSB.out hk.1.size
    have HLEN : Hid ((l ++ escB (s.data.toList.take j)).length ≤ 1000041) := by
      show _ ≤ _
      have h1 := escB_le (s.data.toList.take j)
      have h2 := HLL.out
      rw [List.length_take] at h1
      rw [List.length_append]
      omega
    clear ho hk
    by_cases hlt : j < s.size
    · have hk0 : (0 : Int) ≤ (j : Int) := by omega
      have hk1 : (j : Int) < (s.size : Int) := by omega
      have hbd : j < s.data.size := hlt
      have hb? : s.data.toList[j]? = some (s[j]'hlt) := by
        rw [Array.getElem?_toList]
        exact Array.getElem?_eq_getElem hlt
      obtain ⟨b, hbq⟩ : ∃ b, s[j]'hlt = b := ⟨_, rfl⟩
      have HX := escB_succ hb?
      rw [hbq] at HX
      go_upto_region 5 with
        (at_builtin
         refine list_appG _ rfl _ _ rfl base u0 _ rfl (HO.out.alloc _) ⟨wr.heap.size, 0, none⟩ 1 [b] rfl (bnews _ _ rfl _ rfl) (by have := HLEN.out; simp only [List.length_cons, List.length_nil]; omega) (by have := HSZ.out; simp; omega) ?_
         intro v1 w1 hown hbel
         have HO1 : Hid (BOwn w1 base v1 _) := hown
         have HK1 : Hid (Grw w v w1 v1) := hbel _ _ (HKP.out.alloc _)
         have HS1 : Hid (base ≤ w1.heap.size) := Nat.le_trans HSB.out HK1.out.1.size
         clear hown hbel)
      by_cases hb0 : b = 0
      · have hbe : ((b.toNat : Int) == 0) = true := by rw [hb0]; rfl
        rw [if_pos hb0] at HX
        have HNEW : Hid (((l ++ escB (s.data.toList.take j)) ++ [b]) ++ [255] = l ++ escB (s.data.toList.take (j + 1))) := by show _ = _; rw [HX, hb0]; simp
        have HLE1 : Hid (((l ++ escB (s.data.toList.take j)) ++ [b]).length ≤ 1000042) := by show _ ≤ _; rw [List.length_append]; exact Nat.add_le_add_right HLEN.out 1
        clear HX hb0
        have HKP := HK1
        go_wp2_with
          (at_builtin
           refine list_appG _ rfl _ _ rfl base v1 _ rfl (HO1.out.alloc _) ⟨w1.heap.size, 0, none⟩ 1 [255] rfl (bnews _ _ rfl _ rfl) (by have := HLE1.out; simp only [List.length_cons, List.length_nil]; omega) (by have := HS1.out; simp; omega) ?_
           intro v2 w2 hown hbel
           have HO2 : Hid (BOwn w2 base v2 _) := hown
           have HK2 : Hid (Grw w v w2 v2) := hbel _ _ (HKP.out.alloc _)
           have HS2 : Hid (base ≤ w2.heap.size) := Nat.le_trans HSB.out HK2.out.1.size
           clear hown hbel)
        have HO2' := HO2
        rw [HNEW.out] at HO2'
        go_roundw
        case rel => exact ⟨j + 1, by omega, by go_num, HO2'.out, HK2.out⟩
        case measure => simp [RowKit.intOf]; omega
      · have hbe : ((b.toNat : Int) == 0) = false := by
          rw [beq_eq_false_iff_ne]
          have := u8_pos hb0
          omega
        rw [if_neg hb0] at HX
        have HNEW : Hid ((l ++ escB (s.data.toList.take j)) ++ [b] = l ++ escB (s.data.toList.take (j + 1))) := by show _ = _; rw [HX, List.append_assoc]
        have HO1' := HO1
        rw [HNEW.out] at HO1'
        clear HX hb0
        go_wp2
        go_roundw
        case rel => exact ⟨j + 1, by omega, by go_num, HO1'.out, HK1.out⟩
        case measure => simp [RowKit.intOf]; omega
    · obtain rfl : s.size = j := by omega
      have HT : Hid (BOwn wr base u0 (l ++ escB s.data.toList)) := by
        have h1 := HO.out
        rw [List.take_of_length_le (by simp)] at h1
        exact h1
      have HLT := HLEN
      rw [List.take_of_length_le (by simp)] at HLT
      go_wp2_with
        (at_builtin
         refine list_appG _ rfl _ _ rfl base u0 _ rfl (HT.out.alloc _) ⟨wr.heap.size, 0, none⟩ 2 [0, 1] rfl (bnews _ _ rfl _ rfl) (by have := HLT.out; simp only [List.length_cons, List.length_nil]; omega) (by have := HSZ.out; simp; omega) ?_
         intro v1 w1 hown hbel
         have HO1 : Hid (BOwn w1 base v1 _) := hown
         have HK1 : Hid (Grw w v w1 v1) := hbel _ _ (HKP.out.alloc _)
         have HS1 : Hid (base ≤ w1.heap.size) := Nat.le_trans HSB.out HK1.out.1.size
         clear hown hbel)
      go_ret
      have hfin := HO1.out
      rw [List.append_assoc] at hfin
      exact ⟨_, rfl, hfin, HK1.out⟩
end Go.Proofs.Ytgibeakclknhnaa
