/- The program's ResText, walked. -/
import Derived.Test.YtkelhndijgakdaaDoorTab14
import Derived.Test.YtkelhndijgakdaaDoorImplNums
import Derived.Test.YtkelhndijgakdaaDoorWithin
import Derived.Test.YtkelhndijgakdaaDoorResV
namespace Go.Proofs.YtkelhndijgakdaaDoor
open Go.ChangeShapes Go.WideShapes Go.ChangeAt Go.RowKit 
open Go.Lib hiding intOf

theorem codesR_at {k : Nat} (h : k < 5) : codesR.getD k [] = codeB (k : Int) := by
  have h : k = 0 ∨ k = 1 ∨ k = 2 ∨ k = 3 ∨ k = 4 := by omega
  rcases h with rfl | rfl | rfl | rfl | rfl <;> rfl
theorem codeB_what {code : Int} (h : ¬ (0 ≤ code ∧ code ≤ 4)) : codeB code = [119, 104, 97, 116] := by
  unfold codeB
  repeat' split
  all_goals first | rfl | omega
set_option maxHeartbeats 4000000 in
set_option maxRecDepth 100000 in
theorem implResText_any (code : Int) (a : Option Addr) (n c : Nat) (xs : List Int) (w : World) (hA : IntAt w a n xs) (hn : n ≤ 1048576) (hx : In64s xs) (hN : ResNamesIs w) (htab : Lib.TabIs Tryd.prog w "internal/strconv.uint64pow10" .u64 Lib.pow10Tab) :
    Calls Tryd.prog 17 #[ResV code a n c] w fun e w' => TextSays e (resB code xs) ∧ Below w.heap.size w w' := by
  obtain ⟨W, hW⟩ : ∃ W, w.alloc (.cells #[.int .i64 code, .slice a n c] 40) = W := ⟨_, rfl⟩
  have HB0 : Hid (Below w.heap.size w W) := by rw [← hW]; exact (Below.refl _ w).alloc (Nat.le_refl _) _
  have X0 : Hid (Box W w.heap.size #[.int .i64 code, .slice a n c] 40) := by rw [← hW]; exact box_of w _ _
  have HW : Hid (w.alloc (.cells #[.int .i64 code, .slice a n c] 40) = W) := hW
  have HA : Hid (IntAt W a n xs) := hA.below HB0.out (Nat.le_refl _)
  have HN : Hid (ResNamesIs W) := hN.below HB0.out (Nat.le_refl _)
  have HTAB : Hid (Lib.TabIs Tryd.prog W "internal/strconv.uint64pow10" .u64 Lib.pow10Tab) := Joins.tab_stays gTab htab HB0.out (Nat.le_refl _)
  have HI : Hid (In64s xs) := hx
  have HXL : Hid (xs.length = n) := hA.1
  clear hW hA hx hN htab
  obtain ⟨nb, hnb⟩ : ∃ nb : ByteArray, nb = ⟨(codeB code).toArray⟩ := ⟨_, rfl⟩
  have HNL : Hid (nb.data.toList = codeB code) := by show _ = _; rw [hnb]
  have hnsz : nb.size ≤ 5 := by
    have h1 := codeB_len code
    rw [← HNL.out] at h1
    simpa using h1
  have HTN : Hid (n = 0 → resB code xs = codeB code) := fun h => by
    have : xs = [] := List.length_eq_zero_iff.1 (by rw [HXL.out]; exact h)
    rw [resB, if_pos this]
  have HTY : Hid (¬ n = 0 → resB code xs = codeB code ++ 32 :: numsB xs) := fun h => by
    have : ¬ xs = [] := fun e => h (by rw [← HXL.out, e]; rfl)
    rw [resB, if_neg this]
  obtain ⟨c0, c1, _, _⟩ := X0.out.two
  have tail : ∀ {Q : Prop}, Q → Q := fun h => h
  by_cases hc : 0 ≤ code ∧ code ≤ 4
  · have hin : inB code 0 4 = true := inB_yes hc
    obtain ⟨kk, rfl⟩ : ∃ kk : Nat, code = (kk : Int) := ⟨code.toNat, by omega⟩
    have hk5 : kk < 5 := by omega
    have hk0 : (0 : Int) ≤ (kk : Int) := by omega
    have hk5' : (kk : Int) < 5 := by omega
    have hcn : W.cell? ⟨1, kk, none⟩ = some (.string nb) := by
      have h1 := HN.out.cell gResNames kk (by exact hk5)
      rw [codesR_at hk5] at h1
      rw [hnb]
      exact h1
    clear hnb hc
    go_enter Tryd.func17, Tryd.ntmps17
    go_upto_region 2 with (fail)
    rw [HW.out]
    go_wp2_with fail
    refine (within_g (kk : Int) 0 4 _).mono ?_
    rintro e w1 ⟨rfl, hw1⟩
    rw [hw1, hin]
    clear hw1 hin
    by_cases hz : n = 0
    · have hz1 : ¬ (0 : Int) < (n : Int) := by omega
      go_wp2
      go_ret
      exact ⟨⟨nb, rfl, HNL.out.trans (HTN.out hz).symm⟩, HB0.out⟩
    · have hz1 : (0 : Int) < (n : Int) := by omega
      have HZ : Hid (¬ n = 0) := hz
      clear hz
      go_wp2_with fail
      refine (implNums_any a n c xs _ HA.out hn HI.out HTAB.out).mono ?_
      obtain ⟨sx, hsx⟩ : ∃ sx : ByteArray, sx = ⟨(numsB xs).toArray⟩ := ⟨_, rfl⟩
      have HSX : Hid (sx.data.toList = numsB xs) := by show _ = _; rw [hsx]
      have hz2 : sx.size ≤ 22 * n := by
        have h1 := numsB_len n xs HXL.out HI.out
        rw [← HSX.out] at h1
        simpa using h1
      rw [← hsx]
      rintro e w2 ⟨rfl, hb2⟩
      have HB2 : Hid (Below w.heap.size w w2) := HB0.out.trans (hb2.mono HB0.out.size)
      clear hb2 hsx
      go_wp2
      go_ret
      refine ⟨⟨_, rfl, ?_⟩, HB2.out⟩
      rw [HTY.out HZ.out]
      simp [HNL.out, HSX.out]
  · have hin : inB code 0 4 = false := inB_no hc
    have hwh : nb = ⟨#[119, 104, 97, 116]⟩ := by rw [hnb, codeB_what hc]
    clear hnb hc
    go_enter Tryd.func17, Tryd.ntmps17
    go_upto_region 2 with (fail)
    rw [HW.out, ← hwh]
    go_wp2_with fail
    refine (within_g code 0 4 _).mono ?_
    rintro e w1 ⟨rfl, hw1⟩
    rw [hw1, hin]
    clear hw1 hin hwh
    by_cases hz : n = 0
    · have hz1 : ¬ (0 : Int) < (n : Int) := by omega
      go_wp2
      go_ret
      exact ⟨⟨nb, rfl, HNL.out.trans (HTN.out hz).symm⟩, HB0.out⟩
    · have hz1 : (0 : Int) < (n : Int) := by omega
      have HZ : Hid (¬ n = 0) := hz
      clear hz
      go_wp2_with fail
      refine (implNums_any a n c xs _ HA.out hn HI.out HTAB.out).mono ?_
      obtain ⟨sx, hsx⟩ : ∃ sx : ByteArray, sx = ⟨(numsB xs).toArray⟩ := ⟨_, rfl⟩
      have HSX : Hid (sx.data.toList = numsB xs) := by show _ = _; rw [hsx]
      have hz2 : sx.size ≤ 22 * n := by
        have h1 := numsB_len n xs HXL.out HI.out
        rw [← HSX.out] at h1
        simpa using h1
      rw [← hsx]
      rintro e w2 ⟨rfl, hb2⟩
      have HB2 : Hid (Below w.heap.size w w2) := HB0.out.trans (hb2.mono HB0.out.size)
      clear hb2 hsx
      go_wp2
      go_ret
      refine ⟨⟨_, rfl, ?_⟩, HB2.out⟩
      rw [HTY.out HZ.out]
      simp [HNL.out, HSX.out]
end Go.Proofs.YtkelhndijgakdaaDoor
