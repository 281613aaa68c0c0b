/- spec.ResText, walked. -/
import Derived.Test.YtkelhndijgakdaaDoorSpecTx2
namespace Go.Proofs.YtkelhndijgakdaaDoor
open Go.ChangeShapes Go.WideShapes Go.ChangeAt Go.RowKit Go.Lib

theorem size_str (x : UInt8) : (⟨#[x]⟩ : ByteArray).size = 1 := rfl
theorem size_cat (a b : ByteArray) : (a ++ b).size = a.size + b.size := by simp
theorem cat_str {P : Program} (t : TypeId) (a b : ByteArray) (h : a.size + b.size ≤ 281474976710656) (w : World) : (binOp .add t (.string a) (.string b)).run P w = .ok (.string (a ++ b)) w := by
  simp [binOp, run_string_add_sum w a b (by omega)]
/-- The words of codes, in a list. -/
def codesT : List (List UInt8) := [[100, 111, 110, 101], [116, 104, 101, 114, 101], [116, 97, 107, 101, 110], [110, 111, 110, 101], [110, 111, 116], [119, 104, 97, 116]]
theorem codesT_at {k : Nat} (h : k < 6) : codesT.getD k [] = codeB (k : Int) := by
  have h : k = 0 ∨ k = 1 ∨ k = 2 ∨ k = 3 ∨ k = 4 ∨ k = 5 := by omega
  rcases h with rfl | rfl | rfl | rfl | rfl | rfl <;> rfl
theorem codeB_no {code : Int} (h : ¬ (0 ≤ code ∧ code ≤ 5)) : codeB code = codeB 5 := by
  unfold codeB
  repeat' split
  all_goals first | rfl | omega
theorem codeB_len (code : Int) : (codeB code).length ≤ 5 := by
  unfold codeB
  repeat' split
  all_goals decide
set_option maxHeartbeats 4000000 in
set_option maxRecDepth 100000 in
theorem specResText_any (code : Int) (a : Option Addr) (n c : Nat) (xs : List Int) (w : World) (hA : IntAt w a n xs) (hx : In64s xs) (hn : n ≤ 1048576) :
    Calls Tryd.prog 15 #[.agg #[.int .i64 code, .slice a n c]] w fun e w' => TextSays e (resB code xs) ∧ Below w.heap.size w w' := by
  obtain ⟨W, hW⟩ : ∃ W, (w.alloc (.cells #[.int .i64 code, .slice a n c] 40)).alloc (.cells #[S [100, 111, 110, 101], S [116, 104, 101, 114, 101], S [116, 97, 107, 101, 110], S [110, 111, 110, 101], S [110, 111, 116], S [119, 104, 97, 116]] 9) = W := ⟨_, rfl⟩
  have HB0 : Hid (Below w.heap.size w W) := by rw [← hW]; exact ((Below.refl _ w).alloc (Nat.le_refl _) _).alloc (by simp) _
  have X0 : Hid (Box W w.heap.size #[.int .i64 code, .slice a n c] 40) := by rw [← hW]; exact (box_of w _ _).alloc _
  have N0 : Hid (∀ k, k < 6 → W.cell? ⟨w.heap.size + 1, k, none⟩ = some (S (codesT.getD k []))) := by
    intro k hk
    have hbx := box_of (w.alloc (.cells #[.int .i64 code, .slice a n c] 40)) #[S [100, 111, 110, 101], S [116, 104, 101, 114, 101], S [116, 97, 107, 101, 110], S [110, 111, 110, 101], S [110, 111, 116], S [119, 104, 97, 116]] 9
    rw [hW, World.size_alloc] at hbx
    rw [hbx.cell k]
    have h : k = 0 ∨ k = 1 ∨ k = 2 ∨ k = 3 ∨ k = 4 ∨ k = 5 := by omega
    rcases h with rfl | rfl | rfl | rfl | rfl | rfl <;> rfl
  have HW : Hid ((w.alloc (.cells #[.int .i64 code, .slice a n c] 40)).alloc (.cells #[S [100, 111, 110, 101], S [116, 104, 101, 114, 101], S [116, 97, 107, 101, 110], S [110, 111, 110, 101], S [110, 111, 116], S [119, 104, 97, 116]] 9) = W) := hW
  have HA : Hid (IntAt w a n xs) := hA
  have HI : Hid (In64s xs) := hx
  have HXL : Hid (xs.length = n) := hA.1
  clear hW hA hx
  -- which word it is
  obtain ⟨kk, hk6, hkc⟩ : ∃ kk : Nat, kk < 6 ∧ codeB code = codeB (kk : Int) ∧ (inB code 0 5 = true ∧ code = (kk : Int) ∨ inB code 0 5 = false ∧ kk = 5) := by
    by_cases h : 0 ≤ code ∧ code ≤ 5
    · exact ⟨code.toNat, by omega, by rw [show ((code.toNat : Nat) : Int) = code by omega], .inl ⟨inB_yes h, by omega⟩⟩
    · exact ⟨5, by omega, codeB_no h, .inr ⟨inB_no h, rfl⟩⟩
  obtain ⟨hcb, hwh⟩ := hkc
  have HCB : Hid (codeB code = codeB (kk : Int)) := hcb
  obtain ⟨nb, hnb⟩ : ∃ nb : ByteArray, nb = ⟨(codeB (kk : Int)).toArray⟩ := ⟨_, rfl⟩
  have HNL : Hid (nb.data.toList = codeB code) := by show _ = _; rw [hnb, hcb]
  have hnsz : nb.size ≤ 5 := by
    have h1 := codeB_len code
    rw [← HNL.out] at h1
    simpa using h1
  have c2 : W.cell? ⟨w.heap.size + 1, kk, none⟩ = some (.string nb) := by rw [N0.out kk hk6, codesT_at hk6, hnb]
  have hk0 : (0 : Int) ≤ (kk : Int) := by omega
  have hk5 : (kk : Int) < 6 := by omega
  obtain ⟨c0, c1, _, _⟩ := X0.out.two
  clear hnb hcb N0
  go_enter Tryd.func15, Tryd.ntmps15
  go_upto_region 2 with (fail)
  rw [HW.out]
  go_wp2_with fail
  refine (l1In_g code 0 5 _).mono ?_
  rintro e w1 ⟨rfl, hw1⟩
  rw [hw1]
  clear hw1
  have tail_no : n = 0 → resB code xs = codeB code := fun h => by
    have : xs = [] := List.length_eq_zero_iff.1 (by rw [HXL.out]; exact h)
    rw [resB, if_pos this]
  have tail_yes : ¬ n = 0 → resB code xs = codeB code ++ 32 :: numsB xs := fun h => by
    have : ¬ xs = [] := fun e => h (by rw [← HXL.out, e]; rfl)
    rw [resB, if_neg this]
  have HTN : Hid (n = 0 → resB code xs = codeB code) := tail_no
  have HTY : Hid (¬ n = 0 → resB code xs = codeB code ++ 32 :: numsB xs) := tail_yes
  clear tail_no tail_yes
  have K0 : Hid (W.drew.cell? ⟨w.heap.size + 1, kk, none⟩ = some (.string nb) ∧ W.drew.cell? ⟨w.heap.size, 1, none⟩ = some (.slice a n c)) := ⟨c2, c1⟩
  rcases hwh with ⟨hin, hcode⟩ | ⟨hin, hcode⟩
  · subst hcode
    rw [hin]
    clear hin
    by_cases hz : n = 0
    · have HZ : Hid (n = 0) := hz
      have hz1 : ¬ (0 : Int) < (n : Int) := by omega
      clear hz
      go_wp2
      go_ret
      exact ⟨⟨nb, rfl, HNL.out.trans (HTN.out HZ.out).symm⟩, HB0.out⟩
    · have HZ : Hid (¬ n = 0) := hz
      have hz1 : (0 : Int) < (n : Int) := by omega
      clear hz
      have hc1 : nb.size + 1 ≤ 9223372036854775807 := by omega
      have hc1' : ¬ (9223372036854775807 < nb.size + 1) := by omega
      have hcat : ∀ w : World, (binOp .add 9 (.string nb) (.string ⟨#[32]⟩)).run Tryd.prog w = .ok (.string (nb ++ ⟨#[32]⟩)) w := fun w => cat_str _ _ _ (by rw [size_str]; omega) w
      go_upto_region 6 with (fail)
      go_region_held3 (fun w' => w'.cell? ⟨w.heap.size + 1, kk, none⟩ = some (.string nb) ∧ w'.cell? ⟨w.heap.size, 1, none⟩ = some (.slice a n c))
        (first | (with_reducible exact K1.out) | (with_reducible exact K0.out) | go_keep)
        (first
        | (go_at_call 31
           refine (specNums_any a n c xs _ (HA.out.below HB0.out.drew (Nat.le_refl _)) HI.out).mono ?_
           rintro e w2 ⟨⟨s2, rfl, hs2⟩, hb2⟩
           have hz2 : s2.size ≤ 22 * n := by
             have h1 := numsB_len n xs HXL.out HI.out
             rw [← hs2] at h1
             simpa using h1
           have HS2 : Hid (s2.data.toList = numsB xs) := hs2
           have hc2 : nb.size + 1 + s2.size ≤ 9223372036854775807 := by omega
           have hc2' : ¬ (9223372036854775807 < nb.size + 1 + s2.size) := by omega
           have hcat2 : ∀ w : World, (binOp .add 9 (.string (nb ++ ⟨#[32]⟩)) (.string s2)).run Tryd.prog w = .ok (.string (nb ++ ⟨#[32]⟩ ++ s2)) w := fun w => cat_str _ _ _ (by rw [size_cat, size_str]; omega) w
           have hbx : Below W.heap.size W w2 := (Below.refl W.heap.size W).drew.trans hb2
           have HB2 : Hid (Below w.heap.size w w2) := HB0.out.trans (hbx.mono HB0.out.size)
           have K1 : Hid (w2.cell? ⟨w.heap.size + 1, kk, none⟩ = some (.string nb) ∧ w2.cell? ⟨w.heap.size, 1, none⟩ = some (.slice a n c)) := ⟨(hbx.cell (World.block_lt_of_cell? W _ c2)).trans c2, (hbx.cell (World.block_lt_of_cell? W _ c1)).trans c1⟩
           clear hs2 hb2 hbx))
      go_wp2
      go_ret
      refine ⟨⟨_, rfl, ?_⟩, HB2.out⟩
      rw [HTY.out HZ.out]
      simp [HNL.out, HS2.out]
  · subst hcode
    rw [hin]
    clear hin
    by_cases hz : n = 0
    · have HZ : Hid (n = 0) := hz
      have hz1 : ¬ (0 : Int) < (n : Int) := by omega
      clear hz
      go_wp2
      go_ret
      exact ⟨⟨nb, rfl, HNL.out.trans (HTN.out HZ.out).symm⟩, HB0.out⟩
    · have HZ : Hid (¬ n = 0) := hz
      have hz1 : (0 : Int) < (n : Int) := by omega
      clear hz
      have hc1 : nb.size + 1 ≤ 9223372036854775807 := by omega
      have hc1' : ¬ (9223372036854775807 < nb.size + 1) := by omega
      have hcat : ∀ w : World, (binOp .add 9 (.string nb) (.string ⟨#[32]⟩)).run Tryd.prog w = .ok (.string (nb ++ ⟨#[32]⟩)) w := fun w => cat_str _ _ _ (by rw [size_str]; omega) w
      go_upto_region 6 with (fail)
      go_region_held3 (fun w' => w'.cell? ⟨w.heap.size + 1, 5, none⟩ = some (.string nb) ∧ w'.cell? ⟨w.heap.size, 1, none⟩ = some (.slice a n c))
        (first | (with_reducible exact K1.out) | (with_reducible exact K0.out) | go_keep)
        (first
        | (go_at_call 31
           refine (specNums_any a n c xs _ (HA.out.below HB0.out.drew (Nat.le_refl _)) HI.out).mono ?_
           rintro e w2 ⟨⟨s2, rfl, hs2⟩, hb2⟩
           have hz2 : s2.size ≤ 22 * n := by
             have h1 := numsB_len n xs HXL.out HI.out
             rw [← hs2] at h1
             simpa using h1
           have HS2 : Hid (s2.data.toList = numsB xs) := hs2
           have hc2 : nb.size + 1 + s2.size ≤ 9223372036854775807 := by omega
           have hc2' : ¬ (9223372036854775807 < nb.size + 1 + s2.size) := by omega
           have hcat2 : ∀ w : World, (binOp .add 9 (.string (nb ++ ⟨#[32]⟩)) (.string s2)).run Tryd.prog w = .ok (.string (nb ++ ⟨#[32]⟩ ++ s2)) w := fun w => cat_str _ _ _ (by rw [size_cat, size_str]; omega) w
           have hbx : Below W.heap.size W w2 := (Below.refl W.heap.size W).drew.trans hb2
           have HB2 : Hid (Below w.heap.size w w2) := HB0.out.trans (hbx.mono HB0.out.size)
           have K1 : Hid (w2.cell? ⟨w.heap.size + 1, 5, none⟩ = some (.string nb) ∧ w2.cell? ⟨w.heap.size, 1, none⟩ = some (.slice a n c)) := ⟨(hbx.cell (World.block_lt_of_cell? W _ c2)).trans c2, (hbx.cell (World.block_lt_of_cell? W _ c1)).trans c1⟩
           clear hs2 hb2 hbx))
      go_wp2
      go_ret
      refine ⟨⟨_, rfl, ?_⟩, HB2.out⟩
      rw [HTY.out HZ.out]
      simp [HNL.out, HS2.out]
end Go.Proofs.YtkelhndijgakdaaDoor
