/- The drawing of two values for a law, walked. -/
import Derived.Test.YtnjgeokjlfghcaaDoorDrawV3
import Derived.Deep.RegionHeld3
import Derived.Deep.Cut
namespace Go.Proofs.YtnjgeokjlfghcaaDoor
open Go.ChangeShapes Go.WideShapes Go.ChangeAt Go.RowKit

set_option maxHeartbeats 4000000 in
set_option maxRecDepth 100000 in
theorem drawValueLess_any (a : Option Addr) (n c : Nat) (w : World) (hn : n ≤ 1048576) (hB : BytesAt w w.heap.size a n) :
    Calls Tryd.prog 6 #[.slice a n c] w fun e w' => (∃ (k m : Int) (s : ByteArray) (k' m' : Int) (s' : ByteArray), e = .returned (.tuple #[VaV k m s, VaV k' m' s']) ∧ (s.size ≤ 40 ∧ (-9223372036854775808 ≤ k ∧ k ≤ 9223372036854775807) ∧ (-9223372036854775808 ≤ m ∧ m ≤ 9223372036854775807)) ∧ (s'.size ≤ 40 ∧ (-9223372036854775808 ≤ k' ∧ k' ≤ 9223372036854775807) ∧ (-9223372036854775808 ≤ m' ∧ m' ≤ 9223372036854775807))) ∧ Below w.heap.size w w' := by
  obtain ⟨r, hr⟩ : ∃ r, w.heap.size + 1 = r := ⟨_, rfl⟩
  obtain ⟨W, hW⟩ : ∃ W, (w.alloc (.cells #[.int .i64 0, .int .i64 0, .string ⟨#[]⟩] 25)).alloc (.cells #[.int .i64 0, .int .i64 0, .string ⟨#[]⟩] 25) = W := ⟨_, rfl⟩
  have HW : Hid ((w.alloc (.cells #[.int .i64 0, .int .i64 0, .string ⟨#[]⟩] 25)).alloc (.cells #[.int .i64 0, .int .i64 0, .string ⟨#[]⟩] 25) = W) := hW
  have HRE : Hid (w.heap.size + 1 = r) := hr
  have HR : Hid (w.heap.size ≤ r) := by rw [← hr]; exact Nat.le_succ _
  have B0 : Hid (Below w.heap.size w W) := by rw [← hW]; exact ((Below.refl _ w).alloc (Nat.le_refl _) _).alloc (by simp) _
  have RA0 : Hid (Box W w.heap.size #[.int .i64 0, .int .i64 0, .string ⟨#[]⟩] 25) := by rw [← hW]; exact (box_of w _ _).alloc _
  have RB0 : Hid (Box W r #[.int .i64 0, .int .i64 0, .string ⟨#[]⟩] 25) := by rw [← hW, ← hr]; have := box_of (w.alloc (.cells #[.int .i64 0, .int .i64 0, .string ⟨#[]⟩] 25)) #[.int .i64 0, .int .i64 0, .string ⟨#[]⟩] 25; rwa [World.size_alloc] at this
  have hr12 : ¬ w.heap.size = r := by omega
  have hr12' : ¬ r = w.heap.size := by omega
  have HB : Hid (BytesAt W W.heap.size a n) := bytes_nowV hB B0.out
  clear hW hB hr
  go_enter Tryd.func6, Tryd.ntmps6
  go_upto_region 1 with (fail)
  rw [HW.out]
  (try rw [HRE.out])
  go_wp2_with fail
  refine (l1New_any a n c _ hn HB.out).mono ?_
  rintro e w1 ⟨rfl, hC, hb, hz⟩
  have HC1 : Hid (Cur 50 w1 W.heap.size a n c) := hC
  have RA1 : Hid (Box w1 w.heap.size #[.int .i64 0, .int .i64 0, .string ⟨#[]⟩] 25) := RA0.out.below hb RA0.out.lt
  have RB1 : Hid (Box w1 r #[.int .i64 0, .int .i64 0, .string ⟨#[]⟩] 25) := RB0.out.below hb RB0.out.lt
  have B1 : Hid (Below w.heap.size w w1) := B0.out.trans (hb.mono B0.out.size)
  obtain ⟨p, hp⟩ : ∃ p, W.heap.size = p := ⟨_, rfl⟩
  have HPE : Hid (W.heap.size = p) := hp
  have hpa : ¬ w.heap.size = p := by have := RA0.out.lt; omega
  have hpb : ¬ r = p := by have := RB0.out.lt; omega
  have HPW : Hid (w.heap.size ≤ p) := by rw [← hp]; exact B0.out.size
  have HP1 : Hid (p < w1.heap.size) := by show p < w1.heap.size; omega
  rw [HPE.out] at HC1 ⊢
  clear hC hb hz hp
  go_wp2_with fail
  refine (l17Draw_any p a n c w1 HC1.out).mono ?_
  rintro e w2 ⟨k, m, s, rfl, hg, hC2, hO2⟩
  have HGD : Hid (s.size ≤ 40 ∧ (-9223372036854775808 ≤ k ∧ k ≤ 9223372036854775807) ∧ (-9223372036854775808 ≤ m ∧ m ≤ 9223372036854775807)) := hg
  have HC2 : Hid (Cur 50 w2 p a n c) := hC2
  have RA2 : Hid (Box w2 w.heap.size #[.int .i64 0, .int .i64 0, .string ⟨#[]⟩] 25) := RA1.out.farG hO2 hpa
  have RB2 : Hid (Box w2 r #[.int .i64 0, .int .i64 0, .string ⟨#[]⟩] 25) := RB1.out.farG hO2 hpb
  have B2 : Hid (Below w.heap.size w w2) := B1.out.grown hO2 B1.out.size (fun k hk => by cases hk; exact HPW.out)
  have HP2 : Hid (p < w2.heap.size) := Nat.lt_of_lt_of_le HP1.out hO2.size
  clear hg hC2 hO2
  obtain ⟨g, hg⟩ : ∃ g, w2.heap.size = g := ⟨_, rfl⟩
  obtain ⟨W3, hW3⟩ : ∃ W3, w2.alloc (.cells #[.int .i64 k, .int .i64 m, .string s] 25) = W3 := ⟨_, rfl⟩
  have HG : Hid (w2.heap.size = g) := hg
  have HW3 : Hid (w2.alloc (.cells #[.int .i64 k, .int .i64 m, .string s] 25) = W3) := hW3
  have X3 : Hid (Box W3 g #[.int .i64 k, .int .i64 m, .string s] 25) := by rw [← hW3, ← hg]; exact box_of _ _ _
  have HC3 : Hid (Cur 50 W3 p a n c) := by rw [← hW3]; exact cur_alloc HC2.out _
  have RA3 : Hid (Box W3 w.heap.size #[.int .i64 0, .int .i64 0, .string ⟨#[]⟩] 25) := by rw [← hW3]; exact RA2.out.alloc _
  have RB3 : Hid (Box W3 r #[.int .i64 0, .int .i64 0, .string ⟨#[]⟩] 25) := by rw [← hW3]; exact RB2.out.alloc _
  have B3 : Hid (Below w.heap.size w W3) := by rw [← hW3]; exact B2.out.alloc B2.out.size _
  have h5a : ¬ g = w.heap.size := by have := RA2.out.lt; omega
  have h5b : ¬ g = r := by have := RB2.out.lt; omega
  have h5p : ¬ g = p := by have := HP2.out; omega
  clear hW3 hg
  go_upto_region 3 with (fail)
  rw [HW3.out, HG.out]
  go_wp2_with fail
  refine (l1Once_anyB p a n c 4 (by omega) (by omega) W3 HC3.out).mono ?_
  rintro e w4 ⟨⟨b, rfl⟩, hC4, hO4⟩
  have HC4 : Hid (Cur 50 w4 p a n c) := hC4
  have X4 : Hid (Box w4 g #[.int .i64 k, .int .i64 m, .string s] 25) := X3.out.only hO4 h5p
  have RA4 : Hid (Box w4 w.heap.size #[.int .i64 0, .int .i64 0, .string ⟨#[]⟩] 25) := RA3.out.only hO4 hpa
  have RB4 : Hid (Box w4 r #[.int .i64 0, .int .i64 0, .string ⟨#[]⟩] 25) := RB3.out.only hO4 hpb
  have B4 : Hid (Below w.heap.size w w4) := B3.out.trans (hO4.below HPW.out)
  clear hC4 hO4
  cases b
  · go_upto_region 5 with (fail)
    refine wp_region_held_drew (S := fun w' => w'.cell? ⟨g, 0, none⟩ = some (.int .i64 k) ∧ w'.cell? ⟨g, 1, none⟩ = some (.int .i64 m) ∧ w'.cell? ⟨g, 2, none⟩ = some (.string s)) (by kernel_rfl) X4.out.drew.triV (fun hHeld => ?_)
    refine wpAnyH_take (i := 0) (oi := _) (v := .agg #[.int .i64 k, .int .i64 m, .string s]) (by rw [List.getElem?_toArray]; exact rfl) (by kernel_rfl) (by kernel_rfl) (by kernel_rfl) (by intro _ _ _ h; exact h) (Or.inl ⟨by kernel_rfl, ?_⟩) hHeld ?_
    · intro w hSw; (try obtain ⟨s0, s1, s2⟩ := hSw); go_simp
    simp only [Act.put, List.setIfInBounds_toArray, List.set_cons_zero, List.set_cons_succ]
    refine wpAnyH_take (i := 1) (oi := _) (v := .pointer (some ⟨p, 0, none⟩)) (by rw [List.getElem?_toArray]; exact rfl) (by kernel_rfl) (by kernel_rfl) (by kernel_rfl) (by intro _ _ _ h; exact h) (Or.inl ⟨by kernel_rfl, ?_⟩) hHeld ?_
    · intro w hSw; (try obtain ⟨s0, s1, s2⟩ := hSw); go_simp
    simp only [Act.put, List.setIfInBounds_toArray, List.set_cons_zero, List.set_cons_succ]
    refine wpAnyH_ready (rs := [2]) (by kernel_rfl) (by simp) ?_
    refine AllReadyH.cons (o := _) (by rw [List.getElem?_toArray]; exact rfl) (fun K hK => ?_) AllReadyH.nil
    rw [if_pos (by kernel_rfl)]
    go_simp
    refine (l17Draw_any p a n c w4.drew (cur_drew HC4.out)).mono ?_
    rintro e w5 ⟨k', m', s', rfl, hg', hC5, hO5⟩
    have HGD' : Hid (s'.size ≤ 40 ∧ (-9223372036854775808 ≤ k' ∧ k' ≤ 9223372036854775807) ∧ (-9223372036854775808 ≤ m' ∧ m' ≤ 9223372036854775807)) := hg'
    have XS : Hid (Box w5 g #[.int .i64 k, .int .i64 m, .string s] 25) := X4.out.drew.farG hO5 h5p
    have RA : Hid (Box w5 w.heap.size #[.int .i64 0, .int .i64 0, .string ⟨#[]⟩] 25) := RA4.out.drew.farG hO5 hpa
    have RB : Hid (Box w5 r #[.int .i64 0, .int .i64 0, .string ⟨#[]⟩] 25) := RB4.out.drew.farG hO5 hpb
    have B5 : Hid (Below w.heap.size w w5) := B4.out.drew.grown hO5 B4.out.drew.size (fun k hk => by cases hk; exact HPW.out)
    clear hg' hC5 hO5
    go_simp
    refine hK.out _ _ XS.out.triV (fun hHeld => ?_)
    clear hK K
    (try simp only [Act.put, List.setIfInBounds_toArray, List.set_cons_zero, List.set_cons_succ])
    refine wpAnyH_ready (rs := [3]) (by kernel_rfl) (by simp) ?_
    refine AllReadyH.cons (o := _) (by rw [List.getElem?_toArray]; exact rfl) (fun K hK => ?_) AllReadyH.nil
    obtain ⟨c0, c1, c2⟩ := RA.out.triV
    have f0 := RA.out.frozen 0
    have f1 := RA.out.frozen 1
    have f2 := RA.out.frozen 2
    rw [if_pos (by kernel_rfl)]
    go_simp
    refine hK.out _ _ ?_ (fun hHeld => ?_)
    · exact Box.triV (((XS.out.set (q := ⟨w.heap.size, 0, none⟩) h5a (.int .i64 k)).set (q := ⟨w.heap.size, 1, none⟩) h5a (.int .i64 m)).set (q := ⟨w.heap.size, 2, none⟩) h5a (.string s))
    clear hK K c0 c1 c2 f0 f1 f2
    (try simp only [Act.put, List.setIfInBounds_toArray, List.set_cons_zero, List.set_cons_succ])
    have Y1 : Hid (Box (((w5.setCell ⟨w.heap.size, 0, none⟩ (.int .i64 k)).setCell ⟨w.heap.size, 1, none⟩ (.int .i64 m)).setCell ⟨w.heap.size, 2, none⟩ (.string s)) w.heap.size #[(.int .i64 k), (.int .i64 m), (.string s)] 25) := (((RA.out.put 0 (.int .i64 k)).put 1 (.int .i64 m)).put 2 (.string s))
    have Y2 : Hid (Box (((w5.setCell ⟨w.heap.size, 0, none⟩ (.int .i64 k)).setCell ⟨w.heap.size, 1, none⟩ (.int .i64 m)).setCell ⟨w.heap.size, 2, none⟩ (.string s)) r #[.int .i64 0, .int .i64 0, .string ⟨#[]⟩] 25) := (((RB.out.set (q := ⟨w.heap.size, 0, none⟩) hr12' (.int .i64 k)).set (q := ⟨w.heap.size, 1, none⟩) hr12' (.int .i64 m)).set (q := ⟨w.heap.size, 2, none⟩) hr12' (.string s))
    refine wpAnyH_ready (rs := [4]) (by kernel_rfl) (by simp) ?_
    refine AllReadyH.cons (o := _) (by rw [List.getElem?_toArray]; exact rfl) (fun K hK => ?_) AllReadyH.nil
    obtain ⟨c0, c1, c2⟩ := Y2.out.triV
    have f0 := Y2.out.frozen 0
    have f1 := Y2.out.frozen 1
    have f2 := Y2.out.frozen 2
    rw [if_pos (by kernel_rfl)]
    go_simp
    refine hK.out _ _ ?_ (fun hHeld => ?_)
    · exact Box.triV ((((((XS.out.set (q := ⟨w.heap.size, 0, none⟩) h5a (.int .i64 k)).set (q := ⟨w.heap.size, 1, none⟩) h5a (.int .i64 m)).set (q := ⟨w.heap.size, 2, none⟩) h5a (.string s)).set (q := ⟨r, 0, none⟩) h5b (.int .i64 k')).set (q := ⟨r, 1, none⟩) h5b (.int .i64 m')).set (q := ⟨r, 2, none⟩) h5b (.string s'))
    clear hK K c0 c1 c2 f0 f1 f2
    (try simp only [Act.put, List.setIfInBounds_toArray, List.set_cons_zero, List.set_cons_succ])
    refine wpAnyH_done (by kernel_rfl) ?_ _
    have Z1 := (((Y1.out.set (q := ⟨r, 0, none⟩) hr12 (.int .i64 k')).set (q := ⟨r, 1, none⟩) hr12 (.int .i64 m')).set (q := ⟨r, 2, none⟩) hr12 (.string s'))
    have Z2 := (((Y2.out.put 0 (.int .i64 k')).put 1 (.int .i64 m')).put 2 (.string s'))
    have q0 := Z1.cell 0
    have q1 := Z1.cell 1
    have q2 := Z1.cell 2
    have q3 := Z2.cell 0
    have q4 := Z2.cell 1
    have q5 := Z2.cell 2
    go_wp2
    (try simp only [Exit.inBlock, Exit.then])
    refine bodyPost_ret (by simp [results, Tryd.results6, go_sem, q0, q1, q2, q3, q4, q5]; try rfl) rfl ?_
    exact ⟨⟨k, m, s, k', m', s', rfl, HGD.out, HGD'.out⟩, ((((((B5.out.setCell (show w.heap.size ≤ w.heap.size from Nat.le_refl _) _).setCell (show w.heap.size ≤ w.heap.size from Nat.le_refl _) _).setCell (show w.heap.size ≤ w.heap.size from Nat.le_refl _) _).setCell (show w.heap.size ≤ r from HR.out) _).setCell (show w.heap.size ≤ r from HR.out) _).setCell (show w.heap.size ≤ r from HR.out) _)⟩
  · go_upto_region 4 with (fail)
    refine wp_region_held_drew (S := fun w' => w'.cell? ⟨g, 0, none⟩ = some (.int .i64 k) ∧ w'.cell? ⟨g, 1, none⟩ = some (.int .i64 m) ∧ w'.cell? ⟨g, 2, none⟩ = some (.string s)) (by kernel_rfl) X4.out.drew.triV (fun hHeld => ?_)
    obtain ⟨wd, hwd⟩ : ∃ wd, w4.drew = wd := ⟨_, rfl⟩
    have XS : Hid (Box wd g #[.int .i64 k, .int .i64 m, .string s] 25) := by rw [← hwd]; exact X4.out.drew
    have RA : Hid (Box wd w.heap.size #[.int .i64 0, .int .i64 0, .string ⟨#[]⟩] 25) := by rw [← hwd]; exact RA4.out.drew
    have RB : Hid (Box wd r #[.int .i64 0, .int .i64 0, .string ⟨#[]⟩] 25) := by rw [← hwd]; exact RB4.out.drew
    have B5 : Hid (Below w.heap.size w wd) := by rw [← hwd]; exact B4.out.drew
    rw [hwd] at hHeld ⊢
    clear hwd
    refine wpAnyH_take (i := 0) (oi := _) (v := .agg #[.int .i64 k, .int .i64 m, .string s]) (by rw [List.getElem?_toArray]; exact rfl) (by kernel_rfl) (by kernel_rfl) (by kernel_rfl) (by intro _ _ _ h; exact h) (Or.inl ⟨by kernel_rfl, ?_⟩) hHeld ?_
    · intro w hSw; (try obtain ⟨s0, s1, s2⟩ := hSw); go_simp
    simp only [Act.put, List.setIfInBounds_toArray, List.set_cons_zero, List.set_cons_succ]
    refine wpAnyH_take (i := 1) (oi := _) (v := .agg #[.int .i64 k, .int .i64 m, .string s]) (by rw [List.getElem?_toArray]; exact rfl) (by kernel_rfl) (by kernel_rfl) (by kernel_rfl) (by intro _ _ _ h; exact h) (Or.inl ⟨by kernel_rfl, ?_⟩) hHeld ?_
    · intro w hSw; (try obtain ⟨s0, s1, s2⟩ := hSw); go_simp
    simp only [Act.put, List.setIfInBounds_toArray, List.set_cons_zero, List.set_cons_succ]
    refine wpAnyH_ready (rs := [2]) (by kernel_rfl) (by simp) ?_
    refine AllReadyH.cons (o := _) (by rw [List.getElem?_toArray]; exact rfl) (fun K hK => ?_) AllReadyH.nil
    obtain ⟨c0, c1, c2⟩ := RA.out.triV
    have f0 := RA.out.frozen 0
    have f1 := RA.out.frozen 1
    have f2 := RA.out.frozen 2
    rw [if_pos (by kernel_rfl)]
    go_simp
    refine hK.out _ _ ?_ (fun hHeld => ?_)
    · exact Box.triV (((XS.out.set (q := ⟨w.heap.size, 0, none⟩) h5a (.int .i64 k)).set (q := ⟨w.heap.size, 1, none⟩) h5a (.int .i64 m)).set (q := ⟨w.heap.size, 2, none⟩) h5a (.string s))
    clear hK K c0 c1 c2 f0 f1 f2
    (try simp only [Act.put, List.setIfInBounds_toArray, List.set_cons_zero, List.set_cons_succ])
    have Y1 : Hid (Box (((wd.setCell ⟨w.heap.size, 0, none⟩ (.int .i64 k)).setCell ⟨w.heap.size, 1, none⟩ (.int .i64 m)).setCell ⟨w.heap.size, 2, none⟩ (.string s)) w.heap.size #[(.int .i64 k), (.int .i64 m), (.string s)] 25) := (((RA.out.put 0 (.int .i64 k)).put 1 (.int .i64 m)).put 2 (.string s))
    have Y2 : Hid (Box (((wd.setCell ⟨w.heap.size, 0, none⟩ (.int .i64 k)).setCell ⟨w.heap.size, 1, none⟩ (.int .i64 m)).setCell ⟨w.heap.size, 2, none⟩ (.string s)) r #[.int .i64 0, .int .i64 0, .string ⟨#[]⟩] 25) := (((RB.out.set (q := ⟨w.heap.size, 0, none⟩) hr12' (.int .i64 k)).set (q := ⟨w.heap.size, 1, none⟩) hr12' (.int .i64 m)).set (q := ⟨w.heap.size, 2, none⟩) hr12' (.string s))
    refine wpAnyH_ready (rs := [3]) (by kernel_rfl) (by simp) ?_
    refine AllReadyH.cons (o := _) (by rw [List.getElem?_toArray]; exact rfl) (fun K hK => ?_) AllReadyH.nil
    obtain ⟨c0, c1, c2⟩ := Y2.out.triV
    have f0 := Y2.out.frozen 0
    have f1 := Y2.out.frozen 1
    have f2 := Y2.out.frozen 2
    rw [if_pos (by kernel_rfl)]
    go_simp
    refine hK.out _ _ ?_ (fun hHeld => ?_)
    · exact Box.triV ((((((XS.out.set (q := ⟨w.heap.size, 0, none⟩) h5a (.int .i64 k)).set (q := ⟨w.heap.size, 1, none⟩) h5a (.int .i64 m)).set (q := ⟨w.heap.size, 2, none⟩) h5a (.string s)).set (q := ⟨r, 0, none⟩) h5b (.int .i64 k)).set (q := ⟨r, 1, none⟩) h5b (.int .i64 m)).set (q := ⟨r, 2, none⟩) h5b (.string s))
    clear hK K c0 c1 c2 f0 f1 f2
    (try simp only [Act.put, List.setIfInBounds_toArray, List.set_cons_zero, List.set_cons_succ])
    refine wpAnyH_done (by kernel_rfl) ?_ _
    have Z1 := (((Y1.out.set (q := ⟨r, 0, none⟩) hr12 (.int .i64 k)).set (q := ⟨r, 1, none⟩) hr12 (.int .i64 m)).set (q := ⟨r, 2, none⟩) hr12 (.string s))
    have Z2 := (((Y2.out.put 0 (.int .i64 k)).put 1 (.int .i64 m)).put 2 (.string s))
    have q0 := Z1.cell 0
    have q1 := Z1.cell 1
    have q2 := Z1.cell 2
    have q3 := Z2.cell 0
    have q4 := Z2.cell 1
    have q5 := Z2.cell 2
    go_wp2
    (try simp only [Exit.inBlock, Exit.then])
    refine bodyPost_ret (by simp [results, Tryd.results6, go_sem, q0, q1, q2, q3, q4, q5]; try rfl) rfl ?_
    exact ⟨⟨k, m, s, k, m, s, rfl, HGD.out, HGD.out⟩, ((((((B5.out.setCell (show w.heap.size ≤ w.heap.size from Nat.le_refl _) _).setCell (show w.heap.size ≤ w.heap.size from Nat.le_refl _) _).setCell (show w.heap.size ≤ w.heap.size from Nat.le_refl _) _).setCell (show w.heap.size ≤ r from HR.out) _).setCell (show w.heap.size ≤ r from HR.out) _).setCell (show w.heap.size ≤ r from HR.out) _)⟩
end Go.Proofs.YtnjgeokjlfghcaaDoor
