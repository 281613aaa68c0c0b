/- The drawing of two values for a law, walked once more. -/
import Derived.Test.YtnjgeokjlfghcaaDoorDrawV4
import Derived.Deep.RegionHeld3
import Derived.Deep.Cut
namespace Go.Proofs.YtnjgeokjlfghcaaDoor
open Go.ChangeShapes Go.WideShapes Go.ChangeAt Go.RowKit

theorem six_of {w : World} {b c : Nat} {T : TypeId} {x y z x' y' z' : Value} (h : Box w b #[x, y, z] T) (h' : Box w c #[x', y', z'] T) : w.cell? ⟨b, 0, none⟩ = some x ∧ w.cell? ⟨b, 1, none⟩ = some y ∧ w.cell? ⟨b, 2, none⟩ = some z ∧ w.cell? ⟨c, 0, none⟩ = some x' ∧ w.cell? ⟨c, 1, none⟩ = some y' ∧ w.cell? ⟨c, 2, none⟩ = some z' :=
  ⟨h.cell 0, h.cell 1, h.cell 2, h'.cell 0, h'.cell 1, h'.cell 2⟩
set_option maxHeartbeats 4000000 in
set_option maxRecDepth 100000 in
theorem drawValueSame_any (a : Option Addr) (n c : Nat) (w : World) (hn : n ≤ 1048576) (hB : BytesAt w w.heap.size a n) :
    Calls Tryd.prog 7 #[.slice a n c] w fun e w' => (∃ (k m : Int) (s : ByteArray) (k' m' : Int) (s' : ByteArray), e = .returned (.tuple #[VaV k m s, VaV k' m' s']) ∧ (s.size ≤ 40 ∧ (-9223372036854775808 ≤ k ∧ k ≤ 9223372036854775807) ∧ (-9223372036854775808 ≤ m ∧ m ≤ 9223372036854775807)) ∧ (s'.size ≤ 40 ∧ (-9223372036854775808 ≤ k' ∧ k' ≤ 9223372036854775807) ∧ (-9223372036854775808 ≤ m' ∧ m' ≤ 9223372036854775807))) ∧ Below w.heap.size w w' := by
  obtain ⟨r, hr⟩ : ∃ r, w.heap.size + 1 = r := ⟨_, rfl⟩
  obtain ⟨W, hW⟩ : ∃ W, (w.alloc (.cells #[.int .i64 0, .int .i64 0, .string ⟨#[]⟩] 25)).alloc (.cells #[.int .i64 0, .int .i64 0, .string ⟨#[]⟩] 25) = W := ⟨_, rfl⟩
  have HW : Hid ((w.alloc (.cells #[.int .i64 0, .int .i64 0, .string ⟨#[]⟩] 25)).alloc (.cells #[.int .i64 0, .int .i64 0, .string ⟨#[]⟩] 25) = W) := hW
  have HRE : Hid (w.heap.size + 1 = r) := hr
  have HR : Hid (w.heap.size ≤ r) := by rw [← hr]; exact Nat.le_succ _
  have B0 : Hid (Below w.heap.size w W) := by rw [← hW]; exact ((Below.refl _ w).alloc (Nat.le_refl _) _).alloc (by simp) _
  have RA0 : Hid (Box W w.heap.size #[.int .i64 0, .int .i64 0, .string ⟨#[]⟩] 25) := by rw [← hW]; exact (box_of w _ _).alloc _
  have RB0 : Hid (Box W r #[.int .i64 0, .int .i64 0, .string ⟨#[]⟩] 25) := by rw [← hW, ← hr]; have := box_of (w.alloc (.cells #[.int .i64 0, .int .i64 0, .string ⟨#[]⟩] 25)) #[.int .i64 0, .int .i64 0, .string ⟨#[]⟩] 25; rwa [World.size_alloc] at this
  have hr12 : ¬ w.heap.size = r := by omega
  have hr12' : ¬ r = w.heap.size := by omega
  have HB : Hid (BytesAt W W.heap.size a n) := bytes_nowV hB B0.out
  clear hW hB hr
  go_enter Tryd.func7, Tryd.ntmps7
  go_upto_region 1 with (fail)
  rw [HW.out]
  (try rw [HRE.out])
  go_upto_region 2 with
    (go_at_call 6
     refine (drawValueLess_any a n c W hn HB.out).mono ?_
     rintro e w1 ⟨⟨k, m, s, k', m', s', rfl, hg, hg'⟩, hb⟩
     have HGD : Hid (s.size ≤ 40 ∧ (-9223372036854775808 ≤ k ∧ k ≤ 9223372036854775807) ∧ (-9223372036854775808 ≤ m ∧ m ≤ 9223372036854775807)) := hg
     have HGD' : Hid (s'.size ≤ 40 ∧ (-9223372036854775808 ≤ k' ∧ k' ≤ 9223372036854775807) ∧ (-9223372036854775808 ≤ m' ∧ m' ≤ 9223372036854775807)) := hg'
     have HBW : Hid (Below W.heap.size W w1) := hb
     clear hg hg' hb)
  obtain ⟨g, hg⟩ : ∃ g, w1.heap.size = g := ⟨_, rfl⟩
  obtain ⟨g2, hg2⟩ : ∃ g2, g + 1 = g2 := ⟨_, rfl⟩
  obtain ⟨W3, hW3⟩ : ∃ W3, (w1.alloc (.cells #[.int .i64 k, .int .i64 m, .string s] 25)).alloc (.cells #[.int .i64 k', .int .i64 m', .string s'] 25) = W3 := ⟨_, rfl⟩
  have HG : Hid (w1.heap.size = g) := hg
  have HG2 : Hid (g + 1 = g2) := hg2
  have HW3 : Hid ((w1.alloc (.cells #[.int .i64 k, .int .i64 m, .string s] 25)).alloc (.cells #[.int .i64 k', .int .i64 m', .string s'] 25) = W3) := hW3
  have X3 : Hid (Box W3 g #[.int .i64 k, .int .i64 m, .string s] 25) := by rw [← hW3, ← hg]; exact (box_of _ _ _).alloc _
  have T3 : Hid (Box W3 g2 #[.int .i64 k', .int .i64 m', .string s'] 25) := by rw [← hW3, ← hg2, ← hg]; have := box_of (w1.alloc (.cells #[.int .i64 k, .int .i64 m, .string s] 25)) #[.int .i64 k', .int .i64 m', .string s'] 25; rwa [World.size_alloc] at this
  have RA1 := RA0.out.below HBW.out RA0.out.lt
  have RB1 := RB0.out.below HBW.out RB0.out.lt
  have RA3 : Hid (Box W3 w.heap.size #[.int .i64 0, .int .i64 0, .string ⟨#[]⟩] 25) := by rw [← hW3]; exact (RA1.alloc _).alloc _
  have RB3 : Hid (Box W3 r #[.int .i64 0, .int .i64 0, .string ⟨#[]⟩] 25) := by rw [← hW3]; exact (RB1.alloc _).alloc _
  have B1 := B0.out.trans (HBW.out.mono B0.out.size)
  have B3 : Hid (Below w.heap.size w W3) := by rw [← hW3]; exact (B1.alloc B1.size _).alloc (Nat.le_trans B1.size (by simp)) _
  have h5a : ¬ g = w.heap.size := by have := RA1.lt; omega
  have h5b : ¬ g = r := by have := RB1.lt; omega
  have h6a : ¬ g2 = w.heap.size := by have := RA1.lt; omega
  have h6b : ¬ g2 = r := by have := RB1.lt; omega
  rw [HW3.out, HG.out]
  (try rw [HG2.out])
  clear hW3 hg hg2 RA1 RB1 B1
  refine wp_region_held_drew (S := fun w' => w'.cell? ⟨g, 0, none⟩ = some (.int .i64 k) ∧ w'.cell? ⟨g, 1, none⟩ = some (.int .i64 m) ∧ w'.cell? ⟨g, 2, none⟩ = some (.string s) ∧ w'.cell? ⟨g2, 0, none⟩ = some (.int .i64 k') ∧ w'.cell? ⟨g2, 1, none⟩ = some (.int .i64 m') ∧ w'.cell? ⟨g2, 2, none⟩ = some (.string s')) (by kernel_rfl) (six_of X3.out.drew T3.out.drew) (fun hHeld => ?_)
  obtain ⟨wd, hwd⟩ : ∃ wd, W3.drew = wd := ⟨_, rfl⟩
  have XS : Hid (Box wd g #[.int .i64 k, .int .i64 m, .string s] 25) := by rw [← hwd]; exact X3.out.drew
  have XT : Hid (Box wd g2 #[.int .i64 k', .int .i64 m', .string s'] 25) := by rw [← hwd]; exact T3.out.drew
  have RA : Hid (Box wd w.heap.size #[.int .i64 0, .int .i64 0, .string ⟨#[]⟩] 25) := by rw [← hwd]; exact RA3.out.drew
  have RB : Hid (Box wd r #[.int .i64 0, .int .i64 0, .string ⟨#[]⟩] 25) := by rw [← hwd]; exact RB3.out.drew
  have B5 : Hid (Below w.heap.size w wd) := by rw [← hwd]; exact B3.out.drew
  rw [hwd] at hHeld ⊢
  clear hwd
  refine wpAnyH_take (i := 0) (oi := _) (v := .agg #[.int .i64 k, .int .i64 m, .string s]) (by rw [List.getElem?_toArray]; exact rfl) (by kernel_rfl) (by kernel_rfl) (by kernel_rfl) (by intro _ _ _ h; exact h) (Or.inl ⟨by kernel_rfl, ?_⟩) hHeld ?_
  · intro w hSw; (try obtain ⟨s0, s1, s2, s3, s4, s5⟩ := hSw); go_simp
  simp only [Act.put, List.setIfInBounds_toArray, List.set_cons_zero, List.set_cons_succ]
  refine wpAnyH_take (i := 1) (oi := _) (v := .agg #[.int .i64 k', .int .i64 m', .string s']) (by rw [List.getElem?_toArray]; exact rfl) (by kernel_rfl) (by kernel_rfl) (by kernel_rfl) (by intro _ _ _ h; exact h) (Or.inl ⟨by kernel_rfl, ?_⟩) hHeld ?_
  · intro w hSw; (try obtain ⟨s0, s1, s2, s3, s4, s5⟩ := hSw); go_simp
  simp only [Act.put, List.setIfInBounds_toArray, List.set_cons_zero, List.set_cons_succ]
  refine wpAnyH_ready (rs := [2]) (by kernel_rfl) (by simp) ?_
  refine AllReadyH.cons (o := _) (by rw [List.getElem?_toArray]; exact rfl) (fun K hK => ?_) AllReadyH.nil
  obtain ⟨c0, c1, c2⟩ := RA.out.triV
  have f0 := RA.out.frozen 0
  have f1 := RA.out.frozen 1
  have f2 := RA.out.frozen 2
  rw [if_pos (by kernel_rfl)]
  go_simp
  refine hK.out _ _ ?_ (fun hHeld => ?_)
  · exact six_of (((XS.out.set (q := ⟨w.heap.size, 0, none⟩) h5a (.int .i64 k)).set (q := ⟨w.heap.size, 1, none⟩) h5a (.int .i64 m)).set (q := ⟨w.heap.size, 2, none⟩) h5a (.string s)) (((XT.out.set (q := ⟨w.heap.size, 0, none⟩) h6a (.int .i64 k)).set (q := ⟨w.heap.size, 1, none⟩) h6a (.int .i64 m)).set (q := ⟨w.heap.size, 2, none⟩) h6a (.string s))
  clear hK K c0 c1 c2 f0 f1 f2
  (try simp only [Act.put, List.setIfInBounds_toArray, List.set_cons_zero, List.set_cons_succ])
  have Y1 : Hid (Box (((wd.setCell ⟨w.heap.size, 0, none⟩ (.int .i64 k)).setCell ⟨w.heap.size, 1, none⟩ (.int .i64 m)).setCell ⟨w.heap.size, 2, none⟩ (.string s)) w.heap.size #[(.int .i64 k), (.int .i64 m), (.string s)] 25) := (((RA.out.put 0 (.int .i64 k)).put 1 (.int .i64 m)).put 2 (.string s))
  have Y2 : Hid (Box (((wd.setCell ⟨w.heap.size, 0, none⟩ (.int .i64 k)).setCell ⟨w.heap.size, 1, none⟩ (.int .i64 m)).setCell ⟨w.heap.size, 2, none⟩ (.string s)) r #[.int .i64 0, .int .i64 0, .string ⟨#[]⟩] 25) := (((RB.out.set (q := ⟨w.heap.size, 0, none⟩) hr12' (.int .i64 k)).set (q := ⟨w.heap.size, 1, none⟩) hr12' (.int .i64 m)).set (q := ⟨w.heap.size, 2, none⟩) hr12' (.string s))
  refine wpAnyH_ready (rs := [3]) (by kernel_rfl) (by simp) ?_
  refine AllReadyH.cons (o := _) (by rw [List.getElem?_toArray]; exact rfl) (fun K hK => ?_) AllReadyH.nil
  obtain ⟨c0, c1, c2⟩ := Y2.out.triV
  have f0 := Y2.out.frozen 0
  have f1 := Y2.out.frozen 1
  have f2 := Y2.out.frozen 2
  rw [if_pos (by kernel_rfl)]
  go_simp
  refine hK.out _ _ ?_ (fun hHeld => ?_)
  · exact six_of ((((((XS.out.set (q := ⟨w.heap.size, 0, none⟩) h5a (.int .i64 k)).set (q := ⟨w.heap.size, 1, none⟩) h5a (.int .i64 m)).set (q := ⟨w.heap.size, 2, none⟩) h5a (.string s)).set (q := ⟨r, 0, none⟩) h5b (.int .i64 k')).set (q := ⟨r, 1, none⟩) h5b (.int .i64 m')).set (q := ⟨r, 2, none⟩) h5b (.string s')) ((((((XT.out.set (q := ⟨w.heap.size, 0, none⟩) h6a (.int .i64 k)).set (q := ⟨w.heap.size, 1, none⟩) h6a (.int .i64 m)).set (q := ⟨w.heap.size, 2, none⟩) h6a (.string s)).set (q := ⟨r, 0, none⟩) h6b (.int .i64 k')).set (q := ⟨r, 1, none⟩) h6b (.int .i64 m')).set (q := ⟨r, 2, none⟩) h6b (.string s'))
  clear hK K c0 c1 c2 f0 f1 f2
  (try simp only [Act.put, List.setIfInBounds_toArray, List.set_cons_zero, List.set_cons_succ])
  refine wpAnyH_done (by kernel_rfl) ?_ _
  have Z1 := (((Y1.out.set (q := ⟨r, 0, none⟩) hr12 (.int .i64 k')).set (q := ⟨r, 1, none⟩) hr12 (.int .i64 m')).set (q := ⟨r, 2, none⟩) hr12 (.string s'))
  have Z2 := (((Y2.out.put 0 (.int .i64 k')).put 1 (.int .i64 m')).put 2 (.string s'))
  have q0 := Z1.cell 0
  have q1 := Z1.cell 1
  have q2 := Z1.cell 2
  have q3 := Z2.cell 0
  have q4 := Z2.cell 1
  have q5 := Z2.cell 2
  go_wp2
  (try simp only [Exit.inBlock, Exit.then])
  refine bodyPost_ret (by simp [results, Tryd.results7, go_sem, q0, q1, q2, q3, q4, q5]; try rfl) rfl ?_
  exact ⟨⟨k, m, s, k', m', s', rfl, HGD.out, HGD'.out⟩, ((((((B5.out.setCell (show w.heap.size ≤ w.heap.size from Nat.le_refl _) _).setCell (show w.heap.size ≤ w.heap.size from Nat.le_refl _) _).setCell (show w.heap.size ≤ w.heap.size from Nat.le_refl _) _).setCell (show w.heap.size ≤ r from HR.out) _).setCell (show w.heap.size ≤ r from HR.out) _).setCell (show w.heap.size ≤ r from HR.out) _)⟩
end Go.Proofs.YtnjgeokjlfghcaaDoor
