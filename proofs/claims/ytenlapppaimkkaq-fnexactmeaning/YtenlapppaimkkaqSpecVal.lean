/- spec.ValueAt, walked at any words, Descs and place. -/
import Derived.Test.YtenlapppaimkkaqValM
import Derived.Test.YtenlapppaimkkaqWrds
import Derived.Test.YtenlapppaimkkaqSpecEntries
namespace Go.Proofs.Ytenlapppaimkkaq
open Go.ChangeShapes Go.WideShapes Go.ChangeAt Go.RowKit

theorem inB_val {x lo hi : Int} (h : inB x lo hi = true) : lo ≤ x ∧ x ≤ hi := by unfold inB at h; simpa using h
set_option maxHeartbeats 2000000 in
theorem specValueAt_any (a : Option Addr) (m c : Nat) (fs : List Int) (da : Option Addr) (dn dc : Nat) (ds : List DK) (at_ : Int) (w : World) (h1 : TripAt w a m fs) (h2 : DescAt w da dn ds) :
    Calls Try.prog 8 #[.slice a m c, .slice da dn dc, .int .i64 at_] w fun e w' => e = .returned (.int .i64 (valM fs m ds at_)) ∧ Below w.heap.size w w' := by
  have H1 : Hid (TripAt w a m fs) := h1
  have H2 : Hid (DescAt w da dn ds) := h2
  have hm := h1.2.1
  have hdn := h2.2.1
  obtain ⟨V, hV⟩ : ∃ V, valM fs m ds at_ = V := ⟨_, rfl⟩
  rw [hV]
  have HV : Hid (valM fs m ds at_ = V) := hV
  clear h1 h2 hV
  rcases hI : inB at_ 0 ((m : Int) - 1) with _ | _
  · have HI : Hid (inB at_ 0 ((m : Int) - 1) = false) := hI
    obtain rfl : V = 0 := by
      rw [← HV.out]
      unfold valM
      rw [if_neg]
      intro h
      rw [inB_yes (by omega)] at hI
      cases hI
    clear HV hI
    go_enter Try.func8, Try.ntmps8
    go_wp2_with fail
    refine (l1In_g at_ 0 _ _).mono ?_
    rintro e w1 ⟨rfl, rfl⟩
    rw [HI.out]
    go_wp2
    go_ret
    exact ⟨rfl, Below.refl _ _⟩
  · have hat := inB_val hI
    have HI : Hid (inB at_ 0 ((m : Int) - 1) = true) := hI
    clear hI
    obtain ⟨i, rfl⟩ : ∃ i : Nat, at_ = (i : Int) := ⟨at_.toNat, by omega⟩
    have hi0 : (0 : Int) ≤ (i : Int) := by omega
    have hi1 : (i : Int) < (m : Int) := by omega
    rcases H1.out.2.2 with h0 | ⟨p1, o1, rfl, g1⟩
    · omega
    have e1 := g1 (i * 3) (by omega)
    have e2 := g1 (i * 3 + 1) (by omega)
    have e3 := g1 (i * 3 + 2) (by omega)
    have HV2 : Hid (wordM (fs.getD (i * 3) 0) (fs.getD (i * 3 + 1) 0) (fs.getD (i * 3 + 2) 0) ds i = V) := by
      show _ = _
      rw [← HV.out]
      unfold valM
      rw [if_pos ⟨hi0, hi1⟩]
      simp
    obtain ⟨x, hx⟩ : ∃ x, fs.getD (i * 3) 0 = x := ⟨_, rfl⟩
    obtain ⟨t, ht⟩ : ∃ y, fs.getD (i * 3 + 1) 0 = y := ⟨_, rfl⟩
    obtain ⟨s, hs⟩ : ∃ z, fs.getD (i * 3 + 2) 0 = z := ⟨_, rfl⟩
    rw [hx, ht, hs] at HV2
    rw [hx] at e1
    rw [ht, ← Nat.add_assoc] at e2
    rw [hs, ← Nat.add_assoc] at e3
    clear g1 hx ht hs HV hat
    have HBX : Hid (Below w.heap.size w (w.alloc (.cells #[.int .i64 x, .int .i64 t, .int .i64 s] 58))) := (Below.refl _ w).alloc (Nat.le_refl _) _
    by_cases ht : t = 0
    · subst ht
      obtain rfl : V = x := by rw [← HV2.out]; simp [wordM]
      clear HV2
      go_enter Try.func8, Try.ntmps8
      go_wp2_with fail
      refine (l1In_g _ 0 _ _).mono ?_
      rintro e w1 ⟨rfl, rfl⟩
      rw [HI.out]
      go_wp2
      go_ret
      exact ⟨rfl, HBX.out⟩
    · have ht' : (t == 0) = false := by simpa using ht
      rcases hT : inB t 1 (dn : Int) with _ | _
      · have HT : Hid (inB t 1 (dn : Int) = false) := hT
        obtain rfl : V = 0 := by rw [← HV2.out]; unfold wordM; rw [if_neg ht, H2.out.1, hT]; rfl
        clear HV2 hT ht
        go_enter Try.func8, Try.ntmps8
        go_wp2_with fail
        refine (l1In_g _ 0 _ _).mono ?_
        rintro e w1 ⟨rfl, rfl⟩
        rw [HI.out]
        go_wp2_with fail
        refine (l1In_g t 1 _ _).mono ?_
        rintro e w2 ⟨rfl, rfl⟩
        rw [HT.out]
        go_wp2
        go_ret
        exact ⟨rfl, HBX.out⟩
      · have htv := inB_val hT
        have HT : Hid (inB t 1 (dn : Int) = true) := hT
        obtain ⟨j, rfl⟩ : ∃ j : Nat, t = (j : Int) + 1 := ⟨(t - 1).toNat, by omega⟩
        have HV3 : Hid ((if (dk ds j).sq = s ∧ (dk ds j).st = 2 then (entM (dk ds j).es (dk ds j).en i).2.2.1 else (entM (dk ds j).es (dk ds j).en i).2.1) = V) := by
          show _ = _
          rw [← HV2.out]
          unfold wordM
          rw [if_neg ht, H2.out.1, if_pos hT, show ((j : Int) + 1 - 1).toNat = j by omega]
        clear HV2 hT ht
        rcases H2.out.2.2 with h0 | ⟨q1, o2, rfl, g2⟩
        · omega
        obtain ⟨ea, ec, ra, rc, h5, h6, h7⟩ := g2 j (by omega)
        obtain ⟨f0, f1, f2, f3, f4⟩ := h5
        have H6 : Hid (TripAt w ea (dk ds j).en (dk ds j).es) := h6
        have hq1 : q1 < w.heap.size := World.block_lt_of_cell? w _ f0
        obtain ⟨D, hD⟩ : ∃ D, dk ds j = D := ⟨_, rfl⟩
        rw [hD] at HV3 H6 f0 f1 f2 f3 f4
        obtain ⟨r, hr⟩ : ∃ r, entM D.es D.en i = r := ⟨_, rfl⟩
        rw [hr] at HV3
        have HR : Hid (entM D.es D.en i = r) := hr
        obtain ⟨r0, r1, r2, r3⟩ := r
        obtain ⟨dsq, dst, den, des, dcd, drn, drs⟩ := D
        dsimp only at HV3 H6 f0 f1 f2 f3 f4 HR
        clear g2 h6 h7 hD hr
        have hj0 : (0 : Int) ≤ (j : Int) := by omega
        have hj1 : (j : Int) < (dn : Int) := by omega
        have HB2 : Hid (Below w.heap.size w ((w.alloc (.cells #[.int .i64 x, .int .i64 ((j : Int) + 1), .int .i64 s] 58)).alloc (.cells (DescC dsq dst ea den ec dcd ra drn rc) 62))) := HBX.out.alloc (by simp) _
        go_enter Try.func8, Try.ntmps8
        go_wp2_with fail
        refine (l1In_g _ 0 _ _).mono ?_
        rintro e w1 ⟨rfl, rfl⟩
        rw [HI.out]
        go_wp2_with fail
        refine (l1In_g _ 1 _ _).mono ?_
        rintro e w2 ⟨rfl, rfl⟩
        rw [HT.out]
        go_wp2_with fail
        refine (specEntries_any dsq dst ea den ec des dcd ra drn rc i _ (H6.out.below HB2.out (Nat.le_refl _))).mono ?_
        rintro e w3 ⟨rfl, hb3⟩
        rw [HR.out]
        dsimp only
        have X3 : Hid (Box w3 w1.heap.size #[.int .i64 x, .int .i64 ((j : Int) + 1), .int .i64 s] 58) := ((box_of w1 _ _).alloc _).below hb3 (by simp; omega)
        have Y3 : Hid (Box w3 (w1.heap.size + 1) (DescC dsq dst ea den ec dcd ra drn rc) 62) := by
          have := (box_of (w1.alloc (.cells #[.int .i64 x, .int .i64 ((j : Int) + 1), .int .i64 s] 58)) (DescC dsq dst ea den ec dcd ra drn rc) 62).below hb3 (by simp)
          simp at this
          exact this
        have HB3 : Hid (Below w1.heap.size w1 (w3.alloc (.cells #[.int .i64 r0, .int .i64 r1, .int .i64 r2] 64))) := (HB2.out.trans (hb3.mono (by simp; omega))).alloc (Nat.le_trans HB2.out.size hb3.size) _
        have hx3 : w1.heap.size < w3.heap.size := X3.out.lt
        have hy3 : w1.heap.size + 1 < w3.heap.size := Y3.out.lt
        obtain ⟨x0, x1, x2, _, _, _⟩ := X3.out.three
        obtain ⟨y0, y1, y2, y3, y4, _, _, _, _, _⟩ := Y3.out.desc
        clear hb3 e1 e2 e3 f0 f1 f2 f3 f4
        by_cases hsq : dsq = s
        · have hsq' : (dsq == s) = true := by simpa using hsq
          by_cases hst : dst = 2
          · have hst' : (dst == 2) = true := by simpa using hst
            obtain rfl : V = r2 := by rw [← HV3.out, if_pos ⟨hsq, hst⟩]
            clear hsq hst HV3
            go_wp2
            go_ret
            exact ⟨rfl, HB3.out⟩
          · have hst' : (dst == 2) = false := by simpa using hst
            obtain rfl : V = r1 := by rw [← HV3.out, if_neg (fun h => hst h.2)]
            clear hsq hst HV3
            go_wp2
            go_ret
            exact ⟨rfl, HB3.out⟩
        · have hsq' : (dsq == s) = false := by simpa using hsq
          obtain rfl : V = r1 := by rw [← HV3.out, if_neg (fun h => hsq h.1)]
          clear hsq HV3
          go_wp2
          go_ret
          exact ⟨rfl, HB3.out⟩
end Go.Proofs.Ytenlapppaimkkaq
