/- Project: the values at these places. -/
import Derived.Test.YtmgofehafjogfaaShelf
import Derived.Test.YtmgofehafjogfaaBoxN
import Derived.Test.YtmgofehafjogfaaVal17
import Derived.Test.YtmgofehafjogfaaProjL
import Derived.Test.YtmgofehafjogfaaVasO
import Derived.Test.YtmgofehafjogfaaIntAt
import Derived.Test.YtmgofehafjogfaaInB
import Derived.Deep.RegionHeld3
import Derived.Deep.Cut
namespace Go.Proofs.Ytmgofehafjogfaa
open Go.ChangeShapes Go.WideShapes Go.ChangeAt Go.RowKit

theorem withinPj (x lo hi : Int) (w : World) : Calls Try.prog 57 #[.int .i64 x, .int .i64 lo, .int .i64 hi] w fun e w' => e = .returned (.bool (inB x lo hi)) ∧ w' = w := by
  by_cases h0 : lo ≤ x
  · by_cases h1 : x ≤ hi
    · rw [inB_yes ⟨h0, h1⟩]
      go_enter Try.func57, Try.ntmps57
      go_wp2
      go_ret
      exact ⟨rfl, rfl⟩
    · rw [inB_no (fun h => h1 h.2)]
      go_enter Try.func57, Try.ntmps57
      go_wp2
      go_ret
      exact ⟨rfl, rfl⟩
  · rw [inB_no (fun h => h0 h.1)]
    go_enter Try.func57, Try.ntmps57
    go_wp2
    go_ret
    exact ⟨rfl, rfl⟩
set_option maxHeartbeats 8000000 in
set_option maxRecDepth 100000 in
theorem clone_any (s : ByteArray) (w : World) (hs : s.size ≤ 2097152) :
    Calls Try.prog 94 #[.string s] w fun e w' => e = .returned (.string s) ∧ Below w.heap.size w w' := by
  go_enter Try.func94, Try.ntmps94
  go_wp2_with fail
  refine (Try.stringslite_Clone s _ (by omega)).mono ?_
  rintro e w1 ⟨rfl, hb⟩
  go_wp2
  go_ret
  exact ⟨rfl, hb⟩
set_option maxHeartbeats 8000000 in
set_option maxRecDepth 100000 in
theorem valueAnew_any (k m : Int) (s : ByteArray) (w : World) (hs : s.size ≤ 2097152) :
    Calls Try.prog 65 #[VaV k m s] w fun e w' => e = .returned (VaV k m s) ∧ Below w.heap.size w w' := by
  have HS : Hid (s.size ≤ 2097152) := hs
  obtain ⟨g, hg⟩ : ∃ g, w.heap.size = g := ⟨_, rfl⟩
  obtain ⟨W, hW⟩ : ∃ W, w.alloc (.cells #[.int .i64 k, .int .i64 m, .string s] 43) = W := ⟨_, rfl⟩
  have HG : Hid (w.heap.size = g) := hg
  have HW : Hid (w.alloc (.cells #[.int .i64 k, .int .i64 m, .string s] 43) = W) := hW
  have B1 : Hid (Below g w W) := by rw [← hW, ← hg]; exact (Below.refl _ w).alloc (Nat.le_refl _) _
  have X1 : Hid (Box W g #[.int .i64 k, .int .i64 m, .string s] 43) := by rw [← hW, ← hg]; exact box_of w _ _
  have HQ : Hid (W.heap.size = g + 1) := by show _ = _; rw [← hW, World.size_alloc, hg]
  obtain ⟨V, hV⟩ : ∃ V, W.alloc (.cells #[.int .i64 0, .int .i64 0, .string ⟨#[]⟩] 43) = V := ⟨_, rfl⟩
  have HV : Hid (W.alloc (.cells #[.int .i64 0, .int .i64 0, .string ⟨#[]⟩] 43) = V) := hV
  have B2 : Hid (Below (g + 1) W V) := by rw [← hV]; exact (Below.refl _ W).alloc (Nat.le_of_eq HQ.out.symm) _
  have X2 : Hid (Box V (g + 1) #[.int .i64 0, .int .i64 0, .string ⟨#[]⟩] 43) := by rw [← hV, ← HQ.out]; exact box_of W _ _
  have XV : Hid (Box V g #[.int .i64 k, .int .i64 m, .string s] 43) := X1.out.below B2.out (Nat.lt_succ_self g)
  have BV : Hid (Below g w V) := B1.out.trans (B2.out.mono (Nat.le_succ g))
  rw [hg]
  clear hs hg hW hV
  obtain ⟨c0, c1, c2⟩ := XV.out.triV
  go_enter Try.func65, Try.ntmps65
  go_upto_region 1 with (fail)
  rw [HW.out, HG.out, HV.out]
  go_wp2_with fail
  refine (clone_any s _ HS.out).mono ?_
  rintro e w3 ⟨rfl, hb3⟩
  have Y3 : Hid (Below g w w3) := BV.out.trans (hb3.mono (Nat.le_of_lt XV.out.lt))
  have XA : Hid (Box w3 g #[.int .i64 k, .int .i64 m, .string s] 43) := XV.out.below hb3 XV.out.lt
  have XB : Hid (Box w3 (g + 1) #[.int .i64 0, .int .i64 0, .string ⟨#[]⟩] 43) := X2.out.below hb3 X2.out.lt
  clear c0 c1 c2 hb3
  obtain ⟨c0, c1, c2⟩ := XA.out.triV
  have fA := XA.out.frozen 2
  have fB0 := XB.out.frozen 0
  have fB1 := XB.out.frozen 1
  have fB2 := XB.out.frozen 2
  obtain ⟨d0, d1, d2⟩ := XB.out.triV
  go_wp2
  obtain ⟨F, hF⟩ : ∃ F, ((((w3.setCell ⟨g, 2, none⟩ (.string s)).setCell ⟨g + 1, 0, none⟩ (.int .i64 k)).setCell ⟨g + 1, 1, none⟩ (.int .i64 m)).setCell ⟨g + 1, 2, none⟩ (.string s)) = F := ⟨_, rfl⟩
  have XF : Box F (g + 1) #[.int .i64 k, .int .i64 m, .string s] 43 := by
    rw [← hF]
    exact (((XB.out.set (q := ⟨g, 2, none⟩) (by simp) _).put 0 (.int .i64 k)).put 1 (.int .i64 m)).put 2 (.string s)
  have BF : Below g w F := by
    rw [← hF]
    exact (((Y3.out.setCell (Nat.le_refl _) _).setCell (Nat.le_succ g) _).setCell (Nat.le_succ g) _).setCell (Nat.le_succ g) _
  rw [hF]
  exact bodyPost_ret (results_cell_row Try.results65 _ F (g + 1) 43 _ _ _ rfl XF Try.underlying43 rfl (by kernel_rfl)) rfl ⟨rfl, BF⟩
set_option maxHeartbeats 8000000 in
set_option maxRecDepth 100000 in
theorem implProject_any (a : Option Addr) (n c : Nat) (L : List Va3) (b : Option Addr) (m d : Nat) (xs : List Int) (w : World) (h : VasAt w a n L) (_ : n ≤ c) (hz : VasSz L) (hb : IntAt w b m xs) (_ : m ≤ d) (hm : m ≤ 1048576) :
    Calls Try.prog 28 #[.slice a n c, .slice b m d] w fun e w' => (∃ v, e = .returned v ∧ VOwn w' w.heap.size v (projL L xs)) ∧ Below w.heap.size w w' := by
  have HL : Hid (VasAt w a n L) := h
  have HX : Hid (IntAt w b m xs) := hb
  have HZ : Hid (VasSz L) := hz
  have hl := h.1
  have hn := h.2.1
  have hxl := hb.1
  obtain ⟨g, hg⟩ : ∃ g, w.heap.size = g := ⟨_, rfl⟩
  have HG : Hid (w.heap.size = g) := hg
  have WSUB : Hid (IntKind.i64.wrap ((n : Int) - 1) = (n : Int) - 1) := by show _ = _; rw [IntKind.wrap_i64]; omega
  have hwz : IntKind.i64.wrap ((n : Int) - 1) = (n : Int) - 1 := WSUB.out
  rw [hg]
  clear hg h hb hz
  go_enter Try.func28, Try.ntmps28
  go_wp2
  go_loopw [5, 10] (fun v i wr => ∃ j : Nat, j ≤ m ∧ i = .int .i64 (j : Int) ∧ VOwn wr g v (projL L (xs.take j)) ∧ Below g w wr ∧ g ≤ wr.heap.size) (fun _ i _ => m - (RowKit.intOf i).toNat)
  case atStart => exact ⟨0, Nat.zero_le _, rfl, ⟨rfl, .inl ⟨rfl, rfl⟩⟩, Below.refl _ _, Nat.le_of_eq HG.out.symm⟩
  case round =>
    obtain ⟨j, hj, rfl, ho, hb, hs⟩ := hrel
    have HO : Hid (VOwn wr g u5 (projL L (xs.take j))) := ho
    have HBW : Hid (Below g w wr) := hb
    have HSZ : Hid (g ≤ wr.heap.size) := hs
    clear ho hb hs
    by_cases hlt : j < m
    · rcases (HX.out.below HBW.out (Nat.le_of_eq HG.out)).2.2 with h0 | ⟨p2, o2, rfl, g2⟩
      · omega
      obtain ⟨x, hx⟩ : ∃ x, xs[j]? = some x := ⟨_, List.getElem?_eq_getElem (by omega)⟩
      have hxd : xs.getD j 0 = x := by simp [List.getD, hx]
      have e0 := g2 j hlt
      rw [hxd] at e0
      have HSN : Hid (projL L (xs.take (j + 1)) = projL L (xs.take j) ++ projOne L x) := proj_snoc L hx
      have HPL : Hid ((projL L (xs.take j)).length ≤ j) := Nat.le_trans (proj_len L _) (by rw [List.length_take]; omega)
      have hk0 : (0 : Int) ≤ (j : Int) := by omega
      have hk1 : (j : Int) < (m : Int) := by omega
      clear hx hxd g2
      obtain ⟨bi, hbi⟩ : ∃ b, inB x 0 ((n : Int) - 1) = b := ⟨_, rfl⟩
      have HBI : Hid (inB x 0 ((n : Int) - 1) = bi) := hbi
      clear hbi
      go_wp2_with fail
      refine (withinPj _ _ _ _).mono ?_
      rintro e w2 ⟨rfl, rfl⟩
      rw [HBI.out]
      cases bi
      · have HPO : Hid (projOne L x = []) := by
          show _ = _
          unfold projOne
          rw [if_neg]
          intro hv
          have h1 := inB_yes (show 0 ≤ x ∧ x ≤ (n : Int) - 1 by omega)
          rw [HBI.out] at h1
          cases h1
        go_wp2
        exact ⟨⟨j + 1, by omega, by go_num, by rw [HSN.out, HPO.out, List.append_nil]; exact HO.out, HBW.out, HSZ.out⟩, by simp [RowKit.intOf]; omega⟩
      · have hv := inB_val HBI.out
        obtain ⟨k, rfl⟩ : ∃ k : Nat, x = (k : Int) := ⟨x.toNat, by omega⟩
        rcases (HL.out.below HBW.out (Nat.le_of_eq HG.out)).2.2 with h0 | ⟨p1, o1, rfl, g1⟩
        · omega
        obtain ⟨y, hy⟩ : ∃ y, L[k]? = some y := ⟨_, List.getElem?_eq_getElem (by omega)⟩
        have HPO : Hid (projOne L (k : Int) = [y]) := proj_yes hy
        have HSY : Hid (y.2.2.size ≤ 2097152) := HZ.out _ (List.mem_of_getElem? hy)
        obtain ⟨d0, d1, d2⟩ := g1 k y hy
        obtain ⟨ky, my, sy⟩ := y
        dsimp only at d0 d1 d2
        have hk2 : (0 : Int) ≤ (k : Int) := by omega
        have hk3 : (k : Int) < (n : Int) := by omega
        clear g1 hy hv
        go_wp2_with (first
          | (go_at_call 65
             refine (valueAnew_any ky my sy _ HSY.out).mono ?_
             rintro e w3 ⟨rfl, hb3⟩
             have HB3 : Hid (Below w2.heap.size w2 w3) := hb3
             have HO3 : Hid (VOwn w3 g u5 (projL L (xs.take j))) := owns_below HO.out hb3 (Nat.le_refl _)
             have HSZ3 : Hid (g ≤ w3.heap.size) := Nat.le_trans HSZ.out hb3.size
             have HBW3 : Hid (Below g w w3) := HBW.out.trans (hb3.mono HSZ.out)
             clear hb3 d0 d1 d2)
          | (at_builtin
             refine list_appV _ rfl _ _ rfl g u5 _ rfl (owns_below HO3.out ((Below.refl _ _).alloc (Nat.le_refl _) _) (Nat.le_refl _)) ⟨w3.heap.size, 0, none⟩ 1 1 [(ky, my, sy)] rfl rfl (vnews _ _ rfl (ky, my, sy)) (by have := HPL.out; omega) (by have := HSZ3.out; simp; omega) ?_
             intro v4 w4 hown hbel hnil
             have O4 : Hid (VOwn w4 g v4 (projL L (xs.take (j + 1)))) := by rw [HSN.out, HPO.out]; exact hown
             have hb4 : Below g w3 w4 := hbel w3 g (Nat.le_refl _) ((Below.refl g w3).alloc HSZ3.out _)
             have B4 : Hid (Below g w w4) := HBW3.out.trans hb4
             have Z4 : Hid (g ≤ w4.heap.size) := Nat.le_trans HSZ3.out hb4.size
             clear hown hbel hb4 hnil))
        exact ⟨⟨j + 1, by omega, by go_num, O4.out, B4.out, Z4.out⟩, by simp [RowKit.intOf]; omega⟩
    · obtain rfl : j = m := by omega
      have HE : Hid (xs.take j = xs) := List.take_of_length_le (by omega)
      have ho := HO.out
      rw [HE.out] at ho
      have HOE : Hid (VOwn wr g u5 (projL L xs)) := ho
      clear ho
      go_wp2
      go_ret
      exact ⟨⟨_, rfl, HOE.out⟩, HBW.out⟩
end Go.Proofs.Ytmgofehafjogfaa
