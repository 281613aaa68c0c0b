/- colsOk: columns are not too few, not too many, each has a name of its own and a kind. -/
import Derived.Test.YtmgofehafjogfaaImplNo
import Derived.Test.YtmgofehafjogfaaImplBn
namespace Go.Proofs.Ytmgofehafjogfaa
open Go.ChangeShapes Go.WideShapes Go.ChangeAt Go.RowKit Go.Maps

set_option maxHeartbeats 8000000 in
set_option maxRecDepth 100000 in
theorem csBad_any (s : ByteArray) (k1 : Int) (fl : Bool) (w : World) :
    Calls Try.prog 83 #[.agg #[.string s, .int .i64 k1, .bool fl]] w fun e w' => e = .returned (.bool !(decide (1 ≤ k1 ∧ k1 ≤ 3))) ∧ Below w.heap.size w w' := by
  obtain ⟨W, hW⟩ : ∃ W, w.alloc (.cells #[.string s, .int .i64 k1, .bool fl] 75) = W := ⟨_, rfl⟩
  have HB0 : Hid (Below w.heap.size w W) := by rw [← hW]; exact (Below.refl _ w).alloc (Nat.le_refl _) _
  have X0 : Hid (Box W w.heap.size #[.string s, .int .i64 k1, .bool fl] 75) := by rw [← hW]; exact box_of w _ _
  have HW : Hid (w.alloc (.cells #[.string s, .int .i64 k1, .bool fl] 75) = W) := hW
  obtain ⟨B, hB⟩ : ∃ B, decide (1 ≤ k1 ∧ k1 ≤ 3) = B := ⟨_, rfl⟩
  rw [hB]
  have HI : Hid (inB k1 1 3 = B) := hB
  clear hB
  have c1 : W.cell? ⟨w.heap.size, 1, none⟩ = some (.int .i64 k1) := X0.out.cell 1
  clear hW
  go_enter Try.func83, Try.ntmps83
  go_upto_region 1 with (fail)
  rw [HW.out]
  go_wp2_with fail
  refine (within_g _ _ _ _).mono ?_
  rintro e w1 ⟨rfl, rfl⟩
  rw [HI.out]
  clear c1
  go_wp2
  go_ret
  exact ⟨rfl, HB0.out⟩
set_option maxHeartbeats 8000000 in
set_option maxRecDepth 100000 in
theorem ixCol_any (a : Option Addr) (n c : Nat) (L : List Col3) (w : World) (h : ColsAt w a n L) :
    Calls Try.prog 101 #[.slice a n c, .func (.func 83) #[] #[]] w fun e w' => ∃ q : Int, (e = .returned (.int .i64 q) ∧ (0 ≤ q ↔ ¬ ∀ x ∈ L, 1 ≤ x.2.1 ∧ x.2.1 ≤ 3)) ∧ Below w.heap.size w w' := by
  have HL : Hid (ColsAt w a n L) := h
  have hl := h.1
  have hn := h.2.1
  clear h
  go_enter Try.func101, Try.ntmps101
  go_wp2
  go_loopw [8] (fun i wr => ∃ j : Nat, j ≤ n ∧ i = .int .i64 (j : Int) ∧ (∀ x ∈ L.take j, 1 ≤ x.2.1 ∧ x.2.1 ≤ 3) ∧ Below w.heap.size w wr) (fun i _ => n - (RowKit.intOf i).toNat)
  case atStart => exact ⟨0, Nat.zero_le _, rfl, fun x hx => by simp at hx, Below.refl _ _⟩
  case round =>
    obtain ⟨j, hj, rfl, hg, hb⟩ := hrel
    have HG : Hid (∀ x ∈ L.take j, 1 ≤ x.2.1 ∧ x.2.1 ≤ 3) := hg
    have HBW : Hid (Below w.heap.size w wr) := hb
    clear hg hb
    by_cases hlt : j < n
    · rcases (HL.out.below HBW.out (Nat.le_refl _)).2.2 with h0 | ⟨p1, o1, rfl, g1⟩
      · omega
      obtain ⟨x, hx⟩ : ∃ x, L[j]? = some x := ⟨_, List.getElem?_eq_getElem (by omega)⟩
      obtain ⟨e0, e1, e2⟩ := g1 j x hx
      have HX : Hid (L[j]? = some x) := hx
      obtain ⟨s, k1, fl⟩ := x
      dsimp only at e0 e1 e2
      have hk0 : (0 : Int) ≤ (j : Int) := by omega
      have hk1 : (j : Int) < (n : Int) := by omega
      clear g1 hx
      go_wp2_with fail
      refine (csBad_any s k1 fl _).mono ?_
      rintro e w2 ⟨rfl, hb2⟩
      have HB2 : Hid (Below w.heap.size w w2) := HBW.out.trans (hb2.mono HBW.out.size)
      clear hb2 e0 e1 e2
      by_cases hv : 1 ≤ ((s, k1, fl) : Col3).2.1 ∧ ((s, k1, fl) : Col3).2.1 ≤ 3
      · rw [decide_eq_true hv]
        have hall : ∀ x ∈ L.take (j + 1), 1 ≤ x.2.1 ∧ x.2.1 ≤ 3 := take_all HG.out HX.out hv
        have HALL : Hid (∀ x ∈ L.take (j + 1), 1 ≤ x.2.1 ∧ x.2.1 ≤ 3) := hall
        clear hall hv
        go_wp2
        go_roundw
        case rel => exact ⟨j + 1, by omega, by go_num, HALL.out, HB2.out⟩
        case measure => simp [RowKit.intOf]; omega
      · rw [decide_eq_false hv]
        have HV : Hid (¬ ∀ x ∈ L, 1 ≤ x.2.1 ∧ x.2.1 ≤ 3) := fun h => hv (h _ (List.mem_of_getElem? HX.out))
        clear hv
        go_wp2
        go_ret
        exact ⟨(j : Int), ⟨rfl, ⟨fun _ => HV.out, fun _ => by omega⟩⟩, HB2.out⟩
    · obtain rfl : j = n := by omega
      have HALL : Hid (∀ x ∈ L, 1 ≤ x.2.1 ∧ x.2.1 ≤ 3) := by
        have h1 := HG.out
        rwa [List.take_of_length_le (by omega)] at h1
      go_wp2
      go_ret
      exact ⟨-1, ⟨rfl, ⟨fun h => by omega, fun h => absurd HALL.out h⟩⟩, HBW.out⟩
set_option maxHeartbeats 8000000 in
set_option maxRecDepth 100000 in
theorem cfCol_any (a : Option Addr) (n c : Nat) (L : List Col3) (w : World) (h : ColsAt w a n L) :
    Calls Try.prog 85 #[.slice a n c, .func (.func 83) #[] #[]] w fun e w' => e = .returned (.bool !(decide (∀ x ∈ L, 1 ≤ x.2.1 ∧ x.2.1 ≤ 3))) ∧ Below w.heap.size w w' := by
  have HL : Hid (ColsAt w a n L) := h
  clear h
  go_enter Try.func85, Try.ntmps85
  go_wp2_with fail
  refine (ixCol_any a n c L _ HL.out ).mono ?_
  rintro e w1 ⟨q, ⟨rfl, hr⟩, hb1⟩
  have HB1 : Hid (Below w.heap.size w w1) := hb1
  have HV : Hid (decide (0 ≤ q) = !(decide (∀ x ∈ L, 1 ≤ x.2.1 ∧ x.2.1 ≤ 3))) := by
    show _ = _
    by_cases hall : ∀ x ∈ L, 1 ≤ x.2.1 ∧ x.2.1 ≤ 3
    · rw [decide_eq_true hall, decide_eq_false (fun h => hr.1 h hall)]; rfl
    · rw [decide_eq_false hall, decide_eq_true (hr.2 hall)]; rfl
  clear hr hb1
  go_wp2
  go_ret
  exact ⟨by rw [HV.out]; rfl, HB1.out⟩
def CoGood (L : List Col3) : Prop := (1 ≤ L.length ∧ L.length ≤ 5) ∧ NmGood (L.map (·.1)) ∧ ∀ x ∈ L, 1 ≤ x.2.1 ∧ x.2.1 ≤ 3
instance (L : List Col3) : Decidable (CoGood L) := by unfold CoGood; infer_instance
set_option maxHeartbeats 8000000 in
set_option maxRecDepth 100000 in
theorem colsOk_any (a : Option Addr) (n c : Nat) (L : List Col3) (w : World) (h : ColsAt w a n L) (hsz : ∀ x ∈ L, x.1.size ≤ 1048576) :
    Calls Try.prog 50 #[.slice a n c] w fun e w' => e = .returned (.bool (decide (CoGood L))) ∧ Below w.heap.size w w' := by
  have HA : Hid (ColsAt w a n L) := h
  have HSZ : Hid (∀ x ∈ L, x.1.size ≤ 1048576) := hsz
  have hl := h.1
  obtain ⟨B, hB⟩ : ∃ B, decide (CoGood L) = B := ⟨_, rfl⟩
  rw [hB]
  have HB : Hid (decide (CoGood L) = B) := hB
  clear h hsz hB
  go_enter Try.func50, Try.ntmps50
  go_wp2_with fail
  refine (within_g _ _ _ _).mono ?_
  rintro e w1 ⟨rfl, rfl⟩
  by_cases hin : 1 ≤ (n : Int) ∧ (n : Int) ≤ 5
  · rw [inB_yes hin]
    have HIN : Hid (1 ≤ L.length ∧ L.length ≤ 5) := by show _ ∧ _; omega
    clear hin
    go_wp2_with fail
    refine (byNameCol_any a n c L _ HA.out HSZ.out).mono ?_
    rintro e w2 ⟨⟨rfl, D, hown, hd⟩, hb2⟩
    have HM : Hid (MapN w2 w1.heap.size n (w1.heap.size + 1) (posN (L.map (·.1)) n)) := mapN_groups hown hd
    have HB2 : Hid (Below w1.heap.size w1 w2) := hb2
    clear hown hd hb2
    go_wp2_with fail
    refine (namesOk_any _ _ n _ n (L.map (·.1)) HM.out (by rw [List.length_map]; exact hl) (fun x hx => by obtain ⟨y, hy, rfl⟩ := List.mem_map.1 hx; exact HSZ.out y hy)).mono ?_
    rintro e w3 ⟨rfl, hb3⟩
    have HB3 : Hid (Below w1.heap.size w1 w3) := HB2.out.trans (hb3.mono HB2.out.size)
    clear hb3
    by_cases hnm : NmGood (L.map (·.1))
    · rw [decide_eq_true hnm]
      have HNM : Hid (NmGood (L.map (·.1))) := hnm
      clear hnm
      go_wp2_with fail
      refine (cfCol_any a n c L _ (HA.out.below HB3.out (Nat.le_refl _))).mono ?_
      rintro e w4 ⟨rfl, hb4⟩
      have HB4 : Hid (Below w1.heap.size w1 w4) := HB3.out.trans (hb4.mono HB3.out.size)
      have HV : Hid (decide (∀ x ∈ L, 1 ≤ x.2.1 ∧ x.2.1 ≤ 3) = B) := by
        show _ = _
        rw [← HB.out]
        exact decide_eq_decide.2 ⟨fun h => ⟨HIN.out, HNM.out, h⟩, fun h => h.2.2⟩
      rw [HV.out]
      clear hb4
      go_wp2
      go_ret
      cases B <;> exact ⟨rfl, HB4.out⟩
    · rw [decide_eq_false hnm]
      have HV : Hid (false = B) := by
        show _ = _
        rw [← HB.out]
        exact (decide_eq_false fun h => hnm h.2.1).symm
      clear hnm
      go_wp2
      go_ret
      exact ⟨by rw [HV.out]; rfl, HB3.out⟩
  · rw [inB_no hin]
    have HV : Hid (false = B) := by
      show _ = _
      rw [← HB.out]
      exact (decide_eq_false fun h => hin (by have := h.1; omega)).symm
    clear hin
    go_wp2
    go_ret
    exact ⟨by rw [HV.out]; rfl, Below.refl _ _⟩
end Go.Proofs.Ytmgofehafjogfaa
