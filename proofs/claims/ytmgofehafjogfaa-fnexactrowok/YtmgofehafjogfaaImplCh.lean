/- chosenOk: 1 to most places, no two alike, all of them among those to choose from. -/
import Derived.Test.YtmgofehafjogfaaBinS
import Derived.Test.YtmgofehafjogfaaFindI
import Derived.Test.YtmgofehafjogfaaImplIo
import Derived.Test.YtmgofehafjogfaaWithin
import Derived.Test.YtmgofehafjogfaaSchL
namespace Go.Proofs.Ytmgofehafjogfaa
open Go.ChangeShapes Go.WideShapes Go.ChangeAt Go.RowKit Go.Maps

/-- What is asked of a list of places. -/
def ChGood (zs xs : List Int) (most : Int) : Prop := (∀ x ∈ xs, x ∈ zs) ∧ xs.Nodup ∧ 1 ≤ xs.length ∧ (xs.length : Int) ≤ most
instance (zs xs : List Int) (most : Int) : Decidable (ChGood zs xs most) := by unfold ChGood; infer_instance
theorem IntAt.take {w : World} {a : Option Addr} {n k : Nat} {xs : List Int} (h : IntAt w a n xs) (hk : k ≤ n) : IntAt w a k (xs.take k) := by
  obtain ⟨h1, h2, h3⟩ := h
  refine ⟨by rw [List.length_take]; omega, by omega, ?_⟩
  rcases h3 with h0 | ⟨b, o, he, hc⟩
  · exact .inl (by omega)
  · refine .inr ⟨b, o, he, fun i hi => ?_⟩
    rw [hc i (by omega)]
    simp [List.getD, List.getElem?_take_of_lt hi]
set_option maxHeartbeats 8000000 in
set_option maxRecDepth 100000 in
theorem chosenOk_any (a : Option Addr) (n c : Nat) (xs : List Int) (most : Int) (v : Value) (zs : List Int) (w : World) (h : IntAt w a n xs) (hc : n ≤ c) (hn : n ≤ 2097152) (ho : OrdAt w v zs) :
    Calls Try.prog 51 #[.slice a n c, .int .i64 most, v] w fun e w' => e = .returned (.bool (decide (ChGood zs xs most))) ∧ w' = w := by
  have H : Hid (IntAt w a n xs) := h
  have hl := h.1
  obtain ⟨b, m, d, rfl, hm12, hmd, hb, hso⟩ := ho
  have HB0 : Hid (IntAt w b m zs) := hb
  have HSO : Hid (∀ p q, p < q → q < m → zs.getD p 0 ≤ zs.getD q 0) := hso
  obtain ⟨B, hB⟩ : ∃ B, decide (ChGood zs xs most) = B := ⟨_, rfl⟩
  rw [hB]
  have HB : Hid (decide (ChGood zs xs most) = B) := hB
  clear h hb hso hB
  by_cases hin : 1 ≤ (n : Int) ∧ (n : Int) ≤ most
  · have HI : Hid (inB (n : Int) 1 most = true) := inB_yes hin
    have HIN : Hid (1 ≤ (n : Int) ∧ (n : Int) ≤ most) := hin
    clear hin
    go_enter Try.func51, Try.ntmps51
    go_wp2_with fail
    refine (within_g _ _ _ _).mono ?_
    rintro e w1 ⟨rfl, rfl⟩
    rw [HI.out]
    go_wp2
    go_loopw [18] (fun i wr => ∃ k : Nat, k ≤ n ∧ i = .int .i64 (k : Int) ∧ (∀ x ∈ xs.take k, x ∈ zs) ∧ (xs.take k).Nodup ∧ wr = w1) (fun i _ => n - (intOf i).toNat)
    case atStart => exact ⟨0, Nat.zero_le _, rfl, fun x hx => by simp at hx, by simp, rfl⟩
    case round =>
      obtain ⟨k, hk, rfl, hg, hnd, rfl⟩ := hrel
      have HG : Hid (∀ x ∈ xs.take k, x ∈ zs) := hg
      have HND : Hid (xs.take k).Nodup := hnd
      clear hg hnd
      by_cases hlt : k < n
      · rcases H.out.2.2 with h0 | ⟨p1, o1, rfl, g1⟩
        · omega
        have e1 := g1 k hlt
        obtain ⟨x, hx⟩ : ∃ x, xs.getD k 0 = x := ⟨_, rfl⟩
        rw [hx] at e1
        have HX : Hid (xs[k]? = some x) := by
          show _ = _
          rw [← hx, List.getD, List.getElem?_eq_getElem (by omega)]
          rfl
        have hk0 : (0 : Int) ≤ (k : Int) := by omega
        have hk1 : (k : Int) < (n : Int) := by omega
        clear g1 hx
        go_wp2_with fail
        refine (binary_any b m d zs x _ (by omega) HB0.out HSO.out).mono ?_
        rintro e w2 ⟨⟨r, rfl⟩, rfl⟩
        by_cases hz : x ∈ zs
        · rw [decide_eq_true hz]
          have HZ : Hid (x ∈ zs) := hz
          clear hz
          go_wp2_with fail
          refine (containsI_any (some ⟨p1, o1, none⟩) k _ (xs.take k) x _ (H.out.take hk)).mono ?_
          rintro e w3 ⟨rfl, rfl⟩
          by_cases hd : x ∈ xs.take k
          · rw [decide_eq_true hd]
            have HV : Hid (false = B) := by
              show _ = _
              rw [← HB.out]
              exact (decide_eq_false fun h => nodup_take h.2.1 HX.out x hd rfl).symm
            clear hd
            go_wp2
            go_ret
            exact ⟨by rw [HV.out]; rfl, rfl⟩
          · rw [decide_eq_false hd]
            have hall : ∀ y ∈ xs.take (k + 1), y ∈ zs := take_all HG.out HX.out HZ.out
            have hnd : (xs.take (k + 1)).Nodup := take_nodup HND.out HX.out fun y hy e => hd (e ▸ hy)
            have HALL : Hid (∀ y ∈ xs.take (k + 1), y ∈ zs) := hall
            have HN2 : Hid (xs.take (k + 1)).Nodup := hnd
            clear hd hall hnd
            go_wp2
            go_roundw
            case rel => exact ⟨k + 1, by omega, by go_num, HALL.out, HN2.out, trivial⟩
            case measure => simp [intOf]; omega
        · rw [decide_eq_false hz]
          have HV : Hid (false = B) := by
            show _ = _
            rw [← HB.out]
            exact (decide_eq_false fun h => hz (h.1 x (List.mem_of_getElem? HX.out))).symm
          clear hz
          go_wp2
          go_ret
          exact ⟨by rw [HV.out]; rfl, rfl⟩
      · obtain rfl : k = n := by omega
        have HV : Hid (true = B) := by
          have h1 := HG.out
          have h2 := HND.out
          rw [List.take_of_length_le (by omega)] at h1 h2
          show _ = _
          rw [← HB.out]
          exact (decide_eq_true ⟨h1, h2, by have := HIN.out; omega, by have := HIN.out; rw [hl]; omega⟩).symm
        go_wp2
        go_ret
        exact ⟨by rw [HV.out]; rfl, rfl⟩
  · have HI : Hid (inB (n : Int) 1 most = false) := inB_no hin
    have HV : Hid (false = B) := by
      show _ = _
      rw [← HB.out]
      exact (decide_eq_false fun h => hin ⟨by have := h.2.2.1; omega, by have := h.2.2.2; rw [hl] at this; omega⟩).symm
    clear hin
    go_enter Try.func51, Try.ntmps51
    go_wp2_with fail
    refine (within_g _ _ _ _).mono ?_
    rintro e w1 ⟨rfl, rfl⟩
    rw [HI.out]
    go_wp2
    go_ret
    exact ⟨by rw [HV.out]; rfl, rfl⟩
end Go.Proofs.Ytmgofehafjogfaa
