/- impl.entriesOk and impl.DescOk, walked at any Desc. -/
import Derived.Test.YtbdfopokimpeiaqDescM
import Derived.Test.YtbdfopokimpeiaqWithin
import Derived.Test.YtbdfopokimpeiaqDesc
import Derived.Test.YtbdfopokimpeiaqEqualI
namespace Go.Proofs.Ytbdfopokimpeiaq
open Go.ChangeShapes Go.WideShapes Go.ChangeAt Go.RowKit

set_option maxHeartbeats 1000000 in
theorem entriesOk_any (a : Option Addr) (n c : Nat) (es : List Int) (w : World) (h : TripAt w a n es) :
    Calls Try.prog 79 #[.slice a n c] w fun e w' => e = .returned (.bool (decide (∀ i, i < n → entOk es i))) ∧ Below w.heap.size w w' := by
  have HH : Hid (TripAt w a n es) := h
  have hn := h.2.1
  obtain ⟨B, hB⟩ : ∃ B, decide (∀ i, i < n → entOk es i) = B := ⟨_, rfl⟩
  rw [hB]
  have HB : Hid (decide (∀ i, i < n → entOk es i) = B) := hB
  clear h hB
  go_enter Try.func79, Try.ntmps79
  go_wp2
  go_loopw [3, 8] (fun l i wr => ∃ k : Nat, k ≤ n ∧ l = .int .i64 (leastE es k) ∧ i = .int .i64 (k : Int) ∧ (∀ i, i < k → entOk es i) ∧ Below w.heap.size w wr) (fun _ i _ => n - (intOf i).toNat)
  case atStart => exact ⟨0, Nat.zero_le _, rfl, rfl, fun i hi => by omega, Below.refl _ _⟩
  case round =>
    obtain ⟨k, hk, rfl, rfl, hok, hb⟩ := hrel
    have HOK : Hid (∀ i, i < k → entOk es i) := hok
    clear hok
    by_cases hlt : k < n
    · rcases (HH.out.below hb (Nat.le_refl _)).2.2 with h0 | ⟨p1, o1, rfl, g1⟩
      · omega
      have hk0 : (0 : Int) ≤ (k : Int) := by omega
      have hk1 : (k : Int) < (n : Int) := by omega
      have e1 := g1 (k * 3) (by omega)
      have e2 := g1 (k * 3 + 1) (by omega)
      have e3 := g1 (k * 3 + 2) (by omega)
      have HI : Hid (entOk es k ↔ (inB (es.getD (k * 3) 0) (leastE es k) 19 = true ∧ inB (es.getD (k * 3 + 1) 0) 0 1000 = true ∧ inB (es.getD (k * 3 + 2) 0) 0 1000 = true)) := entOk_iff HOK.out
      have hlo := leastE_ok HOK.out
      have HN : Hid (leastE es (k + 1) = es.getD (k * 3) 0 + 1) := by unfold leastE; rw [if_neg (by omega), Nat.add_sub_cancel]; exact rfl
      obtain ⟨x, hx⟩ : ∃ x, es.getD (k * 3) 0 = x := ⟨_, rfl⟩
      obtain ⟨y, hy⟩ : ∃ y, es.getD (k * 3 + 1) 0 = y := ⟨_, rfl⟩
      obtain ⟨z, hz⟩ : ∃ z, es.getD (k * 3 + 2) 0 = z := ⟨_, rfl⟩
      obtain ⟨l, hl⟩ : ∃ l, leastE es k = l := ⟨_, rfl⟩
      rw [hl] at hlo HI ⊢
      rw [hx] at e1 HI HN
      rw [hy, ← Nat.add_assoc] at e2
      rw [hy] at HI
      rw [hz, ← Nat.add_assoc] at e3
      rw [hz] at HI
      clear g1 hx hy hz hl
      have hbx : Below w.heap.size w (wr.alloc (.cells #[.int .i64 x, .int .i64 y, .int .i64 z] 84)) := hb.alloc hb.size _
      have HBX : Hid _ := hbx
      have NO : Hid (¬ entOk es k → B = false) := fun hno => by rw [← HB.out]; exact decide_eq_false fun hall => hno (hall k hlt)
      clear hbx
      rcases hA : inB x l 19 with _ | _
      · obtain rfl : B = false := NO.out fun h => by have := (HI.out.1 h).1; rw [hA] at this; cases this
        have HA : Hid (inB x l 19 = false) := hA
        clear hA HI NO HB
        go_wp2_with fail
        refine (within_g x l 19 _).mono ?_
        rintro e w1 ⟨rfl, rfl⟩
        rw [HA.out]
        go_wp2
        go_ret
        exact ⟨rfl, HBX.out⟩
      · have hx2 : l ≤ x ∧ x ≤ 19 := by unfold inB at hA; simpa using hA
        have HA : Hid (inB x l 19 = true) := hA
        rcases hO : inB y 0 1000 with _ | _
        · obtain rfl : B = false := NO.out fun h => by have := (HI.out.1 h).2.1; rw [hO] at this; cases this
          have HO : Hid (inB y 0 1000 = false) := hO
          clear hA hO HI NO HB
          go_wp2_with fail
          refine (within_g x l 19 _).mono ?_
          rintro e w1 ⟨rfl, rfl⟩
          rw [HA.out]
          go_wp2_with fail
          refine (within_g y 0 1000 _).mono ?_
          rintro e w2 ⟨rfl, rfl⟩
          rw [HO.out]
          go_wp2
          go_ret
          exact ⟨rfl, HBX.out⟩
        · have HO : Hid (inB y 0 1000 = true) := hO
          rcases hW : inB z 0 1000 with _ | _
          · obtain rfl : B = false := NO.out fun h => by have := (HI.out.1 h).2.2; rw [hW] at this; cases this
            have HW : Hid (inB z 0 1000 = false) := hW
            clear hA hO hW HI NO HB
            go_wp2_with fail
            refine (within_g x l 19 _).mono ?_
            rintro e w1 ⟨rfl, rfl⟩
            rw [HA.out]
            go_wp2_with fail
            refine (within_g y 0 1000 _).mono ?_
            rintro e w2 ⟨rfl, rfl⟩
            rw [HO.out]
            go_wp2_with fail
            refine (within_g z 0 1000 _).mono ?_
            rintro e w3 ⟨rfl, rfl⟩
            rw [HW.out]
            go_wp2
            go_ret
            exact ⟨rfl, HBX.out⟩
          · have HW : Hid (inB z 0 1000 = true) := hW
            have YES : Hid (entOk es k) := HI.out.2 ⟨hA, hO, hW⟩
            clear hA hO hW HI NO
            go_wp2_with fail
            refine (within_g x l 19 _).mono ?_
            rintro e w1 ⟨rfl, rfl⟩
            rw [HA.out]
            go_wp2_with fail
            refine (within_g y 0 1000 _).mono ?_
            rintro e w2 ⟨rfl, rfl⟩
            rw [HO.out]
            go_wp2_with fail
            refine (within_g z 0 1000 _).mono ?_
            rintro e w3 ⟨rfl, rfl⟩
            rw [HW.out]
            go_wp2
            exact ⟨⟨k + 1, by omega, by rw [HN.out], by go_num, fun i hi => by
              by_cases e : i = k
              · rw [e]; exact YES.out
              · exact HOK.out i (by omega), HBX.out⟩, by simp [intOf]; omega⟩
    · obtain rfl : k = n := by omega
      obtain rfl : B = true := by rw [← HB.out]; exact decide_eq_true HOK.out
      go_wp2
      go_ret
      exact ⟨rfl, hb⟩

set_option maxHeartbeats 1000000 in
theorem implDescOk_any (sq st : Int) (ea : Option Addr) (en ec : Nat) (es : List Int) (cd : Int) (ra : Option Addr) (rn rc : Nat) (rs : List Int) (w : World) (h1 : TripAt w ea en es) (h2 : IntAt w ra rn rs) :
    Calls Try.prog 57 #[DescV sq st ea en ec cd ra rn rc] w fun e w' => e = .returned (.bool (descOkM sq st en es cd rn)) ∧ Below w.heap.size w w' := by
  have H1 : Hid (TripAt w ea en es) := h1
  have H2 : Hid (IntAt w ra rn rs) := h2
  have HL : Hid (rs.length = rn) := h2.1
  have hb0 : Below w.heap.size w (w.alloc (.cells (DescC sq st ea en ec cd ra rn rc) 82)) := (Below.refl _ w).alloc (Nat.le_refl _) _
  have HB0 : Hid _ := hb0
  obtain ⟨B, hB⟩ : ∃ B, descOkM sq st en es cd rn = B := ⟨_, rfl⟩
  rw [hB]
  have HM : Hid (descOkM sq st en es cd rn = B) := hB
  clear h1 h2 hb0 hB
  by_cases hq : sq = 0
  · subst hq
    by_cases hs : st = 0
    · subst hs
      by_cases he : en = 0
      · subst he
        have HR : Hid (decide (cd = 0 ∧ rs = []) = B) := by
          show _ = _
          rw [← HM.out]
          unfold descOkM
          rw [if_pos rfl, decide_eq_decide, ← HL.out]
          simp
        clear HM
        go_enter Try.func57, Try.ntmps57
        go_wp2_with fail
        refine (implResSame_any ra none rn 0 rc 0 cd 0 rs [] _ (H2.out.below HB0.out (Nat.le_refl _)) ⟨rfl, by omega, .inl rfl⟩).mono ?_
        rintro e w1 ⟨rfl, hb1⟩
        rw [HR.out]
        have hb : Below w.heap.size w w1 := HB0.out.trans (hb1.mono (by simp))
        clear hb1
        go_wp2
        go_ret
        exact ⟨rfl, hb⟩
      · have he' : ((en : Int) == 0) = false := by simpa using he
        obtain rfl : B = false := by rw [← HM.out]; simp [descOkM, he]
        clear HM he
        go_enter Try.func57, Try.ntmps57
        go_wp2
        go_ret
        exact ⟨rfl, HB0.out⟩
    · have hs' : (st == 0) = false := by simpa using hs
      obtain rfl : B = false := by rw [← HM.out]; simp [descOkM, hs]
      clear HM hs
      go_enter Try.func57, Try.ntmps57
      go_wp2
      go_ret
      exact ⟨rfl, HB0.out⟩
  · have hq' : (sq == 0) = false := by simpa using hq
    rcases hA : inB sq 1 1000000 with _ | _
    · obtain rfl : B = false := by rw [← HM.out]; simp [descOkM, hq, hA]
      have HA : Hid (inB sq 1 1000000 = false) := hA
      clear HM hA hq
      go_enter Try.func57, Try.ntmps57
      go_wp2_with fail
      refine (within_g sq 1 1000000 _).mono ?_
      rintro e w1 ⟨rfl, rfl⟩
      rw [HA.out]
      go_wp2
      go_ret
      exact ⟨rfl, HB0.out⟩
    · have HA : Hid (inB sq 1 1000000 = true) := hA
      rcases hS : inB st 1 3 with _ | _
      · obtain rfl : B = false := by rw [← HM.out]; simp [descOkM, hq, hS]
        have HS : Hid (inB st 1 3 = false) := hS
        clear HM hA hS hq
        go_enter Try.func57, Try.ntmps57
        go_wp2_with fail
        refine (within_g sq 1 1000000 _).mono ?_
        rintro e w1 ⟨rfl, rfl⟩
        rw [HA.out]
        go_wp2_with fail
        refine (within_g st 1 3 _).mono ?_
        rintro e w2 ⟨rfl, rfl⟩
        rw [HS.out]
        go_wp2
        go_ret
        exact ⟨rfl, HB0.out⟩
      · have HS : Hid (inB st 1 3 = true) := hS
        have HE : Hid (decide (∀ i, i < en → entOk es i) = B) := by show _ = _; rw [← HM.out]; simp [descOkM, hq, hA, hS]
        clear HM hA hS hq
        go_enter Try.func57, Try.ntmps57
        go_wp2_with fail
        refine (within_g sq 1 1000000 _).mono ?_
        rintro e w1 ⟨rfl, rfl⟩
        rw [HA.out]
        go_wp2_with fail
        refine (within_g st 1 3 _).mono ?_
        rintro e w2 ⟨rfl, rfl⟩
        rw [HS.out]
        go_wp2_with fail
        refine (entriesOk_any ea en ec es _ (H1.out.below HB0.out (Nat.le_refl _))).mono ?_
        rintro e w3 ⟨rfl, hb3⟩
        rw [HE.out]
        have hb : Below w.heap.size w w3 := HB0.out.trans (hb3.mono (by simp))
        clear hb3
        go_wp2
        go_ret
        exact ⟨rfl, hb⟩
end Go.Proofs.Ytbdfopokimpeiaq
