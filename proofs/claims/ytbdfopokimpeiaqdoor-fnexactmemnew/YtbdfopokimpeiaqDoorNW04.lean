/- Texts joined: ImplDesc, CutAt, ImplEntries, LaidBy, RegTail, ImplMem, ImplNew. -/
import Derived.Test.YtbdfopokimpeiaqDoorNW02
import Derived.Test.YtbdfopokimpeiaqDoorNW03
import Derived.Deep.RegionHeld3
/- impl.entriesOk and impl.DescOk, walked at any Desc. -/
namespace Go.Proofs.YtbdfopokimpeiaqDoor
open Go.ChangeShapes Go.WideShapes Go.ChangeAt Go.RowKit

set_option maxHeartbeats 1000000 in
theorem entriesOk_any (a : Option Addr) (n c : Nat) (es : List Int) (w : World) (h : TripAt w a n es) :
    Calls Tryd.prog 64 #[.slice a n c] w fun e w' => e = .returned (.bool (decide (∀ i, i < n → entOk es i))) ∧ Below w.heap.size w w' := by
  have HH : Hid (TripAt w a n es) := h
  have hn := h.2.1
  obtain ⟨B, hB⟩ : ∃ B, decide (∀ i, i < n → entOk es i) = B := ⟨_, rfl⟩
  rw [hB]
  have HB : Hid (decide (∀ i, i < n → entOk es i) = B) := hB
  clear h hB
  go_enter Tryd.func64, Tryd.ntmps64
  go_wp2
  go_loopw [3, 8] (fun l i wr => ∃ k : Nat, k ≤ n ∧ l = .int .i64 (leastE es k) ∧ i = .int .i64 (k : Int) ∧ (∀ i, i < k → entOk es i) ∧ Below w.heap.size w wr) (fun _ i _ => n - (intOf i).toNat)
  case atStart => exact ⟨0, Nat.zero_le _, rfl, rfl, fun i hi => by omega, Below.refl _ _⟩
  case round =>
    obtain ⟨k, hk, rfl, rfl, hok, hb⟩ := hrel
    have HOK : Hid (∀ i, i < k → entOk es i) := hok
    clear hok
    by_cases hlt : k < n
    · rcases (HH.out.below hb (Nat.le_refl _)).2.2 with h0 | ⟨p1, o1, rfl, g1⟩
      · omega
      have hk0 : (0 : Int) ≤ (k : Int) := by omega
      have hk1 : (k : Int) < (n : Int) := by omega
      have e1 := g1 (k * 3) (by omega)
      have e2 := g1 (k * 3 + 1) (by omega)
      have e3 := g1 (k * 3 + 2) (by omega)
      have HI : Hid (entOk es k ↔ (inB (es.getD (k * 3) 0) (leastE es k) 19 = true ∧ inB (es.getD (k * 3 + 1) 0) 0 1000 = true ∧ inB (es.getD (k * 3 + 2) 0) 0 1000 = true)) := entOk_iff HOK.out
      have hlo := leastE_ok HOK.out
      have HN : Hid (leastE es (k + 1) = es.getD (k * 3) 0 + 1) := by unfold leastE; rw [if_neg (by omega), Nat.add_sub_cancel]; exact rfl
      obtain ⟨x, hx⟩ : ∃ x, es.getD (k * 3) 0 = x := ⟨_, rfl⟩
      obtain ⟨y, hy⟩ : ∃ y, es.getD (k * 3 + 1) 0 = y := ⟨_, rfl⟩
      obtain ⟨z, hz⟩ : ∃ z, es.getD (k * 3 + 2) 0 = z := ⟨_, rfl⟩
      obtain ⟨l, hl⟩ : ∃ l, leastE es k = l := ⟨_, rfl⟩
      rw [hl] at hlo HI ⊢
      rw [hx] at e1 HI HN
      rw [hy, ← Nat.add_assoc] at e2
      rw [hy] at HI
      rw [hz, ← Nat.add_assoc] at e3
      rw [hz] at HI
      clear g1 hx hy hz hl
      have hbx : Below w.heap.size w (wr.alloc (.cells #[.int .i64 x, .int .i64 y, .int .i64 z] 62)) := hb.alloc hb.size _
      have HBX : Hid _ := hbx
      have NO : Hid (¬ entOk es k → B = false) := fun hno => by rw [← HB.out]; exact decide_eq_false fun hall => hno (hall k hlt)
      clear hbx
      rcases hA : inB x l 19 with _ | _
      · obtain rfl : B = false := NO.out fun h => by have := (HI.out.1 h).1; rw [hA] at this; cases this
        have HA : Hid (inB x l 19 = false) := hA
        clear hA HI NO HB
        go_wp2_with fail
        refine (within_g x l 19 _).mono ?_
        rintro e w1 ⟨rfl, rfl⟩
        rw [HA.out]
        go_wp2
        go_ret
        exact ⟨rfl, HBX.out⟩
      · have hx2 : l ≤ x ∧ x ≤ 19 := by unfold inB at hA; simpa using hA
        have HA : Hid (inB x l 19 = true) := hA
        rcases hO : inB y 0 1000 with _ | _
        · obtain rfl : B = false := NO.out fun h => by have := (HI.out.1 h).2.1; rw [hO] at this; cases this
          have HO : Hid (inB y 0 1000 = false) := hO
          clear hA hO HI NO HB
          go_wp2_with fail
          refine (within_g x l 19 _).mono ?_
          rintro e w1 ⟨rfl, rfl⟩
          rw [HA.out]
          go_wp2_with fail
          refine (within_g y 0 1000 _).mono ?_
          rintro e w2 ⟨rfl, rfl⟩
          rw [HO.out]
          go_wp2
          go_ret
          exact ⟨rfl, HBX.out⟩
        · have HO : Hid (inB y 0 1000 = true) := hO
          rcases hW : inB z 0 1000 with _ | _
          · obtain rfl : B = false := NO.out fun h => by have := (HI.out.1 h).2.2; rw [hW] at this; cases this
            have HW : Hid (inB z 0 1000 = false) := hW
            clear hA hO hW HI NO HB
            go_wp2_with fail
            refine (within_g x l 19 _).mono ?_
            rintro e w1 ⟨rfl, rfl⟩
            rw [HA.out]
            go_wp2_with fail
            refine (within_g y 0 1000 _).mono ?_
            rintro e w2 ⟨rfl, rfl⟩
            rw [HO.out]
            go_wp2_with fail
            refine (within_g z 0 1000 _).mono ?_
            rintro e w3 ⟨rfl, rfl⟩
            rw [HW.out]
            go_wp2
            go_ret
            exact ⟨rfl, HBX.out⟩
          · have HW : Hid (inB z 0 1000 = true) := hW
            have YES : Hid (entOk es k) := HI.out.2 ⟨hA, hO, hW⟩
            clear hA hO hW HI NO
            go_wp2_with fail
            refine (within_g x l 19 _).mono ?_
            rintro e w1 ⟨rfl, rfl⟩
            rw [HA.out]
            go_wp2_with fail
            refine (within_g y 0 1000 _).mono ?_
            rintro e w2 ⟨rfl, rfl⟩
            rw [HO.out]
            go_wp2_with fail
            refine (within_g z 0 1000 _).mono ?_
            rintro e w3 ⟨rfl, rfl⟩
            rw [HW.out]
            go_wp2
            exact ⟨⟨k + 1, by omega, by rw [HN.out], by go_num, fun i hi => by
              by_cases e : i = k
              · rw [e]; exact YES.out
              · exact HOK.out i (by omega), HBX.out⟩, by simp [intOf]; omega⟩
    · obtain rfl : k = n := by omega
      obtain rfl : B = true := by rw [← HB.out]; exact decide_eq_true HOK.out
      go_wp2
      go_ret
      exact ⟨rfl, hb⟩

set_option maxHeartbeats 1000000 in
theorem implDescOk_any (sq st : Int) (ea : Option Addr) (en ec : Nat) (es : List Int) (cd : Int) (ra : Option Addr) (rn rc : Nat) (rs : List Int) (w : World) (h1 : TripAt w ea en es) (h2 : IntAt w ra rn rs) :
    Calls Tryd.prog 47 #[DescV sq st ea en ec cd ra rn rc] w fun e w' => e = .returned (.bool (descOkM sq st en es cd rn)) ∧ Below w.heap.size w w' := by
  have H1 : Hid (TripAt w ea en es) := h1
  have H2 : Hid (IntAt w ra rn rs) := h2
  have HL : Hid (rs.length = rn) := h2.1
  have hb0 : Below w.heap.size w (w.alloc (.cells (DescC sq st ea en ec cd ra rn rc) 59)) := (Below.refl _ w).alloc (Nat.le_refl _) _
  have HB0 : Hid _ := hb0
  obtain ⟨B, hB⟩ : ∃ B, descOkM sq st en es cd rn = B := ⟨_, rfl⟩
  rw [hB]
  have HM : Hid (descOkM sq st en es cd rn = B) := hB
  clear h1 h2 hb0 hB
  by_cases hq : sq = 0
  · subst hq
    by_cases hs : st = 0
    · subst hs
      by_cases he : en = 0
      · subst he
        have HR : Hid (decide (cd = 0 ∧ rs = []) = B) := by
          show _ = _
          rw [← HM.out]
          unfold descOkM
          rw [if_pos rfl, decide_eq_decide, ← HL.out]
          simp
        clear HM
        go_enter Tryd.func47, Tryd.ntmps47
        go_wp2_with fail
        refine (implResSame_any ra none rn 0 rc 0 cd 0 rs [] _ (H2.out.below HB0.out (Nat.le_refl _)) ⟨rfl, by omega, .inl rfl⟩).mono ?_
        rintro e w1 ⟨rfl, hb1⟩
        rw [HR.out]
        have hb : Below w.heap.size w w1 := HB0.out.trans (hb1.mono (by simp))
        clear hb1
        go_wp2
        go_ret
        exact ⟨rfl, hb⟩
      · have he' : ((en : Int) == 0) = false := by simpa using he
        obtain rfl : B = false := by rw [← HM.out]; simp [descOkM, he]
        clear HM he
        go_enter Tryd.func47, Tryd.ntmps47
        go_wp2
        go_ret
        exact ⟨rfl, HB0.out⟩
    · have hs' : (st == 0) = false := by simpa using hs
      obtain rfl : B = false := by rw [← HM.out]; simp [descOkM, hs]
      clear HM hs
      go_enter Tryd.func47, Tryd.ntmps47
      go_wp2
      go_ret
      exact ⟨rfl, HB0.out⟩
  · have hq' : (sq == 0) = false := by simpa using hq
    rcases hA : inB sq 1 1000000 with _ | _
    · obtain rfl : B = false := by rw [← HM.out]; simp [descOkM, hq, hA]
      have HA : Hid (inB sq 1 1000000 = false) := hA
      clear HM hA hq
      go_enter Tryd.func47, Tryd.ntmps47
      go_wp2_with fail
      refine (within_g sq 1 1000000 _).mono ?_
      rintro e w1 ⟨rfl, rfl⟩
      rw [HA.out]
      go_wp2
      go_ret
      exact ⟨rfl, HB0.out⟩
    · have HA : Hid (inB sq 1 1000000 = true) := hA
      rcases hS : inB st 1 3 with _ | _
      · obtain rfl : B = false := by rw [← HM.out]; simp [descOkM, hq, hS]
        have HS : Hid (inB st 1 3 = false) := hS
        clear HM hA hS hq
        go_enter Tryd.func47, Tryd.ntmps47
        go_wp2_with fail
        refine (within_g sq 1 1000000 _).mono ?_
        rintro e w1 ⟨rfl, rfl⟩
        rw [HA.out]
        go_wp2_with fail
        refine (within_g st 1 3 _).mono ?_
        rintro e w2 ⟨rfl, rfl⟩
        rw [HS.out]
        go_wp2
        go_ret
        exact ⟨rfl, HB0.out⟩
      · have HS : Hid (inB st 1 3 = true) := hS
        have HE : Hid (decide (∀ i, i < en → entOk es i) = B) := by show _ = _; rw [← HM.out]; simp [descOkM, hq, hA, hS]
        clear HM hA hS hq
        go_enter Tryd.func47, Tryd.ntmps47
        go_wp2_with fail
        refine (within_g sq 1 1000000 _).mono ?_
        rintro e w1 ⟨rfl, rfl⟩
        rw [HA.out]
        go_wp2_with fail
        refine (within_g st 1 3 _).mono ?_
        rintro e w2 ⟨rfl, rfl⟩
        rw [HS.out]
        go_wp2_with fail
        refine (entriesOk_any ea en ec es _ (H1.out.below HB0.out (Nat.le_refl _))).mono ?_
        rintro e w3 ⟨rfl, hb3⟩
        rw [HE.out]
        have hb : Below w.heap.size w w3 := HB0.out.trans (hb3.mono (by simp))
        clear hb3
        go_wp2
        go_ret
        exact ⟨rfl, hb⟩
end Go.Proofs.YtbdfopokimpeiaqDoor

/- impl.cutAt (slices.IndexFunc with its function literal), walked. -/
namespace Go.Proofs.YtbdfopokimpeiaqDoor
open Go.ChangeShapes Go.WideShapes Go.ChangeAt Go.RowKit

set_option maxHeartbeats 1000000 in
set_option maxRecDepth 100000 in
theorem atClos_any (b : Nat) (x y z at_ : Int) (w : World) (hb : b < w.heap.size) (h1 : w.cell? ⟨b, 0, none⟩ = some (.int .i64 at_)) :
    Calls Tryd.prog 72 #[EntryV x y z, .pointer (some ⟨b, 0, none⟩)] w fun e w' => e = .returned (.bool (x == at_)) ∧ Below w.heap.size w w' := by
  go_enter Tryd.func72, Tryd.ntmps72
  go_wp2
  go_ret
  exact ⟨rfl, (Below.refl _ w).alloc (Nat.le_refl _) _⟩
/-- The function that cutAt makes: whether an entry is at the place that lies at b. -/
abbrev AtClos (b : Nat) : Value := .func (.func 72) #[] #[.pointer (some ⟨b, 0, none⟩)]
set_option maxHeartbeats 1000000 in
set_option maxRecDepth 100000 in
theorem indexAt_any (b : Nat) (at_ : Int) (a : Option Addr) (n c : Nat) (es : List Int) (w : World) (h : TripAt w a n es) (hb : b < w.heap.size) (h1 : w.cell? ⟨b, 0, none⟩ = some (.int .i64 at_)) :
    Calls Tryd.prog 71 #[.slice a n c, AtClos b] w fun e w' => e = .returned (.int .i64 (if idxE es n at_ < n then (idxE es n at_ : Int) else -1)) ∧ Below w.heap.size w w' := by
  have H : Hid (TripAt w a n es) := h
  have H1 : Hid (w.cell? ⟨b, 0, none⟩ = some (.int .i64 at_)) := h1
  have hn := h.2.1
  obtain ⟨r, hr⟩ : ∃ r : Int, (if idxE es n at_ < n then (idxE es n at_ : Int) else -1) = r := ⟨_, rfl⟩
  rw [hr]
  have HR : Hid ((if idxE es n at_ < n then (idxE es n at_ : Int) else -1) = r) := hr
  clear h h1 hr
  go_enter Tryd.func71, Tryd.ntmps71
  go_wp2
  go_loopw [8] (fun i wr => ∃ k : Nat, k ≤ n ∧ i = .int .i64 k ∧ (∀ i, i < k → es.getD (i * 3) 0 ≠ at_) ∧ Below w.heap.size w wr) (fun i _ => n - (intOf i).toNat)
  case atStart => exact ⟨0, Nat.zero_le _, rfl, fun i hi => by omega, Below.refl _ _⟩
  case round =>
    obtain ⟨k, hk, rfl, hno, hbr⟩ := hrel
    have HNO : Hid (∀ i, i < k → es.getD (i * 3) 0 ≠ at_) := hno
    clear hno
    by_cases hlt : k < n
    · rcases (H.out.below hbr (Nat.le_refl _)).2.2 with h0 | ⟨p1, o1, rfl, g1⟩
      · omega
      have hk0 : (0 : Int) ≤ (k : Int) := by omega
      have hk1 : (k : Int) < (n : Int) := by omega
      have e1 := g1 (k * 3) (by omega)
      have e2 := g1 (k * 3 + 1) (by omega)
      have e3 := g1 (k * 3 + 2) (by omega)
      obtain ⟨x, hx⟩ : ∃ x, es.getD (k * 3) 0 = x := ⟨_, rfl⟩
      obtain ⟨y, hy⟩ : ∃ y, es.getD (k * 3 + 1) 0 = y := ⟨_, rfl⟩
      obtain ⟨z, hz⟩ : ∃ z, es.getD (k * 3 + 2) 0 = z := ⟨_, rfl⟩
      have HX : Hid (es.getD (k * 3) 0 = x) := hx
      rw [hx] at e1
      rw [hy, ← Nat.add_assoc] at e2
      rw [hz, ← Nat.add_assoc] at e3
      clear g1 hx hy hz
      go_wp2_with fail
      have hlb : b < wr.heap.size := Nat.lt_of_lt_of_le hb hbr.size
      refine (atClos_any b x y z at_ _ hlb ((hbr.cell (show b < w.heap.size from hb)).trans H1.out)).mono ?_
      rintro e w1 ⟨rfl, hb1⟩
      have hb2 := hbr.trans (hb1.mono hbr.size)
      clear hb1 e1 e2 e3
      by_cases hxa : x = at_
      · rw [show (x == at_) = true by simpa using hxa]
        have HV : Hid ((k : Int) = r) := by
          show _ = _
          rw [← HR.out, idxE_eq (Nat.le_of_lt hlt) HNO.out fun _ => HX.out.trans hxa, if_pos hlt]
        clear hxa
        go_wp2
        go_ret
        exact ⟨by rw [← HV.out]; rfl, hb2⟩
      · rw [show (x == at_) = false by simpa using hxa]
        have HN : Hid (∀ i, i < k + 1 → es.getD (i * 3) 0 ≠ at_) := fun i hi => by
          by_cases e : i = k
          · rw [e, HX.out]; exact hxa
          · exact HNO.out i (by omega)
        clear hxa
        go_wp2
        exact ⟨⟨k + 1, by omega, by go_num, HN.out, hb2⟩, by simp [intOf]; omega⟩
    · obtain rfl : k = n := by omega
      have HV : Hid ((-1 : Int) = r) := by show _ = _; rw [← HR.out, idxE_eq (Nat.le_refl _) HNO.out fun h => by omega, if_neg (by omega)]
      go_wp2
      go_ret
      exact ⟨by rw [← HV.out]; rfl, hbr⟩
theorem idxE_le (es : List Int) (n : Nat) (at_ : Int) : idxE es n at_ ≤ n := by
  have : ∀ f k, idxF es at_ f k ≤ k + f := by
    intro f
    induction f with
    | zero => intro k; exact Nat.le_refl _
    | succ f ih => intro k; unfold idxF; split
                   · omega
                   · have := ih (k + 1); omega
  have h := this n 0
  unfold idxE
  omega
set_option maxHeartbeats 1000000 in
theorem cutAt_none (at_ : Int) (a : Option Addr) (n c : Nat) (es : List Int) (w : World) (h : TripAt w a n es) (hk : ¬ idxE es n at_ < n) :
    Calls Tryd.prog 69 #[.slice a n c, .int .i64 at_] w fun e w' => e = .returned (.slice none 0 0) ∧ Below w.heap.size w w' := by
  have H : Hid (TripAt w a n es) := h
  have hb0 : Below w.heap.size w (w.alloc (.cells #[.int .i64 at_] 3)) := (Below.refl _ w).alloc (Nat.le_refl _) _
  have HB0 : Hid _ := hb0
  have HK : Hid (¬ idxE es n at_ < n) := hk
  clear h hb0 hk
  go_enter Tryd.func69, Tryd.ntmps69
  go_wp2_with fail
  refine (indexAt_any _ at_ a n c es _ (H.out.below HB0.out (Nat.le_refl _)) (by simp) (by simp)).mono ?_
  rintro e w1 ⟨rfl, hb1⟩
  rw [if_neg HK.out]
  have hb : Below w.heap.size w w1 := HB0.out.trans (hb1.mono (by simp))
  clear hb1
  go_wp2
  go_ret
  exact ⟨rfl, hb⟩
set_option maxHeartbeats 1000000 in
theorem cutAt_some (at_ : Int) (b o : Nat) (n c k : Nat) (es : List Int) (w : World) (h : TripAt w (some ⟨b, o, none⟩) n es) (hc : n ≤ c) (hk : idxE es n at_ = k) (hlt : k < n) :
    Calls Tryd.prog 69 #[.slice (some ⟨b, o, none⟩) n c, .int .i64 at_] w fun e w' => e = .returned (.slice (some ⟨b, o + k * 3, none⟩) 1 1) ∧ Below w.heap.size w w' := by
  have H : Hid (TripAt w (some ⟨b, o, none⟩) n es) := h
  have hn := h.2.1
  have hb0 : Below w.heap.size w (w.alloc (.cells #[.int .i64 at_] 3)) := (Below.refl _ w).alloc (Nat.le_refl _) _
  have HB0 : Hid _ := hb0
  have HK : Hid (idxE es n at_ = k) := hk
  clear h hb0 hk
  go_enter Tryd.func69, Tryd.ntmps69
  go_wp2_with fail
  refine (indexAt_any _ at_ _ n c es _ (H.out.below HB0.out (Nat.le_refl _)) (by simp) (by simp)).mono ?_
  rintro e w1 ⟨rfl, hb1⟩
  rw [HK.out, if_pos hlt]
  have hb : Below w.heap.size w w1 := HB0.out.trans (hb1.mono (by simp))
  have k0 : (0 : Int) ≤ (k : Int) := by omega
  have k1 : ¬ (k : Int) < 0 := by omega
  have k2 : (k : Int) + 1 ≤ (c : Int) := by omega
  have k3 : (k : Int) < (c : Int) := by omega
  clear hb1
  go_wp2
  go_ret
  refine ⟨?_, hb⟩
  rfl
end Go.Proofs.YtbdfopokimpeiaqDoor

/- impl.Entries, walked. -/
namespace Go.Proofs.YtbdfopokimpeiaqDoor
open Go.ChangeShapes Go.WideShapes Go.ChangeAt Go.RowKit

set_option maxHeartbeats 1000000 in
theorem implEntries_any (sq st : Int) (ea : Option Addr) (en ec : Nat) (es : List Int) (cd : Int) (ra : Option Addr) (rn rc : Nat) (at_ : Int) (w : World) (h1 : TripAt w ea en es) (hc : en ≤ ec) :
    Calls Tryd.prog 65 #[DescV sq st ea en ec cd ra rn rc, .int .i64 at_] w fun e w' => e = .returned (.tuple #[EntryV (entM es en at_).1 (entM es en at_).2.1 (entM es en at_).2.2.1, .bool (entM es en at_).2.2.2]) ∧ Below w.heap.size w w' := by
  have H1 : Hid (TripAt w ea en es) := h1
  have hn := h1.2.1
  obtain ⟨r, hr⟩ : ∃ r, entM es en at_ = r := ⟨_, rfl⟩
  rw [hr]
  have HR : Hid (entM es en at_ = r) := hr
  have HB0 : Hid (Below w.heap.size w ((w.alloc (.cells (DescC sq st ea en ec cd ra rn rc) 59)).alloc (.cells #[.int .i64 0, .int .i64 0, .int .i64 0] 62))) := ((Below.refl _ w).alloc (Nat.le_refl _) _).alloc (by simp) _
  have B1 : Hid (Box ((w.alloc (.cells (DescC sq st ea en ec cd ra rn rc) 59)).alloc (.cells #[.int .i64 0, .int .i64 0, .int .i64 0] 62)) (w.heap.size + 1) #[.int .i64 0, .int .i64 0, .int .i64 0] 62) := by
    have := box_of (w.alloc (.cells (DescC sq st ea en ec cd ra rn rc) 59)) #[.int .i64 0, .int .i64 0, .int .i64 0] 62
    simp at this
    exact this
  clear h1 hr
  by_cases hk : idxE es en at_ < en
  · rcases H1.out.2.2 with h0 | ⟨p1, o1, rfl, g0⟩
    · omega
    obtain ⟨k, hK⟩ : ∃ k, idxE es en at_ = k := ⟨_, rfl⟩
    have HK : Hid (idxE es en at_ = k) := hK
    have HV : Hid (r = (es.getD (k * 3) 0, es.getD (k * 3 + 1) 0, es.getD (k * 3 + 2) 0, true)) := by show _ = _; rw [← HR.out, entM_yes hK (hK ▸ hk)]
    have hlt : k < en := hK ▸ hk
    clear hk hK g0
    go_enter Tryd.func65, Tryd.ntmps65
    go_wp2_with fail
    refine (cutAt_some at_ p1 o1 en ec k es _ (H1.out.below HB0.out (Nat.le_refl _)) hc HK.out hlt).mono ?_
    rintro e w1 ⟨rfl, hb1⟩
    have hb : Below w.heap.size w w1 := HB0.out.trans (hb1.mono (by simp; omega))
    have B1' : Hid (Box w1 (w.heap.size + 1) #[.int .i64 0, .int .i64 0, .int .i64 0] 62) := B1.out.below hb1 (by simp)
    obtain ⟨y0, y1, y2, f0, f1, f2⟩ := B1'.out.three
    rcases (H1.out.below hb (Nat.le_refl _)).2.2 with h0 | ⟨p1', o1', e0, g1⟩
    · omega
    cases e0
    have e1 := g1 (k * 3) (by omega)
    have e2 := g1 (k * 3 + 1) (by omega)
    have e3 := g1 (k * 3 + 2) (by omega)
    obtain ⟨x, hx⟩ : ∃ x, es.getD (k * 3) 0 = x := ⟨_, rfl⟩
    obtain ⟨y, hy⟩ : ∃ y, es.getD (k * 3 + 1) 0 = y := ⟨_, rfl⟩
    obtain ⟨z, hz⟩ : ∃ z, es.getD (k * 3 + 2) 0 = z := ⟨_, rfl⟩
    rw [hx, hy, hz] at HV
    rw [hx] at e1
    rw [hy, ← Nat.add_assoc] at e2
    rw [hz, ← Nat.add_assoc] at e3
    clear g1 hx hy hz hb1
    go_wp2
    (try simp only [Exit.inBlock, Exit.then])
    refine bodyPost_ret (v := .tuple #[EntryV x y z, .bool true]) (by simp [results, Tryd.results65, go_sem, y0, y1, y2]; try rfl) rfl ?_
    exact ⟨by rw [HV.out], ((hb.setCell (by simp) _).setCell (by simp) _).setCell (by simp) _⟩
  · have HK : Hid (¬ idxE es en at_ < en) := hk
    have HV : Hid (r = (0, 0, 0, false)) := by show _ = _; rw [← HR.out]; unfold entM; rw [if_neg hk]
    clear hk
    go_enter Tryd.func65, Tryd.ntmps65
    go_wp2_with fail
    refine (cutAt_none at_ ea en ec es _ (H1.out.below HB0.out (Nat.le_refl _)) HK.out).mono ?_
    rintro e w1 ⟨rfl, hb1⟩
    have hb : Below w.heap.size w w1 := HB0.out.trans (hb1.mono (by simp; omega))
    have B1' : Hid (Box w1 (w.heap.size + 1) #[.int .i64 0, .int .i64 0, .int .i64 0] 62) := B1.out.below hb1 (by simp)
    obtain ⟨y0, y1, y2, f0, f1, f2⟩ := B1'.out.three
    clear hb1
    go_wp2
    (try simp only [Exit.inBlock, Exit.then])
    refine bodyPost_ret (v := .tuple #[EntryV 0 0 0, .bool false]) (by simp [results, Tryd.results65, go_sem, y0, y1, y2]; try rfl) rfl ?_
    refine ⟨by rw [HV.out], ?_⟩
    first
      | exact ((hb.setCell (by simp) _).setCell (by simp) _).setCell (by simp) _
      | exact hb
end Go.Proofs.YtbdfopokimpeiaqDoor

/- impl.laidBy, walked. -/
namespace Go.Proofs.YtbdfopokimpeiaqDoor
open Go.ChangeShapes Go.WideShapes Go.ChangeAt Go.RowKit

set_option maxHeartbeats 1000000 in
theorem laidBy_any (sq st : Int) (ea : Option Addr) (en ec : Nat) (es : List Int) (cd : Int) (ra : Option Addr) (rn rc : Nat) (x t s at_ : Int) (w : World) (h1 : TripAt w ea en es) (hc : en ≤ ec) :
    Calls Tryd.prog 50 #[DescV sq st ea en ec cd ra rn rc, WordV x t s, .int .i64 at_] w fun e w' => e = .returned (.bool ((entM es en at_).2.2.2 && sq == s)) ∧ Below w.heap.size w w' := by
  obtain ⟨W, hW⟩ : ∃ W, ((w.alloc (.cells (DescC sq st ea en ec cd ra rn rc) 59)).alloc (.cells #[.int .i64 x, .int .i64 t, .int .i64 s] 42)) = W := ⟨_, rfl⟩
  have hb1 : Below w.heap.size w (w.alloc (.cells (DescC sq st ea en ec cd ra rn rc) 59)) := (Below.refl _ w).alloc (Nat.le_refl _) _
  have hb2 : Below (w.alloc (.cells (DescC sq st ea en ec cd ra rn rc) 59)).heap.size (w.alloc (.cells (DescC sq st ea en ec cd ra rn rc) 59)) W := by rw [← hW]; exact (Below.refl _ _).alloc (Nat.le_refl _) _
  have hb0 : Below w.heap.size w W := hb1.trans (hb2.mono hb1.size)
  have BD : Hid (Box W w.heap.size (DescC sq st ea en ec cd ra rn rc) 59) := (box_of w _ _).below hb2 (by simp)
  have BW : Hid (Box W (w.heap.size + 1) #[.int .i64 x, .int .i64 t, .int .i64 s] 42) := by
    have := box_of (w.alloc (.cells (DescC sq st ea en ec cd ra rn rc) 59)) #[.int .i64 x, .int .i64 t, .int .i64 s] 42
    rw [hW] at this
    show Box _ _ _ _
    simpa using this
  have H1 : Hid (TripAt W ea en es) := h1.below hb0 (Nat.le_refl _)
  have HB0 : Hid (Below w.heap.size w W) := hb0
  have HW : Hid (((w.alloc (.cells (DescC sq st ea en ec cd ra rn rc) 59)).alloc (.cells #[.int .i64 x, .int .i64 t, .int .i64 s] 42)) = W) := hW
  obtain ⟨r, hr⟩ : ∃ r, entM es en at_ = r := ⟨_, rfl⟩
  have HR : Hid (entM es en at_ = r) := hr
  rw [hr]
  obtain ⟨r0, r1, r2, r3⟩ := r
  clear h1 hW hb0 hb1 hb2 hr
  go_enter Tryd.func50, Tryd.ntmps50
  go_wp2_with fail
  rw [HW.out]
  refine (implEntries_any sq st ea en ec es cd ra rn rc at_ _ H1.out hc).mono ?_
  rintro e w1 ⟨rfl, hb1⟩
  rw [HR.out]
  dsimp only
  have HB1 : Hid (Below w.heap.size w w1) := HB0.out.trans (hb1.mono HB0.out.size)
  have HB2 : Hid (Below w.heap.size w (w1.alloc (.cells #[.int .i64 r0, .int .i64 r1, .int .i64 r2] 62))) := HB1.out.alloc HB1.out.size _
  have d0 := (BD.out.below hb1 BD.out.lt).cell 0
  obtain ⟨_, _, x2, _, _, _⟩ := (BW.out.below hb1 BW.out.lt).three
  have l1 := (BD.out.below hb1 BD.out.lt).lt
  have l2 := (BW.out.below hb1 BW.out.lt).lt
  simp only [DescC, List.getElem?_toArray, List.getElem?_cons_zero] at d0
  clear hb1 BD BW H1 HB0 HW HR
  rcases r3 with _ | _
  · go_wp2
    go_ret
    exact ⟨rfl, HB2.out⟩
  · go_wp2
    go_ret
    exact ⟨by simp, HB2.out⟩
end Go.Proofs.YtbdfopokimpeiaqDoor

/- A region that draws its order, from the point on at which no more is asked of the world: all that is left is not wanted, or is moved about in the frame. -/
namespace Go.Proofs.YtbdfopokimpeiaqDoor

/-- What an operation that only moves values about yields. -/
def pureVal (a : Act) : Op → Option Value
  | .move x => some (a.eval x)
  | .assign x => some (a.eval x)
  | .pick c x y => match a.eval c with
    | .bool true => some (a.eval x)
    | .bool false => some (a.eval y)
    | _ => none
  | _ => none
theorem pureVal_run {P : Program} {a : Act} {o : Oper} {v : Value} (h : pureVal a o.op = some v) (w : World) : (execOp a.eval o).run P w = .ok (.value v) w := by
  obtain ⟨dst, op, ty, pos, after, guard⟩ := o
  cases op <;> first | (simp only [pureVal] at h; cases h; done) | skip
  case move x => simp only [pureVal, Option.some.injEq] at h; subst h; simp [execOp, go_sem]
  case assign x => simp only [pureVal, Option.some.injEq] at h; subst h; simp [execOp, go_sem]
  case pick c x y =>
    simp only [pureVal] at h
    split at h
    · rename_i hc; simp only [Option.some.injEq] at h; subst h; simp only [execOp, hc]; rfl
    · rename_i hc; simp only [Option.some.injEq] at h; subst h; simp only [execOp, hc]; rfl
    · cases h
/-- What comes of one operation: nothing, where it is not wanted. -/
def tailVal (ops : Array Oper) (a : Act) (o : Oper) : Option Value := if Region.wanted o (yielded ops a.tmps) = true then pureVal a o.op else some undef
/-- The operations U, one behind the other. -/
def tailA (ops : Array Oper) : List Nat → Act → Act
  | [], a => a
  | i :: U, a => match ops[i]? with
    | some o => match tailVal ops a o with
      | some v => tailA ops U (a.put o.dst v)
      | none => a
    | none => a
def tailL : List Nat → Array Bool → Array Bool
  | [], L => L
  | i :: U, L => tailL U (L.setIfInBounds i true)
def tailB (md : Region.Mode) (ops : Array Oper) : List Nat → Array Bool → Act → Bool
  | [], _, _ => true
  | i :: U, L, a => match ops[i]? with
    | some o => match tailVal ops a o with
      | some v => Region.free md ops L i && (Region.ready md ops L).contains i && tailB md ops U (L.setIfInBounds i true) (a.put o.dst v)
      | none => false
    | none => false
theorem wpAnyH_tail {P : Program} {md : Region.Mode} {ops : Array Oper} {Q : Exit → Act → World → Prop} {S : World → Prop} (hs : Region.noSelect ops = true)
    (hQ : ∀ c (a : Act) (d : Option Tmp) (v : Value) w, Q (.panic c) (a.put d v) w → Q (.panic c) a w) {w : World} (hS : S w) :
    ∀ (U : List Nat) (fuel : Nat) (L : Array Bool) (a : Act), tailB md ops U L a = true → wpAnyH P md ops Q S fuel (tailL U L) (tailA ops U a) w → wpAnyH P md ops Q S (fuel + U.length) L a w
  | [], fuel, L, a, _, h => h
  | i :: U, fuel, L, a, hb, h => by
    unfold tailB at hb
    unfold tailA tailL at h
    cases ho : ops[i]? with
    | none => rw [ho] at hb; cases hb
    | some o =>
      rw [ho] at hb h
      dsimp only at hb h
      cases hv : tailVal ops a o with
      | none => rw [hv] at hb; cases hb
      | some v =>
        rw [hv] at hb h
        dsimp only at hb h
        simp only [Bool.and_eq_true] at hb
        obtain ⟨⟨h1, h2⟩, h3⟩ := hb
        have hy : YieldsIf P ops S o v a := by
          unfold tailVal at hv
          by_cases hw : Region.wanted o (yielded ops a.tmps) = true
          · rw [if_pos hw] at hv; exact .inl ⟨hw, fun w _ => pureVal_run hv w⟩
          · rw [if_neg hw] at hv; cases hv; exact .inr ⟨by simpa using hw, rfl⟩
        exact wpAnyH_take ho hs h1 h2 (fun c a' w' => hQ c a' _ _ w') hy hS (wpAnyH_tail hs hQ hS U fuel _ _ h3 h)
/-- .. and that is all. -/
theorem wpAnyH_end {P : Program} {md : Region.Mode} {ops : Array Oper} {Q : Exit → Act → World → Prop} {S : World → Prop} {w : World} (hS : S w) (U : List Nat) {L : Array Bool} {a : Act} (a' : Act)
    (hb : tailB md ops U L a = true) (ha : tailA ops U a = a') (hs : Region.noSelect ops = true) (hr : Region.ready md ops (tailL U L) = [])
    (hQ : ∀ c (a : Act) (d : Option Tmp) (v : Value) w, Q (.panic c) (a.put d v) w → Q (.panic c) a w) (h : Q .normal a' w) : wpAnyH P md ops Q S (0 + U.length) L a w :=
  wpAnyH_tail hs hQ hS U 0 L a hb (wpAnyH_done hr (ha ▸ h) _)
/-- .. and it goes on. -/
theorem wpAnyH_mid {P : Program} {md : Region.Mode} {ops : Array Oper} {Q : Exit → Act → World → Prop} {S : World → Prop} {w : World} (hS : S w) (U : List Nat) (fuel : Nat) {L : Array Bool} {a : Act}
    (hb : tailB md ops U L a = true) (hs : Region.noSelect ops = true)
    (hQ : ∀ c (a : Act) (d : Option Tmp) (v : Value) w, Q (.panic c) (a.put d v) w → Q (.panic c) a w) (h : wpAnyH P md ops Q S fuel (tailL U L) (tailA ops U a) w) : wpAnyH P md ops Q S (fuel + U.length) L a w :=
  wpAnyH_tail hs hQ hS U fuel L a hb h
end Go.Proofs.YtbdfopokimpeiaqDoor

/- impl.MemOk, walked at any words and Descs. -/
namespace Go.Proofs.YtbdfopokimpeiaqDoor
open Go.ChangeShapes Go.WideShapes Go.ChangeAt Go.RowKit

/-- The operations of the region that asks a word. -/
noncomputable def memL : List Oper := match Tryd.f20.body with
  | some (.seq _ (.seq _ (.seq _ (.seq (.seq _ (.block _ (.loop (.seq _ (.seq _ (.seq (.block _ (.seq _ (.seq (.region _ ops _) _))) _)))))) _)))) => ops.toList
  | _ => []

set_option maxHeartbeats 8000000 in
set_option maxRecDepth 100000 in
theorem implMemOk_any (wa : Option Addr) (m wc : Nat) (fs : List Int) (da : Option Addr) (n dc : Nat) (ds : List DK) (w : World) (h1 : TripAt w wa m fs) (h2 : DescAt w da n ds) (h3 : CapAt w da n ds) :
    Calls Tryd.prog 20 #[MemV wa m wc da n dc] w fun e w' => ∃ ok, (e = .returned (.bool ok) ∧ (ok = true ↔ MemGood fs m ds)) ∧ Below w.heap.size w w' := by
  have hm := h1.2.1
  have hn := h2.2.1
  have HL : Hid (ds.length = n) := h2.1
  obtain ⟨W, hW⟩ : ∃ W, w.alloc (.cells #[.slice wa m wc, .slice da n dc] 29) = W := ⟨_, rfl⟩
  have hb0 : Below w.heap.size w W := by rw [← hW]; exact (Below.refl _ w).alloc (Nat.le_refl _) _
  have BX : Hid (Box W w.heap.size #[.slice wa m wc, .slice da n dc] 29) := by rw [← hW]; exact box_of w _ _
  have H1 : Hid (TripAt W wa m fs) := h1.below hb0 (Nat.le_refl _)
  have H2 : Hid (DescAt W da n ds) := h2.below hb0 (Nat.le_refl _)
  have H3 : Hid (CapAt W da n ds) := h3.below hb0 (Nat.le_refl _)
  have HB0 : Hid (Below w.heap.size w W) := hb0
  have HW : Hid (w.alloc (.cells #[.slice wa m wc, .slice da n dc] 29) = W) := hW
  clear h1 h2 h3 hW hb0
  by_cases hm20 : m = 20
  case neg =>
    have hne : ((m : Int) != 20) = true := by simp; omega
    have HNO : Hid (¬ MemGood fs m ds) := fun h => hm20 h.1
    clear hm20
    go_enter Tryd.func20, Tryd.ntmps20
    go_wp2
    go_ret
    exact ⟨false, ⟨rfl, by simp [HNO.out]⟩, by rw [HW.out]; exact HB0.out⟩
  subst hm20
  rcases hI : inB (n : Int) 1 4 with _ | _
  · have HI : Hid (inB (n : Int) 1 4 = false) := hI
    have HNO : Hid (¬ MemGood fs 20 ds) := fun h => by
      have h2 := h.2.1
      rw [HL.out] at h2
      rw [inB_yes (by omega)] at hI
      cases hI
    clear hI
    go_enter Tryd.func20, Tryd.ntmps20
    go_wp2_with fail
    refine (within_g _ 1 4 _).mono ?_
    rintro e w1 ⟨rfl, rfl⟩
    rw [HI.out]
    go_wp2
    go_ret
    exact ⟨false, ⟨rfl, by simp [HNO.out]⟩, by rw [HW.out]; exact HB0.out⟩
  have hn4 := inB_val hI
  have HI : Hid (inB (n : Int) 1 4 = true) := hI
  clear hI
  go_enter Tryd.func20, Tryd.ntmps20
  go_wp2_with fail
  refine (within_g _ 1 4 _).mono ?_
  rintro e w1 ⟨rfl, hw1⟩
  rw [HI.out]
  obtain rfl : W = w1 := by rw [hw1]; exact HW.out.symm
  clear hw1
  have c00 := BX.out.cell 0
  have c01 := BX.out.cell 1
  simp only [List.getElem?_toArray, List.getElem?_cons_zero, List.getElem?_cons_succ] at c00 c01
  go_wp2
  clear c00 c01
  go_loopw [21] (fun i wr => ∃ k : Nat, k ≤ n ∧ i = .int .i64 (k : Int) ∧ (∀ i, i < k → DescGood (dk ds i)) ∧ Below W.heap.size W wr) (fun i _ => n - (intOf i).toNat)
  case atStart => exact ⟨0, Nat.zero_le _, rfl, fun i h => by omega, Below.refl _ _⟩
  case round =>
    obtain ⟨k, hk, rfl, hall, hb⟩ := hrel
    have HALL : Hid (∀ i, i < k → DescGood (dk ds i)) := hall
    have HB : Hid (Below W.heap.size W wr) := hb
    clear hall hb
    by_cases hlt : k < n
    · have hk0 : (0 : Int) ≤ (k : Int) := by omega
      have hk1 : (k : Int) < (n : Int) := by omega
      rcases (H2.out.below HB.out (Nat.le_refl _)).2.2 with h0 | ⟨q1, o2, rfl, g2⟩
      · omega
      obtain ⟨ea, ec, ra, rc, h5, h6, h7⟩ := g2 k hlt
      obtain ⟨f0, f1, f2, f3, f4⟩ := h5
      obtain ⟨D, hD⟩ : ∃ D, dk ds k = D := ⟨_, rfl⟩
      have HD : Hid (dk ds k = D) := hD
      rw [hD] at h6 h7 f0 f1 f2 f3 f4
      obtain ⟨dsq, dst, den, des, dcd, drn, drs⟩ := D
      dsimp only at h6 h7 f0 f1 f2 f3 f4
      obtain ⟨Wd, hWd⟩ : ∃ Wd, wr.alloc (.cells (DescC dsq dst ea den ec dcd ra drn rc) 59) = Wd := ⟨_, rfl⟩
      have bd : Below wr.heap.size wr Wd := by rw [← hWd]; exact (Below.refl _ _).alloc (Nat.le_refl _) _
      have HWd : Hid (wr.alloc (.cells (DescC dsq dst ea den ec dcd ra drn rc) 59) = Wd) := hWd
      have H6 : Hid (TripAt Wd ea den des) := h6.below bd (Nat.le_refl _)
      have H7 : Hid (IntAt Wd ra drn drs) := h7.below bd (Nat.le_refl _)
      have HBd : Hid (Below W.heap.size W Wd) := HB.out.trans (bd.mono HB.out.size)
      clear g2 h6 h7 hD hWd bd
      go_wp2_with fail
      rw [HWd.out]
      refine (implDescOk_any dsq dst ea den ec des dcd ra drn rc drs _ H6.out H7.out).mono ?_
      rintro e w2 ⟨rfl, hb2⟩
      have HB2 : Hid (Below W.heap.size W w2) := HBd.out.trans (hb2.mono HBd.out.size)
      clear hb2 f0 f1 f2 f3 f4 H6 H7 HWd HBd
      rcases hok : descOkM dsq dst den des dcd drn with _ | _
      · have HNO : Hid (¬ MemGood fs 20 ds) := fun h => by
          have h3 := h.2.2.1 k (by rw [HL.out]; exact hlt)
          rw [HD.out] at h3
          unfold DescGood at h3
          rw [hok] at h3
          cases h3
        clear hok
        go_wp2
        go_ret
        exact ⟨false, ⟨rfl, by simp [HNO.out]⟩, HB0.out.trans (HB2.out.mono HB0.out.size)⟩
      · have HOK : Hid (DescGood (dk ds k)) := by show DescGood _; rw [HD.out]; exact hok
        clear hok
        go_wp2
        exact ⟨⟨k + 1, by omega, by go_num, fun i hi => by
          by_cases e : i = k
          · rw [e]; exact HOK.out
          · exact HALL.out i (by omega), HB2.out⟩, by simp [intOf]; omega⟩
    · obtain rfl : k = n := by omega
      have HDS : Hid (∀ i, i < ds.length → DescGood (dk ds i)) := by show ∀ i, _; rw [HL.out]; exact HALL.out
      have BR : Hid (Box wr w.heap.size #[.slice wa 20 wc, .slice da k dc] 29) := BX.out.below HB.out BX.out.lt
      have c0 := BR.out.cell 0
      have c1 := BR.out.cell 1
      simp only [List.getElem?_toArray, List.getElem?_cons_zero, List.getElem?_cons_succ] at c0 c1
      clear HALL
      go_wp2
      clear c0 c1 BR
      go_loopw [32] (fun i wr => ∃ k : Nat, k ≤ 20 ∧ i = .int .i64 (k : Int) ∧ (∀ i, i < k → WordGood fs ds i) ∧ Below W.heap.size W wr) (fun i _ => 20 - (intOf i).toNat)
      case atStart => exact ⟨0, Nat.zero_le _, rfl, fun i h => by omega, HB.out⟩
      case round =>
        obtain ⟨i, hi, rfl, hall, hb⟩ := hrel
        clear HB
        have HALL : Hid (∀ j, j < i → WordGood fs ds j) := hall
        have HB : Hid (Below W.heap.size W wr) := hb
        clear hall hb
        by_cases hli : i < 20
        · have hi0 : (0 : Int) ≤ (i : Int) := by omega
          have hi1 : (i : Int) < 20 := by omega
          rcases (H1.out.below HB.out (Nat.le_refl _)).2.2 with h0 | ⟨p1, o1, rfl, g1⟩
          · omega
          have e1 := g1 (i * 3) (by omega)
          have e2 := g1 (i * 3 + 1) (by omega)
          have e3 := g1 (i * 3 + 2) (by omega)
          have HWG : Hid (WordGood fs ds i ↔ (wordOkM (fs.getD (i * 3) 0) (fs.getD (i * 3 + 1) 0) (fs.getD (i * 3 + 2) 0) k = true ∧ (0 < fs.getD (i * 3 + 1) 0 → (entM (dk ds (fs.getD (i * 3 + 1) 0 - 1).toNat).es (dk ds (fs.getD (i * 3 + 1) 0 - 1).toNat).en i).2.2.2 = true ∧ (dk ds (fs.getD (i * 3 + 1) 0 - 1).toNat).sq = fs.getD (i * 3 + 2) 0))) := by
            show _ ↔ _
            unfold WordGood
            rw [HL.out]
          obtain ⟨x, hx⟩ : ∃ x, fs.getD (i * 3) 0 = x := ⟨_, rfl⟩
          obtain ⟨t, ht⟩ : ∃ y, fs.getD (i * 3 + 1) 0 = y := ⟨_, rfl⟩
          obtain ⟨s, hs⟩ : ∃ z, fs.getD (i * 3 + 2) 0 = z := ⟨_, rfl⟩
          rw [hx, ht, hs] at HWG
          rw [hx] at e1
          rw [ht, ← Nat.add_assoc] at e2
          rw [hs, ← Nat.add_assoc] at e3
          have HNG : Hid (¬ WordGood fs ds i → ¬ MemGood fs 20 ds) := fun h g => h (g.2.2.2 i hli)
          have HYG : Hid (WordGood fs ds i → ∀ j, j < i + 1 → WordGood fs ds j) := fun h j hj => by
            by_cases e : j = i
            · rw [e]; exact h
            · exact HALL.out j (by omega)
          clear g1 hx ht hs
          obtain ⟨w3, hw3⟩ : ∃ w3, (wr.alloc (.cells #[.int .i64 x, .int .i64 t, .int .i64 s] 42)).drew = w3 := ⟨_, rfl⟩
          have hb23 : Below wr.heap.size wr w3 := by rw [← hw3]; exact ((Below.refl _ _).alloc (Nat.le_refl _) _).drew
          have hx3 : Below (wr.alloc (.cells #[.int .i64 x, .int .i64 t, .int .i64 s] 42)).heap.size (wr.alloc (.cells #[.int .i64 x, .int .i64 t, .int .i64 s] 42)) w3 := by rw [← hw3]; exact (Below.refl _ _).drew
          have HB3 : Hid (Below W.heap.size W w3) := HB.out.trans (hb23.mono HB.out.size)
          have X3 : Hid (Box w3 wr.heap.size #[.int .i64 x, .int .i64 t, .int .i64 s] 42) := (box_of wr _ _).below hx3 (by simp)
          have B3 : Hid (Box w3 w.heap.size #[.slice (some ⟨p1, o1, none⟩) 20 wc, .slice da k dc] 29) := (BX.out.below HB.out BX.out.lt).below hb23 (BX.out.below HB.out BX.out.lt).lt
          have HW3 : Hid ((wr.alloc (.cells #[.int .i64 x, .int .i64 t, .int .i64 s] 42)).drew = w3) := hw3
          clear hb23 hx3 hw3
          rcases hok : wordOkM x t s (k : Int) with _ | _
          · have HNO : Hid (¬ MemGood fs 20 ds) := HNG.out (fun h => by
              have := (HWG.out.1 h).1
              rw [hok] at this
              cases this)
            have HOK : Hid (wordOkM x t s (k : Int) = false) := hok
            clear hok HNG HYG
            go_wp2_with fail
            change (Code.region _ (List.toArray memL) true).wp _ _ _ _
            refine wp_region_held_drew (S := fun w' => (w'.cell? ⟨w.heap.size, 0, none⟩ = some (.slice (some ⟨p1, o1, none⟩) 20 wc) ∧ w'.cell? ⟨w.heap.size, 1, none⟩ = some (.slice da k dc)) ∧ w'.cell? ⟨wr.heap.size, 0, none⟩ = some (.int .i64 x) ∧ w'.cell? ⟨wr.heap.size, 1, none⟩ = some (.int .i64 t) ∧ w'.cell? ⟨wr.heap.size, 2, none⟩ = some (.int .i64 s)) (by kernel_rfl) ?_ (fun hHeld => ?_)
            · rw [HW3.out]; exact ⟨⟨B3.out.two.1, B3.out.two.2.1⟩, X3.out.three.1, X3.out.three.2.1, X3.out.three.2.2.1⟩
            rw [HW3.out] at hHeld ⊢
            refine wpAnyH_take (i := 0) (oi := _) (v := WordV x t s) (by rw [List.getElem?_toArray]; exact rfl) (by kernel_rfl) (by kernel_rfl) (by kernel_rfl) (by intro _ _ _ h; exact h) (Or.inl ⟨by kernel_rfl, ?_⟩) hHeld ?_
            · intro w hSw; obtain ⟨⟨s1, s2⟩, s3, s4, s5⟩ := hSw; go_simp
            simp only [Act.put, List.setIfInBounds_toArray, List.set_cons_zero, List.set_cons_succ]
            refine wpAnyH_take (i := 1) (oi := _) (v := .pointer (some ⟨w.heap.size, 1, none⟩)) (by rw [List.getElem?_toArray]; exact rfl) (by kernel_rfl) (by kernel_rfl) (by kernel_rfl) (by intro _ _ _ h; exact h) (Or.inl ⟨by kernel_rfl, ?_⟩) hHeld ?_
            · intro w hSw; obtain ⟨⟨s1, s2⟩, s3, s4, s5⟩ := hSw; go_simp
            simp only [Act.put, List.setIfInBounds_toArray, List.set_cons_zero, List.set_cons_succ]
            refine wpAnyH_take (i := 2) (oi := _) (v := .slice da k dc) (by rw [List.getElem?_toArray]; exact rfl) (by kernel_rfl) (by kernel_rfl) (by kernel_rfl) (by intro _ _ _ h; exact h) (Or.inl ⟨by kernel_rfl, ?_⟩) hHeld ?_
            · intro w hSw; obtain ⟨⟨s1, s2⟩, s3, s4, s5⟩ := hSw; go_simp
            simp only [Act.put, List.setIfInBounds_toArray, List.set_cons_zero, List.set_cons_succ]
            refine wpAnyH_take (i := 3) (oi := _) (v := .int .i64 k) (by rw [List.getElem?_toArray]; exact rfl) (by kernel_rfl) (by kernel_rfl) (by kernel_rfl) (by intro _ _ _ h; exact h) (Or.inl ⟨by kernel_rfl, ?_⟩) hHeld ?_
            · intro w hSw; obtain ⟨⟨s1, s2⟩, s3, s4, s5⟩ := hSw; go_simp
            simp only [Act.put, List.setIfInBounds_toArray, List.set_cons_zero, List.set_cons_succ]
            refine wpAnyH_ready (rs := [4]) (by kernel_rfl) (by simp) ?_
            refine AllReadyH.cons (o := _) (by rw [List.getElem?_toArray]; exact rfl) (fun K hK => ?_) AllReadyH.nil
            rw [if_pos (by kernel_rfl)]
            go_simp
            refine (implWordOk_any x t s (k : Int) _).mono ?_
            rintro e w4 ⟨rfl, hb4⟩
            rw [HOK.out]
            have HB4 : Hid (Below W.heap.size W w4) := HB3.out.trans (hb4.mono HB3.out.size)
            refine hK.out _ _ ?_ (fun hHeld => ?_)
            · exact ⟨⟨(B3.out.below hb4 B3.out.lt).two.1, (B3.out.below hb4 B3.out.lt).two.2.1⟩, (X3.out.below hb4 X3.out.lt).three.1, (X3.out.below hb4 X3.out.lt).three.2.1, (X3.out.below hb4 X3.out.lt).three.2.2.1⟩
            clear hK K
            refine wpAnyH_take (i := 5) (oi := _) (v := .bool true) (by rw [List.getElem?_toArray]; exact rfl) (by kernel_rfl) (by kernel_rfl) (by kernel_rfl) (by intro _ _ _ h; exact h) (Or.inl ⟨by kernel_rfl, ?_⟩) hHeld ?_
            · intro w hSw; obtain ⟨⟨s1, s2⟩, s3, s4, s5⟩ := hSw; go_simp
            simp only [Act.put, List.setIfInBounds_toArray, List.set_cons_zero, List.set_cons_succ]
            refine wpAnyH_take (i := 6) (oi := _) (v := .bool true) (by rw [List.getElem?_toArray]; exact rfl) (by kernel_rfl) (by kernel_rfl) (by kernel_rfl) (by intro _ _ _ h; exact h) (Or.inl ⟨by kernel_rfl, ?_⟩) hHeld ?_
            · intro w hSw; obtain ⟨⟨s1, s2⟩, s3, s4, s5⟩ := hSw; go_simp
            simp only [Act.put, List.setIfInBounds_toArray, List.set_cons_zero, List.set_cons_succ]
            refine wpAnyH_take (i := 7) (oi := _) (v := undef) (by rw [List.getElem?_toArray]; exact rfl) (by kernel_rfl) (by kernel_rfl) (by kernel_rfl) (by intro _ _ _ h; exact h) (Or.inr ⟨by kernel_rfl, rfl⟩) hHeld ?_
            simp only [Act.put, List.setIfInBounds_toArray, List.set_cons_zero, List.set_cons_succ]
            refine wpAnyH_take (i := 8) (oi := _) (v := undef) (by rw [List.getElem?_toArray]; exact rfl) (by kernel_rfl) (by kernel_rfl) (by kernel_rfl) (by intro _ _ _ h; exact h) (Or.inr ⟨by kernel_rfl, rfl⟩) hHeld ?_
            simp only [Act.put, List.setIfInBounds_toArray, List.set_cons_zero, List.set_cons_succ]
            refine wpAnyH_take (i := 9) (oi := _) (v := undef) (by rw [List.getElem?_toArray]; exact rfl) (by kernel_rfl) (by kernel_rfl) (by kernel_rfl) (by intro _ _ _ h; exact h) (Or.inr ⟨by kernel_rfl, rfl⟩) hHeld ?_
            simp only [Act.put, List.setIfInBounds_toArray, List.set_cons_zero, List.set_cons_succ]
            refine wpAnyH_take (i := 10) (oi := _) (v := undef) (by rw [List.getElem?_toArray]; exact rfl) (by kernel_rfl) (by kernel_rfl) (by kernel_rfl) (by intro _ _ _ h; exact h) (Or.inr ⟨by kernel_rfl, rfl⟩) hHeld ?_
            simp only [Act.put, List.setIfInBounds_toArray, List.set_cons_zero, List.set_cons_succ]
            refine wpAnyH_take (i := 11) (oi := _) (v := undef) (by rw [List.getElem?_toArray]; exact rfl) (by kernel_rfl) (by kernel_rfl) (by kernel_rfl) (by intro _ _ _ h; exact h) (Or.inr ⟨by kernel_rfl, rfl⟩) hHeld ?_
            simp only [Act.put, List.setIfInBounds_toArray, List.set_cons_zero, List.set_cons_succ]
            refine wpAnyH_take (i := 12) (oi := _) (v := undef) (by rw [List.getElem?_toArray]; exact rfl) (by kernel_rfl) (by kernel_rfl) (by kernel_rfl) (by intro _ _ _ h; exact h) (Or.inr ⟨by kernel_rfl, rfl⟩) hHeld ?_
            simp only [Act.put, List.setIfInBounds_toArray, List.set_cons_zero, List.set_cons_succ]
            refine wpAnyH_take (i := 13) (oi := _) (v := undef) (by rw [List.getElem?_toArray]; exact rfl) (by kernel_rfl) (by kernel_rfl) (by kernel_rfl) (by intro _ _ _ h; exact h) (Or.inr ⟨by kernel_rfl, rfl⟩) hHeld ?_
            simp only [Act.put, List.setIfInBounds_toArray, List.set_cons_zero, List.set_cons_succ]
            refine wpAnyH_take (i := 14) (oi := _) (v := undef) (by rw [List.getElem?_toArray]; exact rfl) (by kernel_rfl) (by kernel_rfl) (by kernel_rfl) (by intro _ _ _ h; exact h) (Or.inr ⟨by kernel_rfl, rfl⟩) hHeld ?_
            simp only [Act.put, List.setIfInBounds_toArray, List.set_cons_zero, List.set_cons_succ]
            refine wpAnyH_take (i := 15) (oi := _) (v := undef) (by rw [List.getElem?_toArray]; exact rfl) (by kernel_rfl) (by kernel_rfl) (by kernel_rfl) (by intro _ _ _ h; exact h) (Or.inr ⟨by kernel_rfl, rfl⟩) hHeld ?_
            simp only [Act.put, List.setIfInBounds_toArray, List.set_cons_zero, List.set_cons_succ]
            refine wpAnyH_take (i := 16) (oi := _) (v := undef) (by rw [List.getElem?_toArray]; exact rfl) (by kernel_rfl) (by kernel_rfl) (by kernel_rfl) (by intro _ _ _ h; exact h) (Or.inr ⟨by kernel_rfl, rfl⟩) hHeld ?_
            simp only [Act.put, List.setIfInBounds_toArray, List.set_cons_zero, List.set_cons_succ]
            refine wpAnyH_take (i := 17) (oi := _) (v := undef) (by rw [List.getElem?_toArray]; exact rfl) (by kernel_rfl) (by kernel_rfl) (by kernel_rfl) (by intro _ _ _ h; exact h) (Or.inr ⟨by kernel_rfl, rfl⟩) hHeld ?_
            simp only [Act.put, List.setIfInBounds_toArray, List.set_cons_zero, List.set_cons_succ]
            refine wpAnyH_take (i := 18) (oi := _) (v := undef) (by rw [List.getElem?_toArray]; exact rfl) (by kernel_rfl) (by kernel_rfl) (by kernel_rfl) (by intro _ _ _ h; exact h) (Or.inr ⟨by kernel_rfl, rfl⟩) hHeld ?_
            simp only [Act.put, List.setIfInBounds_toArray, List.set_cons_zero, List.set_cons_succ]
            refine wpAnyH_take (i := 19) (oi := _) (v := undef) (by rw [List.getElem?_toArray]; exact rfl) (by kernel_rfl) (by kernel_rfl) (by kernel_rfl) (by intro _ _ _ h; exact h) (Or.inr ⟨by kernel_rfl, rfl⟩) hHeld ?_
            simp only [Act.put, List.setIfInBounds_toArray, List.set_cons_zero, List.set_cons_succ]
            refine wpAnyH_take (i := 20) (oi := _) (v := undef) (by rw [List.getElem?_toArray]; exact rfl) (by kernel_rfl) (by kernel_rfl) (by kernel_rfl) (by intro _ _ _ h; exact h) (Or.inr ⟨by kernel_rfl, rfl⟩) hHeld ?_
            simp only [Act.put, List.setIfInBounds_toArray, List.set_cons_zero, List.set_cons_succ]
            refine wpAnyH_take (i := 21) (oi := _) (v := undef) (by rw [List.getElem?_toArray]; exact rfl) (by kernel_rfl) (by kernel_rfl) (by kernel_rfl) (by intro _ _ _ h; exact h) (Or.inr ⟨by kernel_rfl, rfl⟩) hHeld ?_
            simp only [Act.put, List.setIfInBounds_toArray, List.set_cons_zero, List.set_cons_succ]
            refine wpAnyH_take (i := 22) (oi := _) (v := .bool true) (by rw [List.getElem?_toArray]; exact rfl) (by kernel_rfl) (by kernel_rfl) (by kernel_rfl) (by intro _ _ _ h; exact h) (Or.inl ⟨by kernel_rfl, ?_⟩) hHeld ?_
            · intro w hSw; obtain ⟨⟨s1, s2⟩, s3, s4, s5⟩ := hSw; go_simp
            simp only [Act.put, List.setIfInBounds_toArray, List.set_cons_zero, List.set_cons_succ]
            refine wpAnyH_done (by kernel_rfl) ?_ _
            go_wp2
            go_ret
            exact ⟨false, ⟨rfl, by simp [HNO.out]⟩, HB0.out.trans (HB4.out.mono HB0.out.size)⟩
          have HOK : Hid (wordOkM x t s (k : Int) = true) := hok
          have htv := wordOkM_t hok
          clear hok
          by_cases ht : t = 0
          · subst ht
            have HG : Hid (WordGood fs ds i) := HWG.out.2 ⟨HOK.out, fun h => absurd h (by omega)⟩
            clear HNG HWG htv
            go_wp2_with fail
            change (Code.region _ (List.toArray memL) true).wp _ _ _ _
            refine wp_region_held_drew (S := fun w' => (w'.cell? ⟨w.heap.size, 0, none⟩ = some (.slice (some ⟨p1, o1, none⟩) 20 wc) ∧ w'.cell? ⟨w.heap.size, 1, none⟩ = some (.slice da k dc)) ∧ w'.cell? ⟨wr.heap.size, 0, none⟩ = some (.int .i64 x) ∧ w'.cell? ⟨wr.heap.size, 1, none⟩ = some (.int .i64 0) ∧ w'.cell? ⟨wr.heap.size, 2, none⟩ = some (.int .i64 s)) (by kernel_rfl) ?_ (fun hHeld => ?_)
            · rw [HW3.out]; exact ⟨⟨B3.out.two.1, B3.out.two.2.1⟩, X3.out.three.1, X3.out.three.2.1, X3.out.three.2.2.1⟩
            rw [HW3.out] at hHeld ⊢
            refine wpAnyH_take (i := 0) (oi := _) (v := WordV x 0 s) (by rw [List.getElem?_toArray]; exact rfl) (by kernel_rfl) (by kernel_rfl) (by kernel_rfl) (by intro _ _ _ h; exact h) (Or.inl ⟨by kernel_rfl, ?_⟩) hHeld ?_
            · intro w hSw; obtain ⟨⟨s1, s2⟩, s3, s4, s5⟩ := hSw; go_simp
            simp only [Act.put, List.setIfInBounds_toArray, List.set_cons_zero, List.set_cons_succ]
            refine wpAnyH_take (i := 1) (oi := _) (v := .pointer (some ⟨w.heap.size, 1, none⟩)) (by rw [List.getElem?_toArray]; exact rfl) (by kernel_rfl) (by kernel_rfl) (by kernel_rfl) (by intro _ _ _ h; exact h) (Or.inl ⟨by kernel_rfl, ?_⟩) hHeld ?_
            · intro w hSw; obtain ⟨⟨s1, s2⟩, s3, s4, s5⟩ := hSw; go_simp
            simp only [Act.put, List.setIfInBounds_toArray, List.set_cons_zero, List.set_cons_succ]
            refine wpAnyH_take (i := 2) (oi := _) (v := .slice da k dc) (by rw [List.getElem?_toArray]; exact rfl) (by kernel_rfl) (by kernel_rfl) (by kernel_rfl) (by intro _ _ _ h; exact h) (Or.inl ⟨by kernel_rfl, ?_⟩) hHeld ?_
            · intro w hSw; obtain ⟨⟨s1, s2⟩, s3, s4, s5⟩ := hSw; go_simp
            simp only [Act.put, List.setIfInBounds_toArray, List.set_cons_zero, List.set_cons_succ]
            refine wpAnyH_take (i := 3) (oi := _) (v := .int .i64 k) (by rw [List.getElem?_toArray]; exact rfl) (by kernel_rfl) (by kernel_rfl) (by kernel_rfl) (by intro _ _ _ h; exact h) (Or.inl ⟨by kernel_rfl, ?_⟩) hHeld ?_
            · intro w hSw; obtain ⟨⟨s1, s2⟩, s3, s4, s5⟩ := hSw; go_simp
            simp only [Act.put, List.setIfInBounds_toArray, List.set_cons_zero, List.set_cons_succ]
            refine wpAnyH_ready (rs := [4]) (by kernel_rfl) (by simp) ?_
            refine AllReadyH.cons (o := _) (by rw [List.getElem?_toArray]; exact rfl) (fun K hK => ?_) AllReadyH.nil
            rw [if_pos (by kernel_rfl)]
            go_simp
            refine (implWordOk_any x 0 s (k : Int) _).mono ?_
            rintro e w4 ⟨rfl, hb4⟩
            rw [HOK.out]
            have HB4 : Hid (Below W.heap.size W w4) := HB3.out.trans (hb4.mono HB3.out.size)
            refine hK.out _ _ ?_ (fun hHeld => ?_)
            · exact ⟨⟨(B3.out.below hb4 B3.out.lt).two.1, (B3.out.below hb4 B3.out.lt).two.2.1⟩, (X3.out.below hb4 X3.out.lt).three.1, (X3.out.below hb4 X3.out.lt).three.2.1, (X3.out.below hb4 X3.out.lt).three.2.2.1⟩
            clear hK K
            refine wpAnyH_take (i := 5) (oi := _) (v := .bool false) (by rw [List.getElem?_toArray]; exact rfl) (by kernel_rfl) (by kernel_rfl) (by kernel_rfl) (by intro _ _ _ h; exact h) (Or.inl ⟨by kernel_rfl, ?_⟩) hHeld ?_
            · intro w hSw; obtain ⟨⟨s1, s2⟩, s3, s4, s5⟩ := hSw; go_simp
            simp only [Act.put, List.setIfInBounds_toArray, List.set_cons_zero, List.set_cons_succ]
            refine wpAnyH_take (i := 6) (oi := _) (v := .bool false) (by rw [List.getElem?_toArray]; exact rfl) (by kernel_rfl) (by kernel_rfl) (by kernel_rfl) (by intro _ _ _ h; exact h) (Or.inl ⟨by kernel_rfl, ?_⟩) hHeld ?_
            · intro w hSw; obtain ⟨⟨s1, s2⟩, s3, s4, s5⟩ := hSw; go_simp
            simp only [Act.put, List.setIfInBounds_toArray, List.set_cons_zero, List.set_cons_succ]
            refine wpAnyH_take (i := 7) (oi := _) (v := WordV x 0 s) (by rw [List.getElem?_toArray]; exact rfl) (by kernel_rfl) (by kernel_rfl) (by kernel_rfl) (by intro _ _ _ h; exact h) (Or.inl ⟨by kernel_rfl, ?_⟩) hHeld ?_
            · intro w hSw; obtain ⟨⟨s1, s2⟩, s3, s4, s5⟩ := hSw; go_simp
            simp only [Act.put, List.setIfInBounds_toArray, List.set_cons_zero, List.set_cons_succ]
            refine wpAnyH_ready (rs := [8]) (by kernel_rfl) (by simp) ?_
            refine AllReadyH.cons (o := _) (by rw [List.getElem?_toArray]; exact rfl) (fun K hK => ?_) AllReadyH.nil
            rw [if_pos (by kernel_rfl)]
            go_simp
            refine (isMark_any x 0 s _).mono ?_
            rintro e w5 ⟨rfl, hb5⟩
            rw [show ((0 : Int) != 0) = false from rfl]
            have HB5 : Hid (Below W.heap.size W w5) := HB4.out.trans (hb5.mono HB4.out.size)
            have B4 : Hid (Box w4 w.heap.size #[.slice (some ⟨p1, o1, none⟩) 20 wc, .slice da k dc] 29) := B3.out.below hb4 B3.out.lt
            have X4 : Hid (Box w4 wr.heap.size #[.int .i64 x, .int .i64 0, .int .i64 s] 42) := X3.out.below hb4 X3.out.lt
            refine hK.out _ _ ?_ (fun hHeld => ?_)
            · exact ⟨⟨(B4.out.below hb5 B4.out.lt).two.1, (B4.out.below hb5 B4.out.lt).two.2.1⟩, (X4.out.below hb5 X4.out.lt).three.1, (X4.out.below hb5 X4.out.lt).three.2.1, (X4.out.below hb5 X4.out.lt).three.2.2.1⟩
            clear hK K
            refine wpAnyH_take (i := 9) (oi := _) (v := .bool false) (by rw [List.getElem?_toArray]; exact rfl) (by kernel_rfl) (by kernel_rfl) (by kernel_rfl) (by intro _ _ _ h; exact h) (Or.inl ⟨by kernel_rfl, ?_⟩) hHeld ?_
            · intro w hSw; obtain ⟨⟨s1, s2⟩, s3, s4, s5⟩ := hSw; go_simp
            simp only [Act.put, List.setIfInBounds_toArray, List.set_cons_zero, List.set_cons_succ]
            refine wpAnyH_take (i := 10) (oi := _) (v := undef) (by rw [List.getElem?_toArray]; exact rfl) (by kernel_rfl) (by kernel_rfl) (by kernel_rfl) (by intro _ _ _ h; exact h) (Or.inr ⟨by kernel_rfl, rfl⟩) hHeld ?_
            simp only [Act.put, List.setIfInBounds_toArray, List.set_cons_zero, List.set_cons_succ]
            refine wpAnyH_take (i := 11) (oi := _) (v := undef) (by rw [List.getElem?_toArray]; exact rfl) (by kernel_rfl) (by kernel_rfl) (by kernel_rfl) (by intro _ _ _ h; exact h) (Or.inr ⟨by kernel_rfl, rfl⟩) hHeld ?_
            simp only [Act.put, List.setIfInBounds_toArray, List.set_cons_zero, List.set_cons_succ]
            refine wpAnyH_take (i := 12) (oi := _) (v := undef) (by rw [List.getElem?_toArray]; exact rfl) (by kernel_rfl) (by kernel_rfl) (by kernel_rfl) (by intro _ _ _ h; exact h) (Or.inr ⟨by kernel_rfl, rfl⟩) hHeld ?_
            simp only [Act.put, List.setIfInBounds_toArray, List.set_cons_zero, List.set_cons_succ]
            refine wpAnyH_take (i := 13) (oi := _) (v := undef) (by rw [List.getElem?_toArray]; exact rfl) (by kernel_rfl) (by kernel_rfl) (by kernel_rfl) (by intro _ _ _ h; exact h) (Or.inr ⟨by kernel_rfl, rfl⟩) hHeld ?_
            simp only [Act.put, List.setIfInBounds_toArray, List.set_cons_zero, List.set_cons_succ]
            refine wpAnyH_take (i := 14) (oi := _) (v := undef) (by rw [List.getElem?_toArray]; exact rfl) (by kernel_rfl) (by kernel_rfl) (by kernel_rfl) (by intro _ _ _ h; exact h) (Or.inr ⟨by kernel_rfl, rfl⟩) hHeld ?_
            simp only [Act.put, List.setIfInBounds_toArray, List.set_cons_zero, List.set_cons_succ]
            refine wpAnyH_take (i := 15) (oi := _) (v := undef) (by rw [List.getElem?_toArray]; exact rfl) (by kernel_rfl) (by kernel_rfl) (by kernel_rfl) (by intro _ _ _ h; exact h) (Or.inr ⟨by kernel_rfl, rfl⟩) hHeld ?_
            simp only [Act.put, List.setIfInBounds_toArray, List.set_cons_zero, List.set_cons_succ]
            refine wpAnyH_take (i := 16) (oi := _) (v := undef) (by rw [List.getElem?_toArray]; exact rfl) (by kernel_rfl) (by kernel_rfl) (by kernel_rfl) (by intro _ _ _ h; exact h) (Or.inr ⟨by kernel_rfl, rfl⟩) hHeld ?_
            simp only [Act.put, List.setIfInBounds_toArray, List.set_cons_zero, List.set_cons_succ]
            refine wpAnyH_take (i := 17) (oi := _) (v := undef) (by rw [List.getElem?_toArray]; exact rfl) (by kernel_rfl) (by kernel_rfl) (by kernel_rfl) (by intro _ _ _ h; exact h) (Or.inr ⟨by kernel_rfl, rfl⟩) hHeld ?_
            simp only [Act.put, List.setIfInBounds_toArray, List.set_cons_zero, List.set_cons_succ]
            refine wpAnyH_take (i := 18) (oi := _) (v := undef) (by rw [List.getElem?_toArray]; exact rfl) (by kernel_rfl) (by kernel_rfl) (by kernel_rfl) (by intro _ _ _ h; exact h) (Or.inr ⟨by kernel_rfl, rfl⟩) hHeld ?_
            simp only [Act.put, List.setIfInBounds_toArray, List.set_cons_zero, List.set_cons_succ]
            refine wpAnyH_take (i := 19) (oi := _) (v := undef) (by rw [List.getElem?_toArray]; exact rfl) (by kernel_rfl) (by kernel_rfl) (by kernel_rfl) (by intro _ _ _ h; exact h) (Or.inr ⟨by kernel_rfl, rfl⟩) hHeld ?_
            simp only [Act.put, List.setIfInBounds_toArray, List.set_cons_zero, List.set_cons_succ]
            refine wpAnyH_take (i := 20) (oi := _) (v := undef) (by rw [List.getElem?_toArray]; exact rfl) (by kernel_rfl) (by kernel_rfl) (by kernel_rfl) (by intro _ _ _ h; exact h) (Or.inr ⟨by kernel_rfl, rfl⟩) hHeld ?_
            simp only [Act.put, List.setIfInBounds_toArray, List.set_cons_zero, List.set_cons_succ]
            refine wpAnyH_take (i := 21) (oi := _) (v := .bool false) (by rw [List.getElem?_toArray]; exact rfl) (by kernel_rfl) (by kernel_rfl) (by kernel_rfl) (by intro _ _ _ h; exact h) (Or.inl ⟨by kernel_rfl, ?_⟩) hHeld ?_
            · intro w hSw; obtain ⟨⟨s1, s2⟩, s3, s4, s5⟩ := hSw; go_simp
            simp only [Act.put, List.setIfInBounds_toArray, List.set_cons_zero, List.set_cons_succ]
            refine wpAnyH_take (i := 22) (oi := _) (v := .bool false) (by rw [List.getElem?_toArray]; exact rfl) (by kernel_rfl) (by kernel_rfl) (by kernel_rfl) (by intro _ _ _ h; exact h) (Or.inl ⟨by kernel_rfl, ?_⟩) hHeld ?_
            · intro w hSw; obtain ⟨⟨s1, s2⟩, s3, s4, s5⟩ := hSw; go_simp
            simp only [Act.put, List.setIfInBounds_toArray, List.set_cons_zero, List.set_cons_succ]
            refine wpAnyH_done (by kernel_rfl) ?_ _
            go_wp2
            exact ⟨⟨i + 1, by omega, by go_num, HYG.out HG.out, HB5.out⟩, by simp [intOf]; omega⟩
          obtain ⟨j, rfl⟩ : ∃ j : Nat, t = (j : Int) + 1 := ⟨(t - 1).toNat, by omega⟩
          have hj0 : (0 : Int) ≤ (j : Int) := by omega
          have hj1 : (j : Int) < (k : Int) := by have := htv.2 (by omega); omega
          rcases (H2.out.below HB3.out (Nat.le_refl _)).2.2 with h0 | ⟨q1, o2, rfl, g2⟩
          · omega
          rcases H3.out.below HB3.out (Nat.le_refl _) with h0 | ⟨q1', o2', he3, g3⟩
          · omega
          obtain ⟨rfl, rfl⟩ : q1 = q1' ∧ o2 = o2' := by simpa using he3
          obtain ⟨ea, ec, ra, rc, h5, h6, h7⟩ := g2 j (by omega)
          obtain ⟨ea', ec', h8, h9⟩ := g3 j (by omega)
          obtain ⟨rfl, rfl⟩ : ea = ea' ∧ ec = ec' := by
            have := h5.2.2.1.symm.trans h8
            simpa using this
          have H6 : Hid (TripAt w3 ea (dk ds j).en (dk ds j).es) := h6
          have H5 : Hid (Five w3 q1 (o2 + j * 5) (dk ds j) ea ec ra rc) := h5
          have HWG2 : Hid (WordGood fs ds i ↔ ((entM (dk ds j).es (dk ds j).en i).2.2.2 = true ∧ (dk ds j).sq = s)) := by
            show _ ↔ _
            rw [HWG.out, show ((j : Int) + 1 - 1).toNat = j by omega]
            exact ⟨fun h => h.2 (by omega), fun h => ⟨HOK.out, fun _ => h⟩⟩
          obtain ⟨D, hD⟩ : ∃ D, dk ds j = D := ⟨_, rfl⟩
          rw [hD] at HWG2 H6 H5 h9
          obtain ⟨dsq, dst, den, des, dcd, drn, drs⟩ := D
          dsimp only at HWG2 H6 h9
          have wsub : IntKind.i64.wrap ((j : Int) + 1 - 1) = (j : Int) := by rw [IntKind.wrap_i64]; omega
          have htn : ((j : Int) + 1 != 0) = true := by simp; omega
          have HTN : Hid (((j : Int) + 1 != 0) = true) := htn
          clear g2 g3 h5 h6 h7 h8 hD HWG he3 htn
          go_wp2_with fail
          change (Code.region _ (List.toArray memL) true).wp _ _ _ _
          refine wp_region_held_drew (S := fun w' => (w'.cell? ⟨w.heap.size, 0, none⟩ = some (.slice (some ⟨p1, o1, none⟩) 20 wc) ∧ w'.cell? ⟨w.heap.size, 1, none⟩ = some (.slice (some ⟨q1, o2, none⟩) k dc)) ∧ w'.cell? ⟨wr.heap.size, 0, none⟩ = some (.int .i64 x) ∧ w'.cell? ⟨wr.heap.size, 1, none⟩ = some (.int .i64 ((j : Int) + 1)) ∧ w'.cell? ⟨wr.heap.size, 2, none⟩ = some (.int .i64 s) ∧ Five w' q1 (o2 + j * 5) ⟨dsq, dst, den, des, dcd, drn, drs⟩ ea ec ra rc) (by kernel_rfl) ?_ (fun hHeld => ?_)
          · rw [HW3.out]; exact ⟨⟨B3.out.two.1, B3.out.two.2.1⟩, X3.out.three.1, X3.out.three.2.1, X3.out.three.2.2.1, H5.out⟩
          rw [HW3.out] at hHeld ⊢
          refine wpAnyH_take (i := 0) (oi := _) (v := WordV x ((j : Int) + 1) s) (by rw [List.getElem?_toArray]; exact rfl) (by kernel_rfl) (by kernel_rfl) (by kernel_rfl) (by intro _ _ _ h; exact h) (Or.inl ⟨by kernel_rfl, ?_⟩) hHeld ?_
          · intro w hSw; obtain ⟨⟨s1, s2⟩, s3, s4, s5, ⟨s6, s7, s8, s9, s10⟩⟩ := hSw; go_simp
          simp only [Act.put, List.setIfInBounds_toArray, List.set_cons_zero, List.set_cons_succ]
          refine wpAnyH_take (i := 1) (oi := _) (v := .pointer (some ⟨w.heap.size, 1, none⟩)) (by rw [List.getElem?_toArray]; exact rfl) (by kernel_rfl) (by kernel_rfl) (by kernel_rfl) (by intro _ _ _ h; exact h) (Or.inl ⟨by kernel_rfl, ?_⟩) hHeld ?_
          · intro w hSw; obtain ⟨⟨s1, s2⟩, s3, s4, s5, ⟨s6, s7, s8, s9, s10⟩⟩ := hSw; go_simp
          simp only [Act.put, List.setIfInBounds_toArray, List.set_cons_zero, List.set_cons_succ]
          refine wpAnyH_take (i := 2) (oi := _) (v := .slice (some ⟨q1, o2, none⟩) k dc) (by rw [List.getElem?_toArray]; exact rfl) (by kernel_rfl) (by kernel_rfl) (by kernel_rfl) (by intro _ _ _ h; exact h) (Or.inl ⟨by kernel_rfl, ?_⟩) hHeld ?_
          · intro w hSw; obtain ⟨⟨s1, s2⟩, s3, s4, s5, ⟨s6, s7, s8, s9, s10⟩⟩ := hSw; go_simp
          simp only [Act.put, List.setIfInBounds_toArray, List.set_cons_zero, List.set_cons_succ]
          refine wpAnyH_take (i := 3) (oi := _) (v := .int .i64 k) (by rw [List.getElem?_toArray]; exact rfl) (by kernel_rfl) (by kernel_rfl) (by kernel_rfl) (by intro _ _ _ h; exact h) (Or.inl ⟨by kernel_rfl, ?_⟩) hHeld ?_
          · intro w hSw; obtain ⟨⟨s1, s2⟩, s3, s4, s5, ⟨s6, s7, s8, s9, s10⟩⟩ := hSw; go_simp
          simp only [Act.put, List.setIfInBounds_toArray, List.set_cons_zero, List.set_cons_succ]
          refine wpAnyH_ready (rs := [4]) (by kernel_rfl) (by simp) ?_
          refine AllReadyH.cons (o := _) (by rw [List.getElem?_toArray]; exact rfl) (fun K hK => ?_) AllReadyH.nil
          rw [if_pos (by kernel_rfl)]
          go_simp
          refine (implWordOk_any x ((j : Int) + 1) s (k : Int) _).mono ?_
          rintro e w4 ⟨rfl, hb4⟩
          rw [HOK.out]
          have HB4 : Hid (Below W.heap.size W w4) := HB3.out.trans (hb4.mono HB3.out.size)
          refine hK.out _ _ ?_ (fun hHeld => ?_)
          · exact ⟨⟨(B3.out.below hb4 B3.out.lt).two.1, (B3.out.below hb4 B3.out.lt).two.2.1⟩, (X3.out.below hb4 X3.out.lt).three.1, (X3.out.below hb4 X3.out.lt).three.2.1, (X3.out.below hb4 X3.out.lt).three.2.2.1, H5.out.below hb4 (Nat.le_refl _)⟩
          clear hK K
          have B4 : Hid (Box w4 w.heap.size #[.slice (some ⟨p1, o1, none⟩) 20 wc, .slice (some ⟨q1, o2, none⟩) k dc] 29) := B3.out.below hb4 B3.out.lt
          have X4 : Hid (Box w4 wr.heap.size #[.int .i64 x, .int .i64 ((j : Int) + 1), .int .i64 s] 42) := X3.out.below hb4 X3.out.lt
          have F4 : Hid (Five w4 q1 (o2 + j * 5) ⟨dsq, dst, den, des, dcd, drn, drs⟩ ea ec ra rc) := H5.out.below hb4 (Nat.le_refl _)
          have T4 : Hid (TripAt w4 ea den des) := H6.out.below hb4 (Nat.le_refl _)
          clear hb4 B3 X3 H5 H6
          refine wpAnyH_take (i := 5) (oi := _) (v := .bool false) (by rw [List.getElem?_toArray]; exact rfl) (by kernel_rfl) (by kernel_rfl) (by kernel_rfl) (by intro _ _ _ h; exact h) (Or.inl ⟨by kernel_rfl, ?_⟩) hHeld ?_
          · intro w hSw; obtain ⟨⟨s1, s2⟩, s3, s4, s5, ⟨s6, s7, s8, s9, s10⟩⟩ := hSw; go_simp
          simp only [Act.put, List.setIfInBounds_toArray, List.set_cons_zero, List.set_cons_succ]
          refine wpAnyH_take (i := 6) (oi := _) (v := .bool false) (by rw [List.getElem?_toArray]; exact rfl) (by kernel_rfl) (by kernel_rfl) (by kernel_rfl) (by intro _ _ _ h; exact h) (Or.inl ⟨by kernel_rfl, ?_⟩) hHeld ?_
          · intro w hSw; obtain ⟨⟨s1, s2⟩, s3, s4, s5, ⟨s6, s7, s8, s9, s10⟩⟩ := hSw; go_simp
          simp only [Act.put, List.setIfInBounds_toArray, List.set_cons_zero, List.set_cons_succ]
          refine wpAnyH_take (i := 7) (oi := _) (v := WordV x ((j : Int) + 1) s) (by rw [List.getElem?_toArray]; exact rfl) (by kernel_rfl) (by kernel_rfl) (by kernel_rfl) (by intro _ _ _ h; exact h) (Or.inl ⟨by kernel_rfl, ?_⟩) hHeld ?_
          · intro w hSw; obtain ⟨⟨s1, s2⟩, s3, s4, s5, ⟨s6, s7, s8, s9, s10⟩⟩ := hSw; go_simp
          simp only [Act.put, List.setIfInBounds_toArray, List.set_cons_zero, List.set_cons_succ]
          refine wpAnyH_ready (rs := [8]) (by kernel_rfl) (by simp) ?_
          refine AllReadyH.cons (o := _) (by rw [List.getElem?_toArray]; exact rfl) (fun K hK => ?_) AllReadyH.nil
          rw [if_pos (by kernel_rfl)]
          go_simp
          refine (isMark_any x ((j : Int) + 1) s _).mono ?_
          rintro e w5 ⟨rfl, hb5⟩
          rw [HTN.out]
          have HB5 : Hid (Below W.heap.size W w5) := HB4.out.trans (hb5.mono HB4.out.size)
          refine hK.out _ _ ?_ (fun hHeld => ?_)
          · exact ⟨⟨(B4.out.below hb5 B4.out.lt).two.1, (B4.out.below hb5 B4.out.lt).two.2.1⟩, (X4.out.below hb5 X4.out.lt).three.1, (X4.out.below hb5 X4.out.lt).three.2.1, (X4.out.below hb5 X4.out.lt).three.2.2.1, F4.out.below hb5 (Nat.le_refl _)⟩
          clear hK K
          have T5 : Hid (TripAt w5 ea den des) := T4.out.below hb5 (Nat.le_refl _)
          have B5 : Hid (Box w5 w.heap.size #[.slice (some ⟨p1, o1, none⟩) 20 wc, .slice (some ⟨q1, o2, none⟩) k dc] 29) := B4.out.below hb5 B4.out.lt
          have X5 : Hid (Box w5 wr.heap.size #[.int .i64 x, .int .i64 ((j : Int) + 1), .int .i64 s] 42) := X4.out.below hb5 X4.out.lt
          have F5 : Hid (Five w5 q1 (o2 + j * 5) ⟨dsq, dst, den, des, dcd, drn, drs⟩ ea ec ra rc) := F4.out.below hb5 (Nat.le_refl _)
          clear hb5 B4 X4 F4 T4
          refine wpAnyH_take (i := 9) (oi := _) (v := .bool true) (by rw [List.getElem?_toArray]; exact rfl) (by kernel_rfl) (by kernel_rfl) (by kernel_rfl) (by intro _ _ _ h; exact h) (Or.inl ⟨by kernel_rfl, ?_⟩) hHeld ?_
          · intro w hSw; obtain ⟨⟨s1, s2⟩, s3, s4, s5, ⟨s6, s7, s8, s9, s10⟩⟩ := hSw; go_simp
          simp only [Act.put, List.setIfInBounds_toArray, List.set_cons_zero, List.set_cons_succ]
          refine wpAnyH_take (i := 10) (oi := _) (v := .pointer (some ⟨w.heap.size, 1, none⟩)) (by rw [List.getElem?_toArray]; exact rfl) (by kernel_rfl) (by kernel_rfl) (by kernel_rfl) (by intro _ _ _ h; exact h) (Or.inl ⟨by kernel_rfl, ?_⟩) hHeld ?_
          · intro w hSw; obtain ⟨⟨s1, s2⟩, s3, s4, s5, ⟨s6, s7, s8, s9, s10⟩⟩ := hSw; go_simp
          simp only [Act.put, List.setIfInBounds_toArray, List.set_cons_zero, List.set_cons_succ]
          refine wpAnyH_take (i := 11) (oi := _) (v := .slice (some ⟨q1, o2, none⟩) k dc) (by rw [List.getElem?_toArray]; exact rfl) (by kernel_rfl) (by kernel_rfl) (by kernel_rfl) (by intro _ _ _ h; exact h) (Or.inl ⟨by kernel_rfl, ?_⟩) hHeld ?_
          · intro w hSw; obtain ⟨⟨s1, s2⟩, s3, s4, s5, ⟨s6, s7, s8, s9, s10⟩⟩ := hSw; go_simp
          simp only [Act.put, List.setIfInBounds_toArray, List.set_cons_zero, List.set_cons_succ]
          refine wpAnyH_take (i := 12) (oi := _) (v := .pointer (some ⟨wr.heap.size, 1, none⟩)) (by rw [List.getElem?_toArray]; exact rfl) (by kernel_rfl) (by kernel_rfl) (by kernel_rfl) (by intro _ _ _ h; exact h) (Or.inl ⟨by kernel_rfl, ?_⟩) hHeld ?_
          · intro w hSw; obtain ⟨⟨s1, s2⟩, s3, s4, s5, ⟨s6, s7, s8, s9, s10⟩⟩ := hSw; go_simp
          simp only [Act.put, List.setIfInBounds_toArray, List.set_cons_zero, List.set_cons_succ]
          refine wpAnyH_take (i := 13) (oi := _) (v := .int .i64 ((j : Int) + 1)) (by rw [List.getElem?_toArray]; exact rfl) (by kernel_rfl) (by kernel_rfl) (by kernel_rfl) (by intro _ _ _ h; exact h) (Or.inl ⟨by kernel_rfl, ?_⟩) hHeld ?_
          · intro w hSw; obtain ⟨⟨s1, s2⟩, s3, s4, s5, ⟨s6, s7, s8, s9, s10⟩⟩ := hSw; go_simp
          simp only [Act.put, List.setIfInBounds_toArray, List.set_cons_zero, List.set_cons_succ]
          refine wpAnyH_take (i := 14) (oi := _) (v := .int .i64 (j : Int)) (by rw [List.getElem?_toArray]; exact rfl) (by kernel_rfl) (by kernel_rfl) (by kernel_rfl) (by intro _ _ _ h; exact h) (Or.inl ⟨by kernel_rfl, ?_⟩) hHeld ?_
          · intro w hSw; obtain ⟨⟨s1, s2⟩, s3, s4, s5, ⟨s6, s7, s8, s9, s10⟩⟩ := hSw; go_simp; rw [IntKind.wrap_i64]; omega
          simp only [Act.put, List.setIfInBounds_toArray, List.set_cons_zero, List.set_cons_succ]
          refine wpAnyH_take (i := 15) (oi := _) (v := .pointer (some ⟨q1, o2 + j * 5, none⟩)) (by rw [List.getElem?_toArray]; exact rfl) (by kernel_rfl) (by kernel_rfl) (by kernel_rfl) (by intro _ _ _ h; exact h) (Or.inl ⟨by kernel_rfl, ?_⟩) hHeld ?_
          · intro w hSw; obtain ⟨⟨s1, s2⟩, s3, s4, s5, ⟨s6, s7, s8, s9, s10⟩⟩ := hSw; go_simp
          simp only [Act.put, List.setIfInBounds_toArray, List.set_cons_zero, List.set_cons_succ]
          refine wpAnyH_take (i := 16) (oi := _) (v := DescV dsq dst ea den ec dcd ra drn rc) (by rw [List.getElem?_toArray]; exact rfl) (by kernel_rfl) (by kernel_rfl) (by kernel_rfl) (by intro _ _ _ h; exact h) (Or.inl ⟨by kernel_rfl, ?_⟩) hHeld ?_
          · intro w hSw; obtain ⟨⟨s1, s2⟩, s3, s4, s5, ⟨s6, s7, s8, s9, s10⟩⟩ := hSw; go_simp
          simp only [Act.put, List.setIfInBounds_toArray, List.set_cons_zero, List.set_cons_succ]
          refine wpAnyH_take (i := 17) (oi := _) (v := WordV x ((j : Int) + 1) s) (by rw [List.getElem?_toArray]; exact rfl) (by kernel_rfl) (by kernel_rfl) (by kernel_rfl) (by intro _ _ _ h; exact h) (Or.inl ⟨by kernel_rfl, ?_⟩) hHeld ?_
          · intro w hSw; obtain ⟨⟨s1, s2⟩, s3, s4, s5, ⟨s6, s7, s8, s9, s10⟩⟩ := hSw; go_simp
          simp only [Act.put, List.setIfInBounds_toArray, List.set_cons_zero, List.set_cons_succ]
          refine wpAnyH_take (i := 18) (oi := _) (v := .int .i64 (i : Int)) (by rw [List.getElem?_toArray]; exact rfl) (by kernel_rfl) (by kernel_rfl) (by kernel_rfl) (by intro _ _ _ h; exact h) (Or.inl ⟨by kernel_rfl, ?_⟩) hHeld ?_
          · intro w hSw; obtain ⟨⟨s1, s2⟩, s3, s4, s5, ⟨s6, s7, s8, s9, s10⟩⟩ := hSw; go_simp
          simp only [Act.put, List.setIfInBounds_toArray, List.set_cons_zero, List.set_cons_succ]
          refine wpAnyH_ready (rs := [19]) (by kernel_rfl) (by simp) ?_
          refine AllReadyH.cons (o := _) (by rw [List.getElem?_toArray]; exact rfl) (fun K hK => ?_) AllReadyH.nil
          rw [if_pos (by kernel_rfl)]
          go_simp
          refine (laidBy_any dsq dst ea den ec des dcd ra drn rc x ((j : Int) + 1) s (i : Int) _ T5.out h9).mono ?_
          rintro e w6 ⟨rfl, hb6⟩
          have HB6 : Hid (Below W.heap.size W w6) := HB5.out.trans (hb6.mono HB5.out.size)
          refine hK.out _ _ ?_ (fun hHeld => ?_)
          · exact ⟨⟨(B5.out.below hb6 B5.out.lt).two.1, (B5.out.below hb6 B5.out.lt).two.2.1⟩, (X5.out.below hb6 X5.out.lt).three.1, (X5.out.below hb6 X5.out.lt).three.2.1, (X5.out.below hb6 X5.out.lt).three.2.2.1, F5.out.below hb6 (Nat.le_refl _)⟩
          clear hK K hb6 B5 X5 F5 T5 wsub
          rcases hl : ((entM des den i).2.2.2 && dsq == s) with _ | _
          · have HNO : Hid (¬ MemGood fs 20 ds) := HNG.out (fun h => by
              have h2 := HWG2.out.1 h
              rw [h2.1, h2.2] at hl
              simp at hl)
            clear hl HNG HYG HWG2
            refine wpAnyH_take (i := 20) (oi := _) (v := .bool true) (by rw [List.getElem?_toArray]; exact rfl) (by kernel_rfl) (by kernel_rfl) (by kernel_rfl) (by intro _ _ _ h; exact h) (Or.inl ⟨by kernel_rfl, ?_⟩) hHeld ?_
            · intro w hSw; obtain ⟨⟨s1, s2⟩, s3, s4, s5, ⟨s6, s7, s8, s9, s10⟩⟩ := hSw; go_simp
            simp only [Act.put, List.setIfInBounds_toArray, List.set_cons_zero, List.set_cons_succ]
            refine wpAnyH_take (i := 21) (oi := _) (v := .bool true) (by rw [List.getElem?_toArray]; exact rfl) (by kernel_rfl) (by kernel_rfl) (by kernel_rfl) (by intro _ _ _ h; exact h) (Or.inl ⟨by kernel_rfl, ?_⟩) hHeld ?_
            · intro w hSw; obtain ⟨⟨s1, s2⟩, s3, s4, s5, ⟨s6, s7, s8, s9, s10⟩⟩ := hSw; go_simp
            simp only [Act.put, List.setIfInBounds_toArray, List.set_cons_zero, List.set_cons_succ]
            refine wpAnyH_take (i := 22) (oi := _) (v := .bool true) (by rw [List.getElem?_toArray]; exact rfl) (by kernel_rfl) (by kernel_rfl) (by kernel_rfl) (by intro _ _ _ h; exact h) (Or.inl ⟨by kernel_rfl, ?_⟩) hHeld ?_
            · intro w hSw; obtain ⟨⟨s1, s2⟩, s3, s4, s5, ⟨s6, s7, s8, s9, s10⟩⟩ := hSw; go_simp
            simp only [Act.put, List.setIfInBounds_toArray, List.set_cons_zero, List.set_cons_succ]
            refine wpAnyH_done (by kernel_rfl) ?_ _
            go_wp2
            go_ret
            exact ⟨false, ⟨rfl, by simp [HNO.out]⟩, HB0.out.trans (HB6.out.mono HB0.out.size)⟩
          · have HG : Hid (WordGood fs ds i) := HWG2.out.2 (by simpa using hl)
            clear hl HNG HWG2
            refine wpAnyH_take (i := 20) (oi := _) (v := .bool false) (by rw [List.getElem?_toArray]; exact rfl) (by kernel_rfl) (by kernel_rfl) (by kernel_rfl) (by intro _ _ _ h; exact h) (Or.inl ⟨by kernel_rfl, ?_⟩) hHeld ?_
            · intro w hSw; obtain ⟨⟨s1, s2⟩, s3, s4, s5, ⟨s6, s7, s8, s9, s10⟩⟩ := hSw; go_simp
            simp only [Act.put, List.setIfInBounds_toArray, List.set_cons_zero, List.set_cons_succ]
            refine wpAnyH_take (i := 21) (oi := _) (v := .bool false) (by rw [List.getElem?_toArray]; exact rfl) (by kernel_rfl) (by kernel_rfl) (by kernel_rfl) (by intro _ _ _ h; exact h) (Or.inl ⟨by kernel_rfl, ?_⟩) hHeld ?_
            · intro w hSw; obtain ⟨⟨s1, s2⟩, s3, s4, s5, ⟨s6, s7, s8, s9, s10⟩⟩ := hSw; go_simp
            simp only [Act.put, List.setIfInBounds_toArray, List.set_cons_zero, List.set_cons_succ]
            refine wpAnyH_take (i := 22) (oi := _) (v := .bool false) (by rw [List.getElem?_toArray]; exact rfl) (by kernel_rfl) (by kernel_rfl) (by kernel_rfl) (by intro _ _ _ h; exact h) (Or.inl ⟨by kernel_rfl, ?_⟩) hHeld ?_
            · intro w hSw; obtain ⟨⟨s1, s2⟩, s3, s4, s5, ⟨s6, s7, s8, s9, s10⟩⟩ := hSw; go_simp
            simp only [Act.put, List.setIfInBounds_toArray, List.set_cons_zero, List.set_cons_succ]
            refine wpAnyH_done (by kernel_rfl) ?_ _
            go_wp2
            exact ⟨⟨i + 1, by omega, by go_num, HYG.out HG.out, HB6.out⟩, by simp [intOf]; omega⟩
        · obtain rfl : i = 20 := by omega
          have HG : Hid (MemGood fs 20 ds) := ⟨rfl, by rw [HL.out]; omega, HDS.out, HALL.out⟩
          go_wp2
          go_ret
          exact ⟨true, ⟨rfl, by simp [HG.out]⟩, HB0.out.trans (HB.out.mono HB0.out.size)⟩
end Go.Proofs.YtbdfopokimpeiaqDoor

/- impl.MemNew, walked. -/
namespace Go.Proofs.YtbdfopokimpeiaqDoor
open Go.ChangeShapes Go.WideShapes Go.ChangeAt Go.RowKit

theorem cell_three_at (w : World) (x y z : Value) (t : TypeId) : ∀ (j : Nat) (u : Value), [x, y, z][j]? = some u → (w.alloc (.cells #[x, y, z] t)).cell? ((⟨w.heap.size, 0, none⟩ : Addr).add j) = some u := by
  intro j u hj
  match j, hj with
  | 0, hj => simpa [Addr.add] using hj
  | 1, hj => simpa [Addr.add] using hj
  | 2, hj => simpa [Addr.add] using hj
  | j + 3, hj => simp at hj
theorem three_one {x y z : Int} : ∀ u ∈ [I x, I y, I z], u.oneCell' = true := by
  intro u hu
  simp at hu
  rcases hu with rfl | rfl | rfl <;> rfl
theorem nil_not_int {v d : Value} (hv : ∀ x : Int, v ≠ I x) (hd : ∀ x : Int, d ≠ I x) : ∀ (i : Nat) (x : Int), (#[v, d] : Array Value)[i]? ≠ some (I x) := by
  intro i x h
  match i, h with
  | 0, h => exact hv x (by simpa using h)
  | 1, h => exact hd x (by simpa using h)
  | i + 2, h => simp at h
theorem far_row {w0 w w' : World} {bm : Nat} {row : Option Nat} (h : w0.grownBy w (some bm)) (hg : w.grownBy w' row) (hr : ∀ g, row = some g → w0.heap.size ≤ g) : w0.grownBy w' (some bm) :=
  ⟨hg.os.trans h.os, hg.tape.trans h.tape, hg.output.trans h.output, Nat.le_trans h.size hg.size, fun k hk hne => (hg.block k (Nat.lt_of_lt_of_le hk h.size) (fun e => by have := hr k e.symm; omega)).trans (h.block k hk hne)⟩
theorem far_put {w0 w : World} {bm : Nat} (h : w0.grownBy w (some bm)) (j : Nat) (v : Value) : w0.grownBy (w.setCell ⟨bm, j, none⟩ v) (some bm) :=
  ⟨h.os, h.tape, h.output, by simpa [World.setCell] using h.size, fun k hk hne => (Below.heap_setCell _ _ _ _ (fun e => hne (by rw [e]))).trans (h.block k hk hne)⟩
theorem ne_row {g b bm n c : Nat} (h : g < bm) (hb : (Value.slice (some ⟨g, 0, none⟩) n c).ownBlock = some b) : some b ≠ some bm := fun e => by
  have h1 : g = b := by simpa [Value.ownBlock] using hb
  have h2 : b = bm := by simpa using e
  omega
/-- While the words are laid. -/
structure NewSt (w1 : World) (bm base : Nat) (d : Value) (L : List Int) (k : Nat) (wr : World) : Prop where
  box : ∃ v, Box wr bm #[v, d] 29 ∧ wr.ownsRow base 42 3 v k ((wordsF L k).map I)
  far : w1.grownBy wr (some bm)
set_option maxHeartbeats 4000000 in
set_option maxRecDepth 100000 in
theorem implMemNew_any (a : Option Addr) (n : Nat) (st t : Int) (xs L : List Int) (w : World) (hA : IntAt w a n xs) (hi : ∀ x ∈ xs, (Lit.int .i64 x).wf = true) (hN : Names w) (hL : TellsL xs st L) :
    Calls Tryd.prog 7 #[RowsV a n n st, .int .i64 t] w fun e w' => (∃ F m fs nn ds ok, e = .returned (.tuple #[MemF F, .bool ok]) ∧ NewSays L t m fs nn ds ok ∧ MemO w' w.heap.size F m fs nn ds) ∧ Below w.heap.size w w' := by
  obtain ⟨W, hW⟩ : ∃ W, ((w.alloc (.cells #[.slice a n n, .int .i64 st] 32)).alloc (.cells #[.slice none 0 0, .slice none 0 0] 29)) = W := ⟨_, rfl⟩
  have hb0 : Below w.heap.size w W := by rw [← hW]; exact ((Below.refl _ w).alloc (Nat.le_refl _) _).alloc (by simp) _
  have hsz : W.heap.size = w.heap.size + 2 := by rw [← hW]; simp
  have X0 : Hid (Box W w.heap.size #[.slice a n n, .int .i64 st] 32) := by rw [← hW]; exact (box_of w _ _).alloc _
  have R0 : Hid (Box W (w.heap.size + 1) #[.slice none 0 0, .slice none 0 0] 29) := by
    have := box_of (w.alloc (.cells #[.slice a n n, .int .i64 st] 32)) #[.slice none 0 0, .slice none 0 0] 29
    rw [hW] at this
    show Box _ _ _ _
    simpa using this
  have HA : Hid (IntAt W a n xs) := hA.below hb0 (Nat.le_refl _)
  have HI : Hid (∀ x ∈ xs, (Lit.int .i64 x).wf = true) := hi
  have HN : Hid (Names W) := hN.below hb0 hN.lt
  have HL : Hid (TellsL xs st L) := hL
  have HB0 : Hid (Below w.heap.size w W) := hb0
  have HW : Hid (((w.alloc (.cells #[.slice a n n, .int .i64 st] 32)).alloc (.cells #[.slice none 0 0, .slice none 0 0] 29)) = W) := hW
  clear hA hi hN hL hW hb0
  rcases hI : inB t 1 4 with _ | _
  · have HIN : Hid (inB t 1 4 = false) := hI
    have HNO : Hid (¬ NewGood L t) := fun h => by rw [inB_yes h.1] at hI; cases hI
    clear hI
    obtain ⟨r0, r1, z0, z1⟩ := R0.out.two
    go_enter Tryd.func7, Tryd.ntmps7
    go_wp2_with fail
    rw [HW.out]
    refine (within_g t 1 4 _).mono ?_
    rintro e w1 ⟨rfl, rfl⟩
    rw [HIN.out]
    have E := ((R0.out.put 0 (.slice none 0 0)).put 1 (.slice none 0 0)).two
    obtain ⟨e0, e1, _, _⟩ := E
    go_wp2
    (try simp only [Exit.inBlock, Exit.then])
    refine bodyPost_ret (by simp [results, Tryd.results7, go_sem, e0, e1]; try rfl) rfl ?_
    exact ⟨⟨_, 0, [], 0, [], false, rfl, .inr ⟨rfl, HNO.out, rfl, rfl, rfl, rfl⟩, memO_none _ _⟩, (HB0.out.setCell (by simp) _).setCell (by simp) _⟩
  have hv := inB_val hI
  have HIN : Hid (inB t 1 4 = true) := hI
  obtain ⟨tn, rfl⟩ : ∃ tn : Nat, t = (tn : Int) := ⟨t.toNat, by omega⟩
  clear hI
  obtain ⟨i0, hin, hz0, hz1, hz2⟩ := info_parts infoDesc
  obtain ⟨j0, hjn, hy0, hy1, hy2⟩ := info_parts infoWord
  go_enter Tryd.func7, Tryd.ntmps7
  go_wp2_with fail
  rw [HW.out]
  refine (within_g _ 1 4 _).mono ?_
  rintro e w1 ⟨rfl, hw1⟩
  rw [HIN.out]
  obtain rfl : W = w1 := hw1.symm
  clear hw1
  obtain ⟨x0, x1, _, _⟩ := X0.out.two
  go_wp2_with
    (at_make
     refine wpList_make_full _ rfl _ _ 27 rfl w.heap.size 59 i0 (.agg (DescC 0 0 none 0 0 0 none 0 0)) 5 Tryd.underlying27 hin hz0 hz1 .i64 .i64 _ _ tn rfl rfl rfl rfl (by rw [hz2]; omega) (by unfold maxLen; omega) (by omega) ?_
     intro w2 own2 grow2
     have hb2 : Below W.heap.size W w2 := (Below.refl _ _).grown grow2 (Nat.le_refl _) (fun k e => by cases e)
     obtain ⟨y0, y1, _, _⟩ := (X0.out.below hb2 X0.out.lt).two
     have l2 := (X0.out.below hb2 X0.out.lt).lt)
  rw [hsz] at own2
  obtain ⟨W2, hW2⟩ : ∃ W2, w2.alloc (.cells #[.slice none 0 0, SL (w.heap.size + 2) tn] 29) = W2 := ⟨_, rfl⟩
  have hb3 : Below w2.heap.size w2 W2 := by rw [← hW2]; exact (Below.refl _ _).alloc (Nat.le_refl _) _
  have hb02 : Below W.heap.size W W2 := hb2.trans (hb3.mono hb2.size)
  have HB2 : Hid (Below W.heap.size W W2) := hb02
  have hl2 : w.heap.size + 2 < w2.heap.size := (own2.lt _ rfl).2
  have OD2 : Hid (W2.ownsRow w.heap.size 59 5 (SL (w.heap.size + 2) tn) tn (madeCells (Value.agg (DescC 0 0 none 0 0 0 none 0 0)).cells (tn * 5)).toList) := owns_below own2 hb3 (Nat.le_refl _)
  have M2 : Hid (Box W2 w2.heap.size #[.slice none 0 0, SL (w.heap.size + 2) tn] 29) := by rw [← hW2]; exact box_of w2 _ _
  have HW2 : Hid (w2.alloc (.cells #[.slice none 0 0, SL (w.heap.size + 2) tn] 29) = W2) := hW2
  obtain ⟨bm, hbm⟩ : ∃ bm, w2.heap.size = bm := ⟨_, rfl⟩
  rw [hbm] at M2 hl2 ⊢
  clear own2 grow2 hb2 y0 y1 hb3 hb02 hW2 x0 x1
  rw [HW2.out]
  refine (implWordsT a n st xs L _ (HA.out.below HB2.out (Nat.le_refl _)) HI.out (HN.out.below HB2.out HN.out.lt) HL.out).mono ?_
  rintro e w3 ⟨⟨la, ln, lc, rfl, hla⟩, hb3⟩
  have HLA : Hid (IntAt w3 la ln L) := hla
  have hln : L.length = ln := hla.1
  have hl20 : ln ≤ 20 := by rw [← hln]; exact HL.out.len
  have M3 : Hid (Box w3 bm #[.slice none 0 0, SL (w.heap.size + 2) tn] 29) := M2.out.below hb3 M2.out.lt
  have HB3 : Hid (Below W.heap.size W w3) := HB2.out.trans (hb3.mono HB2.out.size)
  have OD3 : Hid (w3.ownsRow w.heap.size 59 5 (SL (w.heap.size + 2) tn) tn (madeCells (Value.agg (DescC 0 0 none 0 0 0 none 0 0)).cells (tn * 5)).toList) := owns_below OD2.out hb3 (Nat.le_refl _)
  have APT : Hid (∀ p, la = some p → 0 < ln → p.block ≠ bm) := fun p hp hpos => by
    subst hp
    obtain ⟨pb, po, pm⟩ := p
    rcases hla.2.2 with h0 | ⟨p', o', he, _⟩
    · omega
    · cases he
      exact int_apart hla hpos M3.out (nil_not_int (fun x h => by cases h) (fun x h => by cases h))
  clear hla hb3 M2 OD2 HB2 HW2
  go_wp2
  go_loopw [19] (fun i wr => ∃ k : Nat, k ≤ ln ∧ i = .int .i64 (k : Int) ∧ NewSt w3 bm w3.heap.size (SL (w.heap.size + 2) tn) L k wr) (fun i _ => ln - (intOf i).toNat)
  case atStart => exact ⟨0, Nat.zero_le _, rfl, ⟨_, M3.out, World.ownsRow_nil _ _ _ _⟩, far_below (Below.refl _ _) _⟩
  case round =>
    obtain ⟨k, hk, rfl, hst⟩ := hrel
    have ST : Hid (NewSt w3 bm w3.heap.size (SL (w.heap.size + 2) tn) L k wr) := hst
    obtain ⟨v, hbx, hown⟩ := hst.box
    have hbx' : Hid (Box wr bm #[v, SL (w.heap.size + 2) tn] 29) := hbx
    have HO : Hid (wr.ownsRow w3.heap.size 42 3 v k ((wordsF L k).map I)) := hown
    obtain ⟨c0, c1, z0, z1⟩ := hbx.two
    have hbl := hbx.lt
    clear hst hbx hown
    by_cases hlt : k < ln
    · have hk0 : (0 : Int) ≤ (k : Int) := by omega
      have hk1 : (k : Int) < (ln : Int) := by omega
      rcases (int_grown HLA.out ST.out.far APT.out).2.2 with h0 | ⟨p1, o1, rfl, g1⟩
      · omega
      have e1 := g1 k hlt
      obtain ⟨x, hx⟩ : ∃ x, L.getD k 0 = x := ⟨_, rfl⟩
      have HX : Hid (L.getD k 0 = x) := hx
      rw [hx] at e1
      clear g1 hx
      go_wp2_with
        (at_builtin
         refine wpList_append_own _ rfl _ _ 26 rfl w3.heap.size 42 j0 (.agg #[.int .i64 0, .int .i64 0, .int .i64 0]) 3 24 Tryd.underlying26 hjn hy0 hy1 hy2 rfl (by decide) _ _ _ rfl (HO.out.alloc _) ⟨wr.heap.size, 0, none⟩ 1 1 [I x, I 0, I 0] rfl rfl (cell_three_at _ _ _ _ _) three_one (by unfold maxLen; omega) (by omega) (by have := ST.out.far.size; simp; omega) ?_
         intro v' w4 hown4 hgrow4 _
         have hg4 : wr.grownBy w4 v.ownBlock := (far_below ((Below.refl _ _).alloc (Nat.le_refl _) _) v.ownBlock).trans hgrow4
         have hvb : v.ownBlock ≠ some bm := fun e => by have := (HO.out.lt bm e).1; have := M3.out.lt; omega
         have X4 : Box w4 bm #[v, SL (w.heap.size + 2) tn] 29 := by
           show w4.heap[bm]? = _
           rw [hg4.block bm hbl (fun e => hvb e.symm)]
           exact hbx'.out
         obtain ⟨f0, f1, y0, y1⟩ := X4.two
         obtain ⟨a', c', rfl, _⟩ := owns_slice hown4)
      have NX : Hid (NewSt w3 bm w3.heap.size (SL (w.heap.size + 2) tn) L (k + 1) (w4.setCell ⟨bm, 0, none⟩ (.slice a' (k + 1) c'))) := by
        refine ⟨⟨.slice a' (k + 1) c', X4.put 0 (.slice a' (k + 1) c'), ?_⟩, far_put (far_row ST.out.far hg4 (fun g e => (HO.out.lt g e).1)) 0 _⟩
        refine own_setCell_far ?_ (fun e => ?_) _
        · have e2 : ((wordsF L (k + 1)).map I) = (wordsF L k).map I ++ [I x, I 0, I 0] := by
            unfold wordsF
            rw [flat3_succ, List.map_append, HX.out]
            rfl
          rw [e2]
          exact hown4
        · have h1 := (hown4.lt bm e).1
          have := M3.out.lt
          omega
      clear hown4 hgrow4 hg4 X4 f0 f1 y0 y1 c0 c1 z0 z1 e1
      go_wp2
      exact ⟨⟨k + 1, by omega, by go_num, NX.out⟩, by simp [intOf]; omega⟩
    · obtain rfl : k = ln := by omega
      have hfar := ST.out.far
      have ODr : Hid (wr.ownsRow w.heap.size 59 5 (SL (w.heap.size + 2) tn) tn (madeCells (Value.agg (DescC 0 0 none 0 0 0 none 0 0)).cells (tn * 5)).toList) := owns_heap OD3.out (fun b hb => hfar.block b ((OD3.out.lt b hb).2) (ne_row hl2 hb))
      have hvd : v.ownBlock ≠ some (w.heap.size + 2) := fun e => by have := (HO.out.lt _ e).1; have := M3.out.lt; omega
      have hs3 : w.heap.size ≤ w3.heap.size := by have := HB3.out.size; omega
      have MO : Hid (MemO wr w.heap.size (FNew v (SL (w.heap.size + 2) tn)) k (wordsF L k) tn (zds tn)) := memO_new (own_weaken HO.out hs3) ODr.out hvd
      have HVB : Hid (∀ a, a < 2 + 2 * tn → ∀ b, (FNew v (SL (w.heap.size + 2) tn) a).ownBlock = some b → b ≠ w.heap.size + 1) := fun a ha b hb e => by
        subst e
        unfold FNew at hb
        split at hb
        · have := (HO.out.lt _ hb).1; have := M3.out.lt; omega
        · split at hb
          · simp [Value.ownBlock] at hb
          · cases hb
      have SM : Hid (Small tn (zds tn)) := fun i hi => by rw [zds_at]; exact ⟨by show (0 : Nat) ≤ _; omega, by show (0 : Nat) ≤ _; omega⟩
      obtain ⟨wa, wc, da, dc, hmv, hF0, hF1, tA, dA, cA⟩ := MO.out.open (by omega) (by omega) SM.out
      have hv0 : v = .slice wa k wc := hF0
      have TA : Hid (TripAt wr wa k (wordsF L k) ∧ DescAt wr (some ⟨w.heap.size + 2, 0, none⟩) tn (zds tn) ∧ CapAt wr (some ⟨w.heap.size + 2, 0, none⟩) tn (zds tn)) := by
        cases hF1
        exact ⟨tA, dA, cA⟩
      subst hv0
      have HBr : Hid (Below W.heap.size W wr) := HB3.out.trans ⟨hfar.os, hfar.tape, hfar.output, hfar.size, fun q hq => hfar.block q (Nat.lt_of_lt_of_le hq HB3.out.size) (fun e => by cases e; omega)⟩
      clear tA dA cA hmv hF0 hF1 hfar
      go_wp2_with fail
      refine (implMemOk_any wa k wc (wordsF L k) (some ⟨w.heap.size + 2, 0, none⟩) tn tn (zds tn) _ TA.out.1 TA.out.2.1 TA.out.2.2).mono ?_
      rintro e w5 ⟨ok, ⟨rfl, hok⟩, hb5⟩
      have HB5 : Hid (Below W.heap.size W w5) := HBr.out.trans (hb5.mono HBr.out.size)
      have R5 : Hid (Box w5 (w.heap.size + 1) #[.slice none 0 0, .slice none 0 0] 29) := R0.out.below HB5.out (by omega)
      obtain ⟨r0, r1, y0, y1⟩ := R5.out.two
      have X5 : Hid (Box w5 bm #[.slice wa k wc, SL (w.heap.size + 2) tn] 29) := hbx'.out.below hb5 hbl
      obtain ⟨f0, f1, _, _⟩ := X5.out.two
      have MO5 : Hid (MemO w5 w.heap.size (FNew (.slice wa k wc) (SL (w.heap.size + 2) tn)) k (wordsF L k) tn (zds tn)) := MO.out.below hb5 (Nat.le_refl _)
      have HBW : Hid (Below w.heap.size w w5) := HB0.out.trans (HB5.out.mono HB0.out.size)
      rcases ok with _ | _
      · have HNO : Hid (¬ NewGood L (tn : Int)) := fun h => by
          have h2 := h.2
          rw [hln] at h2
          have := hok.2 h2
          cases this
        clear hok hb5 c0 c1 z0 z1
        obtain ⟨e0, e1, _, _⟩ := ((R5.out.put 0 (.slice none 0 0)).put 1 (.slice none 0 0)).two
        go_wp2
        (try simp only [Exit.inBlock, Exit.then])
        refine bodyPost_ret (by simp [results, Tryd.results7, go_sem, e0, e1]; try rfl) rfl ?_
        exact ⟨⟨_, 0, [], 0, [], false, rfl, .inr ⟨rfl, HNO.out, rfl, rfl, rfl, rfl⟩, memO_none _ _⟩, (HBW.out.setCell (by simp) _).setCell (by simp) _⟩
      · have HG : Hid (NewGood L (tn : Int)) := ⟨hv, by rw [hln]; exact hok.1 rfl⟩
        clear hok hb5 c0 c1 z0 z1
        obtain ⟨e0, e1, _, _⟩ := ((R5.out.put 0 (.slice wa k wc)).put 1 (SL (w.heap.size + 2) tn)).two
        go_wp2
        (try simp only [Exit.inBlock, Exit.then])
        refine bodyPost_ret (by simp [results, Tryd.results7, go_sem, e0, e1]; try rfl) rfl ?_
        refine ⟨⟨FNew (.slice wa k wc) (SL (w.heap.size + 2) tn), k, wordsF L k, tn, zds tn, true, rfl, .inl ⟨rfl, HG.out, hln.symm, rfl, rfl, rfl⟩, ?_⟩, (HBW.out.setCell (by simp) _).setCell (by simp) _⟩
        exact MO5.out.heap fun a ha b hb => by rw [Below.heap_setCell _ _ _ _ (HVB.out a ha b hb), Below.heap_setCell _ _ _ _ (HVB.out a ha b hb)]
end Go.Proofs.YtbdfopokimpeiaqDoor
