/- Texts joined: Desc, SpecDesc. -/
import Derived.Test.YtbfolanfbagofaaGreatDoorQA01
import Derived.Test.YtbfolanfbagofaaGreatDoorQA07
import Derived.Deep.QuietTactic
import Derived.BigQuiet
set_option maxHeartbeats 4000000
set_option maxRecDepth 100000
namespace Go.Proofs.YtbfolanfbagofaaGreatDoor
section
open Go.ChangeShapes Go.WideShapes Go.ChangeAt Go.RowKit
abbrev DescV (sq st : Int) (ea : Option Addr) (en ec : Nat) (cd : Int) (ra : Option Addr) (rn rc : Nat) : Value := .agg #[.int .i64 sq, .int .i64 st, .slice ea en ec, .int .i64 cd, .slice ra rn rc]
abbrev DescC (sq st : Int) (ea : Option Addr) (en ec : Nat) (cd : Int) (ra : Option Addr) (rn rc : Nat) : Array Value := #[.int .i64 sq, .int .i64 st, .slice ea en ec, .int .i64 cd, .slice ra rn rc]
theorem Box.desc {w : World} {b : Nat} {T : TypeId} {sq st cd : Int} {ea ra : Option Addr} {en ec rn rc : Nat} (h : Box w b (DescC sq st ea en ec cd ra rn rc) T) :
   w.cell? ⟨b, 0, none⟩ = some (.int .i64 sq) ∧ w.cell? ⟨b, 1, none⟩ = some (.int .i64 st) ∧ w.cell? ⟨b, 2, none⟩ = some (.slice ea en ec) ∧ w.cell? ⟨b, 3, none⟩ = some (.int .i64 cd) ∧ w.cell? ⟨b, 4, none⟩ = some (.slice ra rn rc) ∧
   w.frozen? ⟨b, 0, none⟩ = false ∧ w.frozen? ⟨b, 1, none⟩ = false ∧ w.frozen? ⟨b, 2, none⟩ = false ∧ w.frozen? ⟨b, 3, none⟩ = false ∧ w.frozen? ⟨b, 4, none⟩ = false :=
 ⟨h.cell 0, h.cell 1, h.cell 2, h.cell 3, h.cell 4, h.frozen 0, h.frozen 1, h.frozen 2, h.frozen 3, h.frozen 4⟩
theorem l1In_yes {x lo hi : Int} (h : inB x lo hi = true) (w : World) : Calls Tryz.prog 39 #[.int .i64 x, .int .i64 lo, .int .i64 hi] w fun e w' => e = .returned (.bool true) ∧ w' = w := by
 have := l1In_g x lo hi w
 rwa [h] at this
theorem l1In_not {x lo hi : Int} (h : inB x lo hi = false) (w : World) : Calls Tryz.prog 39 #[.int .i64 x, .int .i64 lo, .int .i64 hi] w fun e w' => e = .returned (.bool false) ∧ w' = w := by
 have := l1In_g x lo hi w
 rwa [h] at this
theorem entOk_iff2 {es : List Int} {k : Nat} : entOk es k ↔ (inB (es.getD (k * 3) 0) 0 19 = true ∧ inB (es.getD (k * 3 + 1) 0) 0 1000 = true ∧ inB (es.getD (k * 3 + 2) 0) 0 1000 = true ∧ (0 < k → es.getD ((k - 1) * 3) 0 < es.getD (k * 3) 0)) := by
 unfold inB entOk
 simp only [decide_eq_true_eq]
theorem specDescOk_any (sq st : Int) (ea : Option Addr) (en ec : Nat) (es : List Int) (cd : Int) (ra : Option Addr) (rn rc : Nat) (w : World) (h1 : TripAt w ea en es) :
   Calls Tryz.prog 112 #[DescV sq st ea en ec cd ra rn rc] w fun e w' => e = .returned (.bool (descOkM sq st en es cd rn)) ∧ Below w.heap.size w w' := by
 have H1 : Hid (TripAt w ea en es) := h1
 have hn := h1.2.1
 have hb0 : Below w.heap.size w (w.alloc (.cells (DescC sq st ea en ec cd ra rn rc) 130)) := (Below.refl _ w).alloc (Nat.le_refl _) _
 have HB0 : Hid _ := hb0
 obtain ⟨B, hB⟩ : ∃ B, descOkM sq st en es cd rn = B := ⟨_, rfl⟩
 rw [hB]
 have HM : Hid (descOkM sq st en es cd rn = B) := hB
 clear h1 hb0 hB
 by_cases hq : sq = 0
 · subst hq
   by_cases hs : st = 0
   · subst hs
     by_cases he : en = 0
     · subst he
       by_cases hc : cd = 0
       · subst hc
         have HR : Hid (((rn : Int) == 0) = B) := by
           show _ = _
           rw [← HM.out, Bool.eq_iff_iff]
           simp [descOkM]
         clear HM
         go_enter Tryz.func112, Tryz.ntmps112
         go_wp2
         go_ret
         exact ⟨by rw [HR.out]; rfl, HB0.out⟩
       · have hc' : (cd == 0) = false := by simpa using hc
         obtain rfl : B = false := by rw [← HM.out]; simp [descOkM, hc]
         clear HM hc
         go_enter Tryz.func112, Tryz.ntmps112
         go_wp2
         go_ret
         exact ⟨rfl, HB0.out⟩
     · have he' : ((en : Int) == 0) = false := by simpa using he
       obtain rfl : B = false := by rw [← HM.out]; simp [descOkM, he]
       clear HM he
       go_enter Tryz.func112, Tryz.ntmps112
       go_wp2
       go_ret
       exact ⟨rfl, HB0.out⟩
   · have hs' : (st == 0) = false := by simpa using hs
     obtain rfl : B = false := by rw [← HM.out]; simp [descOkM, hs]
     clear HM hs
     go_enter Tryz.func112, Tryz.ntmps112
     go_wp2
     go_ret
     exact ⟨rfl, HB0.out⟩
 · have hq' : (sq == 0) = false := by simpa using hq
   rcases hA : inB sq 1 1000000 with _ | _
   · obtain rfl : B = false := by rw [← HM.out]; simp [descOkM, hq, hA]
     have HA : Hid (inB sq 1 1000000 = false) := hA
     clear HM hA hq
     go_enter Tryz.func112, Tryz.ntmps112
     go_wp2_with fail
     refine (l1In_not HA.out _).mono ?_
     rintro e w1 ⟨rfl, rfl⟩
     go_wp2
     go_ret
     exact ⟨rfl, HB0.out⟩
   · have HA : Hid (inB sq 1 1000000 = true) := hA
     rcases hS : inB st 1 3 with _ | _
     · obtain rfl : B = false := by rw [← HM.out]; simp [descOkM, hq, hS]
       have HS : Hid (inB st 1 3 = false) := hS
       clear HM hA hS hq
       go_enter Tryz.func112, Tryz.ntmps112
       go_wp2_with fail
       refine (l1In_yes HA.out _).mono ?_
       rintro e w1 ⟨rfl, rfl⟩
       go_wp2_with fail
       refine (l1In_not HS.out _).mono ?_
       rintro e w2 ⟨rfl, rfl⟩
       go_wp2
       go_ret
       exact ⟨rfl, HB0.out⟩
     · have HS : Hid (inB st 1 3 = true) := hS
       have HE : Hid (decide (∀ i, i < en → entOk es i) = B) := by show _ = _; rw [← HM.out]; simp [descOkM, hq, hA, hS]
       clear HM hA hS hq
       by_cases h20 : en ≤ 20
       · have h20' : ¬ (20 : Int) < (en : Int) := by omega
         go_enter Tryz.func112, Tryz.ntmps112
         go_wp2_with fail
         refine (l1In_yes HA.out _).mono ?_
         rintro e w1 ⟨rfl, rfl⟩
         go_wp2_with fail
         refine (l1In_yes HS.out _).mono ?_
         rintro e w2 ⟨rfl, rfl⟩
         go_wp2
         go_loopw [3] (fun i wr => ∃ k : Nat, k ≤ en ∧ i = .int .i64 (k : Int) ∧ (∀ i, i < k → entOk es i) ∧ Box wr w.heap.size (DescC sq st ea en ec cd ra rn rc) 130 ∧ Below w.heap.size w wr) (fun i _ => en - (intOf i).toNat)
         case atStart => exact ⟨0, Nat.zero_le _, rfl, fun i hi => by omega, box_of w _ _, HB0.out⟩
         case round =>
           obtain ⟨k, hk, rfl, hok, hbox, hb⟩ := hrel
           have HOK : Hid (∀ i, i < k → entOk es i) := hok
           have HBOX : Hid _ := hbox
           obtain ⟨_, _, x2, _, _, _, _, _, _, _⟩ := hbox.desc
           have hlt0 := hbox.lt
           clear hok hbox
           by_cases hlt : k < en
           · rcases (H1.out.below hb (Nat.le_refl _)).2.2 with h0 | ⟨p1, o1, rfl, g1⟩
             · omega
             have hk0 : (0 : Int) ≤ (k : Int) := by omega
             have hk1 : (k : Int) < (en : Int) := by omega
             have e1 := g1 (k * 3) (by omega)
             have e2 := g1 (k * 3 + 1) (by omega)
             have e3 := g1 (k * 3 + 2) (by omega)
             have HI : Hid (entOk es k ↔ (inB (es.getD (k * 3) 0) 0 19 = true ∧ inB (es.getD (k * 3 + 1) 0) 0 1000 = true ∧ inB (es.getD (k * 3 + 2) 0) 0 1000 = true ∧ (0 < k → es.getD ((k - 1) * 3) 0 < es.getD (k * 3) 0))) := entOk_iff2
             have e0 : 0 < k → wr.cell? ⟨p1, o1 + (k - 1) * 3, none⟩ = some (I (es.getD ((k - 1) * 3) 0)) := fun _ => g1 ((k - 1) * 3) (by omega)
             have hp1 : p1 < wr.heap.size := World.block_lt_of_cell? wr _ e1
             obtain ⟨x, hx⟩ : ∃ x, es.getD (k * 3) 0 = x := ⟨_, rfl⟩
             obtain ⟨y, hy⟩ : ∃ y, es.getD (k * 3 + 1) 0 = y := ⟨_, rfl⟩
             obtain ⟨z, hz⟩ : ∃ z, es.getD (k * 3 + 2) 0 = z := ⟨_, rfl⟩
             obtain ⟨l, hl⟩ : ∃ l, es.getD ((k - 1) * 3) 0 = l := ⟨_, rfl⟩
             rw [hx, hy, hz, hl] at HI
             rw [hx] at e1
             rw [hl] at e0
             rw [hy, ← Nat.add_assoc] at e2
             rw [hz, ← Nat.add_assoc] at e3
             clear g1 hx hy hz hl
             have HBX : Hid (Below w.heap.size w (wr.alloc (.cells #[.int .i64 x, .int .i64 y, .int .i64 z] 161))) := hb.alloc hb.size _
             have NO : Hid (¬ entOk es k → B = false) := fun hno => by rw [← HE.out]; exact decide_eq_false fun hall => hno (hall k hlt)
             rcases hA : inB x 0 19 with _ | _
             · obtain rfl : B = false := NO.out fun h => by have := (HI.out.1 h).1; rw [hA] at this; cases this
               have HAA : Hid (inB x 0 19 = false) := hA
               clear hA HI NO HE
               go_wp2
               go_quiet (first | (go_at_call 39; with_reducible exact Calls.quiet_of_same (l1In_not HAA.out _)) | fail)
               go_wp2
               go_ret
               exact ⟨rfl, below_drewN6 HBX.out nq⟩
             · have HAA : Hid (inB x 0 19 = true) := hA
               rcases hO : inB y 0 1000 with _ | _
               · obtain rfl : B = false := NO.out fun h => by have := (HI.out.1 h).2.1; rw [hO] at this; cases this
                 have HO : Hid (inB y 0 1000 = false) := hO
                 clear hA hO HI NO HE
                 go_wp2
                 go_quiet (first | (go_at_call 39; first | with_reducible exact Calls.quiet_of_same (l1In_yes HAA.out _) | with_reducible exact Calls.quiet_of_same (l1In_not HO.out _)) | fail)
                 go_wp2
                 go_ret
                 exact ⟨rfl, below_drewN6 HBX.out nq⟩
               · have HO : Hid (inB y 0 1000 = true) := hO
                 rcases hW : inB z 0 1000 with _ | _
                 · obtain rfl : B = false := NO.out fun h => by have := (HI.out.1 h).2.2.1; rw [hW] at this; cases this
                   have HW : Hid (inB z 0 1000 = false) := hW
                   clear hA hO hW HI NO HE
                   go_wp2
                   go_quiet (first | (go_at_call 39; first | with_reducible exact Calls.quiet_of_same (l1In_yes HAA.out _) | with_reducible exact Calls.quiet_of_same (l1In_yes HO.out _) | with_reducible exact Calls.quiet_of_same (l1In_not HW.out _)) | fail)
                   go_wp2
                   go_ret
                   exact ⟨rfl, below_drewN6 HBX.out nq⟩
                 · have HW : Hid (inB z 0 1000 = true) := hW
                   by_cases hk0' : k = 0
                   · have YES : Hid (entOk es k) := HI.out.2 ⟨hA, hO, hW, fun h => by omega⟩
                     have hkz : decide ((0 : Int) < (k : Int)) = false := decide_eq_false (by omega)
                     have HK : Hid (k = 0) := hk0'
                     have hkn : decide (0 < k) = false := decide_eq_false (by omega)
                     clear hA hO hW HI NO hk0' e0
                     go_wp2
                     go_quiet (first | (go_at_call 39; first | with_reducible exact Calls.quiet_of_same (l1In_yes HAA.out _) | with_reducible exact Calls.quiet_of_same (l1In_yes HO.out _) | with_reducible exact Calls.quiet_of_same (l1In_yes HW.out _)) | fail)
                     go_wp2
                     exact ⟨⟨k + 1, by omega, by go_num, fun i hi => by
                       by_cases e : i = k
                       · rw [e]; exact YES.out
                       · exact HOK.out i (by omega), (Box.alloc HBOX.out _).below (below_drewN6 (Below.refl (wr.heap.size + 1) _) nq) (by omega), below_drewN6 HBX.out nq⟩, by simp [intOf]; omega⟩
                   · have e4 := e0 (by omega)
                     obtain ⟨j, rfl⟩ : ∃ j, k = j + 1 := ⟨k - 1, by omega⟩
                     rw [Nat.add_sub_cancel] at e4
                     have hkz : decide ((0 : Int) < ((j + 1 : Nat) : Int)) = true := decide_eq_true (by omega)
                     have hj0 : (0 : Int) ≤ (j : Int) := by omega
                     have hj1 : (j : Int) < (en : Int) := by omega
                     have hjj : (((j + 1 : Nat) : Int)) - 1 = (j : Int) := by omega
                     by_cases hlx : l < x
                     · have YES : Hid (entOk es (j + 1)) := HI.out.2 ⟨hA, hO, hW, fun _ => hlx⟩
                       have hlx' : decide (x ≤ l) = false := decide_eq_false (by omega)
                       clear hA hO hW HI NO hk0' e0 hlx
                       go_wp2
                       go_quiet (first | (go_at_call 39; first | with_reducible exact Calls.quiet_of_same (l1In_yes HAA.out _) | with_reducible exact Calls.quiet_of_same (l1In_yes HO.out _) | with_reducible exact Calls.quiet_of_same (l1In_yes HW.out _)) | fail)
                       go_wp2
                       exact ⟨⟨j + 1 + 1, by omega, by go_num, fun i hi => by
                         by_cases e : i = j + 1
                         · rw [e]; exact YES.out
                         · exact HOK.out i (by omega), (Box.alloc HBOX.out _).below (below_drewN6 (Below.refl (wr.heap.size + 1) _) nq) (by omega), below_drewN6 HBX.out nq⟩, by simp [intOf]; omega⟩
                     · obtain rfl : B = false := NO.out fun h => hlx ((HI.out.1 h).2.2.2 (by omega))
                       have hlx' : decide (x ≤ l) = true := decide_eq_true (by omega)
                       clear hA hO hW HI NO hk0' e0 hlx HE
                       go_wp2
                       go_quiet (first | (go_at_call 39; first | with_reducible exact Calls.quiet_of_same (l1In_yes HAA.out _) | with_reducible exact Calls.quiet_of_same (l1In_yes HO.out _) | with_reducible exact Calls.quiet_of_same (l1In_yes HW.out _)) | fail)
                       go_wp2
                       go_ret
                       exact ⟨rfl, below_drewN6 HBX.out nq⟩
           · obtain rfl : k = en := by omega
             obtain rfl : B = true := by rw [← HE.out]; exact decide_eq_true HOK.out
             go_wp2
             go_ret
             exact ⟨rfl, hb⟩
       · have h20' : (20 : Int) < (en : Int) := by omega
         obtain rfl : B = false := by rw [← HE.out]; exact decide_eq_false fun h => h20 (entOk_few h)
         clear HE
         go_enter Tryz.func112, Tryz.ntmps112
         go_wp2_with fail
         refine (l1In_yes HA.out _).mono ?_
         rintro e w1 ⟨rfl, rfl⟩
         go_wp2_with fail
         refine (l1In_yes HS.out _).mono ?_
         rintro e w2 ⟨rfl, rfl⟩
         go_wp2
         go_ret
         exact ⟨rfl, HB0.out⟩
end
end Go.Proofs.YtbfolanfbagofaaGreatDoor
