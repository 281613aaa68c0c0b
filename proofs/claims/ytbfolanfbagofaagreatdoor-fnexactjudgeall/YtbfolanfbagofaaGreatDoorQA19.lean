/- Texts joined: SpecCopy, SpecAfter, Dat. -/
import Derived.Test.YtbfolanfbagofaaGreatDoorQA01
import Derived.Test.YtbfolanfbagofaaGreatDoorQA18
set_option maxHeartbeats 2000000
set_option maxRecDepth 100000
namespace Go.Proofs.YtbfolanfbagofaaGreatDoor
section
open Go.ChangeShapes Go.WideShapes Go.ChangeAt Go.RowKit
theorem l3Copy_any (p o n cp : Nat) (st : Int) (xs : List Int) (w : World) (hA : IntAt w (some ⟨p, o, none⟩) n xs) :
   Calls Tryz.prog 60 #[.agg #[.slice (some ⟨p, o, none⟩) n cp, .int .i64 st]] w fun e w' => ∃ (a' : Option Addr) (c' : Nat), e = .returned (.agg #[.slice a' n c', .int .i64 st]) ∧ w'.ownsRow (w.heap.size + 1 + 1) 3 1 (.slice a' n c') n (xs.map I) ∧ Below w.heap.size w w' := by
 obtain ⟨i0, hi, hz0, hz1, hz2⟩ := info_parts infoInt
 have HA : Hid (IntAt w (some ⟨p, o, none⟩) n xs) := hA
 have HL : Hid (xs.length = n) := hA.1
 have hn := hA.2.1
 clear hA
 go_enter Tryz.func60, Tryz.ntmps60
 go_wp2_with fail
 have HB0 : Hid (Below w.heap.size w ((w.alloc (.cells #[.slice (some ⟨p, o, none⟩) n cp, .int .i64 st] 41)).alloc (.cells #[.slice none 0 0, .int .i64 0] 41))) := ((Below.refl _ w).alloc (Nat.le_refl _) _).alloc (by simp) _
 have HG := (HA.out.below HB0.out (Nat.le_refl _)).cells
 have HG1 : Hid _ := HG
 clear HG
 go_region_law
   (refine step_append_own _ (by rfl) _ _ 28 (by rfl) (w.heap.size + 1 + 1) 3 i0 (.int .i64 0) 1 8 Tryz.underlying28 hi hz0 hz1 hz2 (by rfl) (by decide) (.slice (some ⟨w.heap.size + 1 + 1, 0, none⟩) 0 0) 0 [] (by rfl) (own_empty_drew (by simp) (by omega)) ⟨p, o, none⟩ n cp (xs.map I) (by rfl) (news_len HL.out) (news_at_drew HL.out HG1.out) news_one (by unfold maxLen; omega) (by omega) (by simp) ?_
    intro v' w' hown hgrow _
    have hown2 : w'.ownsRow (w.heap.size + 1 + 1) 3 1 v' n (xs.map I) := by simpa using hown
    obtain ⟨a', c', rfl, hat⟩ := own_at hown2 hn
    have HOWN : Hid (w'.ownsRow (w.heap.size + 1 + 1) 3 1 (.slice a' n c') n (xs.map I)) := hown2
    clear hown hown2 hat
    have hbx := below_appended_drew (Below.refl (w.heap.size + 1 + 1) _) (by simp) (by simp) hgrow
    have r1 : w'.cell? ⟨w.heap.size, 1, none⟩ = some (.int .i64 st) := (hbx.cell (show w.heap.size < w.heap.size + 1 + 1 by omega)).trans (by simp [World.cell?_alloc_past, World.cell?_alloc_at])
    have r2 : w'.cell? ⟨w.heap.size + 1, 0, none⟩ = some (.slice none 0 0) := (hbx.cell (show w.heap.size + 1 < w.heap.size + 1 + 1 by omega)).trans (by simp [World.cell?_alloc_at])
    have r3 : w'.cell? ⟨w.heap.size + 1, 1, none⟩ = some (.int .i64 0) := (hbx.cell (show w.heap.size + 1 < w.heap.size + 1 + 1 by omega)).trans (by simp [World.cell?_alloc_at])
    have r4 : w'.frozen? ⟨w.heap.size + 1, 0, none⟩ = false := (hbx.frozen (show w.heap.size + 1 < w.heap.size + 1 + 1 by omega)).trans (by simp [World.frozen?_alloc_at])
    have r5 : w'.frozen? ⟨w.heap.size + 1, 1, none⟩ = false := (hbx.frozen (show w.heap.size + 1 < w.heap.size + 1 + 1 by omega)).trans (by simp [World.frozen?_alloc_at]))
 all_goals
   have HBX : Hid (Below w.heap.size w w') := HB0.out.trans (hbx.mono (by omega))
   clear hbx hgrow
   go_wp2
   (try simp only [Exit.inBlock, Exit.then])
   refine bodyPost_ret (by simp [results, Tryz.results60, go_sem, r2, r3]; try rfl) rfl ?_
   exact ⟨a', c', rfl, ownsRow_setCell_below (ownsRow_setCell_below HOWN.out (by simp) _) (by simp) _, (HBX.out.setCell (by simp) _).setCell (by simp) _⟩
theorem specAfter_any (a2 : Option Addr) (p q n cp n2 c2 : Nat) (st kind k v code : Int) (xs ys : List Int) (w : World) (hA : IntAt w (some ⟨p, q, none⟩) n xs) (h2 : IntAt w a2 n2 ys) :
   Calls Tryz.prog 62 #[.agg #[.slice (some ⟨p, q, none⟩) n cp, .int .i64 st], OpV kind k v, ResV code a2 n2 c2] w fun e w' => AfterSays e w w' n (AfterM xs st kind k v code ys) ∧ Below w.heap.size w w' := by
 have HA : Hid (IntAt w (some ⟨p, q, none⟩) n xs) := hA
 have H2 : Hid (IntAt w a2 n2 ys) := h2
 clear hA h2
 go_enter Tryz.func62, Tryz.ntmps62
 go_wp2_with fail
 have HB0 : Hid (Below w.heap.size w ((((w.alloc (.cells #[.slice (some ⟨p, q, none⟩) n cp, .int .i64 st] 41)).alloc (.cells #[.int .i64 kind, .int .i64 k, .int .i64 v] 81)).alloc (.cells #[.int .i64 code, .slice a2 n2 c2] 82)).alloc (.cells #[.slice none 0 0, .int .i64 0] 41))) := ((((Below.refl _ w).alloc (Nat.le_refl _) _).alloc (by simp) _).alloc (by simp; omega) _).alloc (by simp; omega) _
 refine (l3Copy_any p q n cp st xs _ (HA.out.below HB0.out (Nat.le_refl _))).mono ?_
 rintro e w1 ⟨a', c', rfl, own1, hb1⟩
 simp only [World.size_alloc] at hb1 own1
 have hs1 := hb1.size
 simp only [World.size_alloc] at hs1
 have HC : Hid (∀ wr, Below (w.heap.size + 1 + 1 + 1 + 1) ((((w.alloc (.cells #[.slice (some ⟨p, q, none⟩) n cp, .int .i64 st] 41)).alloc (.cells #[.int .i64 kind, .int .i64 k, .int .i64 v] 81)).alloc (.cells #[.int .i64 code, .slice a2 n2 c2] 82)).alloc (.cells #[.slice none 0 0, .int .i64 0] 41)) wr → Four w #[.slice (some ⟨p, q, none⟩) n cp, .int .i64 st] #[.int .i64 kind, .int .i64 k, .int .i64 v] #[.int .i64 code, .slice a2 n2 c2] #[.slice none 0 0, .int .i64 0] wr) := fun wr h => four_at w _ _ _ _ _ _ _ _ wr h
 have hbW := hb1.alloc hs1 (.cells #[.slice a' n c', .int .i64 st] 41)
 have HB1 : Hid (Below (w.heap.size + 1 + 1 + 1 + 1) ((((w.alloc (.cells #[.slice (some ⟨p, q, none⟩) n cp, .int .i64 st] 41)).alloc (.cells #[.int .i64 kind, .int .i64 k, .int .i64 v] 81)).alloc (.cells #[.int .i64 code, .slice a2 n2 c2] 82)).alloc (.cells #[.slice none 0 0, .int .i64 0] 41)) (w1.alloc (.cells #[.slice a' n c', .int .i64 st] 41))) := hbW
 have HBw1 : Hid (Below w.heap.size w (w1.alloc (.cells #[.slice a' n c', .int .i64 st] 41))) := HB0.out.trans (hbW.mono (by omega))
 have OWN1 : Hid ((w1.alloc (.cells #[.slice a' n c', .int .i64 st] 41)).ownsRow (w.heap.size + 1 + 1 + 1 + 1) 3 1 (.slice a' n c') n (xs.map I)) := (own_weaken own1 (by omega)).alloc _
 have c0 := (HC.out _ hbW).1 0 _ rfl
 have c1 := (HC.out _ hbW).1 1 _ rfl
 have d0 := (HC.out _ hbW).2.1 0 _ rfl
 have d1 := (HC.out _ hbW).2.1 1 _ rfl
 have d2 := (HC.out _ hbW).2.1 2 _ rfl
 have f0 := (HC.out _ hbW).2.2.1 0 _ rfl
 have f1 := (HC.out _ hbW).2.2.1 1 _ rfl
 have hlt1 : Hid (∀ k, (Value.slice a' n c').ownBlock = some k → k < w1.heap.size) := fun k hk => (own1.lt k hk).2
 clear hb1 own1 hbW
 go_wp2_with fail
 refine (specAllowed_any _ a2 n cp n2 c2 st kind k v code xs ys _ (HA.out.below HBw1.out (Nat.le_refl _)) (H2.out.below HBw1.out (Nat.le_refl _))).mono ?_
 rintro e w2 ⟨⟨ok, rfl, hok⟩, hb2⟩
 have hbW2 := HB1.out.trans (hb2.mono (by simp; omega))
 have HBw2 : Hid (Below w.heap.size w w2) := HBw1.out.trans (hb2.mono (by simp; omega))
 have OWN2 : Hid (w2.ownsRow (w.heap.size + 1 + 1 + 1 + 1) 3 1 (.slice a' n c') n (xs.map I)) := owns_below OWN1.out hb2 (Nat.le_refl _)
 have o0 : w2.cell? ⟨w1.heap.size, 0, none⟩ = some (.slice a' n c') := by rw [hb2.cell (by simp)]; simp
 have o1 : w2.cell? ⟨w1.heap.size, 1, none⟩ = some (.int .i64 st) := by rw [hb2.cell (by simp)]; simp
 have z0 : w2.frozen? ⟨w1.heap.size, 0, none⟩ = false := by rw [hb2.frozen (by simp)]; simp
 have z1 : w2.frozen? ⟨w1.heap.size, 1, none⟩ = false := by rw [hb2.frozen (by simp)]; simp
 have c0 := (HC.out _ hbW2).1 0 _ rfl
 have c1 := (HC.out _ hbW2).1 1 _ rfl
 have d0 := (HC.out _ hbW2).2.1 0 _ rfl
 have d1 := (HC.out _ hbW2).2.1 1 _ rfl
 have d2 := (HC.out _ hbW2).2.1 2 _ rfl
 have f0 := (HC.out _ hbW2).2.2.1 0 _ rfl
 have f1 := (HC.out _ hbW2).2.2.1 1 _ rfl
 have v0 := (HC.out _ hbW2).2.2.2.1 0 _ rfl
 have v1 := (HC.out _ hbW2).2.2.2.1 1 _ rfl
 have y0 := (HC.out _ hbW2).2.2.2.2 0
 have y1 := (HC.out _ hbW2).2.2.2.2 1
 have HOK : Hid (ok = true ↔ AllowM xs st kind k v code ys) := hok
 clear hb2 hbW2 hok OWN1 HB1 HBw1
 cases ok
 · have HM : Hid (AfterM xs st kind k v code ys xs st) := .inr ⟨fun h => (by have := HOK.out.2 h.1; cases this), rfl, rfl⟩
   go_wp2
   (try simp only [Exit.inBlock, Exit.then])
   refine bodyPost_ret (by simp [results, Tryz.results62, go_sem, v0, v1]; try rfl) rfl ?_
   exact ⟨⟨xs, st, a', c', rfl, HM.out, own_weaken (ownsRow_setCell_below (ownsRow_setCell_below OWN2.out (by simp) _) (by simp) _) (by omega)⟩, (HBw2.out.setCell (by simp; omega) _).setCell (by simp; omega) _⟩
 have hal := HOK.out.1 rfl
 obtain rfl : n = 4 := by rw [← HA.out.1]; exact hal.1.1
 have HAL : Hid (AllowM xs st kind k v code ys) := hal
 clear HOK
 by_cases hc : code = 0
 · subst hc
   have hop := hal.2.1
   clear hal
   rcases kinds hop.1 with rfl | rfl | rfl | rfl | rfl | rfl | rfl | rfl | rfl | rfl
   · obtain ⟨m, rfl⟩ : ∃ m : Nat, k = m := ⟨k.toNat, by have := hop.2.1; unfold KeyGood at this; omega⟩
     have hm : m < 4 := by have := hop.2.1; unfold KeyGood at this; omega
     have HM : Hid (AfterM xs st 1 m v 0 ys (xs.set m v) st) := .inl ⟨HAL.out, rfl, .inl ⟨by omega, rfl, rfl⟩⟩
     clear hop
     rcases OWN2.out.2 with ⟨_, h0⟩ | ⟨g, cap, cur, hv, hbg, hgg, _⟩
     · omega
     obtain ⟨rfl, rfl⟩ : a' = some ⟨g, 0, none⟩ ∧ c' = cap := by simpa using hv
     have hst := (OWN2.out.stored m (I v)).1
     rw [← List.map_set] at hst
     have HS : Hid ((w2.setCell ⟨g, m, none⟩ (I v)).ownsRow (w.heap.size + 1 + 1 + 1 + 1) 3 1 (.slice (some ⟨g, 0, none⟩) 4 c') 4 ((xs.set m v).map I)) := hst
     have hfz := OWN2.out.frozenAt m
     obtain ⟨u0, hu⟩ := own_cell OWN2.out hm
     have hg1 : g < w1.heap.size := hlt1.out g rfl
     have HG1 : Hid (g < w1.heap.size) := hg1
     have p0 : (w2.setCell ⟨g, m, none⟩ (I v)).cell? ⟨w1.heap.size, 0, none⟩ = some (.slice (some ⟨g, 0, none⟩) 4 c') := by rw [World.cell?_setCell_other _ _ _ _ (fun e => by cases e; omega)]; exact o0
     have p1 : (w2.setCell ⟨g, m, none⟩ (I v)).cell? ⟨w1.heap.size, 1, none⟩ = some (.int .i64 st) := by rw [World.cell?_setCell_other _ _ _ _ (fun e => by cases e; omega)]; exact o1
     clear hst hv hgg
     go_wp2
     (try simp only [Exit.inBlock, Exit.then])
     refine bodyPost_ret (by simp [results, Tryz.results62, go_sem, v0, v1]; try rfl) rfl ?_
     exact ⟨⟨xs.set m v, st, some ⟨g, 0, none⟩, c', rfl, HM.out, own_weaken (ownsRow_setCell_below (ownsRow_setCell_below HS.out (by simp) _) (by simp) _) (by omega)⟩, ((HBw2.out.setCell (by simp; omega) _).setCell (by simp; omega) _).setCell (by simp; omega) _⟩
   · obtain ⟨m, rfl⟩ : ∃ m : Nat, k = m := ⟨k.toNat, by have := hop.2.1; unfold KeyGood at this; omega⟩
     have hm : m < 4 := by have := hop.2.1; unfold KeyGood at this; omega
     have HM : Hid (AfterM xs st 2 m v 0 ys (xs.set m v) st) := .inl ⟨HAL.out, rfl, .inl ⟨by omega, rfl, rfl⟩⟩
     clear hop
     rcases OWN2.out.2 with ⟨_, h0⟩ | ⟨g, cap, cur, hv, hbg, hgg, _⟩
     · omega
     obtain ⟨rfl, rfl⟩ : a' = some ⟨g, 0, none⟩ ∧ c' = cap := by simpa using hv
     have hst := (OWN2.out.stored m (I v)).1
     rw [← List.map_set] at hst
     have HS : Hid ((w2.setCell ⟨g, m, none⟩ (I v)).ownsRow (w.heap.size + 1 + 1 + 1 + 1) 3 1 (.slice (some ⟨g, 0, none⟩) 4 c') 4 ((xs.set m v).map I)) := hst
     have hfz := OWN2.out.frozenAt m
     obtain ⟨u0, hu⟩ := own_cell OWN2.out hm
     have hg1 : g < w1.heap.size := hlt1.out g rfl
     have HG1 : Hid (g < w1.heap.size) := hg1
     have p0 : (w2.setCell ⟨g, m, none⟩ (I v)).cell? ⟨w1.heap.size, 0, none⟩ = some (.slice (some ⟨g, 0, none⟩) 4 c') := by rw [World.cell?_setCell_other _ _ _ _ (fun e => by cases e; omega)]; exact o0
     have p1 : (w2.setCell ⟨g, m, none⟩ (I v)).cell? ⟨w1.heap.size, 1, none⟩ = some (.int .i64 st) := by rw [World.cell?_setCell_other _ _ _ _ (fun e => by cases e; omega)]; exact o1
     clear hst hv hgg
     go_wp2
     (try simp only [Exit.inBlock, Exit.then])
     refine bodyPost_ret (by simp [results, Tryz.results62, go_sem, v0, v1]; try rfl) rfl ?_
     exact ⟨⟨xs.set m v, st, some ⟨g, 0, none⟩, c', rfl, HM.out, own_weaken (ownsRow_setCell_below (ownsRow_setCell_below HS.out (by simp) _) (by simp) _) (by omega)⟩, ((HBw2.out.setCell (by simp; omega) _).setCell (by simp; omega) _).setCell (by simp; omega) _⟩
   · obtain ⟨m, rfl⟩ : ∃ m : Nat, k = m := ⟨k.toNat, by have := hop.2.1; unfold KeyGood at this; omega⟩
     have hm : m < 4 := by have := hop.2.1; unfold KeyGood at this; omega
     have HM : Hid (AfterM xs st 3 m v 0 ys (xs.set m 0) st) := .inl ⟨HAL.out, rfl, .inr (.inl ⟨rfl, rfl, rfl⟩)⟩
     clear hop
     rcases OWN2.out.2 with ⟨_, h0⟩ | ⟨g, cap, cur, hv, hbg, hgg, _⟩
     · omega
     obtain ⟨rfl, rfl⟩ : a' = some ⟨g, 0, none⟩ ∧ c' = cap := by simpa using hv
     have hst := (OWN2.out.stored m (I 0)).1
     rw [← List.map_set] at hst
     have HS : Hid ((w2.setCell ⟨g, m, none⟩ (I 0)).ownsRow (w.heap.size + 1 + 1 + 1 + 1) 3 1 (.slice (some ⟨g, 0, none⟩) 4 c') 4 ((xs.set m 0).map I)) := hst
     have hfz := OWN2.out.frozenAt m
     obtain ⟨u0, hu⟩ := own_cell OWN2.out hm
     have hg1 : g < w1.heap.size := hlt1.out g rfl
     have HG1 : Hid (g < w1.heap.size) := hg1
     have p0 : (w2.setCell ⟨g, m, none⟩ (I 0)).cell? ⟨w1.heap.size, 0, none⟩ = some (.slice (some ⟨g, 0, none⟩) 4 c') := by rw [World.cell?_setCell_other _ _ _ _ (fun e => by cases e; omega)]; exact o0
     have p1 : (w2.setCell ⟨g, m, none⟩ (I 0)).cell? ⟨w1.heap.size, 1, none⟩ = some (.int .i64 st) := by rw [World.cell?_setCell_other _ _ _ _ (fun e => by cases e; omega)]; exact o1
     clear hst hv hgg
     go_wp2
     (try simp only [Exit.inBlock, Exit.then])
     refine bodyPost_ret (by simp [results, Tryz.results62, go_sem, v0, v1]; try rfl) rfl ?_
     exact ⟨⟨xs.set m 0, st, some ⟨g, 0, none⟩, c', rfl, HM.out, own_weaken (ownsRow_setCell_below (ownsRow_setCell_below HS.out (by simp) _) (by simp) _) (by omega)⟩, ((HBw2.out.setCell (by simp; omega) _).setCell (by simp; omega) _).setCell (by simp; omega) _⟩
   · have HM : Hid (AfterM xs st 4 k v 0 ys xs st) := .inl ⟨HAL.out, rfl, .inr (.inr (.inr ⟨by omega, rfl, rfl⟩))⟩
     clear hop
     go_wp2
     (try simp only [Exit.inBlock, Exit.then])
     refine bodyPost_ret (by simp [results, Tryz.results62, go_sem, v0, v1]; try rfl) rfl ?_
     exact ⟨⟨xs, st, a', c', rfl, HM.out, own_weaken (ownsRow_setCell_below (ownsRow_setCell_below OWN2.out (by simp) _) (by simp) _) (by omega)⟩, (HBw2.out.setCell (by simp; omega) _).setCell (by simp; omega) _⟩
   · have HM : Hid (AfterM xs st 5 k v 0 ys xs st) := .inl ⟨HAL.out, rfl, .inr (.inr (.inr ⟨by omega, rfl, rfl⟩))⟩
     clear hop
     go_wp2
     (try simp only [Exit.inBlock, Exit.then])
     refine bodyPost_ret (by simp [results, Tryz.results62, go_sem, v0, v1]; try rfl) rfl ?_
     exact ⟨⟨xs, st, a', c', rfl, HM.out, own_weaken (ownsRow_setCell_below (ownsRow_setCell_below OWN2.out (by simp) _) (by simp) _) (by omega)⟩, (HBw2.out.setCell (by simp; omega) _).setCell (by simp; omega) _⟩
   · have HM : Hid (AfterM xs st 6 k v 0 ys xs st) := .inl ⟨HAL.out, rfl, .inr (.inr (.inr ⟨by omega, rfl, rfl⟩))⟩
     clear hop
     go_wp2
     (try simp only [Exit.inBlock, Exit.then])
     refine bodyPost_ret (by simp [results, Tryz.results62, go_sem, v0, v1]; try rfl) rfl ?_
     exact ⟨⟨xs, st, a', c', rfl, HM.out, own_weaken (ownsRow_setCell_below (ownsRow_setCell_below OWN2.out (by simp) _) (by simp) _) (by omega)⟩, (HBw2.out.setCell (by simp; omega) _).setCell (by simp; omega) _⟩
   · have HM : Hid (AfterM xs st 7 k v 0 ys xs st) := .inl ⟨HAL.out, rfl, .inr (.inr (.inr ⟨by omega, rfl, rfl⟩))⟩
     clear hop
     go_wp2
     (try simp only [Exit.inBlock, Exit.then])
     refine bodyPost_ret (by simp [results, Tryz.results62, go_sem, v0, v1]; try rfl) rfl ?_
     exact ⟨⟨xs, st, a', c', rfl, HM.out, own_weaken (ownsRow_setCell_below (ownsRow_setCell_below OWN2.out (by simp) _) (by simp) _) (by omega)⟩, (HBw2.out.setCell (by simp; omega) _).setCell (by simp; omega) _⟩
   · have HM : Hid (AfterM xs st 8 k v 0 ys xs (st + 1)) := .inl ⟨HAL.out, rfl, .inr (.inr (.inl ⟨by omega, rfl, rfl⟩))⟩
     have hst0 := HAL.out.1.2.1
     have hst1 := HAL.out.1.2.2.1
     clear hop
     go_wp2
     (try simp only [Exit.inBlock, Exit.then])
     refine bodyPost_ret (by simp [results, Tryz.results62, go_sem, v0, v1]; try rfl) rfl ?_
     exact ⟨⟨xs, st + 1, a', c', rfl, HM.out, own_weaken (ownsRow_setCell_below (ownsRow_setCell_below (own_setCell_far OWN2.out (fun e => by have := hlt1.out _ e; simp at this) _) (by simp) _) (by simp) _) (by omega)⟩, ((HBw2.out.setCell (by simp; omega) _).setCell (by simp; omega) _).setCell (by simp; omega) _⟩
   · have HM : Hid (AfterM xs st 9 k v 0 ys xs (st + 1)) := .inl ⟨HAL.out, rfl, .inr (.inr (.inl ⟨by omega, rfl, rfl⟩))⟩
     have hst0 := HAL.out.1.2.1
     have hst1 := HAL.out.1.2.2.1
     clear hop
     go_wp2
     (try simp only [Exit.inBlock, Exit.then])
     refine bodyPost_ret (by simp [results, Tryz.results62, go_sem, v0, v1]; try rfl) rfl ?_
     exact ⟨⟨xs, st + 1, a', c', rfl, HM.out, own_weaken (ownsRow_setCell_below (ownsRow_setCell_below (own_setCell_far OWN2.out (fun e => by have := hlt1.out _ e; simp at this) _) (by simp) _) (by simp) _) (by omega)⟩, ((HBw2.out.setCell (by simp; omega) _).setCell (by simp; omega) _).setCell (by simp; omega) _⟩
   · have HM : Hid (AfterM xs st 10 k v 0 ys xs st) := .inl ⟨HAL.out, rfl, .inr (.inr (.inr ⟨by omega, rfl, rfl⟩))⟩
     clear hop
     go_wp2
     (try simp only [Exit.inBlock, Exit.then])
     refine bodyPost_ret (by simp [results, Tryz.results62, go_sem, v0, v1]; try rfl) rfl ?_
     exact ⟨⟨xs, st, a', c', rfl, HM.out, own_weaken (ownsRow_setCell_below (ownsRow_setCell_below OWN2.out (by simp) _) (by simp) _) (by omega)⟩, (HBw2.out.setCell (by simp; omega) _).setCell (by simp; omega) _⟩
 · have hc' : (code != 0) = true := by simpa using hc
   have HM : Hid (AfterM xs st kind k v code ys xs st) := .inr ⟨fun h => hc h.2, rfl, rfl⟩
   clear hc hal
   go_wp2
   (try simp only [Exit.inBlock, Exit.then])
   refine bodyPost_ret (by simp [results, Tryz.results62, go_sem, v0, v1]; try rfl) rfl ?_
   exact ⟨⟨xs, st, a', c', rfl, HM.out, own_weaken (ownsRow_setCell_below (ownsRow_setCell_below OWN2.out (by simp) _) (by simp) _) (by omega)⟩, (HBw2.out.setCell (by simp; omega) _).setCell (by simp; omega) _⟩
end
section
open Go.ChangeShapes Go.WideShapes Go.ChangeAt Go.RowKit Go.Joins
inductive Cel where
 | i (x : Int)
 | b (x : Bool)
 | s (x : ByteArray)
 | l (T : TypeId) (k n : Nat) (cs : List Cel)
inductive At (q : Bool) (w : World) : Value → Cel → Prop
 | i (x : Int) : At q w (.int .i64 x) (.i x)
 | b (x : Bool) : At q w (.bool x) (.b x)
 | s (x : ByteArray) : At q w (.string x) (.s x)
 | l (a : Option Addr) (T : TypeId) (k n c : Nat) (cs : List Cel) (vs : List Value) (h1 : vs.length = n * k) (h2 : cs.length = n * k) (hn : n ≤ 2097152) (hc : q = true → (a = none → c = 0) ∧ n ≤ c)
     (h3 : n = 0 ∨ ∃ b o, a = some ⟨b, o, none⟩ ∧ ∀ j, j < n * k → w.cell? ⟨b, o + j, none⟩ = vs[j]?) (h4 : ∀ (j : Nat) (v : Value) (c : Cel), vs[j]? = some v → cs[j]? = some c → At q w v c) : At q w (.slice a n c) (.l T k n cs)
def AtL (q : Bool) (w : World) (vs : List Value) (cs : List Cel) : Prop := vs.length = cs.length ∧ ∀ (j : Nat) (v : Value) (c : Cel), vs[j]? = some v → cs[j]? = some c → At q w v c
theorem At.on {q : Bool} {w w' : World} {v : Value} {c : Cel} (h : At q w v c) {B : Nat} (hb : Below B w w') (hB : w.heap.size ≤ B) : At q w' v c := by
 induction h with
 | i x => exact .i x
 | b x => exact .b x
 | s x => exact .s x
 | l a T k n c cs vs h1 h2 hn hc h3 h4 ih =>
   refine .l a T k n c cs vs h1 h2 hn hc ?_ ih
   rcases h3 with h3 | ⟨b, o, e, g⟩
   · exact .inl h3
   · refine .inr ⟨b, o, e, fun j hj => ?_⟩
     have h5 := g j hj
     have h6 : w.cell? ⟨b, o + j, none⟩ = some (vs[j]'(by omega)) := by rw [h5, List.getElem?_eq_getElem (by omega)]
     rw [hb.cell (show b < B from Nat.lt_of_lt_of_le (World.block_lt_of_cell? w _ h6) hB)]
     exact h5
theorem AtL.on {q : Bool} {w w' : World} {vs : List Value} {cs : List Cel} (h : AtL q w vs cs) {B : Nat} (hb : Below B w w') (hB : w.heap.size ≤ B) : AtL q w' vs cs :=
 ⟨h.1, fun j v c hv hc => (h.2 j v c hv hc).on hb hB⟩
theorem At.loose {q : Bool} {w : World} {v : Value} {c : Cel} (h : At q w v c) : At false w v c := by
 induction h with
 | i x => exact .i x
 | b x => exact .b x
 | s x => exact .s x
 | l a T k n c cs vs h1 h2 hn hc h3 h4 ih => exact .l a T k n c cs vs h1 h2 hn (fun h => by cases h) h3 ih
theorem AtL.nil {q : Bool} {w : World} : AtL q w [] [] := ⟨rfl, fun j v c hv _ => by simp at hv⟩
theorem AtL.cons {q : Bool} {w : World} {v : Value} {c : Cel} {vs : List Value} {cs : List Cel} (h : At q w v c) (hs : AtL q w vs cs) : AtL q w (v :: vs) (c :: cs) := by
 refine ⟨by simp [hs.1], fun j v' c' hv hc => ?_⟩
 cases j with
 | zero => simp at hv hc; subst hv hc; exact h
 | succ j => simp at hv hc; exact hs.2 j v' c' hv hc
theorem AtL.head {q : Bool} {w : World} {v : Value} {c : Cel} {vs : List Value} {cs : List Cel} (h : AtL q w (v :: vs) (c :: cs)) : At q w v c := h.2 0 v c rfl rfl
theorem AtL.tail {q : Bool} {w : World} {v : Value} {c : Cel} {vs : List Value} {cs : List Cel} (h : AtL q w (v :: vs) (c :: cs)) : AtL q w vs cs :=
 ⟨by have := h.1; simpa using this, fun j v' c' hv hc => h.2 (j + 1) v' c' (by simpa using hv) (by simpa using hc)⟩
inductive Own (w : World) (base : Nat) : Value → Cel → (Nat → Prop) → Prop
 | i (x : Int) (S : Nat → Prop) (hS : ∀ k, ¬ S k) : Own w base (.int .i64 x) (.i x) S
 | b (x : Bool) (S : Nat → Prop) (hS : ∀ k, ¬ S k) : Own w base (.bool x) (.b x) S
 | s (x : ByteArray) (S : Nat → Prop) (hS : ∀ k, ¬ S k) : Own w base (.string x) (.s x) S
 | nil (T : TypeId) (k : Nat) (S : Nat → Prop) (hS : ∀ k, ¬ S k) : Own w base (.slice none 0 0) (.l T k 0 []) S
 | l (g cap : Nat) (T : TypeId) (k n : Nat) (cs : List Cel) (vs : List Value) (S : Nat → Prop) (Ss : Nat → Nat → Prop) (h1 : w.ownsRow base T k (.slice (some ⟨g, 0, none⟩) n cap) n vs) (h2 : cs.length = n * k) (hn : n ≤ 2097152)
     (h4 : ∀ (j : Nat) (v : Value) (c : Cel), vs[j]? = some v → cs[j]? = some c → Own w base v c (Ss j)) (h5 : ∀ j, ¬ Ss j g) (h6 : ∀ i j x, i ≠ j → Ss i x → ¬ Ss j x) (h7 : ∀ x, S x ↔ x = g ∨ ∃ j, j < n * k ∧ Ss j x) :
     Own w base (.slice (some ⟨g, 0, none⟩) n cap) (.l T k n cs) S
def OwnL (w : World) (base : Nat) (vs : List Value) (cs : List Cel) (S : Nat → Prop) : Prop :=
 vs.length = cs.length ∧ ∃ Ss : Nat → Nat → Prop, (∀ (j : Nat) (v : Value) (c : Cel), vs[j]? = some v → cs[j]? = some c → Own w base v c (Ss j)) ∧ (∀ i j x, i ≠ j → Ss i x → ¬ Ss j x) ∧ ∀ x, S x ↔ ∃ j, j < vs.length ∧ Ss j x
theorem Own.set {w : World} {base : Nat} {v : Value} {c : Cel} {S S' : Nat → Prop} (h : Own w base v c S) (hS : ∀ x, S x ↔ S' x) : Own w base v c S' := by
 cases h with
 | i x S h => exact .i x S' fun k hk => h k ((hS k).2 hk)
 | b x S h => exact .b x S' fun k hk => h k ((hS k).2 hk)
 | s x S h => exact .s x S' fun k hk => h k ((hS k).2 hk)
 | nil T k S h => exact .nil T k S' fun k hk => h k ((hS k).2 hk)
 | l g cap T k n cs vs S Ss h1 h2 hn h4 h5 h6 h7 => exact .l g cap T k n cs vs S' Ss h1 h2 hn h4 h5 h6 fun x => (hS x).symm.trans (h7 x)
theorem Own.lt {w : World} {base : Nat} {v : Value} {c : Cel} {S : Nat → Prop} (h : Own w base v c S) : ∀ x, S x → base ≤ x ∧ x < w.heap.size := by
 induction h with
 | i x S h => exact fun k hk => absurd hk (h k)
 | b x S h => exact fun k hk => absurd hk (h k)
 | s x S h => exact fun k hk => absurd hk (h k)
 | nil T k S h => exact fun k hk => absurd hk (h k)
 | l g cap T k n cs vs S Ss h1 h2 hn h4 h5 h6 h7 ih =>
   intro x hx
   rcases (h7 x).1 hx with rfl | ⟨j, hj, hxj⟩
   · exact h1.lt x rfl
   · have hl := h1.1
     exact ih j _ _ (List.getElem?_eq_getElem (by omega)) (List.getElem?_eq_getElem (by omega)) x hxj
theorem Own.heap {w w' : World} {base : Nat} {v : Value} {c : Cel} {S : Nat → Prop} (h : Own w base v c S) (he : ∀ x, S x → w'.heap[x]? = w.heap[x]?) : Own w' base v c S := by
 induction h with
 | i x S h => exact .i x S h
 | b x S h => exact .b x S h
 | s x S h => exact .s x S h
 | nil T k S h => exact .nil T k S h
 | l g cap T k n cs vs S Ss h1 h2 hn h4 h5 h6 h7 ih =>
   refine .l g cap T k n cs vs S Ss (owns_heap h1 fun k hk => ?_) h2 hn (fun j v c hv hc => ?_) h5 h6 h7
   · cases hk
     exact he g ((h7 g).2 (.inl rfl))
   · exact ih j v c hv hc fun x hx => he x ((h7 x).2 (.inr ⟨j, by
       have hl := h1.1
       have := (List.getElem?_eq_some_iff.1 hv).1
       omega, hx⟩))
theorem Own.on {w w' : World} {base : Nat} {v : Value} {c : Cel} {S : Nat → Prop} (h : Own w base v c S) {B : Nat} (hb : Below B w w') (hB : w.heap.size ≤ B) : Own w' base v c S :=
 h.heap fun x hx => hb.block x (by have := (h.lt x hx).2; omega)
theorem Own.weaken {w : World} {base base' : Nat} {v : Value} {c : Cel} {S : Nat → Prop} (h : Own w base v c S) (hb : base' ≤ base) : Own w base' v c S := by
 induction h with
 | i x S h => exact .i x S h
 | b x S h => exact .b x S h
 | s x S h => exact .s x S h
 | nil T k S h => exact .nil T k S h
 | l g cap T k n cs vs S Ss h1 h2 hn h4 h5 h6 h7 ih => exact .l g cap T k n cs vs S Ss (own_weaken h1 hb) h2 hn ih h5 h6 h7
theorem Own.at {w : World} {base : Nat} {v : Value} {c : Cel} {S : Nat → Prop} (h : Own w base v c S) : At true w v c := by
 induction h with
 | i x S h => exact .i x
 | b x S h => exact .b x
 | s x S h => exact .s x
 | nil T k S h => exact .l none T k 0 0 [] [] (by simp) (by simp) (by omega) (fun _ => ⟨fun _ => rfl, Nat.le_refl _⟩) (.inl rfl) (fun j v c hv _ => by simp at hv)
 | l g cap T k n cs vs S Ss h1 h2 hn h4 h5 h6 h7 ih =>
   obtain ⟨_, c', e, hcap⟩ := owns_slice h1
   cases e
   exact .l _ T k n cap cs vs h1.1 h2 hn (fun _ => ⟨(fun h => by cases h), hcap⟩) (.inr ⟨g, 0, rfl, fun j hj => by rw [Nat.zero_add]; exact h1.cellAt j hj⟩) ih
theorem Own.forms {w : World} {base : Nat} {v : Value} {T : TypeId} {k n : Nat} {cs : List Cel} {S : Nat → Prop} (h : Own w base v (.l T k n cs) S) : (v = .slice none 0 0 ∧ n = 0 ∧ cs = [] ∧ ∀ x, ¬ S x) ∨ ∃ g cap, v = .slice (some ⟨g, 0, none⟩) n cap ∧ n ≤ cap ∧ S g := by
 cases h with
 | nil T k S h => exact .inl ⟨rfl, rfl, rfl, h⟩
 | l g cap T k n cs vs S Ss h1 h2 hn h4 h5 h6 h7 =>
   obtain ⟨_, c', e, hcap⟩ := owns_slice h1
   cases e
   exact .inr ⟨g, cap, rfl, hcap, (h7 g).2 (.inl rfl)⟩
theorem Own.len {w : World} {base : Nat} {v : Value} {T : TypeId} {k n : Nat} {cs : List Cel} {S : Nat → Prop} (h : Own w base v (.l T k n cs) S) : cs.length = n * k ∧ n ≤ 2097152 := by
 cases h with
 | nil T k S h => exact ⟨by simp, by omega⟩
 | l g cap T k n cs vs S Ss h1 h2 hn h4 h5 h6 h7 => exact ⟨h2, hn⟩
theorem Own.slice {w : World} {base : Nat} {v : Value} {T : TypeId} {k n : Nat} {cs : List Cel} {S : Nat → Prop} (h : Own w base v (.l T k n cs) S) : ∃ a c, v = .slice a n c ∧ n ≤ c := by
 rcases h.forms with ⟨rfl, rfl, -, -⟩ | ⟨g, cap, rfl, hc, -⟩
 · exact ⟨none, 0, rfl, Nat.le_refl _⟩
 · exact ⟨_, cap, rfl, hc⟩
theorem Own.cell {w : World} {base : Nat} {g n cap : Nat} {T : TypeId} {k : Nat} {cs : List Cel} {S : Nat → Prop} (h : Own w base (.slice (some ⟨g, 0, none⟩) n cap) (.l T k n cs) S) {j : Nat} {c : Cel} (hc : cs[j]? = some c) :
   ∃ v Sj, w.cell? ⟨g, j, none⟩ = some v ∧ w.frozen? ⟨g, j, none⟩ = false ∧ Own w base v c Sj ∧ (∀ x, Sj x → S x) ∧ ¬ Sj g := by
 cases h with
 | l g cap T k n cs vs S Ss h1 h2 hn h4 h5 h6 h7 =>
   have hj : j < cs.length := (List.getElem?_eq_some_iff.1 hc).1
   have hl := h1.1
   have hv : vs[j]? = some (vs[j]'(by omega)) := List.getElem?_eq_getElem (by omega)
   exact ⟨_, Ss j, own_cellV h1 hv, h1.frozenAt j, h4 j _ _ hv hc, fun x hx => (h7 x).2 (.inr ⟨j, by omega, hx⟩), h5 j⟩
theorem Own.store {w : World} {base : Nat} {g n cap : Nat} {T : TypeId} {k : Nat} {cs : List Cel} {S S' : Nat → Prop} (h : Own w base (.slice (some ⟨g, 0, none⟩) n cap) (.l T k n cs) S) {j : Nat} (hj : j < n * k) {u : Value} {c' : Cel} (hu : Own w base u c' S') (hS : ∀ x, S' x → ¬ S x) :
   ∃ S'', Own (w.setCell ⟨g, j, none⟩ u) base (.slice (some ⟨g, 0, none⟩) n cap) (.l T k n (cs.set j c')) S'' ∧ S'' g ∧ (∀ x, S'' x → S x ∨ S' x) ∧ ∀ x, S' x → S'' x := by
 cases h with
 | l g cap T k n cs vs S Ss h1 h2 hn h4 h5 h6 h7 =>
   have hl := h1.1
   have hg : S g := (h7 g).2 (.inl rfl)
   have sub : ∀ i x, i < n * k → Ss i x → S x := fun i x hi hx => (h7 x).2 (.inr ⟨i, hi, hx⟩)
   refine ⟨fun x => x = g ∨ ∃ i, i < n * k ∧ (if i = j then S' else Ss i) x, .l g cap T k n _ (vs.set j u) _ (fun i => if i = j then S' else if i < n * k then Ss i else fun _ => False) (h1.stored j u).1 (by simpa using h2) hn ?_ ?_ ?_ ?_, .inl rfl, ?_, fun x hx => .inr ⟨j, hj, by simpa using hx⟩⟩
   · intro i v c hv hc
     by_cases hij : i = j
     · subst hij
       rw [List.getElem?_set_self (by omega)] at hv
       rw [List.getElem?_set_self (by omega)] at hc
       cases hv
       cases hc
       rw [if_pos rfl]
       exact hu.heap fun x hx => Below.heap_setCell _ _ _ _ (fun e => hS x hx (by have e : x = g := e; rw [e]; exact hg))
     · rw [List.getElem?_set_ne (Ne.symm hij)] at hv hc
       have hi : i < n * k := by have := (List.getElem?_eq_some_iff.1 hv).1; omega
       rw [if_neg hij, if_pos hi]
       exact (h4 i v c hv hc).heap fun x hx => Below.heap_setCell _ _ _ _ (fun e => h5 i (by have e : x = g := e; rw [← e]; exact hx))
   · intro i
     show ¬ (if i = j then S' else if i < n * k then Ss i else fun _ => False) g
     split
     · exact fun hx => hS g hx hg
     · split
       · exact h5 i
       · exact fun h => h
   · intro a b x hab
     show (if a = j then S' else if a < n * k then Ss a else fun _ => False) x → ¬ (if b = j then S' else if b < n * k then Ss b else fun _ => False) x
     by_cases ha : a = j
     · rw [if_pos ha, if_neg (show ¬ b = j by omega)]
       intro hx
       split
       · rename_i hb
         exact fun hb' => hS x hx (sub b x hb hb')
       · exact fun h => h
     · rw [if_neg ha]
       split
       · rename_i hal
         intro hx
         by_cases hb : b = j
         · rw [if_pos hb]; exact fun hx' => hS x hx' (sub a x hal hx)
         · rw [if_neg hb]
           split
           · exact h6 a b x hab hx
           · exact fun h => h
       · exact fun h => h.elim
   · intro x
     constructor
     · rintro (rfl | ⟨i, hi, hx⟩)
       · exact .inl rfl
       · exact .inr ⟨i, hi, by by_cases e : i = j <;> simp [e, hi] at hx ⊢ <;> exact hx⟩
     · rintro (rfl | ⟨i, hi, hx⟩)
       · exact .inl rfl
       · exact .inr ⟨i, hi, by by_cases e : i = j <;> simp [e, hi] at hx ⊢ <;> exact hx⟩
   · rintro x (rfl | ⟨i, hi, hx⟩)
     · exact .inl hg
     · by_cases e : i = j
       · rw [if_pos e] at hx; exact .inr hx
       · rw [if_neg e] at hx; exact .inl (sub i x hi hx)
theorem OwnL.nil {w : World} {base : Nat} {S : Nat → Prop} (hS : ∀ x, ¬ S x) : OwnL w base [] [] S :=
 ⟨rfl, fun _ _ => False, (fun j v c hv _ => by simp at hv), (fun _ _ _ _ h => h.elim), fun x => ⟨fun h => absurd h (hS x), fun ⟨j, hj, _⟩ => by simp at hj⟩⟩
theorem OwnL.cons {w : World} {base : Nat} {v : Value} {c : Cel} {vs : List Value} {cs : List Cel} {S0 S S' : Nat → Prop} (h : Own w base v c S0) (hs : OwnL w base vs cs S) (hd : ∀ x, S0 x → ¬ S x) (hS : ∀ x, S' x ↔ S0 x ∨ S x) : OwnL w base (v :: vs) (c :: cs) S' := by
 obtain ⟨hl, Ss, h1, h2, h3⟩ := hs
 refine ⟨by simp [hl], fun j => match j with | 0 => S0 | j + 1 => fun x => j < vs.length ∧ Ss j x, ?_, ?_, ?_⟩
 · intro j v' c' hv hc
   cases j with
   | zero => simp at hv hc; subst hv hc; exact h
   | succ j =>
     simp at hv hc
     have hj := (List.getElem?_eq_some_iff.1 hv).1
     exact (h1 j v' c' hv hc).set fun x => ⟨fun hx => ⟨hj, hx⟩, fun hx => hx.2⟩
 · intro i j x hij
   match i, j with
   | 0, 0 => exact absurd rfl hij
   | 0, j + 1 => exact fun hx hx' => hd x hx ((h3 x).2 ⟨j, hx'.1, hx'.2⟩)
   | i + 1, 0 => exact fun hx hx' => hd x hx' ((h3 x).2 ⟨i, hx.1, hx.2⟩)
   | i + 1, j + 1 => exact fun hx hx' => h2 i j x (by omega) hx.2 hx'.2
 · intro x
   rw [hS x, h3 x]
   constructor
   · rintro (hx | ⟨j, hj, hx⟩)
     · exact ⟨0, by simp, hx⟩
     · exact ⟨j + 1, by simpa using hj, hj, hx⟩
   · rintro ⟨j, hj, hx⟩
     cases j with
     | zero => exact .inl hx
     | succ j => exact .inr ⟨j, hx.1, hx.2⟩
theorem OwnL.parts {w : World} {base : Nat} {v : Value} {c : Cel} {vs : List Value} {cs : List Cel} {S : Nat → Prop} (h : OwnL w base (v :: vs) (c :: cs) S) : ∃ S0 S1, Own w base v c S0 ∧ OwnL w base vs cs S1 ∧ (∀ x, S0 x → ¬ S1 x) ∧ ∀ x, S x ↔ S0 x ∨ S1 x := by
 obtain ⟨hl, Ss, h1, h2, h3⟩ := h
 refine ⟨Ss 0, fun x => ∃ j, j < vs.length ∧ Ss (j + 1) x, h1 0 v c rfl rfl, ⟨by simpa using hl, fun j => Ss (j + 1), fun j v' c' hv hc => h1 (j + 1) v' c' (by simpa using hv) (by simpa using hc), fun i j x hij => h2 _ _ x (by omega), fun x => Iff.rfl⟩, ?_, ?_⟩
 · rintro x hx ⟨j, _, hx'⟩
   exact h2 0 (j + 1) x (by omega) hx hx'
 · intro x
   rw [h3 x]
   constructor
   · rintro ⟨j, hj, hx⟩
     cases j with
     | zero => exact .inl hx
     | succ j => exact .inr ⟨j, by simpa using hj, hx⟩
   · rintro (hx | ⟨j, hj, hx⟩)
     · exact ⟨0, by simp, hx⟩
     · exact ⟨j + 1, by simpa using hj, hx⟩
theorem OwnL.heap {w w' : World} {base : Nat} {vs : List Value} {cs : List Cel} {S : Nat → Prop} (h : OwnL w base vs cs S) (he : ∀ x, S x → w'.heap[x]? = w.heap[x]?) : OwnL w' base vs cs S := by
 obtain ⟨hl, Ss, h1, h2, h3⟩ := h
 exact ⟨hl, Ss, fun j v c hv hc => (h1 j v c hv hc).heap fun x hx => he x ((h3 x).2 ⟨j, (List.getElem?_eq_some_iff.1 hv).1, hx⟩), h2, h3⟩
theorem OwnL.lt {w : World} {base : Nat} {vs : List Value} {cs : List Cel} {S : Nat → Prop} (h : OwnL w base vs cs S) : ∀ x, S x → base ≤ x ∧ x < w.heap.size := by
 obtain ⟨hl, Ss, h1, h2, h3⟩ := h
 intro x hx
 obtain ⟨j, hj, hx⟩ := (h3 x).1 hx
 exact (h1 j _ _ (List.getElem?_eq_getElem hj) (List.getElem?_eq_getElem (by omega))).lt x hx
theorem OwnL.on {w w' : World} {base : Nat} {vs : List Value} {cs : List Cel} {S : Nat → Prop} (h : OwnL w base vs cs S) {B : Nat} (hb : Below B w w') (hB : w.heap.size ≤ B) : OwnL w' base vs cs S :=
 h.heap fun x hx => hb.block x (by have := (h.lt x hx).2; omega)
theorem OwnL.weaken {w : World} {base base' : Nat} {vs : List Value} {cs : List Cel} {S : Nat → Prop} (h : OwnL w base vs cs S) (hb : base' ≤ base) : OwnL w base' vs cs S := by
 obtain ⟨hl, Ss, h1, h2, h3⟩ := h
 exact ⟨hl, Ss, fun j v c hv hc => (h1 j v c hv hc).weaken hb, h2, h3⟩
theorem OwnL.at {w : World} {base : Nat} {vs : List Value} {cs : List Cel} {S : Nat → Prop} (h : OwnL w base vs cs S) : AtL true w vs cs := by
 obtain ⟨hl, Ss, h1, h2, h3⟩ := h
 exact ⟨hl, fun j v c hv hc => (h1 j v c hv hc).at⟩
end
end Go.Proofs.YtbfolanfbagofaaGreatDoor
