/- Texts joined: SpecAfter, SpecGo, SpecLn, GoLi. -/
import Derived.Test.YtecheopkfhfgkaaGreatLN07
import Derived.Test.YtecheopkfhfgkaaGreatLN06
import Derived.Test.YtecheopkfhfgkaaGreatLN01
import Derived.Test.YtecheopkfhfgkaaGreatLN05
import Derived.Test.YtecheopkfhfgkaaGreatLN03
import Derived.Deep.RegionHeld3
import Derived.Laws.MakeOwn
import Derived.Test.YtecheopkfhfgkaaGreatLN04
import Derived.Deep.Slices
set_option maxHeartbeats 16000000
set_option maxRecDepth 100000
namespace Go.Proofs.YtecheopkfhfgkaaGreat
section
open Go.ChangeShapes Go.WideShapes Go.ChangeAt Go.RowKit
theorem specAfter_any (a2 : Option Addr) (p q n cp n2 c2 : Nat) (st kind k v code : Int) (xs ys : List Int) (w : World) (hA : IntAt w (some ⟨p, q, none⟩) n xs) (h2 : IntAt w a2 n2 ys) :
    Calls Tryz.prog 37 #[.agg #[.slice (some ⟨p, q, none⟩) n cp, .int .i64 st], OpV kind k v, ResV code a2 n2 c2] w fun e w' => AfterSays e w w' n (AfterM xs st kind k v code ys) ∧ Below w.heap.size w w' := by
  have HA : Hid (IntAt w (some ⟨p, q, none⟩) n xs) := hA
  have H2 : Hid (IntAt w a2 n2 ys) := h2
  clear hA h2
  go_enter Tryz.func37, Tryz.ntmps37
  go_wp2_with fail
  have HB0 : Hid (Below w.heap.size w ((((w.alloc (.cells #[.slice (some ⟨p, q, none⟩) n cp, .int .i64 st] 29)).alloc (.cells #[.int .i64 kind, .int .i64 k, .int .i64 v] 49)).alloc (.cells #[.int .i64 code, .slice a2 n2 c2] 50)).alloc (.cells #[.slice none 0 0, .int .i64 0] 29))) := ((((Below.refl _ w).alloc (Nat.le_refl _) _).alloc (by simp) _).alloc (by simp; omega) _).alloc (by simp; omega) _
  refine (l3Copy_any p q n cp st xs _ (HA.out.below HB0.out (Nat.le_refl _))).mono ?_
  rintro e w1 ⟨a', c', rfl, own1, hb1⟩
  simp only [World.size_alloc] at hb1 own1
  have hs1 := hb1.size
  simp only [World.size_alloc] at hs1
  have HC : Hid (∀ wr, Below (w.heap.size + 1 + 1 + 1 + 1) ((((w.alloc (.cells #[.slice (some ⟨p, q, none⟩) n cp, .int .i64 st] 29)).alloc (.cells #[.int .i64 kind, .int .i64 k, .int .i64 v] 49)).alloc (.cells #[.int .i64 code, .slice a2 n2 c2] 50)).alloc (.cells #[.slice none 0 0, .int .i64 0] 29)) wr → Four w #[.slice (some ⟨p, q, none⟩) n cp, .int .i64 st] #[.int .i64 kind, .int .i64 k, .int .i64 v] #[.int .i64 code, .slice a2 n2 c2] #[.slice none 0 0, .int .i64 0] wr) := fun wr h => four_at w _ _ _ _ _ _ _ _ wr h
  have hbW := hb1.alloc hs1 (.cells #[.slice a' n c', .int .i64 st] 29)
  have HB1 : Hid (Below (w.heap.size + 1 + 1 + 1 + 1) ((((w.alloc (.cells #[.slice (some ⟨p, q, none⟩) n cp, .int .i64 st] 29)).alloc (.cells #[.int .i64 kind, .int .i64 k, .int .i64 v] 49)).alloc (.cells #[.int .i64 code, .slice a2 n2 c2] 50)).alloc (.cells #[.slice none 0 0, .int .i64 0] 29)) (w1.alloc (.cells #[.slice a' n c', .int .i64 st] 29))) := hbW
  have HBw1 : Hid (Below w.heap.size w (w1.alloc (.cells #[.slice a' n c', .int .i64 st] 29))) := HB0.out.trans (hbW.mono (by omega))
  have OWN1 : Hid ((w1.alloc (.cells #[.slice a' n c', .int .i64 st] 29)).ownsRow (w.heap.size + 1 + 1 + 1 + 1) 3 1 (.slice a' n c') n (xs.map I)) := (own_weaken own1 (by omega)).alloc _
  have c0 := (HC.out _ hbW).1 0 _ rfl
  have c1 := (HC.out _ hbW).1 1 _ rfl
  have d0 := (HC.out _ hbW).2.1 0 _ rfl
  have d1 := (HC.out _ hbW).2.1 1 _ rfl
  have d2 := (HC.out _ hbW).2.1 2 _ rfl
  have f0 := (HC.out _ hbW).2.2.1 0 _ rfl
  have f1 := (HC.out _ hbW).2.2.1 1 _ rfl
  have hlt1 : Hid (∀ k, (Value.slice a' n c').ownBlock = some k → k < w1.heap.size) := fun k hk => (own1.lt k hk).2
  clear hb1 own1 hbW
  go_wp2_with fail
  refine (specAllowed_any _ a2 n cp n2 c2 st kind k v code xs ys _ (HA.out.below HBw1.out (Nat.le_refl _)) (H2.out.below HBw1.out (Nat.le_refl _))).mono ?_
  rintro e w2 ⟨⟨ok, rfl, hok⟩, hb2⟩
  have hbW2 := HB1.out.trans (hb2.mono (by simp; omega))
  have HBw2 : Hid (Below w.heap.size w w2) := HBw1.out.trans (hb2.mono (by simp; omega))
  have OWN2 : Hid (w2.ownsRow (w.heap.size + 1 + 1 + 1 + 1) 3 1 (.slice a' n c') n (xs.map I)) := owns_below OWN1.out hb2 (Nat.le_refl _)
  have o0 : w2.cell? ⟨w1.heap.size, 0, none⟩ = some (.slice a' n c') := by rw [hb2.cell (by simp)]; simp
  have o1 : w2.cell? ⟨w1.heap.size, 1, none⟩ = some (.int .i64 st) := by rw [hb2.cell (by simp)]; simp
  have z0 : w2.frozen? ⟨w1.heap.size, 0, none⟩ = false := by rw [hb2.frozen (by simp)]; simp
  have z1 : w2.frozen? ⟨w1.heap.size, 1, none⟩ = false := by rw [hb2.frozen (by simp)]; simp
  have c0 := (HC.out _ hbW2).1 0 _ rfl
  have c1 := (HC.out _ hbW2).1 1 _ rfl
  have d0 := (HC.out _ hbW2).2.1 0 _ rfl
  have d1 := (HC.out _ hbW2).2.1 1 _ rfl
  have d2 := (HC.out _ hbW2).2.1 2 _ rfl
  have f0 := (HC.out _ hbW2).2.2.1 0 _ rfl
  have f1 := (HC.out _ hbW2).2.2.1 1 _ rfl
  have v0 := (HC.out _ hbW2).2.2.2.1 0 _ rfl
  have v1 := (HC.out _ hbW2).2.2.2.1 1 _ rfl
  have y0 := (HC.out _ hbW2).2.2.2.2 0
  have y1 := (HC.out _ hbW2).2.2.2.2 1
  have HOK : Hid (ok = true ↔ AllowM xs st kind k v code ys) := hok
  clear hb2 hbW2 hok OWN1 HB1 HBw1
  cases ok
  · have HM : Hid (AfterM xs st kind k v code ys xs st) := .inr ⟨fun h => (by have := HOK.out.2 h.1; cases this), rfl, rfl⟩
    go_wp2
    (try simp only [Exit.inBlock, Exit.then])
    refine bodyPost_ret (by simp [results, Tryz.results37, go_sem, v0, v1]; try rfl) rfl ?_
    exact ⟨⟨xs, st, a', c', rfl, HM.out, own_weaken (ownsRow_setCell_below (ownsRow_setCell_below OWN2.out (by simp) _) (by simp) _) (by omega)⟩, (HBw2.out.setCell (by simp; omega) _).setCell (by simp; omega) _⟩
  have hal := HOK.out.1 rfl
  obtain rfl : n = 4 := by rw [← HA.out.1]; exact hal.1.1
  have HAL : Hid (AllowM xs st kind k v code ys) := hal
  clear HOK
  by_cases hc : code = 0
  · subst hc
    have hop := hal.2.1
    clear hal
    rcases kinds hop.1 with rfl | rfl | rfl | rfl | rfl | rfl | rfl | rfl | rfl | rfl
    · obtain ⟨m, rfl⟩ : ∃ m : Nat, k = m := ⟨k.toNat, by have := hop.2.1; unfold KeyGood at this; omega⟩
      have hm : m < 4 := by have := hop.2.1; unfold KeyGood at this; omega
      have HM : Hid (AfterM xs st 1 m v 0 ys (xs.set m v) st) := .inl ⟨HAL.out, rfl, .inl ⟨by omega, rfl, rfl⟩⟩
      clear hop
      rcases OWN2.out.2 with ⟨_, h0⟩ | ⟨g, cap, cur, hv, hbg, hgg, _⟩
      · omega
      obtain ⟨rfl, rfl⟩ : a' = some ⟨g, 0, none⟩ ∧ c' = cap := by simpa using hv
      have hst := (OWN2.out.stored m (I v)).1
      rw [← List.map_set] at hst
      have HS : Hid ((w2.setCell ⟨g, m, none⟩ (I v)).ownsRow (w.heap.size + 1 + 1 + 1 + 1) 3 1 (.slice (some ⟨g, 0, none⟩) 4 c') 4 ((xs.set m v).map I)) := hst
      have hfz := OWN2.out.frozenAt m
      obtain ⟨u0, hu⟩ := own_cell OWN2.out hm
      have hg1 : g < w1.heap.size := hlt1.out g rfl
      have HG1 : Hid (g < w1.heap.size) := hg1
      have p0 : (w2.setCell ⟨g, m, none⟩ (I v)).cell? ⟨w1.heap.size, 0, none⟩ = some (.slice (some ⟨g, 0, none⟩) 4 c') := by rw [World.cell?_setCell_other _ _ _ _ (fun e => by cases e; omega)]; exact o0
      have p1 : (w2.setCell ⟨g, m, none⟩ (I v)).cell? ⟨w1.heap.size, 1, none⟩ = some (.int .i64 st) := by rw [World.cell?_setCell_other _ _ _ _ (fun e => by cases e; omega)]; exact o1
      clear hst hv hgg
      go_wp2
      (try simp only [Exit.inBlock, Exit.then])
      refine bodyPost_ret (by simp [results, Tryz.results37, go_sem, v0, v1]; try rfl) rfl ?_
      exact ⟨⟨xs.set m v, st, some ⟨g, 0, none⟩, c', rfl, HM.out, own_weaken (ownsRow_setCell_below (ownsRow_setCell_below HS.out (by simp) _) (by simp) _) (by omega)⟩, ((HBw2.out.setCell (by simp; omega) _).setCell (by simp; omega) _).setCell (by simp; omega) _⟩
    · obtain ⟨m, rfl⟩ : ∃ m : Nat, k = m := ⟨k.toNat, by have := hop.2.1; unfold KeyGood at this; omega⟩
      have hm : m < 4 := by have := hop.2.1; unfold KeyGood at this; omega
      have HM : Hid (AfterM xs st 2 m v 0 ys (xs.set m v) st) := .inl ⟨HAL.out, rfl, .inl ⟨by omega, rfl, rfl⟩⟩
      clear hop
      rcases OWN2.out.2 with ⟨_, h0⟩ | ⟨g, cap, cur, hv, hbg, hgg, _⟩
      · omega
      obtain ⟨rfl, rfl⟩ : a' = some ⟨g, 0, none⟩ ∧ c' = cap := by simpa using hv
      have hst := (OWN2.out.stored m (I v)).1
      rw [← List.map_set] at hst
      have HS : Hid ((w2.setCell ⟨g, m, none⟩ (I v)).ownsRow (w.heap.size + 1 + 1 + 1 + 1) 3 1 (.slice (some ⟨g, 0, none⟩) 4 c') 4 ((xs.set m v).map I)) := hst
      have hfz := OWN2.out.frozenAt m
      obtain ⟨u0, hu⟩ := own_cell OWN2.out hm
      have hg1 : g < w1.heap.size := hlt1.out g rfl
      have HG1 : Hid (g < w1.heap.size) := hg1
      have p0 : (w2.setCell ⟨g, m, none⟩ (I v)).cell? ⟨w1.heap.size, 0, none⟩ = some (.slice (some ⟨g, 0, none⟩) 4 c') := by rw [World.cell?_setCell_other _ _ _ _ (fun e => by cases e; omega)]; exact o0
      have p1 : (w2.setCell ⟨g, m, none⟩ (I v)).cell? ⟨w1.heap.size, 1, none⟩ = some (.int .i64 st) := by rw [World.cell?_setCell_other _ _ _ _ (fun e => by cases e; omega)]; exact o1
      clear hst hv hgg
      go_wp2
      (try simp only [Exit.inBlock, Exit.then])
      refine bodyPost_ret (by simp [results, Tryz.results37, go_sem, v0, v1]; try rfl) rfl ?_
      exact ⟨⟨xs.set m v, st, some ⟨g, 0, none⟩, c', rfl, HM.out, own_weaken (ownsRow_setCell_below (ownsRow_setCell_below HS.out (by simp) _) (by simp) _) (by omega)⟩, ((HBw2.out.setCell (by simp; omega) _).setCell (by simp; omega) _).setCell (by simp; omega) _⟩
    · obtain ⟨m, rfl⟩ : ∃ m : Nat, k = m := ⟨k.toNat, by have := hop.2.1; unfold KeyGood at this; omega⟩
      have hm : m < 4 := by have := hop.2.1; unfold KeyGood at this; omega
      have HM : Hid (AfterM xs st 3 m v 0 ys (xs.set m 0) st) := .inl ⟨HAL.out, rfl, .inr (.inl ⟨rfl, rfl, rfl⟩)⟩
      clear hop
      rcases OWN2.out.2 with ⟨_, h0⟩ | ⟨g, cap, cur, hv, hbg, hgg, _⟩
      · omega
      obtain ⟨rfl, rfl⟩ : a' = some ⟨g, 0, none⟩ ∧ c' = cap := by simpa using hv
      have hst := (OWN2.out.stored m (I 0)).1
      rw [← List.map_set] at hst
      have HS : Hid ((w2.setCell ⟨g, m, none⟩ (I 0)).ownsRow (w.heap.size + 1 + 1 + 1 + 1) 3 1 (.slice (some ⟨g, 0, none⟩) 4 c') 4 ((xs.set m 0).map I)) := hst
      have hfz := OWN2.out.frozenAt m
      obtain ⟨u0, hu⟩ := own_cell OWN2.out hm
      have hg1 : g < w1.heap.size := hlt1.out g rfl
      have HG1 : Hid (g < w1.heap.size) := hg1
      have p0 : (w2.setCell ⟨g, m, none⟩ (I 0)).cell? ⟨w1.heap.size, 0, none⟩ = some (.slice (some ⟨g, 0, none⟩) 4 c') := by rw [World.cell?_setCell_other _ _ _ _ (fun e => by cases e; omega)]; exact o0
      have p1 : (w2.setCell ⟨g, m, none⟩ (I 0)).cell? ⟨w1.heap.size, 1, none⟩ = some (.int .i64 st) := by rw [World.cell?_setCell_other _ _ _ _ (fun e => by cases e; omega)]; exact o1
      clear hst hv hgg
      go_wp2
      (try simp only [Exit.inBlock, Exit.then])
      refine bodyPost_ret (by simp [results, Tryz.results37, go_sem, v0, v1]; try rfl) rfl ?_
      exact ⟨⟨xs.set m 0, st, some ⟨g, 0, none⟩, c', rfl, HM.out, own_weaken (ownsRow_setCell_below (ownsRow_setCell_below HS.out (by simp) _) (by simp) _) (by omega)⟩, ((HBw2.out.setCell (by simp; omega) _).setCell (by simp; omega) _).setCell (by simp; omega) _⟩
    · have HM : Hid (AfterM xs st 4 k v 0 ys xs st) := .inl ⟨HAL.out, rfl, .inr (.inr (.inr ⟨by omega, rfl, rfl⟩))⟩
      clear hop
      go_wp2
      (try simp only [Exit.inBlock, Exit.then])
      refine bodyPost_ret (by simp [results, Tryz.results37, go_sem, v0, v1]; try rfl) rfl ?_
      exact ⟨⟨xs, st, a', c', rfl, HM.out, own_weaken (ownsRow_setCell_below (ownsRow_setCell_below OWN2.out (by simp) _) (by simp) _) (by omega)⟩, (HBw2.out.setCell (by simp; omega) _).setCell (by simp; omega) _⟩
    · have HM : Hid (AfterM xs st 5 k v 0 ys xs st) := .inl ⟨HAL.out, rfl, .inr (.inr (.inr ⟨by omega, rfl, rfl⟩))⟩
      clear hop
      go_wp2
      (try simp only [Exit.inBlock, Exit.then])
      refine bodyPost_ret (by simp [results, Tryz.results37, go_sem, v0, v1]; try rfl) rfl ?_
      exact ⟨⟨xs, st, a', c', rfl, HM.out, own_weaken (ownsRow_setCell_below (ownsRow_setCell_below OWN2.out (by simp) _) (by simp) _) (by omega)⟩, (HBw2.out.setCell (by simp; omega) _).setCell (by simp; omega) _⟩
    · have HM : Hid (AfterM xs st 6 k v 0 ys xs st) := .inl ⟨HAL.out, rfl, .inr (.inr (.inr ⟨by omega, rfl, rfl⟩))⟩
      clear hop
      go_wp2
      (try simp only [Exit.inBlock, Exit.then])
      refine bodyPost_ret (by simp [results, Tryz.results37, go_sem, v0, v1]; try rfl) rfl ?_
      exact ⟨⟨xs, st, a', c', rfl, HM.out, own_weaken (ownsRow_setCell_below (ownsRow_setCell_below OWN2.out (by simp) _) (by simp) _) (by omega)⟩, (HBw2.out.setCell (by simp; omega) _).setCell (by simp; omega) _⟩
    · have HM : Hid (AfterM xs st 7 k v 0 ys xs st) := .inl ⟨HAL.out, rfl, .inr (.inr (.inr ⟨by omega, rfl, rfl⟩))⟩
      clear hop
      go_wp2
      (try simp only [Exit.inBlock, Exit.then])
      refine bodyPost_ret (by simp [results, Tryz.results37, go_sem, v0, v1]; try rfl) rfl ?_
      exact ⟨⟨xs, st, a', c', rfl, HM.out, own_weaken (ownsRow_setCell_below (ownsRow_setCell_below OWN2.out (by simp) _) (by simp) _) (by omega)⟩, (HBw2.out.setCell (by simp; omega) _).setCell (by simp; omega) _⟩
    · have HM : Hid (AfterM xs st 8 k v 0 ys xs (st + 1)) := .inl ⟨HAL.out, rfl, .inr (.inr (.inl ⟨by omega, rfl, rfl⟩))⟩
      have hst0 := HAL.out.1.2.1
      have hst1 := HAL.out.1.2.2.1
      clear hop
      go_wp2
      (try simp only [Exit.inBlock, Exit.then])
      refine bodyPost_ret (by simp [results, Tryz.results37, go_sem, v0, v1]; try rfl) rfl ?_
      exact ⟨⟨xs, st + 1, a', c', rfl, HM.out, own_weaken (ownsRow_setCell_below (ownsRow_setCell_below (own_setCell_far OWN2.out (fun e => by have := hlt1.out _ e; simp at this) _) (by simp) _) (by simp) _) (by omega)⟩, ((HBw2.out.setCell (by simp; omega) _).setCell (by simp; omega) _).setCell (by simp; omega) _⟩
    · have HM : Hid (AfterM xs st 9 k v 0 ys xs (st + 1)) := .inl ⟨HAL.out, rfl, .inr (.inr (.inl ⟨by omega, rfl, rfl⟩))⟩
      have hst0 := HAL.out.1.2.1
      have hst1 := HAL.out.1.2.2.1
      clear hop
      go_wp2
      (try simp only [Exit.inBlock, Exit.then])
      refine bodyPost_ret (by simp [results, Tryz.results37, go_sem, v0, v1]; try rfl) rfl ?_
      exact ⟨⟨xs, st + 1, a', c', rfl, HM.out, own_weaken (ownsRow_setCell_below (ownsRow_setCell_below (own_setCell_far OWN2.out (fun e => by have := hlt1.out _ e; simp at this) _) (by simp) _) (by simp) _) (by omega)⟩, ((HBw2.out.setCell (by simp; omega) _).setCell (by simp; omega) _).setCell (by simp; omega) _⟩
    · have HM : Hid (AfterM xs st 10 k v 0 ys xs st) := .inl ⟨HAL.out, rfl, .inr (.inr (.inr ⟨by omega, rfl, rfl⟩))⟩
      clear hop
      go_wp2
      (try simp only [Exit.inBlock, Exit.then])
      refine bodyPost_ret (by simp [results, Tryz.results37, go_sem, v0, v1]; try rfl) rfl ?_
      exact ⟨⟨xs, st, a', c', rfl, HM.out, own_weaken (ownsRow_setCell_below (ownsRow_setCell_below OWN2.out (by simp) _) (by simp) _) (by omega)⟩, (HBw2.out.setCell (by simp; omega) _).setCell (by simp; omega) _⟩
  · have hc' : (code != 0) = true := by simpa using hc
    have HM : Hid (AfterM xs st kind k v code ys xs st) := .inr ⟨fun h => hc h.2, rfl, rfl⟩
    clear hc hal
    go_wp2
    (try simp only [Exit.inBlock, Exit.then])
    refine bodyPost_ret (by simp [results, Tryz.results37, go_sem, v0, v1]; try rfl) rfl ?_
    exact ⟨⟨xs, st, a', c', rfl, HM.out, own_weaken (ownsRow_setCell_below (ownsRow_setCell_below OWN2.out (by simp) _) (by simp) _) (by omega)⟩, (HBw2.out.setCell (by simp; omega) _).setCell (by simp; omega) _⟩
theorem twoL_of {w : World} {b : Nat} {x0 x1 : Value} {T : TypeId} (h : Box w b #[x0, x1] T) : w.cell? ⟨b, 0, none⟩ = some x0 ∧ w.cell? ⟨b, 1, none⟩ = some x1 := ⟨h.cell 0, h.cell 1⟩
theorem nineL_of {w : World} {b : Nat} {v0 v1 v2 v3 v4 v5 v6 v7 v8 : Value} {T : TypeId} (h : Box w b #[v0, v1, v2, v3, v4, v5, v6, v7, v8] T) : w.cell? ⟨b, 0, none⟩ = some v0 ∧ w.cell? ⟨b, 1, none⟩ = some v1 ∧ w.cell? ⟨b, 2, none⟩ = some v2 ∧ w.cell? ⟨b, 3, none⟩ = some v3 ∧ w.cell? ⟨b, 4, none⟩ = some v4 ∧ w.cell? ⟨b, 5, none⟩ = some v5 ∧ w.cell? ⟨b, 6, none⟩ = some v6 ∧ w.cell? ⟨b, 7, none⟩ = some v7 ∧ w.cell? ⟨b, 8, none⟩ = some v8 := ⟨h.cell 0, h.cell 1, h.cell 2, h.cell 3, h.cell 4, h.cell 5, h.cell 6, h.cell 7, h.cell 8⟩
theorem ownsL_four {w : World} {base : Nat} {e : TypeId} {a : Option Addr} {c : Nat} {xs : List Value} (h : w.ownsRow base e 1 (.slice a 4 c) 4 xs) : ∃ g, a = some ⟨g, 0, none⟩ := by
  rcases owns_forms h with ⟨_, h0⟩ | ⟨g, cap, e⟩
  · cases h0
  · cases e; exact ⟨g, rfl⟩
theorem intsL_own {w : World} {base g c : Nat} {xs : List Int} {e : TypeId} (h : w.ownsRow base e 1 (.slice (some ⟨g, 0, none⟩) 4 c) 4 (xs.map I)) : IntAt w (some ⟨g, 0, none⟩) 4 xs := by
  obtain ⟨a, c', e1, h1⟩ := own_at h (by omega)
  cases e1
  exact h1
structure GoAt (w0 : World) (ca : Option Addr) (m : Nat) (f : Nat → CaD) (rs : Nat → List Int) (g p o : Nat) (xs : List Int) (st : Int) (u : Nat → Bool) (w : World) : Prop where
  cas : CasAt w0 ca m f
  res : CasR w0 ca m f rs
  old : w0.heap.size ≤ g
  blw : Below g w0 w
  rows : IntAt w (some ⟨p, o, none⟩) 4 xs
  ne : p ≠ g
  ok : OkRows xs st
  used : UsedAt w g m u
def GoSays (f : Nat → CaD) (rs : Nat → List Int) (m l : Nat) (u : Nat → Bool) (xs : List Int) (st : Int) (g : Nat) (w : World) (e : Ending) (w' : World) : Prop :=
  ∃ b, (e = .returned (.bool b) ∧ (b = true ↔ GoM f rs m l u xs st)) ∧ (b = false → UsedAt w' g m u) ∧ But g w w'
theorem spec_go (w0 : World) (ca : Option Addr) (m cc : Nat) (f : Nat → CaD) (rs : Nat → List Int) (g gc : Nat) (l : Nat) : ∀ (p o c : Nat) (xs : List Int) (st : Int) (u : Nat → Bool) (w : World), l ≤ 100 → GoAt w0 ca m f rs g p o xs st u w →
    Calls Tryz.prog 16 #[.agg #[.slice (some ⟨p, o, none⟩) 4 c, .int .i64 st], .slice ca m cc, .slice (some ⟨g, 0, none⟩) m gc, .int .i64 (l : Int)] w (GoSays f rs m l u xs st g w) := by
  induction l with
  | zero =>
    intro p o c xs st u w hl h
    have HB : Hid (But g w (w.alloc (.cells #[.slice (some ⟨p, o, none⟩) 4 c, .int .i64 st] 29))) := .of ((Below.refl _ w).alloc (Nat.le_refl _) _) (Nat.le_of_lt h.used.lt)
    have HT : Hid (GoM f rs m 0 u xs st) := trivial
    obtain ⟨P, hP⟩ : ∃ P, GoSays f rs m 0 u xs st g w = P := ⟨_, rfl⟩
    have HP : Hid (∀ e w', GoSays f rs m 0 u xs st g w e w' → P e w') := fun e w' h => by rw [← hP]; exact h
    rw [hP]
    clear h hP
    show Calls Tryz.prog 16 #[.agg #[.slice (some ⟨p, o, none⟩) 4 c, .int .i64 st], .slice ca m cc, .slice (some ⟨g, 0, none⟩) m gc, .int .i64 0] w P
    go_enter Tryz.func16, Tryz.ntmps16
    go_wp2
    (try go_ret)
    exact HP.out _ _ ⟨true, ⟨rfl, by simp [HT.out]⟩, (fun h => by cases h), HB.out⟩
  | succ l ih =>
    intro p o c xs st u w hl h
    have IH : Hid (∀ (p o c : Nat) (xs : List Int) (st : Int) (u : Nat → Bool) (w : World), GoAt w0 ca m f rs g p o xs st u w → Calls Tryz.prog 16 #[.agg #[.slice (some ⟨p, o, none⟩) 4 c, .int .i64 st], .slice ca m cc, .slice (some ⟨g, 0, none⟩) m gc, .int .i64 (l : Int)] w (GoSays f rs m l u xs st g w)) := fun p o c xs st u w h => ih p o c xs st u w (by omega) h
    obtain ⟨P, hP⟩ : ∃ P, GoSays f rs m (l + 1) u xs st g w = P := ⟨_, rfl⟩
    obtain ⟨G, hG⟩ : ∃ G : Prop, GoM f rs m (l + 1) u xs st = G := ⟨_, rfl⟩
    have HG : Hid (G ↔ ∃ k, k < m ∧ ByM f rs m l u xs st k) := by show _ ↔ _; rw [← hG]; exact GoM.by_
    have HP : Hid (∀ e w' b, e = .returned (.bool b) → (b = true ↔ G) → (b = false → UsedAt w' g m u) → But g w w' → P e w') := fun e w' b h1 h2 h3 h4 => by rw [← hP]; exact ⟨b, ⟨h1, by rw [hG]; exact h2⟩, h3, h4⟩
    rw [hP]
    have HC : Hid (CasAt w0 ca m f) := h.cas
    have HR : Hid (CasR w0 ca m f rs) := h.res
    have HOLD : Hid (w0.heap.size ≤ g) := h.old
    have HROW : Hid (IntAt w (some ⟨p, o, none⟩) 4 xs) := h.rows
    have HNE : Hid (p ≠ g) := h.ne
    have HOK : Hid (OkRows xs st) := h.ok
    have hm := h.cas.1
    have lg : g < w.heap.size := h.used.lt
    have hlz : (((l : Int) + 1) == 0) = false := by simp; omega
    have hl0 : (0 : Int) ≤ (l : Int) := by omega
    have hl1 : (l : Int) ≤ 100 := by omega
    obtain ⟨sz, hsz⟩ : ∃ sz, w.heap.size = sz := ⟨_, rfl⟩
    obtain ⟨W, hW⟩ : ∃ W, w.alloc (.cells #[.slice (some ⟨p, o, none⟩) 4 c, .int .i64 st] 29) = W := ⟨_, rfl⟩
    have hb0 : Below w.heap.size w W := by rw [← hW]; exact (Below.refl _ w).alloc (Nat.le_refl _) _
    have BR : Hid (Box W sz #[.slice (some ⟨p, o, none⟩) 4 c, .int .i64 st] 29) := by rw [← hW, ← hsz]; exact box_of w _ _
    have HBW : Hid (But g w W) := .of hb0 (Nat.le_of_lt lg)
    have HLW : Hid (Below g w0 W) := h.blw.trans (hb0.mono (Nat.le_of_lt lg))
    have HU0 : Hid (UsedAt W g m u) := h.used.below hb0 (Nat.le_refl _)
    have HW : Hid (w.alloc (.cells #[.slice (some ⟨p, o, none⟩) 4 c, .int .i64 st] 29) = W) := hW
    have HSZ : Hid (w.heap.size = sz) := hsz
    have LS : sz ≠ g := by omega
    have HIN : Hid (∀ y, But g W y → IntAt y (some ⟨p, o, none⟩) 4 xs) := fun y hy => (HBW.out.trans hy).ints HROW.out HNE.out
    have HCY : Hid (∀ y, But g W y → CasAt y ca m f) := fun y hy => HC.out.below (HLW.out.trans hy.blw) HOLD.out
    clear h hP hG hb0 hW ih
    rw [show ((l + 1 : Nat) : Int) = (l : Int) + 1 by simp]
    go_enter Tryz.func16, Tryz.ntmps16
    go_upto_region 3 with (fail)
    rw [HW.out]
    (try rw [HSZ.out])
    clear hsz HW
    go_wp2
    go_loopw [9] (fun q wr => ∃ k : Nat, k ≤ m ∧ q = .int .i64 (k : Int) ∧ (∀ j, j < k → ¬ ByM f rs m l u xs st j) ∧ UsedAt wr g m u ∧ But g W wr) (fun q _ => m - (intOf q).toNat)
    case atStart => exact ⟨0, Nat.zero_le _, rfl, (fun j h => by omega), HU0.out, But.refl _ _⟩
    case round =>
      obtain ⟨k, hk, rfl, hall, hu, hb⟩ := hrel
      have HALL : Hid (∀ j, j < k → ¬ ByM f rs m l u xs st j) := hall
      have HU : Hid (UsedAt wr g m u) := hu
      have HB : Hid (But g W wr) := hb
      clear hall hu hb
      by_cases hlt : k < m
      case neg =>
        obtain rfl : m = k := by omega
        have HNO : Hid (¬ G) := fun hg => by
          obtain ⟨j, hj, hby⟩ := HG.out.1 hg
          exact HALL.out j hj hby
        go_wp2
        (try go_ret)
        exact HP.out _ _ false rfl (by simp [HNO.out]) (fun _ => HU.out) (HBW.out.trans HB.out)
      have hk0 : (0 : Int) ≤ (k : Int) := by omega
      have hk1 : (k : Int) < (m : Int) := by omega
      rcases HR.out with h0 | ⟨p1, o1, rfl, g3⟩
      · omega
      obtain ⟨ra, rn, rc, hcc, hres⟩ := g3 k hlt
      obtain ⟨e0, e1, e2, e3, e4, e5, e6, e7, e8⟩ := hcc.below (HLW.out.trans HB.out.blw) HOLD.out
      obtain ⟨L, hL⟩ : ∃ L, rs k = L := ⟨_, rfl⟩
      obtain ⟨C, hC⟩ : ∃ C, f k = C := ⟨_, rfl⟩
      rw [hL] at hres
      rw [hC] at e0 e1 e2 e3 e4 e5 e6 e7
      obtain ⟨x0, x1, x2, x3, x4, x5, x6, x7⟩ := C
      dsimp only at e0 e1 e2 e3 e4 e5 e6 e7
      have HCL : Hid (f k = ⟨x0, x1, x2, x3, x4, x5, x6, x7⟩ ∧ rs k = L) := ⟨hC, hL⟩
      have HRES : Hid (∀ y, But g W y → IntAt y ra rn L) := fun y hy => hres.below (HLW.out.trans hy.blw) HOLD.out
      obtain ⟨q, hq⟩ : ∃ q, wr.heap.size = q := ⟨_, rfl⟩
      obtain ⟨X, hX⟩ : ∃ X, wr.alloc (.cells #[.int .i64 x0, .int .i64 x1, .int .i64 x2, .int .i64 x3, .int .i64 x4, .int .i64 x5, .int .i64 x6, .int .i64 x7, .slice ra rn rc] 52) = X := ⟨_, rfl⟩
      have hbx : Below wr.heap.size wr X := by rw [← hX]; exact (Below.refl _ wr).alloc (Nat.le_refl _) _
      have lgr : g < wr.heap.size := HU.out.lt
      have BC : Hid (Box X q #[.int .i64 x0, .int .i64 x1, .int .i64 x2, .int .i64 x3, .int .i64 x4, .int .i64 x5, .int .i64 x6, .int .i64 x7, .slice ra rn rc] 52) := by rw [← hX, ← hq]; exact box_of wr _ _
      have HBX : Hid (But g W X) := HB.out.trans (.of hbx (Nat.le_of_lt lgr))
      have HUX : Hid (UsedAt X g m u) := HU.out.below hbx (Nat.le_refl _)
      have LQ : q ≠ g := by omega
      have HX : Hid (wr.alloc (.cells #[.int .i64 x0, .int .i64 x1, .int .i64 x2, .int .i64 x3, .int .i64 x4, .int .i64 x5, .int .i64 x6, .int .i64 x7, .slice ra rn rc] 52) = X) := hX
      have HQ : Hid (wr.heap.size = q) := hq
      have HBR : Hid (∀ y, But g W y → Box y sz #[.slice (some ⟨p, o, none⟩) 4 c, .int .i64 st] 29) := fun y hy => hy.box BR.out LS
      clear g3 hC hL hres hcc hbx hX
      go_upto_region 7 with (fail)
      rw [HX.out]
      (try rw [HQ.out])
      clear HX HQ hq e0 e1 e2 e3 e4 e5 e6 e7 e8 lgr
      have z0 := HUX.out.at_ hlt
      obtain ⟨r0, r1⟩ := twoL_of (HBR.out _ HBX.out)
      obtain ⟨u0, u1, u2, u3, u4, u5, u6, u7, u8⟩ := nineL_of BC.out
      obtain ⟨uk, huk⟩ : ∃ uk, u k = uk := ⟨_, rfl⟩
      have HUK : Hid (u k = uk) := huk
      rw [huk] at z0
      clear huk
      rcases uk with _ | _
      case true =>
        have HNB : Hid (¬ ByM f rs m l u xs st k) := fun h => by have := h.1.1; rw [HUK.out] at this; cases this
        go_wp2
        exact ⟨⟨k + 1, by omega, by go_num, all_next HALL.out HNB.out, HUX.out, HBX.out⟩, by simp [intOf]; omega⟩
      go_wp2_with fail
      refine (spec_free (some ⟨p1, o1, none⟩) m cc f g gc u k hlt X (HCY.out _ HBX.out) HUX.out).mono ?_
      rintro e w2 ⟨b2, ⟨rfl, h2⟩, hb2⟩
      have HF : Hid (b2 = true ↔ FreeM f m u k) := h2
      have HB2 : Hid (But g W w2) := HBX.out.trans (.of hb2 (Nat.le_of_lt HUX.out.lt))
      have HU2 : Hid (UsedAt w2 g m u) := HUX.out.below hb2 (Nat.le_refl _)
      have BC2 : Hid (Box w2 q #[.int .i64 x0, .int .i64 x1, .int .i64 x2, .int .i64 x3, .int .i64 x4, .int .i64 x5, .int .i64 x6, .int .i64 x7, .slice ra rn rc] 52) := BC.out.below hb2 BC.out.lt
      clear h2 hb2 z0 r0 r1 u0 u1 u2 u3 u4 u5 u6 u7 u8
      obtain ⟨r0, r1⟩ := twoL_of (HBR.out _ HB2.out)
      obtain ⟨u0, u1, u2, u3, u4, u5, u6, u7, u8⟩ := nineL_of BC2.out
      rcases b2 with _ | _
      · have HNB : Hid (¬ ByM f rs m l u xs st k) := fun h => by have := HF.out.2 h.1.2.1; cases this
        go_wp2
        exact ⟨⟨k + 1, by omega, by go_num, all_next HALL.out HNB.out, HU2.out, HB2.out⟩, by simp [intOf]; omega⟩
      go_wp2_with fail
      refine (specAllowed_any (some ⟨p, o, none⟩) ra 4 c rn rc st x1 x2 x3 x7 xs L w2 (HIN.out _ HB2.out) (HRES.out _ HB2.out)).mono ?_
      rintro e w3 ⟨⟨b3, rfl, h3⟩, hb3⟩
      have HA : Hid (b3 = true ↔ AllowM xs st x1 x2 x3 x7 L) := h3
      have HB3 : Hid (But g W w3) := HB2.out.trans (.of hb3 (Nat.le_of_lt HU2.out.lt))
      have HU3 : Hid (UsedAt w3 g m u) := HU2.out.below hb3 (Nat.le_refl _)
      have BC3 : Hid (Box w3 q #[.int .i64 x0, .int .i64 x1, .int .i64 x2, .int .i64 x3, .int .i64 x4, .int .i64 x5, .int .i64 x6, .int .i64 x7, .slice ra rn rc] 52) := BC2.out.below hb3 BC2.out.lt
      clear h3 hb3 r0 r1 u0 u1 u2 u3 u4 u5 u6 u7 u8
      rcases b3 with _ | _
      · have HNB : Hid (¬ ByM f rs m l u xs st k) := fun h => by
          have h1 := h.1.2.2
          rw [HCL.out.1, HCL.out.2] at h1
          have := HA.out.2 h1
          cases this
        go_wp2
        exact ⟨⟨k + 1, by omega, by go_num, all_next HALL.out HNB.out, HU3.out, HB3.out⟩, by simp [intOf]; omega⟩
      have HNX : Hid (NextL f rs m u xs st k) := ⟨HUK.out, HF.out.1 (by simp), by rw [HCL.out.1, HCL.out.2]; exact HA.out.1 (by simp)⟩
      have z0 := HU3.out.at_ hlt
      have z1 := HU3.out.fr k
      obtain ⟨Y, hY⟩ : ∃ Y, w3.setCell ⟨g, k, none⟩ (.bool true) = Y := ⟨_, rfl⟩
      have HBY : Hid (But g W Y) := by rw [← hY]; exact HB3.out.put k _
      have HUY : Hid (UsedAt Y g m (takeM u k)) := by rw [← hY]; exact HU3.out.take hlt
      have BCY : Hid (Box Y q #[.int .i64 x0, .int .i64 x1, .int .i64 x2, .int .i64 x3, .int .i64 x4, .int .i64 x5, .int .i64 x6, .int .i64 x7, .slice ra rn rc] 52) := by rw [← hY]; exact BC3.out.set (q := ⟨g, k, none⟩) LQ _
      have HY : Hid (w3.setCell ⟨g, k, none⟩ (.bool true) = Y) := hY
      clear hY
      go_upto_region 9 with (fail)
      rw [HY.out]
      clear HY z0 z1
      obtain ⟨r0, r1⟩ := twoL_of (HBR.out _ HBY.out)
      obtain ⟨u0, u1, u2, u3, u4, u5, u6, u7, u8⟩ := nineL_of BCY.out
      go_wp2_with fail
      refine (specAfter_any ra p o 4 c rn rc st x1 x2 x3 x7 xs L Y (HIN.out _ HBY.out) (HRES.out _ HBY.out)).mono ?_
      rintro e w5 ⟨⟨zs, s5, a5, c5, rfl, hAf, hown5⟩, hb5⟩
      obtain ⟨g5, rfl⟩ := ownsL_four hown5
      have HAF : Hid (AfterM xs st x1 x2 x3 x7 L zs s5) := hAf
      have hg5 : Y.heap.size ≤ g5 := (hown5.lt g5 rfl).1
      have HB5 : Hid (But g W w5) := HBY.out.trans (.of hb5 (Nat.le_of_lt HUY.out.lt))
      have GA : Hid (GoAt w0 (some ⟨p1, o1, none⟩) m f rs g g5 0 zs s5 (takeM u k) w5) := ⟨HC.out, HR.out, HOLD.out, HLW.out.trans HB5.out.blw, intsL_own hown5, by have := HUY.out.lt; omega, after_rows HOK.out hAf, HUY.out.below hb5 (Nat.le_refl _)⟩
      have BC5 : Hid (Box w5 q #[.int .i64 x0, .int .i64 x1, .int .i64 x2, .int .i64 x3, .int .i64 x4, .int .i64 x5, .int .i64 x6, .int .i64 x7, .slice ra rn rc] 52) := BCY.out.below hb5 BCY.out.lt
      clear hAf hown5 hg5 hb5 r0 r1 u0 u1 u2 u3 u4 u5 u6 u7 u8
      go_wp2_with fail
      refine (IH.out g5 0 c5 zs s5 (takeM u k) w5 GA.out).mono ?_
      rintro e w6 ⟨b6, ⟨rfl, h6⟩, hu6, hb6⟩
      have HGO : Hid (b6 = true ↔ GoM f rs m l (takeM u k) zs s5) := h6
      have HB6 : Hid (But g W w6) := HB5.out.trans hb6
      have HU6 : Hid (b6 = false → UsedAt w6 g m (takeM u k)) := hu6
      clear h6 hu6 hb6
      have HAF' : Hid (AfterM xs st (f k).kd (f k).k (f k).v (f k).cd (rs k) zs s5) := by rw [HCL.out.1, HCL.out.2]; exact HAF.out
      rcases b6 with _ | _
      · have HNB : Hid (¬ ByM f rs m l u xs st k) := fun ⟨_, ys, t, hA, hGo⟩ => by
          obtain ⟨rfl, rfl⟩ := hA.one HAF'.out
          have := HGO.out.2 hGo
          cases this
        have HU7 := HU6.out (by simp)
        have z0 := HU7.at_ hlt
        have z1 := HU7.fr k
        obtain ⟨Z, hZ⟩ : ∃ Z, w6.setCell ⟨g, k, none⟩ (.bool false) = Z := ⟨_, rfl⟩
        have HBZ : Hid (But g W Z) := by rw [← hZ]; exact HB6.out.put k _
        have HUZ : Hid (UsedAt Z g m u) := by rw [← hZ]; exact HU7.back hlt HUK.out
        have HZ : Hid (w6.setCell ⟨g, k, none⟩ (.bool false) = Z) := hZ
        clear hZ HU7
        go_wp2
        (try rw [HZ.out])
        exact ⟨⟨k + 1, by omega, by go_num, all_next HALL.out HNB.out, HUZ.out, HBZ.out⟩, by simp [intOf]; omega⟩
      · have HYES : Hid G := HG.out.2 ⟨k, hlt, HNX.out, zs, s5, HAF'.out, HGO.out.1 (by simp)⟩
        go_wp2
        (try go_ret)
        exact HP.out _ _ true rfl (by simp [HYES.out]) (fun h => by cases h) (HBW.out.trans HB6.out)
theorem infoBoolL : (Tryz.prog.info? 4).map (fun i => (i.zero, i.size)) = some (some (.bool false), 1) := by kernel_rfl
theorem bytesBoolL : (Tryz.prog.info? 4).map (fun i => decide (i.bytes ≤ 1024)) = some true := by kernel_rfl
theorem make_used (n : Nat) (hn : n ≤ 2097152) (W : World) : (Instr.makeSlice 47 (.int .i64 (n : Int)) (.int .i64 (n : Int))).run Tryz.prog W = .ok (.slice (some ⟨W.heap.size, 0, none⟩) n n) (W.alloc (.cells (madeCells #[.bool false] n) 4)) := by
  obtain ⟨i0, hi, hz⟩ := Option.map_eq_some_iff.1 infoBoolL
  obtain ⟨i1, hi', hb1⟩ := Option.map_eq_some_iff.1 bytesBoolL
  obtain rfl : i0 = i1 := Option.some.inj (hi.symm.trans hi')
  have hz0 : i0.zero = some (.bool false) := congrArg Prod.fst hz
  have hz1 : i0.size = 1 := congrArg Prod.snd hz
  have hz2 : i0.bytes ≤ 1024 := of_decide_eq_true hb1
  have hby : i0.bytes * n ≤ 1024 * 2097152 := Nat.mul_le_mul hz2 hn
  have h : ((i0.bytes * n : Nat) : Int) ≤ 281474976710656 := by omega
  have hr := run_make (P := Tryz.prog) W 47 4 i0 (.bool false) Tryz.underlying47 hi hz0 .i64 .i64 (n : Int) (n : Int) (by omega) (Int.le_refl _) (by rwa [Int.natCast_mul] at h) (by omega)
  simp only [Int.toNat_natCast, hz1, Nat.mul_one] at hr
  exact hr
theorem used_new (W : World) (n : Nat) : UsedAt (W.alloc (.cells (madeCells #[.bool false] n) 4)) W.heap.size n (fun _ => false) :=
  ⟨_, box_of W _ _, by simp [madeCells], fun j hj => by simp [madeCells, hj, Nat.mod_one]⟩
noncomputable def linearL : List Oper := match Tryz.f6.body with
  | some (.seq _ (.seq _ (.seq _ (.seq (.region _ ops _) _)))) => ops.toList
  | _ => []
theorem spec_Linear (ra : Option Addr) (n c : Nat) (st : Int) (xs : List Int) (ca : Option Addr) (m cc : Nat) (f : Nat → CaD) (rs : Nat → List Int) (w : World) (hA : IntAt w ra n xs) (hm : m ≤ 1048576) (h : CasN w ca m f rs) :
    Calls Tryz.prog 6 #[.agg #[.slice ra n c, .int .i64 st], .slice ca m cc] w fun e w' => Says e (LinM f rs m xs st) ∧ Below w.heap.size w w' := by
  obtain ⟨G, hG⟩ : ∃ G : Prop, LinM f rs m xs st = G := ⟨_, rfl⟩
  have HG : Hid (G ↔ LinM f rs m xs st) := by show _ ↔ _; rw [hG]
  rw [hG]
  have hl := hA.1
  obtain ⟨W, hW⟩ : ∃ W, w.alloc (.cells #[.slice ra n c, .int .i64 st] 29) = W := ⟨_, rfl⟩
  have hb0 : Below w.heap.size w W := by rw [← hW]; exact (Below.refl _ w).alloc (Nat.le_refl _) _
  have HB0 : Hid (Below w.heap.size w W) := hb0
  have BR : Hid (Box W w.heap.size #[.slice ra n c, .int .i64 st] 29) := by rw [← hW]; exact box_of w _ _
  have HC : Hid (CasN W ca m f rs) := h.below hb0 (Nat.le_refl _)
  have HA : Hid (IntAt w ra n xs) := hA
  have HW : Hid (w.alloc (.cells #[.slice ra n c, .int .i64 st] 29) = W) := hW
  have HOK : Hid (SpecOk xs n st ↔ OkRows xs st) := ok_iff hl
  have HLX : Hid (xs.length = n) := hl
  clear h hb0 hW hG hA hl
  go_enter Tryz.func6, Tryz.ntmps6
  go_wp2_with fail
  rw [HW.out]
  refine (spec_l12Told ca m cc f rs W hm HC.out).mono ?_
  rintro e w1 ⟨v, rfl, hT, hb1⟩
  obtain ⟨la, lc, rfl, hcas, hcar⟩ := hT.cas
  have hnl := toldL_len f rs m
  obtain ⟨T, hTT⟩ : ∃ T, toldL f rs m = T := ⟨_, rfl⟩
  have HTT : Hid (toldL f rs m = T) := hTT
  rw [hTT] at hcas hcar hnl
  rw [hTT]
  obtain ⟨nl, hnn⟩ : ∃ nl, T.length = nl := ⟨_, rfl⟩
  have HNL : Hid (T.length = nl) := hnn
  rw [hnn] at hcas hcar hnl
  rw [hnn]
  have HCA : Hid (CasAt w1 la nl (tcF T)) := hcas
  have HCR : Hid (CasR w1 la nl (tcF T) (tcR T)) := hcar
  have HB1 : Hid (Below w.heap.size w w1) := HB0.out.trans (hb1.mono HB0.out.size)
  have BR1 : Hid (Box w1 w.heap.size #[.slice ra n c, .int .i64 st] 29) := BR.out.below hb1 BR.out.lt
  clear hT hb1 hcas hcar hTT hnn
  obtain ⟨r0, r1⟩ := twoL_of BR1.out
  go_wp2_with fail
  refine (specRowsOk_any ra n c st xs w1 (HA.out.below HB1.out (Nat.le_refl _))).mono ?_
  rintro e w2 ⟨⟨ok, rfl, hok⟩, hb2⟩
  have HS : Hid (ok = true ↔ SpecOk xs n st) := hok
  have HB2 : Hid (Below w.heap.size w w2) := HB1.out.trans (hb2.mono HB1.out.size)
  have BR2 : Hid (Box w2 w.heap.size #[.slice ra n c, .int .i64 st] 29) := BR1.out.below hb2 BR1.out.lt
  have HB12 : Hid (Below w1.heap.size w1 w2) := hb2
  clear hok hb2 r0 r1
  obtain ⟨r0, r1⟩ := twoL_of BR2.out
  rcases ok with _ | _
  · have HNO : Hid (¬ G) := fun hg => by
      have := HS.out.2 (HOK.out.2 (HG.out.1 hg).1)
      cases this
    go_wp2
    (try go_ret)
    exact ⟨⟨false, rfl, by simp [HNO.out]⟩, HB2.out⟩
  by_cases hm7 : m ≤ 7
  case neg =>
    have HNO : Hid (¬ G) := fun hg => hm7 (HG.out.1 hg).2.1
    have hd : decide ((m : Int) > 7) = true := decide_eq_true (by omega)
    clear hm7
    go_wp2
    (try go_ret)
    exact ⟨⟨false, rfl, by simp [HNO.out]⟩, HB2.out⟩
  have hd : decide ((m : Int) > 7) = false := decide_eq_false (by omega)
  have HOR : Hid (OkRows xs st) := HOK.out.1 (HS.out.1 (by simp))
  have HGO : Hid (G ↔ GoM (tcF T) (tcR T) nl nl (fun _ => false) xs st) := by
    show _ ↔ _
    rw [HG.out]
    unfold LinM
    rw [HTT.out, HNL.out]
    exact ⟨fun h => h.2.2, fun h => ⟨HOR.out, hm7, h⟩⟩
  obtain rfl : n = 4 := by have := HOR.out.1; have := HLX.out; omega
  rcases HA.out.2.2 with h0 | ⟨p, o, rfl, hp⟩
  · omega
  have lp : p < w.heap.size := World.block_lt_of_cell? w _ (hp 0 (by omega))
  have hmk := make_used nl (by omega)
  have X0 : Hid (Below w2.heap.size w2 (w2.alloc (.cells (madeCells #[.bool false] nl) 4)).drew) := ((Below.refl _ w2).alloc (Nat.le_refl _) _).drew
  obtain ⟨X, hX⟩ : ∃ X, (w2.alloc (.cells (madeCells #[.bool false] nl) 4)).drew = X := ⟨_, rfl⟩
  have HUX : Hid (UsedAt X w2.heap.size nl (fun _ => false)) := by rw [← hX]; exact used_new w2 nl
  have HBX : Hid (Below w2.heap.size w2 X) := by rw [← hX]; exact X0.out
  have HX : Hid ((w2.alloc (.cells (madeCells #[.bool false] nl) 4)).drew = X) := hX
  have hs0 := HB2.out.size
  have GA : Hid (GoAt w2 la nl (tcF T) (tcR T) w2.heap.size p o xs st (fun _ => false) X) := ⟨HCA.out.below HB12.out (Nat.le_refl _), HCR.out.below HB12.out (Nat.le_refl _), Nat.le_refl _, HBX.out, HA.out.below (HB2.out.trans (HBX.out.mono hs0)) (Nat.le_refl _), by omega, HOR.out, HUX.out⟩
  have HSX : Hid (∀ y, But w2.heap.size w2 y → y.cell? ⟨w.heap.size, 0, none⟩ = some (.slice (some ⟨p, o, none⟩) 4 c) ∧ y.cell? ⟨w.heap.size, 1, none⟩ = some (.int .i64 st)) := fun y hy => twoL_of (hy.box BR2.out (by have := BR.out.lt; have := BR1.out.lt; have := BR2.out.lt; omega))
  clear hX hp X0
  go_wp2_with fail
  change (Code.region _ (List.toArray linearL) true).wp _ _ _ _
  refine wp_region_held_drew (S := fun w' => w'.cell? ⟨w.heap.size, 0, none⟩ = some (.slice (some ⟨p, o, none⟩) 4 c) ∧ w'.cell? ⟨w.heap.size, 1, none⟩ = some (.int .i64 st)) (by kernel_rfl) ?_ (fun hHeld => ?_)
  · exact ⟨r0, r1⟩
  refine wpAnyH_take (i := 0) (oi := _) (v := .agg #[.slice (some ⟨p, o, none⟩) 4 c, .int .i64 st]) (by rw [List.getElem?_toArray]; exact rfl) (by kernel_rfl) (by kernel_rfl) (by kernel_rfl) (by intro _ _ _ h; exact h) (Or.inl ⟨by kernel_rfl, ?_⟩) hHeld ?_
  · intro w hSw; obtain ⟨s1, s2⟩ := hSw; go_simp
  (try simp only [Act.put, List.setIfInBounds_toArray, List.set_cons_zero, List.set_cons_succ])
  refine wpAnyH_take (i := 1) (oi := _) (v := .slice la nl lc) (by rw [List.getElem?_toArray]; exact rfl) (by kernel_rfl) (by kernel_rfl) (by kernel_rfl) (by intro _ _ _ h; exact h) (Or.inl ⟨by kernel_rfl, ?_⟩) hHeld ?_
  · intro w hSw; obtain ⟨s1, s2⟩ := hSw; go_simp
  (try simp only [Act.put, List.setIfInBounds_toArray, List.set_cons_zero, List.set_cons_succ])
  refine wpAnyH_take (i := 2) (oi := _) (v := .slice la nl lc) (by rw [List.getElem?_toArray]; exact rfl) (by kernel_rfl) (by kernel_rfl) (by kernel_rfl) (by intro _ _ _ h; exact h) (Or.inl ⟨by kernel_rfl, ?_⟩) hHeld ?_
  · intro w hSw; obtain ⟨s1, s2⟩ := hSw; go_simp
  (try simp only [Act.put, List.setIfInBounds_toArray, List.set_cons_zero, List.set_cons_succ])
  refine wpAnyH_take (i := 3) (oi := _) (v := .int .i64 (nl : Int)) (by rw [List.getElem?_toArray]; exact rfl) (by kernel_rfl) (by kernel_rfl) (by kernel_rfl) (by intro _ _ _ h; exact h) (Or.inl ⟨by kernel_rfl, ?_⟩) hHeld ?_
  · intro w hSw; obtain ⟨s1, s2⟩ := hSw; go_simp
  (try simp only [Act.put, List.setIfInBounds_toArray, List.set_cons_zero, List.set_cons_succ])
  refine wpAnyH_take (i := 5) (oi := _) (v := .slice la nl lc) (by rw [List.getElem?_toArray]; exact rfl) (by kernel_rfl) (by kernel_rfl) (by kernel_rfl) (by intro _ _ _ h; exact h) (Or.inl ⟨by kernel_rfl, ?_⟩) hHeld ?_
  · intro w hSw; obtain ⟨s1, s2⟩ := hSw; go_simp
  (try simp only [Act.put, List.setIfInBounds_toArray, List.set_cons_zero, List.set_cons_succ])
  refine wpAnyH_take (i := 6) (oi := _) (v := .int .i64 (nl : Int)) (by rw [List.getElem?_toArray]; exact rfl) (by kernel_rfl) (by kernel_rfl) (by kernel_rfl) (by intro _ _ _ h; exact h) (Or.inl ⟨by kernel_rfl, ?_⟩) hHeld ?_
  · intro w hSw; obtain ⟨s1, s2⟩ := hSw; go_simp
  (try simp only [Act.put, List.setIfInBounds_toArray, List.set_cons_zero, List.set_cons_succ])
  refine wpAnyH_ready (rs := [4]) (by kernel_rfl) (by simp) ?_
  refine AllReadyH.cons (o := _) (by rw [List.getElem?_toArray]; exact rfl) (fun K hK => ?_) AllReadyH.nil
  rw [if_pos (by kernel_rfl)]
  go_simp
  rw [HX.out]
  refine hK.out _ _ (HSX.out _ (.of HBX.out (Nat.le_refl _))) (fun hHeld => ?_)
  clear hK K
  (try simp only [Act.put, List.setIfInBounds_toArray, List.set_cons_zero, List.set_cons_succ])
  refine wpAnyH_ready (rs := [7]) (by kernel_rfl) (by simp) ?_
  refine AllReadyH.cons (o := _) (by rw [List.getElem?_toArray]; exact rfl) (fun K hK => ?_) AllReadyH.nil
  rw [if_pos (by kernel_rfl)]
  go_simp
  refine (spec_go w2 la nl lc (tcF T) (tcR T) w2.heap.size nl nl p o c xs st (fun _ => false) X (by omega) GA.out).mono ?_
  rintro e w4 ⟨b, ⟨rfl, hb⟩, _, hbt⟩
  refine hK.out _ _ (HSX.out _ ((But.of HBX.out (Nat.le_refl _)).trans hbt)) (fun hHeld => ?_)
  clear hK K
  (try simp only [Act.put, List.setIfInBounds_toArray, List.set_cons_zero, List.set_cons_succ])
  refine wpAnyH_ready (rs := [8]) (by kernel_rfl) (by simp) ?_
  refine AllReadyH.cons (o := _) (by rw [List.getElem?_toArray]; exact rfl) (fun K hK => ?_) AllReadyH.nil
  rw [if_pos (by kernel_rfl)]
  go_simp
  refine hK.out _ _ (HSX.out _ ((But.of HBX.out (Nat.le_refl _)).trans hbt)) (fun hHeld => ?_)
  clear hK K
  (try simp only [Act.put, List.setIfInBounds_toArray, List.set_cons_zero, List.set_cons_succ])
  refine wpAnyH_done (by kernel_rfl) ?_ _
  go_wp2
  (try simp only [Exit.inBlock, Exit.then])
  (try go_ret)
  exact ⟨⟨b, rfl, hb.trans HGO.out.symm⟩, HB2.out.trans ((HBX.out.mono hs0).trans (hbt.blw.mono hs0))⟩
end
section
open Go.ChangeShapes Go.WideShapes Go.ChangeAt Go.RowKit Go.Joins
def GoL : Nat → List CaR → List Int → Int → Prop
  | 0, _, _, _ => True
  | n + 1, L, xs, st => ∃ i, i < L.length ∧ (∀ j, j < (L.eraseIdx i).length → AheadM (tcF (L.eraseIdx i) j) (tcF L i) = false) ∧ AllowM xs st (tcF L i).kd (tcF L i).k (tcF L i).v (tcF L i).cd (tcR L i) ∧ ∃ ys s, AfterM xs st (tcF L i).kd (tcF L i).k (tcF L i).v (tcF L i).cd (tcR L i) ys s ∧ GoL n (L.eraseIdx i) ys s
def ByL (n : Nat) (L : List CaR) (xs : List Int) (st : Int) (i : Nat) : Prop := (∀ j, j < (L.eraseIdx i).length → AheadM (tcF (L.eraseIdx i) j) (tcF L i) = false) ∧ AllowM xs st (tcF L i).kd (tcF L i).k (tcF L i).v (tcF L i).cd (tcR L i) ∧ ∃ ys s, AfterM xs st (tcF L i).kd (tcF L i).k (tcF L i).v (tcF L i).cd (tcR L i) ys s ∧ GoL n (L.eraseIdx i) ys s
theorem GoL.by_ {n : Nat} {L : List CaR} {xs : List Int} {st : Int} : GoL (n + 1) L xs st ↔ ∃ i, i < L.length ∧ ByL n L xs st i := Iff.rfl
theorem tcN_map (f : Nat → CaD) (rs : Nat → List Int) (ks : List Nat) {i : Nat} (h : i < ks.length) : tcN (ks.map fun k => (f k, rs k)) i = (f ks[i], rs ks[i]) := by
  unfold tcN
  simp [List.getD, h]
theorem mem_erase_iff {ks : List Nat} (hn : ks.Nodup) {i : Nat} (hi : i < ks.length) (k : Nat) : k ∈ ks.eraseIdx i ↔ k ∈ ks ∧ k ≠ ks[i] := by
  rw [List.mem_eraseIdx_iff_getElem]
  constructor
  · rintro ⟨j, hj, hne, rfl⟩
    refine ⟨List.getElem_mem _, fun e => hne ?_⟩
    exact (List.getElem?_inj hj hn).1 (by rw [List.getElem?_eq_getElem hj, List.getElem?_eq_getElem hi, e])
  · rintro ⟨hm, hne⟩
    obtain ⟨j, hj, rfl⟩ := List.getElem_of_mem hm
    exact ⟨j, hj, fun e => hne (by subst e; rfl), rfl⟩
theorem map_erase (g : Nat → CaR) (ks : List Nat) (i : Nat) : (ks.map g).eraseIdx i = (ks.eraseIdx i).map g := by
  rw [List.eraseIdx_eq_take_drop_succ, List.eraseIdx_eq_take_drop_succ, List.map_append, List.map_take, List.map_drop]
theorem go_iff (f : Nat → CaD) (rs : Nat → List Int) (m : Nat) : ∀ (l : Nat) (ks : List Nat) (u : Nat → Bool) (xs : List Int) (st : Int), ks.Nodup → (∀ k, k ∈ ks ↔ k < m ∧ u k = false) → (GoL l (ks.map fun k => (f k, rs k)) xs st ↔ GoM f rs m l u xs st)
  | 0, ks, u, xs, st, _, _ => Iff.rfl
  | l + 1, ks, u, xs, st, hn, hk => by
    have key : ∀ i, (hi : i < ks.length) → (ByL l (ks.map fun k => (f k, rs k)) xs st i ↔ ByM f rs m l u xs st ks[i]) := fun i hi => by
      have hu : ks[i] < m ∧ u ks[i] = false := (hk _).1 (List.getElem_mem _)
      have hme := mem_erase_iff hn hi
      have hne : (ks.eraseIdx i).Nodup := hn.sublist (List.eraseIdx_sublist _ _)
      have ih := fun ys s => go_iff f rs m l (ks.eraseIdx i) (takeM u ks[i]) ys s hne (fun k => by
        rw [hme k, hk k]
        unfold takeM
        simp only [Bool.or_eq_false_iff, decide_eq_false_iff_not, and_assoc])
      have hF : (∀ j, j < ((ks.map fun k => (f k, rs k)).eraseIdx i).length → AheadM (tcF ((ks.map fun k => (f k, rs k)).eraseIdx i) j) (tcF (ks.map fun k => (f k, rs k)) i) = false) ↔ FreeM f m u ks[i] := by
        rw [map_erase]
        unfold tcF FreeM
        rw [tcN_map f rs ks hi]
        constructor
        · intro h k hkm hki huk
          obtain ⟨j, hj, e⟩ := List.getElem_of_mem ((hme k).2 ⟨(hk k).2 ⟨hkm, huk⟩, hki⟩)
          have := h j (by simpa using hj)
          rw [tcN_map f rs _ hj, e] at this
          exact this
        · intro h j hj
          have hj' : j < (ks.eraseIdx i).length := by simpa using hj
          rw [tcN_map f rs _ hj']
          obtain ⟨h1, h2⟩ := (hme _).1 (List.getElem_mem hj')
          obtain ⟨h3, h4⟩ := (hk _).1 h1
          exact h _ h3 h2 h4
      unfold ByL ByM NextL
      rw [hF]
      unfold tcF tcR
      rw [tcN_map f rs ks hi, map_erase]
      constructor
      · rintro ⟨h1, h2, ys, s, h3, h4⟩
        exact ⟨⟨hu.2, h1, h2⟩, ys, s, h3, (ih ys s).1 h4⟩
      · rintro ⟨⟨_, h1, h2⟩, ys, s, h3, h4⟩
        exact ⟨h1, h2, ys, s, h3, (ih ys s).2 h4⟩
    rw [GoL.by_, GoM.by_]
    constructor
    · rintro ⟨i, hi, h⟩
      have hi' : i < ks.length := by simpa using hi
      exact ⟨ks[i], ((hk _).1 (List.getElem_mem _)).1, (key i hi').1 h⟩
    · rintro ⟨k, hkm, h⟩
      obtain ⟨i, hi, rfl⟩ := List.getElem_of_mem ((hk k).2 ⟨hkm, h.1.1⟩)
      exact ⟨i, by simpa using hi, (key i hi).2 h⟩
theorem map_tc (L : List CaR) : ((List.range L.length).map fun k => (tcF L k, tcR L k)) = L := by
  apply List.ext_getElem
  · simp
  · intro i h1 h2
    simp [tcF, tcR, tcN, List.getD, h2]
theorem go_all (L : List CaR) (xs : List Int) (st : Int) : GoL L.length L xs st ↔ GoM (tcF L) (tcR L) L.length L.length (fun _ => false) xs st := by
  have h := go_iff (tcF L) (tcR L) L.length L.length (List.range L.length) (fun _ => false) xs st List.nodup_range (fun k => by simp)
  rw [map_tc] at h
  exact h
abbrev CaQ : Type := CaR × (Option Addr × Nat × Nat)
def qCells (p : CaQ) : List Value := callV p.1.1 (.slice p.2.1 p.2.2.1 p.2.2.2)
def qAll (Q : List CaQ) : List Value := Q.flatMap qCells
theorem qAll_len (Q : List CaQ) : (qAll Q).length = Q.length * 9 := by
  unfold qAll
  induction Q with
  | nil => rfl
  | cons x Q ih => rw [List.flatMap_cons, List.length_append, ih]; simp [qCells, callV]; omega
theorem qAll_at : ∀ {Q : List CaQ} {k r : Nat} {p : CaQ}, Q[k]? = some p → r < 9 → (qAll Q)[k * 9 + r]? = (qCells p)[r]?
  | [], k, r, p, h, _ => by simp at h
  | x :: Q, 0, r, p, h, hr => by
    simp only [List.getElem?_cons_zero, Option.some.injEq] at h
    subst h
    unfold qAll
    rw [List.flatMap_cons, Nat.zero_mul, Nat.zero_add, List.getElem?_append_left (by simpa [qCells, callV] using hr)]
  | x :: Q, k + 1, r, p, h, hr => by
    have h' : Q[k]? = some p := by simpa using h
    have ih := qAll_at h' hr
    unfold qAll at ih ⊢
    rw [List.flatMap_cons, List.getElem?_append_right (by simp [qCells, callV]; omega), ← ih]
    congr 1
    simp [qCells, callV]
    omega
theorem qAll_one (Q : List CaQ) : ∀ u ∈ qAll Q, u.oneCell' = true := by
  intro u hu
  obtain ⟨p, _, hp⟩ := List.mem_flatMap.1 hu
  simp [qCells, callV] at hp
  rcases hp with rfl | rfl | rfl | rfl | rfl | rfl | rfl | rfl | rfl <;> rfl
theorem qAll_erase (Q : List CaQ) (k : Nat) : qAll (Q.take k) ++ qAll (Q.drop (k + 1)) = qAll (Q.eraseIdx k) := by
  rw [List.eraseIdx_eq_take_drop_succ]
  unfold qAll
  rw [List.flatMap_append]
theorem qAll_take (Q : List CaQ) (k : Nat) : qAll (Q.take k) = (qAll Q).take (k * 9) := by
  conv => rhs; rw [← List.take_append_drop k Q]
  unfold qAll
  by_cases h : k ≤ Q.length
  · rw [List.flatMap_append, List.take_left']
    have := qAll_len (Q.take k)
    unfold qAll at this
    rw [this, List.length_take]
    simp [h]
  · rw [List.take_of_length_le (by omega), List.drop_of_length_le (by omega), List.append_nil, List.take_of_length_le]
    have := qAll_len Q
    unfold qAll at this
    omega
theorem qAll_drop (Q : List CaQ) (k : Nat) (h : k ≤ Q.length) : qAll (Q.drop k) = (qAll Q).drop (k * 9) := by
  conv => rhs; rw [← List.take_append_drop k Q]
  unfold qAll
  rw [List.flatMap_append, List.drop_left']
  have := qAll_len (Q.take k)
  unfold qAll at this
  rw [this, List.length_take]
  simp [h]
def IntB (g : Nat) (w : World) (a : Option Addr) (n : Nat) (xs : List Int) : Prop := ∀ y, But g w y → IntAt y a n xs
theorem IntB.on {g : Nat} {w w' : World} {a : Option Addr} {n : Nat} {xs : List Int} (h : IntB g w a n xs) (hb : But g w w') : IntB g w' a n xs := fun y hy => h y (hb.trans hy)
def CasP (g : Nat) (w : World) (a : Option Addr) (Q : List CaQ) : Prop := Q.length = 0 ∨ ∃ b o, a = some ⟨b, o, none⟩ ∧ b ≠ g ∧ (∀ j u, (qAll Q)[j]? = some u → w.cell? ⟨b, o + j, none⟩ = some u) ∧ ∀ p ∈ Q, IntB g w p.2.1 p.2.2.1 p.1.2
theorem But.cell {g : Nat} {w w' : World} (h : But g w w') {a : Addr} {v : Value} (hc : w.cell? a = some v) (hg : a.block ≠ g) : w'.cell? a = some v :=
  (World.cell?_of_block (h.rest a.block (World.block_lt_of_cell? w _ hc) hg)).trans hc
theorem CasP.on {g : Nat} {w w' : World} {a : Option Addr} {Q : List CaQ} (h : CasP g w a Q) (hb : But g w w') : CasP g w' a Q := by
  rcases h with h | ⟨b, o, h1, h2, h3, h4⟩
  · exact .inl h
  · exact .inr ⟨b, o, h1, h2, fun j u hj => hb.cell (h3 j u hj) h2, fun p hp => (h4 p hp).on hb⟩
theorem CasP.one {g : Nat} {w : World} {a : Option Addr} {Q : List CaQ} (h : CasP g w a Q) {k : Nat} {p : CaQ} (hp : Q[k]? = some p) : ∃ b o, a = some ⟨b, o, none⟩ ∧ b ≠ g ∧ CaC w b (o + k * 9) p.1.1 (.slice p.2.1 p.2.2.1 p.2.2.2) ∧ IntB g w p.2.1 p.2.2.1 p.1.2 := by
  rcases h with h | ⟨b, o, h1, h2, h3, h4⟩
  · rw [List.length_eq_zero_iff.1 h] at hp
    simp at hp
  · have c : ∀ r u, r < 9 → (qCells p)[r]? = some u → w.cell? ⟨b, o + k * 9 + r, none⟩ = some u := fun r u hr hu => by
      have := h3 (k * 9 + r) u (by rw [qAll_at hp hr]; exact hu)
      rw [Nat.add_assoc]
      exact this
    exact ⟨b, o, h1, h2, ⟨c 0 _ (by omega) rfl, c 1 _ (by omega) rfl, c 2 _ (by omega) rfl, c 3 _ (by omega) rfl, c 4 _ (by omega) rfl, c 5 _ (by omega) rfl, c 6 _ (by omega) rfl, c 7 _ (by omega) rfl, c 8 _ (by omega) rfl⟩, h4 p (List.mem_of_getElem? hp)⟩
theorem CasP.cas {g : Nat} {w : World} {a : Option Addr} {Q : List CaQ} (h : CasP g w a Q) (hn : Q.length ≤ 1000) : CasAt w a Q.length (tcF (Q.map Prod.fst)) := by
  refine ⟨by omega, ?_⟩
  by_cases h0 : Q.length = 0
  · exact .inl h0
  · obtain ⟨b, o, e, _⟩ := h.one (k := 0) (p := Q[0]) (List.getElem?_eq_getElem (by omega))
    refine .inr ⟨b, o, e, fun i hi => ?_⟩
    obtain ⟨b', o', e', _, hc, _⟩ := h.one (k := i) (p := Q[i]) (List.getElem?_eq_getElem hi)
    rw [e] at e'
    cases e'
    have : tcF (Q.map Prod.fst) i = Q[i].1.1 := by simp [tcF, tcN, List.getD, hi]
    rw [this]
    exact ⟨_, _, _, hc⟩
theorem casP_own {g base : Nat} {w : World} {v : Value} {Q : List CaQ} (h : w.ownsRow base 52 9 v Q.length (qAll Q)) (hg : g < base) (hr : ∀ p ∈ Q, IntB g w p.2.1 p.2.2.1 p.1.2) : ∃ a c, v = .slice a Q.length c ∧ Q.length ≤ c ∧ CasP g w a Q := by
  obtain ⟨a, c, rfl, hc⟩ := owns_slice h
  refine ⟨a, c, rfl, hc, ?_⟩
  rcases owns_forms h with ⟨-, h3⟩ | ⟨b, cap, hv⟩
  · exact .inl h3
  · cases hv
    refine .inr ⟨b, 0, rfl, ?_, fun j u hj => ?_, hr⟩
    · have := (h.lt b rfl).1
      omega
    · have := h.cells (g := b) rfl j u hj
      have e : (⟨b, 0, none⟩ : Addr).add j = ⟨b, 0 + j, none⟩ := by simp [Addr.add]; omega
      rw [e] at this
      exact this
theorem CasP.cells {g pb po : Nat} {w : World} {Q : List CaQ} (h : CasP g w (some ⟨pb, po, none⟩) Q) : ∀ j u, (qAll Q)[j]? = some u → w.cell? ⟨pb, po + j, none⟩ = some u := by
  rcases h with h | ⟨b, o, h1, h2, h3, h4⟩
  · rw [List.length_eq_zero_iff.1 h]
    intro j u hj
    simp [qAll] at hj
  · cases h1
    exact h3
theorem CasP.parts {g pb po k lc m : Nat} {w : World} {Q : List CaQ} (h : CasP g w (some ⟨pb, po, none⟩) Q) (hm : Q.length = m) (hk : k < m) (hc : m ≤ lc) {a2 : Addr} (ha : (if lc = k + 1 then (⟨pb, po, none⟩ : Addr) else ⟨pb, po + (k + 1) * 9, none⟩) = a2) :
    (qAll (Q.take k)).length = k * 9 ∧ (qAll (Q.drop (k + 1))).length = (m - (k + 1)) * 9 ∧ (∀ j u, (qAll (Q.take k))[j]? = some u → w.cell? ((⟨pb, po, none⟩ : Addr).add j) = some u) ∧ ∀ j u, (qAll (Q.drop (k + 1)))[j]? = some u → w.cell? (a2.add j) = some u := by
  have add : ∀ a j : Nat, (⟨pb, a, none⟩ : Addr).add j = ⟨pb, a + j, none⟩ := fun a j => by simp [Addr.add]
  refine ⟨?_, ?_, fun j u hj => ?_, fun j u hj => ?_⟩
  · rw [qAll_len, List.length_take]
    congr 1
    omega
  · rw [qAll_len, List.length_drop, hm]
  · rw [qAll_take] at hj
    rw [add]
    refine h.cells j u ?_
    have hl := (List.getElem?_eq_some_iff.1 hj).1
    rw [List.length_take] at hl
    rw [List.getElem?_take_of_lt (by omega)] at hj
    exact hj
  · have hl := (List.getElem?_eq_some_iff.1 hj).1
    rw [qAll_len, List.length_drop] at hl
    rw [if_neg (by omega)] at ha
    subst ha
    rw [qAll_drop _ _ (by omega), List.getElem?_drop] at hj
    rw [add, Nat.add_assoc]
    exact h.cells _ u hj
theorem told_casP {g base : Nat} {w : World} {v : Value} {L : List CaR} (h : ToldAt w base v L) (hg : g < base) : ∃ a c Q, v = .slice a L.length c ∧ L.length ≤ c ∧ Q.map Prod.fst = L ∧ CasP g w a Q := by
  obtain ⟨S, ho⟩ := h.ex
  obtain ⟨a, c, rfl, hc⟩ := ho.slice
  have BUT : ∀ y, But g w y → ToldAt y base (.slice a L.length c) L := fun y hy => ⟨S, ho.heap fun x hx => hy.rest x (ho.lt x hx).2 (by have := (ho.lt x hx).1; omega)⟩
  rcases ho.forms with ⟨e, h0, _⟩ | ⟨b, cap, e, hcap, hS⟩
  · have hl : L = [] := List.length_eq_zero_iff.1 h0
    subst hl
    exact ⟨a, c, [], rfl, hc, rfl, .inl rfl⟩
  · cases e
    have hbg : b ≠ g := by have := (ho.lt b hS).1; omega
    obtain ⟨a', c', e', _, hR⟩ := h.cas
    cases e'
    rcases hR with h0 | ⟨b', o', e, hr⟩
    · have hl : L = [] := List.length_eq_zero_iff.1 h0
      subst hl
      exact ⟨_, _, [], rfl, hc, rfl, .inl rfl⟩
    · cases e
      obtain ⟨z, hz⟩ : ∃ z : Nat → Option Addr × Nat × Nat, ∀ i, i < L.length → CaC w b (0 + i * 9) (tcF L i) (.slice (z i).1 (z i).2.1 (z i).2.2) :=
        Go.Deep.choose_lt (p := fun i (z : Option Addr × Nat × Nat) => CaC w b (0 + i * 9) (tcF L i) (.slice z.1 z.2.1 z.2.2)) (fun i hi => let ⟨ra, rn, rc, h, _⟩ := hr i hi; ⟨(ra, rn, rc), h⟩)
      have hint : ∀ i, i < L.length → IntB g w (z i).1 (z i).2.1 (tcR L i) := fun i hi y hy => by
        obtain ⟨a2, c2, e2, _, hR2⟩ := (BUT y hy).cas
        cases e2
        rcases hR2 with h0 | ⟨b2, o2, e3, hr2⟩
        · omega
        · cases e3
          obtain ⟨ra, rn, rc, hc2, hI⟩ := hr2 i hi
          have h8 := hy.cell (hz i hi).2.2.2.2.2.2.2.2 hbg
          rw [hc2.2.2.2.2.2.2.2.2] at h8
          cases h8
          exact hI
      have hQ : ∀ i, i < L.length → ((List.range L.length).map fun i => ((tcN L i, z i) : CaQ))[i]? = some (tcN L i, z i) := fun i hi => by simp [hi]
      refine ⟨_, _, (List.range L.length).map fun i => (tcN L i, z i), rfl, hc, ?_, .inr ⟨b, 0, rfl, hbg, fun j u hj => ?_, fun p hp => ?_⟩⟩
      · rw [List.map_map]
        exact map_tc L
      · have hjl : j < L.length * 9 := by
          have h1 := (List.getElem?_eq_some_iff.1 hj).1
          rw [qAll_len] at h1
          simpa using h1
        have hi : j / 9 < L.length := by omega
        rw [show j = j / 9 * 9 + j % 9 by omega, qAll_at (hQ _ hi) (by omega)] at hj
        obtain ⟨c0, c1, c2, c3, c4, c5, c6, c7, c8⟩ := hz _ hi
        have e : (0 + j : Nat) = 0 + j / 9 * 9 + j % 9 := by omega
        rw [e]
        have hm : j % 9 = 0 ∨ j % 9 = 1 ∨ j % 9 = 2 ∨ j % 9 = 3 ∨ j % 9 = 4 ∨ j % 9 = 5 ∨ j % 9 = 6 ∨ j % 9 = 7 ∨ j % 9 = 8 := by omega
        rcases hm with h | h | h | h | h | h | h | h | h <;> rw [h] at hj ⊢ <;> cases hj
        · exact c0
        · exact c1
        · exact c2
        · exact c3
        · exact c4
        · exact c5
        · exact c6
        · exact c7
        · exact c8
      · obtain ⟨i, hi, rfl⟩ := List.mem_map.1 hp
        exact hint i (List.mem_range.1 hi)
end
end Go.Proofs.YtecheopkfhfgkaaGreat
