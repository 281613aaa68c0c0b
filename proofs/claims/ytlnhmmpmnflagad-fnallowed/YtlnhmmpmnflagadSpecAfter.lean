/- spec.After, walked at any rows, op and result. -/
import Derived.Test.YtlnhmmpmnflagadSpecAllow
import Derived.Test.YtlnhmmpmnflagadSpecCopy
namespace Go.Proofs.Ytlnhmmpmnflagad
open Go.ChangeShapes Go.WideShapes Go.ChangeAt Go.RowKit

/-- What stands in memory of the three arguments and of the answer's own place, while nothing is written there. -/
def Four (w : World) (ra oa sa va : Array Value) (wr : World) : Prop :=
  (∀ i u, ra[i]? = some u → wr.cell? ⟨w.heap.size, i, none⟩ = some u) ∧ (∀ i u, oa[i]? = some u → wr.cell? ⟨w.heap.size + 1, i, none⟩ = some u) ∧ (∀ i u, sa[i]? = some u → wr.cell? ⟨w.heap.size + 1 + 1, i, none⟩ = some u)
    ∧ (∀ i u, va[i]? = some u → wr.cell? ⟨w.heap.size + 1 + 1 + 1, i, none⟩ = some u) ∧ (∀ i, wr.frozen? ⟨w.heap.size + 1 + 1 + 1, i, none⟩ = false)
theorem four_at (w : World) (ra oa sa va : Array Value) (T1 T2 T3 T4 : TypeId) (wr : World) (h : Below (w.heap.size + 1 + 1 + 1 + 1) ((((w.alloc (.cells ra T1)).alloc (.cells oa T2)).alloc (.cells sa T3)).alloc (.cells va T4)) wr) : Four w ra oa sa va wr := by
  refine ⟨fun i u hu => ?_, fun i u hu => ?_, fun i u hu => ?_, fun i u hu => ?_, fun i => ?_⟩
  · rw [h.cell (show w.heap.size < w.heap.size + 1 + 1 + 1 + 1 by omega), World.cell?_alloc_past _ _ _ (by simp; omega), World.cell?_alloc_past _ _ _ (by simp; omega), World.cell?_alloc_past _ _ _ (by simp), World.cell?_alloc_at _ _ _ _ rfl]
    exact hu
  · rw [h.cell (show w.heap.size + 1 < w.heap.size + 1 + 1 + 1 + 1 by omega), World.cell?_alloc_past _ _ _ (by simp; try omega), World.cell?_alloc_past _ _ _ (by simp), World.cell?_alloc_at _ _ _ _ (by simp)]
    exact hu
  · rw [h.cell (show w.heap.size + 1 + 1 < w.heap.size + 1 + 1 + 1 + 1 by omega), World.cell?_alloc_past _ _ _ (by simp), World.cell?_alloc_at _ _ _ _ (by simp)]
    exact hu
  · rw [h.cell (show w.heap.size + 1 + 1 + 1 < w.heap.size + 1 + 1 + 1 + 1 by omega), World.cell?_alloc_at _ _ _ _ (by simp)]
    exact hu
  · rw [h.frozen (show w.heap.size + 1 + 1 + 1 < w.heap.size + 1 + 1 + 1 + 1 by omega)]
    simp [World.frozen?_alloc_at]

/-- The answer: new rows, as they are behind it. -/
def AfterSays (e : Ending) (w w' : World) (n : Nat) (A : List Int → Int → Prop) : Prop :=
  ∃ (zs : List Int) (st' : Int) (a' : Option Addr) (c' : Nat), e = .returned (.agg #[.slice a' n c', .int .i64 st']) ∧ A zs st' ∧ w'.ownsRow w.heap.size 3 1 (.slice a' n c') n (zs.map I)

set_option maxHeartbeats 2000000 in
theorem specAfter_any (a2 : Option Addr) (p q n cp n2 c2 : Nat) (st kind k v code : Int) (xs ys : List Int) (w : World) (hA : IntAt w (some ⟨p, q, none⟩) n xs) (h2 : IntAt w a2 n2 ys) :
    Calls Try.prog 8 #[.agg #[.slice (some ⟨p, q, none⟩) n cp, .int .i64 st], OpV kind k v, ResV code a2 n2 c2] w fun e w' => AfterSays e w w' n (AfterM xs st kind k v code ys) ∧ Below w.heap.size w w' := by
  have HA : Hid (IntAt w (some ⟨p, q, none⟩) n xs) := hA
  have H2 : Hid (IntAt w a2 n2 ys) := h2
  clear hA h2
  go_enter Try.func8, Try.ntmps8
  go_wp2_with fail
  have HB0 : Hid (Below w.heap.size w ((((w.alloc (.cells #[.slice (some ⟨p, q, none⟩) n cp, .int .i64 st] 26)).alloc (.cells #[.int .i64 kind, .int .i64 k, .int .i64 v] 28)).alloc (.cells #[.int .i64 code, .slice a2 n2 c2] 30)).alloc (.cells #[.slice none 0 0, .int .i64 0] 26))) := ((((Below.refl _ w).alloc (Nat.le_refl _) _).alloc (by simp) _).alloc (by simp; omega) _).alloc (by simp; omega) _
  refine (l3Copy_any p q n cp st xs _ (HA.out.below HB0.out (Nat.le_refl _))).mono ?_
  rintro e w1 ⟨a', c', rfl, own1, hb1⟩
  simp only [World.size_alloc] at hb1 own1
  have hs1 := hb1.size
  simp only [World.size_alloc] at hs1
  have HC : Hid (∀ wr, Below (w.heap.size + 1 + 1 + 1 + 1) ((((w.alloc (.cells #[.slice (some ⟨p, q, none⟩) n cp, .int .i64 st] 26)).alloc (.cells #[.int .i64 kind, .int .i64 k, .int .i64 v] 28)).alloc (.cells #[.int .i64 code, .slice a2 n2 c2] 30)).alloc (.cells #[.slice none 0 0, .int .i64 0] 26)) wr → Four w #[.slice (some ⟨p, q, none⟩) n cp, .int .i64 st] #[.int .i64 kind, .int .i64 k, .int .i64 v] #[.int .i64 code, .slice a2 n2 c2] #[.slice none 0 0, .int .i64 0] wr) := fun wr h => four_at w _ _ _ _ _ _ _ _ wr h
  have hbW := hb1.alloc hs1 (.cells #[.slice a' n c', .int .i64 st] 26)
  have HB1 : Hid (Below (w.heap.size + 1 + 1 + 1 + 1) ((((w.alloc (.cells #[.slice (some ⟨p, q, none⟩) n cp, .int .i64 st] 26)).alloc (.cells #[.int .i64 kind, .int .i64 k, .int .i64 v] 28)).alloc (.cells #[.int .i64 code, .slice a2 n2 c2] 30)).alloc (.cells #[.slice none 0 0, .int .i64 0] 26)) (w1.alloc (.cells #[.slice a' n c', .int .i64 st] 26))) := hbW
  have HBw1 : Hid (Below w.heap.size w (w1.alloc (.cells #[.slice a' n c', .int .i64 st] 26))) := HB0.out.trans (hbW.mono (by omega))
  have OWN1 : Hid ((w1.alloc (.cells #[.slice a' n c', .int .i64 st] 26)).ownsRow (w.heap.size + 1 + 1 + 1 + 1) 3 1 (.slice a' n c') n (xs.map I)) := (own_weaken own1 (by omega)).alloc _
  have c0 := (HC.out _ hbW).1 0 _ rfl
  have c1 := (HC.out _ hbW).1 1 _ rfl
  have d0 := (HC.out _ hbW).2.1 0 _ rfl
  have d1 := (HC.out _ hbW).2.1 1 _ rfl
  have d2 := (HC.out _ hbW).2.1 2 _ rfl
  have f0 := (HC.out _ hbW).2.2.1 0 _ rfl
  have f1 := (HC.out _ hbW).2.2.1 1 _ rfl
  have hlt1 : Hid (∀ k, (Value.slice a' n c').ownBlock = some k → k < w1.heap.size) := fun k hk => (own1.lt k hk).2
  clear hb1 own1 hbW
  go_wp2_with fail
  refine (specAllowed_any _ a2 n cp n2 c2 st kind k v code xs ys _ (HA.out.below HBw1.out (Nat.le_refl _)) (H2.out.below HBw1.out (Nat.le_refl _))).mono ?_
  rintro e w2 ⟨⟨ok, rfl, hok⟩, hb2⟩
  have hbW2 := HB1.out.trans (hb2.mono (by simp; omega))
  have HBw2 : Hid (Below w.heap.size w w2) := HBw1.out.trans (hb2.mono (by simp; omega))
  have OWN2 : Hid (w2.ownsRow (w.heap.size + 1 + 1 + 1 + 1) 3 1 (.slice a' n c') n (xs.map I)) := owns_below OWN1.out hb2 (Nat.le_refl _)
  have o0 : w2.cell? ⟨w1.heap.size, 0, none⟩ = some (.slice a' n c') := by rw [hb2.cell (by simp)]; simp
  have o1 : w2.cell? ⟨w1.heap.size, 1, none⟩ = some (.int .i64 st) := by rw [hb2.cell (by simp)]; simp
  have z0 : w2.frozen? ⟨w1.heap.size, 0, none⟩ = false := by rw [hb2.frozen (by simp)]; simp
  have z1 : w2.frozen? ⟨w1.heap.size, 1, none⟩ = false := by rw [hb2.frozen (by simp)]; simp
  have c0 := (HC.out _ hbW2).1 0 _ rfl
  have c1 := (HC.out _ hbW2).1 1 _ rfl
  have d0 := (HC.out _ hbW2).2.1 0 _ rfl
  have d1 := (HC.out _ hbW2).2.1 1 _ rfl
  have d2 := (HC.out _ hbW2).2.1 2 _ rfl
  have f0 := (HC.out _ hbW2).2.2.1 0 _ rfl
  have f1 := (HC.out _ hbW2).2.2.1 1 _ rfl
  have v0 := (HC.out _ hbW2).2.2.2.1 0 _ rfl
  have v1 := (HC.out _ hbW2).2.2.2.1 1 _ rfl
  have y0 := (HC.out _ hbW2).2.2.2.2 0
  have y1 := (HC.out _ hbW2).2.2.2.2 1
  have HOK : Hid (ok = true ↔ AllowM xs st kind k v code ys) := hok
  clear hb2 hbW2 hok OWN1 HB1 HBw1
  cases ok
  · have HM : Hid (AfterM xs st kind k v code ys xs st) := .inr ⟨fun h => (by have := HOK.out.2 h.1; cases this), rfl, rfl⟩
    go_wp2
    (try simp only [Exit.inBlock, Exit.then])
    refine bodyPost_ret (by simp [results, Try.results8, go_sem, v0, v1]; try rfl) rfl ?_
    exact ⟨⟨xs, st, a', c', rfl, HM.out, own_weaken (ownsRow_setCell_below (ownsRow_setCell_below OWN2.out (by simp) _) (by simp) _) (by omega)⟩, (HBw2.out.setCell (by simp; omega) _).setCell (by simp; omega) _⟩
  have hal := HOK.out.1 rfl
  obtain rfl : n = 4 := by rw [← HA.out.1]; exact hal.1.1
  have HAL : Hid (AllowM xs st kind k v code ys) := hal
  clear HOK
  by_cases hc : code = 0
  · subst hc
    have hop := hal.2.1
    clear hal
    rcases kinds hop.1 with rfl | rfl | rfl | rfl | rfl | rfl | rfl | rfl | rfl | rfl
    · obtain ⟨m, rfl⟩ : ∃ m : Nat, k = m := ⟨k.toNat, by have := hop.2.1; unfold KeyGood at this; omega⟩
      have hm : m < 4 := by have := hop.2.1; unfold KeyGood at this; omega
      have HM : Hid (AfterM xs st 1 m v 0 ys (xs.set m v) st) := .inl ⟨HAL.out, rfl, .inl ⟨by omega, rfl, rfl⟩⟩
      clear hop
      rcases OWN2.out.2 with ⟨_, h0⟩ | ⟨g, cap, cur, hv, hbg, hgg, _⟩
      · omega
      obtain ⟨rfl, rfl⟩ : a' = some ⟨g, 0, none⟩ ∧ c' = cap := by simpa using hv
      have hst := (OWN2.out.stored m (I v)).1
      rw [← List.map_set] at hst
      have HS : Hid ((w2.setCell ⟨g, m, none⟩ (I v)).ownsRow (w.heap.size + 1 + 1 + 1 + 1) 3 1 (.slice (some ⟨g, 0, none⟩) 4 c') 4 ((xs.set m v).map I)) := hst
      have hfz := OWN2.out.frozenAt m
      obtain ⟨u0, hu⟩ := own_cell OWN2.out hm
      have hg1 : g < w1.heap.size := hlt1.out g rfl
      have HG1 : Hid (g < w1.heap.size) := hg1
      have p0 : (w2.setCell ⟨g, m, none⟩ (I v)).cell? ⟨w1.heap.size, 0, none⟩ = some (.slice (some ⟨g, 0, none⟩) 4 c') := by rw [World.cell?_setCell_other _ _ _ _ (fun e => by cases e; omega)]; exact o0
      have p1 : (w2.setCell ⟨g, m, none⟩ (I v)).cell? ⟨w1.heap.size, 1, none⟩ = some (.int .i64 st) := by rw [World.cell?_setCell_other _ _ _ _ (fun e => by cases e; omega)]; exact o1
      clear hst hv hgg
      go_wp2
      (try simp only [Exit.inBlock, Exit.then])
      refine bodyPost_ret (by simp [results, Try.results8, go_sem, v0, v1]; try rfl) rfl ?_
      exact ⟨⟨xs.set m v, st, some ⟨g, 0, none⟩, c', rfl, HM.out, own_weaken (ownsRow_setCell_below (ownsRow_setCell_below HS.out (by simp) _) (by simp) _) (by omega)⟩, ((HBw2.out.setCell (by simp; omega) _).setCell (by simp; omega) _).setCell (by simp; omega) _⟩
    · obtain ⟨m, rfl⟩ : ∃ m : Nat, k = m := ⟨k.toNat, by have := hop.2.1; unfold KeyGood at this; omega⟩
      have hm : m < 4 := by have := hop.2.1; unfold KeyGood at this; omega
      have HM : Hid (AfterM xs st 2 m v 0 ys (xs.set m v) st) := .inl ⟨HAL.out, rfl, .inl ⟨by omega, rfl, rfl⟩⟩
      clear hop
      rcases OWN2.out.2 with ⟨_, h0⟩ | ⟨g, cap, cur, hv, hbg, hgg, _⟩
      · omega
      obtain ⟨rfl, rfl⟩ : a' = some ⟨g, 0, none⟩ ∧ c' = cap := by simpa using hv
      have hst := (OWN2.out.stored m (I v)).1
      rw [← List.map_set] at hst
      have HS : Hid ((w2.setCell ⟨g, m, none⟩ (I v)).ownsRow (w.heap.size + 1 + 1 + 1 + 1) 3 1 (.slice (some ⟨g, 0, none⟩) 4 c') 4 ((xs.set m v).map I)) := hst
      have hfz := OWN2.out.frozenAt m
      obtain ⟨u0, hu⟩ := own_cell OWN2.out hm
      have hg1 : g < w1.heap.size := hlt1.out g rfl
      have HG1 : Hid (g < w1.heap.size) := hg1
      have p0 : (w2.setCell ⟨g, m, none⟩ (I v)).cell? ⟨w1.heap.size, 0, none⟩ = some (.slice (some ⟨g, 0, none⟩) 4 c') := by rw [World.cell?_setCell_other _ _ _ _ (fun e => by cases e; omega)]; exact o0
      have p1 : (w2.setCell ⟨g, m, none⟩ (I v)).cell? ⟨w1.heap.size, 1, none⟩ = some (.int .i64 st) := by rw [World.cell?_setCell_other _ _ _ _ (fun e => by cases e; omega)]; exact o1
      clear hst hv hgg
      go_wp2
      (try simp only [Exit.inBlock, Exit.then])
      refine bodyPost_ret (by simp [results, Try.results8, go_sem, v0, v1]; try rfl) rfl ?_
      exact ⟨⟨xs.set m v, st, some ⟨g, 0, none⟩, c', rfl, HM.out, own_weaken (ownsRow_setCell_below (ownsRow_setCell_below HS.out (by simp) _) (by simp) _) (by omega)⟩, ((HBw2.out.setCell (by simp; omega) _).setCell (by simp; omega) _).setCell (by simp; omega) _⟩
    · obtain ⟨m, rfl⟩ : ∃ m : Nat, k = m := ⟨k.toNat, by have := hop.2.1; unfold KeyGood at this; omega⟩
      have hm : m < 4 := by have := hop.2.1; unfold KeyGood at this; omega
      have HM : Hid (AfterM xs st 3 m v 0 ys (xs.set m 0) st) := .inl ⟨HAL.out, rfl, .inr (.inl ⟨rfl, rfl, rfl⟩)⟩
      clear hop
      rcases OWN2.out.2 with ⟨_, h0⟩ | ⟨g, cap, cur, hv, hbg, hgg, _⟩
      · omega
      obtain ⟨rfl, rfl⟩ : a' = some ⟨g, 0, none⟩ ∧ c' = cap := by simpa using hv
      have hst := (OWN2.out.stored m (I 0)).1
      rw [← List.map_set] at hst
      have HS : Hid ((w2.setCell ⟨g, m, none⟩ (I 0)).ownsRow (w.heap.size + 1 + 1 + 1 + 1) 3 1 (.slice (some ⟨g, 0, none⟩) 4 c') 4 ((xs.set m 0).map I)) := hst
      have hfz := OWN2.out.frozenAt m
      obtain ⟨u0, hu⟩ := own_cell OWN2.out hm
      have hg1 : g < w1.heap.size := hlt1.out g rfl
      have HG1 : Hid (g < w1.heap.size) := hg1
      have p0 : (w2.setCell ⟨g, m, none⟩ (I 0)).cell? ⟨w1.heap.size, 0, none⟩ = some (.slice (some ⟨g, 0, none⟩) 4 c') := by rw [World.cell?_setCell_other _ _ _ _ (fun e => by cases e; omega)]; exact o0
      have p1 : (w2.setCell ⟨g, m, none⟩ (I 0)).cell? ⟨w1.heap.size, 1, none⟩ = some (.int .i64 st) := by rw [World.cell?_setCell_other _ _ _ _ (fun e => by cases e; omega)]; exact o1
      clear hst hv hgg
      go_wp2
      (try simp only [Exit.inBlock, Exit.then])
      refine bodyPost_ret (by simp [results, Try.results8, go_sem, v0, v1]; try rfl) rfl ?_
      exact ⟨⟨xs.set m 0, st, some ⟨g, 0, none⟩, c', rfl, HM.out, own_weaken (ownsRow_setCell_below (ownsRow_setCell_below HS.out (by simp) _) (by simp) _) (by omega)⟩, ((HBw2.out.setCell (by simp; omega) _).setCell (by simp; omega) _).setCell (by simp; omega) _⟩
    · have HM : Hid (AfterM xs st 4 k v 0 ys xs st) := .inl ⟨HAL.out, rfl, .inr (.inr (.inr ⟨by omega, rfl, rfl⟩))⟩
      clear hop
      go_wp2
      (try simp only [Exit.inBlock, Exit.then])
      refine bodyPost_ret (by simp [results, Try.results8, go_sem, v0, v1]; try rfl) rfl ?_
      exact ⟨⟨xs, st, a', c', rfl, HM.out, own_weaken (ownsRow_setCell_below (ownsRow_setCell_below OWN2.out (by simp) _) (by simp) _) (by omega)⟩, (HBw2.out.setCell (by simp; omega) _).setCell (by simp; omega) _⟩
    · have HM : Hid (AfterM xs st 5 k v 0 ys xs st) := .inl ⟨HAL.out, rfl, .inr (.inr (.inr ⟨by omega, rfl, rfl⟩))⟩
      clear hop
      go_wp2
      (try simp only [Exit.inBlock, Exit.then])
      refine bodyPost_ret (by simp [results, Try.results8, go_sem, v0, v1]; try rfl) rfl ?_
      exact ⟨⟨xs, st, a', c', rfl, HM.out, own_weaken (ownsRow_setCell_below (ownsRow_setCell_below OWN2.out (by simp) _) (by simp) _) (by omega)⟩, (HBw2.out.setCell (by simp; omega) _).setCell (by simp; omega) _⟩
    · have HM : Hid (AfterM xs st 6 k v 0 ys xs st) := .inl ⟨HAL.out, rfl, .inr (.inr (.inr ⟨by omega, rfl, rfl⟩))⟩
      clear hop
      go_wp2
      (try simp only [Exit.inBlock, Exit.then])
      refine bodyPost_ret (by simp [results, Try.results8, go_sem, v0, v1]; try rfl) rfl ?_
      exact ⟨⟨xs, st, a', c', rfl, HM.out, own_weaken (ownsRow_setCell_below (ownsRow_setCell_below OWN2.out (by simp) _) (by simp) _) (by omega)⟩, (HBw2.out.setCell (by simp; omega) _).setCell (by simp; omega) _⟩
    · have HM : Hid (AfterM xs st 7 k v 0 ys xs st) := .inl ⟨HAL.out, rfl, .inr (.inr (.inr ⟨by omega, rfl, rfl⟩))⟩
      clear hop
      go_wp2
      (try simp only [Exit.inBlock, Exit.then])
      refine bodyPost_ret (by simp [results, Try.results8, go_sem, v0, v1]; try rfl) rfl ?_
      exact ⟨⟨xs, st, a', c', rfl, HM.out, own_weaken (ownsRow_setCell_below (ownsRow_setCell_below OWN2.out (by simp) _) (by simp) _) (by omega)⟩, (HBw2.out.setCell (by simp; omega) _).setCell (by simp; omega) _⟩
    · have HM : Hid (AfterM xs st 8 k v 0 ys xs (st + 1)) := .inl ⟨HAL.out, rfl, .inr (.inr (.inl ⟨by omega, rfl, rfl⟩))⟩
      have hst0 := HAL.out.1.2.1
      have hst1 := HAL.out.1.2.2.1
      clear hop
      go_wp2
      (try simp only [Exit.inBlock, Exit.then])
      refine bodyPost_ret (by simp [results, Try.results8, go_sem, v0, v1]; try rfl) rfl ?_
      exact ⟨⟨xs, st + 1, a', c', rfl, HM.out, own_weaken (ownsRow_setCell_below (ownsRow_setCell_below (own_setCell_far OWN2.out (fun e => by have := hlt1.out _ e; simp at this) _) (by simp) _) (by simp) _) (by omega)⟩, ((HBw2.out.setCell (by simp; omega) _).setCell (by simp; omega) _).setCell (by simp; omega) _⟩
    · have HM : Hid (AfterM xs st 9 k v 0 ys xs (st + 1)) := .inl ⟨HAL.out, rfl, .inr (.inr (.inl ⟨by omega, rfl, rfl⟩))⟩
      have hst0 := HAL.out.1.2.1
      have hst1 := HAL.out.1.2.2.1
      clear hop
      go_wp2
      (try simp only [Exit.inBlock, Exit.then])
      refine bodyPost_ret (by simp [results, Try.results8, go_sem, v0, v1]; try rfl) rfl ?_
      exact ⟨⟨xs, st + 1, a', c', rfl, HM.out, own_weaken (ownsRow_setCell_below (ownsRow_setCell_below (own_setCell_far OWN2.out (fun e => by have := hlt1.out _ e; simp at this) _) (by simp) _) (by simp) _) (by omega)⟩, ((HBw2.out.setCell (by simp; omega) _).setCell (by simp; omega) _).setCell (by simp; omega) _⟩
    · have HM : Hid (AfterM xs st 10 k v 0 ys xs st) := .inl ⟨HAL.out, rfl, .inr (.inr (.inr ⟨by omega, rfl, rfl⟩))⟩
      clear hop
      go_wp2
      (try simp only [Exit.inBlock, Exit.then])
      refine bodyPost_ret (by simp [results, Try.results8, go_sem, v0, v1]; try rfl) rfl ?_
      exact ⟨⟨xs, st, a', c', rfl, HM.out, own_weaken (ownsRow_setCell_below (ownsRow_setCell_below OWN2.out (by simp) _) (by simp) _) (by omega)⟩, (HBw2.out.setCell (by simp; omega) _).setCell (by simp; omega) _⟩
  · have hc' : (code != 0) = true := by simpa using hc
    have HM : Hid (AfterM xs st kind k v code ys xs st) := .inr ⟨fun h => hc h.2, rfl, rfl⟩
    clear hc hal
    go_wp2
    (try simp only [Exit.inBlock, Exit.then])
    refine bodyPost_ret (by simp [results, Try.results8, go_sem, v0, v1]; try rfl) rfl ?_
    exact ⟨⟨xs, st, a', c', rfl, HM.out, own_weaken (ownsRow_setCell_below (ownsRow_setCell_below OWN2.out (by simp) _) (by simp) _) (by omega)⟩, (HBw2.out.setCell (by simp; omega) _).setCell (by simp; omega) _⟩
end Go.Proofs.Ytlnhmmpmnflagad
