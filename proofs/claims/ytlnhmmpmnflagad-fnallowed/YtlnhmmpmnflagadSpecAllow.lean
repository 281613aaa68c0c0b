/- spec.Allowed, walked at any rows, op and result. -/
import Derived.Test.YtlnhmmpmnflagadSpecDone
import Derived.Test.YtlnhmmpmnflagadSpecRes
namespace Go.Proofs.Ytlnhmmpmnflagad
open Go.ChangeShapes Go.WideShapes Go.ChangeAt Go.RowKit

/-- What stands in memory of the three arguments, while nothing is written there. -/
def Args (w : World) (ra oa sa : Array Value) (wr : World) : Prop :=
  (∀ i u, ra[i]? = some u → wr.cell? ⟨w.heap.size, i, none⟩ = some u) ∧ (∀ i u, oa[i]? = some u → wr.cell? ⟨w.heap.size + 1, i, none⟩ = some u) ∧ (∀ i u, sa[i]? = some u → wr.cell? ⟨w.heap.size + 1 + 1, i, none⟩ = some u)
theorem args_at (w : World) (ra oa sa : Array Value) (T1 T2 T3 : TypeId) (wr : World) (h : Below (w.heap.size + 1 + 1 + 1) (((w.alloc (.cells ra T1)).alloc (.cells oa T2)).alloc (.cells sa T3)) wr) : Args w ra oa sa wr := by
  refine ⟨fun i u hu => ?_, fun i u hu => ?_, fun i u hu => ?_⟩
  · rw [h.cell (show w.heap.size < w.heap.size + 1 + 1 + 1 by omega), World.cell?_alloc_past _ _ _ (by simp; omega), World.cell?_alloc_past _ _ _ (by simp), World.cell?_alloc_at _ _ _ _ rfl]
    exact hu
  · rw [h.cell (show w.heap.size + 1 < w.heap.size + 1 + 1 + 1 by omega), World.cell?_alloc_past _ _ _ (by simp), World.cell?_alloc_at _ _ _ _ (by simp)]
    exact hu
  · rw [h.cell (show w.heap.size + 1 + 1 < w.heap.size + 1 + 1 + 1 by omega), World.cell?_alloc_at _ _ _ _ (by simp)]
    exact hu

set_option maxHeartbeats 2000000 in
theorem specAllowed_any (a a2 : Option Addr) (n cp n2 c2 : Nat) (st kind k v code : Int) (xs ys : List Int) (w : World) (hA : IntAt w a n xs) (h2 : IntAt w a2 n2 ys) :
    Calls Try.prog 11 #[.agg #[.slice a n cp, .int .i64 st], OpV kind k v, ResV code a2 n2 c2] w fun e w' => Says e (AllowM xs st kind k v code ys) ∧ Below w.heap.size w w' := by
  have HA : Hid (IntAt w a n xs) := hA
  have H2 : Hid (IntAt w a2 n2 ys) := h2
  have hn2 := h2.2.1
  clear hA h2
  obtain ⟨P, hP⟩ : ∃ P, AllowM xs st kind k v code ys = P := ⟨_, rfl⟩
  rw [hP]
  have HP : Hid (AllowM xs st kind k v code ys = P) := hP
  clear hP
  go_enter Try.func11, Try.ntmps11
  go_wp2_with fail
  have HC : Hid (∀ wr, Below (w.heap.size + 1 + 1 + 1) (((w.alloc (.cells #[.slice a n cp, .int .i64 st] 26)).alloc (.cells #[.int .i64 kind, .int .i64 k, .int .i64 v] 28)).alloc (.cells #[.int .i64 code, .slice a2 n2 c2] 30)) wr → Args w #[.slice a n cp, .int .i64 st] #[.int .i64 kind, .int .i64 k, .int .i64 v] #[.int .i64 code, .slice a2 n2 c2] wr) := fun wr h => args_at w _ _ _ _ _ _ wr h
  have HB0 : Hid (Below w.heap.size w (((w.alloc (.cells #[.slice a n cp, .int .i64 st] 26)).alloc (.cells #[.int .i64 kind, .int .i64 k, .int .i64 v] 28)).alloc (.cells #[.int .i64 code, .slice a2 n2 c2] 30))) := (((Below.refl _ w).alloc (Nat.le_refl _) _).alloc (by simp) _).alloc (by simp; omega) _
  refine (specRowsOk_any a n cp st xs _ (HA.out.below HB0.out (Nat.le_refl _))).mono ?_
  rintro e w1 ⟨⟨ok1, rfl, hok1⟩, hb1⟩
  simp only [World.size_alloc] at hb1
  have HB1 : Hid (Below (w.heap.size + 1 + 1 + 1) (((w.alloc (.cells #[.slice a n cp, .int .i64 st] 26)).alloc (.cells #[.int .i64 kind, .int .i64 k, .int .i64 v] 28)).alloc (.cells #[.int .i64 code, .slice a2 n2 c2] 30)) w1) := hb1
  have HBw1 : Hid (Below w.heap.size w w1) := HB0.out.trans (hb1.mono (by omega))
  have HO : Hid (ok1 = true ↔ OkRows xs st) := hok1.trans (ok_iff HA.out.1)
  have hs1 := hb1.size
  simp only [World.size_alloc] at hs1
  have e0 := (HC.out _ hb1).2.1 0 _ rfl
  have e1 := (HC.out _ hb1).2.1 1 _ rfl
  have e2 := (HC.out _ hb1).2.1 2 _ rfl
  clear hok1 hb1
  cases ok1
  · have HN : Hid (¬ P) := by rw [← HP.out]; exact fun h => by have := HO.out.2 h.1; cases this
    go_wp2
    go_ret
    exact ⟨⟨false, rfl, by simp [HN.out]⟩, HBw1.out⟩
  have hok := HO.out.1 rfl
  obtain rfl : n = 4 := by rw [← HA.out.1]; exact hok.1
  have HOK : Hid (OkRows xs st) := hok
  clear hok HO
  go_wp2_with fail
  refine (specOpOk_any kind k v _).mono ?_
  rintro e w2 ⟨rfl, hb2⟩
  have HB2 : Hid (Below (w.heap.size + 1 + 1 + 1) (((w.alloc (.cells #[.slice a 4 cp, .int .i64 st] 26)).alloc (.cells #[.int .i64 kind, .int .i64 k, .int .i64 v] 28)).alloc (.cells #[.int .i64 code, .slice a2 n2 c2] 30)) w2) := HB1.out.trans (hb2.mono hs1)
  have HBw2 : Hid (Below w.heap.size w w2) := HBw1.out.trans (hb2.mono (by omega))
  have hs2 := Nat.le_trans hs1 hb2.size
  have c0 := (HC.out _ HB2.out).1 0 _ rfl
  have c1 := (HC.out _ HB2.out).1 1 _ rfl
  have d0 := (HC.out _ HB2.out).2.1 0 _ rfl
  have d1 := (HC.out _ HB2.out).2.1 1 _ rfl
  have d2 := (HC.out _ HB2.out).2.1 2 _ rfl
  have f0 := (HC.out _ HB2.out).2.2 0 _ rfl
  have f1 := (HC.out _ HB2.out).2.2 1 _ rfl
  clear hb2 HB1 HBw1 hs1 e0 e1 e2
  by_cases hop : OpGood kind k v
  · rw [show decide (OpGood kind k v) = true from decide_eq_true hop]
    have HOP : Hid (OpGood kind k v) := hop
    clear hop
    by_cases hc : code = 0
    · subst hc
      have HQ : Hid (P ↔ DoneM xs st kind k v ∧ listM xs kind k v = ys) := by
        rw [← HP.out]
        exact ⟨fun h => by rcases h.2.2 with ⟨h1, _⟩ | ⟨_, h1⟩; exact absurd rfl h1; exact h1, fun h => ⟨HOK.out, HOP.out, .inr ⟨rfl, h⟩⟩⟩
      go_wp2_with fail
      refine (l4Done_any a cp st kind k v xs _ (HA.out.below HBw2.out (Nat.le_refl _)) HOP.out).mono ?_
      rintro e w3 ⟨⟨a', c', rfl, hat⟩, hb3⟩
      have HB3 : Hid (Below (w.heap.size + 1 + 1 + 1) (((w.alloc (.cells #[.slice a 4 cp, .int .i64 st] 26)).alloc (.cells #[.int .i64 kind, .int .i64 k, .int .i64 v] 28)).alloc (.cells #[.int .i64 0, .slice a2 n2 c2] 30)) w3) := HB2.out.trans (hb3.mono (by omega))
      have HBw3 : Hid (Below w.heap.size w w3) := HBw2.out.trans (hb3.mono (by omega))
      have hs3 := hb3.size
      have g1 := (HC.out _ HB3.out).2.2 1 _ rfl
      have HAT : Hid (IntAt w3 a' (listM xs kind k v).length (listM xs kind k v)) := hat
      clear hb3 hat
      by_cases hd : DoneM xs st kind k v
      · rw [show decide (DoneM xs st kind k v) = true from decide_eq_true hd]
        have HD : Hid (DoneM xs st kind k v) := hd
        clear hd
        go_wp2_with fail
        refine (l4Ints_any a' a2 _ n2 c' c2 _ ys _ HAT.out (H2.out.below HBw3.out (Nat.le_refl _))).mono ?_
        rintro e w4 ⟨rfl, hb4⟩
        have HBw4 : Hid (Below w.heap.size w w4) := HBw3.out.trans (hb4.mono (by omega))
        clear hb4
        by_cases hl : listM xs kind k v = ys
        · rw [show decide (listM xs kind k v = ys) = true from decide_eq_true hl]
          have HT : Hid P := HQ.out.2 ⟨HD.out, hl⟩
          clear hl
          go_wp2
          go_ret
          exact ⟨⟨true, rfl, by simp [HT.out]⟩, HBw4.out⟩
        · rw [show decide (listM xs kind k v = ys) = false from decide_eq_false hl]
          have HT : Hid (¬ P) := fun h => hl (HQ.out.1 h).2
          clear hl
          go_wp2
          go_ret
          exact ⟨⟨false, rfl, by simp [HT.out]⟩, HBw4.out⟩
      · rw [show decide (DoneM xs st kind k v) = false from decide_eq_false hd]
        have HT : Hid (¬ P) := fun h => hd (HQ.out.1 h).1
        clear hd
        go_wp2
        go_ret
        exact ⟨⟨false, rfl, by simp [HT.out]⟩, HBw3.out⟩
    · have hc' : (code != 0) = true := by simpa using hc
      have HQ : Hid (P ↔ ys = [] ∧ FailsM xs st kind k v code) := by
        rw [← HP.out]
        exact ⟨fun h => by rcases h.2.2 with ⟨_, h1⟩ | ⟨h1, _⟩; exact h1; exact absurd h1 hc, fun h => ⟨HOK.out, HOP.out, .inl ⟨hc, h⟩⟩⟩
      clear hc
      by_cases hz : n2 = 0
      · subst hz
        go_wp2_with fail
        refine (l4Fails_any a cp st kind k v code xs _ (HA.out.below HBw2.out (Nat.le_refl _)) HOP.out).mono ?_
        rintro e w3 ⟨rfl, hb3⟩
        have HBw3 : Hid (Below w.heap.size w w3) := HBw2.out.trans (hb3.mono (by omega))
        clear hb3
        have hy : ys = [] := List.eq_nil_of_length_eq_zero H2.out.1
        by_cases hd : FailsM xs st kind k v code
        · rw [show decide (FailsM xs st kind k v code) = true from decide_eq_true hd]
          have HT : Hid P := HQ.out.2 ⟨hy, hd⟩
          clear hd hy
          go_wp2
          go_ret
          exact ⟨⟨true, rfl, by simp [HT.out]⟩, HBw3.out⟩
        · rw [show decide (FailsM xs st kind k v code) = false from decide_eq_false hd]
          have HT : Hid (¬ P) := fun h => hd (HQ.out.1 h).2
          clear hd hy
          go_wp2
          go_ret
          exact ⟨⟨false, rfl, by simp [HT.out]⟩, HBw3.out⟩
      · have hz' : ((n2 : Int) == 0) = false := by simp; omega
        have HT : Hid (¬ P) := fun h => hz (by rw [← H2.out.1, (HQ.out.1 h).1]; rfl)
        clear hz
        go_wp2
        go_ret
        exact ⟨⟨false, rfl, by simp [HT.out]⟩, HBw2.out⟩
  · rw [show decide (OpGood kind k v) = false from decide_eq_false hop]
    have HN : Hid (¬ P) := by rw [← HP.out]; exact fun h => hop h.2.1
    clear hop
    go_wp2
    go_ret
    exact ⟨⟨false, rfl, by simp [HN.out]⟩, HBw2.out⟩
end Go.Proofs.Ytlnhmmpmnflagad
