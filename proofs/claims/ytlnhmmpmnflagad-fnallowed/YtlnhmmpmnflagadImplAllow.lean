/- impl.Allowed, walked. -/
import Derived.Test.YtlnhmmpmnflagadImplCom
import Derived.Test.YtlnhmmpmnflagadFinds
import Derived.Test.YtlnhmmpmnflagadImplRows
import Derived.Test.YtlnhmmpmnflagadSpecAllow
namespace Go.Proofs.Ytlnhmmpmnflagad
open Go.ChangeShapes Go.WideShapes Go.ChangeAt Go.RowKit Go.Maps

/-- The boxes of the three arguments. -/
theorem allow_boxes {w W0 w' : World} {a1 a2 : Option Addr} {n1 c1 n2 c2 : Nat} {st kind k v code : Int} (hW : W0 = ((w.alloc (.cells #[.slice a1 n1 c1, .int .i64 st] 26)).alloc (.cells #[.int .i64 kind, .int .i64 k, .int .i64 v] 28)).alloc (.cells #[.int .i64 code, .slice a2 n2 c2] 30))
    (hb : Below (w.heap.size + 1 + 1 + 1) W0 w') :
    (w'.cell? ⟨w.heap.size, 0, none⟩ = some (.slice a1 n1 c1) ∧ w'.cell? ⟨w.heap.size, 1, none⟩ = some (.int .i64 st) ∧ w'.cell? ⟨w.heap.size + 1, 0, none⟩ = some (.int .i64 kind) ∧ w'.cell? ⟨w.heap.size + 1, 1, none⟩ = some (.int .i64 k) ∧ w'.cell? ⟨w.heap.size + 1, 2, none⟩ = some (.int .i64 v) ∧ w'.cell? ⟨w.heap.size + 1 + 1, 0, none⟩ = some (.int .i64 code) ∧ w'.cell? ⟨w.heap.size + 1 + 1, 1, none⟩ = some (.slice a2 n2 c2)) ∧ Below w.heap.size w w' := by
  subst hW
  have h := args_at w _ _ _ _ _ _ w' hb
  exact ⟨⟨h.1 0 _ rfl, h.1 1 _ rfl, h.2.1 0 _ rfl, h.2.1 1 _ rfl, h.2.1 2 _ rfl, h.2.2 0 _ rfl, h.2.2 1 _ rfl⟩, ((((Below.refl _ w).alloc (Nat.le_refl _) _).alloc (by simp) _).alloc (by simp; omega) _).trans (hb.mono (by omega))⟩

set_option maxHeartbeats 1000000 in
/-- RowsOk at a list of any room: its room matters where it has four alone. -/
theorem implRowsOk_cap (a : Option Addr) (n cp : Nat) (st : Int) (xs : List Int) (w : World) (hA : IntAt w a n xs) (hi : ∀ x ∈ xs, (Lit.int .i64 x).wf = true) (hcp : n = 4 → cp = 4) :
    Calls Try.prog 17 #[.agg #[.slice a n cp, .int .i64 st]] w fun e w' => Says e (OkRows xs st) ∧ Below w.heap.size w w' := by
  by_cases hn : n = 4
  · obtain rfl : cp = n := by rw [hn]; exact hcp hn
    exact implRowsOk_any a cp st xs w hA hi
  · have hb := hA.2.1
    have h1 : Hid (¬ OkRows xs st) := fun h => hn (hA.1.symm.trans h.1)
    have hne : ((n : Int) != 4) = true := by simp; omega
    clear hA hi hcp
    go_enter Try.func17, Try.ntmps17
    go_wp2
    go_ret
    exact ⟨⟨false, rfl, by simp [h1.out]⟩, (Below.refl _ _).alloc (Nat.le_refl _) _⟩

set_option maxHeartbeats 1000000 in
set_option maxRecDepth 100000 in
theorem implAllowed_cap (p o n1 cp n2 c2 : Nat) (a2 : Option Addr) (st kind k v code : Int) (xs ys : List Int) (w : World) (hcp : n1 = 4 → cp = 4) (hA : IntAt w (some ⟨p, o, none⟩) n1 xs) (hB : IntAt w a2 n2 ys) (hi : ∀ x ∈ xs, (Lit.int .i64 x).wf = true) :
    Calls Try.prog 6 #[.agg #[.slice (some ⟨p, o, none⟩) n1 cp, .int .i64 st], OpV kind k v, ResV code a2 n2 c2] w fun e w' => Says e (AllowM xs st kind k v code ys) ∧ Below w.heap.size w w' := by
  have HA : Hid (IntAt w (some ⟨p, o, none⟩) n1 xs) := hA
  have HY : Hid (IntAt w a2 n2 ys) := hB
  have HI : Hid (∀ x ∈ xs, (Lit.int .i64 x).wf = true) := hi
  clear hA hB hi
  obtain ⟨W0, hW0⟩ : ∃ W0, W0 = ((w.alloc (.cells #[.slice (some ⟨p, o, none⟩) n1 cp, .int .i64 st] 26)).alloc (.cells #[.int .i64 kind, .int .i64 k, .int .i64 v] 28)).alloc (.cells #[.int .i64 code, .slice a2 n2 c2] 30) := ⟨_, rfl⟩
  have hs0 : W0.heap.size = w.heap.size + 1 + 1 + 1 := by rw [hW0]; simp
  have HBX : Hid (∀ w', Below (w.heap.size + 1 + 1 + 1) W0 w' → (w'.cell? ⟨w.heap.size, 0, none⟩ = some (.slice (some ⟨p, o, none⟩) n1 cp) ∧ w'.cell? ⟨w.heap.size, 1, none⟩ = some (.int .i64 st) ∧ w'.cell? ⟨w.heap.size + 1, 0, none⟩ = some (.int .i64 kind) ∧ w'.cell? ⟨w.heap.size + 1, 1, none⟩ = some (.int .i64 k) ∧ w'.cell? ⟨w.heap.size + 1, 2, none⟩ = some (.int .i64 v) ∧ w'.cell? ⟨w.heap.size + 1 + 1, 0, none⟩ = some (.int .i64 code) ∧ w'.cell? ⟨w.heap.size + 1 + 1, 1, none⟩ = some (.slice a2 n2 c2)) ∧ Below w.heap.size w w') := fun w' hb => allow_boxes hW0 hb
  go_enter Try.func6, Try.ntmps6
  go_wp2_with fail
  rw [← hW0]
  clear hW0
  have hb0 : Below (w.heap.size + 1 + 1 + 1) W0 W0 := Below.refl _ _
  refine (implRowsOk_cap _ n1 cp st xs _ (HA.out.below (HBX.out _ hb0).2 (Nat.le_refl _)) HI.out hcp).mono ?_
  rintro e w1 ⟨⟨ok, rfl, hok⟩, hb1⟩
  have hb1 : Below (w.heap.size + 1 + 1 + 1) W0 w1 := hb0.trans (hb1.mono (by omega))
  have hs1 : w.heap.size + 1 + 1 + 1 ≤ w1.heap.size := by have h := hb1.size; omega
  obtain ⟨⟨d0, d1, d2, d3, d4, d5, d6⟩, bw1⟩ := HBX.out _ hb1
  cases ok with
  | false =>
    have HN : Hid (¬ OkRows xs st) := fun h => by cases hok.2 h
    clear hok
    go_wp2
    go_ret
    exact ⟨⟨false, rfl, by simp [AllowM, HN.out]⟩, bw1⟩
  | true =>
    have HO : Hid (OkRows xs st) := hok.1 rfl
    clear hok hb0
    obtain rfl : n1 = 4 := by rw [← HA.out.1]; exact HO.out.1
    obtain rfl : cp = 4 := hcp rfl
    clear hcp
    go_wp2_with fail
    refine (implOpOk_any kind k v _).mono ?_
    rintro e w2 ⟨rfl, hb2⟩
    have hb2 : Below (w.heap.size + 1 + 1 + 1) W0 w2 := hb1.trans (hb2.mono (by omega))
    have hs2 : w.heap.size + 1 + 1 + 1 ≤ w2.heap.size := by have h := hb2.size; omega
    clear d0 d1 d2 d3 d4 d5 d6 bw1 hb1 hs1
    obtain ⟨⟨d0, d1, d2, d3, d4, d5, d6⟩, bw2⟩ := HBX.out _ hb2
    by_cases hop : OpGood kind k v
    · rw [show decide (OpGood kind k v) = true from decide_eq_true hop]
      have HP : Hid (OpGood kind k v) := hop
      clear hop
      go_wp2_with fail
      go_region_held3 (fun w' => w'.cell? ⟨w.heap.size, 0, none⟩ = some (.slice (some ⟨p, o, none⟩) 4 4) ∧ w'.cell? ⟨w.heap.size, 1, none⟩ = some (.int .i64 st) ∧ w'.cell? ⟨w.heap.size + 1, 0, none⟩ = some (.int .i64 kind) ∧ w'.cell? ⟨w.heap.size + 1, 1, none⟩ = some (.int .i64 k) ∧ w'.cell? ⟨w.heap.size + 1, 2, none⟩ = some (.int .i64 v) ∧ w'.cell? ⟨w.heap.size + 1 + 1, 0, none⟩ = some (.int .i64 code) ∧ w'.cell? ⟨w.heap.size + 1 + 1, 1, none⟩ = some (.slice a2 n2 c2))
        (first | (exact (HBX.out _ hb5).1) | (exact (HBX.out _ hb4).1) | (exact (HBX.out _ hb3).1) | (exact (HBX.out _ hb2.drew).1) | (exact (HBX.out _ hb2).1) | go_keep)
        (first
        | (go_at_call 24
           refine (implDeedOf_any kind k v _).mono ?_
           rintro e w3 ⟨rfl, hb3⟩
           have hb3 : Below (w.heap.size + 1 + 1 + 1) W0 w3 := hb2.drew.trans (hb3.mono (by simp; omega))
           have hs3 : w.heap.size + 1 + 1 + 1 ≤ w3.heap.size := by have h := hb3.size; omega)
        | (go_at_call 23
           refine (comAny p o st kind k v xs _ (HA.out.below (HBX.out _ hb3).2 (Nat.le_refl _)) HI.out HP.out).mono ?_
           rintro e w4 ⟨⟨vv, L, rfl, hc4, ht4⟩, hb4⟩
           have hb4 : Below (w.heap.size + 1 + 1 + 1) W0 w4 := hb3.trans (hb4.mono (by omega))
           have hs4 : w.heap.size + 1 + 1 + 1 ≤ w4.heap.size := by have h := hb4.size; omega)
        | (go_at_call 22
           refine (containsFunc_any _ (w.heap.size + 1 + 1) code a2 n2 c2 ys vv L _ _ (by rw [ht4.len]; exact comLL_len _ _ _ _ _) hc4 ht4 (by omega) (HBX.out _ hb4).1.2.2.2.2.2.1 (HBX.out _ hb4).1.2.2.2.2.2.2 (HY.out.below (HBX.out _ hb4).2 (Nat.le_refl _))).mono ?_
           rintro e w5 ⟨rfl, hb5⟩
           have hb5 : Below (w.heap.size + 1 + 1 + 1) W0 w5 := hb4.trans (hb5.mono (by omega))))
      all_goals
        go_wp2
        go_ret
        refine ⟨⟨_, rfl, ?_⟩, (HBX.out _ hb5).2⟩
        rw [decide_eq_true_iff, com_mem xs st kind k v code ys ⟨HO.out.2.1, HO.out.2.2.1⟩ HP.out.1]
        exact ⟨fun h => ⟨HO.out, HP.out, h⟩, fun h => h.2.2⟩
    · rw [show decide (OpGood kind k v) = false from decide_eq_false hop]
      have HP : Hid (¬ OpGood kind k v) := hop
      clear hop
      go_wp2
      go_ret
      exact ⟨⟨false, rfl, by simp [AllowM, HP.out]⟩, bw2⟩
theorem implAllowed_any (p o n1 n2 c2 : Nat) (a2 : Option Addr) (st kind k v code : Int) (xs ys : List Int) (w : World) (hA : IntAt w (some ⟨p, o, none⟩) n1 xs) (hB : IntAt w a2 n2 ys) (hi : ∀ x ∈ xs, (Lit.int .i64 x).wf = true) :
    Calls Try.prog 6 #[.agg #[.slice (some ⟨p, o, none⟩) n1 n1, .int .i64 st], OpV kind k v, ResV code a2 n2 c2] w fun e w' => Says e (AllowM xs st kind k v code ys) ∧ Below w.heap.size w w' :=
  implAllowed_cap p o n1 n1 n2 c2 a2 st kind k v code xs ys w id hA hB hi
end Go.Proofs.Ytlnhmmpmnflagad
