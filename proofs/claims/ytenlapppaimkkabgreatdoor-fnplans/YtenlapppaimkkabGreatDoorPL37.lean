/- Texts joined: AfterDone, PlanWords2, PlanWords3, PlanWords4, PlanSet, NowSame, ImplWords, LawPlans. -/
import Derived.Test.YtenlapppaimkkabGreatDoorPL21
import Derived.Test.YtenlapppaimkkabGreatDoorPL36
import Derived.Test.YtenlapppaimkkabGreatDoorPL25
import Derived.Test.YtenlapppaimkkabGreatDoorPL24
import Derived.Test.YtenlapppaimkkabGreatDoorPL30
import Derived.Test.YtenlapppaimkkabGreatDoorPL02
import Derived.Deep.QuietTactic
import Derived.BigQuiet
set_option maxHeartbeats 8000000
set_option maxRecDepth 100000
namespace Go.Proofs.YtenlapppaimkkabGreatDoor
section
open Go.ChangeShapes Go.WideShapes Go.ChangeAt Go.RowKit
theorem bit_self {y : Int} (hy : 1 ≤ y ∧ y ≤ 6) : bitW y (classN y) = 1 := by unfold bitW; rw [if_pos ⟨hy, rfl⟩]
theorem bit_other {y c : Int} (h : ¬ classN y = c) : bitW y c = 0 := by unfold bitW; rw [if_neg (fun e => h e.2)]
theorem bit_none {y c : Int} (h : ¬ (1 ≤ y ∧ y ≤ 6)) : bitW y c = 0 := by unfold bitW; rw [if_neg (fun e => h e.1)]
theorem bit_same {h n c : Int} (hh : 1 ≤ h ∧ h ≤ 6) (hn : 1 ≤ n ∧ n ≤ 6) (e : classN h = classN n) : bitW h c = bitW n c := by
  unfold bitW
  rw [e]
  by_cases q : classN n = c
  · rw [if_pos ⟨hh, q⟩, if_pos ⟨hn, q⟩]
  · rw [if_neg (fun x => q x.2), if_neg (fun x => q x.2)]
theorem class_range {y : Int} (hy : 1 ≤ y ∧ y ≤ 6) : 0 ≤ classN y ∧ classN y ≤ 2 := class_pos hy
section
variable {xs zs : List Int} {st k h n : Int}
theorem tv_row (T : Turns xs zs k h n) (hk : 0 ≤ k ∧ k ≤ 3) : wordF zs st k = n := by rw [wordF_row hk, T.row k hk, if_pos rfl]
theorem tv_own (T : Turns xs zs k h n) (hn : 1 ≤ n ∧ n ≤ 6) : wordF zs st (n + 3) = k + 1 := by rw [wordF_o hn, T.own n hn, if_pos rfl]
theorem tv_gone (T : Turns xs zs k h n) (hh : 1 ≤ h ∧ h ≤ 6) (hne : h ≠ n) : wordF zs st (h + 3) = 0 := by rw [wordF_o hh, T.own h hh, if_neg hne, if_pos rfl]
theorem tv_grow (T : Turns xs zs k h n) (hn : 1 ≤ n ∧ n ≤ 6) (hc : ¬ classN h = classN n) : wordF zs st (classN n + 10) = wordF xs st (classN n + 10) + 1 := by
  rw [wordF_c (class_range hn), wordF_c (class_range hn), T.cls, bit_self hn, bit_other hc]; omega
theorem tv_shrink (T : Turns xs zs k h n) (hh : 1 ≤ h ∧ h ≤ 6) (hc : ¬ classN h = classN n) : wordF zs st (classN h + 10) = wordF xs st (classN h + 10) - 1 := by
  rw [wordF_c (class_range hh), wordF_c (class_range hh), T.cls, bit_self hh, bit_other (fun e => hc e.symm)]; omega
theorem tv_via (T : Turns xs zs k h n) (hn : 1 ≤ n ∧ n ≤ 6) (hs : k + 1 < st) : wordF zs st (n + 13) = k + 1 := by rw [wordF_v hn, T.own n hn, if_pos rfl, if_pos hs]
theorem tv_viaGone (T : Turns xs zs k h n) (hh : 1 ≤ h ∧ h ≤ 6) (hne : h ≠ n) : wordF zs st (h + 13) = 0 := by
  rw [wordF_v hh, T.own h hh, if_neg hne, if_pos rfl]; split <;> rfl
theorem tv_same (T : Turns xs zs k h n) (hh : h = 0 ∨ (1 ≤ h ∧ h ≤ 6)) (hn : n = 0 ∨ (1 ≤ n ∧ n ≤ 6)) (hne : h ≠ n) {p : Int} (hp : 0 ≤ p ∧ p ≤ 19) (h1 : p ≠ k) (h2 : n ≠ 0 → p ≠ n + 3) (h3 : h ≠ 0 → p ≠ h + 3)
    (h4 : classN h ≠ classN n → (n ≠ 0 → p ≠ classN n + 10) ∧ (h ≠ 0 → p ≠ classN h + 10)) (h5 : p ≠ 13) (h6 : k + 1 < st → (n ≠ 0 → p ≠ n + 13) ∧ (h ≠ 0 → p ≠ h + 13)) : wordF zs st p = wordF xs st p := by
  rcases places hp with ⟨j, hj, rfl⟩ | ⟨u, hu, rfl⟩ | ⟨c, hc, rfl⟩ | rfl | ⟨u, hu, rfl⟩
  · rw [wordF_row hj, wordF_row hj, T.row p hj, if_neg h1]
  · rw [wordF_o hu, wordF_o hu, T.own u hu, if_neg (fun e => h2 (by omega) (by omega)), if_neg (fun e => h3 (by omega) (by omega))]
  · rw [wordF_c hc, wordF_c hc, T.cls]
    have e : bitW h c = bitW n c := by
      by_cases q : classN h = classN n
      · rcases hh with rfl | hh
        · rcases hn with rfl | hn
          · rfl
          · exact absurd q (class_ne (by omega) hn)
        · rcases hn with rfl | hn
          · exact absurd q.symm (class_ne (by omega) hh)
          · exact bit_same hh hn q
      · have b1 : bitW h c = 0 := by
          rcases hh with rfl | hh
          · exact bit_none (by omega)
          · exact bit_other (fun e => (h4 q).2 (by omega) (by omega))
        have b2 : bitW n c = 0 := by
          rcases hn with rfl | hn
          · exact bit_none (by omega)
          · exact bit_other (fun e => (h4 q).1 (by omega) (by omega))
        rw [b1, b2]
    omega
  · exact absurd rfl h5
  · rw [wordF_v hu, wordF_v hu, T.own u hu]
    by_cases e1 : u = n
    · subst e1
      rw [if_pos rfl, T.new hu]
      by_cases hs : k + 1 < st
      · exact absurd rfl ((h6 hs).1 (by omega))
      · rw [if_neg hs]; split <;> rfl
    · rw [if_neg e1]
      by_cases e2 : u = h
      · subst e2
        rw [if_pos rfl, T.old hu]
        by_cases hs : k + 1 < st
        · exact absurd rfl ((h6 hs).2 (by omega))
        · rw [if_neg hs]; split <;> rfl
      · rw [if_neg e2]
end
theorem mem_tell {p o x : Int} {t : List Stp} {e : Ent} (h : e ∈ wordsT true (.tell p o x :: t)) : (e = (p, o, x) ∧ 0 ≤ p) ∨ e ∈ wordsT true t := by
  by_cases hp : 0 ≤ p
  · have q : wordsT true (.tell p o x :: t) = (p, o, x) :: wordsT true t := by
      show (if 0 ≤ p then _ else _) = _
      rw [if_pos hp]
    rw [q] at h
    rcases List.mem_cons.1 h with h | h
    · exact .inl ⟨h, hp⟩
    · exact .inr h
  · have q : wordsT true (.tell p o x :: t) = wordsT true t := by
      show (if 0 ≤ p then _ else if true = true then _ else _) = _
      rw [if_neg hp, if_pos rfl]
    rw [q] at h
    exact .inr h
theorem mem_ask {b : Bool} {t : List Stp} {e : Ent} (h : e ∈ wordsT true (.ask b :: t)) : e ∈ wordsT true t := by
  cases b with
  | true => exact h
  | false => cases h
structure Comes (xs : List Int) (st kind k v : Int) (zs : List Int) (st' : Int) : Prop where
  told : ∀ e ∈ gotL (KF xs st kind k v) (KM xs st kind k v) kind k v, e.2.2 = wordF zs st' e.1
  rest : ∀ p, 0 ≤ p ∧ p ≤ 19 → p ∉ needL (wordF xs st) kind k v → wordF zs st' p = wordF xs st p
theorem got_mem {fs : List Int} {m : Nat} {kind k v : Int} {e : Ent} (h : e ∈ gotL fs m kind k v) : e ∈ wordsT true (stepsT true fs m kind k v) ∧ (readF fs e.1 m).2 = true := by
  unfold gotL at h
  rw [List.mem_filter] at h
  exact h
theorem known_read {xs : List Int} {st kind k v p : Int} (h : (readF (KF xs st kind k v) p (KM xs st kind k v)).2 = true) : p ∈ needL (wordF xs st) kind k v := by
  rw [goR_flat] at h
  exact of_decide_eq_true h
theorem own_none {xs : List Int} {v : Int} (h : ownX xs v = 0) : xs.getD 0 0 ≠ v ∧ xs.getD 1 0 ≠ v ∧ xs.getD 2 0 ≠ v ∧ xs.getD 3 0 ≠ v := by
  unfold ownX ownW at h
  refine ⟨fun e => ?_, fun e => ?_, fun e => ?_, fun e => ?_⟩
  all_goals (revert h; (repeat' split) <;> omega)
theorem inc_word {xs : List Int} {st : Int} (hok : OkRows xs st) (p : Int) : wrap64 (wordF xs st p + 1) = wordF xs st p + 1 := by
  have := wordF_small hok p
  unfold wrap64; omega
theorem row_ok {xs : List Int} {st k : Int} (hok : OkRows xs st) (hk : 0 ≤ k ∧ k ≤ 3) : xs.getD k.toNat 0 = 0 ∨ (1 ≤ xs.getD k.toNat 0 ∧ xs.getD k.toNat 0 ≤ 6) := by
  have h := (wordF_ok hok).row k hk.1 hk.2
  rw [p1_pos hk, wordF_row hk] at h
  exact h
theorem dec_word {c : Int} (h : 1 ≤ c ∧ c ≤ 6) : wrap64 ((if c < 1 then 1 else c) - 1) = c - 1 := by
  rw [if_neg (by omega)]; unfold wrap64; omega
section
variable {xs zs : List Int} {st k v : Int}
theorem comes_put (hok : OkRows xs st) (hg : OpGood 1 k v) (hn : nowL (KF xs st 1 k v) (KM xs st 1 k v) 1 k v = []) (hz : zs = xs.set k.toNat v) : Comes xs st 1 k v zs st := by
  obtain ⟨hkk, hkey, hval⟩ := hg
  have hk : 0 ≤ k ∧ k ≤ 3 := by unfold KeyGood at hkey; omega
  have hv : 1 ≤ v ∧ v ≤ 6 := by unfold ValGood at hval; omega
  rw [nowL_1] at hn
  obtain ⟨h1, h2⟩ := ifL_nilApp hn
  have h2 := ifL_nil h2
  simp only [bne_eq_false_iff_eq] at h1 h2
  have f1 : wordF xs st k = 0 := by
    rw [rd_need _ (by rw [p1_pos hk]; omega) (by unfold needL; simp), p1_pos hk] at h1
    exact h1
  have f2 : wordF xs st (v + 3) = 0 := by
    rw [rd_need _ (by rw [p2_pos hv]; omega) (by unfold needL; simp [p1_pos hk, f1]), p2_pos hv] at h2
    exact h2
  have hneed : needL (wordF xs st) 1 k v = k :: (v + 3) :: (classN v + 10) :: 13 :: (if k + 1 < st then [v + 13] else []) := by
    unfold needL
    simp only [p1_pos hk, p2_pos hv, p3_pos (class_pos hv), p5_pos hv, f1, f2, wordF_state, if_true, ne_eq, not_true_eq_false, if_false]
  have r0 : xs.getD k.toNat 0 = 0 := by rw [← wordF_row (st := st) hk]; exact f1
  have hfree : Free (xs.getD 0 0) (xs.getD 1 0) (xs.getD 2 0) (xs.getD 3 0) v := by
    rw [wordF_o hv] at f2
    obtain ⟨a, b, c, d⟩ := own_none f2
    exact .inr ⟨hv, a, b, c, d⟩
  have T := turns_of hok hk hfree
  rw [r0, ← hz] at T
  have hc0 : ¬ classN 0 = classN v := class_ne (by omega) hv
  refine ⟨fun e he => ?_, fun p hp hnp => ?_⟩
  · obtain ⟨hw, hr⟩ := got_mem he
    have hin := known_read hr
    have hw : e ∈ wordsT true (putS true (KF xs st 1 k v) (KM xs st 1 k v) k v) := hw
    unfold putS becS growS stayS at hw
    rcases mem_tell hw with ⟨rfl, _⟩ | hw
    · show v = wordF zs st (placeN 1 k)
      rw [p1_pos hk, tv_row T hk]
    rcases mem_tell (mem_ask hw) with ⟨rfl, _⟩ | hw
    · show k + 1 = wordF zs st (placeN 2 v)
      rw [p2_pos hv, tv_own T hv]
    rcases mem_tell (mem_ask hw) with ⟨rfl, hp⟩ | hw
    · show wrap64 (rd (KF xs st 1 k v) (KM xs st 1 k v) (placeN 3 (classN v)) + 1) = wordF zs st (placeN 3 (classN v))
      rw [rd_need _ hp hin, inc_word hok, p3_pos (class_pos hv), tv_grow T hv hc0]
    rcases mem_tell hw with ⟨rfl, hp⟩ | hw
    · show rd (KF xs st 1 k v) (KM xs st 1 k v) 13 = wordF zs st 13
      rw [rd_need _ hp hin, wordF_state, wordF_state]
    rcases mem_tell (mem_ask hw) with ⟨rfl, hp⟩ | hw
    · show k + 1 = wordF zs st (placeN 5 v)
      have hin : placeN 5 v ∈ needL (wordF xs st) 1 k v := hin
      rw [hneed, p5_pos hv] at hin
      have hs : k + 1 < st := by
        by_cases q : k + 1 < st
        · exact q
        · rw [if_neg q] at hin
          have := class_pos hv
          simp only [List.mem_cons, List.not_mem_nil, or_false] at hin
          omega
      rw [p5_pos hv, tv_via T hv hs]
    · cases hw
  · rw [hneed] at hnp
    have hcl := class_pos hv
    by_cases q : k + 1 < st
    · rw [if_pos q] at hnp
      simp only [List.mem_cons, List.not_mem_nil, or_false, not_or] at hnp
      exact tv_same T (.inl rfl) (.inr hv) (by omega) hp hnp.1 (fun _ => hnp.2.1) (fun h => absurd rfl h) (fun _ => ⟨fun _ => hnp.2.2.1, fun h => absurd rfl h⟩) hnp.2.2.2.1 (fun _ => ⟨fun _ => hnp.2.2.2.2, fun h => absurd rfl h⟩)
    · rw [if_neg q] at hnp
      simp only [List.mem_cons, List.not_mem_nil, or_false, not_or] at hnp
      exact tv_same T (.inl rfl) (.inr hv) (by omega) hp hnp.1 (fun _ => hnp.2.1) (fun h => absurd rfl h) (fun _ => ⟨fun _ => hnp.2.2.1, fun h => absurd rfl h⟩) hnp.2.2.2 (fun h => absurd h q)
theorem comes_del (hok : OkRows xs st) (hg : OpGood 3 k v) (hn : nowL (KF xs st 3 k v) (KM xs st 3 k v) 3 k v = []) (hz : zs = xs.set k.toNat 0) : Comes xs st 3 k v zs st := by
  obtain ⟨hkk, hkey, hval⟩ := hg
  have hk : 0 ≤ k ∧ k ≤ 3 := by unfold KeyGood at hkey; omega
  rw [nowL_3] at hn
  have h1 := ifL_nil hn
  simp only [beq_eq_false_iff_ne, ne_eq] at h1
  have hrk : rd (KF xs st 3 k v) (KM xs st 3 k v) (placeN 1 k) = xs.getD k.toNat 0 := by
    rw [rd_need _ (by rw [p1_pos hk]; omega) (by unfold needL; simp), p1_pos hk, wordF_row hk]
  have hrow := row_ok hok hk
  obtain ⟨h, hh⟩ : ∃ h, xs.getD k.toNat 0 = h := ⟨_, rfl⟩
  rw [hh] at hrow hrk
  rw [hrk] at h1
  have hh6 : 1 ≤ h ∧ h ≤ 6 := by omega
  have f1 : wordF xs st k = h := by rw [wordF_row hk]; exact hh
  have hneed : needL (wordF xs st) 3 k v = k :: (h + 3) :: (classN h + 10) :: 13 :: (if k + 1 < st then [h + 13] else []) := by
    unfold needL
    have e1 : ¬ (3 : Int) = 1 := by omega
    have e2 : ¬ (3 : Int) = 2 := by omega
    simp only [p1_pos hk, f1, p2_pos hh6, p3_pos (class_pos hh6), p5_pos hh6, wordF_state, if_true, if_neg e1, if_neg e2, if_neg (show ¬ h = 0 by omega)]
  have T := turns_of (n := 0) hok hk (.inl rfl)
  rw [hh, ← hz] at T
  have hc0 : ¬ classN h = classN 0 := fun e => class_ne (by omega) hh6 e.symm
  have hcl := class_pos hh6
  refine ⟨fun e he => ?_, fun p hp hnp => ?_⟩
  · obtain ⟨hw, hr⟩ := got_mem he
    have hin := known_read hr
    have hw : e ∈ wordsT true (delS true (KF xs st 3 k v) (KM xs st 3 k v) k) := hw
    unfold delS becS shrinkS stayS at hw
    dsimp only at hw
    rcases mem_tell hw with ⟨rfl, _⟩ | hw
    · show 0 = wordF zs st (placeN 1 k)
      rw [p1_pos hk, tv_row T hk]
    rw [hrk] at hw
    rcases mem_tell hw with ⟨rfl, _⟩ | hw
    · show 0 = wordF zs st (placeN 2 h)
      rw [p2_pos hh6, tv_gone T hh6 (by omega)]
    rcases mem_tell hw with ⟨rfl, hp⟩ | hw
    · show wrap64 ((if rd (KF xs st 3 k v) (KM xs st 3 k v) (placeN 3 (classN h)) < 1 then 1 else rd (KF xs st 3 k v) (KM xs st 3 k v) (placeN 3 (classN h))) - 1) = wordF zs st (placeN 3 (classN h))
      have q1 := wordF_small hok (classN h + 10)
      have q2 := tv_shrink (st := st) T hh6 hc0
      have q3 : 0 ≤ clsX zs (classN h) := (clsW_small _ _ _ _ _).1
      rw [wordF_c hcl] at q2
      rw [rd_need _ hp hin, p3_pos hcl, dec_word (by omega), wordF_c (xs := zs) hcl, q2]
    rcases mem_tell hw with ⟨rfl, hp⟩ | hw
    · show rd (KF xs st 3 k v) (KM xs st 3 k v) 13 = wordF zs st 13
      rw [rd_need _ hp hin, wordF_state, wordF_state]
    rcases mem_tell (mem_ask hw) with ⟨rfl, hp⟩ | hw
    · show 0 = wordF zs st (placeN 5 h)
      rw [p5_pos hh6, tv_viaGone T hh6 (by omega)]
    · cases hw
  · rw [hneed] at hnp
    by_cases q : k + 1 < st
    · rw [if_pos q] at hnp
      simp only [List.mem_cons, List.not_mem_nil, or_false, not_or] at hnp
      exact tv_same T (.inr hh6) (.inl rfl) (by omega) hp hnp.1 (fun h => absurd rfl h) (fun _ => hnp.2.1) (fun _ => ⟨fun h => absurd rfl h, fun _ => hnp.2.2.1⟩) hnp.2.2.2.1 (fun _ => ⟨fun h => absurd rfl h, fun _ => hnp.2.2.2.2⟩)
    · rw [if_neg q] at hnp
      simp only [List.mem_cons, List.not_mem_nil, or_false, not_or] at hnp
      exact tv_same T (.inr hh6) (.inl rfl) (by omega) hp hnp.1 (fun h => absurd rfl h) (fun _ => hnp.2.1) (fun _ => ⟨fun h => absurd rfl h, fun _ => hnp.2.2.1⟩) hnp.2.2.2 (fun h => absurd h q)
end
section
variable {xs zs : List Int} {st k v : Int}
theorem comes_set (hok : OkRows xs st) (hg : OpGood 2 k v) (hn : nowL (KF xs st 2 k v) (KM xs st 2 k v) 2 k v = []) (hz : zs = xs.set k.toNat v) : Comes xs st 2 k v zs st := by
  obtain ⟨hkk, hkey, hval⟩ := hg
  have hk : 0 ≤ k ∧ k ≤ 3 := by unfold KeyGood at hkey; omega
  have hv : 1 ≤ v ∧ v ≤ 6 := by unfold ValGood at hval; omega
  rw [nowL_2] at hn
  have hn2 := List.append_eq_nil_iff.1 hn
  have hn3 := List.append_eq_nil_iff.1 hn2.1
  have h1 := ifL_nil hn3.1
  have h2 := ifL_nil hn3.2
  have h3 := ifL_nil hn2.2
  simp only [beq_eq_false_iff_ne, ne_eq, bne_eq_false_iff_eq] at h1 h2 h3
  have hrk : rd (KF xs st 2 k v) (KM xs st 2 k v) (placeN 1 k) = xs.getD k.toNat 0 := by
    rw [rd_need _ (by rw [p1_pos hk]; omega) (by unfold needL; simp), p1_pos hk, wordF_row hk]
  have hrow := row_ok hok hk
  obtain ⟨h, hh⟩ : ∃ h, xs.getD k.toNat 0 = h := ⟨_, rfl⟩
  rw [hh] at hrow hrk
  rw [hrk] at h1 h2
  have hh6 : 1 ≤ h ∧ h ≤ 6 := by omega
  have f1 : wordF xs st k = h := by rw [wordF_row hk]; exact hh
  have f2 : wordF xs st (v + 3) = 0 := by
    rw [rd_need _ (by rw [p2_pos hv]; omega) (by unfold needL; simp [p1_pos hk, f1, h1, h2]), p2_pos hv] at h3
    exact h3
  have hneed : needL (wordF xs st) 2 k v = k :: (v + 3) :: (h + 3) :: ((if classN h = classN v then [] else [classN h + 10, classN v + 10]) ++ 13 :: (if k + 1 < st then [h + 13, v + 13] else [])) := by
    unfold needL
    have e1 : ¬ (2 : Int) = 1 := by omega
    have e2 : ¬ (h = 0 ∨ h = v) := by omega
    simp only [p1_pos hk, f1, f2, p2_pos hv, p2_pos hh6, p3_pos (class_pos hh6), p3_pos (class_pos hv), p5_pos hh6, p5_pos hv, wordF_state, if_true, if_neg e1, if_neg e2, ne_eq, not_true_eq_false, if_false]
  have hfree : Free (xs.getD 0 0) (xs.getD 1 0) (xs.getD 2 0) (xs.getD 3 0) v := by
    rw [wordF_o hv] at f2
    obtain ⟨a, b, c, d⟩ := own_none f2
    exact .inr ⟨hv, a, b, c, d⟩
  have T := turns_of hok hk hfree
  rw [hh, ← hz] at T
  have hcl := class_pos hh6
  have hcv := class_pos hv
  refine ⟨fun e he => ?_, fun p hp hnp => ?_⟩
  · obtain ⟨hw, hr⟩ := got_mem he
    have hin := known_read hr
    have hw : e ∈ wordsT true (setS true (KF xs st 2 k v) (KM xs st 2 k v) k v) := hw
    have last : ∀ {t : List Stp}, e ∈ wordsT true (.tell 13 (rd (KF xs st 2 k v) (KM xs st 2 k v) 13) (rd (KF xs st 2 k v) (KM xs st 2 k v) 13) :: .ask (true || decide (k + 1 < rd (KF xs st 2 k v) (KM xs st 2 k v) 13)) :: .tell (placeN 5 h) (rd (KF xs st 2 k v) (KM xs st 2 k v) (placeN 5 h)) 0 :: .tell (placeN 5 v) (rd (KF xs st 2 k v) (KM xs st 2 k v) (placeN 5 v)) (k + 1) :: []) → e.2.2 = wordF zs st e.1 := by
      intro _ hw
      rcases mem_tell hw with ⟨rfl, hp⟩ | hw
      · show rd (KF xs st 2 k v) (KM xs st 2 k v) 13 = wordF zs st 13
        rw [rd_need _ hp hin, wordF_state, wordF_state]
      rcases mem_tell (mem_ask hw) with ⟨rfl, hp⟩ | hw
      · show 0 = wordF zs st (placeN 5 h)
        rw [p5_pos hh6, tv_viaGone T hh6 (by omega)]
      rcases mem_tell hw with ⟨rfl, hp⟩ | hw
      · show k + 1 = wordF zs st (placeN 5 v)
        have hin : placeN 5 v ∈ needL (wordF xs st) 2 k v := hin
        rw [hneed, p5_pos hv] at hin
        have hs : k + 1 < st := by
          by_cases q : k + 1 < st
          · exact q
          · rw [if_neg q] at hin
            split at hin <;> simp only [List.mem_cons, List.not_mem_nil, or_false, List.nil_append, List.cons_append] at hin <;> omega
        rw [p5_pos hv, tv_via T hv hs]
      · cases hw
    unfold setS moveS becS shrinkS growS stayS at hw
    dsimp only at hw
    rcases (show e ∈ wordsT true (.tell (placeN 1 k) (rd (KF xs st 2 k v) (KM xs st 2 k v) (placeN 1 k)) v :: _) from hw) |> mem_tell with ⟨rfl, _⟩ | hw
    · show v = wordF zs st (placeN 1 k)
      rw [p1_pos hk, tv_row T hk]
    rw [hrk] at hw
    rcases mem_tell (mem_ask (mem_ask hw)) with ⟨rfl, _⟩ | hw
    · show k + 1 = wordF zs st (placeN 2 v)
      rw [p2_pos hv, tv_own T hv]
    rcases mem_tell (mem_ask hw) with ⟨rfl, _⟩ | hw
    · show 0 = wordF zs st (placeN 2 h)
      rw [p2_pos hh6, tv_gone T hh6 (by omega)]
    by_cases hc : classN h = classN v
    · rw [if_pos hc] at hw
      exact last (t := []) hw
    · rw [if_neg hc] at hw
      rcases mem_tell hw with ⟨rfl, hp⟩ | hw
      · show wrap64 ((if rd (KF xs st 2 k v) (KM xs st 2 k v) (placeN 3 (classN h)) < 1 then 1 else rd (KF xs st 2 k v) (KM xs st 2 k v) (placeN 3 (classN h))) - 1) = wordF zs st (placeN 3 (classN h))
        have q1 := wordF_small hok (classN h + 10)
        have q2 := tv_shrink (st := st) T hh6 hc
        have q3 : 0 ≤ clsX zs (classN h) := (clsW_small _ _ _ _ _).1
        rw [wordF_c hcl] at q2
        rw [rd_need _ hp hin, p3_pos hcl, dec_word (by omega), wordF_c (xs := zs) hcl, q2]
      rcases mem_tell hw with ⟨rfl, hp⟩ | hw
      · show wrap64 (rd (KF xs st 2 k v) (KM xs st 2 k v) (placeN 3 (classN v)) + 1) = wordF zs st (placeN 3 (classN v))
        rw [rd_need _ hp hin, inc_word hok, p3_pos hcv, tv_grow T hv hc]
      exact last (t := []) hw
  · rw [hneed] at hnp
    by_cases hc : classN h = classN v
    · rw [if_pos hc] at hnp
      by_cases q : k + 1 < st
      · rw [if_pos q] at hnp
        simp only [List.mem_cons, List.not_mem_nil, or_false, not_or, List.nil_append] at hnp
        exact tv_same T (.inr hh6) (.inr hv) (by omega) hp hnp.1 (fun _ => hnp.2.1) (fun _ => hnp.2.2.1) (fun x => absurd hc x) hnp.2.2.2.1 (fun _ => ⟨fun _ => hnp.2.2.2.2.2, fun _ => hnp.2.2.2.2.1⟩)
      · rw [if_neg q] at hnp
        simp only [List.mem_cons, List.not_mem_nil, or_false, not_or, List.nil_append] at hnp
        exact tv_same T (.inr hh6) (.inr hv) (by omega) hp hnp.1 (fun _ => hnp.2.1) (fun _ => hnp.2.2.1) (fun x => absurd hc x) hnp.2.2.2 (fun x => absurd x q)
    · rw [if_neg hc] at hnp
      by_cases q : k + 1 < st
      · rw [if_pos q] at hnp
        simp only [List.mem_cons, List.not_mem_nil, or_false, not_or, List.nil_append, List.cons_append] at hnp
        exact tv_same T (.inr hh6) (.inr hv) (by omega) hp hnp.1 (fun _ => hnp.2.1) (fun _ => hnp.2.2.1) (fun _ => ⟨fun _ => hnp.2.2.2.2.1, fun _ => hnp.2.2.2.1⟩) hnp.2.2.2.2.2.1 (fun _ => ⟨fun _ => hnp.2.2.2.2.2.2.2, fun _ => hnp.2.2.2.2.2.2.1⟩)
      · rw [if_neg q] at hnp
        simp only [List.mem_cons, List.not_mem_nil, or_false, not_or, List.nil_append, List.cons_append] at hnp
        exact tv_same T (.inr hh6) (.inr hv) (by omega) hp hnp.1 (fun _ => hnp.2.1) (fun _ => hnp.2.2.1) (fun _ => ⟨fun _ => hnp.2.2.2.2.1, fun _ => hnp.2.2.2.1⟩) hnp.2.2.2.2.2 (fun x => absurd x q)
theorem comes_scan (hok : OkRows xs st) (_hg : OpGood 7 k v) (hz : zs = xs) : Comes xs st 7 k v zs st := by
  subst hz
  refine ⟨fun e he => ?_, fun p hp hnp => rfl⟩
  obtain ⟨hw, hr⟩ := got_mem he
  have hin := known_read hr
  have hw : e ∈ wordsT true (scanS (KF zs st 7 k v) (KM zs st 7 k v)) := hw
  unfold scanS stayS at hw
  rcases mem_tell hw with ⟨rfl, hp⟩ | hw
  · exact rd_need _ hp hin
  rcases mem_tell hw with ⟨rfl, hp⟩ | hw
  · exact rd_need _ hp hin
  rcases mem_tell hw with ⟨rfl, hp⟩ | hw
  · exact rd_need _ hp hin
  rcases mem_tell hw with ⟨rfl, hp⟩ | hw
  · exact rd_need _ hp hin
  cases hw
theorem comes_via (hok : OkRows xs st) (_hg : OpGood 10 k v) (hz : zs = xs) : Comes xs st 10 k v zs st := by
  subst hz
  refine ⟨fun e he => ?_, fun p hp hnp => rfl⟩
  obtain ⟨hw, hr⟩ := got_mem he
  have hin := known_read hr
  have hw : e ∈ wordsT true (viaS (KF zs st 10 k v) (KM zs st 10 k v) v) := hw
  unfold viaS stayS at hw
  rcases mem_tell hw with ⟨rfl, hp⟩ | hw
  · exact rd_need _ hp hin
  rcases mem_tell (mem_ask hw) with ⟨rfl, hp⟩ | hw
  · exact rd_need _ hp hin
  cases hw
theorem state_same {st st' : Int} {p : Int} (hp : 0 ≤ p ∧ p ≤ 19) (h13 : p ≠ 13) (hv : ∀ u, 1 ≤ u ∧ u ≤ 6 → p = u + 13 → (if ownX xs u < st' then ownX xs u else 0) = (if ownX xs u < st then ownX xs u else 0)) : wordF xs st' p = wordF xs st p := by
  rcases places hp with ⟨j, hj, rfl⟩ | ⟨u, hu, rfl⟩ | ⟨c, hc, rfl⟩ | rfl | ⟨u, hu, rfl⟩
  · rw [wordF_row hj, wordF_row hj]
  · rw [wordF_o hu, wordF_o hu]
  · rw [wordF_c hc, wordF_c hc]
  · exact absurd rfl h13
  · rw [wordF_v hu, wordF_v hu]; exact hv u hu rfl
theorem comes_open (hok : OkRows xs st) (_hg : OpGood 8 k v) (hn : nowL (KF xs st 8 k v) (KM xs st 8 k v) 8 k v = []) (hz : zs = xs) : Comes xs st 8 k v zs (st + 1) := by
  subst hz
  rw [nowL_8] at hn
  have h1 := ifL_nil hn
  simp only [bne_eq_false_iff_eq] at h1
  have hm : (13 : Int) ∈ needL (wordF zs st) 8 k v := by unfold needL; simp
  rw [rd_need 13 (by omega) hm, wordF_state] at h1
  subst h1
  refine ⟨fun e he => ?_, fun p hp hnp => ?_⟩
  · obtain ⟨hw, hr⟩ := got_mem he
    have hin := known_read hr
    have hw : e ∈ wordsT true [growS (KF zs 0 8 k v) (KM zs 0 8 k v) 13] := hw
    unfold growS at hw
    rcases mem_tell hw with ⟨rfl, hp⟩ | hw
    · show wrap64 (rd (KF zs 0 8 k v) (KM zs 0 8 k v) 13 + 1) = wordF zs (0 + 1) 13
      rw [rd_need _ hp hin, wordF_state, wordF_state]
      unfold wrap64; omega
    · cases hw
  · refine state_same hp (fun e => hnp (by rw [e]; exact hm)) fun u hu _ => ?_
    have := ownW_small (zs.getD 0 0) (zs.getD 1 0) (zs.getD 2 0) (zs.getD 3 0) u
    have : 0 ≤ ownX zs u := this.1
    (repeat' split) <;> omega
theorem own_at_key {u : Int} {j : Nat} (hj : j < 4) (_hu : 1 ≤ u ∧ u ≤ 6) (h : ownX xs u = (j : Int) + 1) : xs.getD j 0 = u := by
  unfold ownX ownW at h
  have h4 : j = 0 ∨ j = 1 ∨ j = 2 ∨ j = 3 := by omega
  rcases h4 with rfl | rfl | rfl | rfl
  all_goals (revert h; (repeat' split) <;> intro h <;> first | assumption | omega)
theorem comes_make (hok : OkRows xs st) (_hg : OpGood 9 k v) (hn : nowL (KF xs st 9 k v) (KM xs st 9 k v) 9 k v = []) (hz : zs = xs) : Comes xs st 9 k v zs (st + 1) := by
  subst hz
  rw [nowL_9] at hn
  have h1 := ifL_nil hn
  have hm : (13 : Int) ∈ needL (wordF zs st) 9 k v := by unfold needL; simp
  rw [rd_need 13 (by omega) hm, wordF_state] at h1
  have hst := hok.2
  simp at h1
  have hs : 1 ≤ st ∧ st ≤ 4 := by omega
  have hj : 0 ≤ st - 1 ∧ st - 1 ≤ 3 := by omega
  have hrow := row_ok hok hj
  obtain ⟨r, hr0⟩ : ∃ r, zs.getD (st - 1).toNat 0 = r := ⟨_, rfl⟩
  rw [hr0] at hrow
  have f1 : wordF zs st (st - 1) = r := by rw [wordF_row hj]; exact hr0
  have hneed : needL (wordF zs st) 9 k v = 13 :: (st - 1) :: (if r = 0 then [] else [placeN 5 r]) := by
    unfold needL
    simp [wordF_state, hs, p1_pos hj, f1]
  have e1 : wrap64 (st - 1) = st - 1 := by unfold wrap64; omega
  have e2 : wrap64 (st - 1 + 1) = st := by unfold wrap64; omega
  have hmr : st - 1 ∈ needL (wordF zs st) 9 k v := by rw [hneed]; simp
  -- who holds r holds it at that key alone
  have hown : 1 ≤ r ∧ r ≤ 6 → ownX zs r = st := fun h6 => by
    have T := turns_of (n := 0) hok hj (.inl rfl)
    rw [hr0] at T
    have := T.old h6
    omega
  refine ⟨fun e he => ?_, fun p hp hnp => ?_⟩
  · obtain ⟨hw, hr⟩ := got_mem he
    have hin := known_read hr
    have hw : e ∈ wordsT true (makeS (KF zs st 9 k v) (KM zs st 9 k v)) := hw
    unfold makeS growS stayS becS at hw
    dsimp only at hw
    rcases mem_tell hw with ⟨rfl, hp⟩ | hw
    · show wrap64 (rd (KF zs st 9 k v) (KM zs st 9 k v) 13 + 1) = wordF zs (st + 1) 13
      rw [rd_need _ hp hin, wordF_state, wordF_state]
      unfold wrap64; omega
    rw [rd_need 13 (by omega) hm, wordF_state, e1, e2, p1_pos hj, rd_need (st - 1) (by omega) hmr, f1] at hw
    rcases List.mem_cons.1 (show e ∈ (st - 1, r, r) :: wordsT true [Stp.tell (placeN 5 r) (rd (KF zs st 9 k v) (KM zs st 9 k v) (placeN 5 r)) st] by
        have q : wordsT true (Stp.tell (st - 1) r r :: [Stp.tell (placeN 5 r) (rd (KF zs st 9 k v) (KM zs st 9 k v) (placeN 5 r)) st]) = (st - 1, r, r) :: wordsT true [Stp.tell (placeN 5 r) (rd (KF zs st 9 k v) (KM zs st 9 k v) (placeN 5 r)) st] := by
          show (if 0 ≤ st - 1 then _ else _) = _
          rw [if_pos (by omega)]
        rw [← q]; exact hw) with rfl | hw
    · show r = wordF zs (st + 1) (st - 1)
      rw [wordF_row hj]; exact hr0.symm
    rcases mem_tell hw with ⟨rfl, hp⟩ | hw
    · show st = wordF zs (st + 1) (placeN 5 r)
      have h6 : 1 ≤ r ∧ r ≤ 6 := by
        rcases hrow with rfl | h
        · exact absurd hp (by have := (place_neg2 (h := 0) (by omega)).2.1; omega)
        · exact h
      rw [p5_pos h6, wordF_v h6, hown h6, if_pos (by omega)]
    · cases hw
  · refine state_same hp (fun e => hnp (by rw [e]; exact hm)) fun u hu hpu => ?_
    by_cases q : ownX zs u = st
    · have hur : zs.getD (st - 1).toNat 0 = u := own_at_key (by omega) hu (by rw [q]; omega)
      have hru : r = u := by rw [← hr0]; exact hur
      exfalso
      apply hnp
      rw [hneed, hru, if_neg (by omega), p5_pos hu, hpu]
      simp
    · (repeat' split) <;> omega
end
theorem planned_comes {xs zs : List Int} {st st' kind k v : Int} {x : Int × List Int} {E : List Ent} (h : PlanIs xs st kind k v false x E) (hok : OkRows xs st) (hg : OpGood kind k v) (hA : AfterM xs st kind k v x.1 x.2 zs st') : Comes xs st kind k v zs st' := by
  have hal := h.allowed hok hg
  rcases h with ⟨h0, _⟩ | ⟨_, hN, ⟨LL, hT⟩, _⟩
  · cases h0
  have h456 : ¬ (kind = 4 ∨ kind = 5 ∨ kind = 6) := fun e => now_some _ _ kind k v e hN
  rcases kinds hg.1 with rfl | rfl | rfl | rfl | rfl | rfl | rfl | rfl | rfl | rfl
  · obtain rfl : x = (0, []) := by simpa [thenL] using (List.cons.inj hT).1.symm
    rcases done_is hA hal rfl with ⟨_, hz, rfl⟩ | ⟨h, _⟩ | ⟨h, _⟩ | ⟨h, _⟩
    · exact comes_put hok hg hN hz
    all_goals omega
  · obtain rfl : x = (0, []) := by simpa [thenL] using (List.cons.inj hT).1.symm
    rcases done_is hA hal rfl with ⟨_, hz, rfl⟩ | ⟨h, _⟩ | ⟨h, _⟩ | ⟨h, _⟩
    · exact comes_set hok hg hN hz
    all_goals omega
  · obtain rfl : x = (0, []) := by simpa [thenL] using (List.cons.inj hT).1.symm
    rcases done_is hA hal rfl with ⟨h, _⟩ | ⟨_, hz, rfl⟩ | ⟨h, _⟩ | ⟨h, _⟩
    · omega
    · exact comes_del hok hg hN hz
    all_goals omega
  · exact absurd (.inl rfl) h456
  · exact absurd (.inr (.inl rfl)) h456
  · exact absurd (.inr (.inr rfl)) h456
  · have hx : x.1 = 0 := by rw [← (List.cons.inj hT).1]
    rcases done_is hA hal hx with ⟨h, _⟩ | ⟨h, _⟩ | ⟨h, _⟩ | ⟨_, hz, rfl⟩
    · omega
    · omega
    · omega
    · exact comes_scan hok hg hz
  · obtain rfl : x = (0, []) := by simpa [thenL] using (List.cons.inj hT).1.symm
    rcases done_is hA hal rfl with ⟨h, _⟩ | ⟨h, _⟩ | ⟨_, hz, rfl⟩ | ⟨h, _⟩
    · omega
    · omega
    · exact comes_open hok hg hN hz
    · omega
  · obtain rfl : x = (0, []) := by simpa [thenL] using (List.cons.inj hT).1.symm
    rcases done_is hA hal rfl with ⟨h, _⟩ | ⟨h, _⟩ | ⟨_, hz, rfl⟩ | ⟨h, _⟩
    · omega
    · omega
    · exact comes_make hok hg hN hz
    · omega
  · by_cases hx : x.1 = 0
    · rcases done_is hA hal hx with ⟨h, _⟩ | ⟨h, _⟩ | ⟨h, _⟩ | ⟨_, hz, rfl⟩
      · omega
      · omega
      · omega
      · exact comes_via hok hg hz
    · obtain ⟨hz, rfl⟩ := not_done_same hA hx
      exact comes_via hok hg hz
def setAll (L : List Int) (E : List Ent) : List Int := E.foldl (fun L e => L.set e.1.toNat e.2.2) L
theorem setAll_len (E : List Ent) : ∀ L : List Int, (setAll L E).length = L.length := by
  induction E with
  | nil => intro L; rfl
  | cons e E ih => intro L; show (setAll (L.set _ _) E).length = _; rw [ih]; simp
theorem setAll_next (L : List Int) (E : List Ent) (e : Ent) : setAll L (E ++ [e]) = (setAll L E).set e.1.toNat e.2.2 := by simp [setAll]
theorem setAll_at {g : Int → Int} : ∀ (E : List Ent) (L : List Int), (∀ e ∈ E, (0 ≤ e.1 ∧ e.1 ≤ 19) ∧ e.2.2 = g e.1) → L.length = 20 → ∀ i : Nat, i < 20 → (setAll L E).getD i 0 = if (E.any fun e => e.1 == (i : Int)) = true then g i else L.getD i 0
  | [], L, _, _, i, _ => by simp [setAll]
  | e :: E, L, h, hl, i, hi => by
    have h1 := h e (List.mem_cons_self ..)
    have ih := setAll_at E (L.set e.1.toNat e.2.2) (fun x hx => h x (List.mem_cons_of_mem _ hx)) (by simpa using hl) i hi
    show (setAll (L.set e.1.toNat e.2.2) E).getD i 0 = _
    rw [ih, List.any_cons]
    by_cases hE : (E.any fun e => e.1 == (i : Int)) = true
    · rw [if_pos hE, hE, Bool.or_true, if_pos rfl]
    · rw [if_neg hE]
      have hE' : (E.any fun e => e.1 == (i : Int)) = false := (Bool.not_eq_true _).mp hE
      rw [hE', Bool.or_false]
      by_cases he : e.1 = (i : Int)
      · have e1 : (e.1 == (i : Int)) = true := by simpa using he
        have e2 : e.1.toNat = i := by omega
        rw [e1, if_pos rfl, e2, h1.2, he]
        simp [List.getD, hl, hi]
      · have e1 : (e.1 == (i : Int)) = false := by simpa using he
        have e2 : e.1.toNat ≠ i := by omega
        rw [e1]
        simp [List.getD, List.getElem?_set_ne e2]
structure Walks (xs : List Int) (st : Int) (zs : List Int) (st' : Int) (E : List Ent) : Prop where
  place : ∀ j, j < E.length → 0 ≤ (E.getD j (0, 0, 0)).1 ∧ (E.getD j (0, 0, 0)).1 ≤ 19
  old : ∀ j, j < E.length → (setAll (specL xs st) (E.take j)).getD (E.getD j (0, 0, 0)).1.toNat 0 = (E.getD j (0, 0, 0)).2.1
  asc : ∀ j, j + 1 < E.length → (E.getD j (0, 0, 0)).1 < (E.getD (j + 1) (0, 0, 0)).1
  all : setAll (specL xs st) E = specL zs st'
theorem specL_len (xs : List Int) (st : Int) : (specL xs st).length = 20 := rfl
theorem walks_of {xs zs : List Int} {st st' kind k v : Int} {x : Int × List Int} {E : List Ent} (h : PlanIs xs st kind k v false x E) (hok : OkRows xs st) (hg : OpGood kind k v) (hA : AfterM xs st kind k v x.1 x.2 zs st') : Walks xs st zs st' E := by
  have hC := planned_comes h hok hg hA
  rcases h with ⟨h0, _⟩ | ⟨_, hN, _, rfl⟩
  · cases h0
  have hp := sortL_perm (gotL (KF xs st kind k v) (KM xs st kind k v) kind k v)
  have hkeys := got_keys hok hg hN
  have hall := got_all (wordF_ok hok) hg hN
  have hstrict := strict_of (sortL_asc (gotL (KF xs st kind k v) (KM xs st kind k v) kind k v)) ((hp.map _).nodup_iff.2 (got_nodup hok hg hN))
  have hmem : ∀ e ∈ sortL (gotL (KF xs st kind k v) (KM xs st kind k v) kind k v), (0 ≤ e.1 ∧ e.1 ≤ 19) ∧ e.2.2 = wordF zs st' e.1 ∧ e.2.1 = wordF xs st e.1 := by
    intro e he
    have he' := hp.mem_iff.1 he
    have hk : e.1 ∈ needL (wordF xs st) kind k v := by rw [← hkeys]; exact List.mem_map.2 ⟨e, he', rfl⟩
    refine ⟨(need_ok (wordF_ok hok) hg).2.2.1 e.1 hk, hC.told e he', ?_⟩
    have hm : keyE e ∈ (needL (wordF xs st) kind k v).map fun p => (p, wordF xs st p) := by rw [← hall]; exact List.mem_map.2 ⟨e, he', rfl⟩
    obtain ⟨p, _, hq⟩ := List.mem_map.1 hm
    have hq' : (p, wordF xs st p) = (e.1, e.2.1) := hq
    simp only [Prod.mk.injEq] at hq'
    rw [← hq'.2, hq'.1]
  generalize sortL (gotL (KF xs st kind k v) (KM xs st kind k v) kind k v) = E at *
  have hget : ∀ j, j < E.length → E.getD j (0, 0, 0) ∈ E := fun j hj => by
    rw [List.getD_eq_getElem?_getD, List.getElem?_eq_getElem hj]; exact List.getElem_mem _
  have hlt : ∀ i j, i < j → j < E.length → (E.getD i (0, 0, 0)).1 < (E.getD j (0, 0, 0)).1 := fun i j hij hj => by
    have := List.pairwise_iff_getElem.1 hstrict i j (by omega) hj hij
    simpa [List.getD, show i < E.length by omega, hj] using this
  refine ⟨fun j hj => (hmem _ (hget j hj)).1, fun j hj => ?_, fun j hj => hlt j (j + 1) (by omega) hj, ?_⟩
  · have hpl := (hmem _ (hget j hj)).1
    have hat := setAll_at (g := wordF zs st') (E.take j) (specL xs st) (fun e he => ⟨(hmem e (List.mem_of_mem_take he)).1, (hmem e (List.mem_of_mem_take he)).2.1⟩) rfl (E.getD j (0, 0, 0)).1.toNat (by omega)
    rw [hat, if_neg]
    · exact (hmem _ (hget j hj)).2.2.symm
    · intro hany
      rw [List.any_eq_true] at hany
      obtain ⟨e, he, hq⟩ := hany
      obtain ⟨i, hi, hei⟩ := List.getElem_of_mem he
      rw [List.length_take] at hi
      have := hlt i j (by omega) hj
      have e2 : E.getD i (0, 0, 0) = e := by
        rw [List.getElem_take] at hei
        simp [List.getD, show i < E.length by omega, hei]
      rw [e2] at this
      simp only [beq_iff_eq] at hq
      omega
  · apply List.ext_getElem (by rw [setAll_len, specL_len, specL_len])
    intro i h1 h2
    have hi : i < 20 := h2
    have hat := setAll_at (g := wordF zs st') E (specL xs st) (fun e he => ⟨(hmem e he).1, (hmem e he).2.1⟩) rfl i hi
    have e1 : (setAll (specL xs st) E).getD i 0 = (setAll (specL xs st) E)[i] := by simp [List.getD, h1]
    have e2 : wordF zs st' (i : Int) = (specL zs st')[i] := by
      show (specL zs st').getD ((i : Int)).toNat 0 = _
      rw [Int.toNat_natCast, List.getD_eq_getElem?_getD, List.getElem?_eq_getElem h2]; rfl
    refine e1.symm.trans (hat.trans (Eq.trans ?_ e2))
    split
    · rfl
    · rename_i hany
      have hnot : (i : Int) ∉ needL (wordF xs st) kind k v := by
        rw [← hkeys]
        intro hm
        obtain ⟨e, he, hq⟩ := List.mem_map.1 hm
        apply hany
        rw [List.any_eq_true]
        exact ⟨e, hp.mem_iff.2 he, by simpa using hq⟩
      rw [hC.rest i (by omega) hnot]
      show _ = (specL xs st).getD ((i : Int)).toNat 0
      rw [Int.toNat_natCast]
end
theorem set_same {xs : List Int} {k v : Int} (hl : xs.length = 4) (hk : 0 ≤ k ∧ k ≤ 3) (h : atK xs k = v) : xs.set k.toNat v = xs := by
  obtain ⟨y0, y1, y2, y3, rfl⟩ := four_of hl
  have hk4 : k = 0 ∨ k = 1 ∨ k = 2 ∨ k = 3 := by omega
  rcases hk4 with rfl | rfl | rfl | rfl <;> (subst h; rfl)
theorem now_same {xs zs : List Int} {st st' kind k v : Int} {x : Int × List Int} {E : List Ent} (h : PlanIs xs st kind k v true x E) (hok : OkRows xs st) (hg : OpGood kind k v) (hA : AfterM xs st kind k v x.1 x.2 zs st') : zs = xs ∧ st' = st := by
  have hal := h.allowed hok hg
  rcases h with ⟨_, _, LL, h⟩ | ⟨h0, _⟩
  case inr => cases h0
  by_cases hx : x.1 = 0
  case neg => exact not_done_same hA hx
  obtain ⟨hkk, hkey, hval⟩ := hg
  rcases done_is hA hal hx with ⟨hk12, hz, rfl⟩ | ⟨rfl, hz, rfl⟩ | ⟨hk89, hz, _⟩ | ⟨_, hz, hs⟩
  · refine ⟨?_, rfl⟩
    have hk : 0 ≤ k ∧ k ≤ 3 := by unfold KeyGood at hkey; omega
    rcases hk12 with rfl | rfl
    · rw [nowL_1] at h
      rcases ifL_cons h with ⟨_, rfl⟩ | ⟨_, h⟩
      · exact absurd hx (by decide)
      rw [← List.append_nil (ifL _ _)] at h
      rcases ifL_cons h with ⟨_, rfl⟩ | ⟨_, h⟩
      · exact absurd hx (by decide)
      · cases h
    · have p1 := p1_pos hk
      have d1 := rd_need (xs := xs) (st := st') (kind := 2) (k := k) (v := v) (placeN 1 k) (by omega) (by unfold needL; rw [if_neg (by decide), if_pos rfl]; simp)
      rw [nowL_2, d1, wordF_p1 hk, List.append_assoc] at h
      rcases ifL_cons h with ⟨_, rfl⟩ | ⟨_, h⟩
      · exact absurd hx (by decide)
      rcases ifL_cons h with ⟨hb, rfl⟩ | ⟨_, h⟩
      · rw [hz, set_same hok.1 hk (by simpa using hb)]
      rw [← List.append_nil (ifL _ _)] at h
      rcases ifL_cons h with ⟨_, rfl⟩ | ⟨_, h⟩
      · exact absurd hx (by decide)
      · cases h
  · rw [nowL_3, ← List.append_nil (ifL _ _)] at h
    rcases ifL_cons h with ⟨_, rfl⟩ | ⟨_, h⟩
    · exact absurd hx (by decide)
    · cases h
  · rcases hk89 with rfl | rfl
    · rw [nowL_8, ← List.append_nil (ifL _ _)] at h
      rcases ifL_cons h with ⟨_, rfl⟩ | ⟨_, h⟩
      · exact absurd hx (by decide)
      · cases h
    · rw [nowL_9, ← List.append_nil (ifL _ _)] at h
      rcases ifL_cons h with ⟨_, rfl⟩ | ⟨_, h⟩
      · exact absurd hx (by decide)
      · cases h
  · exact ⟨hz, hs⟩
section
open Go.ChangeShapes Go.WideShapes Go.ChangeAt Go.RowKit Go.Maps
theorem below_grown {w w' : World} (h : Below w.heap.size w w') : w.grownBy w' none := ⟨h.os, h.tape, h.output, h.size, fun i hi _ => h.block i hi⟩
theorem setCell_grown (w : World) (a : Addr) (u : Value) : w.grownBy (w.setCell a u) (some a.block) := ⟨rfl, rfl, rfl, by simp [World.setCell], fun i _ hne => Below.heap_setCell _ _ _ _ (fun e => hne (by rw [e]))⟩

theorem iat_row (k : Nat) (hk : k < 4) (w : World) (hN : Names w) : Calls Tryz.prog 46 #[.int .i64 (k : Int)] w fun e w' => e = .returned (.int .i64 (k : Int)) ∧ Below w.heap.size w w' := by
  have := implRowAt_any (k : Int) w hN
  rwa [show placeN 1 (k : Int) = (k : Int) by unfold placeN; repeat' split <;> omega] at this
theorem iat_owner (x : Int) (m : Nat) (hx : 1 ≤ x ∧ x ≤ 6) (hm : m = (x + 3).toNat) (w : World) (hN : Names w) : Calls Tryz.prog 47 #[.int .i64 x] w fun e w' => e = .returned (.int .i64 (m : Int)) ∧ Below w.heap.size w w' := by
  have := implOwnerAt_any x w hN
  rwa [show placeN 2 x = (m : Int) by unfold placeN; repeat' split <;> omega] at this
theorem iat_via (x : Int) (m : Nat) (hx : 1 ≤ x ∧ x ≤ 6) (hm : m = (x + 13).toNat) (w : World) (hN : Names w) : Calls Tryz.prog 50 #[.int .i64 x] w fun e w' => e = .returned (.int .i64 (m : Int)) ∧ Below w.heap.size w w' := by
  have := implViaAt_any x w hN
  rwa [show placeN 5 x = (m : Int) by unfold placeN; repeat' split <;> omega] at this
theorem iat_count (x : Int) (m : Nat) (hx : 1 ≤ x ∧ x ≤ 6) (hm : m = (10 + x % 3).toNat) (w : World) (hN : Names w) : Calls Tryz.prog 48 #[.int .i64 (classN x)] w fun e w' => e = .returned (.int .i64 (m : Int)) ∧ Below w.heap.size w w' := by
  have := implCountAt_any (classN x) w hN
  rwa [show placeN 3 (classN x) = (m : Int) by rw [classN, if_pos hx]; unfold placeN; repeat' split <;> omega] at this

def OwnSays (e : Ending) (w w' : World) (L : List Int) : Prop := ∃ g, w.heap.size ≤ g ∧ e = .returned (.slice (some ⟨g, 0, none⟩) 20 20) ∧ w'.ownsRow g 3 1 (.slice (some ⟨g, 0, none⟩) 20 20) 20 (L.map I)

def mkL (left : Lit → Bool) (x : Int) : Int := if left (.int .i64 x) = true then 0 else x
def wordsM (xs : List Int) (left : Lit → Bool) (st : Int) : List Int := wordsL (mkL left (xs.getD 0 0)) (mkL left (xs.getD 1 0)) (mkL left (xs.getD 2 0)) (mkL left (xs.getD 3 0)) st
theorem mkL_ne {left : Lit → Bool} {y x : Int} (h : y ≠ x) (h0 : x ≠ 0) : mkL left y ≠ x := by
  unfold mkL
  split
  · exact fun e => h0 e.symm
  · exact h
theorem mkL_other {left : Lit → Bool} {y x : Int} (h : y ≠ x) : mkL (fun z => left z && !z.sameKey (.int .i64 x)) y = mkL left y := by
  unfold mkL
  simp only [sameKey_int, h, decide_false, Bool.not_false, Bool.and_true]
theorem mkL_same {left : Lit → Bool} {x : Int} : mkL (fun z => left z && !z.sameKey (.int .i64 x)) x = x := by
  unfold mkL
  simp [sameKey_int]
theorem mkL_left {left : Lit → Bool} {x : Int} (h : left (.int .i64 x) = true) : mkL left x = 0 := by
  unfold mkL
  rw [if_pos h]
theorem wordsM_step {xs : List Int} {left : Lit → Bool} {k : Nat} {x st : Int} (hk : k < 4) (hx : xs.getD k 0 = x) (hv : 1 ≤ x ∧ x ≤ 6) (hne : ∀ j, j < 4 → j ≠ k → xs.getD j 0 ≠ x) (hl : left (.int .i64 x) = true) :
    istepW (wordsM xs left st) k x st = wordsM xs (fun z => left z && !z.sameKey (.int .i64 x)) st := by
  have h : k = 0 ∨ k = 1 ∨ k = 2 ∨ k = 3 := by omega
  have h0 : x ≠ 0 := by omega
  rcases h with rfl | rfl | rfl | rfl
  · have n1 := hne 1 (by omega) (by omega)
    have n2 := hne 2 (by omega) (by omega)
    have n3 := hne 3 (by omega) (by omega)
    rw [wordsM, wordsM, hx, mkL_left hl, mkL_same, mkL_other n1, mkL_other n2, mkL_other n3]
    exact istep0 _ _ _ st x hv (mkL_ne n1 h0) (mkL_ne n2 h0) (mkL_ne n3 h0)
  · have n1 := hne 0 (by omega) (by omega)
    have n2 := hne 2 (by omega) (by omega)
    have n3 := hne 3 (by omega) (by omega)
    rw [wordsM, wordsM, hx, mkL_left hl, mkL_same, mkL_other n1, mkL_other n2, mkL_other n3]
    exact istep1 _ _ _ st x hv (mkL_ne n1 h0) (mkL_ne n2 h0) (mkL_ne n3 h0)
  · have n1 := hne 0 (by omega) (by omega)
    have n2 := hne 1 (by omega) (by omega)
    have n3 := hne 3 (by omega) (by omega)
    rw [wordsM, wordsM, hx, mkL_left hl, mkL_same, mkL_other n1, mkL_other n2, mkL_other n3]
    exact istep2 _ _ _ st x hv (mkL_ne n1 h0) (mkL_ne n2 h0) (mkL_ne n3 h0)
  · have n1 := hne 0 (by omega) (by omega)
    have n2 := hne 1 (by omega) (by omega)
    have n3 := hne 2 (by omega) (by omega)
    rw [wordsM, wordsM, hx, mkL_left hl, mkL_same, mkL_other n1, mkL_other n2, mkL_other n3]
    exact istep3 _ _ _ st x hv (mkL_ne n1 h0) (mkL_ne n2 h0) (mkL_ne n3 h0)
theorem wordsM_start {H : Type} {xs : List Int} {D : DataW H} (hD : HD xs D) (st : Int) : wordsM xs (Maps.has D) st = wordsL 0 0 0 0 st := by
  have h : ∀ j, j < 4 → mkL (Maps.has D) (xs.getD j 0) = 0 := fun j hj => by
    by_cases h0 : xs.getD j 0 = 0
    · rw [h0]
      unfold mkL
      split <;> rfl
    · refine mkL_left ?_
      rw [(hD _).1]
      exact decide_eq_true ⟨h0, List.ne_nil_of_mem (mem_posK.2 ⟨j, hj, rfl, rfl⟩)⟩
  rw [wordsM, h 0 (by omega), h 1 (by omega), h 2 (by omega), h 3 (by omega)]
theorem wordsM_end {xs : List Int} {left : Lit → Bool} (h : ∀ kl, left kl = false) (st : Int) : wordsM xs left st = specL xs st := by
  simp only [wordsM, specL, mkL, h]
  simp

theorem getD_set_ne {L : List Int} {i j : Nat} {u : Int} (h : i ≠ j) : (L.set i u).getD j 0 = L.getD j 0 := by
  simp [List.getD, List.getElem?_set_ne h]
theorem count_le (xs : List Int) (left : Lit → Bool) (st u v : Int) (k m2 m3 : Nat) (hk : k < 4) (h2 : m2 < 10) (h3 : 10 ≤ m3) (h4 : m3 < 13) : 0 ≤ (((wordsM xs left st).set k u).set m2 v).getD m3 0 ∧ (((wordsM xs left st).set k u).set m2 v).getD m3 0 ≤ 4 := by
  rw [getD_set_ne (by omega), getD_set_ne (by omega)]
  have h : m3 = 10 ∨ m3 = 11 ∨ m3 = 12 := by omega
  have e : ∀ c : Int, 0 ≤ clsW (mkL left (xs.getD 0 0)) (mkL left (xs.getD 1 0)) (mkL left (xs.getD 2 0)) (mkL left (xs.getD 3 0)) c ∧ clsW (mkL left (xs.getD 0 0)) (mkL left (xs.getD 1 0)) (mkL left (xs.getD 2 0)) (mkL left (xs.getD 3 0)) c ≤ 4 := fun c => by
    unfold clsW
    have b0 := bitW_le (mkL left (xs.getD 0 0)) c
    have b1 := bitW_le (mkL left (xs.getD 1 0)) c
    have b2 := bitW_le (mkL left (xs.getD 2 0)) c
    have b3 := bitW_le (mkL left (xs.getD 3 0)) c
    omega
  rcases h with rfl | rfl | rfl
  · exact e 0
  · exact e 1
  · exact e 2
theorem pos_one {xs : List Int} {x : Int} (h0 : posK xs 4 x ≠ []) (h1 : (posK xs 4 x).length ≤ 1) : ∃ k : Nat, k < 4 ∧ xs.getD k 0 = x ∧ posK xs 4 x = [(k : Int)] ∧ ∀ j, j < 4 → j ≠ k → xs.getD j 0 ≠ x := by
  obtain ⟨i, hi⟩ := List.exists_mem_of_ne_nil _ h0
  obtain ⟨k, hk, hkx, rfl⟩ := mem_posK.1 hi
  refine ⟨k, hk, hkx, ?_, fun j hj hjk e => ?_⟩
  · match hp : posK xs 4 x with
    | [] => exact absurd hp h0
    | [a] =>
      rw [hp] at hi
      simp at hi
      rw [hi]
    | _ :: _ :: _ => rw [hp] at h1; simp at h1
  · have := one_of h1 hi (mem_posK.2 ⟨j, hj, e, rfl⟩)
    omega

structure St {H : Type} (R : Value → Option (DataW H × List MemPlace)) (b r : Nat) (D : DataW H) (g : Nat) (w6 : World) (left : Lit → Bool) (cnt : Nat) (L : List Int) (v : World) : Prop where
  rg : v.ranges Tryz.prog 3 R b r 4 D left cnt
  gr : w6.grownBy v (some g)
  ow : v.ownsRow g 3 1 (.slice (some ⟨g, 0, none⟩) 20 20) 20 (L.map I)
section
variable {H : Type} {R : Value → Option (DataW H × List MemPlace)} {b r : Nat} {D : DataW H} {g : Nat} {w6 v v' : World} {left : Lit → Bool} {cnt : Nat} {L : List Int}
theorem St.call (h : St R b r D g w6 left cnt L v) (hb : Below v.heap.size v v') : St R b r D g w6 left cnt L v' :=
  ⟨h.rg.kept (below_grown hb) (by simp) (by simp), h.gr.andThen (below_grown hb) (fun j e => by cases e), owns_below h.ow hb (Nat.le_refl _)⟩
theorem St.store (h : St R b r D g w6 left cnt L v) (hbg : b ≠ g) (hrg : r ≠ g) (m : Nat) (y : Int) : St R b r D g w6 left cnt (L.set m y) (v.setCell ⟨g, m, none⟩ (I y)) := by
  refine ⟨h.rg.kept (setCell_grown v ⟨g, m, none⟩ (I y)) (fun e => hbg (by cases e; rfl)) (fun e => hrg (by cases e; rfl)), h.gr.andThen (setCell_grown v ⟨g, m, none⟩ (I y)) (fun j e => .inr e), ?_⟩
  have := (h.ow.stored m (I y)).1
  rwa [← List.map_set] at this
theorem St.cell (h : St R b r D g w6 left cnt L v) {p : Addr} (h1 : p.block < w6.heap.size) (h2 : p.block ≠ g) : v.cell? p = w6.cell? p := World.cell?_of_block (w := w6) (h.gr.block p.block h1 (fun e => h2 (by cases e; rfl)))
theorem St.below (h : St R b r D g w6 left cnt L v) {B : Nat} {w : World} (hb : Below B w w6) (h1 : B ≤ w6.heap.size) (h2 : B ≤ g) : Below B w v := hb.grown h.gr h1 (fun k e => by cases e; exact h2)
theorem St.at (h : St R b r D g w6 left cnt L v) {m : Nat} (hm : m < 20) (hl : L.length = 20) : v.cell? ⟨g, m, none⟩ = some (I (L.getD m 0)) ∧ v.frozen? ⟨g, m, none⟩ = false := by
  refine ⟨?_, h.ow.frozenAt m⟩
  rw [h.ow.cellAt m (by omega), List.getElem?_map, List.getElem?_eq_getElem (by omega)]
  simp [List.getD, show m < L.length by omega]
end

theorem implWordsOf_room (a : Option Addr) (cp : Nat) (hcp : 4 ≤ cp) (st : Int) (xs : List Int) (w : World) (hA : IntAt w a 4 xs) (hi : ∀ x ∈ xs, (Lit.int .i64 x).wf = true) (hyes : OkRows xs st) (hN : Names w) :
    Calls Tryz.prog 13 #[.agg #[.slice a 4 cp, .int .i64 st]] w fun e w' => OwnSays e w w' (specL xs st) ∧ Below w.heap.size w w' := by
  have HA : Hid (IntAt w a 4 xs) := hA
  have HI : Hid (∀ x ∈ xs, (Lit.int .i64 x).wf = true) := hi
  have HY : Hid (OkRows xs st) := hyes
  have HN : Hid (Names w) := hN
  have hst0 : 0 ≤ st := hyes.2.1
  have hst5 : st ≤ 5 := hyes.2.2.1
  have nlt := hN.lt
  clear hA hyes hi hN
  obtain ⟨i0, hi, hz0, hz1, hz2⟩ := info_parts infoInt
  go_enter Tryz.func13, Tryz.ntmps13
  go_wp2_with fail
  refine (implRowsOk_room a 4 cp hcp st xs _ (HA.out.below ((Below.refl _ w).alloc (Nat.le_refl _) _) (Nat.le_refl _)) HI.out).mono ?_
  rintro e w1 ⟨⟨ok, rfl, hok⟩, hb1⟩
  obtain rfl : ok = true := hok.2 HY.out
  simp only [World.size_alloc] at hb1
  have hs1 : w.heap.size < w1.heap.size := Nat.lt_of_succ_le (by simpa using hb1.size)
  have hbw1 : Below w.heap.size w w1 := ((Below.refl _ w).alloc (Nat.le_refl _) _).trans (hb1.mono (Nat.le_succ _))
  have c0 : w1.cell? ⟨w.heap.size, 0, none⟩ = some (.slice a 4 cp) := by rw [hb1.cell (by simp)]; simp
  have c1 : w1.cell? ⟨w.heap.size, 1, none⟩ = some (.int .i64 st) := by rw [hb1.cell (by simp)]; simp
  have HC0 : Hid (w1.cell? ⟨w.heap.size, 0, none⟩ = some (.slice a 4 cp)) := c0
  have HC1 : Hid (w1.cell? ⟨w.heap.size, 1, none⟩ = some (.int .i64 st)) := c1
  clear hok hb1 c0 c1
  go_wp2_with (first | (at_make; refine wpList_make_full _ rfl _ _ 24 rfl w1.heap.size 3 i0 (.int .i64 0) 1 Tryz.underlying24 hi hz0 hz1 .i64 .i64 _ _ 20 rfl rfl rfl rfl (by rw [hz2]; omega) (by unfold maxLen; omega) (Nat.le_refl _) ?_; intro w2 own2 grow2) | fail)
  rw [show (madeCells (Value.int .i64 0).cells (20 * 1)).toList = (List.replicate 20 (0 : Int)).map I from (toList_madeCells_one _ _).trans (by rfl)] at own2
  have hb2 : Below w1.heap.size w1 w2 := (Below.refl _ _).grown grow2 (Nat.le_refl _) (fun k e => by cases e)
  have hs2 := (own_base own2).2
  have d1 : w2.cell? ⟨w.heap.size, 1, none⟩ = some (.int .i64 st) := (hb2.cell (p := ⟨w.heap.size, 1, none⟩) hs1).trans HC1.out
  have HN2 : Hid (Names w2) := HN.out.below (hbw1.trans (hb2.mono hbw1.size)) nlt
  have HO2 : Hid (w2.ownsRow w1.heap.size 3 1 (.slice (some ⟨w1.heap.size, 0, none⟩) 20 20) 20 ((List.replicate 20 (0 : Int)).map I)) := own2
  clear grow2 own2
  go_region_with (first
    | (go_at_call 45; refine (implStateAt_any _ (HN2.out.below (Below.refl w2.heap.size w2).drew HN2.out.lt)).mono ?_; rintro e w3 ⟨rfl, hb3⟩
       have ho3 := owns_below HO2.out ((Below.refl w2.heap.size w2).drew.trans hb3) (Nat.le_refl _)
       have hf3 := ho3.frozenAt 13
       obtain ⟨u3, hc3⟩ := own_cell ho3 (show 13 < 20 by omega)
       have e1 : w3.cell? ⟨w.heap.size, 1, none⟩ = some (.int .i64 st) := (hb3.cell (p := ⟨w.heap.size, 1, none⟩) (Nat.lt_trans hs1 hs2)).trans d1))
  all_goals
    obtain ⟨w5, hw5⟩ : ∃ w5, w5 = w3.setCell ⟨w1.heap.size, 13, none⟩ (.int .i64 st) := ⟨_, rfl⟩
    rw [← hw5]
    have ho5 := (ho3.stored 13 (I st)).1
    rw [← List.map_set, ← hw5, ← wordsL_new] at ho5
    have hb5 : Below w1.heap.size w1 w5 := by rw [hw5]; exact (hb2.drew.trans (hb3.mono (Nat.le_of_lt hs2))).setCell (Nat.le_refl _) _
    have hs5 := (own_base ho5).2
    have hbw5 : Below w.heap.size w w5 := hbw1.trans (hb5.mono hbw1.size)
    have f0 : w5.cell? ⟨w.heap.size, 0, none⟩ = some (.slice a 4 cp) := (hb5.cell (p := ⟨w.heap.size, 0, none⟩) hs1).trans HC0.out
    have f1 : w5.cell? ⟨w.heap.size, 1, none⟩ = some (.int .i64 st) := (hb5.cell (p := ⟨w.heap.size, 1, none⟩) hs1).trans HC1.out
    have HO5 : Hid (w5.ownsRow w1.heap.size 3 1 (.slice (some ⟨w1.heap.size, 0, none⟩) 20 20) 20 ((wordsL 0 0 0 0 st).map I)) := ho5
    clear hw5 ho5 ho3 hf3 hc3 e1 hb3 HO2 HN2 d1 hb2 hs2
    go_wp2_with fail
    refine (holdersOf_cap Unit a cp hcp st xs _ (HA.out.below hbw5 (Nat.le_refl _)) HI.out).mono ?_
    rintro e w6 ⟨rfl, hb6, R, D, hown, hR, hD⟩
    have hbw6 : Below w.heap.size w w6 := hbw5.trans (hb6.mono hbw5.size)
    have hs6 : w5.heap.size + 1 < w6.heap.size := hown.lt
    have HO6 : Hid (w6.ownsRow w1.heap.size 3 1 (.slice (some ⟨w1.heap.size, 0, none⟩) 20 20) 20 ((wordsL 0 0 0 0 st).map I)) := owns_below HO5.out hb6 (Nat.le_refl _)
    have HF1 : Hid (w6.cell? ⟨w.heap.size, 1, none⟩ = some (.int .i64 st)) := (hb6.cell (p := ⟨w.heap.size, 1, none⟩) (Nat.lt_trans hs1 hs5)).trans f1
    have HN6 : Hid (Names w6) := HN.out.below hbw6 nlt
    have HR : Hid (RowsIn R w6 (w5.heap.size + 2)) := hR
    have HD1 : Hid (HD xs D) := hD
    clear hR hD hb6 f0 f1 HO5
    go_wp2_with (first | (at_range; refine wpList_range_own _ rfl _ 75 rfl 3 24 mapLaw Tryz.underlying75 R (w5.heap.size + 1) 4 D rfl hown ?_; intro w7 hrg7 hg7 hs7) | fail)
    go_frame
    have hbg : w5.heap.size + 1 ≠ w1.heap.size := by omega
    have hrg : w6.heap.size ≠ w1.heap.size := by omega
    have S7 : St R (w5.heap.size + 1) w6.heap.size D w1.heap.size w6 (Maps.has D) (Maps.size D) (wordsM xs (Maps.has D) st) w7 := by
      rw [wordsM_start HD1.out]
      exact ⟨hrg7, hg7.but _, HO6.out.kept hg7 (.inr (fun e => by simp [Value.ownBlock] at e))⟩
    clear hown hrg7 hg7
    go_loopw [4] (fun _ wr => ∃ left cnt, St R (w5.heap.size + 1) w6.heap.size D w1.heap.size w6 left cnt (wordsM xs left st) wr) (fun _ wr => wr.rangeLeft (w5.heap.size + 1) w6.heap.size)
    case atStart => exact ⟨_, _, S7⟩
    case round =>
      obtain ⟨left, cnt, hS⟩ := hrel
      clear S7
      have hrgS := hS.rg
      go_wp2_with (first | (at_next; refine wpList_next_rows _ rfl _ rfl R HR.out (w5.heap.size + 1) w6.heap.size 4 D HD1.out left cnt rfl hrgS ?_ ?_) | fail)
      · intro _ hl0
        go_wp2
        go_ret
        refine ⟨⟨_, Nat.le_of_lt hs1, rfl, ?_⟩, hS.below hbw6 hbw6.size (Nat.le_of_lt hs1)⟩
        rw [← wordsM_end hl0]
        exact hS.ow
      · intro x p l cp w8 cnt8 hlx hx0 hpx hrow hrg8 hlt8 hg8 hs8 hen
        obtain ⟨hv, hlen⟩ := HY.out.2.2.2 x hx0 hpx
        obtain ⟨k, hk4, hkx, hpk, hne⟩ := pos_one hpx hlen
        rw [hpk] at hrow
        obtain ⟨gk, rfl, hcell, hgk1, hgk2⟩ := row_intAt hrow (by simp) (by simp)
        obtain rfl : l = 1 := row_len hrow
        have S8 : St R (w5.heap.size + 1) w6.heap.size D w1.heap.size w6 (fun z => left z && !z.sameKey (.int .i64 x)) cnt8 (wordsM xs left st) w8 :=
          ⟨hrg8, hS.gr.andThen hg8 (fun j e => by cases e; exact .inl (Nat.le_refl _)), hS.ow.kept hg8 (.inr (fun e => hrg (by simpa [Value.ownBlock] using e.symm)))⟩
        have kc : w8.cell? ⟨gk, 0, none⟩ = some (I (k : Int)) := (S8.cell (p := ⟨gk, 0, none⟩) hgk1 (show gk ≠ w1.heap.size by omega)).trans hcell
        have names : ∀ {L : List Int} {v : World}, St R (w5.heap.size + 1) w6.heap.size D w1.heap.size w6 (fun z => left z && !z.sameKey (.int .i64 x)) cnt8 L v → Names v := fun h => HN.out.below (h.below hbw6 hbw6.size (Nat.le_of_lt hs1)) nlt
        have NAMES : Hid (∀ {L : List Int} {v : World}, St R (w5.heap.size + 1) w6.heap.size D w1.heap.size w6 (fun z => left z && !z.sameKey (.int .i64 x)) cnt8 L v → Names v) := names
        have HSTEP : Hid (istepW (wordsM xs left st) k x st = wordsM xs (fun z => left z && !z.sameKey (.int .i64 x)) st) := wordsM_step hk4 hkx hv hne hlx
        have hcnt : wr.rangeLeft (w5.heap.size + 1) w6.heap.size = cnt := hS.rg.left_eq
        obtain ⟨m2, hm2⟩ : ∃ m : Nat, m = (x + 3).toNat := ⟨_, rfl⟩
        obtain ⟨m3, hm3⟩ : ∃ m : Nat, m = (10 + x % 3).toNat := ⟨_, rfl⟩
        obtain ⟨m5, hm5⟩ : ∃ m : Nat, m = (x + 13).toNat := ⟨_, rfl⟩
        have lt2 : m2 < 10 := by omega
        have ge3 : 10 ≤ m3 := by omega
        have lt3 : m3 < 13 := by omega
        have lt5 : m5 < 20 := by omega
        have HM2 : Hid (m2 = (x + 3).toNat) := hm2
        have HM3 : Hid (m3 = (10 + x % 3).toNat) := hm3
        have HM5 : Hid (m5 = (x + 13).toNat) := hm5
        have hsg : w.heap.size ≠ w1.heap.size := by omega
        have hgs : w1.heap.size ≠ w.heap.size := by omega
        clear hm2 hm3 hm5 names hne hkx hpk hlen hrow hcell hrg8 hg8 hpx hS hrgS
        go_wp2_with fail
        refine (iat_row k hk4 _ (NAMES.out S8)).mono ?_
        rintro e w9 ⟨rfl, hb9⟩
        have S9 := S8.call hb9
        obtain ⟨c9, z9⟩ := S9.at (show k < 20 by omega) rfl
        have T9 := S9.store hbg hrg k x
        have HT9 : Hid (St R (w5.heap.size + 1) w6.heap.size D w1.heap.size w6 (fun z => left z && !z.sameKey (.int .i64 x)) cnt8 ((wordsM xs left st).set k x) (w9.setCell ⟨w1.heap.size, k, none⟩ (I x))) := T9
        clear S8 S9 T9 hb9 kc hen
        go_wp2_with fail
        refine (iat_owner x m2 hv HM2.out _ (NAMES.out HT9.out)).mono ?_
        rintro e w10 ⟨rfl, hb10⟩
        have S10 := HT9.out.call hb10
        obtain ⟨c10, z10⟩ := S10.at (show m2 < 20 by omega) (by simp [wordsM, wordsL, wordsG])
        have HT10 : Hid (St R (w5.heap.size + 1) w6.heap.size D w1.heap.size w6 (fun z => left z && !z.sameKey (.int .i64 x)) cnt8 (((wordsM xs left st).set k x).set m2 ((k : Int) + 1)) (w10.setCell ⟨w1.heap.size, m2, none⟩ (I ((k : Int) + 1)))) := S10.store hbg hrg m2 ((k : Int) + 1)
        clear S10 HT9 hb10 c9 z9
        go_wp2_with fail
        refine (implClassOf_any x _).mono ?_
        rintro e w11 ⟨rfl, rfl⟩
        go_wp2_with fail
        refine (iat_count x m3 hv HM3.out _ (NAMES.out HT10.out)).mono ?_
        rintro e w12 ⟨rfl, hb12⟩
        have S12 := HT10.out.call hb12
        have hq4 := count_le xs left st x ((k : Int) + 1) k m2 m3 hk4 lt2 ge3 lt3
        obtain ⟨c12, z12⟩ := S12.at (show m3 < 20 by omega) (by simp [wordsM, wordsL, wordsG])
        obtain ⟨q, hq⟩ : ∃ q, (((wordsM xs left st).set k x).set m2 ((k : Int) + 1)).getD m3 0 = q := ⟨_, rfl⟩
        rw [hq] at hq4 c12
        have s12 : w12.cell? ⟨w.heap.size, 1, none⟩ = some (.int .i64 st) := (S12.cell (p := ⟨w.heap.size, 1, none⟩) (show w.heap.size < w6.heap.size by omega) hsg).trans HF1.out
        have HQ : Hid ((((wordsM xs left st).set k x).set m2 ((k : Int) + 1)).getD m3 0 = q) := hq
        have HT12 : Hid (St R (w5.heap.size + 1) w6.heap.size D w1.heap.size w6 (fun z => left z && !z.sameKey (.int .i64 x)) cnt8 ((((wordsM xs left st).set k x).set m2 ((k : Int) + 1)).set m3 (q + 1)) (w12.setCell ⟨w1.heap.size, m3, none⟩ (I (q + 1)))) := S12.store hbg hrg m3 (q + 1)
        clear S12 HT10 hb12 c10 z10 hq
        by_cases hvia : (k : Int) + 1 < st
        · have hvia' : (k : Int) < st - 1 := by omega
          have HV : Hid ((k : Int) + 1 < st) := hvia
          go_wp2_with fail
          refine (iat_via x m5 hv HM5.out _ (NAMES.out HT12.out)).mono ?_
          rintro e w13 ⟨rfl, hb13⟩
          have S13 := HT12.out.call hb13
          obtain ⟨c13, z13⟩ := S13.at (show m5 < 20 by omega) (by simp [wordsM, wordsL, wordsG])
          have T13 := S13.store hbg hrg m5 ((k : Int) + 1)
          have HT13 : Hid (St R (w5.heap.size + 1) w6.heap.size D w1.heap.size w6 (fun z => left z && !z.sameKey (.int .i64 x)) cnt8 (wordsM xs (fun z => left z && !z.sameKey (.int .i64 x)) st) (w13.setCell ⟨w1.heap.size, m5, none⟩ (I ((k : Int) + 1)))) := by
            rw [← HSTEP.out, istepW, if_pos HV.out, ← HM2.out, ← HM3.out, ← HM5.out, HQ.out]
            exact T13
          clear S13 T13 HT12 hb13 c12 z12 s12
          go_wp2
          refine ⟨⟨_, _, HT13.out⟩, ?_⟩
          rw [hcnt]
          exact Nat.lt_of_le_of_lt (Nat.le_of_eq HT13.out.rg.left_eq) hlt8
        · have hvia' : ¬ ((k : Int) < st - 1) := by omega
          have HT13 : Hid (St R (w5.heap.size + 1) w6.heap.size D w1.heap.size w6 (fun z => left z && !z.sameKey (.int .i64 x)) cnt8 (wordsM xs (fun z => left z && !z.sameKey (.int .i64 x)) st) (w12.setCell ⟨w1.heap.size, m3, none⟩ (I (q + 1)))) := by
            rw [← HSTEP.out, istepW, if_neg hvia, ← HM2.out, ← HM3.out, HQ.out]
            exact HT12.out
          go_wp2
          refine ⟨⟨_, _, HT13.out⟩, ?_⟩
          rw [hcnt]
          exact Nat.lt_of_le_of_lt (Nat.le_of_eq HT13.out.rg.left_eq) hlt8
theorem implWordsOf_yes (a : Option Addr) (st : Int) (xs : List Int) (w : World) (hA : IntAt w a 4 xs) (hi : ∀ x ∈ xs, (Lit.int .i64 x).wf = true) (hyes : OkRows xs st) (hN : Names w) :
    Calls Tryz.prog 13 #[.agg #[.slice a 4 4, .int .i64 st]] w fun e w' => OwnSays e w w' (specL xs st) ∧ Below w.heap.size w w' := implWordsOf_room a 4 (Nat.le_refl _) st xs w hA hi hyes hN
end
section
open Go.ChangeShapes Go.WideShapes Go.ChangeAt Go.RowKit
theorem below_dN {B : Nat} {w w' : World} (h : Below B w w') : ∀ n, Below B w (w'.drewN n)
  | 0 => h
  | n + 1 => (below_dN h n).drew
theorem after_some (xs : List Int) (st kind k v code : Int) (ys : List Int) (hg : OpGood kind k v) : ∃ zs st', AfterM xs st kind k v code ys zs st' := by
  by_cases h : AllowM xs st kind k v code ys ∧ code = 0
  · have hk := hg.1
    have h4 : (kind = 1 ∨ kind = 2) ∨ kind = 3 ∨ (kind = 8 ∨ kind = 9) ∨ (4 ≤ kind ∧ kind ≤ 7 ∨ kind = 10) := by omega
    rcases h4 with h4 | h4 | h4 | h4
    · exact ⟨_, _, .inl ⟨h.1, h.2, .inl ⟨h4, rfl, rfl⟩⟩⟩
    · exact ⟨_, _, .inl ⟨h.1, h.2, .inr (.inl ⟨h4, rfl, rfl⟩)⟩⟩
    · exact ⟨_, _, .inl ⟨h.1, h.2, .inr (.inr (.inl ⟨h4, rfl, rfl⟩))⟩⟩
    · exact ⟨_, _, .inl ⟨h.1, h.2, .inr (.inr (.inr ⟨h4, rfl, rfl⟩))⟩⟩
  · exact ⟨_, _, .inr ⟨h, rfl, rfl⟩⟩
theorem after_good {xs zs : List Int} {st st' kind k v code : Int} {ys : List Int} (hA : AllowM xs st kind k v code ys) (h : AfterM xs st kind k v code ys zs st') : OkRows zs st' := by
  by_cases hc : code = 0
  · subst hc; exact after_ok hA h
  · obtain ⟨rfl, rfl⟩ := not_done_same h hc; exact hA.1
structure PSt (w : World) (br bo bp g : Nat) (xs : List Int) (st kind k v : Int) (pl : Array Value) (ra : Option Addr) (rm : Nat) (ys : List Int) (eb : Option Addr) (E : List Ent) (wr : World) : Prop where
  base : ASt w br bo bp g xs st kind k v pl ra rm ys wr
  ents : EntAt wr eb E.length (flatE E)
  nm : Names wr
theorem PSt.below {w wr wr' : World} {br bo bp g : Nat} {xs : List Int} {st kind k v : Int} {pl : Array Value} {ra : Option Addr} {rm : Nat} {ys : List Int} {eb : Option Addr} {E : List Ent} (h : PSt w br bo bp g xs st kind k v pl ra rm ys eb E wr) (hb : Below wr.heap.size wr wr') : PSt w br bo bp g xs st kind k v pl ra rm ys eb E wr' :=
  ⟨h.base.below hb, h.ents.below hb (Nat.le_refl _), h.nm.below hb h.nm.lt⟩

theorem plans_walk (a : Option Addr) (n c : Nat) (w : World) (hB : BytesAt w w.heap.size a n) (hN : Names w) :
    Calls Tryz.prog 3 #[.slice a n c] w fun e w' => e = .returned (.bool true) ∧ Below w.heap.size w w' := by
  have HBY : Hid (BytesAt w w.heap.size a n) := hB
  have HN : Hid (Names w) := hN
  clear hB hN
  by_cases hbig : 1048576 < n
  · go_enter Tryz.func3, Tryz.ntmps3
    go_wp2_with fail
    refine (big_is a n c _).mono ?_
    rintro e w1 ⟨rfl, rfl⟩
    rw [decide_eq_true hbig]
    go_wp2
    go_ret
    exact ⟨rfl, Below.refl _ _⟩
  go_enter Tryz.func3, Tryz.ntmps3
  go_wp2_with fail
  refine (big_is a n c _).mono ?_
  rintro e w0 ⟨rfl, rfl⟩
  rw [decide_eq_false hbig]
  go_wp2_with fail
  refine (drawKnown_any a n c _ (by omega) HBY.out).mono ?_
  rintro e w1 ⟨g, st, xs, kind, k, v, q, cq, rfl, hi1, hok, hg, hp1, hb1⟩
  have HOK : Hid (OkRows xs st ∧ OpGood kind k v) := ⟨hok, hg⟩
  obtain ⟨N, hNN⟩ : ∃ N, (needL (wordF xs st) kind k v).length = N := ⟨_, rfl⟩
  have HNN : Hid ((needL (wordF xs st) kind k v).length = N) := hNN
  have P1 : Hid (PairAt w1 (some ⟨q, 0, none⟩) (needL (wordF xs st) kind k v).length (flatP (wordF xs st) (needL (wordF xs st) kind k v))) := hp1
  have I1 : Hid (IntAt w1 (some ⟨g, 0, none⟩) 4 xs) := hi1
  have HB1 : Hid (Below w0.heap.size w0 w1) := hb1
  rw [hNN]
  clear hi1 hok hg hp1 hb1 hNN
  go_wp2_with fail
  obtain ⟨W1, hW1⟩ : ∃ W1, (w1.alloc (.cells #[.slice (some ⟨g, 0, none⟩) 4 4, .int .i64 st] 26)).alloc (.cells #[.int .i64 kind, .int .i64 k, .int .i64 v] 28) = W1 := ⟨_, rfl⟩
  have b1 : Below w1.heap.size w1 W1 := by rw [← hW1]; exact ((Below.refl _ w1).alloc (Nat.le_refl _) _).alloc (by simp) _
  have R1 : Hid (Box W1 w1.heap.size #[.slice (some ⟨g, 0, none⟩) 4 4, .int .i64 st] 26) := by rw [← hW1]; exact (box_of w1 _ _).alloc _
  have O1 : Hid (Box W1 (w1.heap.size + 1) #[.int .i64 kind, .int .i64 k, .int .i64 v] 28) := by
    have := box_of (w1.alloc (.cells #[.slice (some ⟨g, 0, none⟩) 4 4, .int .i64 st] 26)) #[.int .i64 kind, .int .i64 k, .int .i64 v] 28
    rw [hW1] at this
    simp at this
    exact this
  have HB2 : Hid (Below w0.heap.size w0 W1) := HB1.out.trans (b1.mono HB1.out.size)
  have P2 : Hid (PairAt W1 (some ⟨q, 0, none⟩) (needL (wordF xs st) kind k v).length (flatP (wordF xs st) (needL (wordF xs st) kind k v))) := P1.out.below b1 (Nat.le_refl _)
  have I2 : Hid (IntAt W1 (some ⟨g, 0, none⟩) 4 xs) := I1.out.below b1 (Nat.le_refl _)
  rw [hW1]
  clear b1 hW1 P1 HB1 I1
  have hpl := implPlan_known (some ⟨q, 0, none⟩) cq xs st kind k v W1 HOK.out.1 HOK.out.2 (HN.out.below HB2.out HN.out.lt) P2.out
  rw [HNN.out] at hpl
  refine hpl.mono ?_
  clear hpl
  rintro e w2 ⟨nw, x, E, ⟨ra, rm, rc, eb, ed, rfl, hri, hre⟩, his, hb2⟩
  have HAL : Hid (AllowM xs st kind k v x.1 x.2) := his.allowed HOK.out.1 HOK.out.2
  have HIS : Hid (PlanIs xs st kind k v nw x E) := his
  obtain ⟨br, hbr⟩ : ∃ br, w1.heap.size = br := ⟨_, rfl⟩
  obtain ⟨bo, hbo⟩ : ∃ bo, w1.heap.size + 1 = bo := ⟨_, rfl⟩
  have O2 : Hid (Box w2 bo #[.int .i64 kind, .int .i64 k, .int .i64 v] 28) := by rw [← hbo]; exact O1.out.below hb2 O1.out.lt
  have R2 : Hid (Box w2 br #[.slice (some ⟨g, 0, none⟩) 4 4, .int .i64 st] 26) := by rw [← hbr]; exact R1.out.below hb2 R1.out.lt
  have P3 : Hid (PairAt w2 (some ⟨q, 0, none⟩) (needL (wordF xs st) kind k v).length (flatP (wordF xs st) (needL (wordF xs st) kind k v))) := P2.out.below hb2 (Nat.le_refl _)
  have I3 : Hid (IntAt w2 (some ⟨g, 0, none⟩) 4 xs) := I2.out.below hb2 (Nat.le_refl _)
  have Y3 : Hid (IntAt w2 ra rm x.2 ∧ EntAt w2 eb E.length (flatE E)) := ⟨hri, hre⟩
  have HB3 : Hid (Below w0.heap.size w0 w2) := HB2.out.trans (hb2.mono HB2.out.size)
  obtain ⟨o0, o1, o2⟩ := O2.out.c3
  have hbl : bo < w2.heap.size := O2.out.lt
  rw [hbo, hbr]
  clear hri hre his hb2 hbo hbr O1 R1 P2 I2 HB2
  go_wp2_with fail
  obtain ⟨W2, hW2⟩ : ∃ W2, w2.alloc (.cells #[.bool nw, .int .i64 x.1, .slice ra rm rc, .slice eb E.length ed] 36) = W2 := ⟨_, rfl⟩
  have b2 : Below w2.heap.size w2 W2 := by rw [← hW2]; exact (Below.refl _ w2).alloc (Nat.le_refl _) _
  have K2 : Hid (PSt w0 br bo w2.heap.size g xs st kind k v #[.bool nw, .int .i64 x.1, .slice ra rm rc, .slice eb E.length ed] ra rm x.2 eb E W2) :=
    ⟨⟨R2.out.below b2 R2.out.lt, O2.out.below b2 O2.out.lt, by rw [← hW2]; exact box_of w2 _ _, I3.out.below b2 (Nat.le_refl _), Y3.out.1.below b2 (Nat.le_refl _), HB3.out.trans (b2.mono HB3.out.size)⟩, Y3.out.2.below b2 (Nat.le_refl _), (HN.out.below HB3.out HN.out.lt).below b2 (HN.out.below HB3.out HN.out.lt).lt⟩
  have P4 : Hid (PairAt W2 (some ⟨q, 0, none⟩) (needL (wordF xs st) kind k v).length (flatP (wordF xs st) (needL (wordF xs st) kind k v))) := P3.out.below b2 (Nat.le_refl _)
  rw [hW2]
  clear b2 hW2 O2 R2 P3 I3 Y3 HB3 o0 o1 o2
  have hsp := specPlan_known (some ⟨q, 0, none⟩) cq W2 HOK.out.1 HOK.out.2 P4.out HIS.out
  rw [show KM xs st kind k v = N from HNN.out] at hsp
  refine hsp.mono ?_
  clear hsp
  rintro e w3 ⟨⟨sa, sm, sc, sb, sd, rfl, hsi, hse⟩, hb3⟩
  obtain ⟨W3, hW3⟩ : ∃ W3, w3.alloc (.cells #[.bool nw, .int .i64 x.1, .slice sa sm sc, .slice sb E.length sd] 36) = W3 := ⟨_, rfl⟩
  have hb33 : Below w3.heap.size w3 W3 := by rw [← hW3]; exact (Below.refl _ w3).alloc (Nat.le_refl _) _
  have hb3' : Below W2.heap.size W2 W3 := hb3.trans (hb33.mono hb3.size)
  obtain ⟨bp, hbp⟩ : ∃ bp, w2.heap.size = bp := ⟨_, rfl⟩
  rw [hbp] at K2 ⊢
  have K3 : Hid (PSt w0 br bo bp g xs st kind k v #[.bool nw, .int .i64 x.1, .slice ra rm rc, .slice eb E.length ed] ra rm x.2 eb E W3) := K2.out.below hb3'
  have S3 : Hid (IntAt W3 sa sm x.2 ∧ EntAt W3 sb E.length (flatE E)) := ⟨hsi.below hb33 (Nat.le_refl _), hse.below hb33 (Nat.le_refl _)⟩
  have K3' := (K2.out.below hb3).base
  obtain ⟨r0, r1⟩ := K3'.rows.c2
  obtain ⟨o0, o1, o2⟩ := K3'.op.c3
  obtain ⟨p0, p1, p2, p3⟩ := K3'.plan.c4
  have l0 := K3'.rows.lt
  have l1 := K3'.op.lt
  have l2 := K3'.plan.lt
  have HW3 : Hid (w3.alloc (.cells #[.bool nw, .int .i64 x.1, .slice sa sm sc, .slice sb E.length sd] 36) = W3) := hW3
  clear hb3 hb33 hb3' hW3 K2 K3' hbp P4 hsi hse
  go_wp2_with fail
  rw [HW3.out]
  refine (samePlan_same ra sa eb sb rm sm rc sc ed sd nw x E W3 K3.out.base.res S3.out.1 K3.out.ents S3.out.2).mono ?_
  rintro e w4 ⟨rfl, hb4⟩
  have K4 : Hid (PSt w0 br bo bp g xs st kind k v #[.bool nw, .int .i64 x.1, .slice ra rm rc, .slice eb E.length ed] ra rm x.2 eb E w4) := K3.out.below hb4
  clear r0 r1 o0 o1 o2 p0 p1 p2 p3 l0 l1 l2 hb4 K3 HW3 S3
  obtain ⟨r0, r1⟩ := K4.out.base.rows.c2
  go_wp2_with fail
  refine (implRowsOk_cap _ 4 4 st xs _ K4.out.base.held (ok_wf2 HOK.out.1) (fun _ => rfl)).mono ?_
  rintro e w5 ⟨⟨ok, rfl, hr⟩, hb5⟩
  obtain rfl : ok = true := hr.2 HOK.out.1
  have K5 : Hid (PSt w0 br bo bp g xs st kind k v #[.bool nw, .int .i64 x.1, .slice ra rm rc, .slice eb E.length ed] ra rm x.2 eb E w5) := K4.out.below hb5
  clear r0 r1 hr hb5 K4
  obtain ⟨o0, o1, o2⟩ := K5.out.base.op.c3
  go_wp2_with fail
  refine (implOpOk_any kind k v _).mono ?_
  rintro e w6 ⟨rfl, hb6⟩
  rw [show decide (OpGood kind k v) = true from decide_eq_true HOK.out.2]
  have K6 : Hid (PSt w0 br bo bp g xs st kind k v #[.bool nw, .int .i64 x.1, .slice ra rm rc, .slice eb E.length ed] ra rm x.2 eb E w6) := K5.out.below hb6
  clear o0 o1 o2 hb6 K5
  obtain ⟨r0, r1⟩ := K6.out.base.rows.c2
  obtain ⟨o0, o1, o2⟩ := K6.out.base.op.c3
  obtain ⟨p0, p1, p2, p3⟩ := K6.out.base.plan.c4
  go_wp2_with fail
  refine (implAllowed_cap g 0 4 4 rm rc ra st kind k v x.1 xs x.2 _ (fun _ => rfl) K6.out.base.held K6.out.base.res (ok_wf2 HOK.out.1)).mono ?_
  rintro e w7 ⟨⟨ok, rfl, hal⟩, hb7⟩
  obtain rfl : ok = true := hal.2 HAL.out
  have K7 : Hid (PSt w0 br bo bp g xs st kind k v #[.bool nw, .int .i64 x.1, .slice ra rm rc, .slice eb E.length ed] ra rm x.2 eb E w7) := K6.out.below hb7
  clear r0 r1 o0 o1 o2 p0 p1 p2 p3 hal hb7 K6
  obtain ⟨r0, r1⟩ := K7.out.base.rows.c2
  go_wp2_with fail
  refine (implWordsOf_yes _ st xs _ K7.out.base.held (ok_wf2 HOK.out.1) HOK.out.1 K7.out.nm).mono ?_
  rintro e w8 ⟨⟨gw, hgw, rfl, how⟩, hb8⟩
  have HGW : Hid (w7.heap.size ≤ gw) := hgw
  have HB8 : Hid (Below w7.heap.size w7 w8) := hb8
  have O8 : Hid (w8.ownsRow gw 3 1 (.slice (some ⟨gw, 0, none⟩) 20 20) 20 ((specL xs st).map I)) := how
  clear r0 r1 hgw how hb8
  rcases nw with _ | _
  case true =>
    have K8 : Hid (PSt w0 br bo bp g xs st kind k v #[.bool true, .int .i64 x.1, .slice ra rm rc, .slice eb E.length ed] ra rm x.2 eb E w8) := K7.out.below HB8.out
    have hE : E = [] := by
      rcases HIS.out with ⟨_, h, _⟩ | ⟨h, _⟩
      · exact h
      · cases h
    have hE0 : ((E.length : Int) == 0) = true := by rw [hE]; rfl
    obtain ⟨r0, r1⟩ := K8.out.base.rows.c2
    obtain ⟨o0, o1, o2⟩ := K8.out.base.op.c3
    obtain ⟨p0, p1, p2, p3⟩ := K8.out.base.plan.c4
    clear hE K7
    go_wp2_with fail
    refine (implAfter_cap ra g 0 4 4 rm rc st kind k v x.1 xs x.2 _ (fun _ => rfl) K8.out.base.held K8.out.base.res (ok_wf2 HOK.out.1)).mono ?_
    rintro e w9 ⟨⟨zs, st', a', c', rfl, ham, hown⟩, hb9⟩
    obtain ⟨hz, hs⟩ := now_same HIS.out HOK.out.1 HOK.out.2 ham
    rw [hz] at hown
    rw [hs]
    obtain ⟨hc4, ga, rfl⟩ := own_room hown
    have Z9 : Hid (IntAt w9 (some ⟨ga, 0, none⟩) 4 xs) := own_intAt hown (by omega)
    have K9 : Hid (PSt w0 br bo bp g xs st kind k v #[.bool true, .int .i64 x.1, .slice ra rm rc, .slice eb E.length ed] ra rm x.2 eb E w9) := K8.out.below hb9
    have O9 : Hid (w9.ownsRow gw 3 1 (.slice (some ⟨gw, 0, none⟩) 20 20) 20 ((specL xs st).map I)) := owns_below O8.out hb9 (Nat.le_refl _)
    clear r0 r1 o0 o1 o2 p0 p1 p2 p3 hz hs ham hown hb9 K8
    go_wp2_with fail
    refine (implWordsOf_room _ c' hc4 st xs _ Z9.out (ok_wf2 HOK.out.1) HOK.out.1 K9.out.nm).mono ?_
    rintro e w10 ⟨⟨g2, hg2, rfl, how2⟩, hb10⟩
    have A10 : Hid (IntAt w10 (some ⟨g2, 0, none⟩) 20 (specL xs st)) := own_intAt how2 (by omega)
    have B10 : Hid (IntAt w10 (some ⟨gw, 0, none⟩) 20 (specL xs st)) := own_intAt (owns_below O9.out hb10 (Nat.le_refl _)) (by omega)
    have hall10 : Hid (Below w0.heap.size w0 w10) := K9.out.base.bel.trans (hb10.mono K9.out.base.bel.size)
    clear hg2 how2 hb10 K9
    go_wp2_with fail
    refine (sameInts_any _ _ 20 20 20 20 _ _ _ A10.out B10.out).mono ?_
    rintro e w11 ⟨rfl, hb11⟩
    rw [show decide (specL xs st = specL xs st) = true from decide_eq_true rfl]
    have hall : Below w0.heap.size w0 w11 := hall10.out.trans (hb11.mono hall10.out.size)
    clear hb11
    go_wp2
    go_ret
    exact ⟨rfl, hall⟩
  case false =>
    obtain ⟨zs0, st0, ham0⟩ := after_some xs st kind k v x.1 x.2 HOK.out.2
    have HWK : Hid (Walks xs st zs0 st0 E) := walks_of HIS.out HOK.out.1 HOK.out.2 ham0
    have K8 : Hid (PSt w0 br bo bp g xs st kind k v #[.bool false, .int .i64 x.1, .slice ra rm rc, .slice eb E.length ed] ra rm x.2 eb E w8) := K7.out.below HB8.out
    have hEl := K8.out.ents.2.1
    obtain ⟨p0, p1, p2, p3⟩ := K8.out.base.plan.c4
    clear ham0
    go_wp2
    go_loopw [11] (fun i wr => ∃ j : Nat, j ≤ E.length ∧ i = .int .i64 (j : Int) ∧ wr.ownsRow gw 3 1 (.slice (some ⟨gw, 0, none⟩) 20 20) 20 ((setAll (specL xs st) (E.take j)).map I) ∧ Below w7.heap.size w7 wr) (fun i _ => E.length - (intOf i).toNat)
    case atStart => exact ⟨0, Nat.zero_le _, rfl, O8.out, HB8.out⟩
    case round =>
      obtain ⟨j, hj, rfl, ho, hb⟩ := hrel
      have KS : Hid (PSt w0 br bo bp g xs st kind k v #[.bool false, .int .i64 x.1, .slice ra rm rc, .slice eb E.length ed] ra rm x.2 eb E wr) := K7.out.below hb
      have HO : Hid (wr.ownsRow gw 3 1 (.slice (some ⟨gw, 0, none⟩) 20 20) 20 ((setAll (specL xs st) (E.take j)).map I)) := ho
      have HBR : Hid (Below w7.heap.size w7 wr) := hb
      clear ho hb p0 p1 p2 p3 K8
      obtain ⟨p0, p1, p2, p3⟩ := KS.out.base.plan.c4
      by_cases hlt : j < E.length
      · have hj0 : (0 : Int) ≤ (j : Int) := by omega
        have hj1 : (j : Int) < (E.length : Int) := by omega
        rcases KS.out.ents.2.2 with ⟨_, h0⟩ | ⟨b', o', rfl, ge⟩
        · omega
        have ge0 := ge (j * 3) (by omega)
        have ge1 := ge (j * 3 + 1) (by omega)
        have ge2 := ge (j * 3 + 2) (by omega)
        have gt0 := getD_flatE E j hlt 0 (by omega)
        have gt1 := getD_flatE E j hlt 1 (by omega)
        have gt2 := getD_flatE E j hlt 2 (by omega)
        simp only [Nat.add_zero, List.getD_cons_zero, List.getD_cons_succ] at gt0 gt1 gt2
        have hpl := HWK.out.place j hlt
        have hold := HWK.out.old j hlt
        have HNXT : Hid (setAll (specL xs st) (E.take (j + 1)) = (setAll (specL xs st) (E.take j)).set (E.getD j (0, 0, 0)).1.toNat (E.getD j (0, 0, 0)).2.2) := by
          show _ = _
          rw [List.take_succ_eq_append_getElem hlt, setAll_next]
          simp [List.getD, hlt]
        have hasc : 0 < j → (E.getD (j - 1) (0, 0, 0)).1 < (E.getD j (0, 0, 0)).1 := fun h => by
          have := HWK.out.asc (j - 1) (by omega)
          rwa [show j - 1 + 1 = j by omega] at this
        obtain ⟨y, hy⟩ : ∃ y, E.getD j (0, 0, 0) = y := ⟨_, rfl⟩
        rw [hy] at gt0 gt1 gt2 hpl hold hasc HNXT
        obtain ⟨yp, yo, yn⟩ := y
        dsimp only at gt0 gt1 gt2 hpl hold hasc HNXT
        rw [gt0] at ge0
        rw [gt1, ← Nat.add_assoc] at ge1
        rw [gt2, ← Nat.add_assoc] at ge2
        obtain ⟨r, rfl⟩ : ∃ r : Nat, yp = (r : Int) := ⟨yp.toNat, by omega⟩
        rw [Int.toNat_natCast] at hold HNXT
        have hr0 : (0 : Int) ≤ (r : Int) := by omega
        have hr1 : (r : Int) < 20 := by omega
        have hcw : wr.cell? ⟨gw, r, none⟩ = some (.int .i64 yo) := by
          rw [HO.out.cellAt r (by omega), List.getElem?_map, List.getElem?_eq_getElem (by rw [setAll_len, specL_len]; omega)]
          rw [List.getD_eq_getElem?_getD, List.getElem?_eq_getElem (by rw [setAll_len, specL_len]; omega)] at hold
          rw [show (setAll (specL xs st) (E.take j))[r]'_ = yo from hold]
          rfl
        have hfw : wr.frozen? ⟨gw, r, none⟩ = false := HO.out.frozenAt r
        have q1 : b' < wr.heap.size := World.block_lt_of_cell? wr _ ge0
        have q2 : gw < wr.heap.size := World.block_lt_of_cell? wr _ hcw
        have q3 := KS.out.base.plan.lt
        have HS : Hid (∀ w', Below wr.heap.size wr w' → (w'.setCell ⟨gw, r, none⟩ (I yn)).ownsRow gw 3 1 (.slice (some ⟨gw, 0, none⟩) 20 20) 20 ((setAll (specL xs st) (E.take (j + 1))).map I) ∧ Below w7.heap.size w7 (w'.setCell ⟨gw, r, none⟩ (I yn))) := fun w' hb' => by
          have := ((owns_below HO.out hb' (Nat.le_refl _)).stored r (I yn)).1
          rw [← List.map_set, ← HNXT.out] at this
          exact ⟨this, (HBR.out.trans (hb'.mono HBR.out.size)).setCell HGW.out _⟩
        have hoo : (yo != yo) = false := by simp
        clear hpl hold gt0 gt1 gt2 hy
        rcases Nat.eq_zero_or_pos j with hj00 | hjp
        · have hd : decide ((0 : Int) < (j : Int)) = false := by simp [hj00]
          have hd2 : decide (0 < j) = false := by simp [hj00]
          clear hasc ge hj00
          go_wp2
          go_quiet (fail)
          go_wp2
          refine ⟨⟨j + 1, by omega, by go_num, ?_⟩, by simp [intOf]; omega⟩
          exact HS.out _ (below_dN ((Below.refl _ wr).alloc (Nat.le_refl _) _) nq)
        · have hd : (0 : Int) < (j : Int) := by omega
          have hlt2 := hasc hjp
          obtain ⟨i, rfl⟩ : ∃ i, j = i + 1 := ⟨j - 1, by omega⟩
          have gi0 := ge (i * 3) (by omega)
          have gti := getD_flatE E i (by omega) 0 (by omega)
          simp only [Nat.add_zero, List.getD_cons_zero] at gti
          rw [show i + 1 - 1 = i by omega] at hlt2
          rw [gti] at gi0
          obtain ⟨pp, hpp⟩ : ∃ pp, (E.getD i (0, 0, 0)).1 = pp := ⟨_, rfl⟩
          rw [hpp] at gi0 hlt2
          have hge : decide ((r : Int) ≤ pp) = false := by simp; omega
          have hi0 : (0 : Int) ≤ (i : Int) := by omega
          have hi1 : (i : Int) < (E.length : Int) := by omega
          clear hasc ge gti hpp
          go_wp2
          go_quiet (fail)
          go_wp2
          refine ⟨⟨i + 1 + 1, by omega, by go_num, ?_⟩, by simp [intOf]; omega⟩
          exact HS.out _ (below_dN ((Below.refl _ wr).alloc (Nat.le_refl _) _) nq)
      · obtain rfl : j = E.length := by omega
        obtain ⟨r0, r1⟩ := KS.out.base.rows.c2
        obtain ⟨o0, o1, o2⟩ := KS.out.base.op.c3
        go_wp2_with fail
        refine (implAfter_cap ra g 0 4 4 rm rc st kind k v x.1 xs x.2 _ (fun _ => rfl) KS.out.base.held KS.out.base.res (ok_wf2 HOK.out.1)).mono ?_
        rintro e w9 ⟨⟨zs, st', a', c', rfl, ham, hown⟩, hb9⟩
        obtain ⟨hc4, ga, rfl⟩ := own_room hown
        have HZ : Hid (OkRows zs st') := after_good HAL.out ham
        have Z9 : Hid (IntAt w9 (some ⟨ga, 0, none⟩) 4 zs) := own_intAt hown (by omega)
        have K9 : Hid (PSt w0 br bo bp g xs st kind k v #[.bool false, .int .i64 x.1, .slice ra rm rc, .slice eb E.length ed] ra rm x.2 eb E w9) := KS.out.below hb9
        have O9 : Hid (w9.ownsRow gw 3 1 (.slice (some ⟨gw, 0, none⟩) 20 20) 20 ((specL zs st').map I)) := by
          have h1 := owns_below HO.out hb9 (Nat.le_refl _)
          rwa [List.take_length, (walks_of HIS.out HOK.out.1 HOK.out.2 ham).all] at h1
        clear r0 r1 o0 o1 o2 p0 p1 p2 p3 ham hown hb9 KS HO
        go_wp2_with fail
        refine (implWordsOf_room _ c' hc4 st' zs _ Z9.out (ok_wf2 HZ.out) HZ.out K9.out.nm).mono ?_
        rintro e w10 ⟨⟨g2, hg2, rfl, how2⟩, hb10⟩
        have A10 : Hid (IntAt w10 (some ⟨g2, 0, none⟩) 20 (specL zs st')) := own_intAt how2 (by omega)
        have B10 : Hid (IntAt w10 (some ⟨gw, 0, none⟩) 20 (specL zs st')) := own_intAt (owns_below O9.out hb10 (Nat.le_refl _)) (by omega)
        have hall10 : Hid (Below w0.heap.size w0 w10) := K9.out.base.bel.trans (hb10.mono K9.out.base.bel.size)
        clear hg2 how2 hb10 K9
        go_wp2_with fail
        refine (sameInts_any _ _ 20 20 20 20 _ _ _ B10.out A10.out).mono ?_
        rintro e w11 ⟨rfl, hb11⟩
        rw [show decide (specL zs st' = specL zs st') = true from decide_eq_true rfl]
        have hall : Below w0.heap.size w0 w11 := hall10.out.trans (hb11.mono hall10.out.size)
        clear hb11
        go_wp2
        go_ret
        exact ⟨rfl, hall⟩
end
end Go.Proofs.YtenlapppaimkkabGreatDoor
