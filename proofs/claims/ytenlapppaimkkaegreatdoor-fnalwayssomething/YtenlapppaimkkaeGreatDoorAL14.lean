/- Texts joined: KnowM2, Cur, Str, Draw, PickI, Hold, Range3, ImplRows, SpecRows, WordsM, SpecHow, AllowM. -/
import Derived.Test.YtenlapppaimkkaeGreatDoorAL13
import Derived.WalkKit
import Derived.WalkSmall
import Derived.Test.YtenlapppaimkkaeGreatDoorRows
import Derived.ProofKit
import Derived.Test.YtenlapppaimkkaeGreatDoorAL01
import Derived.WalkSpells
import Derived.OpenShut
import Derived.Maps.OwnRows
import Derived.Maps.OwnSet
import Derived.Maps.RangeWalk
import Derived.Maps.Views
import Derived.Deep.RegionWith
import Derived.Deep.QuietTactic
import Derived.BigQuiet
/- Words that were read in the order in which they must be known: what is next, and what is told at the end (no program). -/
namespace Go.Proofs.YtenlapppaimkkaeGreatDoor
open Go.ChangeShapes Go.WideShapes Go.ChangeAt Go.RowKit

/-- Pairs of these places and what stands there. -/
def flatP (f : Int → Int) (ps : List Int) : List Int := ps.flatMap fun p => [p, f p]
theorem flatP_len (f : Int → Int) (ps : List Int) : (flatP f ps).length = ps.length * 2 := by
  induction ps with
  | nil => rfl
  | cons x t ih => simp only [flatP, List.flatMap_cons, List.length_append, List.length_cons, List.length_nil] at ih ⊢; omega
theorem flatP_snoc (f : Int → Int) (ps : List Int) (p : Int) : flatP f (ps ++ [p]) = flatP f ps ++ [p, f p] := by simp [flatP]
theorem readF_app (gs hs : List Int) (p : Int) : ∀ n, n * 2 ≤ gs.length → readF (gs ++ hs) p n = readF gs p n
  | 0, _ => rfl
  | n + 1, h => by
    have e0 : (gs ++ hs).getD (n * 2) 0 = gs.getD (n * 2) 0 := by simp [List.getD, List.getElem?_append_left (show n * 2 < gs.length by omega)]
    have e1 : (gs ++ hs).getD (n * 2 + 1) 0 = gs.getD (n * 2 + 1) 0 := by simp [List.getD, List.getElem?_append_left (show n * 2 + 1 < gs.length by omega)]
    unfold readF
    rw [e0, e1, readF_app gs hs p n (by omega)]
theorem read_last (f : Int → Int) (ps : List Int) (x p : Int) : readF (flatP f (ps ++ [x])) p (ps.length + 1) = if x = p then (f x, true) else readF (flatP f ps) p ps.length := by
  rw [flatP_snoc]
  have hl := flatP_len f ps
  have e0 : (flatP f ps ++ [x, f x]).getD (ps.length * 2) 0 = x := by simp [List.getD, ← hl]
  have e1 : (flatP f ps ++ [x, f x]).getD (ps.length * 2 + 1) 0 = f x := by simp [List.getD, ← hl]
  show (if _ = p then _ else _) = _
  rw [e0, e1, readF_app _ _ _ _ (by omega)]
theorem read_flat (f : Int → Int) (p : Int) (ps : List Int) : readF (flatP f ps) p ps.length = if p ∈ ps then (f p, true) else (0, false) := by
  have key : ∀ (m : Nat) (ps : List Int), ps.length = m → readF (flatP f ps) p ps.length = if p ∈ ps then (f p, true) else (0, false) := by
    intro m
    induction m with
    | zero => intro ps h; cases ps with
      | nil => rfl
      | cons x t => simp at h
    | succ m ih =>
      intro ps h
      obtain ⟨qs, x, rfl⟩ : ∃ qs x, ps = qs ++ [x] := ⟨ps.dropLast, ps.getLast (by intro e; rw [e] at h; simp at h), (List.dropLast_concat_getLast _).symm⟩
      have hq : qs.length = m := by simpa using h
      rw [show (qs ++ [x]).length = qs.length + 1 by simp, read_last, ih qs hq]
      by_cases hx : x = p
      · rw [if_pos hx, if_pos (by simp [hx]), hx]
      · rw [if_neg hx]
        have hm : (p ∈ qs ++ [x]) ↔ p ∈ qs := by simp; intro e; exact absurd e.symm hx
        by_cases hp : p ∈ qs
        · rw [if_pos hp, if_pos (hm.2 hp)]
        · rw [if_neg hp, if_neg (fun h => hp (hm.1 h))]
  exact key _ ps rfl
theorem agrees_flat (f : Int → Int) (ps : List Int) : Agrees f (flatP f ps) ps.length := ⟨fun p _ h => by
  rw [read_flat] at h ⊢
  by_cases hp : p ∈ ps
  · rw [if_pos hp]
  · rw [if_neg hp] at h; cases h⟩
theorem goR_flat (f : Int → Int) (ps : List Int) (p : Int) : (readF (flatP f ps) p ps.length).2 = decide (p ∈ ps) := by
  rw [read_flat]
  by_cases hp : p ∈ ps
  · rw [if_pos hp, decide_eq_true hp]
  · rw [if_neg hp, decide_eq_false hp]
/-- The first that is not among the first i: the next one. -/
theorem firstN_take : ∀ (L : List Int) (i : Nat), L.Nodup → firstN (fun p => decide (p ∈ L.take i)) L = L.getD i (-1) := by
  have key : ∀ (L A : List Int) (i : Nat), (A ++ L).Nodup → firstN (fun p => decide (p ∈ A ++ L.take i)) L = L.getD i (-1) := by
    intro L
    induction L with
    | nil => intro A i _; rfl
    | cons x t ih =>
      intro A i h
      cases i with
      | zero =>
        have hx : x ∉ A := fun hx => by
          have := (List.nodup_append.1 h).2.2 x hx x (by simp)
          exact this rfl
        show (if decide (x ∈ A ++ []) = true then _ else _) = _
        rw [if_neg (by simpa using hx)]; rfl
      | succ i =>
        show (if decide (x ∈ A ++ x :: t.take i) = true then _ else _) = _
        rw [if_pos (by simp)]
        have := ih (A ++ [x]) i (by simpa using h)
        simpa using this
  intro L i h
  simpa using key L [] i h

theorem need_ok {f : Int → Int} (hF : FOk f) {kind k v : Int} (hg : OpGood kind k v) : (needL f kind k v).Nodup ∧ (needL f kind k v).length ≤ 8 ∧ (∀ p ∈ needL f kind k v, 0 ≤ p ∧ p ≤ 19) ∧ 0 < (needL f kind k v).length := by
  obtain ⟨hk, hkk, hvv⟩ := hg
  unfold needL
  have hs := hF.state
  rcases kinds hk with rfl | rfl | rfl | rfl | rfl | rfl | rfl | rfl | rfl | rfl
  · have hk : 0 ≤ k ∧ k ≤ 3 := by unfold KeyGood at hkk; omega
    have hv : 1 ≤ v ∧ v ≤ 6 := by unfold ValGood at hvv; omega
    have c3 := class_pos hv
    rw [if_pos rfl, p1_pos hk, p2_pos hv, p3_pos c3, p5_pos hv]
    repeat' split
    all_goals refine ⟨by simp <;> omega, by simp, ?_, by simp⟩
    all_goals (intro p hp; simp at hp; omega)
  · have hk : 0 ≤ k ∧ k ≤ 3 := by unfold KeyGood at hkk; omega
    have hv : 1 ≤ v ∧ v ≤ 6 := by unfold ValGood at hvv; omega
    have c3 := class_pos hv
    have hrow := hF.row k hk.1 hk.2
    rw [if_neg (by decide), if_pos rfl]
    generalize f (placeN 1 k) = r at hrow ⊢
    rw [p1_pos hk]
    by_cases h0 : r = 0 ∨ r = v
    · rw [if_pos h0]; exact ⟨by simp, by simp, by intro p hp; simp at hp; omega, by simp⟩
    rw [if_neg h0]
    have hr : 1 ≤ r ∧ r ≤ 6 := by omega
    have c3' := class_pos hr
    rw [p2_pos hv, p2_pos hr, p3_pos c3, p3_pos c3', p5_pos hv, p5_pos hr]
    repeat' split
    all_goals refine ⟨by simp <;> omega, by simp, ?_, by simp⟩
    all_goals (intro p hp; simp at hp; omega)
  · have hk : 0 ≤ k ∧ k ≤ 3 := by unfold KeyGood at hkk; omega
    have hrow := hF.row k hk.1 hk.2
    rw [if_neg (by decide), if_neg (by decide), if_pos rfl]
    generalize f (placeN 1 k) = r at hrow ⊢
    rw [p1_pos hk]
    by_cases h0 : r = 0
    · rw [if_pos h0]; exact ⟨by simp, by simp, by intro p hp; simp at hp; omega, by simp⟩
    rw [if_neg h0]
    have hr : 1 ≤ r ∧ r ≤ 6 := by omega
    have c3' := class_pos hr
    rw [p2_pos hr, p3_pos c3', p5_pos hr]
    repeat' split
    all_goals refine ⟨by simp <;> omega, by simp, ?_, by simp⟩
    all_goals (intro p hp; simp at hp; omega)
  · have hk : 0 ≤ k ∧ k ≤ 3 := by unfold KeyGood at hkk; omega
    rw [if_neg (by decide), if_neg (by decide), if_neg (by decide), if_pos rfl, p1_pos hk]
    exact ⟨by simp, by simp, by intro p hp; simp at hp; omega, by simp⟩
  · have hv : 1 ≤ v ∧ v ≤ 6 := by unfold ValGood at hvv; omega
    rw [if_neg (by decide), if_neg (by decide), if_neg (by decide), if_neg (by decide), if_pos rfl, p2_pos hv]
    exact ⟨by simp, by simp, by intro p hp; simp at hp; omega, by simp⟩
  · have hk : 0 ≤ k ∧ k ≤ 2 := by unfold KeyGood at hkk; omega
    rw [if_neg (by decide), if_neg (by decide), if_neg (by decide), if_neg (by decide), if_neg (by decide), if_pos rfl, p3_pos hk]
    exact ⟨by simp, by simp, by intro p hp; simp at hp; omega, by simp⟩
  · rw [if_neg (by decide), if_neg (by decide), if_neg (by decide), if_neg (by decide), if_neg (by decide), if_neg (by decide), if_pos rfl, p1_pos (by omega), p1_pos (by omega), p1_pos (by omega), p1_pos (by omega)]
    exact ⟨by decide, by decide, by intro p hp; simp at hp; omega, by decide⟩
  · rw [if_neg (by decide), if_neg (by decide), if_neg (by decide), if_neg (by decide), if_neg (by decide), if_neg (by decide), if_neg (by decide), if_pos rfl]
    exact ⟨by decide, by decide, by intro p hp; simp at hp; omega, by decide⟩
  · rw [if_neg (by decide), if_neg (by decide), if_neg (by decide), if_neg (by decide), if_neg (by decide), if_neg (by decide), if_neg (by decide), if_neg (by decide), if_pos rfl]
    by_cases h1 : 1 ≤ f 13 ∧ f 13 ≤ 4
    · rw [if_pos h1]
      have hk : 0 ≤ f 13 - 1 ∧ f 13 - 1 ≤ 3 := by omega
      have hrow := hF.row (f 13 - 1) hk.1 hk.2
      generalize f (placeN 1 (f 13 - 1)) = r at hrow ⊢
      rw [p1_pos hk]
      by_cases h0 : r = 0
      · rw [if_pos h0]; exact ⟨by simp; omega, by simp, by intro p hp; simp at hp; omega, by simp⟩
      · rw [if_neg h0, p5_pos (by omega)]; exact ⟨by simp; omega, by simp, by intro p hp; simp at hp; omega, by simp⟩
    · rw [if_neg h1]; exact ⟨by simp, by simp, by intro p hp; simp at hp; omega, by simp⟩
  · have hv : 1 ≤ v ∧ v ≤ 6 := by unfold ValGood at hvv; omega
    rw [if_neg (by decide), if_neg (by decide), if_neg (by decide), if_neg (by decide), if_neg (by decide), if_neg (by decide), if_neg (by decide), if_neg (by decide), if_neg (by decide), p5_pos hv]
    repeat' split
    all_goals refine ⟨by simp; try omega, by simp, ?_, by simp⟩
    all_goals (intro p hp; simp at hp; omega)
/-- What is next when the first i of them were read. -/
theorem next_prefix {f : Int → Int} (hF : FOk f) {kind k v : Int} (hg : OpGood kind k v) (i : Nat) (hi : i ≤ (needL f kind k v).length) :
    nextM (flatP f ((needL f kind k v).take i)) i kind k v = (needL f kind k v).getD i (-1) := by
  have hl : ((needL f kind k v).take i).length = i := by rw [List.length_take]; omega
  have hA := agrees_flat f ((needL f kind k v).take i)
  have hs := hF.state
  have hw : (Lit.int .i64 (rd (flatP f ((needL f kind k v).take i)) i 13)).wf = true := by
    unfold rd
    rw [if_neg (by omega)]
    have e := read_flat f 13 ((needL f kind k v).take i)
    rw [hl] at e
    rw [e]
    split
    · exact WalkArith.wf_i64 (by show _ ≤ f 13 ∧ f 13 ≤ _; omega)
    · decide
  rw [next_words _ _ _ _ _ hw hg]
  rw [hl] at hA
  rw [first_need hA hF hg]
  have e : (fun p => (readF (flatP f ((needL f kind k v).take i)) p i).2) = fun p => decide (p ∈ (needL f kind k v).take i) := by
    funext p
    have h := goR_flat f ((needL f kind k v).take i) p
    rw [hl] at h
    exact h
  rw [e]
  exact firstN_take _ i (need_ok hF hg).1

/-- Place and what was read there, of what is told. -/
def keyE (x : Ent) : Int × Int := (x.1, x.2.1)
section
variable {f : Int → Int} {fs : List Int} {n : Nat}
/-- One word that was read is told, and is there. -/
theorem got_yes (hA : Agrees f fs n) {p : Int} (hp : 0 ≤ p) (hr : (readF fs p n).2 = true) {v : Int} {t : List Stp} {T : List (Int × Int)} (ht : ((wordsT true t).filter (goR fs n)).map keyE = T) :
    ((wordsT true (.tell p (rd fs n p) v :: t)).filter (goR fs n)).map keyE = (p, f p) :: T := by
  rw [show wordsT true (.tell p (rd fs n p) v :: t) = (p, rd fs n p, v) :: wordsT true t by rw [wordsT, if_pos hp], List.filter_cons_of_pos (by exact hr), List.map_cons, ht, hA.rd hp hr]; rfl
theorem got_no {p o v : Int} (hr : p < 0 ∨ (readF fs p n).2 = false) {t : List Stp} : ((wordsT true (.tell p o v :: t)).filter (goR fs n)).map keyE = ((wordsT true t).filter (goR fs n)).map keyE := by
  by_cases hp : 0 ≤ p
  · rw [show wordsT true (.tell p o v :: t) = (p, o, v) :: wordsT true t by rw [wordsT, if_pos hp], List.filter_cons_of_neg (by
      rcases hr with h | h
      · omega
      · show ¬ (readF fs p n).2 = true; rw [h]; simp)]
  · rw [show wordsT true (.tell p o v :: t) = wordsT true t by rw [wordsT, if_neg hp, if_pos rfl]]
theorem got_ask {b : Bool} (hb : b = true) {t : List Stp} {T : List (Int × Int)} (ht : ((wordsT true t).filter (goR fs n)).map keyE = T) : ((wordsT true (.ask b :: t)).filter (goR fs n)).map keyE = T := by
  rw [show wordsT true (.ask b :: t) = wordsT true t by rw [wordsT, if_pos hb]]; exact ht
theorem got_nil : ((wordsT true []).filter (goR fs n)).map keyE = [] := rfl
end
theorem ifL_nil {b : Bool} {x : Int × List Int} (h : ifL b x = []) : b = false := by
  cases b with
  | true => cases h
  | false => rfl
/-- What is told when all was read, and nothing comes at once: all that was read, as it was. -/
theorem got_all {f : Int → Int} (hF : FOk f) {kind k v : Int} (hg : OpGood kind k v) (hn : nowL (flatP f (needL f kind k v)) (needL f kind k v).length kind k v = []) :
    (gotL (flatP f (needL f kind k v)) (needL f kind k v).length kind k v).map keyE = (needL f kind k v).map fun p => (p, f p) := by
  have hA := agrees_flat f (needL f kind k v)
  have hm : ∀ p, (readF (flatP f (needL f kind k v)) p (needL f kind k v).length).2 = decide (p ∈ needL f kind k v) := goR_flat f (needL f kind k v)
  have hok := need_ok hF hg
  have hs := hF.state
  have q13 : (0 : Int) ≤ 13 := by omega
  unfold gotL
  generalize hL : needL f kind k v = L at hA hm hok hn ⊢
  generalize hfs : flatP f L = fs at hA hm hn ⊢
  generalize hnn : L.length = n at hA hm hok hn ⊢
  have yes : ∀ p, p ∈ L → (readF fs p n).2 = true := fun p hp => by rw [hm, decide_eq_true hp]
  have no : ∀ p, p ∉ L → (readF fs p n).2 = false := fun p hp => by rw [hm, decide_eq_false hp]
  obtain ⟨hk, hkk, hvv⟩ := hg
  clear hfs hnn
  rcases kinds hk with rfl | rfl | rfl | rfl | rfl | rfl | rfl | rfl | rfl | rfl
  · have hk : 0 ≤ k ∧ k ≤ 3 := by unfold KeyGood at hkk; omega
    have hv : 1 ≤ v ∧ v ≤ 6 := by unfold ValGood at hvv; omega
    have c3 := class_pos hv
    have e1 := p1_pos hk
    have e2 := p2_pos hv
    have e3 := p3_pos c3
    have e5 := p5_pos hv
    rw [nowL_1] at hn
    have n1 := ifL_nil (List.append_eq_nil_iff.1 hn).1
    have n2 := ifL_nil (List.append_eq_nil_iff.1 hn).2
    have i1 : placeN 1 k ∈ L := by rw [← hL]; unfold needL; rw [if_pos rfl]; simp
    have d1 := hA.rd (p := placeN 1 k) (by omega) (yes _ i1)
    have z1 : f (placeN 1 k) = 0 := by rw [d1] at n1; simpa using n1
    have hL1 : L = placeN 1 k :: placeN 2 v :: (if f (placeN 2 v) ≠ 0 then [] else placeN 3 (classN v) :: 13 :: (if k + 1 < f 13 then [placeN 5 v] else [])) := by rw [← hL]; unfold needL; rw [if_pos rfl, if_neg (by omega)]
    have i2 : placeN 2 v ∈ L := by rw [hL1]; simp
    have d2 := hA.rd (p := placeN 2 v) (by omega) (yes _ i2)
    have z2 : f (placeN 2 v) = 0 := by rw [d2] at n2; simpa using n2
    rw [if_neg (by omega)] at hL1
    have i3 : placeN 3 (classN v) ∈ L := by rw [hL1]; simp
    have i4 : (13 : Int) ∈ L := by rw [hL1]; simp
    show ((wordsT true (putS true fs n k v)).filter (goR fs n)).map keyE = _
    unfold putS
    by_cases h5 : k + 1 < f 13
    · rw [if_pos h5] at hL1
      have i5 : placeN 5 v ∈ L := by rw [hL1]; simp
      rw [hL1]
      exact got_yes hA (by omega) (yes _ i1) (got_ask (decide_eq_true (by rw [d1]; exact z1)) (got_yes hA (by omega) (yes _ i2) (got_ask (decide_eq_true (by rw [d2]; exact z2)) (got_yes hA (by omega) (yes _ i3) (got_yes hA q13 (yes _ i4) (got_ask rfl (got_yes hA (by omega) (yes _ i5) got_nil)))))))
    · rw [if_neg h5] at hL1
      have i5 : placeN 5 v ∉ L := by rw [hL1, e1, e2, e3, e5]; simp; omega
      rw [hL1]
      exact got_yes hA (by omega) (yes _ i1) (got_ask (decide_eq_true (by rw [d1]; exact z1)) (got_yes hA (by omega) (yes _ i2) (got_ask (decide_eq_true (by rw [d2]; exact z2)) (got_yes hA (by omega) (yes _ i3) (got_yes hA q13 (yes _ i4) (got_ask rfl (got_no (.inr (no _ i5)))))))))
  · have hk : 0 ≤ k ∧ k ≤ 3 := by unfold KeyGood at hkk; omega
    have hv : 1 ≤ v ∧ v ≤ 6 := by unfold ValGood at hvv; omega
    have c3 := class_pos hv
    have e1 := p1_pos hk
    have e2 := p2_pos hv
    have e3 := p3_pos c3
    have e5 := p5_pos hv
    rw [nowL_2] at hn
    have n0 := ifL_nil (List.append_eq_nil_iff.1 (List.append_eq_nil_iff.1 hn).1).1
    have n1 := ifL_nil (List.append_eq_nil_iff.1 (List.append_eq_nil_iff.1 hn).1).2
    have n2 := ifL_nil (List.append_eq_nil_iff.1 hn).2
    have i1 : placeN 1 k ∈ L := by rw [← hL]; unfold needL; rw [if_neg (by decide), if_pos rfl]; simp
    have d1 := hA.rd (p := placeN 1 k) (by omega) (yes _ i1)
    have hrow := hF.row k hk.1 hk.2
    rw [d1] at n0 n1
    have hL1 : L = placeN 1 k :: (if f (placeN 1 k) = 0 ∨ f (placeN 1 k) = v then [] else placeN 2 v :: (if f (placeN 2 v) ≠ 0 then [] else placeN 2 (f (placeN 1 k)) :: ((if classN (f (placeN 1 k)) = classN v then [] else [placeN 3 (classN (f (placeN 1 k))), placeN 3 (classN v)]) ++ 13 :: (if k + 1 < f 13 then [placeN 5 (f (placeN 1 k)), placeN 5 v] else [])))) := by rw [← hL]; unfold needL; rw [if_neg (by decide), if_pos rfl]
    show ((wordsT true (setS true fs n k v)).filter (goR fs n)).map keyE = _
    unfold setS
    rw [d1]
    have k1 : ∀ t T, ((wordsT true t).filter (goR fs n)).map keyE = T → ((wordsT true (becS fs n (placeN 1 k) v :: t)).filter (goR fs n)).map keyE = (placeN 1 k, f (placeN 1 k)) :: T := fun t T h => got_yes hA (by omega) (yes _ i1) h
    generalize hr : f (placeN 1 k) = r at n0 n1 hrow hL1 k1 ⊢
    have z0 : ¬ r = 0 := by simpa using n0
    have z1 : ¬ r = v := by simpa using n1
    rw [if_neg (by omega)] at hL1
    have i2 : placeN 2 v ∈ L := by rw [hL1]; simp
    have d2 := hA.rd (p := placeN 2 v) (by omega) (yes _ i2)
    have z2 : f (placeN 2 v) = 0 := by rw [d2] at n2; simpa using n2
    rw [if_neg (by omega)] at hL1
    have hr6 : 1 ≤ r ∧ r ≤ 6 := by omega
    have c3' := class_pos hr6
    have e2' := p2_pos hr6
    have e3' := p3_pos c3'
    have e5' := p5_pos hr6
    have i3 : placeN 2 r ∈ L := by rw [hL1]; simp
    have i4 : (13 : Int) ∈ L := by rw [hL1]; simp
    have tl : ((wordsT true [stayS fs n 13, .ask (true || decide (k + 1 < rd fs n 13)), becS fs n (placeN 5 r) 0, becS fs n (placeN 5 v) (k + 1)]).filter (goR fs n)).map keyE = (13 :: (if k + 1 < f 13 then [placeN 5 r, placeN 5 v] else [])).map fun p => (p, f p) := by
      by_cases h5 : k + 1 < f 13
      · rw [if_pos h5] at hL1 ⊢
        have j1 : placeN 5 r ∈ L := by rw [hL1]; simp
        have j2 : placeN 5 v ∈ L := by rw [hL1]; simp
        exact got_yes hA q13 (yes _ i4) (got_ask rfl (got_yes hA (by omega) (yes _ j1) (got_yes hA (by omega) (yes _ j2) got_nil)))
      · rw [if_neg h5] at hL1 ⊢
        have j1 : placeN 5 r ∉ L := by
          rw [hL1, e1, e2, e2', e3, e3', e5']
          split <;> simp <;> omega
        have j2 : placeN 5 v ∉ L := by
          rw [hL1, e1, e2, e2', e3, e3', e5]
          split <;> simp <;> omega
        exact got_yes hA q13 (yes _ i4) (got_ask rfl ((got_no (.inr (no _ j1))).trans (got_no (.inr (no _ j2)))))
    unfold moveS
    dsimp only
    by_cases hc : classN r = classN v
    · rw [if_pos hc]
      rw [if_pos hc] at hL1
      rw [hL1, List.map_cons, hr]
      exact k1 _ _ (got_ask (by simpa using z0) (got_ask (by simpa using z1) (got_yes hA (by omega) (yes _ i2) (got_ask (decide_eq_true (by rw [d2]; exact z2)) (got_yes hA (by omega) (yes _ i3) tl)))))
    · rw [if_neg hc]
      rw [if_neg hc] at hL1
      have j3 : placeN 3 (classN r) ∈ L := by rw [hL1]; simp
      have j4 : placeN 3 (classN v) ∈ L := by rw [hL1]; simp
      rw [hL1, List.map_cons, hr]
      exact k1 _ _ (got_ask (by simpa using z0) (got_ask (by simpa using z1) (got_yes hA (by omega) (yes _ i2) (got_ask (decide_eq_true (by rw [d2]; exact z2)) (got_yes hA (by omega) (yes _ i3) (got_yes hA (by omega) (yes _ j3) (got_yes hA (by omega) (yes _ j4) tl)))))))
  · have hk : 0 ≤ k ∧ k ≤ 3 := by unfold KeyGood at hkk; omega
    have e1 := p1_pos hk
    rw [nowL_3] at hn
    have n0 := ifL_nil hn
    have i1 : placeN 1 k ∈ L := by rw [← hL]; unfold needL; rw [if_neg (by decide), if_neg (by decide), if_pos rfl]; simp
    have d1 := hA.rd (p := placeN 1 k) (by omega) (yes _ i1)
    have hrow := hF.row k hk.1 hk.2
    rw [d1] at n0
    have hL1 : L = placeN 1 k :: (if f (placeN 1 k) = 0 then [] else placeN 2 (f (placeN 1 k)) :: placeN 3 (classN (f (placeN 1 k))) :: 13 :: (if k + 1 < f 13 then [placeN 5 (f (placeN 1 k))] else [])) := by rw [← hL]; unfold needL; rw [if_neg (by decide), if_neg (by decide), if_pos rfl]
    show ((wordsT true (delS true fs n k)).filter (goR fs n)).map keyE = _
    unfold delS
    rw [d1]
    have k1 : ∀ t T, ((wordsT true t).filter (goR fs n)).map keyE = T → ((wordsT true (becS fs n (placeN 1 k) 0 :: t)).filter (goR fs n)).map keyE = (placeN 1 k, f (placeN 1 k)) :: T := fun t T h => got_yes hA (by omega) (yes _ i1) h
    generalize hr : f (placeN 1 k) = r at n0 hrow hL1 k1 ⊢
    have z0 : ¬ r = 0 := by simpa using n0
    rw [if_neg z0] at hL1
    have hr6 : 1 ≤ r ∧ r ≤ 6 := by omega
    have c3' := class_pos hr6
    have e2' := p2_pos hr6
    have e3' := p3_pos c3'
    have e5' := p5_pos hr6
    have i2 : placeN 2 r ∈ L := by rw [hL1]; simp
    have i3 : placeN 3 (classN r) ∈ L := by rw [hL1]; simp
    have i4 : (13 : Int) ∈ L := by rw [hL1]; simp
    by_cases h5 : k + 1 < f 13
    · rw [if_pos h5] at hL1
      have j1 : placeN 5 r ∈ L := by rw [hL1]; simp
      rw [hL1, List.map_cons, hr]
      exact k1 _ _ (got_yes hA (by omega) (yes _ i2) (got_yes hA (by omega) (yes _ i3) (got_yes hA q13 (yes _ i4) (got_ask rfl (got_yes hA (by omega) (yes _ j1) got_nil)))))
    · rw [if_neg h5] at hL1
      have j1 : placeN 5 r ∉ L := by rw [hL1, e1, e2', e3', e5']; simp; omega
      rw [hL1, List.map_cons, hr]
      exact k1 _ _ (got_yes hA (by omega) (yes _ i2) (got_yes hA (by omega) (yes _ i3) (got_yes hA q13 (yes _ i4) (got_ask rfl (got_no (.inr (no _ j1)))))))
  · exact absurd hn (now_some fs n 4 k v (by omega))
  · exact absurd hn (now_some fs n 5 k v (by omega))
  · exact absurd hn (now_some fs n 6 k v (by omega))
  · have z0 : placeN 1 0 = 0 := p1_pos (by omega)
    have z1 : placeN 1 1 = 1 := p1_pos (by omega)
    have z2 : placeN 1 2 = 2 := p1_pos (by omega)
    have z3 : placeN 1 3 = 3 := p1_pos (by omega)
    have hL1 : L = [placeN 1 0, placeN 1 1, placeN 1 2, placeN 1 3] := by rw [← hL]; unfold needL; rw [if_neg (by decide), if_neg (by decide), if_neg (by decide), if_neg (by decide), if_neg (by decide), if_neg (by decide), if_pos rfl]
    have i0 : placeN 1 0 ∈ L := by rw [hL1]; simp
    have i1 : placeN 1 1 ∈ L := by rw [hL1]; simp
    have i2 : placeN 1 2 ∈ L := by rw [hL1]; simp
    have i3 : placeN 1 3 ∈ L := by rw [hL1]; simp
    rw [hL1]
    exact got_yes hA (by omega) (yes _ i0) (got_yes hA (by omega) (yes _ i1) (got_yes hA (by omega) (yes _ i2) (got_yes hA (by omega) (yes _ i3) got_nil)))
  · have hL1 : L = [13] := by rw [← hL]; unfold needL; rw [if_neg (by decide), if_neg (by decide), if_neg (by decide), if_neg (by decide), if_neg (by decide), if_neg (by decide), if_neg (by decide), if_pos rfl]
    have i0 : (13 : Int) ∈ L := by rw [hL1]; simp
    rw [hL1]
    exact got_yes hA q13 (yes _ i0) got_nil
  · have hL1 : L = 13 :: (if 1 ≤ f 13 ∧ f 13 ≤ 4 then placeN 1 (f 13 - 1) :: (if f (placeN 1 (f 13 - 1)) = 0 then [] else [placeN 5 (f (placeN 1 (f 13 - 1)))]) else []) := by rw [← hL]; unfold needL; rw [if_neg (by decide), if_neg (by decide), if_neg (by decide), if_neg (by decide), if_neg (by decide), if_neg (by decide), if_neg (by decide), if_neg (by decide), if_pos rfl]
    have i0 : (13 : Int) ∈ L := by rw [hL1]; simp
    have d0 := hA.rd (p := 13) q13 (yes _ i0)
    rw [nowL_9] at hn
    have n0 := ifL_nil hn
    rw [d0] at n0
    simp only [Bool.or_eq_false_iff, beq_eq_false_iff_ne, ne_eq, decide_eq_false_iff_not] at n0
    have hst : 1 ≤ f 13 ∧ f 13 ≤ 4 := by omega
    rw [if_pos hst] at hL1
    have hk : 0 ≤ f 13 - 1 ∧ f 13 - 1 ≤ 3 := by omega
    have e1 := p1_pos hk
    have hrow := hF.row (f 13 - 1) hk.1 hk.2
    have i1 : placeN 1 (f 13 - 1) ∈ L := by rw [hL1]; simp
    have d1 := hA.rd (p := placeN 1 (f 13 - 1)) (by omega) (yes _ i1)
    show ((wordsT true (makeS fs n)).filter (goR fs n)).map keyE = _
    unfold makeS
    rw [show wrap64 (rd fs n 13 - 1) = f 13 - 1 by rw [d0]; unfold wrap64; omega]
    dsimp only
    rw [d1]
    by_cases h0 : f (placeN 1 (f 13 - 1)) = 0
    · rw [if_pos h0] at hL1
      rw [hL1, h0]
      exact got_yes hA q13 (yes _ i0) (got_yes hA (by omega) (yes _ i1) (got_no (.inl (by decide))))
    · rw [if_neg h0] at hL1
      have i2 : placeN 5 (f (placeN 1 (f 13 - 1))) ∈ L := by rw [hL1]; simp
      have e5 := p5_pos (show 1 ≤ f (placeN 1 (f 13 - 1)) ∧ f (placeN 1 (f 13 - 1)) ≤ 6 by omega)
      rw [hL1]
      exact got_yes hA q13 (yes _ i0) (got_yes hA (by omega) (yes _ i1) (got_yes hA (by omega) (yes _ i2) got_nil))
  · have hv : 1 ≤ v ∧ v ≤ 6 := by unfold ValGood at hvv; omega
    have e5 := p5_pos hv
    have hL1 : L = 13 :: (if f 13 ≠ 5 then [] else [placeN 5 v]) := by rw [← hL]; unfold needL; rw [if_neg (by decide), if_neg (by decide), if_neg (by decide), if_neg (by decide), if_neg (by decide), if_neg (by decide), if_neg (by decide), if_neg (by decide), if_neg (by decide)]
    have i0 : (13 : Int) ∈ L := by rw [hL1]; simp
    have d0 := hA.rd (p := 13) q13 (yes _ i0)
    rw [nowL_10] at hn
    have n0 := ifL_nil hn
    rw [d0] at n0
    have z0 : f 13 = 5 := by simpa using n0
    rw [if_neg (by omega)] at hL1
    have i1 : placeN 5 v ∈ L := by rw [hL1]; simp
    rw [hL1]
    show ((wordsT true (viaS fs n v)).filter (goR fs n)).map keyE = _
    unfold viaS
    exact got_yes hA q13 (yes _ i0) (got_ask (decide_eq_true (by rw [d0]; exact z0)) (got_yes hA (by omega) (yes _ i1) got_nil))
end Go.Proofs.YtenlapppaimkkaeGreatDoor

/- Small facts on a cursor in memory and on worlds that differ in one block, of no program. -/
namespace Go.Proofs.YtenlapppaimkkaeGreatDoor
open Go.RowKit

theorem and255 (x : Int) : bits .and .i64 x 255 = x % 256 := by
  have e : ((BitVec.ofInt 64 x) &&& (BitVec.ofInt 64 255)).toNat = (x % 256).toNat := by
    rw [BitVec.toNat_and, BitVec.toNat_ofInt, BitVec.toNat_ofInt, show ((255 : Int) % ((2 ^ 64 : Nat) : Int)).toNat = 2 ^ 8 - 1 by decide, Nat.and_two_pow_sub_one_eq_mod]
    omega
  show IntKind.i64.wrap (((BitVec.ofInt 64 x) &&& (BitVec.ofInt 64 255)).toNat : Int) = _
  rw [e, IntKind.wrap_i64]
  omega

/-- The two worlds differ in block p alone. -/
structure Only (p : Nat) (w w' : World) : Prop where
  os : w'.os = w.os
  tape : w'.tape = w.tape
  output : w'.output = w.output
  size : w'.heap.size = w.heap.size
  block : ∀ k, k ≠ p → w'.heap[k]? = w.heap[k]?
theorem Only.refl (p : Nat) (w : World) : Only p w w := ⟨rfl, rfl, rfl, rfl, fun _ _ => rfl⟩
theorem Only.trans {p : Nat} {a b c : World} (h : Only p a b) (k : Only p b c) : Only p a c :=
  ⟨k.os.trans h.os, k.tape.trans h.tape, k.output.trans h.output, k.size.trans h.size, fun i hi => (k.block i hi).trans (h.block i hi)⟩
theorem Only.drew {p : Nat} {a b : World} (h : Only p a b) : Only p a b.drew := ⟨h.os, h.tape, h.output, h.size, h.block⟩
theorem Only.setCell {p : Nat} {a b : World} (h : Only p a b) (o : Nat) (v : Value) : Only p a (b.setCell ⟨p, o, none⟩ v) :=
  h.trans ⟨rfl, rfl, rfl, by simp [World.setCell], fun k hk => Below.heap_setCell _ _ _ _ hk⟩
theorem Only.below {p : Nat} {w w' : World} (h : Only p w w') {B : Nat} (hB : B ≤ p) : Below B w w' :=
  ⟨h.os, h.tape, h.output, Nat.le_of_eq h.size.symm, fun k hk => h.block k (by omega)⟩
theorem Only.owns {p : Nat} {w w' : World} (h : Only p w w') {base : Nat} {e : TypeId} {size : Nat} {v : Value} {n : Nat} {xs : List Value} (ho : w.ownsRow base e size v n xs) (hp : p < base) : w'.ownsRow base e size v n xs := by
  obtain ⟨h1, h2 | ⟨g, cap, cur, h3, h4, h5, h6⟩⟩ := ho
  · exact ⟨h1, .inl h2⟩
  · exact ⟨h1, .inr ⟨g, cap, cur, h3, h4, by rw [h.block g (by omega)]; exact h5, h6⟩⟩

/-- The slice of address a and length n holds bytes, below block p. -/
def BytesAt (w : World) (p : Nat) (a : Option Addr) (n : Nat) : Prop :=
  n = 0 ∨ ∃ b o, a = some ⟨b, o, none⟩ ∧ b < p ∧ ∀ j, j < n → ∃ z : Nat, z ≤ 255 ∧ w.cell? ⟨b, o + j, none⟩ = some (.int .u8 (z : Int))
theorem BytesAt.keep {w w' : World} {p : Nat} {a : Option Addr} {n : Nat} (h : BytesAt w p a n) (hb : ∀ k, k < p → w'.heap[k]? = w.heap[k]?) : BytesAt w' p a n := by
  rcases h with h | ⟨b, o, h1, h2, h3⟩
  · exact .inl h
  · refine .inr ⟨b, o, h1, h2, fun j hj => ?_⟩
    obtain ⟨z, h4, h5⟩ := h3 j hj
    exact ⟨z, h4, by rw [World.cell?_of_block (w := w) (hb b h2)]; exact h5⟩
theorem BytesAt.mono {w : World} {p q : Nat} {a : Option Addr} {n : Nat} (h : BytesAt w p a n) (hq : p ≤ q) : BytesAt w q a n := by
  rcases h with h | ⟨b, o, h1, h2, h3⟩
  · exact .inl h
  · exact .inr ⟨b, o, h1, by omega, h3⟩

/-- Block p is a cursor over the bytes at a, at place i, its mixed number h. -/
def CurIs (T : TypeId) (w : World) (p : Nat) (a : Option Addr) (n c : Nat) (i h : Int) : Prop :=
  w.heap[p]? = some (.cells #[.slice a n c, .int .i64 i, .int .i64 h] T (0, 0))
/-- Block p is a cursor over the bytes at a. -/
def Cur (T : TypeId) (w : World) (p : Nat) (a : Option Addr) (n c : Nat) : Prop :=
  (∃ i h : Int, CurIs T w p a n c i h ∧ 0 ≤ i ∧ i ≤ n) ∧ BytesAt w p a n ∧ n ≤ 1048576
theorem Cur.keep {T : TypeId} {w w' : World} {p : Nat} {a : Option Addr} {n c : Nat} (h : Cur T w p a n c) (hb : ∀ k, k ≤ p → w'.heap[k]? = w.heap[k]?) : Cur T w' p a n c := by
  obtain ⟨⟨i, x, h1, h2⟩, h3, h4⟩ := h
  exact ⟨⟨i, x, by unfold CurIs; rw [hb p (Nat.le_refl _)]; exact h1, h2⟩, h3.keep (fun k hk => hb k (by omega)), h4⟩
theorem Cur.lt {T : TypeId} {w : World} {p : Nat} {a : Option Addr} {n c : Nat} (h : Cur T w p a n c) : p < w.heap.size := by
  obtain ⟨⟨i, x, h1, h2⟩, h3, h4⟩ := h
  exact (Array.getElem?_eq_some_iff.1 h1).1
theorem CurIs.cell {T : TypeId} {w : World} {p : Nat} {a : Option Addr} {n c : Nat} {i x : Int} (h : CurIs T w p a n c i x) :
    w.cell? ⟨p, 0, none⟩ = some (.slice a n c) ∧ w.cell? ⟨p, 1, none⟩ = some (.int .i64 i) ∧ w.cell? ⟨p, 2, none⟩ = some (.int .i64 x) := by
  unfold CurIs at h
  simp [World.cell?, h]
theorem CurIs.frozen {T : TypeId} {w : World} {p : Nat} {a : Option Addr} {n c : Nat} {i x : Int} (h : CurIs T w p a n c i x) (j : Nat) : w.frozen? ⟨p, j, none⟩ = false := by
  unfold CurIs at h
  simp [World.frozen?, h]
theorem CurIs.set1 {T : TypeId} {w : World} {p : Nat} {a : Option Addr} {n c : Nat} {i x : Int} (h : CurIs T w p a n c i x) (i' : Int) : CurIs T (w.setCell ⟨p, 1, none⟩ (.int .i64 i')) p a n c i' x := by
  unfold CurIs at h ⊢
  obtain ⟨hlt, h'⟩ := Array.getElem?_eq_some_iff.1 h
  show (w.heap.modify p _)[p]? = _
  rw [Array.getElem?_eq_getElem (by simpa using hlt), Array.getElem_modify_self, h']
  rfl
theorem CurIs.set2 {T : TypeId} {w : World} {p : Nat} {a : Option Addr} {n c : Nat} {i x : Int} (h : CurIs T w p a n c i x) (x' : Int) : CurIs T (w.setCell ⟨p, 2, none⟩ (.int .i64 x')) p a n c i x' := by
  unfold CurIs at h ⊢
  obtain ⟨hlt, h'⟩ := Array.getElem?_eq_some_iff.1 h
  show (w.heap.modify p _)[p]? = _
  rw [Array.getElem?_eq_getElem (by simpa using hlt), Array.getElem_modify_self, h']
  rfl
theorem CurIs.drew {T : TypeId} {w : World} {p : Nat} {a : Option Addr} {n c : Nat} {i x : Int} (h : CurIs T w p a n c i x) : CurIs T w.drew p a n c i x := h

theorem byte_fin {C D : Prop} (V : Int) (hC : C) (hD : D) : ∃ x : Nat, x ≤ 255 ∧ Ending.returned (.int .i64 (V % 256)) = .returned (.int .i64 (x : Int)) ∧ C ∧ D :=
  ⟨(V % 256).toNat, by omega, by rw [show (((V % 256).toNat : Nat) : Int) = V % 256 by omega], hC, hD⟩
theorem cur_of {T : TypeId} {w w' : World} {p : Nat} {a : Option Addr} {n c : Nat} {i x : Int} (hO : Only p w w') (hB : BytesAt w p a n) (hI : CurIs T w' p a n c i x) (h0 : 0 ≤ i) (h1 : i ≤ n) (hn : n ≤ 1048576) : Cur T w' p a n c :=
  ⟨⟨i, x, hI, h0, h1⟩, hB.keep (fun k hk => hO.block k (by omega)), hn⟩
theorem below_fin {C D : Prop} {x : Nat} {m : Int} (h0 : 1 ≤ m) (hC : C) (hD : D) : ∃ y : Nat, (y : Int) < m ∧ Ending.returned (.int .i64 ((x : Int) % m)) = .returned (.int .i64 (y : Int)) ∧ C ∧ D := by
  obtain ⟨q, rfl⟩ : ∃ q : Nat, m = (q : Int) := ⟨m.toNat, by omega⟩
  have := Nat.mod_lt x (show 0 < q by omega)
  exact ⟨x % q, by omega, by rw [Int.natCast_emod], hC, hD⟩
theorem cur_new {T : TypeId} {w : World} {a : Option Addr} {n c : Nat} {x : Int} (hB : BytesAt w w.heap.size a n) (hn : n ≤ 1048576) : Cur T (w.alloc (.cells #[.slice a n c, .int .i64 0, .int .i64 x] T)) w.heap.size a n c :=
  ⟨⟨0, x, heap_alloc_new w _, by omega, by omega⟩, hB.keep (fun k hk => Below.heap_alloc _ _ _ hk), hn⟩
theorem Only.cell {p : Nat} {w w' : World} (h : Only p w w') {g o : Nat} (hg : g ≠ p) : w'.cell? ⟨g, o, none⟩ = w.cell? ⟨g, o, none⟩ := World.cell?_of_block (w := w) (h.block g hg)
end Go.Proofs.YtenlapppaimkkaeGreatDoor

/- Plain facts on texts as values, of no program. -/
namespace Go.Proofs.YtenlapppaimkkaeGreatDoor

theorem str_eq {a b : ByteArray} (h : a.data.toList = b.data.toList) : a = b := by
  cases a; cases b; simp_all
theorem ret_str {a b : ByteArray} (h : a.data.toList = b.data.toList) : Ending.returned (.string a) = .returned (.string b) := by rw [str_eq h]
/-- A text as a value. -/
abbrev S (l : List UInt8) : Value := .string ⟨l.toArray⟩
theorem str_S (s : ByteArray) : Value.string s = S s.data.toList := by cases s; simp
theorem neq_S (a b : List UInt8) : (!(⟨a.toArray⟩ : ByteArray).toList == (⟨b.toArray⟩ : ByteArray).toList) = decide (a ≠ b) := by
  simp only [ByteArray.toList_eq]
  by_cases h : a = b <;> simp [h]
end Go.Proofs.YtenlapppaimkkaeGreatDoor

/- The drawing of inputs, walked: the cursor's functions hand back numbers within their bounds and turn the cursor alone. -/
namespace Go.Proofs.YtenlapppaimkkaeGreatDoor
open Go.ChangeShapes Go.WideShapes Go.ChangeAt Go.RowKit

set_option maxHeartbeats 1000000 in
theorem l1Byte_any (p : Nat) (a : Option Addr) (n c : Nat) (w : World) (hC : Cur 82 w p a n c) :
    Calls Tryz.prog 76 #[.pointer (some ⟨p, 0, none⟩)] w fun e w' => ∃ x : Nat, x ≤ 255 ∧ e = .returned (.int .i64 (x : Int)) ∧ Cur 82 w' p a n c ∧ Only p w w' := by
  obtain ⟨⟨i, h, hI, hi0, hi1⟩, hB, hn⟩ := hC
  obtain ⟨j, rfl⟩ : ∃ j : Nat, i = (j : Int) := ⟨i.toNat, by omega⟩
  obtain ⟨c0, c1, c2⟩ := hI.cell
  have f1 := hI.frozen 1
  have f2 := hI.frozen 2
  have HI : Hid (CurIs 82 w p a n c j h) := hI
  have HB : Hid (BytesAt w p a n) := hB
  have hand := and255
  clear hI hB
  by_cases hlt : j < n
  · rcases HB.out with h0 | ⟨b, o, rfl, hbp, hby⟩
    · omega
    obtain ⟨z, hz, e1⟩ := hby j hlt
    clear hby
    go_enter Tryz.func76, Tryz.ntmps76
    go_wp2
    go_region
    go_wp2
    go_region
    go_wp2
    go_region
    go_wp2
    go_ret
    have hO : Only p w (((w.setCell ⟨p, 2, none⟩ (.int .i64 (wrap64 (wrap64 (h * 6364136223846793005) + 1442695040888963407)))).setCell ⟨p, 1, none⟩ (.int .i64 ((j : Int) + 1))).drew.drew.drew) := (((Only.refl p w).setCell 2 _).setCell 1 _).drew.drew.drew
    exact byte_fin _ (cur_of hO HB.out ((HI.out.set2 _).set1 _) (by omega) (by omega) hn) hO
  · go_enter Tryz.func76, Tryz.ntmps76
    go_wp2
    go_region
    go_wp2
    go_region
    go_wp2
    go_ret
    have hO : Only p w ((w.setCell ⟨p, 2, none⟩ (.int .i64 (wrap64 (wrap64 (h * 6364136223846793005) + 1442695040888963407)))).drew.drew) := ((Only.refl p w).setCell 2 _).drew.drew
    exact byte_fin _ (cur_of hO HB.out (HI.out.set2 _) hi0 hi1 hn) hO

set_option maxHeartbeats 1000000 in
theorem l1Below_any (p : Nat) (a : Option Addr) (n c : Nat) (m : Int) (h0 : 1 ≤ m) (hm : m ≤ 256) (w : World) (hC : Cur 82 w p a n c) :
    Calls Tryz.prog 43 #[.pointer (some ⟨p, 0, none⟩), .int .i64 m] w fun e w' => ∃ x : Nat, (x : Int) < m ∧ e = .returned (.int .i64 (x : Int)) ∧ Cur 82 w' p a n c ∧ Only p w w' := by
  go_enter Tryz.func43, Tryz.ntmps43
  go_wp2_with (go_at_call 76; refine (l1Byte_any p a n c _ hC).mono ?_; rintro e w1 ⟨x, hx, rfl, hC1, hO1⟩)
  go_ret
  exact below_fin h0 hC1 hO1

set_option maxRecDepth 100000 in
set_option maxHeartbeats 1000000 in
theorem l1New_any (a : Option Addr) (n c : Nat) (w : World) (hn : n ≤ 1048576) (hB : BytesAt w w.heap.size a n) :
    Calls Tryz.prog 12 #[.slice a n c] w fun e w' => e = .returned (.pointer (some ⟨w.heap.size, 0, none⟩)) ∧ Cur 82 w' w.heap.size a n c ∧ Below w.heap.size w w' ∧ w'.heap.size = w.heap.size + 1 := by
  have HB : Hid (BytesAt w w.heap.size a n) := hB
  clear hB
  go_enter Tryz.func12, Tryz.ntmps12
  go_wp2
  go_loop [3, 4] (fun h i => ∃ (x : Int) (k : Nat), h = .int .i64 x ∧ i = .int .i64 (k : Int) ∧ k ≤ n) (fun _ i => n - (intOf i).toNat)
  case atStart => exact ⟨_, 0, rfl, rfl, Nat.zero_le _⟩
  case round =>
    obtain ⟨x, k, rfl, rfl, hk⟩ := hrel
    by_cases hlt : k < n
    · rcases HB.out with h0 | ⟨b, o, rfl, hbp, hby⟩
      · omega
      obtain ⟨z, hz, e1⟩ := hby k hlt
      clear hby
      by_cases h4 : k < 4000
      · go_wp2
        go_round
        case rel => exact ⟨_, k + 1, rfl, by go_num, by omega⟩
        case measure => simp [intOf]; omega
      · go_wp2
        go_ret
        exact ⟨rfl, cur_new HB.out hn, (Below.refl _ _).alloc (Nat.le_refl _) _, by simp⟩
    · go_wp2
      go_ret
      exact ⟨rfl, cur_new HB.out hn, (Below.refl _ _).alloc (Nat.le_refl _) _, by simp⟩

end Go.Proofs.YtenlapppaimkkaeGreatDoor

/- The picks from drawn lists of numbers, walked. -/
namespace Go.Proofs.YtenlapppaimkkaeGreatDoor
open Go.ChangeShapes Go.WideShapes Go.ChangeAt Go.RowKit

set_option maxHeartbeats 1000000 in
theorem l1PickInt_any (p : Nat) (a : Option Addr) (n c g q d : Nat) (xs : List Int) (h0 : 1 ≤ q) (hq : q ≤ 256) (w : World) (hC : Cur 82 w p a n c) (hg : g ≠ p)
    (hx : ∀ i, i < q → w.cell? ⟨g, i, none⟩ = some (.int .i64 (xs.getD i 0))) :
    Calls Tryz.prog 45 #[.pointer (some ⟨p, 0, none⟩), .slice (some ⟨g, 0, none⟩) q d] w fun e w' => ∃ x : Nat, x < q ∧ e = .returned (.int .i64 (xs.getD x 0)) ∧ Cur 82 w' p a n c ∧ Only p w w' := by
  have HX : Hid (∀ i, i < q → w.cell? ⟨g, i, none⟩ = some (.int .i64 (xs.getD i 0))) := hx
  clear hx
  go_enter Tryz.func45, Tryz.ntmps45
  go_wp2_with (go_at_call 43; refine (l1Below_any p a n c _ (by omega) (by omega) _ hC).mono ?_; rintro e w1 ⟨x, hx, rfl, hC1, hO1⟩; have hlt : x < q := (by omega); have e1 := (hO1.cell (o := x) hg).trans (HX.out x hlt))
  go_ret
  exact ⟨x, hlt, rfl, hC1, hO1⟩
end Go.Proofs.YtenlapppaimkkaeGreatDoor

/- impl.holdersOf, walked at four numbers: a new map of its own that has, at each number but nought that is held, the keys that hold it, rising. -/
namespace Go.Proofs.YtenlapppaimkkaeGreatDoor
open Go.ChangeShapes Go.WideShapes Go.ChangeAt Go.RowKit Go.Maps

theorem mapLaw : Keyed Tryz.prog 3 := int_keyed Tryz.underlying3
theorem zeroInts (w : World) : (zeroValue 24).run Tryz.prog w = .ok (.slice none 0 0) w := by kernel_rfl

/-- Which of the first k places hold x. -/
def posK (xs : List Int) (k : Nat) (x : Int) : List Int := ((List.range k).filter fun i => xs.getD i 0 == x).map fun (i : Nat) => (i : Int)
theorem posK_zero (xs : List Int) (x : Int) : posK xs 0 x = [] := rfl
theorem posK_same {xs : List Int} {k : Nat} {x : Int} (h : xs.getD k 0 = x) : posK xs (k + 1) x = posK xs k x ++ [(k : Int)] := by
  simp only [posK, List.range_succ, List.filter_append, List.map_append]
  rw [List.filter_cons_of_pos (by simpa using h)]
  rfl
theorem posK_other {xs : List Int} {k : Nat} {x : Int} (h : xs.getD k 0 ≠ x) : posK xs (k + 1) x = posK xs k x := by
  simp only [posK, List.range_succ, List.filter_append, List.map_append]
  rw [List.filter_cons_of_neg (by simpa using h)]
  simp

section
variable {H : Type}
/-- What a list of keys reads as. -/
def rowOf : List Int → DataW H
  | [] => .nil
  | z :: r => .slice (lits .i64 (z :: r)) []
theorem rowOf_pos {l : List Int} (h : l ≠ []) : rowOf (H := H) l = .slice (lits .i64 l) [] := by
  cases l with
  | nil => exact absurd rfl h
  | cons z r => rfl

/-- The map D has, at each number, the keys below k that hold it. -/
def GD (xs : List Int) (k : Nat) (D : DataW H) : Prop :=
  IsMap D ∧ ∀ x : Int, Maps.has D (.int .i64 x) = decide (posK xs k x ≠ []) ∧ D.atKey (.int .i64 x) .nil = rowOf (posK xs k x)

theorem lits_inj {a b : List Int} (h : lits (H := H) .i64 a = lits .i64 b) : a = b := by
  unfold lits at h
  exact (List.map_inj_right (fun _ _ hxy => by cases hxy; rfl)).1 h

theorem GD_zero (xs : List Int) : GD (H := H) xs 0 (.map []) := ⟨⟨[], rfl⟩, fun _ => ⟨rfl, rfl⟩⟩

theorem GD_zs {xs : List Int} {k : Nat} {D : DataW H} {x : Int} {w : World} {base : Nat} {v : Value} {zs : List Int} (h : GD xs k D) (hat : D.atKey (.int .i64 x) .nil = rowDatum .i64 v zs) (hoi : w.ownsInts base 3 .i64 v zs) : zs = posK xs k x := by
  rw [(h.2 x).2] at hat
  rcases hoi.datum (H := H) with ⟨h1, h2⟩ | h1
  · rw [h1] at hat
    rw [h2]
    cases hp : posK xs k x with
    | nil => rfl
    | cons z r => rw [hp] at hat; cases hat
  · rw [h1] at hat
    cases hp : posK xs k x with
    | nil => rw [hp] at hat; cases hat
    | cons z r =>
      rw [hp] at hat
      simp only [rowOf, DataW.slice.injEq] at hat
      exact (lits_inj hat.1).symm

theorem GD_step {xs : List Int} {k : Nat} {D : DataW H} {x : Int} (h : GD xs k D) (hx : xs.getD k 0 = x) (hw : (Lit.int .i64 x).wf = true) : GD xs (k + 1) (D.put (.int .i64 x) (.slice (lits .i64 (posK xs k x ++ [(k : Int)])) [])) := by
  have hk : WideAt.IsKeyLit (.int .i64 x) := mapLaw.key (keyOf_int_mk Tryz.underlying3 hw)
  refine ⟨h.1.put _ _, fun y => ?_⟩
  by_cases hy : y = x
  · subst hy
    rw [posK_same hx, has_put_same h.1 hk, atKey_put_same h.1 hk, rowOf_pos (by simp)]
    simp
  · have hne : Lit.int .i64 y ≠ .int .i64 x := fun e => hy (by cases e; rfl)
    rw [posK_other (fun e => hy (by rw [← hx, e])), has_put_other hne, atKey_put_other hne]
    exact h.2 y

/-- .. and nothing at nought. -/
def HD (xs : List Int) (D : DataW H) : Prop :=
  ∀ x : Int, Maps.has D (.int .i64 x) = decide (x ≠ 0 ∧ posK xs 4 x ≠ []) ∧ (x ≠ 0 → ∀ zd, posK xs 4 x ≠ [] → D.atKey (.int .i64 x) zd = .slice (lits .i64 (posK xs 4 x)) [])

end

theorem groups_map {H : Type} {w : World} {P : Program} {k : TypeId} {base : Nat} {e : TypeId} {q : IntKind} {b n : Nat} {D : DataW H} (h : w.ownsGroups P k base e q b n D) : w.ownsMap P k (rowElem w base e q) b n D := by
  obtain ⟨es, clock, hb, F, hs, hD, _⟩ := h
  exact ⟨es, clock, hb, F, hs, hD⟩
theorem groups_base {H : Type} {w : World} {P : Program} {k : TypeId} {base : Nat} {e : TypeId} {q : IntKind} {b n : Nat} {D : DataW H} (h : w.ownsGroups P k base e q b n D) : b < base := by
  obtain ⟨es, clock, hb, F, hs, hD, h1, _⟩ := h
  exact h1

/-- What stands at a key that is there does not hang on what would be told if it were not. -/
theorem atKey_has {H : Type} {D : DataW H} {k : Lit} (h : Maps.has D k = true) (z z' : DataW H) : D.atKey k z = D.atKey k z' := by
  cases D <;> try (simp [Maps.has] at h; done)
  rename_i es
  simp only [Maps.has] at h
  simp only [DataW.atKey]
  obtain ⟨p, hp, hk⟩ := List.any_eq_true.1 h
  cases hf : es.find? (fun p => p.1.sameKey k) with
  | some q => rfl
  | none => exact absurd hk (by simpa using List.find?_eq_none.1 hf p hp)

/-- What the elements of the map are: lists of numbers of the call's own. -/
def RowsIn {H : Type} (R : Value → Option (DataW H × List MemPlace)) (w : World) (base : Nat) : Prop :=
  ∀ v y, R v = some y → ∃ zs, w.ownsInts base 3 .i64 v zs ∧ y.1 = rowDatum .i64 v zs

set_option maxHeartbeats 1000000 in
set_option maxRecDepth 100000 in
theorem holdersOf_four (H : Type) (a : Option Addr) (st : Int) (xs : List Int) (w : World) (hA : IntAt w a 4 xs) (hi : ∀ x ∈ xs, (Lit.int .i64 x).wf = true) :
    Calls Tryz.prog 40 #[.agg #[.slice a 4 4, .int .i64 st]] w fun e w' =>
      e = .returned (.map (some (w.heap.size + 1))) ∧ Below w.heap.size w w' ∧ ∃ (R : Value → Option (DataW H × List MemPlace)) (D : DataW H), w'.ownsMap Tryz.prog 3 R (w.heap.size + 1) 4 D ∧ RowsIn R w' (w.heap.size + 2) ∧ HD xs D := by
  obtain ⟨hl, _, h0 | ⟨b, o, rfl, hc⟩⟩ := hA
  · omega
  have hmm := @run_makeMap Tryz.prog
  have HC : Hid (∀ i, i < 4 → w.cell? ⟨b, o + i, none⟩ = some (I (xs.getD i 0))) := hc
  have HI : Hid (∀ x ∈ xs, (Lit.int .i64 x).wf = true) := hi
  have HL : Hid (xs.length = 4) := hl
  have hblt : b < w.heap.size := World.block_lt_of_cell? w _ (hc 0 (by omega))
  clear hc hi hl
  obtain ⟨i0, hin, hz0, hz1, hz2⟩ := info_parts infoInt
  go_enter Tryz.func40, Tryz.ntmps40
  go_wp2
  go_loopw [15] (fun i wr => ∃ k : Nat, k ≤ 4 ∧ i = .int .i64 (k : Int) ∧ ∃ D : DataW H, wr.ownsGroups Tryz.prog 3 (w.heap.size + 2) 3 .i64 (w.heap.size + 1) k D ∧ GD xs k D ∧ Below w.heap.size w wr ∧ w.heap.size + 2 ≤ wr.heap.size)
    (fun i _ => 4 - (intOf i).toNat)
  case atStart =>
    refine ⟨0, Nat.zero_le _, rfl, .map [], ?_, GD_zero _, ((Below.refl _ _).alloc (Nat.le_refl _) _).alloc (by simp) _, by simp⟩
    have := World.ownsGroups_made (H := H) (w.alloc (Obj.cells #[Value.slice (some { block := b, off := o }) 4 4, Value.int IntKind.i64 st] 26)) Tryz.prog 3 3 .i64
    simpa using this
  case round =>
    obtain ⟨k, hk, rfl, D, hown, hgd, hnx, hws⟩ := hrel
    obtain ⟨x, hx⟩ : ∃ x, xs.getD k 0 = x := ⟨_, rfl⟩
    have HX : Hid (xs.getD k 0 = x) := hx
    have HGD : Hid (GD xs k D) := hgd
    by_cases hlt : k < 4
    · have hcx : wr.cell? ⟨b, o + k, none⟩ = some (I x) := by rw [← hx]; exact (hnx.cell (by exact hblt)).trans (HC.out k hlt)
      have hwx : (Lit.int .i64 x).wf = true := HI.out x (by
        have hk4 : k < xs.length := by have := HL.out; omega
        rw [← hx, show xs.getD k 0 = xs[k] by simp [List.getD, hk4]]
        exact List.getElem_mem _)
      have hkey := keyOf_int_mk Tryz.underlying3 hwx
      clear hx hgd
      go_wp2_with (first
        | (at_lookup; refine wpList_lookup_groups _ rfl _ _ 78 rfl 3 24 3 .i64 mapLaw Tryz.underlying78 (zeroInts _) (w.heap.size + 2) (w.heap.size + 1) k _ rfl hown (by unfold maxLen; omega) _ _ rfl hkey ?_; intro v zs hat hoi hzl hback)
        | (at_builtin; refine wpList_append_own_at _ rfl _ _ 24 rfl (w.heap.size + 2) 3 i0 (.int .i64 0) 1 8 Tryz.underlying24 hin hz0 hz1 hz2 rfl (by decide) _ _ _ rfl (hoi.1.alloc _) ⟨wr.heap.size, 0, none⟩ 1 1 [.int .i64 k] rfl rfl (cell_one_new _ _ _) (ints_oneCell .i64 [(k : Int)]) (by unfold maxLen; omega) (by omega) (by simp; omega) ?_; intro v' w1 hown' hgrow hnil hloc)
        | (at_mapUpdate; refine wpList_mapUpdate_back _ rfl _ _ _ 78 rfl hback rfl rfl rfl ((World.grownBy_alloc _ _ _).trans hgrow) (hoi.appended hown' (WalkArith.wf_i64 (by omega))) (by simp; omega) (hloc.imp id (fun h => ⟨_, h, by simp⟩)) ?_; intro w2 hown2 hgrow2)
        | go_in)
      have hall := (World.grownBy_alloc wr _ _).trans hgrow
      go_roundw
      case rel =>
        refine ⟨k + 1, by omega, by go_num, _, hown2, ?_, hnx.groups hoi hall hgrow2 hnx.size (by omega) (by omega), Nat.le_trans hws (Nat.le_trans hall.size hgrow2.size)⟩
        show GD xs (k + 1) (D.put (.int .i64 x) (rowDatum .i64 v' (zs ++ [(k : Int)])))
        rw [(hoi.appended hown' (WalkArith.wf_i64 (by omega))).datum_pos (by simp), GD_zs HGD.out hat hoi]
        exact GD_step HGD.out HX.out hwx
      case measure => simp [intOf]; omega
    · obtain rfl : k = 4 := by omega
      have hkey0 : keyOf Tryz.prog 3 (.int .i64 0) = some (.int .i64 0) := keyOf_int_mk Tryz.underlying3 (by decide)
      go_wp2_with (first
        | (at_delete; refine wpList_delete_own _ rfl _ _ 78 3 rfl 24 mapLaw Tryz.underlying78 _ (w.heap.size + 1) 4 D rfl (groups_map hown) _ _ rfl hkey0 ?_; intro w1 hown1 hturn1)
        | go_in)
      go_ret
      have hg1 := hturn1.grown
      refine ⟨rfl, hnx.grown hg1 hnx.size (fun j hj => by cases hj; omega), _, _, hown1, ?_, ?_⟩
      · intro v y hy
        obtain ⟨zs, ho, rfl⟩ := rowElem_inv hy
        refine ⟨zs, ho.kept hg1 ?_, rfl⟩
        cases hv : v.ownBlock with
        | none => exact .inl rfl
        | some g =>
          refine .inr fun e1 => ?_
          have := (ho.1.lt g hv).1
          cases e1
          omega
      · intro x
        have hg := HGD.out.2 x
        by_cases h0 : x = 0
        · subst h0
          refine ⟨by rw [has_del_same]; simp, fun h => absurd rfl h⟩
        · have hne : Lit.int .i64 x ≠ .int .i64 0 := fun e => h0 (by cases e; rfl)
          rw [has_del_other hne, hg.1]
          refine ⟨by simp [h0], fun _ zd hp => ?_⟩
          rw [atKey_del_other hne, atKey_has (by rw [hg.1]; simpa using hp) zd .nil, hg.2, rowOf_pos hp]
end Go.Proofs.YtenlapppaimkkaeGreatDoor

/- Going through the map of holdersOf: what a step hands over. -/
namespace Go.Proofs.YtenlapppaimkkaeGreatDoor
open Go.ChangeShapes Go.WideShapes Go.ChangeAt Go.RowKit Go.Maps

theorem row_slice {w : World} {base : Nat} {v : Value} {zs : List Int} (h : w.ownsInts base 3 .i64 v zs) : ∃ p : Option Addr × Nat × Nat, v = .slice p.1 p.2.1 p.2.2 := by
  rcases h.1.2 with ⟨rfl, _⟩ | ⟨g, cap, cur, rfl, _⟩
  · exact ⟨(none, 0, 0), rfl⟩
  · exact ⟨(some ⟨g, 0, none⟩, zs.length, cap), rfl⟩

theorem row_len {w : World} {base : Nat} {a : Option Addr} {n c : Nat} {zs : List Int} (h : w.ownsInts base 3 .i64 (.slice a n c) zs) : n = zs.length := by
  rcases h.1.2 with ⟨h1, h2⟩ | ⟨g, cap, cur, h1, _⟩
  · simp only [Value.slice.injEq] at h1
    omega
  · simp only [Value.slice.injEq] at h1
    exact h1.2.1

theorem row_intAt {w : World} {base : Nat} {a : Option Addr} {n c : Nat} {zs : List Int} (h : w.ownsInts base 3 .i64 (.slice a n c) zs) (h0 : zs ≠ []) (hn : zs.length ≤ 4) : ∃ g, a = some ⟨g, 0, none⟩ ∧ w.cell? ⟨g, 0, none⟩ = some (I (zs.getD 0 0)) ∧ g < w.heap.size ∧ base ≤ g := by
  have hl := row_len h
  have h00 : 0 < zs.length := List.length_pos_iff.2 h0
  rcases h.1.2 with ⟨h1, h2⟩ | ⟨g, cap, cur, h1, h3⟩
  · omega
  · simp only [Value.slice.injEq] at h1
    obtain ⟨rfl, rfl, rfl⟩ := h1
    have h4 := own_intAt h.1 (by omega)
    have h5 := h.1.lt g rfl
    refine ⟨g, rfl, ?_, h5.2, h5.1⟩
    rcases h4.2.2 with h6 | ⟨b, o, h6, h7⟩
    · omega
    · simp only [Option.some.injEq, Addr.mk.injEq] at h6
      obtain ⟨rfl, rfl, _⟩ := h6
      exact h7 0 h00

/-- What the keys of the map are told with. -/
theorem step_row {H : Type} {xs : List Int} {D : DataW H} {R : Value → Option (DataW H × List MemPlace)} {w0 : World} {base : Nat} {x : Int} {v : Value} {y : DataW H × List MemPlace} (hR : RowsIn R w0 base) (hD : HD xs D) (hv : R v = some y) (hat : ∀ zd, D.atKey (.int .i64 x) zd = y.1) :
    x ≠ 0 ∧ posK xs 4 x ≠ [] ∧ w0.ownsInts base 3 .i64 v (posK xs 4 x) := by
  have hh := has_true_of_atKey hat
  rw [(hD x).1] at hh
  obtain ⟨h0, hp⟩ := of_decide_eq_true hh
  obtain ⟨zs, ho, hy⟩ := hR v y hv
  have h1 := (hD x).2 h0 .nil hp
  rw [hat, hy] at h1
  refine ⟨h0, hp, ?_⟩
  rcases ho.datum (H := H) with ⟨h2, _⟩ | h2
  · rw [h2] at h1; cases h1
  · rw [h2] at h1
    simp only [DataW.slice.injEq] at h1
    rw [← lits_inj h1.1]
    exact ho

section
variable {H : Type} {P : Program} (w : World) {ops : Array Oper} {rest : List Oper} {o : Oper} {a : Act} {Q : Exit → Act → World → Prop}
/-- THE STEP of a loop over such a map. -/
theorem wpList_next_rows (hg : o.guard = none) (it : Operand) (hop : o.op = Op.next it false) (R : Value → Option (DataW H × List MemPlace)) {w0 : World} {base : Nat} (hR : RowsIn R w0 base) {xs : List Int}
    (b r n : Nat) (D : DataW H) (hD : HD xs D) (left : Lit → Bool) (cnt : Nat) (hit : a.eval it = .pointer (some ⟨r, 0, none⟩)) (h : w.ranges Tryz.prog 3 R b r n D left cnt)
    (hDone : cnt = 0 → (∀ kl, left kl = false) → wpList Tryz.prog ops Q rest (a.put o.dst (.tuple #[.bool false])) w)
    (hMore : ∀ (x : Int) (p : Option Addr) (l c : Nat) (w' : World) (cnt' : Nat), left (.int .i64 x) = true → x ≠ 0 → posK xs 4 x ≠ [] → w0.ownsInts base 3 .i64 (.slice p l c) (posK xs 4 x) → w'.ranges Tryz.prog 3 R b r n D (fun z => left z && !z.sameKey (.int .i64 x)) cnt' → cnt' < cnt →
      w.grownBy w' (some r) → w'.heap.size = w.heap.size → (Instr.entry (.pointer (some ⟨r, 0, none⟩))).run Tryz.prog w' = .ok (.tuple #[.int .i64 x, .slice p l c]) w' → wpList Tryz.prog ops Q rest (a.put o.dst (.tuple #[.bool true, .int .i64 x, .slice p l c])) w') :
    wpList Tryz.prog ops Q (o :: rest) a w :=
  wpList_next_ranges w hg it hop 3 mapLaw R (Value.int .i64) (fun p : Option Addr × Nat × Nat => Value.slice p.1 p.2.1 p.2.2) (fun key kl hkey => by obtain ⟨x, rfl, _⟩ := Maps.keyOf_int_inv Tryz.underlying3 hkey; exact ⟨x, rfl⟩)
    (fun v y hv => by obtain ⟨zs, ho, _⟩ := hR v y hv; exact row_slice ho)
    b r n D left cnt hit h hDone (fun x c kl y w' cnt' hkey hlk hv hat hrg hlt hgr hsz hen => by
      obtain ⟨x', ex, rfl, hwx⟩ := Maps.keyOf_int_inv Tryz.underlying3 hkey
      cases ex
      obtain ⟨h1, h2, h3⟩ := step_row hR hD hv hat
      exact hMore x c.1 c.2.1 c.2.2 w' cnt' hlk h1 h2 h3 hrg hlt hgr hsz hen)
end

/-- Which keys have come already: those of the map that are not to come. -/
theorem sameKey_int (x y : Int) : (Lit.int .i64 x).sameKey (.int .i64 y) = decide (x = y) := by
  by_cases h : x = y
  · subst h
    simp [Lit.sameKey]
  · rw [Maps.sameKey_ne (fun e => h (by cases e; rfl))]
    simp [h]
end Go.Proofs.YtenlapppaimkkaeGreatDoor

/- impl.RowsOk, walked: whether the rows can be a table. -/
namespace Go.Proofs.YtenlapppaimkkaeGreatDoor
open Go.ChangeShapes Go.WideShapes Go.ChangeAt Go.RowKit Go.Maps

/-- The answer e is the Boolean that says whether p. -/
def Says (e : Ending) (p : Prop) : Prop := ∃ ok : Bool, e = .returned (.bool ok) ∧ (ok = true ↔ p)
/-- What is held at x is right: it can be held, and one key at most holds it. -/
def Good (xs : List Int) (x : Int) : Prop := (1 ≤ x ∧ x ≤ 6) ∧ (posK xs 4 x).length ≤ 1
/-- The rows can be a table. -/
def OkRows (xs : List Int) (st : Int) : Prop := xs.length = 4 ∧ 0 ≤ st ∧ st ≤ 5 ∧ ∀ x, x ≠ 0 → posK xs 4 x ≠ [] → Good xs x

set_option maxHeartbeats 1000000 in
set_option maxRecDepth 100000 in
theorem implRowsOk_any (a : Option Addr) (n : Nat) (st : Int) (xs : List Int) (w : World) (hA : IntAt w a n xs) (hi : ∀ x ∈ xs, (Lit.int .i64 x).wf = true) :
    Calls Tryz.prog 34 #[.agg #[.slice a n n, .int .i64 st]] w fun e w' => Says e (OkRows xs st) ∧ Below w.heap.size w w' := by
  have hl := hA.1
  by_cases hn : n = 4
  · subst hn
    by_cases hs0 : st < 0
    · have h1 : Hid (¬ OkRows xs st) := fun h => by have := h.2.1; omega
      go_enter Tryz.func34, Tryz.ntmps34
      go_wp2
      go_ret
      exact ⟨⟨false, rfl, by simp [h1.out]⟩, (Below.refl _ _).alloc (Nat.le_refl _) _⟩
    by_cases hs1 : 5 < st
    · have h1 : Hid (¬ OkRows xs st) := fun h => by have := h.2.2.1; omega
      go_enter Tryz.func34, Tryz.ntmps34
      go_wp2
      go_ret
      exact ⟨⟨false, rfl, by simp [h1.out]⟩, (Below.refl _ _).alloc (Nat.le_refl _) _⟩
    have HA : Hid (IntAt w a 4 xs) := hA
    have HI : Hid (∀ x ∈ xs, (Lit.int .i64 x).wf = true) := hi
    have HL : Hid (xs.length = 4) := hl
    clear hA hi hl
    go_enter Tryz.func34, Tryz.ntmps34
    go_wp2_with fail
    refine (holdersOf_four Unit a st xs _ (HA.out.below ((Below.refl _ w).alloc (Nat.le_refl _) _) (Nat.le_refl _)) HI.out).mono ?_
    rintro e w1 ⟨rfl, hb1, R, D, hown, hR, hD⟩
    have hbw : Below w.heap.size w w1 := ((Below.refl _ w).alloc (Nat.le_refl _) _).trans (hb1.mono (by simp))
    have hsz1 := hown.lt
    simp only [World.size_alloc] at hown hR hsz1
    have HR : Hid (RowsIn R w1 (w.heap.size + 1 + 2)) := hR
    have HD1 : Hid (HD xs D) := hD
    clear hb1 hR hD
    go_wp2_with (first | (at_range; refine wpList_range_own _ rfl _ 78 rfl 3 24 mapLaw Tryz.underlying78 R (w.heap.size + 1 + 1) 4 D rfl hown ?_; intro w2 hrg0 hg0 hs2) | fail)
    go_frame
    have hb2 : Below w1.heap.size w1 w2 := (Below.refl _ _).grown hg0 (Nat.le_refl _) (fun k e => by cases e)
    clear hown hg0
    go_loopw [3] (fun _ wr => ∃ left cnt, wr.ranges Tryz.prog 3 R (w.heap.size + 1 + 1) w1.heap.size 4 D left cnt ∧ Below w1.heap.size w1 wr ∧ ∀ x : Int, x ≠ 0 → posK xs 4 x ≠ [] → left (.int .i64 x) = false → Good xs x) (fun _ wr => wr.rangeLeft (w.heap.size + 1 + 1) w1.heap.size)
    case atStart =>
      refine ⟨_, _, hrg0, hb2, fun x h0 hp hf => ?_⟩
      rw [(HD1.out x).1] at hf
      exact absurd ⟨h0, hp⟩ (of_decide_eq_false hf)
    case round =>
      obtain ⟨left, cnt, hrg, hbr, hgood⟩ := hrel
      have HG : Hid (∀ x : Int, x ≠ 0 → posK xs 4 x ≠ [] → left (.int .i64 x) = false → Good xs x) := hgood
      clear hgood hrg0 hb2
      go_wp2_with (first | (at_next; refine wpList_next_rows _ rfl _ rfl R HR.out (w.heap.size + 1 + 1) w1.heap.size 4 D HD1.out left cnt rfl hrg ?_ ?_) | fail)
      · intro _ hl0
        go_wp2
        go_ret
        exact ⟨⟨true, rfl, by simpa using ⟨HL.out, hs0, hs1, fun x h0 hp => HG.out x h0 hp (hl0 _)⟩⟩, hbw.trans (hbr.mono hbw.size)⟩
      · intro x p l c w3 cnt3 hlx hx0 hpx hrow hrg3 hlt hg3 hs3 hen
        have hb3 : Below w1.heap.size w1 w3 := hbr.grown hg3 hbr.size (fun k e => by cases e; exact Nat.le_refl _)
        have hb03 := hbw.trans (hb3.mono hbw.size)
        obtain rfl := row_len hrow
        have HP : Hid (posK xs 4 x ≠ []) := hpx
        clear hrow hg3 hpx
        go_wp2_with fail
        refine (implValOk_any x _).mono ?_
        rintro e w4 ⟨rfl, rfl⟩
        by_cases hv : 1 ≤ x ∧ x ≤ 6
        · rw [show decide (1 ≤ x ∧ x ≤ 6) = true from decide_eq_true hv]
          by_cases hln : 1 < (posK xs 4 x).length
          · have h1 : Hid (¬ OkRows xs st) := fun h => by have := (h.2.2.2 x hx0 HP.out).2; omega
            go_wp2
            go_ret
            exact ⟨⟨false, rfl, by simp [h1.out]⟩, hb03⟩
          · have hG : Hid (Good xs x) := ⟨hv, by omega⟩
            go_wp2
            refine ⟨⟨_, _, hrg3, hb3, fun y h0 hp hf => ?_⟩, by rw [hrg3.left_eq, hrg.left_eq]; omega⟩
            rw [sameKey_int] at hf
            by_cases hy : y = x
            · subst hy
              exact hG.out
            · exact HG.out y h0 hp (by simpa [hy] using hf)
        · rw [show decide (1 ≤ x ∧ x ≤ 6) = false from decide_eq_false hv]
          have h1 : Hid (¬ OkRows xs st) := fun h => hv (h.2.2.2 x hx0 HP.out).1
          go_wp2
          go_ret
          exact ⟨⟨false, rfl, by simp [h1.out]⟩, hb03⟩
  · have h1 : Hid (¬ OkRows xs st) := fun h => by have := h.1; omega
    have h2 : ((n : Int) != 4) = true := by simp; omega
    go_enter Tryz.func34, Tryz.ntmps34
    go_wp2
    go_ret
    exact ⟨⟨false, rfl, by simp [h1.out]⟩, (Below.refl _ _).alloc (Nat.le_refl _) _⟩
end Go.Proofs.YtenlapppaimkkaeGreatDoor

/- spec.KeyOf and spec.RowsOk, walked at any list. -/
namespace Go.Proofs.YtenlapppaimkkaeGreatDoor
open Go.ChangeShapes Go.WideShapes Go.ChangeAt Go.RowKit Go.Maps

/-- r is the first place of v among the first n of xs, or -1. -/
def KeyIs (xs : List Int) (n : Nat) (v r : Int) : Prop := (r = -1 ∧ ∀ i, i < n → xs.getD i 0 ≠ v) ∨ ∃ i : Nat, i < n ∧ r = (i : Int) ∧ xs.getD i 0 = v ∧ ∀ j, j < i → xs.getD j 0 ≠ v
/-- The answer is that number. -/
def KeySays (e : Ending) (xs : List Int) (n : Nat) (v : Int) : Prop := ∃ r : Int, e = .returned (.int .i64 r) ∧ KeyIs xs n v r

set_option maxHeartbeats 1000000 in
theorem specKeyOf_any (a : Option Addr) (n c : Nat) (st v : Int) (xs : List Int) (w : World) (hA : IntAt w a n xs) :
    Calls Tryz.prog 44 #[.agg #[.slice a n c, .int .i64 st], .int .i64 v] w fun e w' => KeySays e xs n v ∧ Below w.heap.size w w' := by
  have HA : Hid (IntAt w a n xs) := hA
  have hn := hA.2.1
  clear hA
  go_enter Tryz.func44, Tryz.ntmps44
  go_wp2
  go_loopw [5] (fun i wr => ∃ k : Nat, k ≤ n ∧ i = .int .i64 (k : Int) ∧ (∀ j, j < k → xs.getD j 0 ≠ v) ∧ Below (w.heap.size + 1) (w.alloc (.cells #[.slice a n c, .int .i64 st] 26)) wr) (fun i _ => n - (intOf i).toNat)
  case atStart => exact ⟨0, Nat.zero_le _, rfl, fun j hj => by omega, Below.refl _ _⟩
  case round =>
    obtain ⟨k, hk, rfl, hno, hb⟩ := hrel
    have HNO : Hid (∀ j, j < k → xs.getD j 0 ≠ v) := hno
    have hbw : Below w.heap.size w wr := ((Below.refl _ w).alloc (Nat.le_refl _) _).trans (hb.mono (Nat.le_succ _))
    have hc0 : wr.cell? ⟨w.heap.size, 0, none⟩ = some (.slice a n c) := by rw [hb.cell (by simp)]; simp
    clear hno
    by_cases hlt : k < n
    · rcases (HA.out.below hbw (Nat.le_refl _)).2.2 with h0 | ⟨p1, o1, rfl, g1⟩
      · omega
      have e1 := g1 k hlt
      obtain ⟨x, hx⟩ : ∃ x, xs.getD k 0 = x := ⟨_, rfl⟩
      rw [hx] at e1
      have HX : Hid (xs.getD k 0 = x) := hx
      clear g1 hx
      go_wp2
      · have hd : (x == v) = true := by assumption
        go_ret
        exact ⟨⟨(k : Int), rfl, .inr ⟨k, hlt, rfl, HX.out.trans (by simpa using hd), HNO.out⟩⟩, hbw⟩
      · have hd : (x == v) = false := by assumption
        refine ⟨⟨k + 1, by omega, by go_num, fun j hj => ?_, hb⟩, by simp [intOf]; omega⟩
        by_cases hjk : j = k
        · subst hjk
          rw [HX.out]
          simpa using hd
        · exact HNO.out j (by omega)
    · go_wp2
      go_ret
      exact ⟨⟨-1, rfl, .inl ⟨rfl, fun i hi => HNO.out i (by omega)⟩⟩, hbw⟩

/-- The rows can be a table, as the specification looks at them: what each place of the first k holds is right. -/
def SpecGood (xs : List Int) (n : Nat) (i : Nat) : Prop := xs.getD i 0 = 0 ∨ ((1 ≤ xs.getD i 0 ∧ xs.getD i 0 ≤ 6) ∧ KeyIs xs n (xs.getD i 0) i)
def SpecOk (xs : List Int) (n : Nat) (st : Int) : Prop := (∀ i, i < n → SpecGood xs n i) ∧ n = 4 ∧ 0 ≤ st ∧ st ≤ 5

theorem KeyIs.one {xs : List Int} {n : Nat} {v r s : Int} (h : KeyIs xs n v r) (k : KeyIs xs n v s) : r = s := by
  rcases h with ⟨rfl, h⟩ | ⟨i, hi, rfl, h1, h2⟩ <;> rcases k with ⟨rfl, k⟩ | ⟨j, hj, rfl, k1, k2⟩
  · rfl
  · exact absurd k1 (h j hj)
  · exact absurd h1 (k i hi)
  · by_cases hij : i < j
    · exact absurd h1 (k2 i hij)
    · by_cases hji : j < i
      · exact absurd k1 (h2 j hji)
      · rw [show i = j by omega]

theorem specValOk_not {x : Int} (h : ¬ (1 ≤ x ∧ x ≤ 6)) (w : World) : Calls Tryz.prog 70 #[.int .i64 x] w fun e w' => e = .returned (.bool false) ∧ w' = w := by
  have := specValOk_any x w
  rwa [show decide (1 ≤ x ∧ x ≤ 6) = false from decide_eq_false h] at this

theorem good_next {xs : List Int} {n k : Nat} (h : ∀ j, j < k → SpecGood xs n j) (h1 : SpecGood xs n k) : ∀ j, j < k + 1 → SpecGood xs n j := fun j hj => by
  by_cases hjk : j = k
  · subst hjk
    exact h1
  · exact h j (by omega)

set_option maxHeartbeats 2000000 in
set_option maxRecDepth 100000 in
theorem specRowsOk_any (a : Option Addr) (n c : Nat) (st : Int) (xs : List Int) (w : World) (hA : IntAt w a n xs) :
    Calls Tryz.prog 48 #[.agg #[.slice a n c, .int .i64 st]] w fun e w' => Says e (SpecOk xs n st) ∧ Below w.heap.size w w' := by
  have HA : Hid (IntAt w a n xs) := hA
  have hn := hA.2.1
  clear hA
  go_enter Tryz.func48, Tryz.ntmps48
  go_wp2
  go_loopw [3] (fun i wr => ∃ k : Nat, k ≤ n ∧ i = .int .i64 (k : Int) ∧ (∀ j, j < k → SpecGood xs n j) ∧ Below (w.heap.size + 1) (w.alloc (.cells #[.slice a n c, .int .i64 st] 26)) wr) (fun i _ => n - (intOf i).toNat)
  case atStart => exact ⟨0, Nat.zero_le _, rfl, fun j hj => by omega, Below.refl _ _⟩
  case round =>
    obtain ⟨k, hk, rfl, hno, hb⟩ := hrel
    have HNO : Hid (∀ j, j < k → SpecGood xs n j) := hno
    have hbw : Below w.heap.size w wr := ((Below.refl _ w).alloc (Nat.le_refl _) _).trans (hb.mono (Nat.le_succ _))
    have hc0 : wr.cell? ⟨w.heap.size, 0, none⟩ = some (.slice a n c) := by rw [hb.cell (by simp)]; simp
    have hc1 : wr.cell? ⟨w.heap.size, 1, none⟩ = some (.int .i64 st) := by rw [hb.cell (by simp)]; simp
    have hs := hb.size
    clear hno
    by_cases hlt : k < n
    · have HB : Hid (IntAt wr a n xs) := HA.out.below hbw (Nat.le_refl _)
      rcases HB.out.2.2 with h0 | ⟨p1, o1, rfl, g1⟩
      · omega
      have e1 := g1 k hlt
      obtain ⟨x, hx⟩ : ∃ x, xs.getD k 0 = x := ⟨_, rfl⟩
      rw [hx] at e1
      have HX : Hid (xs.getD k 0 = x) := hx
      clear g1 hx
      by_cases hx0 : x = 0
      · subst hx0
        go_wp2
        go_quiet (fail)
        go_wp2
        exact ⟨⟨k + 1, by omega, by go_num, good_next HNO.out (.inl HX.out), below_drewN hb nq⟩, by simp [intOf]; omega⟩
      · have hx1 : (x != 0) = true := by simpa using hx0
        by_cases hv : 1 ≤ x ∧ x ≤ 6
        · have hdv : decide (1 ≤ x ∧ x ≤ 6) = true := decide_eq_true hv
          go_wp2
          go_region_with (first
            | (go_at_call 70; refine (specValOk_any x _).mono ?_; rintro e w1 ⟨rfl, rfl⟩; rw [hdv])
            | (go_at_call 44; refine (specKeyOf_any _ n c st x xs _ (HB.out.below (Below.refl _ wr).drew (Nat.le_refl _))).mono ?_; rintro e w2 ⟨⟨r, rfl, hr⟩, hb2⟩))
          all_goals
            have hb3 := hb.drew.trans (hb2.mono (show w.heap.size + 1 ≤ wr.heap.size by simpa using hs))
            have HR : Hid (KeyIs xs n x r) := hr
            clear hr
            go_wp2
            · have hd : (r != (k : Int)) = true := by assumption
              have h1 : Hid (¬ SpecOk xs n st) := fun h => by
                rcases h.1 k hlt with h2 | h2
                · exact hx0 (HX.out.symm.trans h2)
                · have h3 := h2.2
                  rw [HX.out] at h3
                  simp [HR.out.one h3] at hd
              go_ret
              exact ⟨⟨false, rfl, by simp [h1.out]⟩, ((Below.refl _ w).alloc (Nat.le_refl _) _).trans (hb3.mono (Nat.le_succ _))⟩
            · have hd : (r != (k : Int)) = false := by assumption
              have h1 : SpecGood xs n k := .inr (by
                rw [HX.out]
                have h2 : r = (k : Int) := by simpa using hd
                exact ⟨hv, h2 ▸ HR.out⟩)
              exact ⟨⟨k + 1, by omega, by go_num, good_next HNO.out h1, hb3⟩, by simp [intOf]; omega⟩
        · have hdv : decide (1 ≤ x ∧ x ≤ 6) = false := decide_eq_false hv
          have h1 : Hid (¬ SpecOk xs n st) := fun h => by
            rcases h.1 k hlt with h2 | h2
            · exact hx0 (HX.out.symm.trans h2)
            · have h3 := h2.1
              rw [HX.out] at h3
              exact hv h3
          go_wp2
          go_quiet (first | (go_at_call 70; refine Calls.quiet_of_same (specValOk_not hv _)) | fail)
          go_wp2
          go_ret
          exact ⟨⟨false, rfl, by simp [h1.out]⟩, below_drewN hbw nq⟩
    · obtain rfl : k = n := by omega
      have H0 : Hid (∀ j, j < k → SpecGood xs k j) := HNO.out
      by_cases hn4 : k = 4
      · subst hn4
        by_cases hs0 : 0 ≤ st
        · by_cases hs1 : st ≤ 5
          · go_wp2
            go_ret
            exact ⟨⟨true, rfl, by simpa using ⟨H0.out, rfl, hs0, hs1⟩⟩, hbw⟩
          · have h1 : Hid (¬ SpecOk xs 4 st) := fun h => hs1 h.2.2.2
            go_wp2
            go_ret
            exact ⟨⟨false, rfl, by simp [h1.out]⟩, hbw⟩
        · have h1 : Hid (¬ SpecOk xs 4 st) := fun h => hs0 h.2.2.1
          go_wp2
          go_ret
          exact ⟨⟨false, rfl, by simp [h1.out]⟩, hbw⟩
      · have h1 : Hid (¬ SpecOk xs k st) := fun h => hn4 h.2.1
        have h2 : ((k : Int) == 4) = false := by simp; omega
        go_wp2
        go_ret
        exact ⟨⟨false, rfl, by simp [h1.out]⟩, hbw⟩

/-- Both look for the same. -/
theorem mem_posK {xs : List Int} {k : Nat} {x : Int} {i : Int} : i ∈ posK xs k x ↔ ∃ j : Nat, j < k ∧ xs.getD j 0 = x ∧ i = (j : Int) := by
  simp only [posK, List.mem_map, List.mem_filter, List.mem_range, beq_iff_eq]
  constructor
  · rintro ⟨j, ⟨h1, h2⟩, rfl⟩
    exact ⟨j, h1, h2, rfl⟩
  · rintro ⟨j, h1, h2, rfl⟩
    exact ⟨j, ⟨h1, h2⟩, rfl⟩
theorem one_of {l : List Int} (h : l.length ≤ 1) {a b : Int} (ha : a ∈ l) (hb : b ∈ l) : a = b := by
  match l, h with
  | [], _ => simp at ha
  | [x], _ => simp at ha hb; rw [ha, hb]
  | _ :: _ :: _, h => simp at h
theorem len_of {l : List Int} (hd : l.Nodup) {j : Int} (h : ∀ a ∈ l, a = j) : l.length ≤ 1 := by
  match l, hd with
  | [], _ => simp
  | [x], _ => simp
  | x :: y :: r, hd =>
    have h1 := h x (by simp)
    have h2 := h y (by simp)
    rw [h1, h2] at hd
    simp at hd
theorem posK_nodup (xs : List Int) (k : Nat) (x : Int) : (posK xs k x).Nodup := by
  unfold posK
  exact List.Pairwise.map _ (fun a b hab e => hab (by omega)) (List.nodup_range.filter _)

theorem ok_iff {xs : List Int} {n : Nat} {st : Int} (hl : xs.length = n) : SpecOk xs n st ↔ OkRows xs st := by
  constructor
  · rintro ⟨h, rfl, h0, h1⟩
    refine ⟨hl, h0, h1, fun x hx hp => ?_⟩
    obtain ⟨i, hi⟩ := List.exists_mem_of_ne_nil _ hp
    obtain ⟨j, hj, hjx, rfl⟩ := mem_posK.1 hi
    rcases h j hj with h2 | ⟨h2, h3⟩
    · exact absurd (hjx.symm.trans h2) hx
    rw [hjx] at h2 h3
    refine ⟨h2, len_of (posK_nodup _ _ _) (j := (j : Int)) fun a ha => ?_⟩
    obtain ⟨i, hi, hix, rfl⟩ := mem_posK.1 ha
    rcases h i hi with h4 | ⟨_, h4⟩
    · exact absurd (hix.symm.trans h4) hx
    rw [hix] at h4
    exact h4.one h3
  · rintro ⟨h4, h0, h1, h⟩
    obtain rfl : n = 4 := by omega
    refine ⟨fun i hi => ?_, rfl, h0, h1⟩
    by_cases hx : xs.getD i 0 = 0
    · exact .inl hx
    · have hm : (i : Int) ∈ posK xs 4 (xs.getD i 0) := mem_posK.2 ⟨i, hi, rfl, rfl⟩
      obtain ⟨h2, h3⟩ := h _ hx (List.ne_nil_of_mem hm)
      refine .inr ⟨h2, .inr ⟨i, hi, rfl, rfl, fun j hj e => ?_⟩⟩
      have := one_of h3 hm (mem_posK.2 ⟨j, by omega, e, rfl⟩)
      omega
end Go.Proofs.YtenlapppaimkkaeGreatDoor

/- The words of a table of four keys, as a list: what is told of which keys so far. No program. -/
namespace Go.Proofs.YtenlapppaimkkaeGreatDoor

/-- The key and 1 of who holds v, or 0. -/
def ownW (y0 y1 y2 y3 v : Int) : Int := if y0 = v then 1 else if y1 = v then 2 else if y2 = v then 3 else if y3 = v then 4 else 0
/-- Whether y is of class c. -/
def bitW (y c : Int) : Int := if (1 ≤ y ∧ y ≤ 6) ∧ classN y = c then 1 else 0
def clsW (y0 y1 y2 y3 c : Int) : Int := bitW y0 c + bitW y1 c + bitW y2 c + bitW y3 c
/-- .. by the other way, as far as it is made. -/
def viaW (y0 y1 y2 y3 st v : Int) : Int := if ownW y0 y1 y2 y3 v < st then ownW y0 y1 y2 y3 v else 0
/-- All words; the counts and the state as they are handed in. -/
def wordsG (y0 y1 y2 y3 c0 c1 c2 s st : Int) : List Int :=
  [y0, y1, y2, y3, ownW y0 y1 y2 y3 1, ownW y0 y1 y2 y3 2, ownW y0 y1 y2 y3 3, ownW y0 y1 y2 y3 4, ownW y0 y1 y2 y3 5, ownW y0 y1 y2 y3 6, c0, c1, c2, s,
   viaW y0 y1 y2 y3 st 1, viaW y0 y1 y2 y3 st 2, viaW y0 y1 y2 y3 st 3, viaW y0 y1 y2 y3 st 4, viaW y0 y1 y2 y3 st 5, viaW y0 y1 y2 y3 st 6]
def wordsL (y0 y1 y2 y3 st : Int) : List Int := wordsG y0 y1 y2 y3 (clsW y0 y1 y2 y3 0) (clsW y0 y1 y2 y3 1) (clsW y0 y1 y2 y3 2) st st

theorem wordsG_len (y0 y1 y2 y3 c0 c1 c2 s st : Int) : (wordsG y0 y1 y2 y3 c0 c1 c2 s st).length = 20 := rfl

theorem ownW_none {y0 y1 y2 y3 v : Int} (h0 : y0 ≠ v) (h1 : y1 ≠ v) (h2 : y2 ≠ v) (h3 : y3 ≠ v) : ownW y0 y1 y2 y3 v = 0 := by simp [ownW, h0, h1, h2, h3]

/-- What one key adds: at its own place, at what it holds, and at that by the other way. -/
def stepW (L : List Int) (k : Nat) (x : Int) (st : Int) : List Int :=
  if (k : Int) + 1 < st then ((L.set k x).set (x + 3).toNat ((k : Int) + 1)).set (x + 13).toNat ((k : Int) + 1) else (L.set k x).set (x + 3).toNat ((k : Int) + 1)

theorem vals6 {x : Int} (h : 1 ≤ x ∧ x ≤ 6) : x = 1 ∨ x = 2 ∨ x = 3 ∨ x = 4 ∨ x = 5 ∨ x = 6 := by omega

theorem step0 (y1 y2 y3 c0 c1 c2 s st x : Int) (hx : 1 ≤ x ∧ x ≤ 6) (h1 : y1 ≠ x) (h2 : y2 ≠ x) (h3 : y3 ≠ x) : stepW (wordsG 0 y1 y2 y3 c0 c1 c2 s st) 0 x st = wordsG x y1 y2 y3 c0 c1 c2 s st := by
  rcases vals6 hx with rfl | rfl | rfl | rfl | rfl | rfl <;> by_cases hs : 1 < st <;> simp [stepW, wordsG, ownW, viaW, h1, h2, h3, hs]
theorem step1 (y0 y2 y3 c0 c1 c2 s st x : Int) (hx : 1 ≤ x ∧ x ≤ 6) (h0 : y0 ≠ x) (h2 : y2 ≠ x) (h3 : y3 ≠ x) : stepW (wordsG y0 0 y2 y3 c0 c1 c2 s st) 1 x st = wordsG y0 x y2 y3 c0 c1 c2 s st := by
  rcases vals6 hx with rfl | rfl | rfl | rfl | rfl | rfl <;> by_cases hs : 2 < st <;> simp [stepW, wordsG, ownW, viaW, h0, h2, h3, hs]
theorem step2 (y0 y1 y3 c0 c1 c2 s st x : Int) (hx : 1 ≤ x ∧ x ≤ 6) (h0 : y0 ≠ x) (h1 : y1 ≠ x) (h3 : y3 ≠ x) : stepW (wordsG y0 y1 0 y3 c0 c1 c2 s st) 2 x st = wordsG y0 y1 x y3 c0 c1 c2 s st := by
  rcases vals6 hx with rfl | rfl | rfl | rfl | rfl | rfl <;> by_cases hs : 3 < st <;> simp [stepW, wordsG, ownW, viaW, h0, h1, h3, hs]
theorem step3 (y0 y1 y2 c0 c1 c2 s st x : Int) (hx : 1 ≤ x ∧ x ≤ 6) (h0 : y0 ≠ x) (h1 : y1 ≠ x) (h2 : y2 ≠ x) : stepW (wordsG y0 y1 y2 0 c0 c1 c2 s st) 3 x st = wordsG y0 y1 y2 x c0 c1 c2 s st := by
  rcases vals6 hx with rfl | rfl | rfl | rfl | rfl | rfl <;> by_cases hs : 4 < st <;> simp [stepW, wordsG, ownW, viaW, h0, h1, h2, hs]

theorem bitW_zero {c : Int} : bitW 0 c = 0 := by simp [bitW]
theorem wordsG_new (st : Int) : wordsG 0 0 0 0 0 0 0 0 st = List.replicate 20 0 := by
  simp [wordsG, ownW, viaW, List.replicate_succ]
theorem wordsL_new (st : Int) : wordsL 0 0 0 0 st = (List.replicate 20 0).set 13 st := by
  simp [wordsL, clsW, bitW_zero, wordsG, ownW, viaW, List.replicate_succ]
theorem wordsG_cls (y0 y1 y2 y3 c0 c1 c2 s st : Int) (i : Nat) (hi : i < 3) : (wordsG y0 y1 y2 y3 c0 c1 c2 s st).getD (10 + i) 0 = [c0, c1, c2].getD i 0 := by
  have h : i = 0 ∨ i = 1 ∨ i = 2 := by omega
  rcases h with rfl | rfl | rfl <;> rfl
theorem wordsG_set (y0 y1 y2 y3 c0 c1 c2 s st u : Int) : (wordsG y0 y1 y2 y3 c0 c1 c2 s st).set 10 u = wordsG y0 y1 y2 y3 u c1 c2 s st ∧ (wordsG y0 y1 y2 y3 c0 c1 c2 s st).set 11 u = wordsG y0 y1 y2 y3 c0 u c2 s st ∧
    (wordsG y0 y1 y2 y3 c0 c1 c2 s st).set 12 u = wordsG y0 y1 y2 y3 c0 c1 u s st ∧ (wordsG y0 y1 y2 y3 c0 c1 c2 s st).set 13 u = wordsG y0 y1 y2 y3 c0 c1 c2 u st := ⟨rfl, rfl, rfl, rfl⟩

/-- What one key adds, as the program tells it: the count too. -/
def istepW (L : List Int) (k : Nat) (x : Int) (st : Int) : List Int :=
  if (k : Int) + 1 < st then (((L.set k x).set (x + 3).toNat ((k : Int) + 1)).set (10 + x % 3).toNat (((L.set k x).set (x + 3).toNat ((k : Int) + 1)).getD (10 + x % 3).toNat 0 + 1)).set (x + 13).toNat ((k : Int) + 1)
  else ((L.set k x).set (x + 3).toNat ((k : Int) + 1)).set (10 + x % 3).toNat (((L.set k x).set (x + 3).toNat ((k : Int) + 1)).getD (10 + x % 3).toNat 0 + 1)
theorem bitW_vals : bitW 1 0 = 0 ∧ bitW 1 1 = 1 ∧ bitW 1 2 = 0 ∧ bitW 2 0 = 0 ∧ bitW 2 1 = 0 ∧ bitW 2 2 = 1 ∧ bitW 3 0 = 1 ∧ bitW 3 1 = 0 ∧ bitW 3 2 = 0 ∧ bitW 4 0 = 0 ∧ bitW 4 1 = 1 ∧ bitW 4 2 = 0 ∧ bitW 5 0 = 0 ∧ bitW 5 1 = 0 ∧ bitW 5 2 = 1 ∧ bitW 6 0 = 1 ∧ bitW 6 1 = 0 ∧ bitW 6 2 = 0 := by decide
theorem istep0 (y1 y2 y3 st x : Int) (hx : 1 ≤ x ∧ x ≤ 6) (h1 : y1 ≠ x) (h2 : y2 ≠ x) (h3 : y3 ≠ x) : istepW (wordsL 0 y1 y2 y3 st) 0 x st = wordsL x y1 y2 y3 st := by
  rcases vals6 hx with rfl | rfl | rfl | rfl | rfl | rfl <;> by_cases hs : 1 < st <;> simp [istepW, wordsL, wordsG, ownW, viaW, clsW, bitW_zero, bitW_vals, h1, h2, h3, hs] <;> omega
theorem istep1 (y0 y2 y3 st x : Int) (hx : 1 ≤ x ∧ x ≤ 6) (h0 : y0 ≠ x) (h2 : y2 ≠ x) (h3 : y3 ≠ x) : istepW (wordsL y0 0 y2 y3 st) 1 x st = wordsL y0 x y2 y3 st := by
  rcases vals6 hx with rfl | rfl | rfl | rfl | rfl | rfl <;> by_cases hs : 2 < st <;> simp [istepW, wordsL, wordsG, ownW, viaW, clsW, bitW_zero, bitW_vals, h0, h2, h3, hs] <;> omega
theorem istep2 (y0 y1 y3 st x : Int) (hx : 1 ≤ x ∧ x ≤ 6) (h0 : y0 ≠ x) (h1 : y1 ≠ x) (h3 : y3 ≠ x) : istepW (wordsL y0 y1 0 y3 st) 2 x st = wordsL y0 y1 x y3 st := by
  rcases vals6 hx with rfl | rfl | rfl | rfl | rfl | rfl <;> by_cases hs : 3 < st <;> simp [istepW, wordsL, wordsG, ownW, viaW, clsW, bitW_zero, bitW_vals, h0, h1, h3, hs] <;> omega
theorem istep3 (y0 y1 y2 st x : Int) (hx : 1 ≤ x ∧ x ≤ 6) (h0 : y0 ≠ x) (h1 : y1 ≠ x) (h2 : y2 ≠ x) : istepW (wordsL y0 y1 y2 0 st) 3 x st = wordsL y0 y1 y2 x st := by
  rcases vals6 hx with rfl | rfl | rfl | rfl | rfl | rfl <;> by_cases hs : 4 < st <;> simp [istepW, wordsL, wordsG, ownW, viaW, clsW, bitW_zero, bitW_vals, h0, h1, h2, hs] <;> omega
end Go.Proofs.YtenlapppaimkkaeGreatDoor

/- spec.HowMany, walked at four numbers. -/
namespace Go.Proofs.YtenlapppaimkkaeGreatDoor
open Go.ChangeShapes Go.WideShapes Go.ChangeAt Go.RowKit

/-- How many of the first k are of class c. -/
def cntK (xs : List Int) (c : Int) : Nat → Int
  | 0 => 0
  | k + 1 => cntK xs c k + bitW (xs.getD k 0) c
theorem bitW_le (y c : Int) : 0 ≤ bitW y c ∧ bitW y c ≤ 1 := by unfold bitW; split <;> omega
theorem cntK_le (xs : List Int) (c : Int) (k : Nat) : 0 ≤ cntK xs c k ∧ cntK xs c k ≤ (k : Int) := by
  induction k with
  | zero => simp [cntK]
  | succ k ih =>
    have := bitW_le (xs.getD k 0) c
    simp only [cntK]
    omega
theorem cntK_four (xs : List Int) (c : Int) : cntK xs c 4 = clsW (xs.getD 0 0) (xs.getD 1 0) (xs.getD 2 0) (xs.getD 3 0) c := by
  simp [cntK, clsW]

theorem l1Bit_any (b : Bool) (w : World) : Calls Tryz.prog 77 #[.bool b] w fun e w' => e = .returned (.int .i64 (if b then 1 else 0)) ∧ w' = w := by
  cases b
  · go_enter Tryz.func77, Tryz.ntmps77
    go_wp2
    go_ret
    exact ⟨rfl, rfl⟩
  · go_enter Tryz.func77, Tryz.ntmps77
    go_wp2
    go_ret
    exact ⟨rfl, rfl⟩

set_option maxHeartbeats 1000000 in
theorem specHowMany_four (a : Option Addr) (cp : Nat) (st c : Int) (xs : List Int) (w : World) (hA : IntAt w a 4 xs) :
    Calls Tryz.prog 50 #[.agg #[.slice a 4 cp, .int .i64 st], .int .i64 c] w fun e w' => e = .returned (.int .i64 (cntK xs c 4)) ∧ Below w.heap.size w w' := by
  have HA : Hid (IntAt w a 4 xs) := hA
  clear hA
  go_enter Tryz.func50, Tryz.ntmps50
  go_wp2
  go_loopw [5, 6] (fun q i wr => ∃ k : Nat, k ≤ 4 ∧ q = .int .i64 (cntK xs c k) ∧ i = .int .i64 (k : Int) ∧ Below (w.heap.size + 1) (w.alloc (.cells #[.slice a 4 cp, .int .i64 st] 26)) wr) (fun _ i _ => 4 - (intOf i).toNat)
  case atStart => exact ⟨0, Nat.zero_le _, rfl, rfl, Below.refl _ _⟩
  case round =>
    obtain ⟨k, hk, rfl, rfl, hb⟩ := hrel
    have hbw : Below w.heap.size w wr := ((Below.refl _ w).alloc (Nat.le_refl _) _).trans (hb.mono (Nat.le_succ _))
    have hc0 : wr.cell? ⟨w.heap.size, 0, none⟩ = some (.slice a 4 cp) := by rw [hb.cell (by simp)]; simp
    by_cases hlt : k < 4
    · rcases (HA.out.below hbw (Nat.le_refl _)).2.2 with h0 | ⟨p1, o1, rfl, g1⟩
      · omega
      have e1 := g1 k hlt
      obtain ⟨x, hx⟩ : ∃ x, xs.getD k 0 = x := ⟨_, rfl⟩
      rw [hx] at e1
      obtain ⟨q, hq⟩ : ∃ q, cntK xs c k = q := ⟨_, rfl⟩
      have hqb := cntK_le xs c k
      have hnext : Hid (cntK xs c (k + 1) = cntK xs c k + bitW x c) := by rw [← hx]; rfl
      rw [hq] at hqb ⊢
      have HQ : Hid (cntK xs c k = q) := hq
      clear g1 hx hq
      by_cases hv : 1 ≤ x ∧ x ≤ 6
      · by_cases hc : classN x = c
        · have hbit : Hid (bitW x c = 1) := by simp [Hid, bitW, hv, hc]
          have hcc : (classN x == c) = true := by simpa using hc
          clear hc
          go_wp2_with (first
            | (go_at_call 70; refine (specValOk_any x _).mono ?_; rintro e w1 ⟨rfl, rfl⟩; rw [show decide (1 ≤ x ∧ x ≤ 6) = true from decide_eq_true hv])
            | (go_at_call 71; refine (specClassOf_any x _).mono ?_; rintro e w1 ⟨rfl, rfl⟩)
            | (go_at_call 77; refine (l1Bit_any _ _).mono ?_; rintro e w1 ⟨rfl, rfl⟩))
          exact ⟨⟨k + 1, by omega, by rw [hnext.out, HQ.out, hbit.out], by go_num, hb⟩, by simp [intOf]; omega⟩
        · have hbit : Hid (bitW x c = 0) := by simp [Hid, bitW, hc]
          have hcc : (classN x == c) = false := by simpa using hc
          clear hc
          go_wp2_with (first
            | (go_at_call 70; refine (specValOk_any x _).mono ?_; rintro e w1 ⟨rfl, rfl⟩; rw [show decide (1 ≤ x ∧ x ≤ 6) = true from decide_eq_true hv])
            | (go_at_call 71; refine (specClassOf_any x _).mono ?_; rintro e w1 ⟨rfl, rfl⟩)
            | (go_at_call 77; refine (l1Bit_any _ _).mono ?_; rintro e w1 ⟨rfl, rfl⟩))
          exact ⟨⟨k + 1, by omega, by rw [hnext.out, HQ.out, hbit.out, Int.add_zero], by go_num, hb⟩, by simp [intOf]; omega⟩
      · have hbit : Hid (bitW x c = 0) := by simp [Hid, bitW, hv]
        go_wp2_with (first
          | (go_at_call 70; refine (specValOk_any x _).mono ?_; rintro e w1 ⟨rfl, rfl⟩; rw [show decide (1 ≤ x ∧ x ≤ 6) = false from decide_eq_false hv])
          | (go_at_call 77; refine (l1Bit_any _ _).mono ?_; rintro e w1 ⟨rfl, rfl⟩))
        exact ⟨⟨k + 1, by omega, by rw [hnext.out, HQ.out, hbit.out, Int.add_zero], by go_num, hb⟩, by simp [intOf]; omega⟩
    · obtain rfl : k = 4 := by omega
      go_wp2
      go_ret
      exact ⟨rfl, hbw⟩
end Go.Proofs.YtenlapppaimkkaeGreatDoor

/- What may come of an op, and what it makes of the rows, in plain words (no program). -/
namespace Go.Proofs.YtenlapppaimkkaeGreatDoor

/-- The first key that holds v, or -1. -/
def keyN (xs : List Int) (v : Int) : Int :=
  if xs.getD 0 0 = v then 0 else if xs.getD 1 0 = v then 1 else if xs.getD 2 0 = v then 2 else if xs.getD 3 0 = v then 3 else -1
theorem keyN_is (xs : List Int) (v : Int) : KeyIs xs 4 v (keyN xs v) := by
  unfold keyN
  split
  · exact .inr ⟨0, by omega, rfl, by assumption, fun j hj => by omega⟩
  split
  · exact .inr ⟨1, by omega, rfl, by assumption, fun j hj => by obtain rfl : j = 0 := by omega
                                                                assumption⟩
  split
  · exact .inr ⟨2, by omega, rfl, by assumption, fun j hj => by rcases (show j = 0 ∨ j = 1 by omega) with rfl | rfl <;> assumption⟩
  split
  · exact .inr ⟨3, by omega, rfl, by assumption, fun j hj => by rcases (show j = 0 ∨ j = 1 ∨ j = 2 by omega) with rfl | rfl | rfl <;> assumption⟩
  · exact .inl ⟨rfl, fun j hj => by rcases (show j = 0 ∨ j = 1 ∨ j = 2 ∨ j = 3 by omega) with rfl | rfl | rfl | rfl <;> assumption⟩
theorem KeyIs.keyN {xs : List Int} {v r : Int} (h : KeyIs xs 4 v r) : r = keyN xs v := h.one (keyN_is xs v)
theorem keyN_le (xs : List Int) (v : Int) : -1 ≤ keyN xs v ∧ keyN xs v ≤ 3 := by unfold Go.Proofs.YtenlapppaimkkaeGreatDoor.keyN; repeat (first | split | omega)

/-- What key k holds. -/
abbrev atK (xs : List Int) (k : Int) : Int := xs.getD k.toNat 0
/-- A result other than RsDone may come. -/
def FailsM (xs : List Int) (st kind k v code : Int) : Prop :=
  (code = 1 ∧ kind = 1 ∧ atK xs k ≠ 0) ∨ (code = 2 ∧ (kind = 1 ∨ kind = 2) ∧ 0 ≤ keyN xs v)
  ∨ (code = 3 ∧ (((kind = 2 ∨ kind = 3 ∨ kind = 4) ∧ atK xs k = 0) ∨ (kind = 5 ∧ keyN xs v < 0) ∨ (kind = 10 ∧ st = 5 ∧ keyN xs v < 0)))
  ∨ (code = 4 ∧ ((kind = 8 ∧ st ≠ 0) ∨ (kind = 9 ∧ (st = 0 ∨ st = 5)) ∨ (kind = 10 ∧ st ≠ 5)))
/-- RsDone may come. -/
def DoneM (xs : List Int) (st kind k v : Int) : Prop :=
  (kind = 1 ∧ atK xs k = 0 ∧ keyN xs v < 0) ∨ (kind = 2 ∧ atK xs k ≠ 0 ∧ (keyN xs v < 0 ∨ keyN xs v = k)) ∨ (kind = 3 ∧ atK xs k ≠ 0) ∨ (kind = 4 ∧ atK xs k ≠ 0)
  ∨ (kind = 5 ∧ 0 ≤ keyN xs v) ∨ kind = 6 ∨ kind = 7 ∨ (kind = 8 ∧ st = 0) ∨ (kind = 9 ∧ 1 ≤ st ∧ st ≤ 4) ∨ (kind = 10 ∧ st = 5 ∧ 0 ≤ keyN xs v)
/-- The list that comes with RsDone. -/
def listM (xs : List Int) (kind k v : Int) : List Int :=
  if kind = 4 then [atK xs k] else if kind = 5 ∨ kind = 10 then [keyN xs v] else if kind = 6 then [cntK xs k 4] else if kind = 7 then xs else []
/-- s may come of o there. -/
def AllowM (xs : List Int) (st kind k v code : Int) (ys : List Int) : Prop :=
  OkRows xs st ∧ OpGood kind k v ∧ ((code ≠ 0 ∧ ys = [] ∧ FailsM xs st kind k v code) ∨ (code = 0 ∧ DoneM xs st kind k v ∧ listM xs kind k v = ys))
/-- What comes of it: the list zs, and how far the other way is made. -/
def AfterM (xs : List Int) (st kind k v code : Int) (ys zs : List Int) (st' : Int) : Prop :=
  (AllowM xs st kind k v code ys ∧ code = 0 ∧ (((kind = 1 ∨ kind = 2) ∧ zs = xs.set k.toNat v ∧ st' = st) ∨ (kind = 3 ∧ zs = xs.set k.toNat 0 ∧ st' = st)
    ∨ ((kind = 8 ∨ kind = 9) ∧ zs = xs ∧ st' = st + 1) ∨ ((4 ≤ kind ∧ kind ≤ 7 ∨ kind = 10) ∧ zs = xs ∧ st' = st)))
  ∨ (¬ (AllowM xs st kind k v code ys ∧ code = 0) ∧ zs = xs ∧ st' = st)
theorem AfterM.one {xs : List Int} {st kind k v code : Int} {ys zs zs2 : List Int} {s1 s2 : Int} (h : AfterM xs st kind k v code ys zs s1) (g : AfterM xs st kind k v code ys zs2 s2) : zs = zs2 ∧ s1 = s2 := by
  rcases h with ⟨ha, hc, h⟩ | ⟨hn, h1, h2⟩
  · rcases g with ⟨_, _, g⟩ | ⟨gn, _⟩
    · rcases h with ⟨h0, rfl, rfl⟩ | ⟨h0, rfl, rfl⟩ | ⟨h0, rfl, rfl⟩ | ⟨h0, rfl, rfl⟩ <;> rcases g with ⟨g0, rfl, rfl⟩ | ⟨g0, rfl, rfl⟩ | ⟨g0, rfl, rfl⟩ | ⟨g0, rfl, rfl⟩ <;> first | exact ⟨rfl, rfl⟩ | (exfalso; omega)
    · exact absurd ⟨ha, hc⟩ gn
  · rcases g with ⟨ga, gc, _⟩ | ⟨_, g1, g2⟩
    · exact absurd ⟨ga, gc⟩ hn
    · exact ⟨h1.trans g1.symm, h2.trans g2.symm⟩
instance (xs : List Int) (st kind k v code : Int) : Decidable (FailsM xs st kind k v code) := by unfold FailsM; infer_instance
instance (xs : List Int) (st kind k v : Int) : Decidable (DoneM xs st kind k v) := by unfold DoneM; infer_instance
end Go.Proofs.YtenlapppaimkkaeGreatDoor
