/- Texts joined: KnowM, KnowM2, Cur, Str, Draw, PickI, Hold, Range3, ImplRows. -/
import Derived.Test.YtenlapppaimkkabGreatDoorPL10
import Derived.Test.YtenlapppaimkkabGreatDoorPL18
import Derived.WalkKit
import Derived.WalkSmall
import Derived.Test.YtenlapppaimkkabGreatDoorRows
import Derived.ProofKit
import Derived.Test.YtenlapppaimkkabGreatDoorPL03
import Derived.WalkSpells
import Derived.OpenShut
import Derived.Maps.OwnRows
import Derived.Maps.OwnSet
import Derived.Maps.RangeWalk
import Derived.Maps.Views
import Derived.Test.YtenlapppaimkkabGreatDoorPL01
set_option maxHeartbeats 1000000
set_option maxRecDepth 100000
namespace Go.Proofs.YtenlapppaimkkabGreatDoor
section
open Go.ChangeShapes Go.WideShapes Go.ChangeAt Go.RowKit
def needL (f : Int → Int) (kind k v : Int) : List Int :=
  let r := f (placeN 1 k)
  if kind = 1 then placeN 1 k :: (if r ≠ 0 then [] else placeN 2 v :: (if f (placeN 2 v) ≠ 0 then [] else placeN 3 (classN v) :: 13 :: (if k + 1 < f 13 then [placeN 5 v] else [])))
  else if kind = 2 then placeN 1 k :: (if r = 0 ∨ r = v then [] else placeN 2 v :: (if f (placeN 2 v) ≠ 0 then [] else placeN 2 r :: ((if classN r = classN v then [] else [placeN 3 (classN r), placeN 3 (classN v)]) ++ 13 :: (if k + 1 < f 13 then [placeN 5 r, placeN 5 v] else []))))
  else if kind = 3 then placeN 1 k :: (if r = 0 then [] else placeN 2 r :: placeN 3 (classN r) :: 13 :: (if k + 1 < f 13 then [placeN 5 r] else []))
  else if kind = 4 then [placeN 1 k] else if kind = 5 then [placeN 2 v] else if kind = 6 then [placeN 3 k]
  else if kind = 7 then [placeN 1 0, placeN 1 1, placeN 1 2, placeN 1 3]
  else if kind = 8 then [13]
  else if kind = 9 then 13 :: (if 1 ≤ f 13 ∧ f 13 ≤ 4 then placeN 1 (f 13 - 1) :: (if f (placeN 1 (f 13 - 1)) = 0 then [] else [placeN 5 (f (placeN 1 (f 13 - 1)))]) else [])
  else 13 :: (if f 13 ≠ 5 then [] else [placeN 5 v])
def firstN (g : Int → Bool) : List Int → Int
  | [] => -1
  | p :: t => if g p = true then firstN g t else p
structure Agrees (f : Int → Int) (fs : List Int) (n : Nat) : Prop where
  same : ∀ p, 0 ≤ p → (readF fs p n).2 = true → (readF fs p n).1 = f p
structure FOk (f : Int → Int) : Prop where
  row : ∀ k, 0 ≤ k → k ≤ 3 → f (placeN 1 k) = 0 ∨ (1 ≤ f (placeN 1 k) ∧ f (placeN 1 k) ≤ 6)
  state : 0 ≤ f 13 ∧ f 13 ≤ 5
section
variable {f : Int → Int} {fs : List Int} {n : Nat}
theorem Agrees.rd (h : Agrees f fs n) {p : Int} (hp : 0 ≤ p) (hr : (readF fs p n).2 = true) : rd fs n p = f p := by
  unfold Go.Proofs.YtenlapppaimkkabGreatDoor.rd
  rw [if_neg (Int.not_lt.2 hp)]
  exact h.same p hp hr
theorem tellN {p : Int} (hp : 0 ≤ p) (o v : Int) (t : List Stp) (T : List Int) (ht : (readF fs p n).2 = true → firstR fs n (wordsT false t) = firstN (fun p => (readF fs p n).2) T) :
    firstR fs n (wordsT false (.tell p o v :: t)) = firstN (fun p => (readF fs p n).2) (p :: T) := by
  rw [first_tell, if_pos hp]
  show _ = if (readF fs p n).2 = true then _ else _
  by_cases h : (readF fs p n).2 = true
  · rw [if_pos h, if_pos h]; exact ht h
  · rw [if_neg h, if_neg h]
theorem nilN : firstR fs n (wordsT false []) = firstN (fun p => (readF fs p n).2) [] := rfl
theorem askY {b : Bool} {t : List Stp} {T : List Int} (hb : b = true) (ht : firstR fs n (wordsT false t) = firstN (fun p => (readF fs p n).2) T) : firstR fs n (wordsT false (.ask b :: t)) = firstN (fun p => (readF fs p n).2) T := by
  rw [first_ask, if_pos hb]; exact ht
theorem askN {b : Bool} {t : List Stp} (hb : b = false) : firstR fs n (wordsT false (.ask b :: t)) = firstN (fun p => (readF fs p n).2) [] := by
  rw [first_ask, if_neg (by rw [hb]; simp)]; rfl
end
theorem p1_pos {k : Int} (h : 0 ≤ k ∧ k ≤ 3) : placeN 1 k = k := by unfold placeN; rw [if_pos ⟨rfl, h⟩]
theorem p2_pos {v : Int} (h : 1 ≤ v ∧ v ≤ 6) : placeN 2 v = v + 3 := by unfold placeN; rw [if_neg (by omega), if_pos ⟨rfl, h⟩]
theorem p3_pos {c : Int} (h : 0 ≤ c ∧ c ≤ 2) : placeN 3 c = c + 10 := by unfold placeN; rw [if_neg (by omega), if_neg (by omega), if_pos ⟨rfl, h⟩]
theorem p5_pos {v : Int} (h : 1 ≤ v ∧ v ≤ 6) : placeN 5 v = v + 13 := by unfold placeN; rw [if_neg (by omega), if_neg (by omega), if_neg (by omega), if_neg (by omega), if_pos ⟨rfl, h⟩]
theorem class_pos {v : Int} (h : 1 ≤ v ∧ v ≤ 6) : 0 ≤ classN v ∧ classN v ≤ 2 := by unfold classN; rw [if_pos h]; omega

theorem first_need {f : Int → Int} {fs : List Int} {n : Nat} (hA : Agrees f fs n) (hF : FOk f) {kind k v : Int} (hg : OpGood kind k v) :
    firstR fs n (wordsT false (stepsT false fs n kind k v)) = firstN (fun p => (readF fs p n).2) (needL f kind k v) := by
  have q13 : (0 : Int) ≤ 13 := by omega
  obtain ⟨hk, hkk, hvv⟩ := hg
  rcases kinds hk with rfl | rfl | rfl | rfl | rfl | rfl | rfl | rfl | rfl | rfl
  · have hk : 0 ≤ k ∧ k ≤ 3 := by unfold KeyGood at hkk; omega
    have hv : 1 ≤ v ∧ v ≤ 6 := by unfold ValGood at hvv; omega
    have e1 := p1_pos hk
    have e2 := p2_pos hv
    have e3 := p3_pos (class_pos hv)
    have c3 := class_pos hv
    have e5 := p5_pos hv
    show firstR fs n (wordsT false (putS false fs n k v)) = _
    unfold putS needL
    rw [if_pos rfl]
    refine tellN (by omega) _ _ _ _ (fun r1 => ?_)
    have d1 := hA.rd (by omega) r1
    by_cases h1 : f (placeN 1 k) = 0
    · rw [if_neg (by omega)]
      refine askY (decide_eq_true (by rw [d1]; exact h1)) (tellN (by omega) _ _ _ _ (fun r2 => ?_))
      have d2 := hA.rd (by omega) r2
      by_cases h2 : f (placeN 2 v) = 0
      · rw [if_neg (by omega)]
        refine askY (decide_eq_true (by rw [d2]; exact h2)) (tellN (by omega) _ _ _ _ (fun r3 => tellN q13 _ _ _ _ (fun r4 => ?_)))
        have d4 := hA.rd q13 r4
        by_cases h3 : k + 1 < f 13
        · rw [if_pos h3]
          exact askY (by rw [d4]; simpa using h3) (tellN (by omega) _ _ _ _ (fun _ => nilN))
        · rw [if_neg h3]
          exact askN (by rw [d4]; simpa using h3)
      · rw [if_pos h2]
        exact askN (decide_eq_false (by rw [d2]; exact h2))
    · rw [if_pos h1]
      exact askN (decide_eq_false (by rw [d1]; exact h1))
  · have hk : 0 ≤ k ∧ k ≤ 3 := by unfold KeyGood at hkk; omega
    have hv : 1 ≤ v ∧ v ≤ 6 := by unfold ValGood at hvv; omega
    have e1 := p1_pos hk
    have e2 := p2_pos hv
    have e5 := p5_pos hv
    have hrow := hF.row k hk.1 hk.2
    show firstR fs n (wordsT false (setS false fs n k v)) = _
    unfold setS needL
    rw [if_neg (by decide), if_pos rfl]
    refine tellN (by omega) _ _ _ _ (fun r1 => ?_)
    have d1 := hA.rd (by omega) r1
    rw [d1]
    generalize hr : f (placeN 1 k) = r at hrow d1 ⊢
    by_cases h0 : r = 0
    · rw [if_pos (.inl h0)]
      exact askN (by simpa using h0)
    refine askY (by simpa using h0) ?_
    by_cases hv0 : r = v
    · rw [if_pos (.inr hv0)]
      exact askN (by simpa using hv0)
    rw [if_neg (by omega)]
    have hr6 : 1 ≤ r ∧ r ≤ 6 := by omega
    have e2' := p2_pos hr6
    have c3 := class_pos hr6
    have c3' := class_pos hv
    have e3 := p3_pos c3
    have e3' := p3_pos c3'
    have e5' := p5_pos hr6
    refine askY (by simpa using hv0) (tellN (by omega) _ _ _ _ (fun r2 => ?_))
    have d2 := hA.rd (by omega) r2
    by_cases h2 : f (placeN 2 v) = 0
    · rw [if_neg (by omega)]
      refine askY (decide_eq_true (by rw [d2]; exact h2)) (tellN (by omega) _ _ _ _ (fun r3 => ?_))
      have tl : firstR fs n (wordsT false ([stayS fs n 13, .ask (false || decide (k + 1 < rd fs n 13)), becS fs n (placeN 5 r) 0, becS fs n (placeN 5 v) (k + 1)])) = firstN (fun p => (readF fs p n).2) (13 :: (if k + 1 < f 13 then [placeN 5 r, placeN 5 v] else [])) := by
        refine tellN q13 _ _ _ _ (fun r4 => ?_)
        have d4 := hA.rd q13 r4
        by_cases h3 : k + 1 < f 13
        · rw [if_pos h3]
          exact askY (by rw [d4]; simpa using h3) (tellN (by omega) _ _ _ _ (fun _ => tellN (by omega) _ _ _ _ (fun _ => nilN)))
        · rw [if_neg h3]
          exact askN (by rw [d4]; simpa using h3)
      unfold moveS
      by_cases hc : classN r = classN v
      · rw [if_pos hc, if_pos hc]
        exact tl
      · rw [if_neg hc, if_neg hc]
        exact tellN (by omega) _ _ _ _ (fun _ => tellN (by omega) _ _ _ _ (fun _ => tl))
    · rw [if_pos h2]
      exact askN (decide_eq_false (by rw [d2]; exact h2))
  · have hk : 0 ≤ k ∧ k ≤ 3 := by unfold KeyGood at hkk; omega
    have e1 := p1_pos hk
    have hrow := hF.row k hk.1 hk.2
    show firstR fs n (wordsT false (delS false fs n k)) = _
    unfold delS needL
    rw [if_neg (by decide), if_neg (by decide), if_pos rfl]
    refine tellN (by omega) _ _ _ _ (fun r1 => ?_)
    have d1 := hA.rd (by omega) r1
    rw [d1]
    generalize hr : f (placeN 1 k) = r at hrow d1 ⊢
    by_cases h0 : r = 0
    · rw [if_pos h0, h0]
      rw [show becS fs n (placeN 2 0) 0 = .tell (-1) (rd fs n (-1)) 0 from rfl, first_tell, if_neg (by omega)]; rfl
    rw [if_neg h0]
    have hr6 : 1 ≤ r ∧ r ≤ 6 := by omega
    have e2' := p2_pos hr6
    have c3 := class_pos hr6
    have e3 := p3_pos c3
    have e5' := p5_pos hr6
    refine tellN (by omega) _ _ _ _ (fun _ => tellN (by omega) _ _ _ _ (fun _ => tellN q13 _ _ _ _ (fun r4 => ?_)))
    have d4 := hA.rd q13 r4
    by_cases h3 : k + 1 < f 13
    · rw [if_pos h3]
      exact askY (by rw [d4]; simpa using h3) (tellN (by omega) _ _ _ _ (fun _ => nilN))
    · rw [if_neg h3]
      exact askN (by rw [d4]; simpa using h3)
  · have hk : 0 ≤ k ∧ k ≤ 3 := by unfold KeyGood at hkk; omega
    have e1 := p1_pos hk
    exact tellN (by omega) _ _ _ _ (fun _ => nilN)
  · have hv : 1 ≤ v ∧ v ≤ 6 := by unfold ValGood at hvv; omega
    have e2 := p2_pos hv
    exact tellN (by omega) _ _ _ _ (fun _ => nilN)
  · have hk : 0 ≤ k ∧ k ≤ 2 := by unfold KeyGood at hkk; omega
    have e3 := p3_pos hk
    exact tellN (by omega) _ _ _ _ (fun _ => nilN)
  · have z0 : placeN 1 0 = 0 := p1_pos (by omega)
    have z1 : placeN 1 1 = 1 := p1_pos (by omega)
    have z2 : placeN 1 2 = 2 := p1_pos (by omega)
    have z3 : placeN 1 3 = 3 := p1_pos (by omega)
    exact tellN (by omega) _ _ _ _ (fun _ => tellN (by omega) _ _ _ _ (fun _ => tellN (by omega) _ _ _ _ (fun _ => tellN (by omega) _ _ _ _ (fun _ => nilN))))
  · exact tellN q13 _ _ _ _ (fun _ => nilN)
  · show firstR fs n (wordsT false (makeS fs n)) = firstN _ (13 :: (if 1 ≤ f 13 ∧ f 13 ≤ 4 then placeN 1 (f 13 - 1) :: (if f (placeN 1 (f 13 - 1)) = 0 then [] else [placeN 5 (f (placeN 1 (f 13 - 1)))]) else []))
    unfold makeS
    refine tellN q13 _ _ _ _ (fun r1 => ?_)
    have d1 := hA.rd q13 r1
    have hs := hF.state
    have ew : wrap64 (rd fs n 13 - 1) = f 13 - 1 := by rw [d1]; unfold wrap64; omega
    rw [ew]
    by_cases h1 : 1 ≤ f 13 ∧ f 13 ≤ 4
    · rw [if_pos h1]
      have hk : 0 ≤ f 13 - 1 ∧ f 13 - 1 ≤ 3 := by omega
      have e1 := p1_pos hk
      have hrow := hF.row (f 13 - 1) hk.1 hk.2
      refine tellN (by omega) _ _ _ _ (fun r2 => ?_)
      have d2 := hA.rd (by omega) r2
      rw [d2]
      by_cases h0 : f (placeN 1 (f 13 - 1)) = 0
      · rw [if_pos h0, h0]
        rw [show becS fs n (placeN 5 0) (wrap64 (f 13 - 1 + 1)) = .tell (-1) (rd fs n (-1)) (wrap64 (f 13 - 1 + 1)) from rfl, first_tell, if_neg (by omega)]; rfl
      · rw [if_neg h0]
        have e5 := p5_pos (show 1 ≤ f (placeN 1 (f 13 - 1)) ∧ f (placeN 1 (f 13 - 1)) ≤ 6 by omega)
        exact tellN (by omega) _ _ _ _ (fun _ => nilN)
    · rw [if_neg h1]
      have e1 : placeN 1 (f 13 - 1) = -1 := by unfold placeN; rw [if_neg (by omega), if_neg (by omega), if_neg (by omega), if_neg (by omega), if_neg (by omega)]
      rw [stayS, e1, first_tell, if_neg (by omega)]; rfl
  · have hv : 1 ≤ v ∧ v ≤ 6 := by unfold ValGood at hvv; omega
    have e5 := p5_pos hv
    show firstR fs n (wordsT false (viaS fs n v)) = firstN _ (13 :: (if f 13 ≠ 5 then [] else [placeN 5 v]))
    unfold viaS
    refine tellN q13 _ _ _ _ (fun r1 => ?_)
    have d1 := hA.rd q13 r1
    by_cases h1 : f 13 = 5
    · rw [if_neg (by omega)]
      exact askY (decide_eq_true (by rw [d1]; exact h1)) (tellN (by omega) _ _ _ _ (fun _ => nilN))
    · rw [if_pos h1]
      exact askN (decide_eq_false (by rw [d1]; exact h1))
def flatP (f : Int → Int) (ps : List Int) : List Int := ps.flatMap fun p => [p, f p]
theorem flatP_len (f : Int → Int) (ps : List Int) : (flatP f ps).length = ps.length * 2 := by
  induction ps with
  | nil => rfl
  | cons x t ih => simp only [flatP, List.flatMap_cons, List.length_append, List.length_cons, List.length_nil] at ih ⊢; omega
theorem flatP_snoc (f : Int → Int) (ps : List Int) (p : Int) : flatP f (ps ++ [p]) = flatP f ps ++ [p, f p] := by simp [flatP]
theorem readF_app (gs hs : List Int) (p : Int) : ∀ n, n * 2 ≤ gs.length → readF (gs ++ hs) p n = readF gs p n
  | 0, _ => rfl
  | n + 1, h => by
    have e0 : (gs ++ hs).getD (n * 2) 0 = gs.getD (n * 2) 0 := by simp [List.getD, List.getElem?_append_left (show n * 2 < gs.length by omega)]
    have e1 : (gs ++ hs).getD (n * 2 + 1) 0 = gs.getD (n * 2 + 1) 0 := by simp [List.getD, List.getElem?_append_left (show n * 2 + 1 < gs.length by omega)]
    unfold readF
    rw [e0, e1, readF_app gs hs p n (by omega)]
theorem read_last (f : Int → Int) (ps : List Int) (x p : Int) : readF (flatP f (ps ++ [x])) p (ps.length + 1) = if x = p then (f x, true) else readF (flatP f ps) p ps.length := by
  rw [flatP_snoc]
  have hl := flatP_len f ps
  have e0 : (flatP f ps ++ [x, f x]).getD (ps.length * 2) 0 = x := by simp [List.getD, ← hl]
  have e1 : (flatP f ps ++ [x, f x]).getD (ps.length * 2 + 1) 0 = f x := by simp [List.getD, ← hl]
  show (if _ = p then _ else _) = _
  rw [e0, e1, readF_app _ _ _ _ (by omega)]
theorem read_flat (f : Int → Int) (p : Int) (ps : List Int) : readF (flatP f ps) p ps.length = if p ∈ ps then (f p, true) else (0, false) := by
  have key : ∀ (m : Nat) (ps : List Int), ps.length = m → readF (flatP f ps) p ps.length = if p ∈ ps then (f p, true) else (0, false) := by
    intro m
    induction m with
    | zero => intro ps h; cases ps with
      | nil => rfl
      | cons x t => simp at h
    | succ m ih =>
      intro ps h
      obtain ⟨qs, x, rfl⟩ : ∃ qs x, ps = qs ++ [x] := ⟨ps.dropLast, ps.getLast (by intro e; rw [e] at h; simp at h), (List.dropLast_concat_getLast _).symm⟩
      have hq : qs.length = m := by simpa using h
      rw [show (qs ++ [x]).length = qs.length + 1 by simp, read_last, ih qs hq]
      by_cases hx : x = p
      · rw [if_pos hx, if_pos (by simp [hx]), hx]
      · rw [if_neg hx]
        have hm : (p ∈ qs ++ [x]) ↔ p ∈ qs := by simp; intro e; exact absurd e.symm hx
        by_cases hp : p ∈ qs
        · rw [if_pos hp, if_pos (hm.2 hp)]
        · rw [if_neg hp, if_neg (fun h => hp (hm.1 h))]
  exact key _ ps rfl
theorem agrees_flat (f : Int → Int) (ps : List Int) : Agrees f (flatP f ps) ps.length := ⟨fun p _ h => by
  rw [read_flat] at h ⊢
  by_cases hp : p ∈ ps
  · rw [if_pos hp]
  · rw [if_neg hp] at h; cases h⟩
theorem goR_flat (f : Int → Int) (ps : List Int) (p : Int) : (readF (flatP f ps) p ps.length).2 = decide (p ∈ ps) := by
  rw [read_flat]
  by_cases hp : p ∈ ps
  · rw [if_pos hp, decide_eq_true hp]
  · rw [if_neg hp, decide_eq_false hp]
theorem firstN_take : ∀ (L : List Int) (i : Nat), L.Nodup → firstN (fun p => decide (p ∈ L.take i)) L = L.getD i (-1) := by
  have key : ∀ (L A : List Int) (i : Nat), (A ++ L).Nodup → firstN (fun p => decide (p ∈ A ++ L.take i)) L = L.getD i (-1) := by
    intro L
    induction L with
    | nil => intro A i _; rfl
    | cons x t ih =>
      intro A i h
      cases i with
      | zero =>
        have hx : x ∉ A := fun hx => by
          have := (List.nodup_append.1 h).2.2 x hx x (by simp)
          exact this rfl
        show (if decide (x ∈ A ++ []) = true then _ else _) = _
        rw [if_neg (by simpa using hx)]; rfl
      | succ i =>
        show (if decide (x ∈ A ++ x :: t.take i) = true then _ else _) = _
        rw [if_pos (by simp)]
        have := ih (A ++ [x]) i (by simpa using h)
        simpa using this
  intro L i h
  simpa using key L [] i h

theorem need_ok {f : Int → Int} (hF : FOk f) {kind k v : Int} (hg : OpGood kind k v) : (needL f kind k v).Nodup ∧ (needL f kind k v).length ≤ 8 ∧ (∀ p ∈ needL f kind k v, 0 ≤ p ∧ p ≤ 19) ∧ 0 < (needL f kind k v).length := by
  obtain ⟨hk, hkk, hvv⟩ := hg
  unfold needL
  have hs := hF.state
  rcases kinds hk with rfl | rfl | rfl | rfl | rfl | rfl | rfl | rfl | rfl | rfl
  · have hk : 0 ≤ k ∧ k ≤ 3 := by unfold KeyGood at hkk; omega
    have hv : 1 ≤ v ∧ v ≤ 6 := by unfold ValGood at hvv; omega
    have c3 := class_pos hv
    rw [if_pos rfl, p1_pos hk, p2_pos hv, p3_pos c3, p5_pos hv]
    repeat' split
    all_goals refine ⟨by simp <;> omega, by simp, ?_, by simp⟩
    all_goals (intro p hp; simp at hp; omega)
  · have hk : 0 ≤ k ∧ k ≤ 3 := by unfold KeyGood at hkk; omega
    have hv : 1 ≤ v ∧ v ≤ 6 := by unfold ValGood at hvv; omega
    have c3 := class_pos hv
    have hrow := hF.row k hk.1 hk.2
    rw [if_neg (by decide), if_pos rfl]
    generalize f (placeN 1 k) = r at hrow ⊢
    rw [p1_pos hk]
    by_cases h0 : r = 0 ∨ r = v
    · rw [if_pos h0]; exact ⟨by simp, by simp, by intro p hp; simp at hp; omega, by simp⟩
    rw [if_neg h0]
    have hr : 1 ≤ r ∧ r ≤ 6 := by omega
    have c3' := class_pos hr
    rw [p2_pos hv, p2_pos hr, p3_pos c3, p3_pos c3', p5_pos hv, p5_pos hr]
    repeat' split
    all_goals refine ⟨by simp <;> omega, by simp, ?_, by simp⟩
    all_goals (intro p hp; simp at hp; omega)
  · have hk : 0 ≤ k ∧ k ≤ 3 := by unfold KeyGood at hkk; omega
    have hrow := hF.row k hk.1 hk.2
    rw [if_neg (by decide), if_neg (by decide), if_pos rfl]
    generalize f (placeN 1 k) = r at hrow ⊢
    rw [p1_pos hk]
    by_cases h0 : r = 0
    · rw [if_pos h0]; exact ⟨by simp, by simp, by intro p hp; simp at hp; omega, by simp⟩
    rw [if_neg h0]
    have hr : 1 ≤ r ∧ r ≤ 6 := by omega
    have c3' := class_pos hr
    rw [p2_pos hr, p3_pos c3', p5_pos hr]
    repeat' split
    all_goals refine ⟨by simp <;> omega, by simp, ?_, by simp⟩
    all_goals (intro p hp; simp at hp; omega)
  · have hk : 0 ≤ k ∧ k ≤ 3 := by unfold KeyGood at hkk; omega
    rw [if_neg (by decide), if_neg (by decide), if_neg (by decide), if_pos rfl, p1_pos hk]
    exact ⟨by simp, by simp, by intro p hp; simp at hp; omega, by simp⟩
  · have hv : 1 ≤ v ∧ v ≤ 6 := by unfold ValGood at hvv; omega
    rw [if_neg (by decide), if_neg (by decide), if_neg (by decide), if_neg (by decide), if_pos rfl, p2_pos hv]
    exact ⟨by simp, by simp, by intro p hp; simp at hp; omega, by simp⟩
  · have hk : 0 ≤ k ∧ k ≤ 2 := by unfold KeyGood at hkk; omega
    rw [if_neg (by decide), if_neg (by decide), if_neg (by decide), if_neg (by decide), if_neg (by decide), if_pos rfl, p3_pos hk]
    exact ⟨by simp, by simp, by intro p hp; simp at hp; omega, by simp⟩
  · rw [if_neg (by decide), if_neg (by decide), if_neg (by decide), if_neg (by decide), if_neg (by decide), if_neg (by decide), if_pos rfl, p1_pos (by omega), p1_pos (by omega), p1_pos (by omega), p1_pos (by omega)]
    exact ⟨by decide, by decide, by intro p hp; simp at hp; omega, by decide⟩
  · rw [if_neg (by decide), if_neg (by decide), if_neg (by decide), if_neg (by decide), if_neg (by decide), if_neg (by decide), if_neg (by decide), if_pos rfl]
    exact ⟨by decide, by decide, by intro p hp; simp at hp; omega, by decide⟩
  · rw [if_neg (by decide), if_neg (by decide), if_neg (by decide), if_neg (by decide), if_neg (by decide), if_neg (by decide), if_neg (by decide), if_neg (by decide), if_pos rfl]
    by_cases h1 : 1 ≤ f 13 ∧ f 13 ≤ 4
    · rw [if_pos h1]
      have hk : 0 ≤ f 13 - 1 ∧ f 13 - 1 ≤ 3 := by omega
      have hrow := hF.row (f 13 - 1) hk.1 hk.2
      generalize f (placeN 1 (f 13 - 1)) = r at hrow ⊢
      rw [p1_pos hk]
      by_cases h0 : r = 0
      · rw [if_pos h0]; exact ⟨by simp; omega, by simp, by intro p hp; simp at hp; omega, by simp⟩
      · rw [if_neg h0, p5_pos (by omega)]; exact ⟨by simp; omega, by simp, by intro p hp; simp at hp; omega, by simp⟩
    · rw [if_neg h1]; exact ⟨by simp, by simp, by intro p hp; simp at hp; omega, by simp⟩
  · have hv : 1 ≤ v ∧ v ≤ 6 := by unfold ValGood at hvv; omega
    rw [if_neg (by decide), if_neg (by decide), if_neg (by decide), if_neg (by decide), if_neg (by decide), if_neg (by decide), if_neg (by decide), if_neg (by decide), if_neg (by decide), p5_pos hv]
    repeat' split
    all_goals refine ⟨by simp; try omega, by simp, ?_, by simp⟩
    all_goals (intro p hp; simp at hp; omega)
theorem next_prefix {f : Int → Int} (hF : FOk f) {kind k v : Int} (hg : OpGood kind k v) (i : Nat) (hi : i ≤ (needL f kind k v).length) :
    nextM (flatP f ((needL f kind k v).take i)) i kind k v = (needL f kind k v).getD i (-1) := by
  have hl : ((needL f kind k v).take i).length = i := by rw [List.length_take]; omega
  have hA := agrees_flat f ((needL f kind k v).take i)
  have hs := hF.state
  have hw : (Lit.int .i64 (rd (flatP f ((needL f kind k v).take i)) i 13)).wf = true := by
    unfold rd
    rw [if_neg (by omega)]
    have e := read_flat f 13 ((needL f kind k v).take i)
    rw [hl] at e
    rw [e]
    split
    · exact WalkArith.wf_i64 (by show _ ≤ f 13 ∧ f 13 ≤ _; omega)
    · decide
  rw [next_words _ _ _ _ _ hw hg]
  rw [hl] at hA
  rw [first_need hA hF hg]
  have e : (fun p => (readF (flatP f ((needL f kind k v).take i)) p i).2) = fun p => decide (p ∈ (needL f kind k v).take i) := by
    funext p
    have h := goR_flat f ((needL f kind k v).take i) p
    rw [hl] at h
    exact h
  rw [e]
  exact firstN_take _ i (need_ok hF hg).1

def keyE (x : Ent) : Int × Int := (x.1, x.2.1)
section
variable {f : Int → Int} {fs : List Int} {n : Nat}
theorem got_yes (hA : Agrees f fs n) {p : Int} (hp : 0 ≤ p) (hr : (readF fs p n).2 = true) {v : Int} {t : List Stp} {T : List (Int × Int)} (ht : ((wordsT true t).filter (goR fs n)).map keyE = T) :
    ((wordsT true (.tell p (rd fs n p) v :: t)).filter (goR fs n)).map keyE = (p, f p) :: T := by
  rw [show wordsT true (.tell p (rd fs n p) v :: t) = (p, rd fs n p, v) :: wordsT true t by rw [wordsT, if_pos hp], List.filter_cons_of_pos (by exact hr), List.map_cons, ht, hA.rd hp hr]; rfl
theorem got_no {p o v : Int} (hr : p < 0 ∨ (readF fs p n).2 = false) {t : List Stp} : ((wordsT true (.tell p o v :: t)).filter (goR fs n)).map keyE = ((wordsT true t).filter (goR fs n)).map keyE := by
  by_cases hp : 0 ≤ p
  · rw [show wordsT true (.tell p o v :: t) = (p, o, v) :: wordsT true t by rw [wordsT, if_pos hp], List.filter_cons_of_neg (by
      rcases hr with h | h
      · omega
      · show ¬ (readF fs p n).2 = true; rw [h]; simp)]
  · rw [show wordsT true (.tell p o v :: t) = wordsT true t by rw [wordsT, if_neg hp, if_pos rfl]]
theorem got_ask {b : Bool} (hb : b = true) {t : List Stp} {T : List (Int × Int)} (ht : ((wordsT true t).filter (goR fs n)).map keyE = T) : ((wordsT true (.ask b :: t)).filter (goR fs n)).map keyE = T := by
  rw [show wordsT true (.ask b :: t) = wordsT true t by rw [wordsT, if_pos hb]]; exact ht
theorem got_nil : ((wordsT true []).filter (goR fs n)).map keyE = [] := rfl
end
theorem ifL_nil {b : Bool} {x : Int × List Int} (h : ifL b x = []) : b = false := by
  cases b with
  | true => cases h
  | false => rfl
theorem got_all {f : Int → Int} (hF : FOk f) {kind k v : Int} (hg : OpGood kind k v) (hn : nowL (flatP f (needL f kind k v)) (needL f kind k v).length kind k v = []) :
    (gotL (flatP f (needL f kind k v)) (needL f kind k v).length kind k v).map keyE = (needL f kind k v).map fun p => (p, f p) := by
  have hA := agrees_flat f (needL f kind k v)
  have hm : ∀ p, (readF (flatP f (needL f kind k v)) p (needL f kind k v).length).2 = decide (p ∈ needL f kind k v) := goR_flat f (needL f kind k v)
  have hok := need_ok hF hg
  have hs := hF.state
  have q13 : (0 : Int) ≤ 13 := by omega
  unfold gotL
  generalize hL : needL f kind k v = L at hA hm hok hn ⊢
  generalize hfs : flatP f L = fs at hA hm hn ⊢
  generalize hnn : L.length = n at hA hm hok hn ⊢
  have yes : ∀ p, p ∈ L → (readF fs p n).2 = true := fun p hp => by rw [hm, decide_eq_true hp]
  have no : ∀ p, p ∉ L → (readF fs p n).2 = false := fun p hp => by rw [hm, decide_eq_false hp]
  obtain ⟨hk, hkk, hvv⟩ := hg
  clear hfs hnn
  rcases kinds hk with rfl | rfl | rfl | rfl | rfl | rfl | rfl | rfl | rfl | rfl
  · have hk : 0 ≤ k ∧ k ≤ 3 := by unfold KeyGood at hkk; omega
    have hv : 1 ≤ v ∧ v ≤ 6 := by unfold ValGood at hvv; omega
    have c3 := class_pos hv
    have e1 := p1_pos hk
    have e2 := p2_pos hv
    have e3 := p3_pos c3
    have e5 := p5_pos hv
    rw [nowL_1] at hn
    have n1 := ifL_nil (List.append_eq_nil_iff.1 hn).1
    have n2 := ifL_nil (List.append_eq_nil_iff.1 hn).2
    have i1 : placeN 1 k ∈ L := by rw [← hL]; unfold needL; rw [if_pos rfl]; simp
    have d1 := hA.rd (p := placeN 1 k) (by omega) (yes _ i1)
    have z1 : f (placeN 1 k) = 0 := by rw [d1] at n1; simpa using n1
    have hL1 : L = placeN 1 k :: placeN 2 v :: (if f (placeN 2 v) ≠ 0 then [] else placeN 3 (classN v) :: 13 :: (if k + 1 < f 13 then [placeN 5 v] else [])) := by rw [← hL]; unfold needL; rw [if_pos rfl, if_neg (by omega)]
    have i2 : placeN 2 v ∈ L := by rw [hL1]; simp
    have d2 := hA.rd (p := placeN 2 v) (by omega) (yes _ i2)
    have z2 : f (placeN 2 v) = 0 := by rw [d2] at n2; simpa using n2
    rw [if_neg (by omega)] at hL1
    have i3 : placeN 3 (classN v) ∈ L := by rw [hL1]; simp
    have i4 : (13 : Int) ∈ L := by rw [hL1]; simp
    show ((wordsT true (putS true fs n k v)).filter (goR fs n)).map keyE = _
    unfold putS
    by_cases h5 : k + 1 < f 13
    · rw [if_pos h5] at hL1
      have i5 : placeN 5 v ∈ L := by rw [hL1]; simp
      rw [hL1]
      exact got_yes hA (by omega) (yes _ i1) (got_ask (decide_eq_true (by rw [d1]; exact z1)) (got_yes hA (by omega) (yes _ i2) (got_ask (decide_eq_true (by rw [d2]; exact z2)) (got_yes hA (by omega) (yes _ i3) (got_yes hA q13 (yes _ i4) (got_ask rfl (got_yes hA (by omega) (yes _ i5) got_nil)))))))
    · rw [if_neg h5] at hL1
      have i5 : placeN 5 v ∉ L := by rw [hL1, e1, e2, e3, e5]; simp; omega
      rw [hL1]
      exact got_yes hA (by omega) (yes _ i1) (got_ask (decide_eq_true (by rw [d1]; exact z1)) (got_yes hA (by omega) (yes _ i2) (got_ask (decide_eq_true (by rw [d2]; exact z2)) (got_yes hA (by omega) (yes _ i3) (got_yes hA q13 (yes _ i4) (got_ask rfl (got_no (.inr (no _ i5)))))))))
  · have hk : 0 ≤ k ∧ k ≤ 3 := by unfold KeyGood at hkk; omega
    have hv : 1 ≤ v ∧ v ≤ 6 := by unfold ValGood at hvv; omega
    have c3 := class_pos hv
    have e1 := p1_pos hk
    have e2 := p2_pos hv
    have e3 := p3_pos c3
    have e5 := p5_pos hv
    rw [nowL_2] at hn
    have n0 := ifL_nil (List.append_eq_nil_iff.1 (List.append_eq_nil_iff.1 hn).1).1
    have n1 := ifL_nil (List.append_eq_nil_iff.1 (List.append_eq_nil_iff.1 hn).1).2
    have n2 := ifL_nil (List.append_eq_nil_iff.1 hn).2
    have i1 : placeN 1 k ∈ L := by rw [← hL]; unfold needL; rw [if_neg (by decide), if_pos rfl]; simp
    have d1 := hA.rd (p := placeN 1 k) (by omega) (yes _ i1)
    have hrow := hF.row k hk.1 hk.2
    rw [d1] at n0 n1
    have hL1 : L = placeN 1 k :: (if f (placeN 1 k) = 0 ∨ f (placeN 1 k) = v then [] else placeN 2 v :: (if f (placeN 2 v) ≠ 0 then [] else placeN 2 (f (placeN 1 k)) :: ((if classN (f (placeN 1 k)) = classN v then [] else [placeN 3 (classN (f (placeN 1 k))), placeN 3 (classN v)]) ++ 13 :: (if k + 1 < f 13 then [placeN 5 (f (placeN 1 k)), placeN 5 v] else [])))) := by rw [← hL]; unfold needL; rw [if_neg (by decide), if_pos rfl]
    show ((wordsT true (setS true fs n k v)).filter (goR fs n)).map keyE = _
    unfold setS
    rw [d1]
    have k1 : ∀ t T, ((wordsT true t).filter (goR fs n)).map keyE = T → ((wordsT true (becS fs n (placeN 1 k) v :: t)).filter (goR fs n)).map keyE = (placeN 1 k, f (placeN 1 k)) :: T := fun t T h => got_yes hA (by omega) (yes _ i1) h
    generalize hr : f (placeN 1 k) = r at n0 n1 hrow hL1 k1 ⊢
    have z0 : ¬ r = 0 := by simpa using n0
    have z1 : ¬ r = v := by simpa using n1
    rw [if_neg (by omega)] at hL1
    have i2 : placeN 2 v ∈ L := by rw [hL1]; simp
    have d2 := hA.rd (p := placeN 2 v) (by omega) (yes _ i2)
    have z2 : f (placeN 2 v) = 0 := by rw [d2] at n2; simpa using n2
    rw [if_neg (by omega)] at hL1
    have hr6 : 1 ≤ r ∧ r ≤ 6 := by omega
    have c3' := class_pos hr6
    have e2' := p2_pos hr6
    have e3' := p3_pos c3'
    have e5' := p5_pos hr6
    have i3 : placeN 2 r ∈ L := by rw [hL1]; simp
    have i4 : (13 : Int) ∈ L := by rw [hL1]; simp
    have tl : ((wordsT true [stayS fs n 13, .ask (true || decide (k + 1 < rd fs n 13)), becS fs n (placeN 5 r) 0, becS fs n (placeN 5 v) (k + 1)]).filter (goR fs n)).map keyE = (13 :: (if k + 1 < f 13 then [placeN 5 r, placeN 5 v] else [])).map fun p => (p, f p) := by
      by_cases h5 : k + 1 < f 13
      · rw [if_pos h5] at hL1 ⊢
        have j1 : placeN 5 r ∈ L := by rw [hL1]; simp
        have j2 : placeN 5 v ∈ L := by rw [hL1]; simp
        exact got_yes hA q13 (yes _ i4) (got_ask rfl (got_yes hA (by omega) (yes _ j1) (got_yes hA (by omega) (yes _ j2) got_nil)))
      · rw [if_neg h5] at hL1 ⊢
        have j1 : placeN 5 r ∉ L := by
          rw [hL1, e1, e2, e2', e3, e3', e5']
          split <;> simp <;> omega
        have j2 : placeN 5 v ∉ L := by
          rw [hL1, e1, e2, e2', e3, e3', e5]
          split <;> simp <;> omega
        exact got_yes hA q13 (yes _ i4) (got_ask rfl ((got_no (.inr (no _ j1))).trans (got_no (.inr (no _ j2)))))
    unfold moveS
    dsimp only
    by_cases hc : classN r = classN v
    · rw [if_pos hc]
      rw [if_pos hc] at hL1
      rw [hL1, List.map_cons, hr]
      exact k1 _ _ (got_ask (by simpa using z0) (got_ask (by simpa using z1) (got_yes hA (by omega) (yes _ i2) (got_ask (decide_eq_true (by rw [d2]; exact z2)) (got_yes hA (by omega) (yes _ i3) tl)))))
    · rw [if_neg hc]
      rw [if_neg hc] at hL1
      have j3 : placeN 3 (classN r) ∈ L := by rw [hL1]; simp
      have j4 : placeN 3 (classN v) ∈ L := by rw [hL1]; simp
      rw [hL1, List.map_cons, hr]
      exact k1 _ _ (got_ask (by simpa using z0) (got_ask (by simpa using z1) (got_yes hA (by omega) (yes _ i2) (got_ask (decide_eq_true (by rw [d2]; exact z2)) (got_yes hA (by omega) (yes _ i3) (got_yes hA (by omega) (yes _ j3) (got_yes hA (by omega) (yes _ j4) tl)))))))
  · have hk : 0 ≤ k ∧ k ≤ 3 := by unfold KeyGood at hkk; omega
    have e1 := p1_pos hk
    rw [nowL_3] at hn
    have n0 := ifL_nil hn
    have i1 : placeN 1 k ∈ L := by rw [← hL]; unfold needL; rw [if_neg (by decide), if_neg (by decide), if_pos rfl]; simp
    have d1 := hA.rd (p := placeN 1 k) (by omega) (yes _ i1)
    have hrow := hF.row k hk.1 hk.2
    rw [d1] at n0
    have hL1 : L = placeN 1 k :: (if f (placeN 1 k) = 0 then [] else placeN 2 (f (placeN 1 k)) :: placeN 3 (classN (f (placeN 1 k))) :: 13 :: (if k + 1 < f 13 then [placeN 5 (f (placeN 1 k))] else [])) := by rw [← hL]; unfold needL; rw [if_neg (by decide), if_neg (by decide), if_pos rfl]
    show ((wordsT true (delS true fs n k)).filter (goR fs n)).map keyE = _
    unfold delS
    rw [d1]
    have k1 : ∀ t T, ((wordsT true t).filter (goR fs n)).map keyE = T → ((wordsT true (becS fs n (placeN 1 k) 0 :: t)).filter (goR fs n)).map keyE = (placeN 1 k, f (placeN 1 k)) :: T := fun t T h => got_yes hA (by omega) (yes _ i1) h
    generalize hr : f (placeN 1 k) = r at n0 hrow hL1 k1 ⊢
    have z0 : ¬ r = 0 := by simpa using n0
    rw [if_neg z0] at hL1
    have hr6 : 1 ≤ r ∧ r ≤ 6 := by omega
    have c3' := class_pos hr6
    have e2' := p2_pos hr6
    have e3' := p3_pos c3'
    have e5' := p5_pos hr6
    have i2 : placeN 2 r ∈ L := by rw [hL1]; simp
    have i3 : placeN 3 (classN r) ∈ L := by rw [hL1]; simp
    have i4 : (13 : Int) ∈ L := by rw [hL1]; simp
    by_cases h5 : k + 1 < f 13
    · rw [if_pos h5] at hL1
      have j1 : placeN 5 r ∈ L := by rw [hL1]; simp
      rw [hL1, List.map_cons, hr]
      exact k1 _ _ (got_yes hA (by omega) (yes _ i2) (got_yes hA (by omega) (yes _ i3) (got_yes hA q13 (yes _ i4) (got_ask rfl (got_yes hA (by omega) (yes _ j1) got_nil)))))
    · rw [if_neg h5] at hL1
      have j1 : placeN 5 r ∉ L := by rw [hL1, e1, e2', e3', e5']; simp; omega
      rw [hL1, List.map_cons, hr]
      exact k1 _ _ (got_yes hA (by omega) (yes _ i2) (got_yes hA (by omega) (yes _ i3) (got_yes hA q13 (yes _ i4) (got_ask rfl (got_no (.inr (no _ j1)))))))
  · exact absurd hn (now_some fs n 4 k v (by omega))
  · exact absurd hn (now_some fs n 5 k v (by omega))
  · exact absurd hn (now_some fs n 6 k v (by omega))
  · have z0 : placeN 1 0 = 0 := p1_pos (by omega)
    have z1 : placeN 1 1 = 1 := p1_pos (by omega)
    have z2 : placeN 1 2 = 2 := p1_pos (by omega)
    have z3 : placeN 1 3 = 3 := p1_pos (by omega)
    have hL1 : L = [placeN 1 0, placeN 1 1, placeN 1 2, placeN 1 3] := by rw [← hL]; unfold needL; rw [if_neg (by decide), if_neg (by decide), if_neg (by decide), if_neg (by decide), if_neg (by decide), if_neg (by decide), if_pos rfl]
    have i0 : placeN 1 0 ∈ L := by rw [hL1]; simp
    have i1 : placeN 1 1 ∈ L := by rw [hL1]; simp
    have i2 : placeN 1 2 ∈ L := by rw [hL1]; simp
    have i3 : placeN 1 3 ∈ L := by rw [hL1]; simp
    rw [hL1]
    exact got_yes hA (by omega) (yes _ i0) (got_yes hA (by omega) (yes _ i1) (got_yes hA (by omega) (yes _ i2) (got_yes hA (by omega) (yes _ i3) got_nil)))
  · have hL1 : L = [13] := by rw [← hL]; unfold needL; rw [if_neg (by decide), if_neg (by decide), if_neg (by decide), if_neg (by decide), if_neg (by decide), if_neg (by decide), if_neg (by decide), if_pos rfl]
    have i0 : (13 : Int) ∈ L := by rw [hL1]; simp
    rw [hL1]
    exact got_yes hA q13 (yes _ i0) got_nil
  · have hL1 : L = 13 :: (if 1 ≤ f 13 ∧ f 13 ≤ 4 then placeN 1 (f 13 - 1) :: (if f (placeN 1 (f 13 - 1)) = 0 then [] else [placeN 5 (f (placeN 1 (f 13 - 1)))]) else []) := by rw [← hL]; unfold needL; rw [if_neg (by decide), if_neg (by decide), if_neg (by decide), if_neg (by decide), if_neg (by decide), if_neg (by decide), if_neg (by decide), if_neg (by decide), if_pos rfl]
    have i0 : (13 : Int) ∈ L := by rw [hL1]; simp
    have d0 := hA.rd (p := 13) q13 (yes _ i0)
    rw [nowL_9] at hn
    have n0 := ifL_nil hn
    rw [d0] at n0
    simp only [Bool.or_eq_false_iff, beq_eq_false_iff_ne, ne_eq, decide_eq_false_iff_not] at n0
    have hst : 1 ≤ f 13 ∧ f 13 ≤ 4 := by omega
    rw [if_pos hst] at hL1
    have hk : 0 ≤ f 13 - 1 ∧ f 13 - 1 ≤ 3 := by omega
    have e1 := p1_pos hk
    have hrow := hF.row (f 13 - 1) hk.1 hk.2
    have i1 : placeN 1 (f 13 - 1) ∈ L := by rw [hL1]; simp
    have d1 := hA.rd (p := placeN 1 (f 13 - 1)) (by omega) (yes _ i1)
    show ((wordsT true (makeS fs n)).filter (goR fs n)).map keyE = _
    unfold makeS
    rw [show wrap64 (rd fs n 13 - 1) = f 13 - 1 by rw [d0]; unfold wrap64; omega]
    dsimp only
    rw [d1]
    by_cases h0 : f (placeN 1 (f 13 - 1)) = 0
    · rw [if_pos h0] at hL1
      rw [hL1, h0]
      exact got_yes hA q13 (yes _ i0) (got_yes hA (by omega) (yes _ i1) (got_no (.inl (by decide))))
    · rw [if_neg h0] at hL1
      have i2 : placeN 5 (f (placeN 1 (f 13 - 1))) ∈ L := by rw [hL1]; simp
      have e5 := p5_pos (show 1 ≤ f (placeN 1 (f 13 - 1)) ∧ f (placeN 1 (f 13 - 1)) ≤ 6 by omega)
      rw [hL1]
      exact got_yes hA q13 (yes _ i0) (got_yes hA (by omega) (yes _ i1) (got_yes hA (by omega) (yes _ i2) got_nil))
  · have hv : 1 ≤ v ∧ v ≤ 6 := by unfold ValGood at hvv; omega
    have e5 := p5_pos hv
    have hL1 : L = 13 :: (if f 13 ≠ 5 then [] else [placeN 5 v]) := by rw [← hL]; unfold needL; rw [if_neg (by decide), if_neg (by decide), if_neg (by decide), if_neg (by decide), if_neg (by decide), if_neg (by decide), if_neg (by decide), if_neg (by decide), if_neg (by decide)]
    have i0 : (13 : Int) ∈ L := by rw [hL1]; simp
    have d0 := hA.rd (p := 13) q13 (yes _ i0)
    rw [nowL_10] at hn
    have n0 := ifL_nil hn
    rw [d0] at n0
    have z0 : f 13 = 5 := by simpa using n0
    rw [if_neg (by omega)] at hL1
    have i1 : placeN 5 v ∈ L := by rw [hL1]; simp
    rw [hL1]
    show ((wordsT true (viaS fs n v)).filter (goR fs n)).map keyE = _
    unfold viaS
    exact got_yes hA q13 (yes _ i0) (got_ask (decide_eq_true (by rw [d0]; exact z0)) (got_yes hA (by omega) (yes _ i1) got_nil))
end
section
open Go.RowKit
theorem and255 (x : Int) : bits .and .i64 x 255 = x % 256 := by
  have e : ((BitVec.ofInt 64 x) &&& (BitVec.ofInt 64 255)).toNat = (x % 256).toNat := by
    rw [BitVec.toNat_and, BitVec.toNat_ofInt, BitVec.toNat_ofInt, show ((255 : Int) % ((2 ^ 64 : Nat) : Int)).toNat = 2 ^ 8 - 1 by decide, Nat.and_two_pow_sub_one_eq_mod]
    omega
  show IntKind.i64.wrap (((BitVec.ofInt 64 x) &&& (BitVec.ofInt 64 255)).toNat : Int) = _
  rw [e, IntKind.wrap_i64]
  omega

structure Only (p : Nat) (w w' : World) : Prop where
  os : w'.os = w.os
  tape : w'.tape = w.tape
  output : w'.output = w.output
  size : w'.heap.size = w.heap.size
  block : ∀ k, k ≠ p → w'.heap[k]? = w.heap[k]?
theorem Only.refl (p : Nat) (w : World) : Only p w w := ⟨rfl, rfl, rfl, rfl, fun _ _ => rfl⟩
theorem Only.trans {p : Nat} {a b c : World} (h : Only p a b) (k : Only p b c) : Only p a c :=
  ⟨k.os.trans h.os, k.tape.trans h.tape, k.output.trans h.output, k.size.trans h.size, fun i hi => (k.block i hi).trans (h.block i hi)⟩
theorem Only.drew {p : Nat} {a b : World} (h : Only p a b) : Only p a b.drew := ⟨h.os, h.tape, h.output, h.size, h.block⟩
theorem Only.setCell {p : Nat} {a b : World} (h : Only p a b) (o : Nat) (v : Value) : Only p a (b.setCell ⟨p, o, none⟩ v) :=
  h.trans ⟨rfl, rfl, rfl, by simp [World.setCell], fun k hk => Below.heap_setCell _ _ _ _ hk⟩
theorem Only.below {p : Nat} {w w' : World} (h : Only p w w') {B : Nat} (hB : B ≤ p) : Below B w w' :=
  ⟨h.os, h.tape, h.output, Nat.le_of_eq h.size.symm, fun k hk => h.block k (by omega)⟩
theorem Only.owns {p : Nat} {w w' : World} (h : Only p w w') {base : Nat} {e : TypeId} {size : Nat} {v : Value} {n : Nat} {xs : List Value} (ho : w.ownsRow base e size v n xs) (hp : p < base) : w'.ownsRow base e size v n xs := by
  obtain ⟨h1, h2 | ⟨g, cap, cur, h3, h4, h5, h6⟩⟩ := ho
  · exact ⟨h1, .inl h2⟩
  · exact ⟨h1, .inr ⟨g, cap, cur, h3, h4, by rw [h.block g (by omega)]; exact h5, h6⟩⟩

def BytesAt (w : World) (p : Nat) (a : Option Addr) (n : Nat) : Prop :=
  n = 0 ∨ ∃ b o, a = some ⟨b, o, none⟩ ∧ b < p ∧ ∀ j, j < n → ∃ z : Nat, z ≤ 255 ∧ w.cell? ⟨b, o + j, none⟩ = some (.int .u8 (z : Int))
theorem BytesAt.keep {w w' : World} {p : Nat} {a : Option Addr} {n : Nat} (h : BytesAt w p a n) (hb : ∀ k, k < p → w'.heap[k]? = w.heap[k]?) : BytesAt w' p a n := by
  rcases h with h | ⟨b, o, h1, h2, h3⟩
  · exact .inl h
  · refine .inr ⟨b, o, h1, h2, fun j hj => ?_⟩
    obtain ⟨z, h4, h5⟩ := h3 j hj
    exact ⟨z, h4, by rw [World.cell?_of_block (w := w) (hb b h2)]; exact h5⟩
theorem BytesAt.mono {w : World} {p q : Nat} {a : Option Addr} {n : Nat} (h : BytesAt w p a n) (hq : p ≤ q) : BytesAt w q a n := by
  rcases h with h | ⟨b, o, h1, h2, h3⟩
  · exact .inl h
  · exact .inr ⟨b, o, h1, by omega, h3⟩

def CurIs (T : TypeId) (w : World) (p : Nat) (a : Option Addr) (n c : Nat) (i h : Int) : Prop :=
  w.heap[p]? = some (.cells #[.slice a n c, .int .i64 i, .int .i64 h] T (0, 0))
def Cur (T : TypeId) (w : World) (p : Nat) (a : Option Addr) (n c : Nat) : Prop :=
  (∃ i h : Int, CurIs T w p a n c i h ∧ 0 ≤ i ∧ i ≤ n) ∧ BytesAt w p a n ∧ n ≤ 1048576
theorem Cur.keep {T : TypeId} {w w' : World} {p : Nat} {a : Option Addr} {n c : Nat} (h : Cur T w p a n c) (hb : ∀ k, k ≤ p → w'.heap[k]? = w.heap[k]?) : Cur T w' p a n c := by
  obtain ⟨⟨i, x, h1, h2⟩, h3, h4⟩ := h
  exact ⟨⟨i, x, by unfold CurIs; rw [hb p (Nat.le_refl _)]; exact h1, h2⟩, h3.keep (fun k hk => hb k (by omega)), h4⟩
theorem Cur.lt {T : TypeId} {w : World} {p : Nat} {a : Option Addr} {n c : Nat} (h : Cur T w p a n c) : p < w.heap.size := by
  obtain ⟨⟨i, x, h1, h2⟩, h3, h4⟩ := h
  exact (Array.getElem?_eq_some_iff.1 h1).1
theorem CurIs.cell {T : TypeId} {w : World} {p : Nat} {a : Option Addr} {n c : Nat} {i x : Int} (h : CurIs T w p a n c i x) :
    w.cell? ⟨p, 0, none⟩ = some (.slice a n c) ∧ w.cell? ⟨p, 1, none⟩ = some (.int .i64 i) ∧ w.cell? ⟨p, 2, none⟩ = some (.int .i64 x) := by
  unfold CurIs at h
  simp [World.cell?, h]
theorem CurIs.frozen {T : TypeId} {w : World} {p : Nat} {a : Option Addr} {n c : Nat} {i x : Int} (h : CurIs T w p a n c i x) (j : Nat) : w.frozen? ⟨p, j, none⟩ = false := by
  unfold CurIs at h
  simp [World.frozen?, h]
theorem CurIs.set1 {T : TypeId} {w : World} {p : Nat} {a : Option Addr} {n c : Nat} {i x : Int} (h : CurIs T w p a n c i x) (i' : Int) : CurIs T (w.setCell ⟨p, 1, none⟩ (.int .i64 i')) p a n c i' x := by
  unfold CurIs at h ⊢
  obtain ⟨hlt, h'⟩ := Array.getElem?_eq_some_iff.1 h
  show (w.heap.modify p _)[p]? = _
  rw [Array.getElem?_eq_getElem (by simpa using hlt), Array.getElem_modify_self, h']
  rfl
theorem CurIs.set2 {T : TypeId} {w : World} {p : Nat} {a : Option Addr} {n c : Nat} {i x : Int} (h : CurIs T w p a n c i x) (x' : Int) : CurIs T (w.setCell ⟨p, 2, none⟩ (.int .i64 x')) p a n c i x' := by
  unfold CurIs at h ⊢
  obtain ⟨hlt, h'⟩ := Array.getElem?_eq_some_iff.1 h
  show (w.heap.modify p _)[p]? = _
  rw [Array.getElem?_eq_getElem (by simpa using hlt), Array.getElem_modify_self, h']
  rfl
theorem CurIs.drew {T : TypeId} {w : World} {p : Nat} {a : Option Addr} {n c : Nat} {i x : Int} (h : CurIs T w p a n c i x) : CurIs T w.drew p a n c i x := h

theorem byte_fin {C D : Prop} (V : Int) (hC : C) (hD : D) : ∃ x : Nat, x ≤ 255 ∧ Ending.returned (.int .i64 (V % 256)) = .returned (.int .i64 (x : Int)) ∧ C ∧ D :=
  ⟨(V % 256).toNat, by omega, by rw [show (((V % 256).toNat : Nat) : Int) = V % 256 by omega], hC, hD⟩
theorem cur_of {T : TypeId} {w w' : World} {p : Nat} {a : Option Addr} {n c : Nat} {i x : Int} (hO : Only p w w') (hB : BytesAt w p a n) (hI : CurIs T w' p a n c i x) (h0 : 0 ≤ i) (h1 : i ≤ n) (hn : n ≤ 1048576) : Cur T w' p a n c :=
  ⟨⟨i, x, hI, h0, h1⟩, hB.keep (fun k hk => hO.block k (by omega)), hn⟩
theorem below_fin {C D : Prop} {x : Nat} {m : Int} (h0 : 1 ≤ m) (hC : C) (hD : D) : ∃ y : Nat, (y : Int) < m ∧ Ending.returned (.int .i64 ((x : Int) % m)) = .returned (.int .i64 (y : Int)) ∧ C ∧ D := by
  obtain ⟨q, rfl⟩ : ∃ q : Nat, m = (q : Int) := ⟨m.toNat, by omega⟩
  have := Nat.mod_lt x (show 0 < q by omega)
  exact ⟨x % q, by omega, by rw [Int.natCast_emod], hC, hD⟩
theorem cur_new {T : TypeId} {w : World} {a : Option Addr} {n c : Nat} {x : Int} (hB : BytesAt w w.heap.size a n) (hn : n ≤ 1048576) : Cur T (w.alloc (.cells #[.slice a n c, .int .i64 0, .int .i64 x] T)) w.heap.size a n c :=
  ⟨⟨0, x, heap_alloc_new w _, by omega, by omega⟩, hB.keep (fun k hk => Below.heap_alloc _ _ _ hk), hn⟩
theorem Only.cell {p : Nat} {w w' : World} (h : Only p w w') {g o : Nat} (hg : g ≠ p) : w'.cell? ⟨g, o, none⟩ = w.cell? ⟨g, o, none⟩ := World.cell?_of_block (w := w) (h.block g hg)
end
abbrev S (l : List UInt8) : Value := .string ⟨l.toArray⟩
section
open Go.ChangeShapes Go.WideShapes Go.ChangeAt Go.RowKit
theorem l1Byte_any (p : Nat) (a : Option Addr) (n c : Nat) (w : World) (hC : Cur 84 w p a n c) :
    Calls Tryz.prog 90 #[.pointer (some ⟨p, 0, none⟩)] w fun e w' => ∃ x : Nat, x ≤ 255 ∧ e = .returned (.int .i64 (x : Int)) ∧ Cur 84 w' p a n c ∧ Only p w w' := by
  obtain ⟨⟨i, h, hI, hi0, hi1⟩, hB, hn⟩ := hC
  obtain ⟨j, rfl⟩ : ∃ j : Nat, i = (j : Int) := ⟨i.toNat, by omega⟩
  obtain ⟨c0, c1, c2⟩ := hI.cell
  have f1 := hI.frozen 1
  have f2 := hI.frozen 2
  have HI : Hid (CurIs 84 w p a n c j h) := hI
  have HB : Hid (BytesAt w p a n) := hB
  have hand := and255
  clear hI hB
  by_cases hlt : j < n
  · rcases HB.out with h0 | ⟨b, o, rfl, hbp, hby⟩
    · omega
    obtain ⟨z, hz, e1⟩ := hby j hlt
    clear hby
    go_enter Tryz.func90, Tryz.ntmps90
    go_wp2
    go_region
    go_wp2
    go_region
    go_wp2
    go_region
    go_wp2
    go_ret
    have hO : Only p w (((w.setCell ⟨p, 2, none⟩ (.int .i64 (wrap64 (wrap64 (h * 6364136223846793005) + 1442695040888963407)))).setCell ⟨p, 1, none⟩ (.int .i64 ((j : Int) + 1))).drew.drew.drew) := (((Only.refl p w).setCell 2 _).setCell 1 _).drew.drew.drew
    exact byte_fin _ (cur_of hO HB.out ((HI.out.set2 _).set1 _) (by omega) (by omega) hn) hO
  · go_enter Tryz.func90, Tryz.ntmps90
    go_wp2
    go_region
    go_wp2
    go_region
    go_wp2
    go_ret
    have hO : Only p w ((w.setCell ⟨p, 2, none⟩ (.int .i64 (wrap64 (wrap64 (h * 6364136223846793005) + 1442695040888963407)))).drew.drew) := ((Only.refl p w).setCell 2 _).drew.drew
    exact byte_fin _ (cur_of hO HB.out (HI.out.set2 _) hi0 hi1 hn) hO

theorem l1Below_any (p : Nat) (a : Option Addr) (n c : Nat) (m : Int) (h0 : 1 ≤ m) (hm : m ≤ 256) (w : World) (hC : Cur 84 w p a n c) :
    Calls Tryz.prog 55 #[.pointer (some ⟨p, 0, none⟩), .int .i64 m] w fun e w' => ∃ x : Nat, (x : Int) < m ∧ e = .returned (.int .i64 (x : Int)) ∧ Cur 84 w' p a n c ∧ Only p w w' := by
  go_enter Tryz.func55, Tryz.ntmps55
  go_wp2_with (go_at_call 90; refine (l1Byte_any p a n c _ hC).mono ?_; rintro e w1 ⟨x, hx, rfl, hC1, hO1⟩)
  go_ret
  exact below_fin h0 hC1 hO1

theorem l1New_any (a : Option Addr) (n c : Nat) (w : World) (hn : n ≤ 1048576) (hB : BytesAt w w.heap.size a n) :
    Calls Tryz.prog 17 #[.slice a n c] w fun e w' => e = .returned (.pointer (some ⟨w.heap.size, 0, none⟩)) ∧ Cur 84 w' w.heap.size a n c ∧ Below w.heap.size w w' ∧ w'.heap.size = w.heap.size + 1 := by
  have HB : Hid (BytesAt w w.heap.size a n) := hB
  clear hB
  go_enter Tryz.func17, Tryz.ntmps17
  go_wp2
  go_loop [3, 4] (fun h i => ∃ (x : Int) (k : Nat), h = .int .i64 x ∧ i = .int .i64 (k : Int) ∧ k ≤ n) (fun _ i => n - (intOf i).toNat)
  case atStart => exact ⟨_, 0, rfl, rfl, Nat.zero_le _⟩
  case round =>
    obtain ⟨x, k, rfl, rfl, hk⟩ := hrel
    by_cases hlt : k < n
    · rcases HB.out with h0 | ⟨b, o, rfl, hbp, hby⟩
      · omega
      obtain ⟨z, hz, e1⟩ := hby k hlt
      clear hby
      by_cases h4 : k < 4000
      · go_wp2
        go_round
        case rel => exact ⟨_, k + 1, rfl, by go_num, by omega⟩
        case measure => simp [intOf]; omega
      · go_wp2
        go_ret
        exact ⟨rfl, cur_new HB.out hn, (Below.refl _ _).alloc (Nat.le_refl _) _, by simp⟩
    · go_wp2
      go_ret
      exact ⟨rfl, cur_new HB.out hn, (Below.refl _ _).alloc (Nat.le_refl _) _, by simp⟩
theorem l1PickInt_any (p : Nat) (a : Option Addr) (n c g q d : Nat) (xs : List Int) (h0 : 1 ≤ q) (hq : q ≤ 256) (w : World) (hC : Cur 84 w p a n c) (hg : g ≠ p)
    (hx : ∀ i, i < q → w.cell? ⟨g, i, none⟩ = some (.int .i64 (xs.getD i 0))) :
    Calls Tryz.prog 57 #[.pointer (some ⟨p, 0, none⟩), .slice (some ⟨g, 0, none⟩) q d] w fun e w' => ∃ x : Nat, x < q ∧ e = .returned (.int .i64 (xs.getD x 0)) ∧ Cur 84 w' p a n c ∧ Only p w w' := by
  have HX : Hid (∀ i, i < q → w.cell? ⟨g, i, none⟩ = some (.int .i64 (xs.getD i 0))) := hx
  clear hx
  go_enter Tryz.func57, Tryz.ntmps57
  go_wp2_with (go_at_call 55; refine (l1Below_any p a n c _ (by omega) (by omega) _ hC).mono ?_; rintro e w1 ⟨x, hx, rfl, hC1, hO1⟩; have hlt : x < q := (by omega); have e1 := (hO1.cell (o := x) hg).trans (HX.out x hlt))
  go_ret
  exact ⟨x, hlt, rfl, hC1, hO1⟩
end
section
open Go.ChangeShapes Go.WideShapes Go.ChangeAt Go.RowKit Go.Maps
theorem mapLaw : Keyed Tryz.prog 3 := int_keyed Tryz.underlying3
theorem zeroInts (w : World) : (zeroValue 24).run Tryz.prog w = .ok (.slice none 0 0) w := by kernel_rfl

def posK (xs : List Int) (k : Nat) (x : Int) : List Int := ((List.range k).filter fun i => xs.getD i 0 == x).map fun (i : Nat) => (i : Int)
theorem posK_zero (xs : List Int) (x : Int) : posK xs 0 x = [] := rfl
theorem posK_same {xs : List Int} {k : Nat} {x : Int} (h : xs.getD k 0 = x) : posK xs (k + 1) x = posK xs k x ++ [(k : Int)] := by
  simp only [posK, List.range_succ, List.filter_append, List.map_append]
  rw [List.filter_cons_of_pos (by simpa using h)]
  rfl
theorem posK_other {xs : List Int} {k : Nat} {x : Int} (h : xs.getD k 0 ≠ x) : posK xs (k + 1) x = posK xs k x := by
  simp only [posK, List.range_succ, List.filter_append, List.map_append]
  rw [List.filter_cons_of_neg (by simpa using h)]
  simp

section
variable {H : Type}
def rowOf : List Int → DataW H
  | [] => .nil
  | z :: r => .slice (lits .i64 (z :: r)) []
theorem rowOf_pos {l : List Int} (h : l ≠ []) : rowOf (H := H) l = .slice (lits .i64 l) [] := by
  cases l with
  | nil => exact absurd rfl h
  | cons z r => rfl

def GD (xs : List Int) (k : Nat) (D : DataW H) : Prop :=
  IsMap D ∧ ∀ x : Int, Maps.has D (.int .i64 x) = decide (posK xs k x ≠ []) ∧ D.atKey (.int .i64 x) .nil = rowOf (posK xs k x)

theorem lits_inj {a b : List Int} (h : lits (H := H) .i64 a = lits .i64 b) : a = b := by
  unfold lits at h
  exact (List.map_inj_right (fun _ _ hxy => by cases hxy; rfl)).1 h

theorem GD_zero (xs : List Int) : GD (H := H) xs 0 (.map []) := ⟨⟨[], rfl⟩, fun _ => ⟨rfl, rfl⟩⟩

theorem GD_zs {xs : List Int} {k : Nat} {D : DataW H} {x : Int} {w : World} {base : Nat} {v : Value} {zs : List Int} (h : GD xs k D) (hat : D.atKey (.int .i64 x) .nil = rowDatum .i64 v zs) (hoi : w.ownsInts base 3 .i64 v zs) : zs = posK xs k x := by
  rw [(h.2 x).2] at hat
  rcases hoi.datum (H := H) with ⟨h1, h2⟩ | h1
  · rw [h1] at hat
    rw [h2]
    cases hp : posK xs k x with
    | nil => rfl
    | cons z r => rw [hp] at hat; cases hat
  · rw [h1] at hat
    cases hp : posK xs k x with
    | nil => rw [hp] at hat; cases hat
    | cons z r =>
      rw [hp] at hat
      simp only [rowOf, DataW.slice.injEq] at hat
      exact (lits_inj hat.1).symm

theorem GD_step {xs : List Int} {k : Nat} {D : DataW H} {x : Int} (h : GD xs k D) (hx : xs.getD k 0 = x) (hw : (Lit.int .i64 x).wf = true) : GD xs (k + 1) (D.put (.int .i64 x) (.slice (lits .i64 (posK xs k x ++ [(k : Int)])) [])) := by
  have hk : WideAt.IsKeyLit (.int .i64 x) := mapLaw.key (keyOf_int_mk Tryz.underlying3 hw)
  refine ⟨h.1.put _ _, fun y => ?_⟩
  by_cases hy : y = x
  · subst hy
    rw [posK_same hx, has_put_same h.1 hk, atKey_put_same h.1 hk, rowOf_pos (by simp)]
    simp
  · have hne : Lit.int .i64 y ≠ .int .i64 x := fun e => hy (by cases e; rfl)
    rw [posK_other (fun e => hy (by rw [← hx, e])), has_put_other hne, atKey_put_other hne]
    exact h.2 y

def HD (xs : List Int) (D : DataW H) : Prop :=
  ∀ x : Int, Maps.has D (.int .i64 x) = decide (x ≠ 0 ∧ posK xs 4 x ≠ []) ∧ (x ≠ 0 → ∀ zd, posK xs 4 x ≠ [] → D.atKey (.int .i64 x) zd = .slice (lits .i64 (posK xs 4 x)) [])

end

theorem groups_map {H : Type} {w : World} {P : Program} {k : TypeId} {base : Nat} {e : TypeId} {q : IntKind} {b n : Nat} {D : DataW H} (h : w.ownsGroups P k base e q b n D) : w.ownsMap P k (rowElem w base e q) b n D := by
  obtain ⟨es, clock, hb, F, hs, hD, _⟩ := h
  exact ⟨es, clock, hb, F, hs, hD⟩
theorem atKey_has {H : Type} {D : DataW H} {k : Lit} (h : Maps.has D k = true) (z z' : DataW H) : D.atKey k z = D.atKey k z' := by
  cases D <;> try (simp [Maps.has] at h; done)
  rename_i es
  simp only [Maps.has] at h
  simp only [DataW.atKey]
  obtain ⟨p, hp, hk⟩ := List.any_eq_true.1 h
  cases hf : es.find? (fun p => p.1.sameKey k) with
  | some q => rfl
  | none => exact absurd hk (by simpa using List.find?_eq_none.1 hf p hp)

def RowsIn {H : Type} (R : Value → Option (DataW H × List MemPlace)) (w : World) (base : Nat) : Prop :=
  ∀ v y, R v = some y → ∃ zs, w.ownsInts base 3 .i64 v zs ∧ y.1 = rowDatum .i64 v zs

theorem holdersOf_four (H : Type) (a : Option Addr) (st : Int) (xs : List Int) (w : World) (hA : IntAt w a 4 xs) (hi : ∀ x ∈ xs, (Lit.int .i64 x).wf = true) :
    Calls Tryz.prog 39 #[.agg #[.slice a 4 4, .int .i64 st]] w fun e w' =>
      e = .returned (.map (some (w.heap.size + 1))) ∧ Below w.heap.size w w' ∧ ∃ (R : Value → Option (DataW H × List MemPlace)) (D : DataW H), w'.ownsMap Tryz.prog 3 R (w.heap.size + 1) 4 D ∧ RowsIn R w' (w.heap.size + 2) ∧ HD xs D := by
  obtain ⟨hl, _, h0 | ⟨b, o, rfl, hc⟩⟩ := hA
  · omega
  have hmm := @run_makeMap Tryz.prog
  have HC : Hid (∀ i, i < 4 → w.cell? ⟨b, o + i, none⟩ = some (I (xs.getD i 0))) := hc
  have HI : Hid (∀ x ∈ xs, (Lit.int .i64 x).wf = true) := hi
  have HL : Hid (xs.length = 4) := hl
  have hblt : b < w.heap.size := World.block_lt_of_cell? w _ (hc 0 (by omega))
  clear hc hi hl
  obtain ⟨i0, hin, hz0, hz1, hz2⟩ := info_parts infoInt
  go_enter Tryz.func39, Tryz.ntmps39
  go_wp2
  go_loopw [15] (fun i wr => ∃ k : Nat, k ≤ 4 ∧ i = .int .i64 (k : Int) ∧ ∃ D : DataW H, wr.ownsGroups Tryz.prog 3 (w.heap.size + 2) 3 .i64 (w.heap.size + 1) k D ∧ GD xs k D ∧ Below w.heap.size w wr ∧ w.heap.size + 2 ≤ wr.heap.size)
    (fun i _ => 4 - (intOf i).toNat)
  case atStart =>
    refine ⟨0, Nat.zero_le _, rfl, .map [], ?_, GD_zero _, ((Below.refl _ _).alloc (Nat.le_refl _) _).alloc (by simp) _, by simp⟩
    have := World.ownsGroups_made (H := H) (w.alloc (Obj.cells #[Value.slice (some { block := b, off := o }) 4 4, Value.int IntKind.i64 st] 26)) Tryz.prog 3 3 .i64
    simpa using this
  case round =>
    obtain ⟨k, hk, rfl, D, hown, hgd, hnx, hws⟩ := hrel
    obtain ⟨x, hx⟩ : ∃ x, xs.getD k 0 = x := ⟨_, rfl⟩
    have HX : Hid (xs.getD k 0 = x) := hx
    have HGD : Hid (GD xs k D) := hgd
    by_cases hlt : k < 4
    · have hcx : wr.cell? ⟨b, o + k, none⟩ = some (I x) := by rw [← hx]; exact (hnx.cell (by exact hblt)).trans (HC.out k hlt)
      have hwx : (Lit.int .i64 x).wf = true := HI.out x (by
        have hk4 : k < xs.length := by have := HL.out; omega
        rw [← hx, show xs.getD k 0 = xs[k] by simp [List.getD, hk4]]
        exact List.getElem_mem _)
      have hkey := keyOf_int_mk Tryz.underlying3 hwx
      clear hx hgd
      go_wp2_with (first
        | (at_lookup; refine wpList_lookup_groups _ rfl _ _ 75 rfl 3 24 3 .i64 mapLaw Tryz.underlying75 (zeroInts _) (w.heap.size + 2) (w.heap.size + 1) k _ rfl hown (by unfold maxLen; omega) _ _ rfl hkey ?_; intro v zs hat hoi hzl hback)
        | (at_builtin; refine wpList_append_own_at _ rfl _ _ 24 rfl (w.heap.size + 2) 3 i0 (.int .i64 0) 1 8 Tryz.underlying24 hin hz0 hz1 hz2 rfl (by decide) _ _ _ rfl (hoi.1.alloc _) ⟨wr.heap.size, 0, none⟩ 1 1 [.int .i64 k] rfl rfl (cell_one_new _ _ _) (ints_oneCell .i64 [(k : Int)]) (by unfold maxLen; omega) (by omega) (by simp; omega) ?_; intro v' w1 hown' hgrow hnil hloc)
        | (at_mapUpdate; refine wpList_mapUpdate_back _ rfl _ _ _ 75 rfl hback rfl rfl rfl ((World.grownBy_alloc _ _ _).trans hgrow) (hoi.appended hown' (WalkArith.wf_i64 (by omega))) (by simp; omega) (hloc.imp id (fun h => ⟨_, h, by simp⟩)) ?_; intro w2 hown2 hgrow2)
        | go_in)
      have hall := (World.grownBy_alloc wr _ _).trans hgrow
      go_roundw
      case rel =>
        refine ⟨k + 1, by omega, by go_num, _, hown2, ?_, hnx.groups hoi hall hgrow2 hnx.size (by omega) (by omega), Nat.le_trans hws (Nat.le_trans hall.size hgrow2.size)⟩
        show GD xs (k + 1) (D.put (.int .i64 x) (rowDatum .i64 v' (zs ++ [(k : Int)])))
        rw [(hoi.appended hown' (WalkArith.wf_i64 (by omega))).datum_pos (by simp), GD_zs HGD.out hat hoi]
        exact GD_step HGD.out HX.out hwx
      case measure => simp [intOf]; omega
    · obtain rfl : k = 4 := by omega
      have hkey0 : keyOf Tryz.prog 3 (.int .i64 0) = some (.int .i64 0) := keyOf_int_mk Tryz.underlying3 (by decide)
      go_wp2_with (first
        | (at_delete; refine wpList_delete_own _ rfl _ _ 75 3 rfl 24 mapLaw Tryz.underlying75 _ (w.heap.size + 1) 4 D rfl (groups_map hown) _ _ rfl hkey0 ?_; intro w1 hown1 hturn1)
        | go_in)
      go_ret
      have hg1 := hturn1.grown
      refine ⟨rfl, hnx.grown hg1 hnx.size (fun j hj => by cases hj; omega), _, _, hown1, ?_, ?_⟩
      · intro v y hy
        obtain ⟨zs, ho, rfl⟩ := rowElem_inv hy
        refine ⟨zs, ho.kept hg1 ?_, rfl⟩
        cases hv : v.ownBlock with
        | none => exact .inl rfl
        | some g =>
          refine .inr fun e1 => ?_
          have := (ho.1.lt g hv).1
          cases e1
          omega
      · intro x
        have hg := HGD.out.2 x
        by_cases h0 : x = 0
        · subst h0
          refine ⟨by rw [has_del_same]; simp, fun h => absurd rfl h⟩
        · have hne : Lit.int .i64 x ≠ .int .i64 0 := fun e => h0 (by cases e; rfl)
          rw [has_del_other hne, hg.1]
          refine ⟨by simp [h0], fun _ zd hp => ?_⟩
          rw [atKey_del_other hne, atKey_has (by rw [hg.1]; simpa using hp) zd .nil, hg.2, rowOf_pos hp]
theorem row_slice {w : World} {base : Nat} {v : Value} {zs : List Int} (h : w.ownsInts base 3 .i64 v zs) : ∃ p : Option Addr × Nat × Nat, v = .slice p.1 p.2.1 p.2.2 := by
  rcases h.1.2 with ⟨rfl, _⟩ | ⟨g, cap, cur, rfl, _⟩
  · exact ⟨(none, 0, 0), rfl⟩
  · exact ⟨(some ⟨g, 0, none⟩, zs.length, cap), rfl⟩

theorem row_len {w : World} {base : Nat} {a : Option Addr} {n c : Nat} {zs : List Int} (h : w.ownsInts base 3 .i64 (.slice a n c) zs) : n = zs.length := by
  rcases h.1.2 with ⟨h1, h2⟩ | ⟨g, cap, cur, h1, _⟩
  · simp only [Value.slice.injEq] at h1
    omega
  · simp only [Value.slice.injEq] at h1
    exact h1.2.1

theorem row_intAt {w : World} {base : Nat} {a : Option Addr} {n c : Nat} {zs : List Int} (h : w.ownsInts base 3 .i64 (.slice a n c) zs) (h0 : zs ≠ []) (hn : zs.length ≤ 4) : ∃ g, a = some ⟨g, 0, none⟩ ∧ w.cell? ⟨g, 0, none⟩ = some (I (zs.getD 0 0)) ∧ g < w.heap.size ∧ base ≤ g := by
  have hl := row_len h
  have h00 : 0 < zs.length := List.length_pos_iff.2 h0
  rcases h.1.2 with ⟨h1, h2⟩ | ⟨g, cap, cur, h1, h3⟩
  · omega
  · simp only [Value.slice.injEq] at h1
    obtain ⟨rfl, rfl, rfl⟩ := h1
    have h4 := own_intAt h.1 (by omega)
    have h5 := h.1.lt g rfl
    refine ⟨g, rfl, ?_, h5.2, h5.1⟩
    rcases h4.2.2 with h6 | ⟨b, o, h6, h7⟩
    · omega
    · simp only [Option.some.injEq, Addr.mk.injEq] at h6
      obtain ⟨rfl, rfl, _⟩ := h6
      exact h7 0 h00

theorem step_row {H : Type} {xs : List Int} {D : DataW H} {R : Value → Option (DataW H × List MemPlace)} {w0 : World} {base : Nat} {x : Int} {v : Value} {y : DataW H × List MemPlace} (hR : RowsIn R w0 base) (hD : HD xs D) (hv : R v = some y) (hat : ∀ zd, D.atKey (.int .i64 x) zd = y.1) :
    x ≠ 0 ∧ posK xs 4 x ≠ [] ∧ w0.ownsInts base 3 .i64 v (posK xs 4 x) := by
  have hh := has_true_of_atKey hat
  rw [(hD x).1] at hh
  obtain ⟨h0, hp⟩ := of_decide_eq_true hh
  obtain ⟨zs, ho, hy⟩ := hR v y hv
  have h1 := (hD x).2 h0 .nil hp
  rw [hat, hy] at h1
  refine ⟨h0, hp, ?_⟩
  rcases ho.datum (H := H) with ⟨h2, _⟩ | h2
  · rw [h2] at h1; cases h1
  · rw [h2] at h1
    simp only [DataW.slice.injEq] at h1
    rw [← lits_inj h1.1]
    exact ho

section
variable {H : Type} {P : Program} (w : World) {ops : Array Oper} {rest : List Oper} {o : Oper} {a : Act} {Q : Exit → Act → World → Prop}
theorem wpList_next_rows (hg : o.guard = none) (it : Operand) (hop : o.op = Op.next it false) (R : Value → Option (DataW H × List MemPlace)) {w0 : World} {base : Nat} (hR : RowsIn R w0 base) {xs : List Int}
    (b r n : Nat) (D : DataW H) (hD : HD xs D) (left : Lit → Bool) (cnt : Nat) (hit : a.eval it = .pointer (some ⟨r, 0, none⟩)) (h : w.ranges Tryz.prog 3 R b r n D left cnt)
    (hDone : cnt = 0 → (∀ kl, left kl = false) → wpList Tryz.prog ops Q rest (a.put o.dst (.tuple #[.bool false])) w)
    (hMore : ∀ (x : Int) (p : Option Addr) (l c : Nat) (w' : World) (cnt' : Nat), left (.int .i64 x) = true → x ≠ 0 → posK xs 4 x ≠ [] → w0.ownsInts base 3 .i64 (.slice p l c) (posK xs 4 x) → w'.ranges Tryz.prog 3 R b r n D (fun z => left z && !z.sameKey (.int .i64 x)) cnt' → cnt' < cnt →
      w.grownBy w' (some r) → w'.heap.size = w.heap.size → (Instr.entry (.pointer (some ⟨r, 0, none⟩))).run Tryz.prog w' = .ok (.tuple #[.int .i64 x, .slice p l c]) w' → wpList Tryz.prog ops Q rest (a.put o.dst (.tuple #[.bool true, .int .i64 x, .slice p l c])) w') :
    wpList Tryz.prog ops Q (o :: rest) a w :=
  wpList_next_ranges w hg it hop 3 mapLaw R (Value.int .i64) (fun p : Option Addr × Nat × Nat => Value.slice p.1 p.2.1 p.2.2) (fun key kl hkey => by obtain ⟨x, rfl, _⟩ := Maps.keyOf_int_inv Tryz.underlying3 hkey; exact ⟨x, rfl⟩)
    (fun v y hv => by obtain ⟨zs, ho, _⟩ := hR v y hv; exact row_slice ho)
    b r n D left cnt hit h hDone (fun x c kl y w' cnt' hkey hlk hv hat hrg hlt hgr hsz hen => by
      obtain ⟨x', ex, rfl, hwx⟩ := Maps.keyOf_int_inv Tryz.underlying3 hkey
      cases ex
      obtain ⟨h1, h2, h3⟩ := step_row hR hD hv hat
      exact hMore x c.1 c.2.1 c.2.2 w' cnt' hlk h1 h2 h3 hrg hlt hgr hsz hen)
end

theorem sameKey_int (x y : Int) : (Lit.int .i64 x).sameKey (.int .i64 y) = decide (x = y) := by
  by_cases h : x = y
  · subst h
    simp [Lit.sameKey]
  · rw [Maps.sameKey_ne (fun e => h (by cases e; rfl))]
    simp [h]
def Says (e : Ending) (p : Prop) : Prop := ∃ ok : Bool, e = .returned (.bool ok) ∧ (ok = true ↔ p)
def Good (xs : List Int) (x : Int) : Prop := (1 ≤ x ∧ x ≤ 6) ∧ (posK xs 4 x).length ≤ 1
def OkRows (xs : List Int) (st : Int) : Prop := xs.length = 4 ∧ 0 ≤ st ∧ st ≤ 5 ∧ ∀ x, x ≠ 0 → posK xs 4 x ≠ [] → Good xs x

theorem implRowsOk_any (a : Option Addr) (n : Nat) (st : Int) (xs : List Int) (w : World) (hA : IntAt w a n xs) (hi : ∀ x ∈ xs, (Lit.int .i64 x).wf = true) :
    Calls Tryz.prog 10 #[.agg #[.slice a n n, .int .i64 st]] w fun e w' => Says e (OkRows xs st) ∧ Below w.heap.size w w' := by
  have hl := hA.1
  by_cases hn : n = 4
  · subst hn
    by_cases hs0 : st < 0
    · have h1 : Hid (¬ OkRows xs st) := fun h => by have := h.2.1; omega
      go_enter Tryz.func10, Tryz.ntmps10
      go_wp2
      go_ret
      exact ⟨⟨false, rfl, by simp [h1.out]⟩, (Below.refl _ _).alloc (Nat.le_refl _) _⟩
    by_cases hs1 : 5 < st
    · have h1 : Hid (¬ OkRows xs st) := fun h => by have := h.2.2.1; omega
      go_enter Tryz.func10, Tryz.ntmps10
      go_wp2
      go_ret
      exact ⟨⟨false, rfl, by simp [h1.out]⟩, (Below.refl _ _).alloc (Nat.le_refl _) _⟩
    have HA : Hid (IntAt w a 4 xs) := hA
    have HI : Hid (∀ x ∈ xs, (Lit.int .i64 x).wf = true) := hi
    have HL : Hid (xs.length = 4) := hl
    clear hA hi hl
    go_enter Tryz.func10, Tryz.ntmps10
    go_wp2_with fail
    refine (holdersOf_four Unit a st xs _ (HA.out.below ((Below.refl _ w).alloc (Nat.le_refl _) _) (Nat.le_refl _)) HI.out).mono ?_
    rintro e w1 ⟨rfl, hb1, R, D, hown, hR, hD⟩
    have hbw : Below w.heap.size w w1 := ((Below.refl _ w).alloc (Nat.le_refl _) _).trans (hb1.mono (by simp))
    have hsz1 := hown.lt
    simp only [World.size_alloc] at hown hR hsz1
    have HR : Hid (RowsIn R w1 (w.heap.size + 1 + 2)) := hR
    have HD1 : Hid (HD xs D) := hD
    clear hb1 hR hD
    go_wp2_with (first | (at_range; refine wpList_range_own _ rfl _ 75 rfl 3 24 mapLaw Tryz.underlying75 R (w.heap.size + 1 + 1) 4 D rfl hown ?_; intro w2 hrg0 hg0 hs2) | fail)
    go_frame
    have hb2 : Below w1.heap.size w1 w2 := (Below.refl _ _).grown hg0 (Nat.le_refl _) (fun k e => by cases e)
    clear hown hg0
    go_loopw [3] (fun _ wr => ∃ left cnt, wr.ranges Tryz.prog 3 R (w.heap.size + 1 + 1) w1.heap.size 4 D left cnt ∧ Below w1.heap.size w1 wr ∧ ∀ x : Int, x ≠ 0 → posK xs 4 x ≠ [] → left (.int .i64 x) = false → Good xs x) (fun _ wr => wr.rangeLeft (w.heap.size + 1 + 1) w1.heap.size)
    case atStart =>
      refine ⟨_, _, hrg0, hb2, fun x h0 hp hf => ?_⟩
      rw [(HD1.out x).1] at hf
      exact absurd ⟨h0, hp⟩ (of_decide_eq_false hf)
    case round =>
      obtain ⟨left, cnt, hrg, hbr, hgood⟩ := hrel
      have HG : Hid (∀ x : Int, x ≠ 0 → posK xs 4 x ≠ [] → left (.int .i64 x) = false → Good xs x) := hgood
      clear hgood hrg0 hb2
      go_wp2_with (first | (at_next; refine wpList_next_rows _ rfl _ rfl R HR.out (w.heap.size + 1 + 1) w1.heap.size 4 D HD1.out left cnt rfl hrg ?_ ?_) | fail)
      · intro _ hl0
        go_wp2
        go_ret
        exact ⟨⟨true, rfl, by simpa using ⟨HL.out, hs0, hs1, fun x h0 hp => HG.out x h0 hp (hl0 _)⟩⟩, hbw.trans (hbr.mono hbw.size)⟩
      · intro x p l c w3 cnt3 hlx hx0 hpx hrow hrg3 hlt hg3 hs3 hen
        have hb3 : Below w1.heap.size w1 w3 := hbr.grown hg3 hbr.size (fun k e => by cases e; exact Nat.le_refl _)
        have hb03 := hbw.trans (hb3.mono hbw.size)
        obtain rfl := row_len hrow
        have HP : Hid (posK xs 4 x ≠ []) := hpx
        clear hrow hg3 hpx
        go_wp2_with fail
        refine (implValOk_any x _).mono ?_
        rintro e w4 ⟨rfl, rfl⟩
        by_cases hv : 1 ≤ x ∧ x ≤ 6
        · rw [show decide (1 ≤ x ∧ x ≤ 6) = true from decide_eq_true hv]
          by_cases hln : 1 < (posK xs 4 x).length
          · have h1 : Hid (¬ OkRows xs st) := fun h => by have := (h.2.2.2 x hx0 HP.out).2; omega
            go_wp2
            go_ret
            exact ⟨⟨false, rfl, by simp [h1.out]⟩, hb03⟩
          · have hG : Hid (Good xs x) := ⟨hv, by omega⟩
            go_wp2
            refine ⟨⟨_, _, hrg3, hb3, fun y h0 hp hf => ?_⟩, by rw [hrg3.left_eq, hrg.left_eq]; omega⟩
            rw [sameKey_int] at hf
            by_cases hy : y = x
            · subst hy
              exact hG.out
            · exact HG.out y h0 hp (by simpa [hy] using hf)
        · rw [show decide (1 ≤ x ∧ x ≤ 6) = false from decide_eq_false hv]
          have h1 : Hid (¬ OkRows xs st) := fun h => hv (h.2.2.2 x hx0 HP.out).1
          go_wp2
          go_ret
          exact ⟨⟨false, rfl, by simp [h1.out]⟩, hb03⟩
  · have h1 : Hid (¬ OkRows xs st) := fun h => by have := h.1; omega
    have h2 : ((n : Int) != 4) = true := by simp; omega
    go_enter Tryz.func10, Tryz.ntmps10
    go_wp2
    go_ret
    exact ⟨⟨false, rfl, by simp [h1.out]⟩, (Below.refl _ _).alloc (Nat.le_refl _) _⟩
end
end Go.Proofs.YtenlapppaimkkabGreatDoor
