/- Which word is next, by what is told of each op (no program). -/
import Derived.Test.YtekafaoleniebapDoorTellM
namespace Go.Proofs.YtekafaoleniebapDoor
open Go.ChangeShapes Go.WideShapes Go.ChangeAt Go.RowKit

/-- A word that was read. -/
def goR (fs : List Int) (n : Nat) (x : Ent) : Bool := (readF fs x.1 n).2
/-- The place of the first word that was not read; -1: there is none. -/
def firstR (fs : List Int) (n : Nat) : List Ent → Int
  | [] => -1
  | x :: t => if goR fs n x = true then firstR fs n t else x.1
theorem firstR_all {fs : List Int} {n : Nat} : ∀ {L : List Ent}, (∀ x ∈ L, goR fs n x = true) → firstR fs n L = -1
  | [], _ => rfl
  | x :: t, h => by rw [firstR, if_pos (h x (List.mem_cons_self ..))]; exact firstR_all (fun y hy => h y (List.mem_cons_of_mem _ hy))
theorem firstR_some {fs : List Int} {n : Nat} {x : Ent} {rest : List Ent} (hx : goR fs n x = false) : ∀ {L q : List Ent}, L = q ++ x :: rest → (∀ y ∈ q, goR fs n y = true) → firstR fs n L = x.1
  | _, [], e, _ => by rw [e]; rw [List.nil_append, firstR, if_neg (by rw [hx]; simp)]
  | _, y :: q, e, h => by
    rw [e, List.cons_append, firstR, if_pos (h y (List.mem_cons_self ..))]
    exact firstR_some hx rfl (fun z hz => h z (List.mem_cons_of_mem _ hz))
/-- Where one stands when a word is told. -/
theorem first_tell {fs : List Int} {n : Nat} (p o v : Int) (t : List Stp) : firstR fs n (wordsT false (.tell p o v :: t)) = if 0 ≤ p then (if (readF fs p n).2 = true then firstR fs n (wordsT false t) else p) else -1 := by
  rw [wordsT]
  by_cases hp : 0 ≤ p
  · rw [if_pos hp, if_pos hp]; rfl
  · rw [if_neg hp, if_neg hp]; rfl
theorem first_ask {fs : List Int} {n : Nat} (b : Bool) (t : List Stp) : firstR fs n (wordsT false (.ask b :: t)) = if b = true then firstR fs n (wordsT false t) else -1 := by
  rw [wordsT]
  by_cases hp : b = true
  · rw [if_pos hp, if_pos hp]
  · rw [if_neg hp, if_neg hp]; rfl
/-- One word of the specification's: known, or it stops there. -/
theorem know_go {fs : List Int} {n : Nat} {s : Work} (h : s.2 = false) {p : Int} (hp : 0 ≤ p) (hr : (readF fs p n).2 = true) : knowM fs n s p = (s, rd fs n p) := by
  unfold knowM
  rw [if_neg (by rw [h]; simp), if_neg (by rw [hr]; simp; omega), rd, if_neg (Int.not_lt.2 hp)]
theorem know_stop {fs : List Int} {n : Nat} {s : Work} (h : s.2 = false) {p : Int} (hr : (readF fs p n).2 = false ∨ p < 0) : knowM fs n s p = ((p, true), 0) := by
  unfold knowM
  rw [if_neg (by rw [h]; simp), if_pos hr]
theorem place_neg {m : Int} {k : Int} (h : ¬ 0 ≤ placeN m k) : placeN m k = -1 := by
  unfold placeN at h ⊢
  repeat' split at h
  all_goals first | omega | (repeat' split) <;> omega
/-- What a known word makes of the work, whatever it was. -/
theorem know_one {fs : List Int} {n : Nat} (p : Int) (hneg : ¬ 0 ≤ p → p = -1) (o v : Int) : (knowM fs n (-1, false) p).1.1 = firstR fs n (wordsT false [.tell p o v]) := by
  rw [first_tell]
  by_cases hp : 0 ≤ p
  · rw [if_pos hp]
    by_cases hr : (readF fs p n).2 = true
    · rw [if_pos hr, know_go rfl hp hr]; rfl
    · rw [if_neg hr, know_stop rfl (.inl (by simpa using hr))]
  · rw [if_neg hp, know_stop rfl (.inr (by omega))]; exact hneg hp
theorem know_on (fs : List Int) (n : Nat) (x p : Int) : knowM fs n (x, true) p = ((x, true), 0) := knowM_stop rfl p
theorem if_on (x : Int) (b : Prop) [Decidable b] : ifM (x, true) b = (x, true) := rfl
theorem if_off (x : Int) (b : Prop) [Decidable b] : ifM (x, false) b = (x, decide b) := by unfold ifM; simp
theorem via_on (fs : List Int) (n : Nat) (x k : Int) (vals : List Int) : viaM fs n (x, true) k vals = (x, true) := by
  unfold viaM
  rw [know_on]
  dsimp only
  split
  · induction vals with
    | nil => rfl
    | cons y t ih => rw [List.foldl_cons, know_on]; exact ih
  · rfl
/-- A word: it is known and told, or both stop at it. -/
theorem tell3 (fs : List Int) (n : Nat) (p : Int) (hneg : ¬ 0 ≤ p → p = -1) :
    ((∀ x : Int, knowM fs n (x, false) p = ((x, false), rd fs n p)) ∧ ∀ o v t, firstR fs n (wordsT false (.tell p o v :: t)) = firstR fs n (wordsT false t)) ∨
    ((∀ x : Int, knowM fs n (x, false) p = ((p, true), 0)) ∧ ∀ o v t, firstR fs n (wordsT false (.tell p o v :: t)) = p) := by
  by_cases hp : 0 ≤ p
  · by_cases hr : (readF fs p n).2 = true
    · exact .inl ⟨fun x => know_go rfl hp hr, fun o v t => by rw [first_tell, if_pos hp, if_pos hr]⟩
    · exact .inr ⟨fun x => know_stop rfl (.inl (by simpa using hr)), fun o v t => by rw [first_tell, if_pos hp, if_neg hr]⟩
  · exact .inr ⟨fun x => know_stop rfl (.inr (by omega)), fun o v t => by rw [first_tell, if_neg hp, hneg hp]⟩
theorem ask_yes {fs : List Int} {n : Nat} {b : Prop} [Decidable b] (h : b) (t : List Stp) : firstR fs n (wordsT false (.ask (decide b) :: t)) = firstR fs n (wordsT false t) := by rw [first_ask, if_pos (decide_eq_true h)]
theorem ask_no {fs : List Int} {n : Nat} {b : Prop} [Decidable b] (h : ¬ b) (t : List Stp) : firstR fs n (wordsT false (.ask (decide b) :: t)) = -1 := by rw [first_ask, if_neg (by rw [decide_eq_false h]; simp)]
theorem first_nil (fs : List Int) (n : Nat) : firstR fs n (wordsT false []) = -1 := rfl
/-- How far the other way is made, and what it tells. -/
theorem next_via (fs : List Int) (n : Nat) (k : Int) (vals : List (Int × Int)) :
    (viaM fs n (-1, false) k (vals.map (·.1))).1 = firstR fs n (wordsT false (stayS fs n 13 :: .ask (decide (k + 1 < rd fs n 13)) :: vals.map (fun x => becS fs n (placeN 5 x.1) x.2))) ∨ k + 1 < 0 := by
  by_cases hk : k + 1 < 0
  · exact .inr hk
  refine .inl ?_
  unfold viaM
  rcases tell3 fs n 13 (by omega) with ⟨a1, f1⟩ | ⟨a1, f1⟩
  · rw [a1, stayS, f1]
    dsimp only
    by_cases h : k + 1 < rd fs n 13
    · rw [if_pos h, ask_yes h]
      clear f1 a1
      induction vals with
      | nil => rfl
      | cons x t ih =>
        rw [List.map_cons, List.map_cons, List.foldl_cons, becS]
        rcases tell3 fs n (placeN 5 x.1) place_neg with ⟨a2, f2⟩ | ⟨a2, f2⟩
        · rw [a2, f2]; exact ih
        · rw [a2, f2]
          clear ih
          induction t with
          | nil => rfl
          | cons y t ih => rw [List.map_cons, List.foldl_cons, know_on]; exact ih
    · rw [if_neg h, ask_no h]
  · rw [a1, stayS, f1]
    dsimp only
    rw [if_neg hk]
theorem next_put (fs : List Int) (n : Nat) (k v : Int) (hk : 0 ≤ k) : (putM fs n k v).1 = firstR fs n (wordsT false (putS false fs n k v)) := by
  unfold putM putS becS growS
  rcases tell3 fs n (placeN 1 k) place_neg with ⟨a1, f1⟩ | ⟨a1, f1⟩
  · rw [a1, f1]
    by_cases h1 : rd fs n (placeN 1 k) = 0
    · rw [ask_yes h1]
      simp only [if_off, ne_eq, h1, not_true, decide_false]
      rcases tell3 fs n (placeN 2 v) place_neg with ⟨a2, f2⟩ | ⟨a2, f2⟩
      · rw [a2, f2]
        by_cases h2 : rd fs n (placeN 2 v) = 0
        · rw [ask_yes h2]
          simp only [if_off, h2, not_true, decide_false]
          rcases tell3 fs n (placeN 3 (classN v)) place_neg with ⟨a3, f3⟩ | ⟨a3, f3⟩
          · rw [a3, f3]
            rcases next_via fs n k [(v, k + 1)] with h | h
            · exact h
            · omega
          · rw [a3, f3]; simp only [via_on]
        · rw [ask_no h2]; simp only [if_off, h2, not_false_eq_true, decide_true, know_on, via_on]
      · rw [a2, f2]; simp only [if_on, know_on, via_on]
    · rw [ask_no h1]; simp only [if_off, if_on, ne_eq, h1, not_false_eq_true, decide_true, know_on, via_on]
  · rw [a1, f1]; simp only [if_on, know_on, via_on]
theorem next_del (fs : List Int) (n : Nat) (k : Int) (hk : 0 ≤ k) : (delM fs n k).1 = firstR fs n (wordsT false (delS false fs n k)) := by
  unfold delM delS becS shrinkS
  dsimp only
  rcases tell3 fs n (placeN 1 k) place_neg with ⟨a1, f1⟩ | ⟨a1, f1⟩
  · rw [a1, f1]
    dsimp only
    by_cases h1 : rd fs n (placeN 1 k) = 0
    · have e : placeN 2 (rd fs n (placeN 1 k)) = -1 := by rw [h1]; decide
      rw [first_tell, e, if_neg (by omega)]
      simp only [if_off, h1, decide_true, know_on, via_on]
    · simp only [if_off, h1, decide_false]
      rcases tell3 fs n (placeN 2 (rd fs n (placeN 1 k))) place_neg with ⟨a2, f2⟩ | ⟨a2, f2⟩
      · rw [a2, f2]
        rcases tell3 fs n (placeN 3 (classN (rd fs n (placeN 1 k)))) place_neg with ⟨a3, f3⟩ | ⟨a3, f3⟩
        · rw [a3, f3]
          rcases next_via fs n k [(rd fs n (placeN 1 k), 0)] with h | h
          · exact h
          · omega
        · rw [a3, f3]; simp only [via_on]
      · rw [a2, f2]; simp only [know_on, via_on]
  · rw [a1, f1]; simp only [if_on, know_on, via_on]
theorem next_set (fs : List Int) (n : Nat) (k v : Int) (hk : 0 ≤ k) : (setM fs n k v).1 = firstR fs n (wordsT false (setS false fs n k v)) := by
  unfold setM setS becS moveS shrinkS growS
  dsimp only [List.cons_append, List.nil_append]
  rcases tell3 fs n (placeN 1 k) place_neg with ⟨a1, f1⟩ | ⟨a1, f1⟩
  · rw [a1, f1]
    dsimp only
    by_cases h1 : rd fs n (placeN 1 k) = 0
    · rw [ask_no (by simpa using h1)]
      simp only [if_off, if_on, h1, true_or, decide_true, know_on, via_on, ite_self]
    · rw [ask_yes h1]
      by_cases h2 : rd fs n (placeN 1 k) = v
      · rw [ask_no (by simpa using h2)]
        simp only [if_off, if_on, h2, or_true, decide_true, know_on, via_on, ite_self]
      · rw [ask_yes h2]
        simp only [if_off, h1, h2, or_self, decide_false]
        rcases tell3 fs n (placeN 2 v) place_neg with ⟨a2, f2⟩ | ⟨a2, f2⟩
        · rw [a2, f2]
          by_cases h3 : rd fs n (placeN 2 v) = 0
          · rw [ask_yes h3]
            simp only [if_off, h3, ne_eq, not_true, decide_false]
            rcases tell3 fs n (placeN 2 (rd fs n (placeN 1 k))) place_neg with ⟨a4, f4⟩ | ⟨a4, f4⟩
            · rw [a4, f4]
              have hv := next_via fs n k [(rd fs n (placeN 1 k), 0), (v, k + 1)]
              by_cases hc : classN (rd fs n (placeN 1 k)) = classN v
              · rw [if_pos hc, if_pos hc]
                rcases hv with h | h
                · exact h
                · omega
              · rw [if_neg hc, if_neg hc]
                dsimp only [List.cons_append, List.nil_append]
                rcases tell3 fs n (placeN 3 (classN (rd fs n (placeN 1 k)))) place_neg with ⟨a5, f5⟩ | ⟨a5, f5⟩
                · rw [a5, f5]
                  dsimp only
                  rcases tell3 fs n (placeN 3 (classN v)) place_neg with ⟨a6, f6⟩ | ⟨a6, f6⟩
                  · rw [a6, f6]
                    rcases hv with h | h
                    · exact h
                    · omega
                  · rw [a6, f6]; simp only [via_on]
                · rw [a5, f5]; simp only [know_on, via_on]
            · rw [a4, f4]; simp only [know_on, via_on, ite_self]
          · rw [ask_no h3]; simp only [if_off, h3, ne_eq, not_false_eq_true, decide_true, know_on, via_on, ite_self]
        · rw [a2, f2]; simp only [if_on, know_on, via_on, ite_self]
  · rw [a1, f1]; simp only [if_on, know_on, via_on, ite_self]
theorem next_make (fs : List Int) (n : Nat) (hw : (Lit.int .i64 (rd fs n 13)).wf = true) : (makeM fs n).1 = firstR fs n (wordsT false (makeS fs n)) := by
  unfold makeM makeS growS stayS becS
  dsimp only
  rcases tell3 fs n 13 (by omega) with ⟨a1, f1⟩ | ⟨a1, f1⟩
  · rw [a1, f1]
    dsimp only
    by_cases h1 : 1 ≤ rd fs n 13 ∧ rd fs n 13 ≤ 4
    · simp only [if_off, h1, and_self, not_true, decide_false]
      rw [show wrap64 (rd fs n 13 - 1) = rd fs n 13 - 1 by unfold wrap64; omega]
      rcases tell3 fs n (placeN 1 (rd fs n 13 - 1)) place_neg with ⟨a2, f2⟩ | ⟨a2, f2⟩
      · rw [a2, f2]
        dsimp only
        by_cases h2 : rd fs n (placeN 1 (rd fs n 13 - 1)) = 0
        · have e : placeN 5 (rd fs n (placeN 1 (rd fs n 13 - 1))) = -1 := by rw [h2]; decide
          rw [if_pos h2, first_tell, e, if_neg (by omega)]
        · rw [if_neg h2]
          exact know_one _ place_neg _ _
      · rw [a2, f2]; simp only [if_true]
    · simp only [if_off, h1, not_false_eq_true, decide_true, know_on, if_true]
      have e : placeN 1 (wrap64 (rd fs n 13 - 1)) = -1 := by
        have hl : -9223372036854775808 ≤ rd fs n 13 ∧ rd fs n 13 ≤ 9223372036854775807 := by simpa [Lit.wf, IntKind.min, IntKind.max, IntKind.signed, IntKind.bits] using hw
        have e1 : wrap64 (rd fs n 13 - 1) < 0 ∨ 3 < wrap64 (rd fs n 13 - 1) := by unfold wrap64; omega
        unfold placeN
        repeat' split
        all_goals omega
      rw [first_tell, e, if_neg (by omega)]
  · rw [a1, f1]
    simp only [if_on, know_on, if_true]
theorem next_viaOp (fs : List Int) (n : Nat) (v : Int) : ((knowM fs n (ifM (knowM fs n (-1, false) 13).1 ((knowM fs n (-1, false) 13).2 ≠ 5)) (placeN 5 v)).1).1 = firstR fs n (wordsT false (viaS fs n v)) := by
  unfold viaS stayS
  rcases tell3 fs n 13 (by omega) with ⟨a1, f1⟩ | ⟨a1, f1⟩
  · rw [a1, f1]
    dsimp only
    by_cases h1 : rd fs n 13 = 5
    · rw [ask_yes h1]
      simp only [if_off, h1, ne_eq, not_true, decide_false]
      exact know_one _ place_neg _ _
    · rw [ask_no h1]
      simp only [if_off, h1, ne_eq, not_false_eq_true, decide_true, know_on]
  · rw [a1, f1]; simp only [if_on, know_on]
theorem next_scan (fs : List Int) (n : Nat) : ((knowM fs n (knowM fs n (knowM fs n (knowM fs n (-1, false) (placeN 1 0)).1 (placeN 1 1)).1 (placeN 1 2)).1 (placeN 1 3)).1).1 = firstR fs n (wordsT false (scanS fs n)) := by
  unfold scanS stayS
  rcases tell3 fs n (placeN 1 0) place_neg with ⟨a1, f1⟩ | ⟨a1, f1⟩
  · rw [a1, f1]
    rcases tell3 fs n (placeN 1 1) place_neg with ⟨a2, f2⟩ | ⟨a2, f2⟩
    · rw [a2, f2]
      rcases tell3 fs n (placeN 1 2) place_neg with ⟨a3, f3⟩ | ⟨a3, f3⟩
      · rw [a3, f3]; exact know_one _ place_neg _ _
      · rw [a3, f3, know_on]
    · rw [a2, f2, know_on, know_on]
  · rw [a1, f1, know_on, know_on, know_on]
/-- Of every op that may be asked: the next word is the first that is told and was not read. -/
theorem next_words (fs : List Int) (n : Nat) (kind k v : Int) (hw : (Lit.int .i64 (rd fs n 13)).wf = true) (hg : OpGood kind k v) : nextM fs n kind k v = firstR fs n (wordsT false (stepsT false fs n kind k v)) := by
  unfold nextM allM stepsT
  rw [if_pos hg]
  by_cases h1 : kind = 1
  · rw [if_pos h1, if_pos h1]; exact next_put fs n k v (by subst h1; unfold OpGood KeyGood at hg; omega)
  rw [if_neg h1, if_neg h1]
  by_cases h2 : kind = 2
  · rw [if_pos h2, if_pos h2]; exact next_set fs n k v (by subst h2; unfold OpGood KeyGood at hg; omega)
  rw [if_neg h2, if_neg h2]
  by_cases h3 : kind = 3
  · rw [if_pos h3, if_pos h3]; exact next_del fs n k (by subst h3; unfold OpGood KeyGood at hg; omega)
  rw [if_neg h3, if_neg h3]
  by_cases h4 : kind = 4
  · rw [if_pos h4, if_pos h4]; exact know_one _ place_neg _ _
  rw [if_neg h4, if_neg h4]
  by_cases h5 : kind = 5
  · rw [if_pos h5, if_pos h5]; exact know_one _ place_neg _ _
  rw [if_neg h5, if_neg h5]
  by_cases h6 : kind = 6
  · rw [if_pos h6, if_pos h6]; exact know_one _ place_neg _ _
  rw [if_neg h6, if_neg h6]
  by_cases h7 : kind = 7
  · rw [if_pos h7, if_pos h7]; exact next_scan fs n
  rw [if_neg h7, if_neg h7]
  by_cases h8 : kind = 8
  · rw [if_pos h8, if_pos h8]; exact know_one _ (by omega) _ _
  rw [if_neg h8, if_neg h8]
  by_cases h9 : kind = 9
  · rw [if_pos h9, if_pos h9]; exact next_make fs n hw
  rw [if_neg h9, if_neg h9]
  exact next_viaOp fs n v
end Go.Proofs.YtekafaoleniebapDoor
