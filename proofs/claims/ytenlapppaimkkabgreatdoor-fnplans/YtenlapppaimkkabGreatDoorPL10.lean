/- Texts joined: NextT, ImplNext, ReadOf, ReadSeq, SpecAdd, SpecAdd2, FlatE, CollectE, SortLay, SortE. -/
import Derived.Test.YtenlapppaimkkabGreatDoorPL03
import Derived.Test.YtenlapppaimkkabGreatDoorPL09
import Derived.Test.YtenlapppaimkkabGreatDoorPL02
import Derived.Laws.AppendOwnNone
import Derived.Handy
import Derived.LoopN
import Derived.Test.YtenlapppaimkkabGreatDoorPL04
import Derived.Shelf.SlSortCmp.SmallK
import Derived.Shelf.SlicesG.Cmp
import Derived.Shelf.Small.Bits
import Derived.Ground.SlsfProg
import Derived.Ground.SlgcProg
import Derived.Ground.NamesProg
import Derived.Test.YtenlapppaimkkabGreatDoorProg
import Derived.Shelf.Abstract
set_option maxHeartbeats 4000000
set_option maxRecDepth 100000
namespace Go.Proofs.YtenlapppaimkkabGreatDoor
section
open Go.ChangeShapes Go.WideShapes Go.ChangeAt Go.RowKit
def goR (fs : List Int) (n : Nat) (x : Ent) : Bool := (readF fs x.1 n).2
def firstR (fs : List Int) (n : Nat) : List Ent → Int
  | [] => -1
  | x :: t => if goR fs n x = true then firstR fs n t else x.1
theorem firstR_all {fs : List Int} {n : Nat} : ∀ {L : List Ent}, (∀ x ∈ L, goR fs n x = true) → firstR fs n L = -1
  | [], _ => rfl
  | x :: t, h => by rw [firstR, if_pos (h x (List.mem_cons_self ..))]; exact firstR_all (fun y hy => h y (List.mem_cons_of_mem _ hy))
theorem firstR_some {fs : List Int} {n : Nat} {x : Ent} {rest : List Ent} (hx : goR fs n x = false) : ∀ {L q : List Ent}, L = q ++ x :: rest → (∀ y ∈ q, goR fs n y = true) → firstR fs n L = x.1
  | _, [], e, _ => by rw [e]; rw [List.nil_append, firstR, if_neg (by rw [hx]; simp)]
  | _, y :: q, e, h => by
    rw [e, List.cons_append, firstR, if_pos (h y (List.mem_cons_self ..))]
    exact firstR_some hx rfl (fun z hz => h z (List.mem_cons_of_mem _ hz))
theorem first_tell {fs : List Int} {n : Nat} (p o v : Int) (t : List Stp) : firstR fs n (wordsT false (.tell p o v :: t)) = if 0 ≤ p then (if (readF fs p n).2 = true then firstR fs n (wordsT false t) else p) else -1 := by
  rw [wordsT]
  by_cases hp : 0 ≤ p
  · rw [if_pos hp, if_pos hp]; rfl
  · rw [if_neg hp, if_neg hp]; rfl
theorem first_ask {fs : List Int} {n : Nat} (b : Bool) (t : List Stp) : firstR fs n (wordsT false (.ask b :: t)) = if b = true then firstR fs n (wordsT false t) else -1 := by
  rw [wordsT]
  by_cases hp : b = true
  · rw [if_pos hp, if_pos hp]
  · rw [if_neg hp, if_neg hp]; rfl
theorem know_go {fs : List Int} {n : Nat} {s : Work} (h : s.2 = false) {p : Int} (hp : 0 ≤ p) (hr : (readF fs p n).2 = true) : knowM fs n s p = (s, rd fs n p) := by
  unfold knowM
  rw [if_neg (by rw [h]; simp), if_neg (by rw [hr]; simp; omega), rd, if_neg (Int.not_lt.2 hp)]
theorem know_stop {fs : List Int} {n : Nat} {s : Work} (h : s.2 = false) {p : Int} (hr : (readF fs p n).2 = false ∨ p < 0) : knowM fs n s p = ((p, true), 0) := by
  unfold knowM
  rw [if_neg (by rw [h]; simp), if_pos hr]
theorem place_neg {m : Int} {k : Int} (h : ¬ 0 ≤ placeN m k) : placeN m k = -1 := by
  unfold placeN at h ⊢
  repeat' split at h
  all_goals first | omega | (repeat' split) <;> omega
theorem know_one {fs : List Int} {n : Nat} (p : Int) (hneg : ¬ 0 ≤ p → p = -1) (o v : Int) : (knowM fs n (-1, false) p).1.1 = firstR fs n (wordsT false [.tell p o v]) := by
  rw [first_tell]
  by_cases hp : 0 ≤ p
  · rw [if_pos hp]
    by_cases hr : (readF fs p n).2 = true
    · rw [if_pos hr, know_go rfl hp hr]; rfl
    · rw [if_neg hr, know_stop rfl (.inl (by simpa using hr))]
  · rw [if_neg hp, know_stop rfl (.inr (by omega))]; exact hneg hp
theorem know_on (fs : List Int) (n : Nat) (x p : Int) : knowM fs n (x, true) p = ((x, true), 0) := knowM_stop rfl p
theorem if_on (x : Int) (b : Prop) [Decidable b] : ifM (x, true) b = (x, true) := rfl
theorem if_off (x : Int) (b : Prop) [Decidable b] : ifM (x, false) b = (x, decide b) := by unfold ifM; simp
theorem via_on (fs : List Int) (n : Nat) (x k : Int) (vals : List Int) : viaM fs n (x, true) k vals = (x, true) := by
  unfold viaM
  rw [know_on]
  dsimp only
  split
  · induction vals with
    | nil => rfl
    | cons y t ih => rw [List.foldl_cons, know_on]; exact ih
  · rfl
theorem tell3 (fs : List Int) (n : Nat) (p : Int) (hneg : ¬ 0 ≤ p → p = -1) :
    ((∀ x : Int, knowM fs n (x, false) p = ((x, false), rd fs n p)) ∧ ∀ o v t, firstR fs n (wordsT false (.tell p o v :: t)) = firstR fs n (wordsT false t)) ∨
    ((∀ x : Int, knowM fs n (x, false) p = ((p, true), 0)) ∧ ∀ o v t, firstR fs n (wordsT false (.tell p o v :: t)) = p) := by
  by_cases hp : 0 ≤ p
  · by_cases hr : (readF fs p n).2 = true
    · exact .inl ⟨fun x => know_go rfl hp hr, fun o v t => by rw [first_tell, if_pos hp, if_pos hr]⟩
    · exact .inr ⟨fun x => know_stop rfl (.inl (by simpa using hr)), fun o v t => by rw [first_tell, if_pos hp, if_neg hr]⟩
  · exact .inr ⟨fun x => know_stop rfl (.inr (by omega)), fun o v t => by rw [first_tell, if_neg hp, hneg hp]⟩
theorem ask_yes {fs : List Int} {n : Nat} {b : Prop} [Decidable b] (h : b) (t : List Stp) : firstR fs n (wordsT false (.ask (decide b) :: t)) = firstR fs n (wordsT false t) := by rw [first_ask, if_pos (decide_eq_true h)]
theorem ask_no {fs : List Int} {n : Nat} {b : Prop} [Decidable b] (h : ¬ b) (t : List Stp) : firstR fs n (wordsT false (.ask (decide b) :: t)) = -1 := by rw [first_ask, if_neg (by rw [decide_eq_false h]; simp)]
theorem next_via (fs : List Int) (n : Nat) (k : Int) (vals : List (Int × Int)) :
    (viaM fs n (-1, false) k (vals.map (·.1))).1 = firstR fs n (wordsT false (stayS fs n 13 :: .ask (decide (k + 1 < rd fs n 13)) :: vals.map (fun x => becS fs n (placeN 5 x.1) x.2))) ∨ k + 1 < 0 := by
  by_cases hk : k + 1 < 0
  · exact .inr hk
  refine .inl ?_
  unfold viaM
  rcases tell3 fs n 13 (by omega) with ⟨a1, f1⟩ | ⟨a1, f1⟩
  · rw [a1, stayS, f1]
    dsimp only
    by_cases h : k + 1 < rd fs n 13
    · rw [if_pos h, ask_yes h]
      clear f1 a1
      induction vals with
      | nil => rfl
      | cons x t ih =>
        rw [List.map_cons, List.map_cons, List.foldl_cons, becS]
        rcases tell3 fs n (placeN 5 x.1) place_neg with ⟨a2, f2⟩ | ⟨a2, f2⟩
        · rw [a2, f2]; exact ih
        · rw [a2, f2]
          clear ih
          induction t with
          | nil => rfl
          | cons y t ih => rw [List.map_cons, List.foldl_cons, know_on]; exact ih
    · rw [if_neg h, ask_no h]
  · rw [a1, stayS, f1]
    dsimp only
    rw [if_neg hk]
theorem next_put (fs : List Int) (n : Nat) (k v : Int) (hk : 0 ≤ k) : (putM fs n k v).1 = firstR fs n (wordsT false (putS false fs n k v)) := by
  unfold putM putS becS growS
  rcases tell3 fs n (placeN 1 k) place_neg with ⟨a1, f1⟩ | ⟨a1, f1⟩
  · rw [a1, f1]
    by_cases h1 : rd fs n (placeN 1 k) = 0
    · rw [ask_yes h1]
      simp only [if_off, ne_eq, h1, not_true, decide_false]
      rcases tell3 fs n (placeN 2 v) place_neg with ⟨a2, f2⟩ | ⟨a2, f2⟩
      · rw [a2, f2]
        by_cases h2 : rd fs n (placeN 2 v) = 0
        · rw [ask_yes h2]
          simp only [if_off, h2, not_true, decide_false]
          rcases tell3 fs n (placeN 3 (classN v)) place_neg with ⟨a3, f3⟩ | ⟨a3, f3⟩
          · rw [a3, f3]
            rcases next_via fs n k [(v, k + 1)] with h | h
            · exact h
            · omega
          · rw [a3, f3]; simp only [via_on]
        · rw [ask_no h2]; simp only [if_off, h2, not_false_eq_true, decide_true, know_on, via_on]
      · rw [a2, f2]; simp only [if_on, know_on, via_on]
    · rw [ask_no h1]; simp only [if_off, if_on, ne_eq, h1, not_false_eq_true, decide_true, know_on, via_on]
  · rw [a1, f1]; simp only [if_on, know_on, via_on]
theorem next_del (fs : List Int) (n : Nat) (k : Int) (hk : 0 ≤ k) : (delM fs n k).1 = firstR fs n (wordsT false (delS false fs n k)) := by
  unfold delM delS becS shrinkS
  dsimp only
  rcases tell3 fs n (placeN 1 k) place_neg with ⟨a1, f1⟩ | ⟨a1, f1⟩
  · rw [a1, f1]
    dsimp only
    by_cases h1 : rd fs n (placeN 1 k) = 0
    · have e : placeN 2 (rd fs n (placeN 1 k)) = -1 := by rw [h1]; decide
      rw [first_tell, e, if_neg (by omega)]
      simp only [if_off, h1, decide_true, know_on, via_on]
    · simp only [if_off, h1, decide_false]
      rcases tell3 fs n (placeN 2 (rd fs n (placeN 1 k))) place_neg with ⟨a2, f2⟩ | ⟨a2, f2⟩
      · rw [a2, f2]
        rcases tell3 fs n (placeN 3 (classN (rd fs n (placeN 1 k)))) place_neg with ⟨a3, f3⟩ | ⟨a3, f3⟩
        · rw [a3, f3]
          rcases next_via fs n k [(rd fs n (placeN 1 k), 0)] with h | h
          · exact h
          · omega
        · rw [a3, f3]; simp only [via_on]
      · rw [a2, f2]; simp only [know_on, via_on]
  · rw [a1, f1]; simp only [if_on, know_on, via_on]
theorem next_set (fs : List Int) (n : Nat) (k v : Int) (hk : 0 ≤ k) : (setM fs n k v).1 = firstR fs n (wordsT false (setS false fs n k v)) := by
  unfold setM setS becS moveS shrinkS growS
  dsimp only [List.cons_append, List.nil_append]
  rcases tell3 fs n (placeN 1 k) place_neg with ⟨a1, f1⟩ | ⟨a1, f1⟩
  · rw [a1, f1]
    dsimp only
    by_cases h1 : rd fs n (placeN 1 k) = 0
    · rw [ask_no (by simpa using h1)]
      simp only [if_off, if_on, h1, true_or, decide_true, know_on, via_on, ite_self]
    · rw [ask_yes h1]
      by_cases h2 : rd fs n (placeN 1 k) = v
      · rw [ask_no (by simpa using h2)]
        simp only [if_off, if_on, h2, or_true, decide_true, know_on, via_on, ite_self]
      · rw [ask_yes h2]
        simp only [if_off, h1, h2, or_self, decide_false]
        rcases tell3 fs n (placeN 2 v) place_neg with ⟨a2, f2⟩ | ⟨a2, f2⟩
        · rw [a2, f2]
          by_cases h3 : rd fs n (placeN 2 v) = 0
          · rw [ask_yes h3]
            simp only [if_off, h3, ne_eq, not_true, decide_false]
            rcases tell3 fs n (placeN 2 (rd fs n (placeN 1 k))) place_neg with ⟨a4, f4⟩ | ⟨a4, f4⟩
            · rw [a4, f4]
              have hv := next_via fs n k [(rd fs n (placeN 1 k), 0), (v, k + 1)]
              by_cases hc : classN (rd fs n (placeN 1 k)) = classN v
              · rw [if_pos hc, if_pos hc]
                rcases hv with h | h
                · exact h
                · omega
              · rw [if_neg hc, if_neg hc]
                dsimp only [List.cons_append, List.nil_append]
                rcases tell3 fs n (placeN 3 (classN (rd fs n (placeN 1 k)))) place_neg with ⟨a5, f5⟩ | ⟨a5, f5⟩
                · rw [a5, f5]
                  dsimp only
                  rcases tell3 fs n (placeN 3 (classN v)) place_neg with ⟨a6, f6⟩ | ⟨a6, f6⟩
                  · rw [a6, f6]
                    rcases hv with h | h
                    · exact h
                    · omega
                  · rw [a6, f6]; simp only [via_on]
                · rw [a5, f5]; simp only [know_on, via_on]
            · rw [a4, f4]; simp only [know_on, via_on, ite_self]
          · rw [ask_no h3]; simp only [if_off, h3, ne_eq, not_false_eq_true, decide_true, know_on, via_on, ite_self]
        · rw [a2, f2]; simp only [if_on, know_on, via_on, ite_self]
  · rw [a1, f1]; simp only [if_on, know_on, via_on, ite_self]
theorem next_make (fs : List Int) (n : Nat) (hw : (Lit.int .i64 (rd fs n 13)).wf = true) : (makeM fs n).1 = firstR fs n (wordsT false (makeS fs n)) := by
  unfold makeM makeS growS stayS becS
  dsimp only
  rcases tell3 fs n 13 (by omega) with ⟨a1, f1⟩ | ⟨a1, f1⟩
  · rw [a1, f1]
    dsimp only
    by_cases h1 : 1 ≤ rd fs n 13 ∧ rd fs n 13 ≤ 4
    · simp only [if_off, h1, and_self, not_true, decide_false]
      rw [show wrap64 (rd fs n 13 - 1) = rd fs n 13 - 1 by unfold wrap64; omega]
      rcases tell3 fs n (placeN 1 (rd fs n 13 - 1)) place_neg with ⟨a2, f2⟩ | ⟨a2, f2⟩
      · rw [a2, f2]
        dsimp only
        by_cases h2 : rd fs n (placeN 1 (rd fs n 13 - 1)) = 0
        · have e : placeN 5 (rd fs n (placeN 1 (rd fs n 13 - 1))) = -1 := by rw [h2]; decide
          rw [if_pos h2, first_tell, e, if_neg (by omega)]
        · rw [if_neg h2]
          exact know_one _ place_neg _ _
      · rw [a2, f2]; simp only [if_true]
    · simp only [if_off, h1, not_false_eq_true, decide_true, know_on, if_true]
      have e : placeN 1 (wrap64 (rd fs n 13 - 1)) = -1 := by
        have hl : -9223372036854775808 ≤ rd fs n 13 ∧ rd fs n 13 ≤ 9223372036854775807 := by simpa [Lit.wf, IntKind.min, IntKind.max, IntKind.signed, IntKind.bits] using hw
        have e1 : wrap64 (rd fs n 13 - 1) < 0 ∨ 3 < wrap64 (rd fs n 13 - 1) := by unfold wrap64; omega
        unfold placeN
        repeat' split
        all_goals omega
      rw [first_tell, e, if_neg (by omega)]
  · rw [a1, f1]
    simp only [if_on, know_on, if_true]
theorem next_viaOp (fs : List Int) (n : Nat) (v : Int) : ((knowM fs n (ifM (knowM fs n (-1, false) 13).1 ((knowM fs n (-1, false) 13).2 ≠ 5)) (placeN 5 v)).1).1 = firstR fs n (wordsT false (viaS fs n v)) := by
  unfold viaS stayS
  rcases tell3 fs n 13 (by omega) with ⟨a1, f1⟩ | ⟨a1, f1⟩
  · rw [a1, f1]
    dsimp only
    by_cases h1 : rd fs n 13 = 5
    · rw [ask_yes h1]
      simp only [if_off, h1, ne_eq, not_true, decide_false]
      exact know_one _ place_neg _ _
    · rw [ask_no h1]
      simp only [if_off, h1, ne_eq, not_false_eq_true, decide_true, know_on]
  · rw [a1, f1]; simp only [if_on, know_on]
theorem next_scan (fs : List Int) (n : Nat) : ((knowM fs n (knowM fs n (knowM fs n (knowM fs n (-1, false) (placeN 1 0)).1 (placeN 1 1)).1 (placeN 1 2)).1 (placeN 1 3)).1).1 = firstR fs n (wordsT false (scanS fs n)) := by
  unfold scanS stayS
  rcases tell3 fs n (placeN 1 0) place_neg with ⟨a1, f1⟩ | ⟨a1, f1⟩
  · rw [a1, f1]
    rcases tell3 fs n (placeN 1 1) place_neg with ⟨a2, f2⟩ | ⟨a2, f2⟩
    · rw [a2, f2]
      rcases tell3 fs n (placeN 1 2) place_neg with ⟨a3, f3⟩ | ⟨a3, f3⟩
      · rw [a3, f3]; exact know_one _ place_neg _ _
      · rw [a3, f3, know_on]
    · rw [a2, f2, know_on, know_on]
  · rw [a1, f1, know_on, know_on, know_on]
theorem next_words (fs : List Int) (n : Nat) (kind k v : Int) (hw : (Lit.int .i64 (rd fs n 13)).wf = true) (hg : OpGood kind k v) : nextM fs n kind k v = firstR fs n (wordsT false (stepsT false fs n kind k v)) := by
  unfold nextM allM stepsT
  rw [if_pos hg]
  by_cases h1 : kind = 1
  · rw [if_pos h1, if_pos h1]; exact next_put fs n k v (by subst h1; unfold OpGood KeyGood at hg; omega)
  rw [if_neg h1, if_neg h1]
  by_cases h2 : kind = 2
  · rw [if_pos h2, if_pos h2]; exact next_set fs n k v (by subst h2; unfold OpGood KeyGood at hg; omega)
  rw [if_neg h2, if_neg h2]
  by_cases h3 : kind = 3
  · rw [if_pos h3, if_pos h3]; exact next_del fs n k (by subst h3; unfold OpGood KeyGood at hg; omega)
  rw [if_neg h3, if_neg h3]
  by_cases h4 : kind = 4
  · rw [if_pos h4, if_pos h4]; exact know_one _ place_neg _ _
  rw [if_neg h4, if_neg h4]
  by_cases h5 : kind = 5
  · rw [if_pos h5, if_pos h5]; exact know_one _ place_neg _ _
  rw [if_neg h5, if_neg h5]
  by_cases h6 : kind = 6
  · rw [if_pos h6, if_pos h6]; exact know_one _ place_neg _ _
  rw [if_neg h6, if_neg h6]
  by_cases h7 : kind = 7
  · rw [if_pos h7, if_pos h7]; exact next_scan fs n
  rw [if_neg h7, if_neg h7]
  by_cases h8 : kind = 8
  · rw [if_pos h8, if_pos h8]; exact know_one _ (by omega) _ _
  rw [if_neg h8, if_neg h8]
  by_cases h9 : kind = 9
  · rw [if_pos h9, if_pos h9]; exact next_make fs n hw
  rw [if_neg h9, if_neg h9]
  exact next_viaOp fs n v
end
section
open Go.ChangeShapes Go.WideShapes Go.ChangeAt Go.RowKit Go.Shelf
attribute [local go_sem] Oper.semAt_some

structure Caught (a : Option Addr) (n c : Nat) (T : TypeId) (kind k v : Int) (Bg Bd : Nat) (W : World) : Prop where
  got : W.cell? ⟨Bg, 0, none⟩ = some (.slice a n c)
  deed : W.cell? ⟨Bd, 0, none⟩ = some (.iface T (OpV kind k v))
theorem words_any (a : Option Addr) (n c : Nat) (F : Value) (wh : Bool) (kind k v : Int) (fs : List Int) (go : Ent → Bool) (ts : List TypeId) (J Jx : List Ent → World → Prop) (W0 W : World)
    (hG : Goes F wh a n c fs go W0 ts J Jx) (hB : Base W0 a n fs) (hW : Below W0.heap.size W0 W) (hJ : J [] W) (hg : OpGood kind k v) :
    Calls Tryz.prog 75 #[.agg #[.slice a n c, F, .bool wh], .iface (deedT kind) (OpV kind k v)] W fun e W' => (∃ v, e = .returned v) ∧ ∃ b, Fin wh go W0.heap.size ts J Jx W (stepsT wh fs n kind k v) [] b W' := by
  have hkk : kind ≤ 3 → 0 ≤ k ∧ k ≤ 3 := fun h => by unfold OpGood KeyGood at hg; omega
  rcases kinds hg.1 with rfl | rfl | rfl | rfl | rfl | rfl | rfl | rfl | rfl | rfl
  · exact words_1 a n c F wh k v fs go ts J Jx W0 W hG hB hW hJ (hkk (by omega))
  · exact words_2 a n c F wh k v fs go ts J Jx W0 W hG hB hW hJ (hkk (by omega))
  · exact words_3 a n c F wh k v fs go ts J Jx W0 W hG hB hW hJ (hkk (by omega))
  · exact words_4 a n c F wh k v fs go ts J Jx W0 W hG hB hW hJ
  · exact words_5 a n c F wh k v fs go ts J Jx W0 W hG hB hW hJ
  · exact words_6 a n c F wh k v fs go ts J Jx W0 W hG hB hW hJ
  · exact words_7 a n c F wh k v fs go ts J Jx W0 W hG hB hW hJ
  · exact words_8 a n c F wh k v fs go ts J Jx W0 W hG hB hW hJ
  · exact words_9 a n c F wh k v fs go ts J Jx W0 W hG hB hW hJ
  · exact words_10 a n c F wh k v fs go ts J Jx W0 W hG hB hW hJ

theorem needed1_any (a : Option Addr) (n c l Bg Bd : Nat) (kind k v : Int) (fs : List Int) (go : Ent → Bool) (ts : List TypeId) (J Jx : List Ent → World → Prop) (W0 W : World)
    (hG : Goes (.func (.yield l) #[] #[]) false a n c fs go W0 ts J Jx) (hB : Base W0 a n fs) (hW : Below W0.heap.size W0 W) (hJ : J [] W) (hC : Caught a n c (deedT kind) kind k v Bg Bd W) (hg : OpGood kind k v) :
    Calls Tryz.prog 88 #[.func (.yield l) #[] #[], .pointer (some ⟨Bg, 0, none⟩), .pointer (some ⟨Bd, 0, none⟩)] W fun e W' => (∃ v, e = .returned v) ∧ ∃ b, Fin false go W0.heap.size ts J Jx W (stepsT false fs n kind k v) [] b W' := by
  have HG : Hid (Goes (.func (.yield l) #[] #[]) false a n c fs go W0 ts J Jx ∧ Base W0 a n fs ∧ Below W0.heap.size W0 W ∧ J [] W ∧ OpGood kind k v) := ⟨hG, hB, hW, hJ, hg⟩
  obtain ⟨c0, c1⟩ := hC
  clear hG hB hW hJ hg
  go_enter Tryz.func88, Tryz.ntmps88
  go_wp2_with fail
  refine (words_any a n c _ false kind k v fs go ts J Jx W0 W HG.out.1 HG.out.2.1 HG.out.2.2.1 HG.out.2.2.2.1 HG.out.2.2.2.2).mono ?_
  rintro e W' ⟨⟨r, rfl⟩, b, hF⟩
  have HF : Hid (Fin false go W0.heap.size ts J Jx W (stepsT false fs n kind k v) [] b W') := hF
  clear hF
  go_wp2
  go_end0
  exact ⟨⟨_, rfl⟩, b, HF.out⟩
theorem words_seq (a : Option Addr) (n c Bg Bd : Nat) (kind k v : Int) (fs : List Int) (go : Ent → Bool) (ts : List TypeId) (w : World) (hB : Base w a n fs) (hC : Caught a n c (deedT kind) kind k v Bg Bd w) (hg : OpGood kind k v)
    (ht : ∀ t ∈ [110, 93, 94, 95, 102, 96, 97, 98, 100, 56, 29], t ∉ ts) :
    SeqGo Tryz.prog 88 #[.pointer (some ⟨Bg, 0, none⟩), .pointer (some ⟨Bd, 0, none⟩)] encE go w.heap.size ts (wordsT false (stepsT false fs n kind k v)) w := fun l J Jx W hW hj hx hR h0 => by
  have lg : Bg < w.heap.size := World.block_lt_of_cell? w _ hC.got
  have ld : Bd < w.heap.size := World.block_lt_of_cell? w _ hC.deed
  refine (needed1_any a n c l Bg Bd kind k v fs go ts J Jx w W ⟨fun p x pre X hl hX hJX => becomes_yield a n c l false p x fs go ts J Jx pre w X hR hj hB hl hX hJX, hj, hx, ht⟩ hB hW h0 ⟨(hW.cell (p := ⟨Bg, 0, none⟩) lg).trans hC.got, (hW.cell (p := ⟨Bd, 0, none⟩) ld).trans hC.deed⟩ hg).mono ?_
  rintro e W' ⟨he, b, hF⟩
  exact ⟨he, fun ha => by simpa using fin_all hF ha, fun pre x rest e1 e2 e3 => by simpa using fin_some e3 hF e1 e2⟩

theorem neededOf_any (a : Option Addr) (n c : Nat) (d : Value) (T : TypeId) (x : Value) (hd : d = .iface T x) (w : World) :
    Calls Tryz.prog 52 #[d, .slice a n c] w fun e w' => e = .returned (.func (.func 88) #[] #[.pointer (some ⟨w.heap.size + 1, 0, none⟩), .pointer (some ⟨w.heap.size, 0, none⟩)]) ∧
      w' = (w.alloc (.cells #[d] 56)).alloc (.cells #[.slice a n c] 29) := by
  subst hd
  go_enter Tryz.func52, Tryz.ntmps52
  go_wp2
  go_ret
  exact ⟨rfl, rfl⟩

def Box3 (W : World) (B : Nat) (t : TypeId) (x : Ent) : Prop := W.heap[B]? = some (.cells #[.int .i64 x.1, .int .i64 x.2.1, .int .i64 x.2.2] t (0, 0))
theorem Box3.fst {W : World} {B : Nat} {t : TypeId} {x : Ent} (h : Box3 W B t x) : W.cell? ⟨B, 0, none⟩ = some (.int .i64 x.1) := by simp [World.cell?, show W.heap[B]? = _ from h]
theorem box3_own {β : Type} (B : Nat) (t : TypeId) (x : Ent) : Own (fun (_ : β) W => Box3 W B t x) := fun s X Y row hs hg hrow =>
  (hg.block B (Array.getElem?_eq_some_iff.1 hs).1 (fun e' => by obtain ⟨o, ho, hc⟩ := hrow B e'.symm; rw [show X.heap[B]? = _ from hs] at ho; cases ho; cases hc)).trans hs
theorem rd_wf {fs : List Int} {n : Nat} (h : ∀ x ∈ fs, (Lit.int .i64 x).wf = true) (p : Int) : (Lit.int .i64 (rd fs n p)).wf = true := by
  unfold rd
  split
  · decide
  induction n with
  | zero => show (Lit.int .i64 0).wf = true; decide
  | succ n ih =>
    show (Lit.int .i64 (if _ then _ else _ : Int × Bool).1).wf = true
    split
    · show (Lit.int .i64 (fs.getD (n * 2 + 1) 0)).wf = true
      by_cases hl : n * 2 + 1 < fs.length
      · rw [List.getD_eq_getElem?_getD, List.getElem?_eq_getElem hl]; exact h _ (List.getElem_mem hl)
      · rw [List.getD_eq_getElem?_getD, List.getElem?_eq_none (by omega)]; decide
    · exact ih

theorem implNext_cap (a : Option Addr) (n c : Nat) (kind k v : Int) (fs : List Int) (w : World) (hN : Names w) (hP : PairAt w a n fs) (hx : ∀ x ∈ fs, (Lit.int .i64 x).wf = true) :
    Calls Tryz.prog 16 #[OpV kind k v, .slice a n c] w fun e w' => e = .returned (.int .i64 (nextM fs n kind k v)) ∧ Below w.heap.size w w' := by
  have HB : Hid (Base w a n fs) := ⟨hN, hP⟩
  have HW : Hid (∀ x ∈ fs, (Lit.int .i64 x).wf = true) := hx
  clear hN hP hx
  obtain ⟨res, hres⟩ : ∃ r, nextM fs n kind k v = r := ⟨_, rfl⟩
  have HR : Hid (nextM fs n kind k v = res) := hres
  rw [hres]
  clear hres
  refine (callsIn_wide (n := 3)).1 (callsIn_of_wp_marks Tryz.func16 rfl trivial (wpIn_wide.2 ?_) rfl)
  simp only [Tryz.ntmps16, List.size_toArray, List.length_cons, List.length_nil, Nat.reduceAdd, Nat.reduceSub, Array.replicate_succ, Array.replicate_zero, List.push_toArray, List.append_toArray, List.nil_append, List.cons_append]
  obtain ⟨wa, hwa⟩ : ∃ wa, ((w.alloc (.cells #[.int .i64 kind, .int .i64 k, .int .i64 v] 28)).alloc (.cells #[.slice a n c] 29)).alloc (.cells #[.int .i64 0] 3) = wa := ⟨_, rfl⟩
  have sa : wa.heap.size = w.heap.size + 3 := by rw [← hwa]; simp
  have ba : Below w.heap.size w wa := by rw [← hwa]; exact (((Below.refl _ w).alloc (Nat.le_refl _) _).alloc (by simp) _).alloc (by simp; omega) _
  have x0 : wa.heap[w.heap.size]? = some (.cells #[.int .i64 kind, .int .i64 k, .int .i64 v] 28 (0, 0)) := by
    rw [← hwa]; exact ((Below.heap_alloc _ _ _ (by simp; omega)).trans (Below.heap_alloc _ _ _ (by simp))).trans (World.alloc_heap_new w _)
  have x1 : Boxed wa (w.heap.size + 1) 29 (.slice a n c) := by
    rw [← hwa]; have := Boxed.new (w.alloc (.cells #[.int .i64 kind, .int .i64 k, .int .i64 v] 28)) 29 (.slice a n c); rw [World.size_alloc] at this; exact this.alloc _
  have x2 : Boxed wa (w.heap.size + 1 + 1) 3 (.int .i64 0) := by
    rw [← hwa]; have := Boxed.new ((w.alloc (.cells #[.int .i64 kind, .int .i64 k, .int .i64 v] 28)).alloc (.cells #[.slice a n c] 29)) 3 (.int .i64 0); rw [World.size_alloc, World.size_alloc] at this; exact this
  have HA : Hid (wa.heap.size = w.heap.size + 3 ∧ Below w.heap.size w wa ∧ wa.heap[w.heap.size]? = some (.cells #[.int .i64 kind, .int .i64 k, .int .i64 v] 28 (0, 0)) ∧ Boxed wa (w.heap.size + 1) 29 (.slice a n c) ∧ Boxed wa (w.heap.size + 1 + 1) 3 (.int .i64 0)) := ⟨sa, ba, x0, x1, x2⟩
  have c0 : wa.cell? ⟨w.heap.size, 0, none⟩ = some (.int .i64 kind) := by simp [World.cell?, x0]
  have c1 : wa.cell? ⟨w.heap.size, 1, none⟩ = some (.int .i64 k) := by simp [World.cell?, x0]
  have c2 : wa.cell? ⟨w.heap.size, 2, none⟩ = some (.int .i64 v) := by simp [World.cell?, x0]
  clear sa ba x0 x1 x2
  go_wp2_with fail
  refine (implOpOk_any kind k v _).mono ?_
  rintro e w1 ⟨rfl, hb1⟩
  have hb1' : Below wa.heap.size wa w1 := by first | exact hb1 | exact hwa ▸ hb1
  have HA1 : Hid (w.heap.size + 3 ≤ w1.heap.size ∧ Below w.heap.size w w1 ∧ w1.heap[w.heap.size]? = some (.cells #[.int .i64 kind, .int .i64 k, .int .i64 v] 28 (0, 0)) ∧ Boxed w1 (w.heap.size + 1) 29 (.slice a n c) ∧ Boxed w1 (w.heap.size + 1 + 1) 3 (.int .i64 0)) := by
    obtain ⟨g1, g2, g3, g4, g5⟩ := HA.out
    exact ⟨by have := hb1'.size; omega, g2.trans (hb1'.mono (by omega)), (hb1'.block _ (by omega)).trans g3, (hb1'.block _ (by omega)).trans g4, (hb1'.block _ (by omega)).trans g5⟩
  clear hb1 hb1' c0 c1 c2
  have r2 := HA1.out.2.2.2.2.cell
  have f2 := HA1.out.2.2.2.2.frozen
  by_cases hg : OpGood kind k v
  case neg =>
    rw [decide_eq_false hg]
    have HZ : Hid (res = -1) := by rw [← HR.out]; unfold nextM; exact if_neg hg
    clear hg
    go_wp2
    have g2 := (HA1.out.2.2.2.2.set (.int .i64 (-1))).cell
    refine ⟨.int .i64 (-1), by simp [results, Tryz.f16, go_sem, g2], by rw [HZ.out], HA1.out.2.1.setCell (p := ⟨w.heap.size + 1 + 1, 0, none⟩) (by simp; omega) _⟩
  rw [decide_eq_true hg]
  have HG : Hid (OpGood kind k v) := hg
  clear hg
  obtain ⟨wd, hwd⟩ : ∃ wd, w1.drew = wd := ⟨_, rfl⟩
  have HD : Hid (w.heap.size + 3 ≤ wd.heap.size ∧ Below w.heap.size w wd ∧ wd.heap[w.heap.size]? = some (.cells #[.int .i64 kind, .int .i64 k, .int .i64 v] 28 (0, 0)) ∧ Boxed wd (w.heap.size + 1) 29 (.slice a n c) ∧ Boxed wd (w.heap.size + 1 + 1) 3 (.int .i64 0)) := by
    rw [← hwd]; obtain ⟨g1, g2, g3, g4, g5⟩ := HA1.out; exact ⟨g1, g2.drew, g3, g4, g5⟩
  have boxS : ∀ {w' : World}, w'.heap[w.heap.size]? = some (.cells #[.int .i64 kind, .int .i64 k, .int .i64 v] 28 (0, 0)) → Boxed w' (w.heap.size + 1) 29 (.slice a n c) →
      (w'.cell? ⟨w.heap.size, 0, none⟩ = some (.int .i64 kind) ∧ w'.cell? ⟨w.heap.size, 1, none⟩ = some (.int .i64 k) ∧ w'.cell? ⟨w.heap.size, 2, none⟩ = some (.int .i64 v) ∧ w'.cell? ⟨w.heap.size + 1, 0, none⟩ = some (.slice a n c)) :=
    fun h h' => ⟨by simp [World.cell?, h], by simp [World.cell?, h], by simp [World.cell?, h], h'.cell⟩
  have K0 : Hid _ := boxS HD.out.2.2.1 HD.out.2.2.2.1
  clear r2 f2
  go_wp2_with fail
  go_region_held3 (fun w' => w'.cell? ⟨w.heap.size, 0, none⟩ = some (.int .i64 kind) ∧ w'.cell? ⟨w.heap.size, 1, none⟩ = some (.int .i64 k) ∧ w'.cell? ⟨w.heap.size, 2, none⟩ = some (.int .i64 v) ∧ w'.cell? ⟨w.heap.size + 1, 0, none⟩ = some (.slice a n c))
    (first | (with_reducible exact K3.out) | (with_reducible exact K2.out) | (with_reducible exact K0.out) | exact hwd ▸ K0.out | go_keep)
    (first
    | (go_at_call 22
       refine (implDeedOf_any kind k v _).mono ?_
       rintro e w2 ⟨rfl, hb2⟩
       have hb2' : Below wd.heap.size wd w2 := by first | exact hb2 | exact hwd ▸ hb2
       have HD2 : Hid (w.heap.size + 3 ≤ w2.heap.size ∧ Below w.heap.size w w2 ∧ w2.heap[w.heap.size]? = some (.cells #[.int .i64 kind, .int .i64 k, .int .i64 v] 28 (0, 0)) ∧ Boxed w2 (w.heap.size + 1) 29 (.slice a n c) ∧ Boxed w2 (w.heap.size + 1 + 1) 3 (.int .i64 0)) := by
         obtain ⟨g1, g2, g3, g4, g5⟩ := HD.out
         exact ⟨Nat.le_trans g1 hb2'.size, g2.trans (hb2'.mono (by omega)), (hb2'.block _ (by omega)).trans g3, (hb2'.block _ (by omega)).trans g4, (hb2'.block _ (by omega)).trans g5⟩
       have K2 : Hid (w2.cell? ⟨w.heap.size, 0, none⟩ = some (.int .i64 kind) ∧ w2.cell? ⟨w.heap.size, 1, none⟩ = some (.int .i64 k) ∧ w2.cell? ⟨w.heap.size, 2, none⟩ = some (.int .i64 v) ∧ w2.cell? ⟨w.heap.size + 1, 0, none⟩ = some (.slice a n c)) := boxS HD2.out.2.2.1 HD2.out.2.2.2.1
       clear hb2 hb2')
    | (go_at_call 52
       refine (neededOf_any a n c (DeedV kind k v) (deedT kind) _ rfl _).mono ?_
       rintro e w3 ⟨rfl, hw3⟩
       have HW3 : Hid (w3 = (w2.alloc (.cells #[DeedV kind k v] 56)).alloc (.cells #[.slice a n c] 29)) := hw3
       have hb3 : Below w2.heap.size w2 w3 := by rw [hw3]; exact ((Below.refl _ _).alloc (Nat.le_refl _) _).alloc (by simp) _
       have HD3 : Hid (w.heap.size + 3 ≤ w3.heap.size ∧ Below w.heap.size w w3 ∧ w3.heap[w.heap.size]? = some (.cells #[.int .i64 kind, .int .i64 k, .int .i64 v] 28 (0, 0)) ∧ Boxed w3 (w.heap.size + 1) 29 (.slice a n c) ∧ Boxed w3 (w.heap.size + 1 + 1) 3 (.int .i64 0)) := by
         obtain ⟨g1, g2, g3, g4, g5⟩ := HD2.out
         exact ⟨Nat.le_trans g1 hb3.size, g2.trans (hb3.mono (by omega)), (hb3.block _ (by omega)).trans g3, (hb3.block _ (by omega)).trans g4, (hb3.block _ (by omega)).trans g5⟩
       have K3 : Hid (w3.cell? ⟨w.heap.size, 0, none⟩ = some (.int .i64 kind) ∧ w3.cell? ⟨w.heap.size, 1, none⟩ = some (.int .i64 k) ∧ w3.cell? ⟨w.heap.size, 2, none⟩ = some (.int .i64 v) ∧ w3.cell? ⟨w.heap.size + 1, 0, none⟩ = some (.slice a n c)) := boxS HD3.out.2.2.1 HD3.out.2.2.2.1
       clear hw3 hb3))
  go_wp2_with fail
  have HSQ : Hid (SeqGo Tryz.prog 88 #[.pointer (some ⟨w2.heap.size + 1, 0, none⟩), .pointer (some ⟨w2.heap.size, 0, none⟩)] encE (goR fs n) w3.heap.size [3] (wordsT false (stepsT false fs n kind k v)) w3) :=
    words_seq a n c (w2.heap.size + 1) w2.heap.size kind k v fs (goR fs n) [3] w3 (HB.out.on HD3.out.2.1) ⟨by rw [HW3.out]; have := Boxed.new (w2.alloc (.cells #[DeedV kind k v] 56)) 29 (.slice a n c); rw [World.size_alloc] at this; exact this.cell,
      by rw [HW3.out]; exact ((Boxed.new w2 56 (DeedV kind k v)).alloc _).cell⟩ HG.out (by decide)
  refine wp_rangeFunc_go (gf := 88) (lb := #[.pointer (some ⟨w2.heap.size + 1, 0, none⟩), .pointer (some ⟨w2.heap.size, 0, none⟩)]) rfl (enters_of Tryz.func88 (by kernel_rfl) rfl) HSQ.out (Nat.le_refl _) (fun _ => rfl)
    (fun pre W => (Boxed W (w.heap.size + 1) 29 (.slice a n c) ∧ Boxed W (w.heap.size + 1 + 1) 3 (.int .i64 0)) ∧ Below w.heap.size w W)
    (fun pre W => (∃ q x, pre = q ++ [x] ∧ Boxed W (w.heap.size + 1 + 1) 3 (.int .i64 x.1)) ∧ Below w.heap.size w W)
    (OwnFrom.and (Own.from (fun s A B row hs hg hr => ⟨boxed_own _ _ (fun _ => _) () A B row hs.1 hg hr, boxed_own _ _ (fun _ => _) () A B row hs.2 hg hr⟩) _) (ownFrom_below (Nat.le_refl _) HD3.out.2.1.size))
    (OwnFrom.and (Own.from (fun s A B row ⟨q, x, h1, h2⟩ hg hr => ⟨q, x, h1, boxed_own _ _ (fun _ => _) () A B row h2 hg hr⟩) _) (ownFrom_below (Nat.le_refl _) HD3.out.2.1.size))
    ⟨⟨HD3.out.2.2.2.1, HD3.out.2.2.2.2⟩, HD3.out.2.1⟩
    (fun x a' W => ∃ Bx, w.heap.size + 1 + 1 < Bx ∧ Box3 W Bx 47 x ∧ a' = { tmps := #[OpV kind k v, .slice a n c, .pointer (some ⟨w.heap.size, 0, none⟩), .pointer (some ⟨w.heap.size + 1, 0, none⟩), .pointer (some ⟨w.heap.size + 1 + 1, 0, none⟩), .pointer (some ⟨Bx, 0, none⟩), undef, undef, OpV kind k v, .bool true, .bool false, OpV kind k v, DeedV kind k v, .slice a n c, .func (.func 88) #[] #[.pointer (some ⟨w2.heap.size + 1, 0, none⟩), .pointer (some ⟨w2.heap.size, 0, none⟩)], .agg #[.int .i64 x.1, .int .i64 x.2.1, .int .i64 x.2.2], undef, undef, undef, undef, undef, undef, undef, undef, undef, undef, undef], defers := [] })
    (fun x a' => Own.from (fun s A B row ⟨Bx, h1, h2, h3⟩ hg hr => ⟨Bx, h1, box3_own _ _ _ () A B row h2 hg hr, h3⟩) _) ?assign ?body ?done ?stop
  case assign =>
    rintro l pre x W K hsz _ ⟨⟨b1, b2⟩, hB⟩ hK
    simp only [encE]
    gi_wp2
    exact hK _ _ (World.grownBy_alloc W _ none) ⟨⟨b1.alloc _, b2.alloc _⟩, hB.alloc hB.size _⟩ ⟨W.heap.size, b2.lt, World.alloc_heap_new W _, rfl⟩
  case body =>
    rintro l pre x a' W hsz _ ⟨⟨b1, b2⟩, hB⟩ ⟨Bx, hBx, bX, rfl⟩
    have HI : Hid ((Boxed W (w.heap.size + 1) 29 (.slice a n c) ∧ Boxed W (w.heap.size + 1 + 1) 3 (.int .i64 0)) ∧ Below w.heap.size w W) := ⟨⟨b1, b2⟩, hB⟩
    have HBX : Hid (Box3 W Bx 47 x) := bX
    have HSZ : Hid (w3.heap.size + 1 < W.heap.size ∧ w.heap.size + 1 + 1 < Bx) := ⟨hsz, hBx⟩
    have e1 := b1.cell
    have xx := bX.fst
    clear b1 b2 hB bX hsz hBx
    obtain ⟨⟨r1, r2⟩, hr⟩ : ∃ r, readF fs x.1 n = r := ⟨_, rfl⟩
    have HRD : Hid (readF fs x.1 n = (r1, r2)) := hr
    clear hr
    cases r2 with
    | true =>
      gi_wp2_with (refine ⟨trivial, ?_⟩; gi_at_call 53; refine (CallsIn.inRound l (callsIn_wide.2 (implRead_any a n c x.1 fs _ (HB.out.on HI.out.2).pairs))).mono ?_; rintro e w5 ⟨rfl, hb5⟩; rw [HRD.out]; have HB5 : Hid (Below W.heap.size W w5) := hb5; have y5 := (hb5.cell (p := ⟨Bx, 0, none⟩) (Array.getElem?_eq_some_iff.1 HBX.out).1).trans xx; have q5 := (show Boxed w5 (w.heap.size + 1 + 1) 3 (.int .i64 0) from (hb5.block _ HI.out.1.2.lt).trans HI.out.1.2).cell; have q6 := (show Boxed w5 (w.heap.size + 1 + 1) 3 (.int .i64 0) from (hb5.block _ HI.out.1.2.lt).trans HI.out.1.2).frozen; clear hb5)
      have hb := HB5.out
      refine ⟨⟨hb.block _ (by have := HSZ.out.1; omega), hb.block _ HSZ.out.1⟩, by unfold goR; rw [HRD.out], Kp.of_below hb (by have := HSZ.out.1; omega), ⟨(hb.block _ HI.out.1.1.lt).trans HI.out.1.1, (hb.block _ HI.out.1.2.lt).trans HI.out.1.2⟩, HI.out.2.trans (hb.mono HI.out.2.size)⟩
    | false =>
      gi_wp2_with (refine ⟨trivial, ?_⟩; gi_at_call 53; refine (CallsIn.inRound l (callsIn_wide.2 (implRead_any a n c x.1 fs _ (HB.out.on HI.out.2).pairs))).mono ?_; rintro e w5 ⟨rfl, hb5⟩; rw [HRD.out]; have HB5 : Hid (Below W.heap.size W w5) := hb5; have y5 := (hb5.cell (p := ⟨Bx, 0, none⟩) (Array.getElem?_eq_some_iff.1 HBX.out).1).trans xx; have q5 := (show Boxed w5 (w.heap.size + 1 + 1) 3 (.int .i64 0) from (hb5.block _ HI.out.1.2.lt).trans HI.out.1.2).cell; have q6 := (show Boxed w5 (w.heap.size + 1 + 1) 3 (.int .i64 0) from (hb5.block _ HI.out.1.2.lt).trans HI.out.1.2).frozen; clear hb5)
      have hb := HB5.out
      have b5 : Boxed w5 (w.heap.size + 1 + 1) 3 (.int .i64 0) := (hb.block _ HI.out.1.2.lt).trans HI.out.1.2
      have h3 := HD3.out.1
      have hs := grownBy_setCell' w5 (w.heap.size + 1 + 1) (.int .i64 x.1)
      have hz := HSZ.out.1
      have hzb := hb.size
      refine ⟨⟨(hs.block _ (by omega) (by simp; omega)).trans (hb.block _ (by omega)), (hs.block _ (by omega) (by simp; omega)).trans (hb.block _ hz)⟩, by unfold goR; rw [HRD.out], ⟨Nat.le_trans hzb hs.size, fun k' cs t r hk ht => ?_⟩, ⟨pre, x.1, ⟨rfl, x.2.1, x.2.2, rfl⟩, b5.set _⟩, (HI.out.2.trans (hb.mono HI.out.2.size)).setCell (p := ⟨w.heap.size + 1 + 1, 0, none⟩) (by simp; omega) _⟩
      have hne : k' ≠ w.heap.size + 1 + 1 := fun e => by
        rw [e, show W.heap[w.heap.size + 1 + 1]? = _ from HI.out.1.2] at hk
        cases hk
        exact ht (by simp)
      have hkl := (Array.getElem?_eq_some_iff.1 hk).1
      exact (hs.block k' (by omega) (by simpa using hne)).trans ((hb.block _ (Array.getElem?_eq_some_iff.1 hk).1).trans hk)
  case done =>
    rintro W hall ⟨⟨b1, b2⟩, hB⟩ hK
    have HI : Hid (Boxed W (w.heap.size + 1 + 1) 3 (.int .i64 0) ∧ Below w.heap.size w W ∧ W.heap[w3.heap.size]? = some (.deferred (some []))) := ⟨b2, hB, hK⟩
    have HZ : Hid (res = -1) := by rw [← HR.out, next_words fs n kind k v (rd_wf HW.out 13) HG.out]; exact firstR_all hall
    have r2 := b2.cell
    have f2 := b2.frozen
    clear b1 b2 hB hK hall
    go_wp2
    have hK' := (KeepsOthers.setCell W ⟨w.heap.size + 1 + 1, 0, none⟩ (.int .i64 (-1))).same w3.heap.size _ HI.out.2.2 rfl
    refine ⟨by simp, .inl ⟨_, _, rfl, run_takeDeferred hK', ?_⟩⟩
    have i1 := cell_kept (HI.out.1.set (.int .i64 (-1))).cell (grownBy_putObj' _ w3.heap.size (.deferred none)) (fun r e => by cases e; exact ⟨_, hK', rfl⟩)
    refine ⟨.int .i64 (-1), by simp [results, Tryz.f16, go_sem, i1], by rw [HZ.out], (HI.out.2.1.setCell (p := ⟨w.heap.size + 1 + 1, 0, none⟩) (by simp; omega) _).trans (belowK_b (w := w) (Nat.le_refl _) _ w3.heap.size _ _ (by have := HD3.out.1; omega) hK' rfl rfl)⟩
  case stop =>
    rintro pre x rest W e1 e2 e3 ⟨⟨q, y, hq, b2⟩, hB⟩ hK
    obtain ⟨hq1, hq2⟩ := List.append_inj' hq rfl
    obtain rfl := (List.cons.inj hq2).1
    have HI : Hid (Boxed W (w.heap.size + 1 + 1) 3 (.int .i64 x.1) ∧ Below w.heap.size w W ∧ W.heap[w3.heap.size]? = some (.deferred (some []))) := ⟨b2, hB, hK⟩
    have HZ : Hid (res = x.1) := by rw [← HR.out, next_words fs n kind k v (rd_wf HW.out 13) HG.out]; exact firstR_some e3 e1 e2
    clear b2 hB hK hq hq1 hq2 e1 e2 e3
    go_wp2
    have hK' := HI.out.2.2
    refine ⟨by simp, .inl ⟨_, _, rfl, run_takeDeferred hK', ?_⟩⟩
    have i1 := cell_kept HI.out.1.cell (grownBy_putObj' _ w3.heap.size (.deferred none)) (fun r e => by cases e; exact ⟨_, hK', rfl⟩)
    refine ⟨.int .i64 x.1, by simp [results, Tryz.f16, go_sem, i1], by rw [HZ.out], HI.out.2.1.trans (belowK_b (w := w) (Nat.le_refl _) _ w3.heap.size _ _ (by have := HD3.out.1; omega) hK' rfl rfl)⟩
attribute [local go_sem] Oper.semAt_some

def TellSays (fs : List Int) (n : Nat) (go : Ent → Bool) (n₀ : Nat) (ts : List TypeId) (J Jx : List Ent → World → Prop) (X : World) (q : List Ent) (x : Ent) (b : Bool) (X' : World) : Prop :=
  (goR fs n x = false → b = true ∧ Below X.heap.size X X') ∧ (goR fs n x = true → b = go x ∧ (go x = true → J (q ++ [x]) X' ∧ Kp n₀ ts X X') ∧ (go x = false → Jx (q ++ [x]) X' ∧ Kx ts X X'))

theorem tellRead_any (a : Option Addr) (n c l Bg Bt : Nat) (x : Ent) (fs : List Int) (go : Ent → Bool) (ts : List TypeId) (J Jx : List Ent → World → Prop) (q : List Ent) (W0 X : World)
    (hR : Rounds Tryz.prog l encE go W0.heap.size ts J Jx) (hj : Grows J) (hB : Base W0 a n fs) (hl : q.length < 100) (hX : Below W0.heap.size W0 X) (hJ : J q X)
    (hg : X.cell? ⟨Bg, 0, none⟩ = some (.slice a n c)) (ht : X.cell? ⟨Bt, 0, none⟩ = some (.func (.yield l) #[] #[])) :
    Calls Tryz.prog 74 #[.agg #[.int .i64 x.1, .int .i64 x.2.1, .int .i64 x.2.2], .pointer (some ⟨Bg, 0, none⟩), .pointer (some ⟨Bt, 0, none⟩)] X fun e X' => ∃ b, e = .returned (.bool b) ∧ TellSays fs n go W0.heap.size ts J Jx X q x b X' := by
  obtain ⟨p, o, v⟩ := x
  have HG : Hid (Rounds Tryz.prog l encE go W0.heap.size ts J Jx ∧ Grows J) := ⟨hR, hj⟩
  have HB : Hid (Base W0 a n fs ∧ Below W0.heap.size W0 X ∧ J q X) := ⟨hB, hX, hJ⟩
  have HL : Hid (q.length < 100) := hl
  clear hR hj hB hX hJ hl
  have lg := World.block_lt_of_cell? X _ hg
  have lt := World.block_lt_of_cell? X _ ht
  have hx : Below X.heap.size X (X.alloc (.cells #[.int .i64 p, .int .i64 o, .int .i64 v] 47)) := (Below.refl _ _).alloc (Nat.le_refl _) _
  have g1 : (X.alloc (.cells #[.int .i64 p, .int .i64 o, .int .i64 v] 47)).cell? ⟨Bg, 0, none⟩ = some (.slice a n c) := (hx.cell (p := ⟨Bg, 0, none⟩) lg).trans hg
  have t1 : (X.alloc (.cells #[.int .i64 p, .int .i64 o, .int .i64 v] 47)).cell? ⟨Bt, 0, none⟩ = some (.func (.yield l) #[] #[]) := (hx.cell (p := ⟨Bt, 0, none⟩) lt).trans ht
  have bx : (X.alloc (.cells #[.int .i64 p, .int .i64 o, .int .i64 v] 47)).heap[X.heap.size]? = some (.cells #[.int .i64 p, .int .i64 o, .int .i64 v] 47 (0, 0)) := World.alloc_heap_new X _
  obtain ⟨X1, hX1⟩ : ∃ X1, X.alloc (.cells #[.int .i64 p, .int .i64 o, .int .i64 v] 47) = X1 := ⟨_, rfl⟩
  rw [hX1] at hx g1 t1 bx
  have HX : Hid (Below X.heap.size X X1 ∧ X1.heap[X.heap.size]? = some (.cells #[.int .i64 p, .int .i64 o, .int .i64 v] 47 (0, 0)) ∧ X1.cell? ⟨Bt, 0, none⟩ = some (.func (.yield l) #[] #[])) := ⟨hx, bx, t1⟩
  have c0 : X1.cell? ⟨X.heap.size, 0, none⟩ = some (.int .i64 p) := by simp [World.cell?, bx]
  clear hx bx t1 hg ht
  obtain ⟨r, hr⟩ : ∃ r, readF fs p n = r := ⟨_, rfl⟩
  have HR : Hid (readF fs p n = r) := hr
  clear hr
  obtain ⟨r1, r2⟩ := r
  refine (callsIn_wide (n := 5)).1 ?_
  refine callsIn_of_wp Tryz.func74 rfl trivial ?_ rfl
  simp only [Tryz.ntmps74, List.size_toArray, List.length_cons, List.length_nil, Nat.reduceAdd, Nat.reduceSub, Array.replicate_succ, Array.replicate_zero, List.push_toArray, List.append_toArray, List.nil_append, List.cons_append]
  cases r2 with
  | false =>
    gi_wp2_with (refine ⟨trivial, ?_⟩; gi_at_call 53; refine (callsIn_wide.2 (implRead_any a n c p fs _ (by first | exact (HB.out.1.on (HB.out.2.1.trans (HX.out.1.mono HB.out.2.1.size))).pairs | exact hX1 ▸ (HB.out.1.on (HB.out.2.1.trans (HX.out.1.mono HB.out.2.1.size))).pairs))).mono ?_; rintro e w5 ⟨rfl, hb5⟩; rw [HR.out]; have HB5 : Hid (Below X1.heap.size X1 w5) := (by first | exact hb5 | exact hX1 ▸ hb5); clear hb5)
    refine ⟨fun f h => (by cases h), ?_⟩
    gi_wp2
    go_ret
    refine ⟨true, rfl, fun _ => ⟨rfl, HX.out.1.trans (HB5.out.mono HX.out.1.size)⟩, fun h => ?_⟩
    unfold goR at h
    rw [HR.out] at h
    cases h
  | true =>
    gi_wp2_with (first
      | (refine ⟨trivial, ?_⟩; gi_at_call 53; refine (callsIn_wide.2 (implRead_any a n c p fs _ (by first | exact (HB.out.1.on (HB.out.2.1.trans (HX.out.1.mono HB.out.2.1.size))).pairs | exact hX1 ▸ (HB.out.1.on (HB.out.2.1.trans (HX.out.1.mono HB.out.2.1.size))).pairs))).mono ?_; rintro e w5 ⟨rfl, hb5⟩; rw [HR.out]
         have hb6 : Below X1.heap.size X1 w5 := (by first | exact hb5 | exact hX1 ▸ hb5)
         have HB5 : Hid (Below X.heap.size X w5) := HX.out.1.trans (hb6.mono HX.out.1.size)
         have BX5 : w5.heap[X.heap.size]? = some (.cells #[.int .i64 p, .int .i64 o, .int .i64 v] 47 (0, 0)) := (hb6.block _ (Array.getElem?_eq_some_iff.1 HX.out.2.1).1).trans HX.out.2.1
         have d0 : w5.cell? ⟨X.heap.size, 0, none⟩ = some (.int .i64 p) := by simp [World.cell?, BX5]
         have d1 : w5.cell? ⟨X.heap.size, 1, none⟩ = some (.int .i64 o) := by simp [World.cell?, BX5]
         have d2 : w5.cell? ⟨X.heap.size, 2, none⟩ = some (.int .i64 v) := by simp [World.cell?, BX5]
         have t5 : w5.cell? ⟨Bt, 0, none⟩ = some (.func (.yield l) #[] #[]) := (hb6.cell (p := ⟨Bt, 0, none⟩) (World.block_lt_of_cell? X1 _ HX.out.2.2)).trans HX.out.2.2
         obtain ⟨fn, tmps, assign, body, hy, hR⟩ := HG.out.1 q (p, o, v) w5 HL.out (HG.out.2 _ _ _ HB.out.2.2 (far_below HB5.out none))
         dsimp only [encE] at hy
         clear hb5 hb6 BX5)
      | (first | (refine (round_any hR).mono ?_) | (refine ⟨?_, (round_any hR).mono ?_⟩; (intro _; omega)) | (refine ⟨fun h => absurd h (by decide), (round_any hR).mono ?_⟩)
         rintro e W3 ⟨rfl, hg1, hg2⟩))
    all_goals
      (try gi_wp2)
      go_ret
      refine ⟨go (p, o, v), rfl, fun h => ?_, fun _ => ⟨rfl, fun hg => ⟨(hg1 hg).1, (Kp.of_below HB5.out HB.out.2.1.size).trans (hg1 hg).2⟩, fun hg => ⟨(hg2 hg).1, (Kp.of_below HB5.out HB.out.2.1.size).kx.trans (hg2 hg).2⟩⟩⟩
      unfold goR at h
      rw [HR.out] at h
      cases h
abbrev trF (Bg Bt : Nat) : Value := .func (.func 74) #[] #[.pointer (some ⟨Bg, 0, none⟩), .pointer (some ⟨Bt, 0, none⟩)]
def Passed (fs : List Int) (n l Bt : Nat) (J : List Ent → World → Prop) (pre : List Ent) (X : World) : Prop := J (pre.filter (goR fs n)) X ∧ Boxed X Bt 108 (.func (.yield l) #[] #[])
theorem passed_grows {fs : List Int} {n l Bt : Nat} {J : List Ent → World → Prop} (h : Grows J) : Grows (Passed fs n l Bt J) := fun s W W' hs hg => ⟨h _ _ _ hs.1 hg, hs.2.kept hg (by simp)⟩

theorem becomes_read (a : Option Addr) (n c l Bg Bt : Nat) (p v : Int) (fs : List Int) (ts : List TypeId) (J Jx : List Ent → World → Prop) (pre : List Ent) (W0 X : World)
    (hR : Rounds Tryz.prog l encE (fun _ => true) W0.heap.size ts J Jx) (hj : Grows J) (hB : Base W0 a n fs) (hbg : W0.cell? ⟨Bg, 0, none⟩ = some (.slice a n c)) (ht : 108 ∉ ts) (htt : 110 ∉ ts)
    (hl : pre.length < 100) (hX : Below W0.heap.size W0 X) (hJ : Passed fs n l Bt J pre X) :
    Calls Tryz.prog 123 #[.agg #[.slice a n c, trF Bg Bt, .bool true], .int .i64 p, .int .i64 v] X fun e X' => ∃ b, e = .returned (.bool b) ∧ Fin true (fun _ => true) W0.heap.size ts (Passed fs n l Bt J) (Passed fs n l Bt Jx) X [becS fs n p v] pre b X' := by
  by_cases hp : p < 0
  · exact becomes_none a n c _ true p v fs _ ts (Passed fs n l Bt J) (Passed fs n l Bt Jx) pre W0 X (passed_grows hj) hX hJ hp
  have HG : Hid (Rounds Tryz.prog l encE (fun _ => true) W0.heap.size ts J Jx ∧ Grows J ∧ Base W0 a n fs ∧ 108 ∉ ts ∧ 110 ∉ ts) := ⟨hR, hj, hB, ht, htt⟩
  have HP : Hid (0 ≤ p) := Int.not_lt.1 hp
  have HL : Hid ((pre.filter (goR fs n)).length < 100) := Nat.lt_of_le_of_lt (List.length_filter_le _ _) hl
  clear hl
  obtain ⟨Xd, hXd⟩ : ∃ Xd, (X.alloc (.cells #[.slice a n c, trF Bg Bt, .bool true] 110)).drew = Xd := ⟨_, rfl⟩
  have hx : Below X.heap.size X Xd := by rw [← hXd]; exact ((Below.refl _ _).alloc (Nat.le_refl _) _).drew
  have bx : Xd.heap[X.heap.size]? = some (tellCells a n c (trF Bg Bt) true) := by rw [← hXd]; exact World.alloc_heap_new X _
  have HX : Hid (Below X.heap.size X Xd ∧ Xd.heap[X.heap.size]? = some (tellCells a n c (trF Bg Bt) true) ∧ Below W0.heap.size W0 X ∧ Passed fs n l Bt J pre X ∧ W0.cell? ⟨Bg, 0, none⟩ = some (.slice a n c)) := ⟨hx, bx, hX, hJ, hbg⟩
  have K0 : Hid (TBox a n c (trF Bg Bt) true X.heap.size Xd) := tbox_of bx
  clear hR hj hB ht htt hx bx hX hJ hbg
  go_enter Tryz.func123, Tryz.ntmps123
  go_wp2_with fail
  go_region_held3 (fun w' => w'.cell? ⟨X.heap.size, 0, none⟩ = some (.slice a n c) ∧ w'.cell? ⟨X.heap.size, 1, none⟩ = some (trF Bg Bt) ∧ w'.cell? ⟨X.heap.size, 2, none⟩ = some (.bool true))
    (first | (with_reducible exact K2.out) | (with_reducible exact K1.out) | (with_reducible exact K0.out) | exact hXd ▸ K0.out | go_keep)
    (first
    | (go_at_call 68
       refine (knownAt_any a n c p fs _ (by first | exact (HG.out.2.2.1.on (HX.out.2.2.1.trans (HX.out.1.mono HX.out.2.2.1.size))).pairs | exact hXd ▸ (HG.out.2.2.1.on (HX.out.2.2.1.trans (HX.out.1.mono HX.out.2.2.1.size))).pairs)).mono ?_
       rintro e w1 ⟨rfl, hb1⟩
       have hb1' : Below Xd.heap.size Xd w1 := by first | exact hb1 | exact hXd ▸ hb1
       have HB1 : Hid (Below X.heap.size X w1) := HX.out.1.trans (hb1'.mono HX.out.1.size)
       have K1h : Hid (w1.heap[X.heap.size]? = some (tellCells a n c (trF Bg Bt) true)) := (hb1'.block _ (Array.getElem?_eq_some_iff.1 HX.out.2.1).1).trans HX.out.2.1
       have K1 : Hid (TBox a n c (trF Bg Bt) true X.heap.size w1) := tbox_of K1h.out
       have HW1 : Hid (Below W0.heap.size W0 w1 ∧ Passed fs n l Bt J pre w1) := ⟨HX.out.2.2.1.trans (HB1.out.mono HX.out.2.2.1.size), passed_grows HG.out.2.1 _ _ _ HX.out.2.2.2.1 (far_below HB1.out none)⟩
       clear hb1 hb1')
    | (go_at_call 74
       refine (tellRead_any a n c l Bg Bt (p, rd fs n p, v) fs (fun _ => true) ts J Jx (pre.filter (goR fs n)) W0 _ HG.out.1 HG.out.2.1 HG.out.2.2.1 HL.out HW1.out.1 HW1.out.2.1 ((HW1.out.1.cell (p := ⟨Bg, 0, none⟩) (World.block_lt_of_cell? W0 _ HX.out.2.2.2.2)).trans HX.out.2.2.2.2) HW1.out.2.2.cell).mono ?_
       rintro e w2 ⟨b, rfl, hF⟩
       have HF : Hid (TellSays fs n (fun _ => true) W0.heap.size ts J Jx w1 (pre.filter (goR fs n)) (p, rd fs n p, v) b w2) := hF
       have K2 : Hid (TBox a n c (trF Bg Bt) true X.heap.size w2) := by
         cases hg : goR fs n (p, rd fs n p, v) with
         | false => exact tbox_of (((hF.1 hg).2.block _ (Array.getElem?_eq_some_iff.1 K1h.out).1).trans K1h.out)
         | true => exact tbox_of (((hF.2 hg).2.1 rfl).2.cells K1h.out HG.out.2.2.2.2)
       clear hF))
  go_wp2
  go_ret
  refine ⟨b, rfl, ?_⟩
  unfold becS Fin
  rw [if_pos HP.out, if_pos rfl]
  unfold Fin Passed
  rw [List.filter_append]
  cases hg : goR fs n (p, rd fs n p, v) with
  | false =>
    have h := HF.out.1 hg
    refine ⟨h.1, ⟨?_, (h.2.block _ HW1.out.2.2.lt).trans HW1.out.2.2⟩, (Kp.of_below HB1.out HX.out.2.2.1.size).trans (Kp.of_below h.2 HW1.out.1.size)⟩
    rw [List.filter_cons_of_neg (by rw [hg]; simp), List.filter_nil, List.append_nil]
    exact HG.out.2.1 _ _ _ HW1.out.2.1 (far_below h.2 none)
  | true =>
    have h := HF.out.2 hg
    refine ⟨h.1, ⟨?_, (h.2.1 rfl).2.cells HW1.out.2.2 HG.out.2.2.2.1⟩, (Kp.of_below HB1.out HX.out.2.2.1.size).trans (h.2.1 rfl).2⟩
    rw [List.filter_cons_of_pos hg, List.filter_nil]
    exact (h.2.1 rfl).1

theorem read1_any (a : Option Addr) (n c l Bg Bd : Nat) (kind k v : Int) (fs : List Int) (ts : List TypeId) (J Jx : List Ent → World → Prop) (W0 W : World)
    (hR : Rounds Tryz.prog l encE (fun _ => true) W0.heap.size ts J Jx) (hj : Grows J) (hx : Grows Jx) (hB : Base W0 a n fs) (hC : Caught a n c (deedT kind) kind k v Bg Bd W0) (hW : Below W0.heap.size W0 W) (hJ : J [] W) (hg : OpGood kind k v)
    (ht : ∀ t ∈ [110, 93, 94, 95, 102, 96, 97, 98, 100, 56, 29], t ∉ ts) (hf : 108 ∉ ts) :
    Calls Tryz.prog 73 #[.func (.yield l) #[] #[], .pointer (some ⟨Bg, 0, none⟩), .pointer (some ⟨Bd, 0, none⟩)] W fun e W' => (∃ v, e = .returned v) ∧ J ((wordsT true (stepsT true fs n kind k v)).filter (goR fs n)) W' := by
  have lg : Bg < W0.heap.size := World.block_lt_of_cell? W0 _ hC.got
  have ld : Bd < W0.heap.size := World.block_lt_of_cell? W0 _ hC.deed
  have hb : Below W.heap.size W (W.alloc (.cells #[.func (.yield l) #[] #[]] 108)) := (Below.refl _ _).alloc (Nat.le_refl _) _
  have hb0 : Below W0.heap.size W0 (W.alloc (.cells #[.func (.yield l) #[] #[]] 108)) := hW.trans (hb.mono hW.size)
  have c0 : (W.alloc (.cells #[.func (.yield l) #[] #[]] 108)).cell? ⟨Bg, 0, none⟩ = some (.slice a n c) := (hb0.cell (p := ⟨Bg, 0, none⟩) lg).trans hC.got
  have c1 : (W.alloc (.cells #[.func (.yield l) #[] #[]] 108)).cell? ⟨Bd, 0, none⟩ = some (.iface (deedT kind) (OpV kind k v)) := (hb0.cell (p := ⟨Bd, 0, none⟩) ld).trans hC.deed
  have HJ : Hid (Passed fs n l W.heap.size J [] (W.alloc (.cells #[.func (.yield l) #[] #[]] 108))) := ⟨hj _ _ _ hJ (far_below hb none), Boxed.new W _ _⟩
  have HGo : Hid (Goes (trF Bg W.heap.size) true a n c fs (fun _ => true) W0 ts (Passed fs n l W.heap.size J) (Passed fs n l W.heap.size Jx)) :=
    ⟨fun p x pre X hl hX hJX => becomes_read a n c l Bg W.heap.size p x fs ts J Jx pre W0 X hR hj hB hC.got hf (ht _ (by simp)) hl hX hJX, passed_grows hj, passed_grows hx, ht⟩
  have HB : Hid (Base W0 a n fs ∧ Below W0.heap.size W0 (W.alloc (.cells #[.func (.yield l) #[] #[]] 108)) ∧ OpGood kind k v) := ⟨hB, hb0, hg⟩
  clear hR hj hx hB hC hW hJ hg ht hf hb hb0 lg ld
  go_enter Tryz.func73, Tryz.ntmps73
  go_wp2_with fail
  refine (words_any a n c _ true kind k v fs (fun _ => true) ts _ _ W0 _ HGo.out HB.out.1 HB.out.2.1 HJ.out HB.out.2.2).mono ?_
  rintro e W' ⟨⟨r, rfl⟩, b, hF⟩
  have HF : Hid (J ((wordsT true (stepsT true fs n kind k v)).filter (goR fs n)) W') := by
    have h := fin_all hF (fun _ _ => rfl)
    rw [List.nil_append] at h
    exact h.1
  clear hF
  go_wp2
  go_end0
  exact ⟨⟨_, rfl⟩, HF.out⟩
theorem read_seq (a : Option Addr) (n c Bg Bd : Nat) (kind k v : Int) (fs : List Int) (ts : List TypeId) (W0 w1 : World) (hW1 : Below W0.heap.size W0 w1) (hB : Base W0 a n fs) (hC : Caught a n c (deedT kind) kind k v Bg Bd W0) (hg : OpGood kind k v)
    (ht : ∀ t ∈ [110, 93, 94, 95, 102, 96, 97, 98, 100, 56, 29], t ∉ ts) (hf : 108 ∉ ts) :
    SeqGo Tryz.prog 73 #[.pointer (some ⟨Bg, 0, none⟩), .pointer (some ⟨Bd, 0, none⟩)] encE (fun _ => true) W0.heap.size ts ((wordsT true (stepsT true fs n kind k v)).filter (goR fs n)) w1 := fun l J Jx W hW hj hx hR h0 => by
  refine (read1_any a n c l Bg Bd kind k v fs ts J Jx W0 W hR hj hx hB hC (hW1.trans (hW.mono hW1.size)) h0 hg ht hf).mono ?_
  rintro e W' ⟨he, hF⟩
  exact ⟨he, fun _ => hF, fun pre x rest _ _ e3 => by cases e3⟩

theorem readOf_any (a : Option Addr) (n c : Nat) (d : Value) (T : TypeId) (x : Value) (hd : d = .iface T x) (w : World) :
    Calls Tryz.prog 26 #[d, .slice a n c] w fun e w' => e = .returned (.func (.func 73) #[] #[.pointer (some ⟨w.heap.size + 1, 0, none⟩), .pointer (some ⟨w.heap.size, 0, none⟩)]) ∧
      w' = (w.alloc (.cells #[d] 56)).alloc (.cells #[.slice a n c] 29) := by
  subst hd
  go_enter Tryz.func26, Tryz.ntmps26
  go_wp2
  go_ret
  exact ⟨rfl, rfl⟩
end
section
open Go.ChangeShapes Go.WideShapes Go.ChangeAt Go.RowKit
def EntAt (w : World) (a : Option Addr) (n : Nat) (gs : List Int) : Prop :=
  gs.length = n * 3 ∧ n ≤ 1048576 ∧ ((a = none ∧ n = 0) ∨ ∃ b o, a = some ⟨b, o, none⟩ ∧ ∀ i, i < n * 3 → w.cell? ⟨b, o + i, none⟩ = some (I (gs.getD i 0)))
theorem EntAt.below {w w' : World} {a : Option Addr} {n : Nat} {gs : List Int} (h : EntAt w a n gs) {B : Nat} (hb : Below B w w') (hB : w.heap.size ≤ B) : EntAt w' a n gs := by
  obtain ⟨h1, h2, h3 | ⟨b, o, h3, h4⟩⟩ := h
  · exact ⟨h1, h2, .inl h3⟩
  · refine ⟨h1, h2, .inr ⟨b, o, h3, fun i hi => ?_⟩⟩
    have h5 := h4 i hi
    rw [hb.cell (show b < B from Nat.lt_of_lt_of_le (World.block_lt_of_cell? w _ h5) hB)]
    exact h5
theorem own_entAt {w : World} {base : Nat} {e : TypeId} {v : Value} {n : Nat} {gs : List Int} (h : w.ownsRow base e 3 v n (gs.map I)) (hn : n ≤ 1048576) : ∃ a c, v = .slice a n c ∧ EntAt w a n gs ∧ ∀ q, a = some q → base ≤ q.block := by
  have hl : gs.length = n * 3 := by have := h.1; simpa using this
  rcases h.2 with ⟨rfl, h0⟩ | ⟨g, cap, cur, rfl, hgb, _⟩
  · exact ⟨none, 0, by rw [h0], ⟨hl, hn, .inl ⟨rfl, h0⟩⟩, fun q e => by cases e⟩
  · refine ⟨_, cap, rfl, ⟨hl, hn, .inr ⟨g, 0, rfl, fun i hi => ?_⟩⟩, fun q e => by cases e; exact hgb⟩
    rw [Nat.zero_add, h.cellAt i (by omega), List.getElem?_map, List.getElem?_eq_getElem (by omega)]
    simp [List.getD, show i < gs.length by omega]
def posE (gs : List Int) (at_ : Int) : Nat → Nat → Nat
  | 0, k => k
  | f + 1, k => if gs.getD (k * 3) 0 < at_ then posE gs at_ f (k + 1) else k
def addE (gs : List Int) (n : Nat) (fs : List Int) (m : Nat) (at_ v : Int) : List Int × Nat :=
  if (readF fs at_ m).2 = true ∧ 0 ≤ at_ then
    (gs.take (posE gs at_ n 0 * 3) ++ [at_, (readF fs at_ m).1, v] ++ gs.drop (posE gs at_ n 0 * 3), n + 1)
  else (gs, n)
theorem infoEnt : (Tryz.prog.info? 47).map (fun i => (i.zero, i.size, i.bytes)) = some (some (.agg #[.int .i64 0, .int .i64 0, .int .i64 0]), 3, 24) := by kernel_rfl
theorem own_empty3 {w : World} {base : Nat} (hb : base ≤ w.heap.size) : (w.alloc (.cells #[] 47)).ownsRow base 47 3 (.slice (some ⟨w.heap.size, 0, none⟩) 0 0) 0 ([].map I) :=
  ⟨rfl, .inr ⟨w.heap.size, 0, #[], rfl, hb, (by show (w.heap.push _)[w.heap.size]? = _; simp), Nat.le_refl _, by unfold maxLen; omega, rfl, rfl⟩⟩

theorem ent_cells {W : World} {b o n : Nat} {gs : List Int} (h : EntAt W (some ⟨b, o, none⟩) n gs) : ∀ i, i < n * 3 → W.cell? ⟨b, o + i, none⟩ = some (I (gs.getD i 0)) := by
  rcases h.2.2 with ⟨h0, _⟩ | ⟨b', o', e, g⟩
  · cases h0
  · cases e; exact g
theorem ent_take {W : World} {b o n : Nat} {gs : List Int} (h : EntAt W (some ⟨b, o, none⟩) n gs) {t : Nat} (ht : t ≤ n * 3) : ∀ (j : Nat) (u : Value), ((gs.take t).map I)[j]? = some u → W.cell? ((⟨b, o, none⟩ : Addr).add j) = some u := by
  intro j u hj
  have hl := h.1
  rw [List.getElem?_map, List.getElem?_take] at hj
  by_cases hjt : j < t
  · rw [if_pos hjt, List.getElem?_eq_getElem (by omega)] at hj
    have := ent_cells h j (by omega)
    rw [show (⟨b, o, none⟩ : Addr).add j = ⟨b, o + j, none⟩ by simp [Addr.add], this]
    simpa [List.getD, show j < gs.length by omega] using hj
  · rw [if_neg hjt] at hj; simp at hj
theorem ent_drop {W : World} {b o n : Nat} {gs : List Int} (h : EntAt W (some ⟨b, o, none⟩) n gs) (s : Nat) : ∀ (j : Nat) (u : Value), ((gs.drop s).map I)[j]? = some u → W.cell? ((⟨b, o + s, none⟩ : Addr).add j) = some u := by
  intro j u hj
  have hl := h.1
  rw [List.getElem?_map, List.getElem?_drop] at hj
  by_cases hjt : s + j < gs.length
  · rw [List.getElem?_eq_getElem hjt] at hj
    have := ent_cells h (s + j) (by omega)
    rw [show (⟨b, o + s, none⟩ : Addr).add j = ⟨b, o + (s + j), none⟩ by simp [Addr.add, Nat.add_assoc], this]
    simpa [List.getD, hjt] using hj
  · rw [List.getElem?_eq_none (by omega)] at hj; simp at hj
theorem cell_three_new (w : World) (x y z : Value) (t : TypeId) : ∀ (j : Nat) (u : Value), [x, y, z][j]? = some u → (w.alloc (.cells #[x, y, z] t)).cell? ((⟨w.heap.size, 0, none⟩ : Addr).add j) = some u := by
  intro j u hj
  rcases j with _ | _ | _ | j
  · simp only [List.getElem?_cons_zero, Option.some.injEq] at hj; subst hj; simp [Addr.add]
  · simp only [List.getElem?_cons_succ, List.getElem?_cons_zero, Option.some.injEq] at hj; subst hj; simp [Addr.add]
  · simp only [List.getElem?_cons_succ, List.getElem?_cons_zero, Option.some.injEq] at hj; subst hj; simp [Addr.add]
  · simp at hj
theorem own_none_cap {w : World} {base : Nat} {e : TypeId} {size n c : Nat} {xs : List Value} (h : w.ownsRow base e size (.slice none n c) n xs) : c = 0 := by
  rcases h.2 with ⟨h1, _⟩ | ⟨g, cap, cur, h1, _⟩
  · cases h1; rfl
  · cases h1
theorem own_cap {w : World} {base : Nat} {e : TypeId} {size n c : Nat} {a : Option Addr} {xs : List Value} (h : w.ownsRow base e size (.slice a n c) n xs) : n ≤ c := by
  rcases h.2 with ⟨h1, h2⟩ | ⟨g, cap, cur, h1, _, _, h2, _⟩
  · cases h1; omega
  · cases h1; exact h2
theorem three_one (x y z : Int) : ∀ u ∈ [I x, I y, I z], u.oneCell' = true := by
  intro u hu
  simp at hu
  rcases hu with rfl | rfl | rfl <;> rfl

theorem l5Add_any (a : Option Addr) (n c : Nat) (gs : List Int) (pa : Option Addr) (m pc : Nat) (fs : List Int) (at_ v : Int) (w : World) (hE : EntAt w a n gs) (hP : PairAt w pa m fs) (hn : n < 1048576) (hc : a = none → c = 0) (hcap : n ≤ c) :
    Calls Tryz.prog 34 #[.slice a n c, .slice pa m pc, .int .i64 at_, .int .i64 v] w fun e w' => ∃ a' c', e = .returned (.slice a' (addE gs n fs m at_ v).2 c') ∧ EntAt w' a' (addE gs n fs m at_ v).2 (addE gs n fs m at_ v).1 ∧ (a' = none → c' = 0) ∧ (addE gs n fs m at_ v).2 ≤ c' ∧ (a' = a ∨ ∀ q, a' = some q → w.heap.size ≤ q.block) ∧ Below w.heap.size w w' := by
  have HE : Hid (EntAt w a n gs) := hE
  have HP : Hid (PairAt w pa m fs) := hP
  have HC : Hid ((a = none → c = 0) ∧ n ≤ c ∧ n < 1048576) := ⟨hc, hcap, hn⟩
  clear hE hP hc
  obtain ⟨⟨r1, r2⟩, hr⟩ : ∃ r, readF fs at_ m = r := ⟨_, rfl⟩
  have HR : Hid (readF fs at_ m = (r1, r2)) := hr
  clear hr
  by_cases hy : r2 = true ∧ 0 ≤ at_
  case neg =>
    have e : addE gs n fs m at_ v = (gs, n) := by unfold addE; rw [HR.out]; exact if_neg hy
    rw [e]
    cases r2 with
    | false =>
      go_enter Tryz.func34, Tryz.ntmps34
      go_wp2_with fail
      refine (specRead_any pa m pc at_ fs _ HP.out).mono ?_
      rintro e w1 ⟨rfl, hb1⟩
      rw [HR.out]
      go_wp2
      go_ret
      exact ⟨a, c, rfl, HE.out.below hb1 (Nat.le_refl _), HC.out.1, HC.out.2.1, .inl rfl, hb1⟩
    | true =>
      have hlt : at_ < 0 := by simp at hy; omega
      clear hy e
      go_enter Tryz.func34, Tryz.ntmps34
      go_wp2_with fail
      refine (specRead_any pa m pc at_ fs _ HP.out).mono ?_
      rintro e w1 ⟨rfl, hb1⟩
      rw [HR.out]
      go_wp2
      go_ret
      exact ⟨a, c, rfl, HE.out.below hb1 (Nat.le_refl _), HC.out.1, HC.out.2.1, .inl rfl, hb1⟩
  obtain ⟨rfl, hat⟩ := hy
  have e : addE gs n fs m at_ v = (gs.take (posE gs at_ n 0 * 3) ++ [at_, r1, v] ++ gs.drop (posE gs at_ n 0 * 3), n + 1) := by unfold addE; rw [HR.out]; exact if_pos ⟨rfl, hat⟩
  rw [e]
  clear e
  obtain ⟨i0, hi, hz0, hz1, hz2⟩ := info_parts infoEnt
  go_enter Tryz.func34, Tryz.ntmps34
  go_wp2_with fail
  refine (specRead_any pa m pc at_ fs _ HP.out).mono ?_
  rintro e w1 ⟨rfl, hb1⟩
  rw [HR.out]
  have HE1 : Hid (EntAt w1 a n gs) := HE.out.below hb1 (Nat.le_refl _)
  have HB1 : Hid (Below w.heap.size w w1) := hb1
  clear hb1
  go_wp2_with fail
  go_loopw [11] (fun i wr => ∃ k : Nat, k ≤ n ∧ i = .int .i64 (k : Int) ∧ posE gs at_ n 0 = posE gs at_ (n - k) k ∧ wr = w1) (fun i _ => n - (intOf i).toNat)
  case atStart => exact ⟨0, Nat.zero_le _, rfl, rfl, rfl⟩
  case round =>
    obtain ⟨k, hk, rfl, hpos, rfl⟩ := hrel
    have HPOS : Hid (posE gs at_ n 0 = posE gs at_ (n - k) k) := hpos
    clear hpos
    by_cases hlt : k < n
    · have hk0 : (0 : Int) ≤ (k : Int) := by omega
      have hk1 : (k : Int) < (n : Int) := by omega
      rcases HE1.out.2.2 with ⟨_, h0⟩ | ⟨b, o, rfl, g1⟩
      · omega
      have e1 := g1 (k * 3) (by omega)
      obtain ⟨x, hx⟩ : ∃ x, gs.getD (k * 3) 0 = x := ⟨_, rfl⟩
      rw [hx] at e1
      have HX : Hid (gs.getD (k * 3) 0 = x) := hx
      clear g1 hx
      by_cases hxa : x < at_
      · have HN : Hid (posE gs at_ n 0 = posE gs at_ (n - (k + 1)) (k + 1)) := by
          rw [HPOS.out, show n - k = n - (k + 1) + 1 by omega]
          show (if _ then _ else _) = _
          rw [if_pos (by rw [HX.out]; exact hxa)]
        go_wp2
        exact ⟨⟨k + 1, by omega, by go_num, HN.out, by first | rfl | trivial⟩, by simp [intOf]; omega⟩
      · have HN : Hid (posE gs at_ n 0 = k) := by
          rw [HPOS.out, show n - k = n - (k + 1) + 1 by omega]
          show (if _ then _ else _) = _
          rw [if_neg (by rw [HX.out]; exact hxa)]
        go_wp2_with (first
          | (have _m := m2; at_builtin; refine wpList_append_own _ rfl _ _ 34 rfl w.heap.size 47 i0 (.agg #[.int .i64 0, .int .i64 0, .int .i64 0]) 3 24 Tryz.underlying34 hi hz0 hz1 hz2 rfl (by decide) _ _ _ rfl OWN3.out ⟨b, o + k * 3, none⟩ (n - k) (c - k) ((gs.drop (k * 3)).map I) rfl (by have := HE1.out.1; simp; omega) (ent_drop HE3.out (k * 3)) news_one (by unfold maxLen; omega) (by omega) HB3.out.size ?_
             intro v4 w4 hown4 hgrow4 _
             have OWN4 : Hid (w4.ownsRow w.heap.size 47 3 v4 (0 + k + 1 + (n - k)) ([].map I ++ (gs.take (k * 3)).map I ++ [I at_, I r1, I v] ++ (gs.drop (k * 3)).map I)) := hown4
             have HB4 : Hid (Below w.heap.size w w4) := HB3.out.grown hgrow4 HB3.out.size (fun j e => (OWN3.out.lt j e).1)
             clear hown4 hgrow4)
          | (have _m := m1; at_builtin; refine wpList_append_own _ rfl _ _ 34 rfl w.heap.size 47 i0 (.agg #[.int .i64 0, .int .i64 0, .int .i64 0]) 3 24 Tryz.underlying34 hi hz0 hz1 hz2 rfl (by decide) _ _ _ rfl (OWN2.out.alloc _) ⟨w2.heap.size, 0, none⟩ 1 1 [I at_, I r1, I v] rfl rfl (cell_three_new _ _ _ _ _) (three_one _ _ _) (by unfold maxLen; omega) (by omega) (by have := HB2.out.size; simp; omega) ?_
             intro v3 w3 hown3 hgrow3 _
             have OWN3 : Hid (w3.ownsRow w.heap.size 47 3 v3 (0 + k + 1) ([].map I ++ (gs.take (k * 3)).map I ++ [I at_, I r1, I v])) := hown3
             have HB3 : Hid (Below w.heap.size w w3) := (HB2.out.alloc HB2.out.size _).grown hgrow3 (by have := HB2.out.size; simp; omega) (fun j e => (OWN2.out.lt j e).1)
             have HE3 : Hid (EntAt w3 (some ⟨b, o, none⟩) n gs) := HE.out.below HB3.out (Nat.le_refl _)
             have m2 : True := trivial
             clear hown3 hgrow3)
          | (at_builtin; refine wpList_append_own _ rfl _ _ 34 rfl w.heap.size 47 i0 (.agg #[.int .i64 0, .int .i64 0, .int .i64 0]) 3 24 Tryz.underlying34 hi hz0 hz1 hz2 rfl (by decide) _ 0 ([].map I) rfl (own_empty3 HB1.out.size) ⟨b, o, none⟩ k c ((gs.take (k * 3)).map I) rfl (by have := HE1.out.1; simp; omega) (ent_take (HE1.out.below ((Below.refl _ _).alloc (Nat.le_refl _) _) (Nat.le_refl _)) (by omega)) news_one (by unfold maxLen; omega) (by omega) (by have := HB1.out.size; simp; omega) ?_
             intro v2 w2 hown2 hgrow2 _
             have OWN2 : Hid (w2.ownsRow w.heap.size 47 3 v2 (0 + k) ([].map I ++ (gs.take (k * 3)).map I)) := hown2
             have HB2 : Hid (Below w.heap.size w w2) := (HB1.out.alloc HB1.out.size _).grown hgrow2 (by have := HB1.out.size; simp; omega) (fun j e => by cases e; exact HB1.out.size)
             have m1 : True := trivial
             clear hown2 hgrow2))
        go_ret
        have hn' := HC.out.2.2
        have ho := OWN4.out
        rw [← List.map_append, show [I at_, I r1, I v] = [at_, r1, v].map I from rfl, ← List.map_append, ← List.map_append, List.nil_append, show 0 + k + 1 + (n - k) = n + 1 by omega] at ho
        obtain ⟨a', c', rfl, hE', hfr⟩ := own_entAt ho (by omega)
        refine ⟨a', c', rfl, ?_, ?_, ?_, .inr hfr, HB4.out⟩
        · rw [HN.out]; simpa using hE'
        · rintro rfl; exact own_none_cap ho
        · exact own_cap ho
    · have HKN : Hid (k = n) := (by omega : k = n)
      have HN : Hid (posE gs at_ n 0 = k) := by rw [HPOS.out, HKN.out, Nat.sub_self]; rfl
      rcases HE1.out.2.2 with ⟨rfl, h0⟩ | ⟨b, o, rfl, g1⟩
      · have hc0 := HC.out.1 rfl
        subst hc0
        subst h0
        obtain rfl : k = 0 := HKN.out
        have hgs : gs = [] := List.eq_nil_of_length_eq_zero (by have := HE1.out.1; omega)
        have HGS : Hid (gs = []) := hgs
        clear hgs
        have hs0 : w.heap.size ≤ (wr.alloc (.cells #[] 47)).heap.size := by have := HB1.out.size; simp; omega
        have OWN1 : Hid ((wr.alloc (.cells #[] 47)).ownsRow w.heap.size 47 3 (.slice (some ⟨wr.heap.size, 0, none⟩) 0 0) 0 ([].map I)) := own_empty3 HB1.out.size
        have c3 : ∀ (j : Nat) (u : Value), [I at_, I r1, I v][j]? = some u → ((wr.alloc (.cells #[] 47)).alloc (.cells #[I at_, I r1, I v] 47)).cell? ((⟨wr.heap.size + 1, 0, none⟩ : Addr).add j) = some u := by
          have := cell_three_new (wr.alloc (.cells #[] 47)) (I at_) (I r1) (I v) 47; rw [World.size_alloc] at this; exact this
        have C3 : Hid (∀ (j : Nat) (u : Value), [I at_, I r1, I v][j]? = some u → ((wr.alloc (.cells #[] 47)).alloc (.cells #[I at_, I r1, I v] 47)).cell? ((⟨wr.heap.size + 1, 0, none⟩ : Addr).add j) = some u) := c3
        have HS0 : Hid (w.heap.size ≤ (wr.alloc (.cells #[] 47)).heap.size) := hs0
        clear c3 hs0
        go_wp2_with (first
          | (have _m := m2; at_builtin; refine wpList_append_own_none rfl _ _ 34 rfl w.heap.size 47 i0 3 Tryz.underlying34 hi _ _ _ rfl OWN3.out rfl ?_)
          | (have _m := m1; at_builtin; refine wpList_append_own _ rfl _ _ 34 rfl w.heap.size 47 i0 (.agg #[.int .i64 0, .int .i64 0, .int .i64 0]) 3 24 Tryz.underlying34 hi hz0 hz1 hz2 rfl (by decide) _ 0 ([].map I) rfl (OWN1.out.alloc _) ⟨wr.heap.size + 1, 0, none⟩ 1 1 [I at_, I r1, I v] rfl rfl C3.out (three_one _ _ _) (by unfold maxLen; omega) (by omega) (by have := HS0.out; rw [World.size_alloc]; omega) ?_
             intro v3 w3 hown3 hgrow3 _
             have OWN3 : Hid (w3.ownsRow w.heap.size 47 3 v3 (0 + 1) ([].map I ++ [I at_, I r1, I v])) := hown3
             have HB3 : Hid (Below w.heap.size w w3) := ((HB1.out.alloc HB1.out.size _).alloc HS0.out _).grown hgrow3 (by have := HS0.out; rw [World.size_alloc]; omega) (fun j e => by cases e; exact HB1.out.size)
             have m2 : True := trivial
             clear hown3 hgrow3)
          | (at_builtin; refine wpList_append_own_none rfl _ _ 34 rfl w.heap.size 47 i0 3 Tryz.underlying34 hi _ _ _ rfl OWN1.out rfl ?_
             have m1 : True := trivial))
        go_ret
        have ho := OWN3.out
        rw [show [I at_, I r1, I v] = [at_, r1, v].map I from rfl, ← List.map_append, List.nil_append, Nat.zero_add] at ho
        obtain ⟨a', c', rfl, hE', hfr⟩ := own_entAt ho (by omega)
        refine ⟨a', c', rfl, ?_, ?_, ?_, .inr hfr, HB3.out⟩
        · rw [HGS.out]; simpa using hE'
        · rintro rfl; exact own_none_cap ho
        · exact own_cap ho
      · clear g1
        by_cases hck : c = k
        · subst hck
          go_wp2_with (first
            | (have _m := m2; at_builtin; refine wpList_append_own _ rfl _ _ 34 rfl w.heap.size 47 i0 (.agg #[.int .i64 0, .int .i64 0, .int .i64 0]) 3 24 Tryz.underlying34 hi hz0 hz1 hz2 rfl (by decide) _ _ _ rfl OWN3.out _ 0 _ [] rfl rfl (by intro j u h; simp at h) (by intro u h; simp at h) (by unfold maxLen; omega) (by omega) HB3.out.size ?_
               intro v4 w4 hown4 hgrow4 _
               have OWN4 : Hid (w4.ownsRow w.heap.size 47 3 v4 (0 + c + 1 + 0) ([].map I ++ (gs.take (c * 3)).map I ++ [I at_, I r1, I v] ++ [])) := hown4
               have HB4 : Hid (Below w.heap.size w w4) := HB3.out.grown hgrow4 HB3.out.size (fun j e => (OWN3.out.lt j e).1)
               clear hown4 hgrow4)
            | (have _m := m1; at_builtin; refine wpList_append_own _ rfl _ _ 34 rfl w.heap.size 47 i0 (.agg #[.int .i64 0, .int .i64 0, .int .i64 0]) 3 24 Tryz.underlying34 hi hz0 hz1 hz2 rfl (by decide) _ _ _ rfl (OWN2.out.alloc _) ⟨w2.heap.size, 0, none⟩ 1 1 [I at_, I r1, I v] rfl rfl (cell_three_new _ _ _ _ _) (three_one _ _ _) (by unfold maxLen; omega) (by omega) (by have := HB2.out.size; simp; omega) ?_
               intro v3 w3 hown3 hgrow3 _
               have OWN3 : Hid (w3.ownsRow w.heap.size 47 3 v3 (0 + c + 1) ([].map I ++ (gs.take (c * 3)).map I ++ [I at_, I r1, I v])) := hown3
               have HB3 : Hid (Below w.heap.size w w3) := (HB2.out.alloc HB2.out.size _).grown hgrow3 (by have := HB2.out.size; simp; omega) (fun j e => (OWN2.out.lt j e).1)
               have HE3 : Hid (EntAt w3 (some ⟨b, o, none⟩) n gs) := HE.out.below HB3.out (Nat.le_refl _)
               have m2 : True := trivial
               clear hown3 hgrow3)
            | (at_builtin; refine wpList_append_own _ rfl _ _ 34 rfl w.heap.size 47 i0 (.agg #[.int .i64 0, .int .i64 0, .int .i64 0]) 3 24 Tryz.underlying34 hi hz0 hz1 hz2 rfl (by decide) _ 0 ([].map I) rfl (own_empty3 HB1.out.size) ⟨b, o, none⟩ c c ((gs.take (c * 3)).map I) rfl (by have := HE1.out.1; simp; omega) (ent_take (HE1.out.below ((Below.refl _ _).alloc (Nat.le_refl _) _) (Nat.le_refl _)) (by omega)) news_one (by unfold maxLen; omega) (by omega) (by have := HB1.out.size; simp; omega) ?_
               intro v2 w2 hown2 hgrow2 _
               have OWN2 : Hid (w2.ownsRow w.heap.size 47 3 v2 (0 + c) ([].map I ++ (gs.take (c * 3)).map I)) := hown2
               have HB2 : Hid (Below w.heap.size w w2) := (HB1.out.alloc HB1.out.size _).grown hgrow2 (by have := HB1.out.size; simp; omega) (fun j e => by cases e; exact HB1.out.size)
               have m1 : True := trivial
               clear hown2 hgrow2))
          go_ret
          have hn' := HC.out.2.2
          have ho := OWN4.out
          rw [← List.map_append, show [I at_, I r1, I v] = [at_, r1, v].map I from rfl, ← List.map_append, List.append_nil, List.nil_append, show 0 + c + 1 + 0 = n + 1 by have := HKN.out; omega] at ho
          obtain ⟨a', c', rfl, hE', hfr⟩ := own_entAt ho (by omega)
          refine ⟨a', c', rfl, ?_, ?_, ?_, .inr hfr, HB4.out⟩
          · rw [HN.out, List.drop_of_length_le (by have := HE1.out.1; have := HKN.out; omega)]; simpa using hE'
          · rintro rfl; exact own_none_cap ho
          · exact own_cap ho
        · skip
          go_wp2_with (first
            | (have _m := m2; at_builtin; refine wpList_append_own _ rfl _ _ 34 rfl w.heap.size 47 i0 (.agg #[.int .i64 0, .int .i64 0, .int .i64 0]) 3 24 Tryz.underlying34 hi hz0 hz1 hz2 rfl (by decide) _ _ _ rfl OWN3.out _ (n - k) _ [] rfl (by have := HKN.out; simp; omega) (by intro j u h; simp at h) (by intro u h; simp at h) (by unfold maxLen; omega) (by omega) HB3.out.size ?_
               intro v4 w4 hown4 hgrow4 _
               have OWN4 : Hid (w4.ownsRow w.heap.size 47 3 v4 (0 + k + 1 + (n - k)) ([].map I ++ (gs.take (k * 3)).map I ++ [I at_, I r1, I v] ++ [])) := hown4
               have HB4 : Hid (Below w.heap.size w w4) := HB3.out.grown hgrow4 HB3.out.size (fun j e => (OWN3.out.lt j e).1)
               clear hown4 hgrow4)
            | (have _m := m1; at_builtin; refine wpList_append_own _ rfl _ _ 34 rfl w.heap.size 47 i0 (.agg #[.int .i64 0, .int .i64 0, .int .i64 0]) 3 24 Tryz.underlying34 hi hz0 hz1 hz2 rfl (by decide) _ _ _ rfl (OWN2.out.alloc _) ⟨w2.heap.size, 0, none⟩ 1 1 [I at_, I r1, I v] rfl rfl (cell_three_new _ _ _ _ _) (three_one _ _ _) (by unfold maxLen; omega) (by omega) (by have := HB2.out.size; simp; omega) ?_
               intro v3 w3 hown3 hgrow3 _
               have OWN3 : Hid (w3.ownsRow w.heap.size 47 3 v3 (0 + k + 1) ([].map I ++ (gs.take (k * 3)).map I ++ [I at_, I r1, I v])) := hown3
               have HB3 : Hid (Below w.heap.size w w3) := (HB2.out.alloc HB2.out.size _).grown hgrow3 (by have := HB2.out.size; simp; omega) (fun j e => (OWN2.out.lt j e).1)
               have HE3 : Hid (EntAt w3 (some ⟨b, o, none⟩) n gs) := HE.out.below HB3.out (Nat.le_refl _)
               have m2 : True := trivial
               clear hown3 hgrow3)
            | (at_builtin; refine wpList_append_own _ rfl _ _ 34 rfl w.heap.size 47 i0 (.agg #[.int .i64 0, .int .i64 0, .int .i64 0]) 3 24 Tryz.underlying34 hi hz0 hz1 hz2 rfl (by decide) _ 0 ([].map I) rfl (own_empty3 HB1.out.size) ⟨b, o, none⟩ k c ((gs.take (k * 3)).map I) rfl (by have := HE1.out.1; simp; omega) (ent_take (HE1.out.below ((Below.refl _ _).alloc (Nat.le_refl _) _) (Nat.le_refl _)) (by omega)) news_one (by unfold maxLen; omega) (by omega) (by have := HB1.out.size; simp; omega) ?_
               intro v2 w2 hown2 hgrow2 _
               have OWN2 : Hid (w2.ownsRow w.heap.size 47 3 v2 (0 + k) ([].map I ++ (gs.take (k * 3)).map I)) := hown2
               have HB2 : Hid (Below w.heap.size w w2) := (HB1.out.alloc HB1.out.size _).grown hgrow2 (by have := HB1.out.size; simp; omega) (fun j e => by cases e; exact HB1.out.size)
               have m1 : True := trivial
               clear hown2 hgrow2))
          go_ret
          have hn' := HC.out.2.2
          have ho := OWN4.out
          rw [← List.map_append, show [I at_, I r1, I v] = [at_, r1, v].map I from rfl, ← List.map_append, List.append_nil, List.nil_append, show 0 + k + 1 + (n - k) = n + 1 by omega] at ho
          obtain ⟨a', c', rfl, hE', hfr⟩ := own_entAt ho (by omega)
          refine ⟨a', c', rfl, ?_, ?_, ?_, .inr hfr, HB4.out⟩
          · rw [HN.out, List.drop_of_length_le (by have := HE1.out.1; have := HKN.out; omega)]; simpa using hE'
          · rintro rfl; exact own_none_cap ho
          · exact own_cap ho
def ListE (B : Nat) (w : World) (v : Value) (L : List Int × Nat) : Prop := ∃ a c, v = .slice a L.2 c ∧ EntAt w a L.2 L.1 ∧ (a = none → c = 0) ∧ L.2 ≤ c ∧ ∀ q, a = some q → B ≤ q.block
theorem ListE.below {B0 : Nat} {w w' : World} {v : Value} {L : List Int × Nat} (h : ListE B0 w v L) {B : Nat} (hb : Below B w w') (hB : w.heap.size ≤ B) : ListE B0 w' v L := by
  obtain ⟨a, c, h1, h2, h3⟩ := h
  exact ⟨a, c, h1, h2.below hb hB, h3⟩
theorem listE_nil (B : Nat) (w : World) : ListE B w (.slice none 0 0) ([], 0) := ⟨none, 0, rfl, ⟨rfl, by omega, .inl ⟨rfl, rfl⟩⟩, fun _ => rfl, Nat.le_refl _, fun q e => by cases e⟩
def addL (L : List Int × Nat) (fs : List Int) (m : Nat) (at_ v : Int) : List Int × Nat := addE L.1 L.2 fs m at_ v
theorem addL_le (L : List Int × Nat) (fs : List Int) (m : Nat) (at_ v : Int) : (addL L fs m at_ v).2 ≤ L.2 + 1 := by
  unfold addL addE
  split <;> simp
theorem l5Add_L (v0 : Value) (L : List Int × Nat) (pa : Option Addr) (m pc : Nat) (fs : List Int) (at_ v : Int) (w : World) (B : Nat) (hL : ListE B w v0 L) (hP : PairAt w pa m fs) (hn : L.2 < 1048576) (hB : B ≤ w.heap.size) :
    Calls Tryz.prog 34 #[v0, .slice pa m pc, .int .i64 at_, .int .i64 v] w fun e w' => ∃ v', e = .returned v' ∧ ListE B w' v' (addL L fs m at_ v) ∧ Below w.heap.size w w' := by
  obtain ⟨a, c, rfl, h1, h2, h3, h4⟩ := hL
  refine (l5Add_any a L.2 c L.1 pa m pc fs at_ v w h1 hP hn h2 h3).mono ?_
  rintro e w' ⟨a', c', rfl, g1, g2, g3, g5, g4⟩
  exact ⟨_, rfl, ⟨a', c', rfl, g1, g2, g3, fun q e => g5.elim (fun h => h4 q (h ▸ e)) (fun h => Nat.le_trans hB (h q e))⟩, g4⟩

theorem l5Same_L (v0 : Value) (L : List Int × Nat) (pa : Option Addr) (m pc : Nat) (fs : List Int) (at_ : Int) (w : World) (B : Nat) (hL : ListE B w v0 L) (hP : PairAt w pa m fs) (hn : L.2 < 1048576) (hB : B ≤ w.heap.size) :
    Calls Tryz.prog 32 #[v0, .slice pa m pc, .int .i64 at_] w fun e w' => ∃ v', e = .returned v' ∧ ListE B w' v' (addL L fs m at_ (readF fs at_ m).1) ∧ Below w.heap.size w w' := by
  have HL : Hid (ListE B w v0 L ∧ B ≤ w.heap.size) := ⟨hL, hB⟩
  have HP : Hid (PairAt w pa m fs) := hP
  have HN : Hid (L.2 < 1048576) := hn
  clear hL hP hn hB
  obtain ⟨⟨r1, r2⟩, hr⟩ : ∃ r, readF fs at_ m = r := ⟨_, rfl⟩
  have HR : Hid (readF fs at_ m = (r1, r2)) := hr
  clear hr
  rw [HR.out]
  go_enter Tryz.func32, Tryz.ntmps32
  go_wp2_with fail
  refine (specRead_any pa m pc at_ fs _ HP.out).mono ?_
  rintro e w1 ⟨rfl, hb1⟩
  rw [HR.out]
  have HB1 : Hid (Below w.heap.size w w1) := hb1
  clear hb1
  go_wp2_with fail
  refine (l5Add_L v0 L pa m pc fs at_ r1 _ B (HL.out.1.below HB1.out (Nat.le_refl _)) (HP.out.below HB1.out (Nat.le_refl _)) HN.out (Nat.le_trans HL.out.2 HB1.out.size)).mono ?_
  rintro e w2 ⟨v', rfl, hL2, hb2⟩
  have H2 : Hid (ListE B w2 v' (addL L fs m at_ r1) ∧ Below w.heap.size w w2) := ⟨hL2, HB1.out.trans (hb2.mono HB1.out.size)⟩
  clear hL2 hb2
  go_wp2
  go_ret
  exact ⟨v', rfl, H2.out.1, H2.out.2⟩

theorem l1Max_any (x y : Int) (w : World) : Calls Tryz.prog 110 #[.int .i64 x, .int .i64 y] w fun e w' => e = .returned (.int .i64 (max x y)) ∧ w' = w := by
  by_cases h : y < x
  · have e : max x y = x := by omega
    rw [e]
    clear e
    go_enter Tryz.func110, Tryz.ntmps110
    go_wp2
    go_ret
    exact ⟨rfl, rfl⟩
  · have e : max x y = y := by omega
    rw [e]
    clear e
    go_enter Tryz.func110, Tryz.ntmps110
    go_wp2
    go_ret
    exact ⟨rfl, rfl⟩

theorem l5More_L (v0 : Value) (L : List Int × Nat) (pa : Option Addr) (m pc : Nat) (fs : List Int) (x by_ : Int) (w : World) (B : Nat) (hL : ListE B w v0 L) (hP : PairAt w pa m fs) (hn : L.2 < 1048576) (hB : B ≤ w.heap.size) :
    Calls Tryz.prog 81 #[v0, .slice pa m pc, .int .i64 x, .int .i64 by_] w fun e w' => ∃ v', e = .returned v' ∧ ListE B w' v' (addL L fs m (placeN 3 (classN x)) (max (wrap64 ((readF fs (placeN 3 (classN x)) m).1 + by_)) 0)) ∧ Below w.heap.size w w' := by
  have HL : Hid (ListE B w v0 L ∧ B ≤ w.heap.size) := ⟨hL, hB⟩
  have HP : Hid (PairAt w pa m fs) := hP
  have HN : Hid (L.2 < 1048576) := hn
  clear hL hP hn hB
  obtain ⟨p, hp⟩ : ∃ p, placeN 3 (classN x) = p := ⟨_, rfl⟩
  have HPL : Hid (placeN 3 (classN x) = p) := hp
  clear hp
  rw [HPL.out]
  obtain ⟨⟨r1, r2⟩, hr⟩ : ∃ r, readF fs p m = r := ⟨_, rfl⟩
  have HR : Hid (readF fs p m = (r1, r2)) := hr
  clear hr
  rw [HR.out]
  dsimp only
  obtain ⟨q, hq⟩ : ∃ q, wrap64 (r1 + by_) = q := ⟨_, rfl⟩
  rw [hq]
  go_enter Tryz.func81, Tryz.ntmps81
  go_wp2_with fail
  refine (specClassOf_any x _).mono ?_
  rintro e w1 ⟨rfl, hw1⟩
  rw [hw1]
  clear hw1
  go_wp2_with fail
  refine (specCountAt_any (classN x) _).mono ?_
  rintro e w2 ⟨rfl, hw2⟩
  rw [hw2, HPL.out]
  clear hw2
  go_wp2_with fail
  refine (specRead_any pa m pc p fs _ HP.out).mono ?_
  rintro e w3 ⟨rfl, hb1⟩
  rw [HR.out]
  have HB1 : Hid (Below w.heap.size w w3) := hb1
  clear hb1
  go_wp2_with fail
  refine (l1Max_any q 0 _).mono ?_
  rintro e w4 ⟨rfl, hw4⟩
  rw [hw4]
  clear hw4
  go_wp2_with fail
  refine (l5Add_L v0 L pa m pc fs p (max q 0) _ B (HL.out.1.below HB1.out (Nat.le_refl _)) (HP.out.below HB1.out (Nat.le_refl _)) HN.out (Nat.le_trans HL.out.2 HB1.out.size)).mono ?_
  rintro e w5 ⟨v', rfl, hL2, hb2⟩
  have H2 : Hid (ListE B w5 v' (addL L fs m p (max q 0)) ∧ Below w.heap.size w w5) := ⟨hL2, HB1.out.trans (hb2.mono HB1.out.size)⟩
  clear hL2 hb2
  go_wp2
  go_ret
  exact ⟨v', rfl, H2.out.1, H2.out.2⟩
def flatE (L : List Ent) : List Int := L.flatMap fun x => [x.1, x.2.1, x.2.2]
theorem flatE_snoc (L : List Ent) (x : Ent) : (flatE L).map I ++ [I x.1, I x.2.1, I x.2.2] = (flatE (L ++ [x])).map I := by simp [flatE]
theorem flatE_len (L : List Ent) : (flatE L).length = L.length * 3 := by
  induction L with
  | nil => rfl
  | cons x t ih => simp only [flatE, List.flatMap_cons, List.length_append, List.length_cons, List.length_nil] at ih ⊢; omega
end
section
open Go.ChangeShapes Go.WideShapes Go.ChangeAt Go.RowKit Go.Shelf
attribute [local go_sem] Oper.semAt_some

theorem appendSeq_any (g : Nat) (lb : Array Value) (L : List Ent) (w : World) (eg : ∀ args w, (callFunc g args).run Tryz.prog w = .ok (.enter g args) w)
    (hseq : SeqGo Tryz.prog g lb encE (fun _ => true) w.heap.size [34, 47] L (w.alloc (.cells #[.slice none 0 0] 34))) :
    Calls Tryz.prog 98 #[.slice none 0 0, .func (.func g) #[] lb] w fun e w' => ∃ v, e = .returned v ∧ w'.ownsRow w.heap.size 47 3 v L.length ((flatE L).map I) ∧ Below w.heap.size w w' := by
  have HSQ : Hid (SeqGo Tryz.prog g lb encE (fun _ => true) w.heap.size [34, 47] L (w.alloc (.cells #[.slice none 0 0] 34))) := hseq
  clear hseq
  have Z1 : Hid (Below w.heap.size w (w.alloc (.cells #[.slice none 0 0] 34)) ∧ Boxed (w.alloc (.cells #[.slice none 0 0] 34)) w.heap.size 34 (.slice none 0 0)) := ⟨(Below.refl _ _).alloc (Nat.le_refl _) _, Boxed.new w _ _⟩
  refine (callsIn_wide (n := 3)).1 (callsIn_of_wp_marks Tryz.func98 rfl trivial (wpIn_wide.2 ?_) rfl)
  simp only [Tryz.ntmps98, List.size_toArray, List.length_cons, List.length_nil, Nat.reduceAdd, Nat.reduceSub, Array.replicate_succ, Array.replicate_zero, List.push_toArray, List.append_toArray, List.nil_append, List.cons_append]
  go_wp2_with fail
  obtain ⟨i0, hin⟩ : ∃ i, Tryz.prog.info? 47 = some i := ⟨_, rfl⟩
  have hz0 : i0.zero = some (.agg #[.int .i64 0, .int .i64 0, .int .i64 0]) := by cases hin; kernel_rfl
  have hz1 : i0.size = 3 := by cases hin; kernel_rfl
  have hz2 : i0.bytes = 24 := by cases hin; kernel_rfl
  refine wp_rangeFunc_go (gf := g) (lb := lb) rfl eg HSQ.out (by simp) (fun _ => rfl)
    (fun pre W => (∃ v, Boxed W w.heap.size 34 v ∧ W.ownsRow (w.heap.size + 3) 47 3 v pre.length ((flatE pre).map I) ∧ True) ∧ Below w.heap.size w W)
    (fun _ _ => False)
    (OwnFrom.and (Own.from (holdsRow_own (w.heap.size + 3) w.heap.size 34 47 3 (fun pre : List Ent => pre.length) (fun pre => (flatE pre).map I) (fun _ _ => True)) _) (ownFrom_below (Nat.le_refl _) Z1.out.1.size))
    (fun _ _ _ _ h _ _ => h)
    ⟨⟨_, Z1.out.2, ⟨rfl, .inl ⟨rfl, rfl⟩⟩, trivial⟩, Z1.out.1⟩
    (fun x a' W => ∃ Bx, w.heap.size < Bx ∧ Box3 W Bx 47 x ∧ a' = { tmps := #[.slice none 0 0, .func (.func g) #[] lb, .pointer (some ⟨w.heap.size, 0, none⟩), undef, .slice none 0 0, .pointer (some ⟨Bx, 0, none⟩), .func (.func g) #[] lb, .agg #[.int .i64 x.1, .int .i64 x.2.1, .int .i64 x.2.2], undef, undef, undef, undef, undef], defers := [] })
    (fun x a' => Own.from (fun s A B row ⟨Bx, h1, h2, h3⟩ hg hr => ⟨Bx, h1, box3_own _ _ _ () A B row h2 hg hr, h3⟩) _) ?assign ?body ?done ?stop
  case assign =>
    rintro l pre x W K hsz _ ⟨⟨v, hv, hrow, _⟩, hB⟩ hK
    simp only [encE]
    gi_wp2
    exact hK _ _ (World.grownBy_alloc W _ none) ⟨⟨v, hv.alloc _, hrow.alloc _, trivial⟩, hB.alloc hB.size _⟩ ⟨W.heap.size, hv.lt, World.alloc_heap_new W _, rfl⟩
  case body =>
    rintro l pre x a' W hsz hlen ⟨⟨v, hv, hrow, _⟩, hB⟩ ⟨Bx, hBx, bX, rfl⟩
    have x0 : W.cell? ⟨Bx, 0, none⟩ = some (.int .i64 x.1) := by simp [World.cell?, show W.heap[Bx]? = _ from bX]
    have x1 : W.cell? ⟨Bx, 1, none⟩ = some (.int .i64 x.2.1) := by simp [World.cell?, show W.heap[Bx]? = _ from bX]
    have x2 : W.cell? ⟨Bx, 2, none⟩ = some (.int .i64 x.2.2) := by simp [World.cell?, show W.heap[Bx]? = _ from bX]
    have HV : Hid (Boxed W w.heap.size 34 v ∧ W.ownsRow (w.heap.size + 3) 47 3 v pre.length ((flatE pre).map I) ∧ Below w.heap.size w W ∧ w.heap.size + 1 + 1 < W.heap.size ∧ pre.length < 100) := ⟨hv, hrow, hB, by simpa using hsz, hlen⟩
    have v0 := hv.cell
    clear hv hrow hB bX hsz hlen
    gi_wp2_with (gi_at_builtin; refine wpListIn_append_own _ rfl _ _ 34 rfl (w.heap.size + 3) 47 i0 (.agg #[.int .i64 0, .int .i64 0, .int .i64 0]) 3 24 Tryz.underlying34 hin hz0 hz1 hz2 rfl (by decide) _ _ _ rfl (HV.out.2.1.alloc _) ⟨W.heap.size, 0, none⟩ 1 1 [I x.1, I x.2.1, I x.2.2] rfl rfl (cell_three_new _ _ _ _ _) (three_one _ _ _) (by have := HV.out.2.2.2.2; unfold maxLen; omega) (by have := HV.out.2.2.2.2; omega) (by have := HV.out.2.2.2.1; simp; omega) ?_; intro v' w1 hown' hgrow _; obtain ⟨g', cap', rfl⟩ := ownsRow_succ hown'; have hv1 : Boxed w1 w.heap.size 34 v := (HV.out.1.alloc _).kept hgrow (HV.out.1.not_row (by decide) HV.out.2.1); have HW : Hid (w1.ownsRow (w.heap.size + 3) 47 3 (.slice (some ⟨g', 0, none⟩) (pre.length + 1) cap') (pre.length + 1) ((flatE pre).map I ++ [I x.1, I x.2.1, I x.2.2]) ∧ (W.alloc (.cells #[.int .i64 x.1, .int .i64 x.2.1, .int .i64 x.2.2] 47)).grownBy w1 v.ownBlock ∧ Boxed w1 w.heap.size 34 v) := ⟨hown', hgrow, hv1⟩; have hc1 := hv1.cell; have hf1 := hv1.frozen; clear hown' hgrow hv1)
    obtain ⟨hown', hgrow, hv1⟩ := HW.out
    obtain ⟨hv, hrow, hB, hsz, hlen⟩ := HV.out
    have same : ∀ j, j < W.heap.size → j ≠ w.heap.size → some j ≠ v.ownBlock → (w1.setCell ⟨w.heap.size, 0, none⟩ (.slice (some ⟨g', 0, none⟩) (pre.length + 1) cap')).heap[j]? = W.heap[j]? := fun j hj hne ho => by
      have z1 : j < (W.alloc (.cells #[.int .i64 x.1, .int .i64 x.2.1, .int .i64 x.2.2] 47)).heap.size := by simp; omega
      have e1 := hgrow.block j z1 ho
      have z2 : j < w1.heap.size := Nat.lt_of_lt_of_le z1 hgrow.size
      exact ((grownBy_setCell' w1 w.heap.size _).block j z2 (by simpa using hne)).trans (e1.trans (Below.heap_alloc _ _ _ hj))
    have lowown : ∀ j, some j = v.ownBlock → w.heap.size + 3 ≤ j := fun j e => (hrow.lt j e.symm).1
    refine ⟨⟨same _ (by omega) (by omega) (fun e => by have h := lowown _ e; omega), same _ (by omega) (by omega) (fun e => by have h := lowown _ e; omega)⟩, ⟨⟨?_, ?_, ?_, ?_, fun j hj => same j (by have := hB.size; omega) (by omega) (fun e => by have h := lowown _ e; omega)⟩, fun j hj hc => same j hj (fun e => ?_) (fun e => ?_)⟩, ⟨_, hv1.set _, ?_⟩, ?_⟩
    · exact hgrow.os
    · exact hgrow.tape
    · exact hgrow.output
    · exact Nat.le_trans (by simp) (Nat.le_trans hgrow.size (grownBy_setCell' w1 w.heap.size (.slice (some ⟨g', 0, none⟩) (pre.length + 1) cap')).size)
    · subst e
      exact hc _ _ _ hv (by simp)
    · rcases hrow.2 with ⟨rfl, _⟩ | ⟨g, cap, cur, rfl, _, hgb, _⟩
      · simp [Value.ownBlock] at e
      · obtain rfl : j = g := by simpa [Value.ownBlock] using e
        exact hc _ _ _ hgb (by simp)
    · rw [← flatE_snoc]
      exact hown'.kept (grownBy_setCell' w1 w.heap.size _) (.inr (hv1.not_row (by decide) hown').symm)
    · refine hB.trans ⟨hgrow.os, hgrow.tape, hgrow.output, Nat.le_trans (by simp) (Nat.le_trans hgrow.size (grownBy_setCell' w1 w.heap.size (.slice (some ⟨g', 0, none⟩) (pre.length + 1) cap')).size), fun j hj => same j (by have := hB.size; omega) (by omega) (fun e => by have h := lowown _ e; omega)⟩
  case done =>
    rintro W hall ⟨⟨v, hv, hrow, _⟩, hB⟩ hK
    have HI : Hid (Boxed W w.heap.size 34 v ∧ W.ownsRow (w.heap.size + 3) 47 3 v L.length ((flatE L).map I) ∧ Below w.heap.size w W ∧ W.heap[(w.alloc (.cells #[.slice none 0 0] 34)).heap.size]? = some (.deferred (some []))) := ⟨hv, hrow, hB, hK⟩
    have v0 := hv.cell
    clear hv hrow hB hK hall
    go_wp2
    refine ⟨by simp, .inl ⟨_, _, rfl, run_takeDeferred HI.out.2.2.2, ?_⟩⟩
    refine ⟨v, by simp [results, Tryz.f98, go_sem], v, rfl, own_weaken (ownsRow_putObj HI.out.2.1 _ HI.out.2.2.2 rfl) (by omega), HI.out.2.2.1.trans ((Below.refl _ W).grown (grownBy_putObj' W _ _) HI.out.2.2.1.size (fun k e => by cases e; simp))⟩
  case stop =>
    rintro pre x rest W _ _ e3
    cases e3

theorem collect_any (g : Nat) (lb : Array Value) (L : List Ent) (w : World) (eg : ∀ args w, (callFunc g args).run Tryz.prog w = .ok (.enter g args) w)
    (hseq : SeqGo Tryz.prog g lb encE (fun _ => true) w.heap.size [34, 47] L (w.alloc (.cells #[.slice none 0 0] 34))) :
    Calls Tryz.prog 71 #[.func (.func g) #[] lb] w fun e w' => ∃ v, e = .returned v ∧ w'.ownsRow w.heap.size 47 3 v L.length ((flatE L).map I) ∧ Below w.heap.size w w' := by
  have H := appendSeq_any g lb L w eg hseq
  have HH : Hid (Calls Tryz.prog 98 #[.slice none 0 0, .func (.func g) #[] lb] w fun e w' => ∃ v, e = .returned v ∧ w'.ownsRow w.heap.size 47 3 v L.length ((flatE L).map I) ∧ Below w.heap.size w w') := H
  clear H hseq eg
  go_enter Tryz.func71, Tryz.ntmps71
  go_wp2_with fail
  refine HH.out.mono ?_
  rintro e w' ⟨v, rfl, h1, h2⟩
  have H2 : Hid (w'.ownsRow w.heap.size 47 3 v L.length ((flatE L).map I) ∧ Below w.heap.size w w') := ⟨h1, h2⟩
  clear h1 h2
  go_wp2
  go_ret
  exact ⟨v, rfl, H2.out.1, H2.out.2⟩
end
end Go.Proofs.YtenlapppaimkkabGreatDoor
namespace Go.Proofs
open Go.Shelf
def Tryz.sortE_ren : Go.Shelf.Ren := ⟨fun | 6 => 72 | 15 => 100 | 14 => 99 | 28 => 121 | 29 => 122 | 20 => 113 | 21 => 114 | 22 => 115 | 23 => 116 | 24 => 117 | 25 => 118 | 26 => 119 | 27 => 120 | 46 => 127 | 47 => 128 | 48 => 129 | 49 => 130 | 50 => 131 | 57 => 132 | n => n, fun | 22 => 34 | 24 => 47 | 25 => 65 | 3 => 3 | 39 => 130 | 0 => 0 | 53 => 146 | 55 => 148 | 4 => 4 | 46 => 140 | 45 => 139 | 50 => 66 | 5 => 5 | 9 => 9 | 66 => 150 | 70 => 154 | 76 => 156 | 77 => 157 | n => n, fun | n => n⟩
theorem Tryz.sortE : Go.Proofs.SlLaysF0.n6 Tryz.prog Tryz.sortE_ren := {
  mixed := by kernel_rfl
  f6 := ⟨Tryz.f72.name, by decide, Tryz.func72.trans (congrArg some (by kernel_rfl))⟩
  f14 := ⟨Tryz.f99.name, by decide, Tryz.func99.trans (congrArg some (by kernel_rfl))⟩
  f15 := Tryz.func100.trans (congrArg some (by kernel_rfl))
  f20 := ⟨Tryz.f113.name, by decide, Tryz.func113.trans (congrArg some (by kernel_rfl))⟩
  f21 := ⟨Tryz.f114.name, by decide, Tryz.func114.trans (congrArg some (by kernel_rfl))⟩
  f22 := ⟨Tryz.f115.name, by decide, Tryz.func115.trans (congrArg some (by kernel_rfl))⟩
  f23 := ⟨Tryz.f116.name, by decide, Tryz.func116.trans (congrArg some (by kernel_rfl))⟩
  f24 := ⟨Tryz.f117.name, by decide, Tryz.func117.trans (congrArg some (by kernel_rfl))⟩
  f25 := ⟨Tryz.f118.name, by decide, Tryz.func118.trans (congrArg some (by kernel_rfl))⟩
  f26 := ⟨Tryz.f119.name, by decide, Tryz.func119.trans (congrArg some (by kernel_rfl))⟩
  f27 := ⟨Tryz.f120.name, by decide, Tryz.func120.trans (congrArg some (by kernel_rfl))⟩
  f28 := Tryz.func121.trans (congrArg some (by kernel_rfl))
  f29 := Tryz.func122.trans (congrArg some (by kernel_rfl))
  f46 := ⟨Tryz.f127.name, by decide, Tryz.func127.trans (congrArg some (by kernel_rfl))⟩
  f47 := Tryz.func128.trans (congrArg some (by kernel_rfl))
  f48 := Tryz.func129.trans (congrArg some (by kernel_rfl))
  f49 := ⟨Tryz.f130.name, by decide, Tryz.func130.trans (congrArg some (by kernel_rfl))⟩
  f50 := ⟨Tryz.f131.name, by decide, Tryz.func131.trans (congrArg some (by kernel_rfl))⟩
  f57 := ⟨Tryz.f132.name, by decide, Tryz.func132.trans (congrArg some (by kernel_rfl))⟩
  t0 := Tryz.underlying0
  a0 := Tryz.isAgg0
  z0 := Tryz.sizeOf0
  v0 := Tryz.zeroValue0
  t3 := Tryz.underlying3
  a3 := Tryz.isAgg3
  z3 := Tryz.sizeOf3
  v3 := Tryz.zeroValue3
  t4 := Tryz.underlying4
  a4 := Tryz.isAgg4
  z4 := Tryz.sizeOf4
  v4 := Tryz.zeroValue4
  t5 := Tryz.underlying5
  a5 := Tryz.isAgg5
  z5 := Tryz.sizeOf5
  v5 := Tryz.zeroValue5
  t9 := Tryz.underlying9
  a9 := Tryz.isAgg9
  z9 := Tryz.sizeOf9
  v9 := Tryz.zeroValue9
  t22 := Tryz.underlying34
  a22 := Tryz.isAgg34
  z22 := Tryz.sizeOf34
  v22 := Tryz.zeroValue34
  t25 := Tryz.underlying65
  a25 := Tryz.isAgg65
  z25 := Tryz.sizeOf65
  v25 := Tryz.zeroValue65
  t39 := Tryz.underlying130
  a39 := Tryz.isAgg130
  z39 := Tryz.sizeOf130
  v39 := Tryz.zeroValue130
  t45 := Tryz.underlying139
  a45 := Tryz.isAgg139
  z45 := Tryz.sizeOf139
  v45 := Tryz.zeroValue139
  t46 := Tryz.underlying140
  a46 := Tryz.isAgg140
  z46 := Tryz.sizeOf140
  v46 := Tryz.zeroValue140
  t50 := Tryz.underlying66
  a50 := Tryz.isAgg66
  z50 := Tryz.sizeOf66
  v50 := Tryz.zeroValue66
  t53 := Tryz.underlying146
  a53 := Tryz.isAgg146
  z53 := Tryz.sizeOf146
  v53 := Tryz.zeroValue146
  t55 := Tryz.underlying148
  a55 := Tryz.isAgg148
  z55 := Tryz.sizeOf148
  v55 := Tryz.zeroValue148
  t66 := Tryz.underlying150
  a66 := Tryz.isAgg150
  z66 := Tryz.sizeOf150
  v66 := Tryz.zeroValue150
  t70 := Tryz.underlying154
  a70 := Tryz.isAgg154
  z70 := Tryz.sizeOf154
  v70 := Tryz.zeroValue154
  t76 := Tryz.underlying156
  a76 := Tryz.isAgg156
  z76 := Tryz.sizeOf156
  v76 := Tryz.zeroValue156
  t77 := Tryz.underlying157
  a77 := Tryz.isAgg157
  z77 := Tryz.sizeOf157
  v77 := Tryz.zeroValue157 }
def Tryz.cmpI_ren : Go.Shelf.Ren := ⟨fun | 5 => 76 | 7 => 109 | n => n, fun | 22 => 3 | 3 => 3 | 4 => 4 | n => n, fun | n => n⟩
theorem Tryz.cmpI : Go.Proofs.SlLaysC2.n5 Tryz.prog Tryz.cmpI_ren := {
  mixed := by kernel_rfl
  f5 := ⟨Tryz.f76.name, by decide, Tryz.func76.trans (congrArg some (by kernel_rfl))⟩
  f7 := ⟨Tryz.f109.name, by decide, Tryz.func109.trans (congrArg some (by kernel_rfl))⟩
  t3 := Tryz.underlying3
  a3 := Tryz.isAgg3
  z3 := Tryz.sizeOf3
  v3 := Tryz.zeroValue3
  t4 := Tryz.underlying4
  a4 := Tryz.isAgg4
  z4 := Tryz.sizeOf4
  v4 := Tryz.zeroValue4
  t22 := Tryz.underlying3
  a22 := Tryz.isAgg3
  z22 := Tryz.sizeOf3
  v22 := Tryz.zeroValue3 }
def Tryz.bitsL_ren : Go.Shelf.Ren := ⟨fun | 125 => 100 | 128 => 121 | 129 => 122 | n => n, fun | 46 => 130 | 3 => 3 | 51 => 146 | 53 => 148 | 4 => 4 | 5 => 5 | 9 => 9 | n => n, fun | n => n⟩
theorem Tryz.bitsL : Go.Proofs.Lays.n125 Tryz.prog Tryz.bitsL_ren := {
  mixed := by kernel_rfl
  f125 := Tryz.func100.trans (congrArg some (by kernel_rfl))
  f128 := Tryz.func121.trans (congrArg some (by kernel_rfl))
  f129 := Tryz.func122.trans (congrArg some (by kernel_rfl))
  t3 := Tryz.underlying3
  a3 := Tryz.isAgg3
  z3 := Tryz.sizeOf3
  v3 := Tryz.zeroValue3
  t4 := Tryz.underlying4
  a4 := Tryz.isAgg4
  z4 := Tryz.sizeOf4
  v4 := Tryz.zeroValue4
  t5 := Tryz.underlying5
  a5 := Tryz.isAgg5
  z5 := Tryz.sizeOf5
  v5 := Tryz.zeroValue5
  t9 := Tryz.underlying9
  a9 := Tryz.isAgg9
  z9 := Tryz.sizeOf9
  v9 := Tryz.zeroValue9
  t46 := Tryz.underlying130
  a46 := Tryz.isAgg130
  z46 := Tryz.sizeOf130
  v46 := Tryz.zeroValue130
  t51 := Tryz.underlying146
  a51 := Tryz.isAgg146
  z51 := Tryz.sizeOf146
  v51 := Tryz.zeroValue146
  t53 := Tryz.underlying148
  a53 := Tryz.isAgg148
  z53 := Tryz.sizeOf148
  v53 := Tryz.zeroValue148 }
end Go.Proofs
namespace Go.Proofs.YtenlapppaimkkabGreatDoor
section
open Go.ChangeShapes Go.WideShapes Go.ChangeAt Go.RowKit Go.Shelf Go.Sort
def encK (x : Ent) : List Value := [I x.1, I x.2.1, I x.2.2]
def cfE (x y : Ent) : Int := Lib.compareInt x.1 y.1

theorem byPlace_any (x y : Ent) (W : World) : Calls Tryz.prog 27 #[.agg #[I x.1, I x.2.1, I x.2.2], .agg #[I y.1, I y.2.1, I y.2.2]] W fun e w' => e = .returned (.int .i64 (cfE x y)) ∧ ∃ q os', w' = grow (W.drewN q) os' := by
  have hcon := fun W' => AnyG.cmp_Compare_int Tryz.cmpI x.1 y.1 W'
  change ∀ W', Calls Tryz.prog 76 _ _ _ at hcon
  unfold cfE
  generalize Lib.compareInt x.1 y.1 = r at hcon ⊢
  go_enter Tryz.func27, Tryz.ntmps27
  go_wp2_with (go_at_call 76; refine (hcon _).mono ?_; rintro e w' ⟨rfl, rfl⟩)
  go_ret
  exact ⟨rfl, 0, _, by rw [alloc_eq_grow, alloc_eq_grow, grow_grow]; rfl⟩
theorem hlen12 (n : Nat) (W : World) (h : n ≤ 12) : Calls Tryz.prog 100 #[.int .u64 n] W fun e w' => (∃ l : Int, e = .returned (.int .i64 l)) ∧ w' = W :=
  (Any.bits_Len Tryz.bitsL n W (by omega) (by omega)).mono fun _ _ ⟨he, hw⟩ => ⟨⟨_, he⟩, hw⟩

def sortL (L : List Ent) : List Ent := (Sort.insertionSort (ltOf cfE) L.toArray 0 L.length).toList
theorem ltE (x y : Ent) : ltOf cfE x y = decide (x.1 < y.1) := by
  unfold ltOf cfE Lib.compareInt
  by_cases h1 : x.1 < y.1
  · simp [h1]
  · by_cases h2 : y.1 < x.1 <;> simp [h1, h2]
theorem swoE : SWO (ltOf cfE) where
  irrefl x := by rw [ltE]; simp
  trans x y z h1 h2 := by rw [ltE] at *; simp at *; omega
  ntrans x y z h1 h2 := by rw [ltE] at *; simp at *; omega
theorem sortL_holds (L : List Ent) : PermIn 0 L.toArray.size L.toArray (Sort.insertionSort (ltOf cfE) L.toArray 0 L.length) ∧ SortedIn (ltOf cfE) 0 L.toArray.size (Sort.insertionSort (ltOf cfE) L.toArray 0 L.length) := by
  have h := insertionSort_holds (lt := ltOf cfE) swoE L.toArray 0 L.toArray.size (Nat.zero_le _) (Nat.le_refl _)
  simpa using h
theorem sortL_perm (L : List Ent) : (sortL L).Perm L := by
  have h := (sortL_holds L).1
  have h1 := h.1
  have h2 := h.2.2
  unfold sortL
  rw [Array.extract_eq_self_of_le (by omega), Array.extract_eq_self_of_le (Nat.le_refl _)] at h2
  simpa using h2
theorem sortL_len (L : List Ent) : (sortL L).length = L.length := (sortL_perm L).length_eq

theorem getD_flatE : ∀ (L : List Ent) (i : Nat), i < L.length → ∀ c, c < 3 → (flatE L).getD (i * 3 + c) 0 = ([(L.getD i (0, 0, 0)).1, (L.getD i (0, 0, 0)).2.1, (L.getD i (0, 0, 0)).2.2] : List Int).getD c 0
  | [], i, h, _, _ => by simp at h
  | x :: t, 0, _, c, hc => by
    rcases c with _ | _ | _ | c
    · simp [flatE]
    · simp [flatE]
    · simp [flatE]
    · omega
  | x :: t, i + 1, h, c, hc => by
    have e := getD_flatE t i (by simpa using h) c hc
    rw [show (i + 1) * 3 + c = i * 3 + c + 1 + 1 + 1 by omega]
    simpa [flatE] using e
theorem flatK_get (L : List Ent) (j : Nat) (hj : j < L.length * 3) : (flatK encK 3 L.toArray)[j]! = I ((flatE L).getD j 0) := by
  rw [get_flatK _ _ _ _ (by simpa using hj)]
  have hi : j / 3 < L.length := by omega
  have e := getD_flatE L (j / 3) hi (j % 3) (by omega)
  rw [show j / 3 * 3 + j % 3 = j by omega] at e
  rw [e]
  have e1 : L.toArray[j / 3]! = L.getD (j / 3) (0, 0, 0) := by
    rw [getElem!_pos _ _ (by simpa using hi), List.getD_eq_getElem?_getD, List.getElem?_eq_getElem hi]; simp
  rw [e1]
  have hm : j % 3 = 0 ∨ j % 3 = 1 ∨ j % 3 = 2 := by omega
  rcases hm with hm | hm | hm <;> rw [hm] <;> rfl

theorem sortE_any (base g cap : Nat) (L : List Ent) (w : World) (h : w.ownsRow base 47 3 (.slice (some ⟨g, 0, none⟩) L.length cap) L.length ((flatE L).map I)) (hL : L.length ≤ 12) :
    Calls Tryz.prog 72 #[.slice (some ⟨g, 0, none⟩) L.length cap, .func (.func 27) #[] #[]] w fun e w' => e = .returned (.tuple #[]) ∧ EntAt w' (some ⟨g, 0, none⟩) L.length (flatE (sortL L)) ∧ Below g w w' := by
  have hg : g < w.heap.size := (h.lt g rfl).2
  have hH : HoldsK encK 3 w g 0 L.toArray := by
    intro j hj
    rw [size_flatK] at hj
    have hj' : j < L.length * 3 := by simpa using hj
    rw [flatK_get L j hj', Nat.zero_add]
    refine ⟨?_, h.frozenAt j⟩
    rw [h.cellAt j hj', List.getElem?_map, List.getElem?_eq_getElem (by rw [flatE_len]; exact hj')]
    simp [List.getD, show j < (flatE L).length by rw [flatE_len]; exact hj']
  have eg : ∀ args w, (callFunc 27 args).run Tryz.prog w = .ok (.enter 27 args) w := enters_of Tryz.func27 (by kernel_rfl) rfl
  have hcon := AnyQ.slices_SortFunc_small Tryz.sortE 3 Tryz.isAgg47 Tryz.sizeOf47 encK (fun _ => rfl) (fun x v hv => by simp [encK] at hv; rcases hv with rfl | rfl | rfl <;> rfl) cfE 27 #[] g 0 cap L.toArray w eg (fun _ _ _ _ x y => byPlace_any x y _) hH hg (by simpa using hL) hlen12
  change Calls Tryz.prog 72 _ _ _ at hcon
  rw [show L.toArray.size = L.length by simp] at hcon
  refine hcon.mono ?_
  rintro e w' ⟨rfl, n, os, rfl⟩
  have hsz : (Sort.insertionSort (ltOf cfE) L.toArray 0 L.length).size = L.toArray.size := (sortL_holds L).1.1
  have hK := holdsK_sortWorldK_c encK 3 w g 0 L.toArray (Sort.insertionSort (ltOf cfE) L.toArray 0 L.length) n os hH hg hsz
  refine ⟨rfl, ⟨by rw [flatE_len, sortL_len], by omega, .inr ⟨g, 0, rfl, fun i hi => ?_⟩⟩, ⟨rfl, rfl, rfl, size_sortWorldK_c encK 3 w g 0 n _ os, fun k hk => ?_⟩⟩
  · have e := (hK i (by rw [size_flatK, hsz]; simpa using hi)).1
    rw [e]
    have e2 : Sort.insertionSort (ltOf cfE) L.toArray 0 L.length = (sortL L).toArray := by unfold sortL; simp
    rw [e2]
    exact congrArg some (flatK_get (sortL L) i (by rw [sortL_len]; exact hi))
  · unfold sortWorldK
    rw [heap_grow_old _ _ (by simp [putRowK, putRow, mapBlock]; exact Nat.lt_trans hk hg)]
    simp only [putRowK, putRow, mapBlock, Array.getElem?_modify]
    rw [if_neg (by omega)]
    rfl
end
end Go.Proofs.YtenlapppaimkkabGreatDoor
