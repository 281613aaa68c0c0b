/- What a teller tells, step by step (no program). -/
import Derived.Test.YtekafaoleniebapDoorRangeGo
import Derived.Test.YtekafaoleniebapDoorNextM
namespace Go.Proofs.YtekafaoleniebapDoor
open Go.ChangeShapes Go.WideShapes Go.ChangeAt Go.RowKit

/-- A word that is told: its place, what was read there, what it becomes. -/
abbrev Ent := Int × Int × Int
def rd (fs : List Int) (n : Nat) (at_ : Int) : Int := if at_ < 0 then 0 else (readF fs at_ n).1
/-- A step: a word is told, if it has a place; or it is asked whether to go on. -/
inductive Stp where
  | tell (at_ old new : Int)
  | ask (b : Bool)
/-- What is told when nobody stops it; wh: what has no place is passed by, it does not end it. -/
def wordsT (wh : Bool) : List Stp → List Ent
  | [] => []
  | .tell p o v :: t => if 0 ≤ p then (p, o, v) :: wordsT wh t else if wh = true then wordsT wh t else []
  | .ask b :: t => if b = true then wordsT wh t else []
/-- How it ends: what it answers, and what holds then. -/
def Fin (wh : Bool) (go : Ent → Bool) (n₀ : Nat) (ts : List TypeId) (J Jx : List Ent → World → Prop) (W : World) : List Stp → List Ent → Bool → World → Prop
  | [], pre, b, W' => b = true ∧ J pre W' ∧ Kp n₀ ts W W'
  | .tell p o v :: t, pre, b, W' => if 0 ≤ p then (if go (p, o, v) = true then Fin wh go n₀ ts J Jx W t (pre ++ [(p, o, v)]) b W' else b = false ∧ Jx (pre ++ [(p, o, v)]) W' ∧ Kx ts W W')
      else if wh = true then Fin wh go n₀ ts J Jx W t pre b W' else b = false ∧ J pre W' ∧ Kp n₀ ts W W'
  | .ask c :: t, pre, b, W' => if c = true then Fin wh go n₀ ts J Jx W t pre b W' else b = false ∧ J pre W' ∧ Kp n₀ ts W W'
section
variable {wh : Bool} {go : Ent → Bool} {n₀ : Nat} {ts : List TypeId} {J Jx : List Ent → World → Prop}
theorem Fin.kp {W W1 W' : World} (hk : Kp n₀ ts W W1) : ∀ {st : List Stp} {pre : List Ent} {b : Bool}, Fin wh go n₀ ts J Jx W1 st pre b W' → Fin wh go n₀ ts J Jx W st pre b W'
  | [], _, _, ⟨h1, h2, h3⟩ => ⟨h1, h2, hk.trans h3⟩
  | .tell p o v :: t, pre, b, h => by
    unfold Fin at h ⊢
    by_cases hp : 0 ≤ p
    · rw [if_pos hp] at h ⊢
      by_cases hg : go (p, o, v) = true
      · rw [if_pos hg] at h ⊢; exact Fin.kp hk h
      · rw [if_neg hg] at h ⊢; exact ⟨h.1, h.2.1, hk.kx.trans h.2.2⟩
    · rw [if_neg hp] at h ⊢
      by_cases hw : wh = true
      · rw [if_pos hw] at h ⊢; exact Fin.kp hk h
      · rw [if_neg hw] at h ⊢; exact ⟨h.1, h.2.1, hk.trans h.2.2⟩
  | .ask c :: t, pre, b, h => by
    unfold Fin at h ⊢
    by_cases hp : c = true
    · rw [if_pos hp] at h ⊢; exact Fin.kp hk h
    · rw [if_neg hp] at h ⊢; exact ⟨h.1, h.2.1, hk.trans h.2.2⟩
theorem fin_all {W W' : World} : ∀ {st : List Stp} {pre : List Ent} {b : Bool}, Fin wh go n₀ ts J Jx W st pre b W' → (∀ x ∈ wordsT wh st, go x = true) → J (pre ++ wordsT wh st) W'
  | [], pre, _, ⟨_, h2, _⟩, _ => by simpa [wordsT] using h2
  | .tell p o v :: t, pre, b, h, ha => by
    unfold Fin at h
    unfold wordsT at ha ⊢
    by_cases hp : 0 ≤ p
    · rw [if_pos hp] at h ha ⊢
      rw [if_pos (ha _ (List.mem_cons_self ..))] at h
      have := fin_all h (fun x hx => ha x (List.mem_cons_of_mem _ hx))
      simpa using this
    · rw [if_neg hp] at h ha ⊢
      by_cases hw : wh = true
      · rw [if_pos hw] at h ha ⊢; exact fin_all h ha
      · rw [if_neg hw] at h ha ⊢; simpa using h.2.1
  | .ask c :: t, pre, b, h, ha => by
    unfold Fin at h
    unfold wordsT at ha ⊢
    by_cases hp : c = true
    · rw [if_pos hp] at h ha ⊢; exact fin_all h ha
    · rw [if_neg hp] at h ha ⊢; simpa using h.2.1
theorem fin_some {W W' : World} {x : Ent} {rest : List Ent} (hx : go x = false) : ∀ {st : List Stp} {pre q : List Ent} {b : Bool}, Fin wh go n₀ ts J Jx W st pre b W' → wordsT wh st = q ++ x :: rest → (∀ y ∈ q, go y = true) → Jx (pre ++ (q ++ [x])) W'
  | [], pre, q, _, _, e, _ => by simp [wordsT] at e
  | .tell p o v :: t, pre, q, b, h, e, hq => by
    unfold Fin at h
    unfold wordsT at e
    by_cases hp : 0 ≤ p
    · rw [if_pos hp] at h e
      cases q with
      | nil =>
        simp only [List.nil_append, List.cons.injEq] at e
        rw [e.1, if_neg (by rw [hx]; simp)] at h
        exact h.2.1
      | cons y q =>
        simp only [List.cons_append, List.cons.injEq] at e
        rw [e.1, if_pos (hq _ (List.mem_cons_self ..))] at h
        have := fin_some hx h e.2 (fun z hz => hq z (List.mem_cons_of_mem _ hz))
        simpa using this
    · rw [if_neg hp] at h e
      by_cases hw : wh = true
      · rw [if_pos hw] at h e; exact fin_some hx h e hq
      · rw [if_neg hw] at e; simp at e
  | .ask c :: t, pre, q, b, h, e, hq => by
    unfold Fin at h
    unfold wordsT at e
    by_cases hp : c = true
    · rw [if_pos hp] at h e; exact fin_some hx h e hq
    · rw [if_neg hp] at e; simp at e
theorem Fin.kx {W W' : World} : ∀ {st : List Stp} {pre : List Ent} {b : Bool}, Fin wh go n₀ ts J Jx W st pre b W' → Kx ts W W'
  | [], _, _, ⟨_, _, h3⟩ => h3.kx
  | .tell p o v :: t, pre, b, h => by
    unfold Fin at h
    by_cases hp : 0 ≤ p
    · rw [if_pos hp] at h
      by_cases hg : go (p, o, v) = true
      · rw [if_pos hg] at h; exact Fin.kx h
      · rw [if_neg hg] at h; exact h.2.2
    · rw [if_neg hp] at h
      by_cases hw : wh = true
      · rw [if_pos hw] at h; exact Fin.kx h
      · rw [if_neg hw] at h; exact h.2.2.kx
  | .ask c :: t, pre, b, h => by
    unfold Fin at h
    by_cases hp : c = true
    · rw [if_pos hp] at h; exact Fin.kx h
    · rw [if_neg hp] at h; exact h.2.2.kx
theorem Fin.askYes {W W' : World} {c : Bool} {pre : List Ent} {t : List Stp} {b : Bool} (hc : c = true) (h : Fin wh go n₀ ts J Jx W t pre b W') : Fin wh go n₀ ts J Jx W (.ask c :: t) pre b W' := by
  unfold Fin
  rw [if_pos hc]; exact h
theorem Fin.askNo {W W' : World} {c : Bool} {pre : List Ent} {t : List Stp} (hc : c = false) (hj : J pre W') (hk : Kp n₀ ts W W') : Fin wh go n₀ ts J Jx W (.ask c :: t) pre false W' := by
  unfold Fin
  rw [if_neg (by rw [hc]; simp)]; exact ⟨rfl, hj, hk⟩
/-- Several steps that have answered yes. -/
theorem Fin.passed {W W' : World} : ∀ {A : List Stp} {pre : List Ent}, Fin wh go n₀ ts J Jx W A pre true W' →
    J (pre ++ wordsT wh A) W' ∧ Kp n₀ ts W W' ∧ ∀ (B : List Stp) (b : Bool) (W'' : World), Fin wh go n₀ ts J Jx W B (pre ++ wordsT wh A) b W'' → Fin wh go n₀ ts J Jx W (A ++ B) pre b W''
  | [], pre, ⟨_, h2, h3⟩ => ⟨by simpa [wordsT] using h2, h3, fun B b W'' h => by simpa [wordsT] using h⟩
  | .tell p o v :: t, pre, h => by
    unfold Fin at h
    by_cases hp : 0 ≤ p
    · rw [if_pos hp] at h
      by_cases hg : go (p, o, v) = true
      · rw [if_pos hg] at h
        obtain ⟨h1, h2, h3⟩ := Fin.passed h
        have e : pre ++ wordsT wh (.tell p o v :: t) = (pre ++ [(p, o, v)]) ++ wordsT wh t := by
          rw [show wordsT wh (.tell p o v :: t) = (p, o, v) :: wordsT wh t by rw [wordsT, if_pos hp]]; simp
        rw [e]
        refine ⟨h1, h2, fun B b W'' h' => ?_⟩
        show Fin wh go n₀ ts J Jx W (.tell p o v :: (t ++ B)) pre b W''
        unfold Fin
        rw [if_pos hp, if_pos hg]
        exact h3 B b W'' h'
      · rw [if_neg hg] at h; exact absurd h.1 (by simp)
    · rw [if_neg hp] at h
      by_cases hw : wh = true
      · rw [if_pos hw] at h
        obtain ⟨h1, h2, h3⟩ := Fin.passed h
        have e : wordsT wh (.tell p o v :: t) = wordsT wh t := by rw [wordsT, if_neg hp, if_pos hw]
        rw [e]
        refine ⟨h1, h2, fun B b W'' h' => ?_⟩
        show Fin wh go n₀ ts J Jx W (.tell p o v :: (t ++ B)) pre b W''
        unfold Fin
        rw [if_neg hp, if_pos hw]
        exact h3 B b W'' h'
      · rw [if_neg hw] at h; exact absurd h.1 (by simp)
  | .ask c :: t, pre, h => by
    unfold Fin at h
    by_cases hp : c = true
    · rw [if_pos hp] at h
      obtain ⟨h1, h2, h3⟩ := Fin.passed h
      have e : wordsT wh (.ask c :: t) = wordsT wh t := by rw [wordsT, if_pos hp]
      rw [e]
      exact ⟨h1, h2, fun B b W'' h' => Fin.askYes hp (h3 B b W'' h')⟩
    · rw [if_neg hp] at h; exact absurd h.1 (by simp)
/-- One step that has answered yes. -/
theorem Fin.stepped {W W' : World} {s : Stp} {pre : List Ent} (h : Fin wh go n₀ ts J Jx W [s] pre true W') :
    J (pre ++ wordsT wh [s]) W' ∧ Kp n₀ ts W W' ∧ ∀ (t : List Stp) (b : Bool) (W'' : World), Fin wh go n₀ ts J Jx W t (pre ++ wordsT wh [s]) b W'' → Fin wh go n₀ ts J Jx W (s :: t) pre b W'' :=
  ⟨(Fin.passed h).1, (Fin.passed h).2.1, fun t b W'' h' => (Fin.passed h).2.2 t b W'' h'⟩
theorem Fin.noL {W W' : World} : ∀ {A : List Stp} {pre : List Ent} (_ : Fin wh go n₀ ts J Jx W A pre false W') (B : List Stp), Fin wh go n₀ ts J Jx W (A ++ B) pre false W'
  | [], _, h, _ => absurd h.1 (by simp)
  | .tell p o v :: t, pre, h, B => by
    unfold Fin at h
    show Fin wh go n₀ ts J Jx W (.tell p o v :: (t ++ B)) pre false W'
    unfold Fin
    by_cases hp : 0 ≤ p
    · rw [if_pos hp] at h ⊢
      by_cases hg : go (p, o, v) = true
      · rw [if_pos hg] at h ⊢; exact Fin.noL h B
      · rw [if_neg hg] at h ⊢; exact h
    · rw [if_neg hp] at h ⊢
      by_cases hw : wh = true
      · rw [if_pos hw] at h ⊢; exact Fin.noL h B
      · rw [if_neg hw] at h ⊢; exact h
  | .ask c :: t, pre, h, B => by
    unfold Fin at h
    show Fin wh go n₀ ts J Jx W (.ask c :: (t ++ B)) pre false W'
    unfold Fin
    by_cases hp : c = true
    · rw [if_pos hp] at h ⊢; exact Fin.noL h B
    · rw [if_neg hp] at h ⊢; exact h
/-- What does not go on at its first step does not go on. -/
theorem Fin.no {W W' : World} {s : Stp} {pre : List Ent} (h : Fin wh go n₀ ts J Jx W [s] pre false W') (t : List Stp) : Fin wh go n₀ ts J Jx W (s :: t) pre false W' := Fin.noL h t
end

/-- How many are told at most. -/
theorem wordsT_len (wh : Bool) : ∀ st : List Stp, (wordsT wh st).length ≤ st.length
  | [] => Nat.le_refl _
  | .tell p o v :: t => by
    have h := wordsT_len wh t
    unfold wordsT
    repeat' split
    all_goals simp only [List.length_cons, List.length_nil]
    all_goals omega
  | .ask b :: t => by
    have h := wordsT_len wh t
    unfold wordsT
    repeat' split
    all_goals simp only [List.length_cons, List.length_nil]
    all_goals omega
theorem len1 {wh : Bool} {pre : List Ent} {s : Stp} {m : Nat} (h : pre.length ≤ m) : (pre ++ wordsT wh [s]).length ≤ m + 1 := by
  have h1 := wordsT_len wh [s]
  simp only [List.length_append, List.length_cons, List.length_nil] at h1 ⊢; omega
theorem lenA {wh : Bool} {pre : List Ent} {A : List Stp} {m a : Nat} (ha : A.length ≤ a) (h : pre.length ≤ m) : (pre ++ wordsT wh A).length ≤ m + a := by
  have h1 := wordsT_len wh A
  simp only [List.length_append] at h1 ⊢; omega
theorem lenLt {pre : List Ent} {m : Nat} (h : pre.length ≤ m) (hm : m < 100) : pre.length < 100 := Nat.lt_of_le_of_lt h hm
/-- The steps of each op. -/
def stayS (fs : List Int) (n : Nat) (p : Int) : Stp := .tell p (rd fs n p) (rd fs n p)
def growS (fs : List Int) (n : Nat) (p : Int) : Stp := .tell p (rd fs n p) (wrap64 (rd fs n p + 1))
def shrinkS (fs : List Int) (n : Nat) (p : Int) : Stp := .tell p (rd fs n p) (wrap64 ((if rd fs n p < 1 then 1 else rd fs n p) - 1))
def becS (fs : List Int) (n : Nat) (p v : Int) : Stp := .tell p (rd fs n p) v
def putS (wh : Bool) (fs : List Int) (n : Nat) (k v : Int) : List Stp :=
  [becS fs n (placeN 1 k) v, .ask (decide (rd fs n (placeN 1 k) = 0)), becS fs n (placeN 2 v) (k + 1), .ask (decide (rd fs n (placeN 2 v) = 0)), growS fs n (placeN 3 (classN v)), stayS fs n 13, .ask (wh || decide (k + 1 < rd fs n 13)), becS fs n (placeN 5 v) (k + 1)]
def moveS (fs : List Int) (n : Nat) (x y : Int) : List Stp := if x = y then [] else [shrinkS fs n (placeN 3 x), growS fs n (placeN 3 y)]
def setS (wh : Bool) (fs : List Int) (n : Nat) (k v : Int) : List Stp :=
  let h := rd fs n (placeN 1 k)
  [becS fs n (placeN 1 k) v, .ask (decide (h ≠ 0)), .ask (decide (h ≠ v)), becS fs n (placeN 2 v) (k + 1), .ask (decide (rd fs n (placeN 2 v) = 0)), becS fs n (placeN 2 h) 0] ++ moveS fs n (classN h) (classN v) ++
    [stayS fs n 13, .ask (wh || decide (k + 1 < rd fs n 13)), becS fs n (placeN 5 h) 0, becS fs n (placeN 5 v) (k + 1)]
def delS (wh : Bool) (fs : List Int) (n : Nat) (k : Int) : List Stp :=
  let h := rd fs n (placeN 1 k)
  [becS fs n (placeN 1 k) 0, becS fs n (placeN 2 h) 0, shrinkS fs n (placeN 3 (classN h)), stayS fs n 13, .ask (wh || decide (k + 1 < rd fs n 13)), becS fs n (placeN 5 h) 0]
def scanS (fs : List Int) (n : Nat) : List Stp := [stayS fs n (placeN 1 0), stayS fs n (placeN 1 1), stayS fs n (placeN 1 2), stayS fs n (placeN 1 3)]
def makeS (fs : List Int) (n : Nat) : List Stp :=
  let k := wrap64 (rd fs n 13 - 1)
  [growS fs n 13, stayS fs n (placeN 1 k), becS fs n (placeN 5 (rd fs n (placeN 1 k))) (wrap64 (k + 1))]
def viaS (fs : List Int) (n : Nat) (v : Int) : List Stp := [stayS fs n 13, .ask (decide (rd fs n 13 = 5)), stayS fs n (placeN 5 v)]
def stepsT (wh : Bool) (fs : List Int) (n : Nat) (kind k v : Int) : List Stp :=
  if kind = 1 then putS wh fs n k v else if kind = 2 then setS wh fs n k v else if kind = 3 then delS wh fs n k else if kind = 4 then [stayS fs n (placeN 1 k)] else if kind = 5 then [stayS fs n (placeN 2 v)]
  else if kind = 6 then [stayS fs n (placeN 3 k)] else if kind = 7 then scanS fs n else if kind = 8 then [growS fs n 13] else if kind = 9 then makeS fs n else viaS fs n v
theorem move_len (fs : List Int) (n : Nat) (x y : Int) : (moveS fs n x y).length ≤ 2 := by
  unfold moveS
  split <;> simp
end Go.Proofs.YtekafaoleniebapDoor
