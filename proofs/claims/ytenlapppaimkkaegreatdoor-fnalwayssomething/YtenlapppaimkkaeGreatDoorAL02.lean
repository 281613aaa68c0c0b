/- Texts joined: TellM, ImplRead, RowAt, OwnerAt, StateAt, ViaAt, Known, RegTail, Tell, Tell2, CountAt. -/
import Derived.Test.YtenlapppaimkkaeGreatDoorAL01
import Derived.RangeFuncNested
import Derived.RangeFuncBox
import Derived.RangeFuncLeaves
import Derived.Shelf.Abstract
import Derived.WalkKit
import Derived.OwnWalkIn
import Derived.TacticsInMore
import Derived.LoopNIn
import Derived.LoopIn
import Derived.ProofKit
import Derived.Deep.RegionHeld3
import Derived.Stop.RegionWithIn
import Derived.BigRegion
/- What a teller tells, step by step (no program). -/
namespace Go.Proofs.YtenlapppaimkkaeGreatDoor
open Go.ChangeShapes Go.WideShapes Go.ChangeAt Go.RowKit

/-- A word that is told: its place, what was read there, what it becomes. -/
abbrev Ent := Int × Int × Int
def rd (fs : List Int) (n : Nat) (at_ : Int) : Int := if at_ < 0 then 0 else (readF fs at_ n).1
/-- A step: a word is told, if it has a place; or it is asked whether to go on. -/
inductive Stp where
  | tell (at_ old new : Int)
  | ask (b : Bool)
/-- What is told when nobody stops it; wh: what has no place is passed by, it does not end it. -/
def wordsT (wh : Bool) : List Stp → List Ent
  | [] => []
  | .tell p o v :: t => if 0 ≤ p then (p, o, v) :: wordsT wh t else if wh = true then wordsT wh t else []
  | .ask b :: t => if b = true then wordsT wh t else []
/-- How it ends: what it answers, and what holds then. -/
def Fin (wh : Bool) (go : Ent → Bool) (n₀ : Nat) (ts : List TypeId) (J Jx : List Ent → World → Prop) (W : World) : List Stp → List Ent → Bool → World → Prop
  | [], pre, b, W' => b = true ∧ J pre W' ∧ Kp n₀ ts W W'
  | .tell p o v :: t, pre, b, W' => if 0 ≤ p then (if go (p, o, v) = true then Fin wh go n₀ ts J Jx W t (pre ++ [(p, o, v)]) b W' else b = false ∧ Jx (pre ++ [(p, o, v)]) W' ∧ Kx ts W W')
      else if wh = true then Fin wh go n₀ ts J Jx W t pre b W' else b = false ∧ J pre W' ∧ Kp n₀ ts W W'
  | .ask c :: t, pre, b, W' => if c = true then Fin wh go n₀ ts J Jx W t pre b W' else b = false ∧ J pre W' ∧ Kp n₀ ts W W'
section
variable {wh : Bool} {go : Ent → Bool} {n₀ : Nat} {ts : List TypeId} {J Jx : List Ent → World → Prop}
theorem Fin.kp {W W1 W' : World} (hk : Kp n₀ ts W W1) : ∀ {st : List Stp} {pre : List Ent} {b : Bool}, Fin wh go n₀ ts J Jx W1 st pre b W' → Fin wh go n₀ ts J Jx W st pre b W'
  | [], _, _, ⟨h1, h2, h3⟩ => ⟨h1, h2, hk.trans h3⟩
  | .tell p o v :: t, pre, b, h => by
    unfold Fin at h ⊢
    by_cases hp : 0 ≤ p
    · rw [if_pos hp] at h ⊢
      by_cases hg : go (p, o, v) = true
      · rw [if_pos hg] at h ⊢; exact Fin.kp hk h
      · rw [if_neg hg] at h ⊢; exact ⟨h.1, h.2.1, hk.kx.trans h.2.2⟩
    · rw [if_neg hp] at h ⊢
      by_cases hw : wh = true
      · rw [if_pos hw] at h ⊢; exact Fin.kp hk h
      · rw [if_neg hw] at h ⊢; exact ⟨h.1, h.2.1, hk.trans h.2.2⟩
  | .ask c :: t, pre, b, h => by
    unfold Fin at h ⊢
    by_cases hp : c = true
    · rw [if_pos hp] at h ⊢; exact Fin.kp hk h
    · rw [if_neg hp] at h ⊢; exact ⟨h.1, h.2.1, hk.trans h.2.2⟩
theorem fin_all {W W' : World} : ∀ {st : List Stp} {pre : List Ent} {b : Bool}, Fin wh go n₀ ts J Jx W st pre b W' → (∀ x ∈ wordsT wh st, go x = true) → J (pre ++ wordsT wh st) W'
  | [], pre, _, ⟨_, h2, _⟩, _ => by simpa [wordsT] using h2
  | .tell p o v :: t, pre, b, h, ha => by
    unfold Fin at h
    unfold wordsT at ha ⊢
    by_cases hp : 0 ≤ p
    · rw [if_pos hp] at h ha ⊢
      rw [if_pos (ha _ (List.mem_cons_self ..))] at h
      have := fin_all h (fun x hx => ha x (List.mem_cons_of_mem _ hx))
      simpa using this
    · rw [if_neg hp] at h ha ⊢
      by_cases hw : wh = true
      · rw [if_pos hw] at h ha ⊢; exact fin_all h ha
      · rw [if_neg hw] at h ha ⊢; simpa using h.2.1
  | .ask c :: t, pre, b, h, ha => by
    unfold Fin at h
    unfold wordsT at ha ⊢
    by_cases hp : c = true
    · rw [if_pos hp] at h ha ⊢; exact fin_all h ha
    · rw [if_neg hp] at h ha ⊢; simpa using h.2.1
theorem fin_some {W W' : World} {x : Ent} {rest : List Ent} (hx : go x = false) : ∀ {st : List Stp} {pre q : List Ent} {b : Bool}, Fin wh go n₀ ts J Jx W st pre b W' → wordsT wh st = q ++ x :: rest → (∀ y ∈ q, go y = true) → Jx (pre ++ (q ++ [x])) W'
  | [], pre, q, _, _, e, _ => by simp [wordsT] at e
  | .tell p o v :: t, pre, q, b, h, e, hq => by
    unfold Fin at h
    unfold wordsT at e
    by_cases hp : 0 ≤ p
    · rw [if_pos hp] at h e
      cases q with
      | nil =>
        simp only [List.nil_append, List.cons.injEq] at e
        rw [e.1, if_neg (by rw [hx]; simp)] at h
        exact h.2.1
      | cons y q =>
        simp only [List.cons_append, List.cons.injEq] at e
        rw [e.1, if_pos (hq _ (List.mem_cons_self ..))] at h
        have := fin_some hx h e.2 (fun z hz => hq z (List.mem_cons_of_mem _ hz))
        simpa using this
    · rw [if_neg hp] at h e
      by_cases hw : wh = true
      · rw [if_pos hw] at h e; exact fin_some hx h e hq
      · rw [if_neg hw] at e; simp at e
  | .ask c :: t, pre, q, b, h, e, hq => by
    unfold Fin at h
    unfold wordsT at e
    by_cases hp : c = true
    · rw [if_pos hp] at h e; exact fin_some hx h e hq
    · rw [if_neg hp] at e; simp at e
theorem Fin.kx {W W' : World} : ∀ {st : List Stp} {pre : List Ent} {b : Bool}, Fin wh go n₀ ts J Jx W st pre b W' → Kx ts W W'
  | [], _, _, ⟨_, _, h3⟩ => h3.kx
  | .tell p o v :: t, pre, b, h => by
    unfold Fin at h
    by_cases hp : 0 ≤ p
    · rw [if_pos hp] at h
      by_cases hg : go (p, o, v) = true
      · rw [if_pos hg] at h; exact Fin.kx h
      · rw [if_neg hg] at h; exact h.2.2
    · rw [if_neg hp] at h
      by_cases hw : wh = true
      · rw [if_pos hw] at h; exact Fin.kx h
      · rw [if_neg hw] at h; exact h.2.2.kx
  | .ask c :: t, pre, b, h => by
    unfold Fin at h
    by_cases hp : c = true
    · rw [if_pos hp] at h; exact Fin.kx h
    · rw [if_neg hp] at h; exact h.2.2.kx
theorem Fin.askYes {W W' : World} {c : Bool} {pre : List Ent} {t : List Stp} {b : Bool} (hc : c = true) (h : Fin wh go n₀ ts J Jx W t pre b W') : Fin wh go n₀ ts J Jx W (.ask c :: t) pre b W' := by
  unfold Fin
  rw [if_pos hc]; exact h
theorem Fin.askNo {W W' : World} {c : Bool} {pre : List Ent} {t : List Stp} (hc : c = false) (hj : J pre W') (hk : Kp n₀ ts W W') : Fin wh go n₀ ts J Jx W (.ask c :: t) pre false W' := by
  unfold Fin
  rw [if_neg (by rw [hc]; simp)]; exact ⟨rfl, hj, hk⟩
/-- Several steps that have answered yes. -/
theorem Fin.passed {W W' : World} : ∀ {A : List Stp} {pre : List Ent}, Fin wh go n₀ ts J Jx W A pre true W' →
    J (pre ++ wordsT wh A) W' ∧ Kp n₀ ts W W' ∧ ∀ (B : List Stp) (b : Bool) (W'' : World), Fin wh go n₀ ts J Jx W B (pre ++ wordsT wh A) b W'' → Fin wh go n₀ ts J Jx W (A ++ B) pre b W''
  | [], pre, ⟨_, h2, h3⟩ => ⟨by simpa [wordsT] using h2, h3, fun B b W'' h => by simpa [wordsT] using h⟩
  | .tell p o v :: t, pre, h => by
    unfold Fin at h
    by_cases hp : 0 ≤ p
    · rw [if_pos hp] at h
      by_cases hg : go (p, o, v) = true
      · rw [if_pos hg] at h
        obtain ⟨h1, h2, h3⟩ := Fin.passed h
        have e : pre ++ wordsT wh (.tell p o v :: t) = (pre ++ [(p, o, v)]) ++ wordsT wh t := by
          rw [show wordsT wh (.tell p o v :: t) = (p, o, v) :: wordsT wh t by rw [wordsT, if_pos hp]]; simp
        rw [e]
        refine ⟨h1, h2, fun B b W'' h' => ?_⟩
        show Fin wh go n₀ ts J Jx W (.tell p o v :: (t ++ B)) pre b W''
        unfold Fin
        rw [if_pos hp, if_pos hg]
        exact h3 B b W'' h'
      · rw [if_neg hg] at h; exact absurd h.1 (by simp)
    · rw [if_neg hp] at h
      by_cases hw : wh = true
      · rw [if_pos hw] at h
        obtain ⟨h1, h2, h3⟩ := Fin.passed h
        have e : wordsT wh (.tell p o v :: t) = wordsT wh t := by rw [wordsT, if_neg hp, if_pos hw]
        rw [e]
        refine ⟨h1, h2, fun B b W'' h' => ?_⟩
        show Fin wh go n₀ ts J Jx W (.tell p o v :: (t ++ B)) pre b W''
        unfold Fin
        rw [if_neg hp, if_pos hw]
        exact h3 B b W'' h'
      · rw [if_neg hw] at h; exact absurd h.1 (by simp)
  | .ask c :: t, pre, h => by
    unfold Fin at h
    by_cases hp : c = true
    · rw [if_pos hp] at h
      obtain ⟨h1, h2, h3⟩ := Fin.passed h
      have e : wordsT wh (.ask c :: t) = wordsT wh t := by rw [wordsT, if_pos hp]
      rw [e]
      exact ⟨h1, h2, fun B b W'' h' => Fin.askYes hp (h3 B b W'' h')⟩
    · rw [if_neg hp] at h; exact absurd h.1 (by simp)
/-- One step that has answered yes. -/
theorem Fin.stepped {W W' : World} {s : Stp} {pre : List Ent} (h : Fin wh go n₀ ts J Jx W [s] pre true W') :
    J (pre ++ wordsT wh [s]) W' ∧ Kp n₀ ts W W' ∧ ∀ (t : List Stp) (b : Bool) (W'' : World), Fin wh go n₀ ts J Jx W t (pre ++ wordsT wh [s]) b W'' → Fin wh go n₀ ts J Jx W (s :: t) pre b W'' :=
  ⟨(Fin.passed h).1, (Fin.passed h).2.1, fun t b W'' h' => (Fin.passed h).2.2 t b W'' h'⟩
theorem Fin.noL {W W' : World} : ∀ {A : List Stp} {pre : List Ent} (_ : Fin wh go n₀ ts J Jx W A pre false W') (B : List Stp), Fin wh go n₀ ts J Jx W (A ++ B) pre false W'
  | [], _, h, _ => absurd h.1 (by simp)
  | .tell p o v :: t, pre, h, B => by
    unfold Fin at h
    show Fin wh go n₀ ts J Jx W (.tell p o v :: (t ++ B)) pre false W'
    unfold Fin
    by_cases hp : 0 ≤ p
    · rw [if_pos hp] at h ⊢
      by_cases hg : go (p, o, v) = true
      · rw [if_pos hg] at h ⊢; exact Fin.noL h B
      · rw [if_neg hg] at h ⊢; exact h
    · rw [if_neg hp] at h ⊢
      by_cases hw : wh = true
      · rw [if_pos hw] at h ⊢; exact Fin.noL h B
      · rw [if_neg hw] at h ⊢; exact h
  | .ask c :: t, pre, h, B => by
    unfold Fin at h
    show Fin wh go n₀ ts J Jx W (.ask c :: (t ++ B)) pre false W'
    unfold Fin
    by_cases hp : c = true
    · rw [if_pos hp] at h ⊢; exact Fin.noL h B
    · rw [if_neg hp] at h ⊢; exact h
/-- What does not go on at its first step does not go on. -/
theorem Fin.no {W W' : World} {s : Stp} {pre : List Ent} (h : Fin wh go n₀ ts J Jx W [s] pre false W') (t : List Stp) : Fin wh go n₀ ts J Jx W (s :: t) pre false W' := Fin.noL h t
end

/-- How many are told at most. -/
theorem wordsT_len (wh : Bool) : ∀ st : List Stp, (wordsT wh st).length ≤ st.length
  | [] => Nat.le_refl _
  | .tell p o v :: t => by
    have h := wordsT_len wh t
    unfold wordsT
    repeat' split
    all_goals simp only [List.length_cons, List.length_nil]
    all_goals omega
  | .ask b :: t => by
    have h := wordsT_len wh t
    unfold wordsT
    repeat' split
    all_goals simp only [List.length_cons, List.length_nil]
    all_goals omega
theorem len1 {wh : Bool} {pre : List Ent} {s : Stp} {m : Nat} (h : pre.length ≤ m) : (pre ++ wordsT wh [s]).length ≤ m + 1 := by
  have h1 := wordsT_len wh [s]
  simp only [List.length_append, List.length_cons, List.length_nil] at h1 ⊢; omega
theorem lenA {wh : Bool} {pre : List Ent} {A : List Stp} {m a : Nat} (ha : A.length ≤ a) (h : pre.length ≤ m) : (pre ++ wordsT wh A).length ≤ m + a := by
  have h1 := wordsT_len wh A
  simp only [List.length_append] at h1 ⊢; omega
theorem lenLt {pre : List Ent} {m : Nat} (h : pre.length ≤ m) (hm : m < 100) : pre.length < 100 := Nat.lt_of_le_of_lt h hm
/-- The steps of each op. -/
def stayS (fs : List Int) (n : Nat) (p : Int) : Stp := .tell p (rd fs n p) (rd fs n p)
def growS (fs : List Int) (n : Nat) (p : Int) : Stp := .tell p (rd fs n p) (wrap64 (rd fs n p + 1))
def shrinkS (fs : List Int) (n : Nat) (p : Int) : Stp := .tell p (rd fs n p) (wrap64 ((if rd fs n p < 1 then 1 else rd fs n p) - 1))
def becS (fs : List Int) (n : Nat) (p v : Int) : Stp := .tell p (rd fs n p) v
def putS (wh : Bool) (fs : List Int) (n : Nat) (k v : Int) : List Stp :=
  [becS fs n (placeN 1 k) v, .ask (decide (rd fs n (placeN 1 k) = 0)), becS fs n (placeN 2 v) (k + 1), .ask (decide (rd fs n (placeN 2 v) = 0)), growS fs n (placeN 3 (classN v)), stayS fs n 13, .ask (wh || decide (k + 1 < rd fs n 13)), becS fs n (placeN 5 v) (k + 1)]
def moveS (fs : List Int) (n : Nat) (x y : Int) : List Stp := if x = y then [] else [shrinkS fs n (placeN 3 x), growS fs n (placeN 3 y)]
def setS (wh : Bool) (fs : List Int) (n : Nat) (k v : Int) : List Stp :=
  let h := rd fs n (placeN 1 k)
  [becS fs n (placeN 1 k) v, .ask (decide (h ≠ 0)), .ask (decide (h ≠ v)), becS fs n (placeN 2 v) (k + 1), .ask (decide (rd fs n (placeN 2 v) = 0)), becS fs n (placeN 2 h) 0] ++ moveS fs n (classN h) (classN v) ++
    [stayS fs n 13, .ask (wh || decide (k + 1 < rd fs n 13)), becS fs n (placeN 5 h) 0, becS fs n (placeN 5 v) (k + 1)]
def delS (wh : Bool) (fs : List Int) (n : Nat) (k : Int) : List Stp :=
  let h := rd fs n (placeN 1 k)
  [becS fs n (placeN 1 k) 0, becS fs n (placeN 2 h) 0, shrinkS fs n (placeN 3 (classN h)), stayS fs n 13, .ask (wh || decide (k + 1 < rd fs n 13)), becS fs n (placeN 5 h) 0]
def scanS (fs : List Int) (n : Nat) : List Stp := [stayS fs n (placeN 1 0), stayS fs n (placeN 1 1), stayS fs n (placeN 1 2), stayS fs n (placeN 1 3)]
def makeS (fs : List Int) (n : Nat) : List Stp :=
  let k := wrap64 (rd fs n 13 - 1)
  [growS fs n 13, stayS fs n (placeN 1 k), becS fs n (placeN 5 (rd fs n (placeN 1 k))) (wrap64 (k + 1))]
def viaS (fs : List Int) (n : Nat) (v : Int) : List Stp := [stayS fs n 13, .ask (decide (rd fs n 13 = 5)), stayS fs n (placeN 5 v)]
def stepsT (wh : Bool) (fs : List Int) (n : Nat) (kind k v : Int) : List Stp :=
  if kind = 1 then putS wh fs n k v else if kind = 2 then setS wh fs n k v else if kind = 3 then delS wh fs n k else if kind = 4 then [stayS fs n (placeN 1 k)] else if kind = 5 then [stayS fs n (placeN 2 v)]
  else if kind = 6 then [stayS fs n (placeN 3 k)] else if kind = 7 then scanS fs n else if kind = 8 then [growS fs n 13] else if kind = 9 then makeS fs n else viaS fs n v
theorem move_len (fs : List Int) (n : Nat) (x y : Int) : (moveS fs n x y).length ≤ 2 := by
  unfold moveS
  split <;> simp
end Go.Proofs.YtenlapppaimkkaeGreatDoor

/- The program's Read, at any list of pairs and any place: what the last pair at that place says. -/
namespace Go.Proofs.YtenlapppaimkkaeGreatDoor
open Go.ChangeShapes Go.WideShapes Go.ChangeAt Go.RowKit Go.Shelf
attribute [local go_sem] Oper.semAt_some

/-- What has come when k rounds are over: the last, the one before it, .. -/
def backTo (fs : List Int) (n k : Nat) : List (Nat × Int × Int) := (List.range k).map (fun t => (n - 1 - t, fs.getD ((n - 1 - t) * 2) 0, fs.getD ((n - 1 - t) * 2 + 1) 0))
theorem backTo_succ (fs : List Int) (n k : Nat) : backTo fs n (k + 1) = backTo fs n k ++ [(n - 1 - k, fs.getD ((n - 1 - k) * 2) 0, fs.getD ((n - 1 - k) * 2 + 1) 0)] := by simp [backTo, List.range_succ]
theorem backTo_length (fs : List Int) (n k : Nat) : (backTo fs n k).length = k := by simp [backTo]
theorem back_none {fs : List Int} {n : Nat} {at_ : Int} : ∀ {k : Nat}, k ≤ n → (∀ x ∈ backTo fs n k, x.2.1 ≠ at_) → readF fs at_ n = readF fs at_ (n - k)
  | 0, _, _ => rfl
  | k + 1, hk, h => by
    rw [backTo_succ] at h
    have e := h _ (List.mem_append.2 (.inr (List.mem_singleton.2 rfl)))
    rw [back_none (Nat.le_of_succ_le hk) (fun x hx => h x (List.mem_append.2 (.inl hx)))]
    rw [show n - k = n - 1 - k + 1 by omega, show n - (k + 1) = n - 1 - k by omega]
    show (if _ then _ else _) = _
    rw [if_neg e]
theorem back_some {fs : List Int} {n : Nat} {at_ : Int} {k : Nat} {pre : List (Nat × Int × Int)} {x : Nat × Int × Int} (hk : k ≤ n) (e : pre ++ [x] = backTo fs n k) (h : ∀ y ∈ pre, y.2.1 ≠ at_) (hx : x.2.1 = at_) : readF fs at_ n = (x.2.2, true) := by
  cases k with
  | zero => simp [backTo] at e
  | succ k =>
    rw [backTo_succ] at e
    obtain ⟨e1, e2⟩ := List.append_inj' e rfl
    obtain rfl := (List.cons.inj e2).1
    rw [back_none (Nat.le_of_succ_le hk) (e1 ▸ h)]
    rw [show n - k = n - 1 - k + 1 by omega]
    show (if _ then _ else _) = _
    rw [if_pos hx]

set_option maxRecDepth 100000 in
set_option maxHeartbeats 2000000 in
theorem back1_in (F : Fence) (m : Nat) (hf : F.fn 106) (hro : F.round = none) (hm : 1 ≤ m) (l Bs n₀ n c : Nat) (a : Option Addr) (fs : List Int) (J Jx : List (Nat × Int × Int) → World → Prop)
    (hY : ∀ pre x W, J pre W → pre.length < n → YieldAt F (m - 1) Tryz.prog l #[.int .i64 (x.1 : Int), .agg #[.int .i64 x.2.1, .int .i64 x.2.2]] W fun e W' =>
      (e = .returned (.bool true) ∧ J (pre ++ [x]) W' ∧ Below n₀ W W') ∨ (e = .returned (.bool false) ∧ Jx (pre ++ [x]) W'))
    (W : World) (hBs : Bs < n₀) (hs : W.cell? ⟨Bs, 0, none⟩ = some (.slice a n c)) (hp : PairAt W a n fs) (hn₀ : ∀ q, a = some q → 0 < n → q.block < n₀) (h0 : J [] W) :
    CallsIn F m Tryz.prog 106 #[.func (.yield l) #[] #[], .pointer (some ⟨Bs, 0, none⟩)] W fun e W' => (∃ v, e = .returned v) ∧
      ((∃ ys, ys = backTo fs n n ∧ J ys W') ∨ (∃ pre, (∃ k, k ≤ n ∧ pre = backTo fs n k) ∧ Jx pre W')) := by
  have hn := hp.2.1
  have HP : Hid (PairAt W a n fs) := hp
  have HN : Hid (∀ q, a = some q → 0 < n → q.block < n₀) := hn₀
  clear hp hn₀
  refine callsIn_of_wp Tryz.func106 rfl hf ?_ hro
  simp only [Tryz.ntmps106, List.size_toArray, List.length_cons, List.length_nil, Nat.reduceAdd, Nat.reduceSub, Array.replicate_succ, Array.replicate_zero, List.push_toArray, List.append_toArray, List.nil_append, List.cons_append]
  gi_wp2
  gi_loopw [3] (fun i wr => ∃ k : Nat, k ≤ n ∧ i = .int .i64 ((n : Int) - 1 - (k : Int)) ∧ J (backTo fs n k) wr ∧ Below n₀ W wr)
    (fun i _ => (intOf i + 1).toNat)
  case atStart => exact ⟨0, Nat.zero_le _, by go_num, h0, Below.refl _ _⟩
  case round =>
    obtain ⟨k, hk, rfl, hJs, hnx⟩ := hrel
    have hs' := (hnx.cell (p := ⟨Bs, 0, none⟩) hBs).trans hs
    by_cases hlt : k < n
    · rcases HP.out.2.2 with h0' | ⟨b, o, rfl, g1⟩
      · omega
      have hb := HN.out _ rfl (by omega)
      have e1 := (hnx.cell (p := ⟨b, o + (n - 1 - k) * 2, none⟩) hb).trans (g1 ((n - 1 - k) * 2) (by omega))
      have e2 := (hnx.cell (p := ⟨b, o + ((n - 1 - k) * 2 + 1), none⟩) hb).trans (g1 ((n - 1 - k) * 2 + 1) (by omega))
      obtain ⟨fn, tmps, assign, body, hy, hR⟩ := hY _ (n - 1 - k, fs.getD ((n - 1 - k) * 2) 0, fs.getD ((n - 1 - k) * 2 + 1) 0) wr hJs (by rw [backTo_length]; exact hlt)
      dsimp only at hy
      have hJ2 := backTo_succ fs n k
      obtain ⟨i, hi⟩ : ∃ i, n - 1 - k = i := ⟨_, rfl⟩
      obtain ⟨x, hx⟩ : ∃ x, fs.getD ((n - 1 - k) * 2) 0 = x := ⟨_, rfl⟩
      obtain ⟨y, hy'⟩ : ∃ y, fs.getD ((n - 1 - k) * 2 + 1) 0 = y := ⟨_, rfl⟩
      rw [hx, hy'] at hJ2 hR
      rw [hx] at hy e1
      rw [hy'] at hy e2
      unfold I at e1 e2
      clear hx hy'
      have hi' : (n : Int) - 1 - (k : Int) = (i : Int) := by omega
      rw [hi] at hy e1 e2
      rw [hi']
      rw [← Nat.add_assoc] at e2
      clear g1
      have HJ2 : Hid (backTo fs n (k + 1) = backTo fs n k ++ [(n - 1 - k, x, y)]) := hJ2
      clear hJ2
      gi_wp2
      refine hR.mono ?_
      rintro e W3 (⟨rfl, hJ3, hk3⟩ | ⟨rfl, hJx3⟩)
      · gi_wp2
        go_roundw
        case rel => exact ⟨k + 1, by omega, by go_num, by rw [HJ2.out]; exact hJ3, hnx.trans hk3⟩
        case measure => (simp [intOf]) <;> omega
      · gi_wp2
        refine bodyPost_ret (results_none rfl _ _ _) rfl ?_
        exact ⟨⟨_, rfl⟩, .inr ⟨_, ⟨k + 1, by omega, HJ2.out.symm⟩, hJx3⟩⟩
    · obtain rfl : k = n := by omega
      have hz : ¬ (0 ≤ (k : Int) - 1 - (k : Int)) := by omega
      gi_wp2
      go_end0
      first | exact ⟨⟨_, rfl⟩, .inl ⟨_, rfl, hJs⟩⟩ | exact ⟨⟨_, rfl⟩, .inl hJs⟩

set_option maxHeartbeats 1000000 in
theorem back_in (F : Fence) (m : Nat) (hf : F.fn 85) (hro : F.round = none) (a : Option Addr) (n c : Nat) (w : World) :
    CallsIn F m Tryz.prog 85 #[.slice a n c] w fun e w' => e = .returned (.func (.func 106) #[] #[.pointer (some ⟨w.heap.size, 0, none⟩)]) ∧ w' = w.alloc (.cells #[.slice a n c] 29) := by
  refine callsIn_of_wp Tryz.func85 rfl hf ?_ hro
  simp only [Tryz.ntmps85, List.size_toArray, List.length_cons, List.length_nil, Nat.reduceAdd, Nat.reduceSub, Array.replicate_succ, Array.replicate_zero, List.push_toArray, List.append_toArray, List.nil_append, List.cons_append]
  gi_wp2
  go_ret
  exact ⟨rfl, rfl⟩

theorem back_stops (F : Fence) (m : Nat) (hf : F.fn 106) (hro : F.round = none) (hm : 1 ≤ m) (Bs n₀ n c : Nat) (a : Option Addr) (fs : List Int) (w : World) (hBs : Bs < n₀) (hn₀ : n₀ ≤ w.heap.size)
    (hc : w.cell? ⟨Bs, 0, none⟩ = some (.slice a n c)) (hp : PairAt w a n fs) (hb : ∀ q, a = some q → 0 < n → q.block < n₀) :
    SeqStopsK F m Tryz.prog 106 #[.pointer (some ⟨Bs, 0, none⟩)] (fun x : Nat × Int × Int => #[Value.int .i64 (x.1 : Int), .agg #[.int .i64 x.2.1, .int .i64 x.2.2]]) (Below n₀) (fun ys => ys = backTo fs n n) (fun pre => ∃ k, k ≤ n ∧ pre = backTo fs n k) n w := fun l J Jx W hW _ _ hY h0 =>
  back1_in F m hf hro hm l Bs n₀ n c a fs J Jx hY W hBs ((hW.cell (p := ⟨Bs, 0, none⟩) (Nat.lt_of_lt_of_le hBs hn₀)).trans hc) (hp.below hW (Nat.le_refl _)) hb h0

theorem PairAt.lt {w : World} {a : Option Addr} {n : Nat} {fs : List Int} (h : PairAt w a n fs) : ∀ q, a = some q → 0 < n → q.block < w.heap.size := fun q e hn => by
  rcases h.2.2 with h0 | ⟨b, o, rfl, g⟩
  · omega
  · cases e; exact World.block_lt_of_cell? w _ (g 0 (by omega))

/-- A struct of two numbers lies in a box. -/
def Box2 (W : World) (B : Nat) (t : TypeId) (x y : Int) : Prop := W.heap[B]? = some (.cells #[.int .i64 x, .int .i64 y] t (0, 0))
theorem Box2.lt {W : World} {B : Nat} {t : TypeId} {x y : Int} (h : Box2 W B t x y) : B < W.heap.size := (Array.getElem?_eq_some_iff.1 h).1
theorem Box2.kept {W W' : World} {row : Option Nat} {B : Nat} {t : TypeId} {x y : Int} (h : Box2 W B t x y) (hg : W.grownBy W' row) (hne : some B ≠ row) : Box2 W' B t x y := (hg.block B h.lt hne).trans h
theorem Box2.fst {W : World} {B : Nat} {t : TypeId} {x y : Int} (h : Box2 W B t x y) : W.cell? ⟨B, 0, none⟩ = some (.int .i64 x) := by simp [World.cell?, show W.heap[B]? = _ from h]
theorem Box2.snd {W : World} {B : Nat} {t : TypeId} {x y : Int} (h : Box2 W B t x y) : W.cell? ⟨B, 1, none⟩ = some (.int .i64 y) := by simp [World.cell?, show W.heap[B]? = _ from h]
theorem box2_own {β : Type} (B : Nat) (t : TypeId) (x y : Int) : Own (fun (_ : β) W => Box2 W B t x y) := fun s X Y row hs hg hrow =>
  hs.kept hg (fun e' => by obtain ⟨o, ho, hc⟩ := hrow B e'.symm; rw [show X.heap[B]? = _ from hs] at ho; cases ho; cases hc)

set_option maxRecDepth 100000 in
set_option maxHeartbeats 2000000 in
theorem implRead_any (a : Option Addr) (n c : Nat) (at_ : Int) (fs : List Int) (w : World) (h : PairAt w a n fs) :
    Calls Tryz.prog 54 #[.slice a n c, .int .i64 at_] w fun e w' => e = .returned (.tuple #[.int .i64 (readF fs at_ n).1, .bool (readF fs at_ n).2]) ∧ Below w.heap.size w w' := by
  have HP : Hid (PairAt w a n fs) := h
  have HL : Hid (∀ q, a = some q → 0 < n → q.block < w.heap.size) := h.lt
  clear h
  refine (callsIn_wide (n := 3)).1 ?_
  have hro : Fence.wide.round = none := rfl
  refine callsIn_of_wp_marks Tryz.func54 rfl trivial ?_ hro
  simp only [Tryz.ntmps54, List.size_toArray, List.length_cons, List.length_nil, Nat.reduceAdd, Nat.reduceSub, Array.replicate_succ, Array.replicate_zero, List.push_toArray, List.append_toArray, List.nil_append, List.cons_append]
  gi_wp2_with (refine ⟨trivial, ?_⟩; gi_at_call 85; refine (back_in Fence.wide _ trivial hro _ _ _ _).mono ?_; rintro e w' ⟨rfl, rfl⟩)
  obtain ⟨W0, hW0⟩ : ∃ W0, (((w.alloc (.cells #[.int .i64 at_] 3)).alloc (.cells #[.int .i64 0] 3)).alloc (.cells #[.bool false] 4)).alloc (.cells #[.slice a n c] 29) = W0 := ⟨_, rfl⟩
  have hs0 : W0.heap.size = w.heap.size + 4 := by rw [← hW0]; simp
  have hBW : Below w.heap.size w W0 := by rw [← hW0]; exact ((((Below.refl _ w).alloc (Nat.le_refl _) _).alloc (by simp) _).alloc (by simp; omega) _).alloc (by simp; omega) _
  have b0 : Boxed W0 w.heap.size 3 (.int .i64 at_) := by rw [← hW0]; exact (((Boxed.new w _ _).alloc _).alloc _).alloc _
  have b1 : Boxed W0 (w.heap.size + 1) 3 (.int .i64 0) := by
    rw [← hW0]; have := Boxed.new (w.alloc (.cells #[.int .i64 at_] 3)) 3 (.int .i64 0); rw [World.size_alloc] at this; exact (this.alloc _).alloc _
  have b2 : Boxed W0 (w.heap.size + 1 + 1) 4 (.bool false) := by
    rw [← hW0]; have := Boxed.new ((w.alloc (.cells #[.int .i64 at_] 3)).alloc (.cells #[.int .i64 0] 3)) 4 (.bool false); rw [World.size_alloc, World.size_alloc] at this; exact this.alloc _
  have b3 : Boxed W0 (w.heap.size + 1 + 1 + 1) 29 (.slice a n c) := by
    rw [← hW0]; have := Boxed.new (((w.alloc (.cells #[.int .i64 at_] 3)).alloc (.cells #[.int .i64 0] 3)).alloc (.cells #[.bool false] 4)) 29 (.slice a n c); rw [World.size_alloc, World.size_alloc, World.size_alloc] at this; exact this
  rw [hW0]
  clear hW0
  refine wpIn_rangeFunc_ownH hro (by omega) (gf := 106) (lb := #[.pointer (some ⟨w.heap.size + 1 + 1 + 1, 0, none⟩)]) rfl trivial (enters_of Tryz.func106 (by kernel_rfl) rfl)
    (back_stops Fence.wide _ trivial hro (by omega) (w.heap.size + 1 + 1 + 1) W0.heap.size n c a fs W0 (by omega) (Nat.le_refl _) b3.cell (HP.out.below hBW (Nat.le_refl _)) (fun q e hn => by have := HL.out q e hn; omega)) belowK_t (belowK_b (Nat.le_refl _)) (Below.refl _ _) (fun _ => rfl)
    (fun pre W => ((∀ x ∈ pre, x.2.1 ≠ at_) ∧ Boxed W w.heap.size 3 (.int .i64 at_) ∧ Boxed W (w.heap.size + 1) 3 (.int .i64 0) ∧ Boxed W (w.heap.size + 1 + 1) 4 (.bool false) ∧ Boxed W (w.heap.size + 1 + 1 + 1) 29 (.slice a n c)) ∧ Below w.heap.size w W)
    (fun c pre W => (c = .ret ∧ ∃ pre' x, pre = pre' ++ [x] ∧ (∀ y ∈ pre', y.2.1 ≠ at_) ∧ x.2.1 = at_ ∧ Boxed W (w.heap.size + 1) 3 (.int .i64 x.2.2) ∧ Boxed W (w.heap.size + 1 + 1) 4 (.bool true)) ∧ Below w.heap.size w W)
    (OwnFrom.and (Own.from (fun s A B row hs hg hr => ⟨hs.1, boxed_own _ _ (fun _ => _) () A B row hs.2.1 hg hr, boxed_own _ _ (fun _ => _) () A B row hs.2.2.1 hg hr, boxed_own _ _ (fun _ => _) () A B row hs.2.2.2.1 hg hr, boxed_own _ _ (fun _ => _) () A B row hs.2.2.2.2 hg hr⟩) _) (ownFrom_below (Nat.le_refl _) (by omega)))
    (fun c => OwnFrom.and (Own.from (fun s A B row ⟨h1, p', x, h2, h3, h4, h5, h6⟩ hg hr => ⟨h1, p', x, h2, h3, h4, boxed_own _ _ (fun _ => _) () A B row h5 hg hr, boxed_own _ _ (fun _ => _) () A B row h6 hg hr⟩) _) (ownFrom_below (Nat.le_refl _) (by omega)))
    ⟨⟨by simp, b0, b1, b2, b3⟩, hBW⟩
    (fun x a' W => ∃ Bx, w.heap.size + 1 + 1 < Bx ∧ Box2 W Bx 50 x.2.1 x.2.2 ∧ a' = { tmps := #[.slice a n c, .int .i64 at_, undef, .pointer (some ⟨w.heap.size, 0, none⟩), .pointer (some ⟨w.heap.size + 1, 0, none⟩), .pointer (some ⟨w.heap.size + 1 + 1, 0, none⟩), undef, .pointer (some ⟨Bx, 0, none⟩), .slice a n c, .func (.func 106) #[] #[.pointer (some ⟨w.heap.size + 1 + 1 + 1, 0, none⟩)], .int .i64 (x.1 : Int), .agg #[.int .i64 x.2.1, .int .i64 x.2.2], undef, undef, undef, undef, undef, undef], defers := [] })
    (fun x a' => Own.from (fun s A B row ⟨Bx, h1, h2, h3⟩ hg hr => ⟨Bx, h1, box2_own _ _ _ _ () A B row h2 hg hr, h3⟩) _) ?assign ?body ?done ?stop
  case assign =>
    rintro l pre x W K ⟨⟨hp, c0, c1, c2, c3⟩, hB⟩ hK
    gi_wp2
    exact hK _ _ ((KeepsOthers.alloc _ _).from _) ((Below.refl _ W).grown (World.grownBy_alloc W _ none) (by have := c3.lt; omega) (fun k e => by cases e)) ⟨⟨hp, c0.alloc _, c1.alloc _, c2.alloc _, c3.alloc _⟩, hB.alloc hB.size _⟩ ⟨W.heap.size, c2.lt, World.alloc_heap_new W _, rfl⟩
  case body =>
    rintro l pre x a' W hl ⟨r, hr⟩ ⟨⟨hp, c0, c1, c2, c3⟩, hB⟩ ⟨Bx, hBx, bX, rfl⟩ hlt
    have e0 := c0.cell
    have e1 := c1.cell
    have e2 := c2.cell
    have f1 := c1.frozen
    have f2 := c2.frozen
    have x1 := bX.fst
    have x2 := bX.snd
    by_cases hx : x.2.1 = at_
    · have hxb : (x.2.1 == at_) = true := by simpa using hx
      gi_wp2
      exact ⟨((KeepsOthers.setCell _ _ _).trans (KeepsOthers.setCell _ _ _)).from _, ⟨rfl, pre, x, rfl, hp, hx, (c1.set _).other (by omega) _, (c2.other (by omega) _).set _⟩,
        (hB.setCell (p := ⟨w.heap.size + 1, 0, none⟩) (by simp) _).setCell (p := ⟨w.heap.size + 1 + 1, 0, none⟩) (by simp; omega) _⟩
    · have hxb : (x.2.1 == at_) = false := by simpa using hx
      gi_wp2
      exact ⟨(KeepsOthers.refl _).from _, Below.refl _ _, ⟨fun y hy => (List.mem_append.1 hy).elim (hp y) (fun e => (List.mem_singleton.1 e) ▸ hx), c0, c1, c2, c3⟩, hB⟩
  case done =>
    rintro D xs W hD rfl ⟨⟨hp, c0, c1, c2, c3⟩, hB⟩ hK
    have e1 := c1.cell
    have e2 := c2.cell
    have f1 := c1.frozen
    have f2 := c2.frozen
    gi_wp2
    have hK' := ((KeepsOthers.setCell W ⟨w.heap.size + 1, 0, none⟩ (.int .i64 0)).trans (KeepsOthers.setCell _ ⟨w.heap.size + 1 + 1, 0, none⟩ (.bool false))).same D _ hK rfl
    have g1 : Boxed _ (w.heap.size + 1) 3 (.int .i64 0) := (c1.set (.int .i64 0)).other (B' := w.heap.size + 1 + 1) (by omega) (.bool false)
    have g2 : Boxed _ (w.heap.size + 1 + 1) 4 (.bool false) := (c2.other (B' := w.heap.size + 1) (by omega) (.int .i64 0)).set (.bool false)
    refine ⟨by simp, .inl ⟨_, _, rfl, run_takeDeferred hK', ?_⟩⟩
    have i1 := cell_kept g1.cell (grownBy_putObj' _ D (.deferred none)) (fun r e => by cases e; exact ⟨_, hK', rfl⟩)
    have i2 := cell_kept g2.cell (grownBy_putObj' _ D (.deferred none)) (fun r e => by cases e; exact ⟨_, hK', rfl⟩)
    have hz : readF fs at_ n = (0, false) := by rw [back_none (Nat.le_refl _) hp, Nat.sub_self]; rfl
    refine ⟨.tuple #[.int .i64 0, .bool false], ?_, by rw [hz], ((hB.setCell (p := ⟨w.heap.size + 1, 0, none⟩) (by simp) _).setCell (p := ⟨w.heap.size + 1 + 1, 0, none⟩) (by simp; omega) _).trans (belowK_b (w := w) (Nat.le_refl _) _ D _ _ (by omega) hK' rfl rfl)⟩
    simp [results, Tryz.f54, go_sem, i1, i2]
  case stop =>
    rintro D c pre W hD ⟨k, hk, rfl⟩ ⟨⟨rfl, pre', x, h2, h3, h4, h5, h6⟩, hB⟩ hK
    gi_wp2
    refine ⟨by simp, .inl ⟨_, _, rfl, run_takeDeferred hK, ?_⟩⟩
    have i1 := cell_kept h5.cell (grownBy_putObj' _ D (.deferred none)) (fun r e => by cases e; exact ⟨_, hK, rfl⟩)
    have i2 := cell_kept h6.cell (grownBy_putObj' _ D (.deferred none)) (fun r e => by cases e; exact ⟨_, hK, rfl⟩)
    refine ⟨.tuple #[.int .i64 x.2.2, .bool true], ?_, by rw [back_some hk h2.symm h3 h4], hB.trans (belowK_b (w := w) (Nat.le_refl _) _ D _ _ (by omega) hK rfl rfl)⟩
    simp [results, Tryz.f54, go_sem, i1, i2]
end Go.Proofs.YtenlapppaimkkaeGreatDoor

/- spec.RowAt and impl.RowAt, walked: both answer the place of the name. -/
namespace Go.Proofs.YtenlapppaimkkaeGreatDoor
open Go.ChangeShapes Go.WideShapes Go.ChangeAt Go.RowKit

theorem specRowAt_any (k : Int) (w : World) :
    Calls Tryz.prog 30 #[.int .i64 k] w fun e w' => e = .returned (.int .i64 (placeN 1 k)) ∧ w' = w := by
  by_cases h : 0 ≤ k ∧ k ≤ 3
  · have hp : placeN 1 k = k := by unfold placeN; repeat' split <;> omega
    rw [hp]
    clear hp
    obtain ⟨h0, h1⟩ := h
    go_enter Tryz.func30, Tryz.ntmps30
    go_wp2
    go_ret
    exact ⟨rfl, rfl⟩
  · have hp : placeN 1 k = -1 := by unfold placeN; repeat' split <;> omega
    rw [hp]
    clear hp
    by_cases h0 : 0 ≤ k
    · have h1 : ¬ k ≤ 3 := by omega
      clear h
      go_enter Tryz.func30, Tryz.ntmps30
      go_wp2
      go_ret
      exact ⟨rfl, rfl⟩
    · have h1 : k < 0 := by omega
      clear h h0
      go_enter Tryz.func30, Tryz.ntmps30
      go_wp2
      go_ret
      exact ⟨rfl, rfl⟩

theorem implRowAt_any (k : Int) (w : World) (hN : Names w) :
    Calls Tryz.prog 86 #[.int .i64 k] w fun e w' => e = .returned (.int .i64 (placeN 1 k)) ∧ Below w.heap.size w w' := by
  go_enter Tryz.func86, Tryz.ntmps86
  go_wp2_with (go_at_call 88; refine (placeOf_any 1 k _ hN).mono ?_; rintro e w1 ⟨rfl, hb⟩)
  go_ret
  exact ⟨rfl, hb⟩
end Go.Proofs.YtenlapppaimkkaeGreatDoor

/- spec.OwnerAt and impl.OwnerAt, walked: both answer the place of the name. -/
namespace Go.Proofs.YtenlapppaimkkaeGreatDoor
open Go.ChangeShapes Go.WideShapes Go.ChangeAt Go.RowKit

theorem specOwnerAt_any (k : Int) (w : World) :
    Calls Tryz.prog 49 #[.int .i64 k] w fun e w' => e = .returned (.int .i64 (placeN 2 k)) ∧ w' = w := by
  by_cases h : 1 ≤ k ∧ k ≤ 6
  · have hp : placeN 2 k = 3 + k := by unfold placeN; repeat' split <;> omega
    rw [hp]
    clear hp
    obtain ⟨h0, h1⟩ := h
    go_enter Tryz.func49, Tryz.ntmps49
    go_wp2
    go_ret
    exact ⟨rfl, rfl⟩
  · have hp : placeN 2 k = -1 := by unfold placeN; repeat' split <;> omega
    rw [hp]
    clear hp
    by_cases h0 : 1 ≤ k
    · have h1 : ¬ k ≤ 6 := by omega
      clear h
      go_enter Tryz.func49, Tryz.ntmps49
      go_wp2
      go_ret
      exact ⟨rfl, rfl⟩
    · have h1 : k < 1 := by omega
      clear h h0
      go_enter Tryz.func49, Tryz.ntmps49
      go_wp2
      go_ret
      exact ⟨rfl, rfl⟩

theorem implOwnerAt_any (k : Int) (w : World) (hN : Names w) :
    Calls Tryz.prog 87 #[.int .i64 k] w fun e w' => e = .returned (.int .i64 (placeN 2 k)) ∧ Below w.heap.size w w' := by
  go_enter Tryz.func87, Tryz.ntmps87
  go_wp2_with (go_at_call 88; refine (placeOf_any 2 k _ hN).mono ?_; rintro e w1 ⟨rfl, hb⟩)
  go_ret
  exact ⟨rfl, hb⟩
end Go.Proofs.YtenlapppaimkkaeGreatDoor

/- spec.StateAt and impl.StateAt, walked: both answer the place of the name. -/
namespace Go.Proofs.YtenlapppaimkkaeGreatDoor
open Go.ChangeShapes Go.WideShapes Go.ChangeAt Go.RowKit

theorem specStateAt_any (w : World) :
    Calls Tryz.prog 28 #[] w fun e w' => e = .returned (.int .i64 13) ∧ w' = w := by
  go_enter Tryz.func28, Tryz.ntmps28
  go_wp2
  go_ret
  exact ⟨rfl, rfl⟩

theorem implStateAt_any (w : World) (hN : Names w) :
    Calls Tryz.prog 89 #[] w fun e w' => e = .returned (.int .i64 13) ∧ Below w.heap.size w w' := by
  go_enter Tryz.func89, Tryz.ntmps89
  go_wp2_with (go_at_call 88; refine (placeOf_any 4 0 _ hN).mono ?_; rintro e w1 ⟨rfl, hb⟩)
  go_ret
  exact ⟨rfl, hb⟩
end Go.Proofs.YtenlapppaimkkaeGreatDoor

/- spec.ViaAt and impl.ViaAt, walked: both answer the place of the name. -/
namespace Go.Proofs.YtenlapppaimkkaeGreatDoor
open Go.ChangeShapes Go.WideShapes Go.ChangeAt Go.RowKit

theorem specViaAt_any (k : Int) (w : World) :
    Calls Tryz.prog 32 #[.int .i64 k] w fun e w' => e = .returned (.int .i64 (placeN 5 k)) ∧ w' = w := by
  by_cases h : 1 ≤ k ∧ k ≤ 6
  · have hp : placeN 5 k = 13 + k := by unfold placeN; repeat' split <;> omega
    rw [hp]
    clear hp
    obtain ⟨h0, h1⟩ := h
    go_enter Tryz.func32, Tryz.ntmps32
    go_wp2
    go_ret
    exact ⟨rfl, rfl⟩
  · have hp : placeN 5 k = -1 := by unfold placeN; repeat' split <;> omega
    rw [hp]
    clear hp
    by_cases h0 : 1 ≤ k
    · have h1 : ¬ k ≤ 6 := by omega
      clear h
      go_enter Tryz.func32, Tryz.ntmps32
      go_wp2
      go_ret
      exact ⟨rfl, rfl⟩
    · have h1 : k < 1 := by omega
      clear h h0
      go_enter Tryz.func32, Tryz.ntmps32
      go_wp2
      go_ret
      exact ⟨rfl, rfl⟩

theorem implViaAt_any (k : Int) (w : World) (hN : Names w) :
    Calls Tryz.prog 90 #[.int .i64 k] w fun e w' => e = .returned (.int .i64 (placeN 5 k)) ∧ Below w.heap.size w w' := by
  go_enter Tryz.func90, Tryz.ntmps90
  go_wp2_with (go_at_call 88; refine (placeOf_any 5 k _ hN).mono ?_; rintro e w1 ⟨rfl, hb⟩)
  go_ret
  exact ⟨rfl, hb⟩
end Go.Proofs.YtenlapppaimkkaeGreatDoor

/- The program's methods on what was read: what stands at a place (nought, where nothing was read). -/
namespace Go.Proofs.YtenlapppaimkkaeGreatDoor
open Go.ChangeShapes Go.WideShapes Go.ChangeAt Go.RowKit

set_option maxHeartbeats 1000000 in
theorem knownAt_any (a : Option Addr) (n c : Nat) (p : Int) (fs : List Int) (w : World) (h : PairAt w a n fs) :
    Calls Tryz.prog 58 #[.slice a n c, .int .i64 p] w fun e w' => e = .returned (.int .i64 (rd fs n p)) ∧ Below w.heap.size w w' := by
  have HP : Hid (PairAt w a n fs) := h
  clear h
  unfold rd
  by_cases hp : p < 0
  · rw [if_pos hp]
    go_enter Tryz.func58, Tryz.ntmps58
    go_wp2
    go_ret
    exact ⟨rfl, Below.refl _ _⟩
  rw [if_neg hp]
  obtain ⟨r, hr⟩ : ∃ r, readF fs p n = r := ⟨_, rfl⟩
  have HR : Hid (readF fs p n = r) := hr
  clear hr
  rw [HR.out]
  obtain ⟨r1, r2⟩ := r
  go_enter Tryz.func58, Tryz.ntmps58
  go_wp2_with fail
  refine (implRead_any a n c p fs _ HP.out).mono ?_
  rintro e w1 ⟨rfl, hb⟩
  rw [HR.out]
  go_wp2
  go_ret
  exact ⟨rfl, hb⟩

set_option maxHeartbeats 1000000 in
theorem knownRow_any (a : Option Addr) (n c : Nat) (k : Int) (fs : List Int) (w : World) (hN : Names w) (h : PairAt w a n fs) :
    Calls Tryz.prog 56 #[.slice a n c, .int .i64 k] w fun e w' => e = .returned (.int .i64 (rd fs n (placeN 1 k))) ∧ Below w.heap.size w w' := by
  have HP : Hid (Names w ∧ PairAt w a n fs) := ⟨hN, h⟩
  clear h hN
  go_enter Tryz.func56, Tryz.ntmps56
  go_wp2_with fail
  refine (implRowAt_any k _ HP.out.1).mono ?_
  rintro e w1 ⟨rfl, hb⟩
  go_wp2_with fail
  refine (knownAt_any a n c _ fs _ (HP.out.2.below hb (Nat.le_refl _))).mono ?_
  rintro e w2 ⟨rfl, hb2⟩
  go_wp2
  go_ret
  exact ⟨rfl, hb.trans (hb2.mono hb.size)⟩

set_option maxHeartbeats 1000000 in
theorem knownOwner_any (a : Option Addr) (n c : Nat) (k : Int) (fs : List Int) (w : World) (hN : Names w) (h : PairAt w a n fs) :
    Calls Tryz.prog 57 #[.slice a n c, .int .i64 k] w fun e w' => e = .returned (.int .i64 (rd fs n (placeN 2 k))) ∧ Below w.heap.size w w' := by
  have HP : Hid (Names w ∧ PairAt w a n fs) := ⟨hN, h⟩
  clear h hN
  go_enter Tryz.func57, Tryz.ntmps57
  go_wp2_with fail
  refine (implOwnerAt_any k _ HP.out.1).mono ?_
  rintro e w1 ⟨rfl, hb⟩
  go_wp2_with fail
  refine (knownAt_any a n c _ fs _ (HP.out.2.below hb (Nat.le_refl _))).mono ?_
  rintro e w2 ⟨rfl, hb2⟩
  go_wp2
  go_ret
  exact ⟨rfl, hb.trans (hb2.mono hb.size)⟩

set_option maxHeartbeats 1000000 in
theorem knownState_any (a : Option Addr) (n c : Nat) (fs : List Int) (w : World) (hN : Names w) (h : PairAt w a n fs) :
    Calls Tryz.prog 60 #[.slice a n c] w fun e w' => e = .returned (.int .i64 (rd fs n 13)) ∧ Below w.heap.size w w' := by
  have HP : Hid (Names w ∧ PairAt w a n fs) := ⟨hN, h⟩
  clear h hN
  go_enter Tryz.func60, Tryz.ntmps60
  go_wp2_with fail
  refine (implStateAt_any _ HP.out.1).mono ?_
  rintro e w1 ⟨rfl, hb⟩
  go_wp2_with fail
  refine (knownAt_any a n c _ fs _ (HP.out.2.below hb (Nat.le_refl _))).mono ?_
  rintro e w2 ⟨rfl, hb2⟩
  go_wp2
  go_ret
  exact ⟨rfl, hb.trans (hb2.mono hb.size)⟩
end Go.Proofs.YtenlapppaimkkaeGreatDoor

/- A region that draws its order, from the point on at which no more is asked of the world: all that is left is not wanted, or is moved about in the frame. -/
namespace Go.Proofs.YtenlapppaimkkaeGreatDoor

/-- What an operation that only moves values about yields. -/
def pureVal (a : Act) : Op → Option Value
  | .move x => some (a.eval x)
  | .assign x => some (a.eval x)
  | .pick c x y => match a.eval c with
    | .bool true => some (a.eval x)
    | .bool false => some (a.eval y)
    | _ => none
  | _ => none
theorem pureVal_run {P : Program} {a : Act} {o : Oper} {v : Value} (h : pureVal a o.op = some v) (w : World) : (execOp a.eval o).run P w = .ok (.value v) w := by
  obtain ⟨dst, op, ty, pos, after, guard⟩ := o
  cases op <;> first | (simp only [pureVal] at h; cases h; done) | skip
  case move x => simp only [pureVal, Option.some.injEq] at h; subst h; simp [execOp, go_sem]
  case assign x => simp only [pureVal, Option.some.injEq] at h; subst h; simp [execOp, go_sem]
  case pick c x y =>
    simp only [pureVal] at h
    split at h
    · rename_i hc; simp only [Option.some.injEq] at h; subst h; simp only [execOp, hc]; rfl
    · rename_i hc; simp only [Option.some.injEq] at h; subst h; simp only [execOp, hc]; rfl
    · cases h
/-- What comes of one operation: nothing, where it is not wanted. -/
def tailVal (ops : Array Oper) (a : Act) (o : Oper) : Option Value := if Region.wanted o (yielded ops a.tmps) = true then pureVal a o.op else some undef
/-- The operations U, one behind the other. -/
def tailA (ops : Array Oper) : List Nat → Act → Act
  | [], a => a
  | i :: U, a => match ops[i]? with
    | some o => match tailVal ops a o with
      | some v => tailA ops U (a.put o.dst v)
      | none => a
    | none => a
def tailL : List Nat → Array Bool → Array Bool
  | [], L => L
  | i :: U, L => tailL U (L.setIfInBounds i true)
def tailB (md : Region.Mode) (ops : Array Oper) : List Nat → Array Bool → Act → Bool
  | [], _, _ => true
  | i :: U, L, a => match ops[i]? with
    | some o => match tailVal ops a o with
      | some v => Region.free md ops L i && (Region.ready md ops L).contains i && tailB md ops U (L.setIfInBounds i true) (a.put o.dst v)
      | none => false
    | none => false
theorem wpAnyH_tail {P : Program} {md : Region.Mode} {ops : Array Oper} {Q : Exit → Act → World → Prop} {S : World → Prop} (hs : Region.noSelect ops = true)
    (hQ : ∀ c (a : Act) (d : Option Tmp) (v : Value) w, Q (.panic c) (a.put d v) w → Q (.panic c) a w) {w : World} (hS : S w) :
    ∀ (U : List Nat) (fuel : Nat) (L : Array Bool) (a : Act), tailB md ops U L a = true → wpAnyH P md ops Q S fuel (tailL U L) (tailA ops U a) w → wpAnyH P md ops Q S (fuel + U.length) L a w
  | [], fuel, L, a, _, h => h
  | i :: U, fuel, L, a, hb, h => by
    unfold tailB at hb
    unfold tailA tailL at h
    cases ho : ops[i]? with
    | none => rw [ho] at hb; cases hb
    | some o =>
      rw [ho] at hb h
      dsimp only at hb h
      cases hv : tailVal ops a o with
      | none => rw [hv] at hb; cases hb
      | some v =>
        rw [hv] at hb h
        dsimp only at hb h
        simp only [Bool.and_eq_true] at hb
        obtain ⟨⟨h1, h2⟩, h3⟩ := hb
        have hy : YieldsIf P ops S o v a := by
          unfold tailVal at hv
          by_cases hw : Region.wanted o (yielded ops a.tmps) = true
          · rw [if_pos hw] at hv; exact .inl ⟨hw, fun w _ => pureVal_run hv w⟩
          · rw [if_neg hw] at hv; cases hv; exact .inr ⟨by simpa using hw, rfl⟩
        exact wpAnyH_take ho hs h1 h2 (fun c a' w' => hQ c a' _ _ w') hy hS (wpAnyH_tail hs hQ hS U fuel _ _ h3 h)
/-- .. and that is all. -/
theorem wpAnyH_end {P : Program} {md : Region.Mode} {ops : Array Oper} {Q : Exit → Act → World → Prop} {S : World → Prop} {w : World} (hS : S w) (U : List Nat) {L : Array Bool} {a : Act} (a' : Act)
    (hb : tailB md ops U L a = true) (ha : tailA ops U a = a') (hs : Region.noSelect ops = true) (hr : Region.ready md ops (tailL U L) = [])
    (hQ : ∀ c (a : Act) (d : Option Tmp) (v : Value) w, Q (.panic c) (a.put d v) w → Q (.panic c) a w) (h : Q .normal a' w) : wpAnyH P md ops Q S (0 + U.length) L a w :=
  wpAnyH_tail hs hQ hS U 0 L a hb (wpAnyH_done hr (ha ▸ h) _)
/-- .. and it goes on. -/
theorem wpAnyH_mid {P : Program} {md : Region.Mode} {ops : Array Oper} {Q : Exit → Act → World → Prop} {S : World → Prop} {w : World} (hS : S w) (U : List Nat) (fuel : Nat) {L : Array Bool} {a : Act}
    (hb : tailB md ops U L a = true) (hs : Region.noSelect ops = true)
    (hQ : ∀ c (a : Act) (d : Option Tmp) (v : Value) w, Q (.panic c) (a.put d v) w → Q (.panic c) a w) (h : wpAnyH P md ops Q S fuel (tailL U L) (tailA ops U a) w) : wpAnyH P md ops Q S (fuel + U.length) L a w :=
  wpAnyH_tail hs hQ hS U fuel L a hb h
end Go.Proofs.YtenlapppaimkkaeGreatDoor

/- The program's teller: one word is told, if it has a place. -/
namespace Go.Proofs.YtenlapppaimkkaeGreatDoor
open Go.ChangeShapes Go.WideShapes Go.ChangeAt Go.RowKit Go.Shelf
attribute [local go_sem] Oper.semAt_some

def encE (x : Ent) : Array Value := #[.agg #[.int .i64 x.1, .int .i64 x.2.1, .int .i64 x.2.2]]
/-- What a teller goes by: what a call of it comes to, and what abides. -/
structure Goes (F : Value) (wh : Bool) (a : Option Addr) (n c : Nat) (fs : List Int) (go : Ent → Bool) (W0 : World) (ts : List TypeId) (J Jx : List Ent → World → Prop) : Prop where
  bec : ∀ (p v : Int) (pre : List Ent) (W : World), pre.length < 100 → Below W0.heap.size W0 W → J pre W →
    Calls Tryz.prog 117 #[.agg #[.slice a n c, F, .bool wh], .int .i64 p, .int .i64 v] W fun e W' => ∃ b, e = .returned (.bool b) ∧ Fin wh go W0.heap.size ts J Jx W [becS fs n p v] pre b W'
  gj : Grows J
  gx : Grows Jx
  tt : ∀ t ∈ [108, 91, 92, 93, 100, 94, 95, 96, 98, 53, 29], t ∉ ts
/-- What lay at the beginning: the names and the pairs. -/
structure Base (W0 : World) (a : Option Addr) (n : Nat) (fs : List Int) : Prop where
  names : Names W0
  pairs : PairAt W0 a n fs
theorem Base.on {W0 W : World} {a : Option Addr} {n : Nat} {fs : List Int} (h : Base W0 a n fs) (hb : Below W0.heap.size W0 W) : Base W a n fs := ⟨h.names.below hb h.names.lt, h.pairs.below hb (Nat.le_refl _)⟩

theorem round_any {m m' : Nat} {P : Program} {l : Nat} {f : FuncId} {tmps : Array Value} {assign body : Code} {w : World} {R : Ending → World → Prop} (h : RoundIn Fence.wide m P l f tmps assign body w R) : RoundIn Fence.wide m' P l f tmps assign body w R :=
  ⟨h.1, fun c cs _ => h.2 c cs (room_wide _)⟩

set_option maxRecDepth 100000 in
set_option maxHeartbeats 2000000 in
/-- No place: nothing is told. -/
theorem becomes_none (a : Option Addr) (n c : Nat) (F : Value) (wh : Bool) (p v : Int) (fs : List Int) (go : Ent → Bool) (ts : List TypeId) (J Jx : List Ent → World → Prop) (pre : List Ent) (W0 W : World)
    (hj : Grows J) (hW : Below W0.heap.size W0 W) (hJ : J pre W) (hp : p < 0) :
    Calls Tryz.prog 117 #[.agg #[.slice a n c, F, .bool wh], .int .i64 p, .int .i64 v] W fun e W' => ∃ b, e = .returned (.bool b) ∧ Fin wh go W0.heap.size ts J Jx W [becS fs n p v] pre b W' := by
  have HB : Hid (Grows J ∧ Below W0.heap.size W0 W ∧ J pre W) := ⟨hj, hW, hJ⟩
  have HP : Hid (p < 0) := hp
  clear hj hW hJ
  go_enter Tryz.func117, Tryz.ntmps117
  go_wp2
  go_ret
  refine ⟨wh, rfl, ?_⟩
  unfold becS Fin
  rw [if_neg (Int.not_le.2 HP.out)]
  have hb : Below W.heap.size W (W.alloc (.cells #[.slice a n c, F, .bool wh] 108)) := (Below.refl _ _).alloc (Nat.le_refl _) _
  have h1 := HB.out.1 _ _ _ HB.out.2.2 (far_below hb none)
  have h2 : Kp W0.heap.size ts W (W.alloc (.cells #[.slice a n c, F, .bool wh] 108)) := Kp.of_below hb HB.out.2.1.size
  cases wh with
  | false => rw [if_neg (by simp)]; exact ⟨rfl, h1, h2⟩
  | true => rw [if_pos rfl]; exact ⟨rfl, h1, h2⟩

set_option maxRecDepth 100000 in
set_option maxHeartbeats 2000000 in
theorem becomes_yield (a : Option Addr) (n c l : Nat) (wh : Bool) (p v : Int) (fs : List Int) (go : Ent → Bool) (ts : List TypeId) (J Jx : List Ent → World → Prop) (pre : List Ent) (W0 W : World)
    (hR : Rounds Tryz.prog l encE go W0.heap.size ts J Jx) (hj : Grows J) (hB : Base W0 a n fs) (hl : pre.length < 100) (hW : Below W0.heap.size W0 W) (hJ : J pre W) :
    Calls Tryz.prog 117 #[.agg #[.slice a n c, .func (.yield l) #[] #[], .bool wh], .int .i64 p, .int .i64 v] W fun e W' => ∃ b, e = .returned (.bool b) ∧ Fin wh go W0.heap.size ts J Jx W [becS fs n p v] pre b W' := by
  by_cases hp : p < 0
  · exact becomes_none a n c _ wh p v fs go ts J Jx pre W0 W hj hW hJ hp
  have HG : Hid (Rounds Tryz.prog l encE go W0.heap.size ts J Jx ∧ Grows J) := ⟨hR, hj⟩
  have HB : Hid (Base W0 a n fs ∧ Below W0.heap.size W0 W ∧ J pre W) := ⟨hB, hW, hJ⟩
  have HL : Hid (pre.length < 100) := hl
  have HPP : Hid (0 ≤ p) := Int.not_lt.1 hp
  clear hR hj hB hW hJ hl
  have hx : Below W.heap.size W (W.alloc (.cells #[.slice a n c, .func (.yield l) #[] #[], .bool wh] 108)).drew := ((Below.refl _ _).alloc (Nat.le_refl _) _).drew
  have bx : (W.alloc (.cells #[.slice a n c, .func (.yield l) #[] #[], .bool wh] 108)).drew.heap[W.heap.size]? = some (.cells #[.slice a n c, .func (.yield l) #[] #[], .bool wh] 108 (0, 0)) := World.alloc_heap_new W _
  obtain ⟨Wd, hWd⟩ : ∃ Wd, (W.alloc (.cells #[.slice a n c, .func (.yield l) #[] #[], .bool wh] 108)).drew = Wd := ⟨_, rfl⟩
  rw [hWd] at hx bx
  have HX : Hid (Below W.heap.size W Wd ∧ Wd.heap[W.heap.size]? = some (.cells #[.slice a n c, .func (.yield l) #[] #[], .bool wh] 108 (0, 0))) := ⟨hx, bx⟩
  have c0 : Wd.cell? ⟨W.heap.size, 0, none⟩ = some (.slice a n c) := by simp [World.cell?, bx]
  have c1 : Wd.cell? ⟨W.heap.size, 1, none⟩ = some (.func (.yield l) #[] #[]) := by simp [World.cell?, bx]
  clear hx bx
  refine (callsIn_wide (n := 5)).1 ?_
  refine callsIn_of_wp Tryz.func117 rfl trivial ?_ rfl
  simp only [Tryz.ntmps117, List.size_toArray, List.length_cons, List.length_nil, Nat.reduceAdd, Nat.reduceSub, Array.replicate_succ, Array.replicate_zero, List.push_toArray, List.append_toArray, List.nil_append, List.cons_append]
  gi_wp2_with fail
  gi_region_with (first
    | (refine ⟨trivial, ?_⟩
       gi_at_call 58
       refine (callsIn_wide.2 (knownAt_any a n c p fs _ (HB.out.1.on (HB.out.2.1.trans (HX.out.1.mono HB.out.2.1.size))).pairs)).mono ?_
       rintro e w1 ⟨rfl, hb1⟩
       have HK1 : Hid (Below W.heap.size W w1) := HX.out.1.trans (hb1.mono HX.out.1.size)
       have d0 : w1.cell? ⟨W.heap.size, 0, none⟩ = some (.slice a n c) := (hb1.cell (p := ⟨W.heap.size, 0, none⟩) (Array.getElem?_eq_some_iff.1 HX.out.2).1).trans c0
       have d1 : w1.cell? ⟨W.heap.size, 1, none⟩ = some (.func (.yield l) #[] #[]) := (hb1.cell (p := ⟨W.heap.size, 1, none⟩) (Array.getElem?_eq_some_iff.1 HX.out.2).1).trans c1
       obtain ⟨fn, tmps, assign, body, hy, hR⟩ := HG.out.1 pre (p, rd fs n p, v) w1 HL.out (HG.out.2 _ _ _ HB.out.2.2 (far_below HK1.out none))
       dsimp only [encE] at hy
       clear hb1)
    | (first | (refine (round_any hR).mono ?_) | (refine ⟨?_, (round_any hR).mono ?_⟩; (intro _; omega)) | (refine ⟨fun h => absurd h (by decide), (round_any hR).mono ?_⟩)
       rintro e W3 ⟨rfl, hg1, hg2⟩))
  all_goals
    gi_wp2
    go_ret
    refine ⟨go (p, rd fs n p, v), rfl, ?_⟩
    unfold becS Fin
    rw [if_pos HPP.out]
    by_cases hg : go (p, rd fs n p, v) = true
    · rw [if_pos hg]
      exact ⟨hg, (hg1 hg).1, (Kp.of_below HK1.out HB.out.2.1.size).trans (hg1 hg).2⟩
    · rw [if_neg hg]
      have hg' : go (p, rd fs n p, v) = false := by simpa using hg
      exact ⟨hg', (hg2 hg').1, (Kp.of_below HK1.out HB.out.2.1.size).kx.trans (hg2 hg').2⟩
end Go.Proofs.YtenlapppaimkkaeGreatDoor

/- The program's teller: a word stays, grows, shrinks. -/
namespace Go.Proofs.YtenlapppaimkkaeGreatDoor
open Go.ChangeShapes Go.WideShapes Go.ChangeAt Go.RowKit

/-- Where a teller stands: what was told, the names and pairs, what is kept since Wb. -/
structure Sits (n₀ : Nat) (ts : List TypeId) (J : List Ent → World → Prop) (a : Option Addr) (n : Nat) (fs : List Int) (W0 Wb W : World) (pre : List Ent) : Prop where
  base : Base W0 a n fs
  low : Below W0.heap.size W0 W
  j : J pre W
  kp : Kp n₀ ts Wb W
theorem Sits.on {ts : List TypeId} {J : List Ent → World → Prop} {a : Option Addr} {n : Nat} {fs : List Int} {W0 Wb W W' : World} {pre : List Ent} (h : Sits W0.heap.size ts J a n fs W0 Wb W pre) (hj : Grows J) (hb : Below W.heap.size W W') : Sits W0.heap.size ts J a n fs W0 Wb W' pre :=
  ⟨h.base, h.low.trans (hb.mono h.low.size), hj _ _ _ h.j (far_below hb none), h.kp.trans (Kp.of_below hb h.low.size)⟩
theorem Sits.names {ts : List TypeId} {J : List Ent → World → Prop} {a : Option Addr} {n n₀ : Nat} {fs : List Int} {W0 Wb W : World} {pre : List Ent} (h : Sits n₀ ts J a n fs W0 Wb W pre) : Names W := (h.base.on h.low).names
theorem Sits.pairs {ts : List TypeId} {J : List Ent → World → Prop} {a : Option Addr} {n n₀ : Nat} {fs : List Int} {W0 Wb W : World} {pre : List Ent} (h : Sits n₀ ts J a n fs W0 Wb W pre) : PairAt W a n fs := (h.base.on h.low).pairs
theorem Sits.told {ts : List TypeId} {J : List Ent → World → Prop} {a : Option Addr} {n : Nat} {fs : List Int} {W0 Wb W W' : World} {pre q : List Ent} (h : Sits W0.heap.size ts J a n fs W0 Wb W pre) (hj : J q W') (hk : Kp W0.heap.size ts W W') : Sits W0.heap.size ts J a n fs W0 Wb W' q :=
  ⟨h.base, h.low.trans hk.low, hj, h.kp.trans hk⟩
/-- The teller's own box. -/
abbrev tellCells (a : Option Addr) (n c : Nat) (F : Value) (wh : Bool) : Obj := .cells #[.slice a n c, F, .bool wh] 108 (0, 0)
abbrev TBox (a : Option Addr) (n c : Nat) (F : Value) (wh : Bool) (B : Nat) (w' : World) : Prop := w'.cell? ⟨B, 0, none⟩ = some (.slice a n c) ∧ w'.cell? ⟨B, 1, none⟩ = some F ∧ w'.cell? ⟨B, 2, none⟩ = some (.bool wh)
theorem tbox_of {a : Option Addr} {n c : Nat} {F : Value} {wh : Bool} {B : Nat} {w' : World} (h : w'.heap[B]? = some (tellCells a n c F wh)) : TBox a n c F wh B w' := ⟨by simp [World.cell?, h], by simp [World.cell?, h], by simp [World.cell?, h]⟩

set_option maxRecDepth 100000 in
set_option maxHeartbeats 2000000 in
theorem stays_any (a : Option Addr) (n c : Nat) (F : Value) (wh : Bool) (p : Int) (fs : List Int) (go : Ent → Bool) (ts : List TypeId) (J Jx : List Ent → World → Prop) (pre : List Ent) (W0 W : World)
    (hG : Goes F wh a n c fs go W0 ts J Jx) (hB : Base W0 a n fs) (hl : pre.length < 100) (hW : Below W0.heap.size W0 W) (hJ : J pre W) :
    Calls Tryz.prog 97 #[.agg #[.slice a n c, F, .bool wh], .int .i64 p] W fun e W' => ∃ b, e = .returned (.bool b) ∧ Fin wh go W0.heap.size ts J Jx W [stayS fs n p] pre b W' := by
  have HG : Hid (Goes F wh a n c fs go W0 ts J Jx) := hG
  have HL : Hid (pre.length < 100) := hl
  clear hl
  obtain ⟨Wd, hWd⟩ : ∃ Wd, (W.alloc (.cells #[.slice a n c, F, .bool wh] 108)).drew = Wd := ⟨_, rfl⟩
  have hx : Below W.heap.size W Wd := by rw [← hWd]; exact ((Below.refl _ _).alloc (Nat.le_refl _) _).drew
  have bx : Wd.heap[W.heap.size]? = some (tellCells a n c F wh) := by rw [← hWd]; exact World.alloc_heap_new W _
  have HX : Hid (Wd.heap[W.heap.size]? = some (tellCells a n c F wh)) := bx
  have HS : Hid (Sits W0.heap.size ts J a n fs W0 W Wd pre) := (show Sits W0.heap.size ts J a n fs W0 W W pre from ⟨hB, hW, hJ, Kp.of_below (Below.refl _ _) hW.size⟩).on hG.gj hx
  have K0 : Hid (TBox a n c F wh W.heap.size Wd) := tbox_of bx
  clear hG hB hW hJ hx bx
  go_enter Tryz.func97, Tryz.ntmps97
  go_wp2_with fail
  go_region_held3 (fun w' => w'.cell? ⟨W.heap.size, 0, none⟩ = some (.slice a n c) ∧ w'.cell? ⟨W.heap.size, 1, none⟩ = some F ∧ w'.cell? ⟨W.heap.size, 2, none⟩ = some (.bool wh))
    (first | (with_reducible exact K2.out) | (with_reducible exact K1.out) | (with_reducible exact K0.out) | exact hWd ▸ K0.out | go_keep)
    (first
    | (go_at_call 58
       refine (knownAt_any a n c p fs _ (by first | exact HS.out.pairs | exact hWd ▸ HS.out.pairs)).mono ?_
       rintro e w1 ⟨rfl, hb1⟩
       have HS1 : Hid (Sits W0.heap.size ts J a n fs W0 W w1 pre) := HS.out.on HG.out.gj (by first | exact hb1 | exact hWd ▸ hb1)
       have K1h : Hid (w1.heap[W.heap.size]? = some (tellCells a n c F wh)) := (((by first | exact hb1 | exact hWd ▸ hb1 : Below Wd.heap.size Wd w1).block _ (Array.getElem?_eq_some_iff.1 HX.out).1).trans HX.out)
       have K1 : Hid (TBox a n c F wh W.heap.size w1) := tbox_of K1h.out
       clear hb1)
    | (go_at_call 117
       refine (HG.out.bec p (rd fs n p) pre _ HL.out HS1.out.low HS1.out.j).mono ?_
       rintro e w2 ⟨b, rfl, hF⟩
       have HF : Hid (Fin wh go W0.heap.size ts J Jx W [becS fs n p (rd fs n p)] pre b w2) := Fin.kp HS1.out.kp hF
       have K2 : Hid (TBox a n c F wh W.heap.size w2) := tbox_of (hF.kx.keep _ _ _ _ K1h.out (HG.out.tt _ (by simp)))
       clear hF))
  go_wp2
  go_ret
  exact ⟨b, rfl, HF.out⟩

theorem wrapEq (x : Int) : IntKind.i64.wrap x = wrap64 x := by rw [IntKind.wrap_i64]; unfold wrap64; rfl

set_option maxRecDepth 100000 in
set_option maxHeartbeats 2000000 in
theorem grows_any (a : Option Addr) (n c : Nat) (F : Value) (wh : Bool) (p : Int) (fs : List Int) (go : Ent → Bool) (ts : List TypeId) (J Jx : List Ent → World → Prop) (pre : List Ent) (W0 W : World)
    (hG : Goes F wh a n c fs go W0 ts J Jx) (hB : Base W0 a n fs) (hl : pre.length < 100) (hW : Below W0.heap.size W0 W) (hJ : J pre W) :
    Calls Tryz.prog 99 #[.agg #[.slice a n c, F, .bool wh], .int .i64 p] W fun e W' => ∃ b, e = .returned (.bool b) ∧ Fin wh go W0.heap.size ts J Jx W [growS fs n p] pre b W' := by
  have HG : Hid (Goes F wh a n c fs go W0 ts J Jx) := hG
  have HL : Hid (pre.length < 100) := hl
  clear hl
  obtain ⟨Wd, hWd⟩ : ∃ Wd, (W.alloc (.cells #[.slice a n c, F, .bool wh] 108)).drew = Wd := ⟨_, rfl⟩
  have hx : Below W.heap.size W Wd := by rw [← hWd]; exact ((Below.refl _ _).alloc (Nat.le_refl _) _).drew
  have bx : Wd.heap[W.heap.size]? = some (tellCells a n c F wh) := by rw [← hWd]; exact World.alloc_heap_new W _
  have HX : Hid (Wd.heap[W.heap.size]? = some (tellCells a n c F wh)) := bx
  have HS : Hid (Sits W0.heap.size ts J a n fs W0 W Wd pre) := (show Sits W0.heap.size ts J a n fs W0 W W pre from ⟨hB, hW, hJ, Kp.of_below (Below.refl _ _) hW.size⟩).on hG.gj hx
  have K0 : Hid (TBox a n c F wh W.heap.size Wd) := tbox_of bx
  clear hG hB hW hJ hx bx
  go_enter Tryz.func99, Tryz.ntmps99
  go_wp2_with fail
  go_region_held3 (fun w' => w'.cell? ⟨W.heap.size, 0, none⟩ = some (.slice a n c) ∧ w'.cell? ⟨W.heap.size, 1, none⟩ = some F ∧ w'.cell? ⟨W.heap.size, 2, none⟩ = some (.bool wh))
    (first | (with_reducible exact K2.out) | (with_reducible exact K1.out) | (with_reducible exact K0.out) | exact hWd ▸ K0.out | go_keep)
    (first
    | (go_at_call 58
       refine (knownAt_any a n c p fs _ (by first | exact HS.out.pairs | exact hWd ▸ HS.out.pairs)).mono ?_
       rintro e w1 ⟨rfl, hb1⟩
       have HS1 : Hid (Sits W0.heap.size ts J a n fs W0 W w1 pre) := HS.out.on HG.out.gj (by first | exact hb1 | exact hWd ▸ hb1)
       have K1h : Hid (w1.heap[W.heap.size]? = some (tellCells a n c F wh)) := (((by first | exact hb1 | exact hWd ▸ hb1 : Below Wd.heap.size Wd w1).block _ (Array.getElem?_eq_some_iff.1 HX.out).1).trans HX.out)
       have K1 : Hid (TBox a n c F wh W.heap.size w1) := tbox_of K1h.out
       clear hb1)
    | (go_at_call 117
       (try rw [wrapEq])
       refine (HG.out.bec p (wrap64 (rd fs n p + 1)) pre _ HL.out HS1.out.low HS1.out.j).mono ?_
       rintro e w2 ⟨b, rfl, hF⟩
       have HF : Hid (Fin wh go W0.heap.size ts J Jx W [becS fs n p (wrap64 (rd fs n p + 1))] pre b w2) := Fin.kp HS1.out.kp hF
       have K2 : Hid (TBox a n c F wh W.heap.size w2) := tbox_of (hF.kx.keep _ _ _ _ K1h.out (HG.out.tt _ (by simp)))
       clear hF))
  go_wp2
  go_ret
  exact ⟨b, rfl, HF.out⟩


set_option maxRecDepth 100000 in
set_option maxHeartbeats 2000000 in
theorem shrinks_any (a : Option Addr) (n c : Nat) (F : Value) (wh : Bool) (p : Int) (fs : List Int) (go : Ent → Bool) (ts : List TypeId) (J Jx : List Ent → World → Prop) (pre : List Ent) (W0 W : World)
    (hG : Goes F wh a n c fs go W0 ts J Jx) (hB : Base W0 a n fs) (hl : pre.length < 100) (hW : Below W0.heap.size W0 W) (hJ : J pre W) :
    Calls Tryz.prog 120 #[.agg #[.slice a n c, F, .bool wh], .int .i64 p] W fun e W' => ∃ b, e = .returned (.bool b) ∧ Fin wh go W0.heap.size ts J Jx W [shrinkS fs n p] pre b W' := by
  have HG : Hid (Goes F wh a n c fs go W0 ts J Jx) := hG
  have HL : Hid (pre.length < 100) := hl
  clear hl
  obtain ⟨Wd, hWd⟩ : ∃ Wd, (W.alloc (.cells #[.slice a n c, F, .bool wh] 108)).drew = Wd := ⟨_, rfl⟩
  have hx : Below W.heap.size W Wd := by rw [← hWd]; exact ((Below.refl _ _).alloc (Nat.le_refl _) _).drew
  have bx : Wd.heap[W.heap.size]? = some (tellCells a n c F wh) := by rw [← hWd]; exact World.alloc_heap_new W _
  have HX : Hid (Wd.heap[W.heap.size]? = some (tellCells a n c F wh)) := bx
  have HS : Hid (Sits W0.heap.size ts J a n fs W0 W Wd pre) := (show Sits W0.heap.size ts J a n fs W0 W W pre from ⟨hB, hW, hJ, Kp.of_below (Below.refl _ _) hW.size⟩).on hG.gj hx
  have K0 : Hid (TBox a n c F wh W.heap.size Wd) := tbox_of bx
  clear hG hB hW hJ hx bx
  go_enter Tryz.func120, Tryz.ntmps120
  go_wp2_with fail
  go_region_held3 (fun w' => w'.cell? ⟨W.heap.size, 0, none⟩ = some (.slice a n c) ∧ w'.cell? ⟨W.heap.size, 1, none⟩ = some F ∧ w'.cell? ⟨W.heap.size, 2, none⟩ = some (.bool wh))
    (first | (with_reducible exact K2.out) | (with_reducible exact K1.out) | (with_reducible exact K0.out) | exact hWd ▸ K0.out | go_keep)
    (first
    | (go_at_call 58
       refine (knownAt_any a n c p fs _ (by first | exact HS.out.pairs | exact hWd ▸ HS.out.pairs)).mono ?_
       rintro e w1 ⟨rfl, hb1⟩
       have HS1 : Hid (Sits W0.heap.size ts J a n fs W0 W w1 pre) := HS.out.on HG.out.gj (by first | exact hb1 | exact hWd ▸ hb1)
       have K1h : Hid (w1.heap[W.heap.size]? = some (tellCells a n c F wh)) := (((by first | exact hb1 | exact hWd ▸ hb1 : Below Wd.heap.size Wd w1).block _ (Array.getElem?_eq_some_iff.1 HX.out).1).trans HX.out)
       have K1 : Hid (TBox a n c F wh W.heap.size w1) := tbox_of K1h.out
       clear hb1)
    | (go_at_call 117
       (generalize hm : (if rd fs n p < 1 then (1 : Int) else rd fs n p) = m)
       have HM : Hid ((if rd fs n p < 1 then (1 : Int) else rd fs n p) = m) := hm
       clear hm
       (try rw [wrapEq])
       refine (HG.out.bec p (wrap64 (m - 1)) pre _ HL.out HS1.out.low HS1.out.j).mono ?_
       rintro e w2 ⟨b, rfl, hF⟩
       have HF : Hid (Fin wh go W0.heap.size ts J Jx W [becS fs n p (wrap64 ((if rd fs n p < 1 then 1 else rd fs n p) - 1))] pre b w2) := by rw [HM.out]; exact Fin.kp HS1.out.kp hF
       have K2 : Hid (TBox a n c F wh W.heap.size w2) := tbox_of (hF.kx.keep _ _ _ _ K1h.out (HG.out.tt _ (by simp)))
       clear hF))
  go_wp2
  go_ret
  exact ⟨b, rfl, HF.out⟩

set_option maxRecDepth 100000 in
set_option maxHeartbeats 2000000 in
theorem inVia_any (a : Option Addr) (n c : Nat) (F : Value) (wh : Bool) (k : Int) (fs : List Int) (w : World) (hN : Names w) (h : PairAt w a n fs) (hk : 0 ≤ k ∧ k ≤ 3) :
    Calls Tryz.prog 118 #[.agg #[.slice a n c, F, .bool wh], .int .i64 k] w fun e w' => e = .returned (.bool (wh || decide (k + 1 < rd fs n 13))) ∧ Below w.heap.size w w' := by
  have hx : Below w.heap.size w (w.alloc (.cells #[.slice a n c, F, .bool wh] 108)) := (Below.refl _ _).alloc (Nat.le_refl _) _
  have HX : Hid (Below w.heap.size w (w.alloc (.cells #[.slice a n c, F, .bool wh] 108))) := hx
  have HP : Hid (Names (w.alloc (.cells #[.slice a n c, F, .bool wh] 108)) ∧ PairAt (w.alloc (.cells #[.slice a n c, F, .bool wh] 108)) a n fs) := ⟨hN.below hx hN.lt, h.below hx (Nat.le_refl _)⟩
  clear h hN hx
  obtain ⟨r, hr⟩ : ∃ r, rd fs n 13 = r := ⟨_, rfl⟩
  have HR : Hid (rd fs n 13 = r) := hr
  clear hr
  rw [HR.out]
  cases wh with
  | true =>
    go_enter Tryz.func118, Tryz.ntmps118
    go_wp2
    go_ret
    exact ⟨rfl, HX.out⟩
  | false =>
    go_enter Tryz.func118, Tryz.ntmps118
    go_wp2_with fail
    refine (knownState_any a n c fs _ HP.out.1 HP.out.2).mono ?_
    rintro e w1 ⟨rfl, hb1⟩
    have HB1 : Hid (Below w.heap.size w w1) := HX.out.trans (hb1.mono HX.out.size)
    clear hb1
    rw [HR.out]
    by_cases hlt : k + 1 < r
    · go_wp2
      go_ret
      exact ⟨by first | rfl | (simp; done) | (simp [hlt]; done), HB1.out⟩
    · go_wp2
      go_ret
      exact ⟨by first | rfl | (simp; done) | (simp [hlt]; done), HB1.out⟩
end Go.Proofs.YtenlapppaimkkaeGreatDoor

/- spec.CountAt and impl.CountAt, walked: both answer the place of the name. -/
namespace Go.Proofs.YtenlapppaimkkaeGreatDoor
open Go.ChangeShapes Go.WideShapes Go.ChangeAt Go.RowKit

theorem specCountAt_any (k : Int) (w : World) :
    Calls Tryz.prog 51 #[.int .i64 k] w fun e w' => e = .returned (.int .i64 (placeN 3 k)) ∧ w' = w := by
  by_cases h : 0 ≤ k ∧ k ≤ 2
  · have hp : placeN 3 k = 10 + k := by unfold placeN; repeat' split <;> omega
    rw [hp]
    clear hp
    obtain ⟨h0, h1⟩ := h
    go_enter Tryz.func51, Tryz.ntmps51
    go_wp2
    go_ret
    exact ⟨rfl, rfl⟩
  · have hp : placeN 3 k = -1 := by unfold placeN; repeat' split <;> omega
    rw [hp]
    clear hp
    by_cases h0 : 0 ≤ k
    · have h1 : ¬ k ≤ 2 := by omega
      clear h
      go_enter Tryz.func51, Tryz.ntmps51
      go_wp2
      go_ret
      exact ⟨rfl, rfl⟩
    · have h1 : k < 0 := by omega
      clear h h0
      go_enter Tryz.func51, Tryz.ntmps51
      go_wp2
      go_ret
      exact ⟨rfl, rfl⟩

theorem implCountAt_any (k : Int) (w : World) (hN : Names w) :
    Calls Tryz.prog 59 #[.int .i64 k] w fun e w' => e = .returned (.int .i64 (placeN 3 k)) ∧ Below w.heap.size w w' := by
  go_enter Tryz.func59, Tryz.ntmps59
  go_wp2_with (go_at_call 88; refine (placeOf_any 3 k _ hN).mono ?_; rintro e w1 ⟨rfl, hb⟩)
  go_ret
  exact ⟨rfl, hb⟩
end Go.Proofs.YtenlapppaimkkaeGreatDoor
