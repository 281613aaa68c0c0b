/- What words tell, as data: the rows in them, whether they are whole, where they stray, the key that a word tells. No program. -/
import Derived.Test.YtkifebhkgldefaaDoorWordsL
namespace Go.Proofs.YtkifebhkgldefaaDoor
open Go.ChangeShapes Go.WideShapes Go.ChangeAt Go.RowKit

/-- What the rows in words hold, and their State. -/
def inX (ws : List Int) : List Int := if ws.length = 20 then ws.take 4 else []
def inS (ws : List Int) : Int := if ws.length = 20 then ws.getD 13 0 else 0
theorem inX_yes {ws : List Int} (h : ws.length = 20) : inX ws = ws.take 4 := if_pos h
theorem inS_yes {ws : List Int} (h : ws.length = 20) : inS ws = ws.getD 13 0 := if_pos h
theorem inX_no {ws : List Int} (h : ¬ ws.length = 20) : inX ws = [] := if_neg h
theorem inS_no {ws : List Int} (h : ¬ ws.length = 20) : inS ws = 0 := if_neg h
theorem inX_len {ws : List Int} : (inX ws).length ≤ 4 := by
  unfold inX
  split
  · simp; omega
  · simp
theorem inX_wf {ws : List Int} (h : ∀ x ∈ ws, (Lit.int .i64 x).wf = true) : ∀ x ∈ inX ws, (Lit.int .i64 x).wf = true := by
  unfold inX
  split
  · exact fun x hx => h x (List.mem_of_mem_take hx)
  · exact fun x hx => by cases hx
/-- The words are just those of the rows in them. -/
def WholeM (ws : List Int) : Prop := OkRows (inX ws) (inS ws) ∧ ws = specL (inX ws) (inS ws)
theorem ok_twenty {ws : List Int} (h : OkRows (inX ws) (inS ws)) : ws.length = 20 := by
  by_cases h0 : ws.length = 20
  · exact h0
  · have := h.1
    rw [inX_no h0] at this
    cases this
theorem WholeM.len {ws : List Int} (h : WholeM ws) : ws.length = 20 := ok_twenty h.1
theorem ownW_in (y0 y1 y2 y3 v : Int) : 0 ≤ ownW y0 y1 y2 y3 v ∧ ownW y0 y1 y2 y3 v ≤ 4 := by
  unfold ownW
  repeat' split
  all_goals omega
theorem viaW_in (y0 y1 y2 y3 st v : Int) : 0 ≤ viaW y0 y1 y2 y3 st v ∧ viaW y0 y1 y2 y3 st v ≤ 4 := by
  unfold viaW
  have := ownW_in y0 y1 y2 y3 v
  split <;> omega
/-- A place that a way tells: none, or one of an owner or of the other way. -/
def WayAt (q : Int) : Prop := q = -1 ∨ (4 ≤ q ∧ q ≤ 9) ∨ (14 ≤ q ∧ q ≤ 19)
theorem way_owner (v : Int) : WayAt (placeN 2 v) := by
  unfold placeN WayAt
  repeat' split
  all_goals omega
theorem way_via (v : Int) : WayAt (placeN 5 v) := by
  unfold placeN WayAt
  repeat' split
  all_goals omega
theorem WholeM.small {ws : List Int} (h : WholeM ws) {q : Nat} (hq : WayAt (q : Int)) : 0 ≤ ws.getD q 0 ∧ ws.getD q 0 ≤ 4 := by
  rw [h.2]
  have hq' : q = 4 ∨ q = 5 ∨ q = 6 ∨ q = 7 ∨ q = 8 ∨ q = 9 ∨ q = 14 ∨ q = 15 ∨ q = 16 ∨ q = 17 ∨ q = 18 ∨ q = 19 := by unfold WayAt at hq; omega
  rcases hq' with rfl | rfl | rfl | rfl | rfl | rfl | rfl | rfl | rfl | rfl | rfl | rfl
  · exact ownW_in _ _ _ _ _
  · exact ownW_in _ _ _ _ _
  · exact ownW_in _ _ _ _ _
  · exact ownW_in _ _ _ _ _
  · exact ownW_in _ _ _ _ _
  · exact ownW_in _ _ _ _ _
  · exact viaW_in _ _ _ _ _ _
  · exact viaW_in _ _ _ _ _ _
  · exact viaW_in _ _ _ _ _ _
  · exact viaW_in _ _ _ _ _ _
  · exact viaW_in _ _ _ _ _ _
  · exact viaW_in _ _ _ _ _ _
/-- The places, of the first k, at which L has something else. -/
def strayL (ws L : List Int) : Nat → List Int
  | 0 => []
  | k + 1 => if ws.getD k 0 = L.getD k 0 then strayL ws L k else strayL ws L k ++ [(k : Int)]
theorem strayL_len (ws L : List Int) (k : Nat) : (strayL ws L k).length ≤ k := by
  induction k with
  | zero => simp [strayL]
  | succ k ih =>
    unfold strayL
    split
    · omega
    · simp; omega
/-- What is told of the key that a word tells. -/
def KeyM (ws : List Int) (q k : Int) (ok : Bool) : Prop :=
  (ok = true ∧ WholeM ws ∧ 0 ≤ q ∧ ws.getD q.toNat 0 ≠ 0 ∧ k = ws.getD q.toNat 0 - 1) ∨ (ok = false ∧ k = 0 ∧ ¬ (WholeM ws ∧ 0 ≤ q ∧ ws.getD q.toNat 0 ≠ 0))
theorem KeyM.one {ws : List Int} {q k k' : Int} {ok ok' : Bool} (h : KeyM ws q k ok) (h' : KeyM ws q k' ok') : k = k' ∧ ok = ok' := by
  rcases h with ⟨rfl, h1, h2, h3, rfl⟩ | ⟨rfl, rfl, h1⟩ <;> rcases h' with ⟨rfl, k1, k2, k3, rfl⟩ | ⟨rfl, rfl, k1⟩
  · exact ⟨rfl, rfl⟩
  · exact absurd ⟨h1, h2, h3⟩ k1
  · exact absurd ⟨k1, k2, k3⟩ h1
  · exact ⟨rfl, rfl⟩
theorem keyM (ws : List Int) (q : Int) : ∃ k ok, KeyM ws q k ok := by
  by_cases h : WholeM ws ∧ 0 ≤ q ∧ ws.getD q.toNat 0 ≠ 0
  · exact ⟨_, _, .inl ⟨rfl, h.1, h.2.1, h.2.2, rfl⟩⟩
  · exact ⟨_, _, .inr ⟨rfl, rfl, h⟩⟩
/-- By the other way: only where it is made to its end. -/
def ViaM (ws : List Int) (q k : Int) (ok : Bool) : Prop := (inS ws = 5 ∧ KeyM ws q k ok) ∨ (¬ inS ws = 5 ∧ ok = false ∧ k = 0)
theorem viaM (ws : List Int) (q : Int) : ∃ k ok, ViaM ws q k ok := by
  by_cases h : inS ws = 5
  · obtain ⟨k, ok, hk⟩ := keyM ws q
    exact ⟨k, ok, .inl ⟨h, hk⟩⟩
  · exact ⟨0, false, .inr ⟨h, rfl, rfl⟩⟩
theorem ViaM.one {ws : List Int} {q k k' : Int} {ok ok' : Bool} (h : ViaM ws q k ok) (h' : ViaM ws q k' ok') : k = k' ∧ ok = ok' := by
  rcases h with ⟨h1, h2⟩ | ⟨h1, rfl, rfl⟩ <;> rcases h' with ⟨k1, k2⟩ | ⟨k1, rfl, rfl⟩
  · exact h2.one k2
  · exact absurd h1 k1
  · exact absurd k1 h1
  · exact ⟨rfl, rfl⟩
end Go.Proofs.YtkifebhkgldefaaDoor
