/- What may come as a list (no program). -/
import Derived.Test.YtlnhmmpmnflagadAllowM
namespace Go.Proofs.Ytlnhmmpmnflagad

/-- All that may come of an op. -/
def comLL (xs : List Int) (st kind k v : Int) : List (Int × List Int) :=
  if kind = 1 then (if atK xs k = 0 then (if keyN xs v < 0 then [(0, [])] else [(2, [])]) else (if keyN xs v < 0 then [(1, [])] else [(1, []), (2, [])]))
  else if kind = 2 then (if atK xs k = 0 then (if keyN xs v < 0 then [(3, [])] else [(3, []), (2, [])]) else (if keyN xs v < 0 then [(0, [])] else if keyN xs v = k then [(2, []), (0, [])] else [(2, [])]))
  else if kind = 3 then (if atK xs k = 0 then [(3, [])] else [(0, [])])
  else if kind = 4 then (if atK xs k = 0 then [(3, [])] else [(0, [atK xs k])])
  else if kind = 5 then (if keyN xs v < 0 then [(3, [])] else [(0, [keyN xs v])])
  else if kind = 6 then [(0, [cntK xs k 4])]
  else if kind = 7 then [(0, xs)]
  else if kind = 8 then (if st = 0 then [(0, [])] else [(4, [])])
  else if kind = 9 then (if st = 0 then [(4, [])] else if st = 5 then [(4, [])] else [(0, [])])
  else (if st = 5 then (if keyN xs v < 0 then [(3, [])] else [(0, [keyN xs v])]) else [(4, [])])
theorem ite_len {α : Type} {p : Prop} [Decidable p] {a b : List α} (ha : a.length ≤ 4) (hb : b.length ≤ 4) : (if p then a else b).length ≤ 4 := by split <;> assumption
theorem comLL_len (xs : List Int) (st kind k v : Int) : (comLL xs st kind k v).length ≤ 4 := by
  unfold comLL
  repeat' apply ite_len
  all_goals (try simp)
theorem codesC (code : Int) : code = 0 ∨ code = 1 ∨ code = 2 ∨ code = 3 ∨ code = 4 ∨ (code ≠ 0 ∧ code ≠ 1 ∧ code ≠ 2 ∧ code ≠ 3 ∧ code ≠ 4) := by omega
theorem com_mem_1 (xs : List Int) (st k v code : Int) (ys : List Int) (hst : 0 ≤ st ∧ st ≤ 5) :
    (code, ys) ∈ comLL xs st 1 k v ↔ ((code ≠ 0 ∧ ys = [] ∧ FailsM xs st 1 k v code) ∨ (code = 0 ∧ DoneM xs st 1 k v ∧ listM xs 1 k v = ys)) := by
  have _h := hst
  have hk := keyN_le xs v
  obtain ⟨q, hq⟩ : ∃ q, keyN xs v = q := ⟨_, rfl⟩
  obtain ⟨x, hx⟩ : ∃ x, atK xs k = x := ⟨_, rfl⟩
  rw [hq] at hk
  unfold comLL FailsM DoneM listM
  rw [hq, hx]
  clear hq hx
  rcases codesC code with rfl | rfl | rfl | rfl | rfl | ⟨c0, c1, c2, c3, c4⟩ <;> by_cases h1 : x = 0 <;> (rcases (show (q < 0 ∧ ¬ 0 ≤ q) ∨ (0 ≤ q ∧ ¬ q < 0) by omega) with ⟨h2, h2'⟩ | ⟨h2, h2'⟩)
  all_goals simp [*]
  all_goals first | done | omega | (intros; omega) | exact eq_comm | (constructor <;> intro h <;> simp_all <;> omega)
theorem com_mem_2 (xs : List Int) (st k v code : Int) (ys : List Int) (hst : 0 ≤ st ∧ st ≤ 5) :
    (code, ys) ∈ comLL xs st 2 k v ↔ ((code ≠ 0 ∧ ys = [] ∧ FailsM xs st 2 k v code) ∨ (code = 0 ∧ DoneM xs st 2 k v ∧ listM xs 2 k v = ys)) := by
  have _h := hst
  have hk := keyN_le xs v
  obtain ⟨q, hq⟩ : ∃ q, keyN xs v = q := ⟨_, rfl⟩
  obtain ⟨x, hx⟩ : ∃ x, atK xs k = x := ⟨_, rfl⟩
  rw [hq] at hk
  unfold comLL FailsM DoneM listM
  rw [hq, hx]
  clear hq hx
  rcases codesC code with rfl | rfl | rfl | rfl | rfl | ⟨c0, c1, c2, c3, c4⟩ <;> by_cases h1 : x = 0 <;> (rcases (show (q < 0 ∧ ¬ 0 ≤ q) ∨ (0 ≤ q ∧ ¬ q < 0) by omega) with ⟨h2, h2'⟩ | ⟨h2, h2'⟩) <;> (rcases Decidable.em (q = k) with rfl | h3)
  all_goals simp [*]
  all_goals first | done | omega | (intros; omega) | exact eq_comm | (constructor <;> intro h <;> simp_all <;> omega)
theorem com_mem_3 (xs : List Int) (st k v code : Int) (ys : List Int) (hst : 0 ≤ st ∧ st ≤ 5) :
    (code, ys) ∈ comLL xs st 3 k v ↔ ((code ≠ 0 ∧ ys = [] ∧ FailsM xs st 3 k v code) ∨ (code = 0 ∧ DoneM xs st 3 k v ∧ listM xs 3 k v = ys)) := by
  have _h := hst
  have hk := keyN_le xs v
  obtain ⟨q, hq⟩ : ∃ q, keyN xs v = q := ⟨_, rfl⟩
  obtain ⟨x, hx⟩ : ∃ x, atK xs k = x := ⟨_, rfl⟩
  rw [hq] at hk
  unfold comLL FailsM DoneM listM
  rw [hq, hx]
  clear hq hx
  rcases codesC code with rfl | rfl | rfl | rfl | rfl | ⟨c0, c1, c2, c3, c4⟩ <;> by_cases h1 : x = 0
  all_goals simp [*]
  all_goals first | done | omega | (intros; omega) | exact eq_comm | (constructor <;> intro h <;> simp_all <;> omega)
theorem com_mem_4 (xs : List Int) (st k v code : Int) (ys : List Int) (hst : 0 ≤ st ∧ st ≤ 5) :
    (code, ys) ∈ comLL xs st 4 k v ↔ ((code ≠ 0 ∧ ys = [] ∧ FailsM xs st 4 k v code) ∨ (code = 0 ∧ DoneM xs st 4 k v ∧ listM xs 4 k v = ys)) := by
  have _h := hst
  have hk := keyN_le xs v
  obtain ⟨q, hq⟩ : ∃ q, keyN xs v = q := ⟨_, rfl⟩
  obtain ⟨x, hx⟩ : ∃ x, atK xs k = x := ⟨_, rfl⟩
  rw [hq] at hk
  unfold comLL FailsM DoneM listM
  rw [hq, hx]
  clear hq hx
  rcases codesC code with rfl | rfl | rfl | rfl | rfl | ⟨c0, c1, c2, c3, c4⟩ <;> by_cases h1 : x = 0
  all_goals simp [*]
  all_goals first | done | omega | (intros; omega) | exact eq_comm | (constructor <;> intro h <;> simp_all <;> omega)
theorem com_mem_5 (xs : List Int) (st k v code : Int) (ys : List Int) (hst : 0 ≤ st ∧ st ≤ 5) :
    (code, ys) ∈ comLL xs st 5 k v ↔ ((code ≠ 0 ∧ ys = [] ∧ FailsM xs st 5 k v code) ∨ (code = 0 ∧ DoneM xs st 5 k v ∧ listM xs 5 k v = ys)) := by
  have _h := hst
  have hk := keyN_le xs v
  obtain ⟨q, hq⟩ : ∃ q, keyN xs v = q := ⟨_, rfl⟩
  obtain ⟨x, hx⟩ : ∃ x, atK xs k = x := ⟨_, rfl⟩
  rw [hq] at hk
  unfold comLL FailsM DoneM listM
  rw [hq, hx]
  clear hq hx
  rcases codesC code with rfl | rfl | rfl | rfl | rfl | ⟨c0, c1, c2, c3, c4⟩ <;> (rcases (show (q < 0 ∧ ¬ 0 ≤ q) ∨ (0 ≤ q ∧ ¬ q < 0) by omega) with ⟨h2, h2'⟩ | ⟨h2, h2'⟩)
  all_goals simp [*]
  all_goals first | done | omega | (intros; omega) | exact eq_comm | (constructor <;> intro h <;> simp_all <;> omega)
theorem com_mem_6 (xs : List Int) (st k v code : Int) (ys : List Int) (hst : 0 ≤ st ∧ st ≤ 5) :
    (code, ys) ∈ comLL xs st 6 k v ↔ ((code ≠ 0 ∧ ys = [] ∧ FailsM xs st 6 k v code) ∨ (code = 0 ∧ DoneM xs st 6 k v ∧ listM xs 6 k v = ys)) := by
  have _h := hst
  have hk := keyN_le xs v
  obtain ⟨q, hq⟩ : ∃ q, keyN xs v = q := ⟨_, rfl⟩
  obtain ⟨x, hx⟩ : ∃ x, atK xs k = x := ⟨_, rfl⟩
  rw [hq] at hk
  unfold comLL FailsM DoneM listM
  rw [hq, hx]
  clear hq hx
  rcases codesC code with rfl | rfl | rfl | rfl | rfl | ⟨c0, c1, c2, c3, c4⟩
  all_goals simp [*]
  all_goals first | done | omega | (intros; omega) | exact eq_comm | (constructor <;> intro h <;> simp_all <;> omega)
theorem com_mem_7 (xs : List Int) (st k v code : Int) (ys : List Int) (hst : 0 ≤ st ∧ st ≤ 5) :
    (code, ys) ∈ comLL xs st 7 k v ↔ ((code ≠ 0 ∧ ys = [] ∧ FailsM xs st 7 k v code) ∨ (code = 0 ∧ DoneM xs st 7 k v ∧ listM xs 7 k v = ys)) := by
  have _h := hst
  have hk := keyN_le xs v
  obtain ⟨q, hq⟩ : ∃ q, keyN xs v = q := ⟨_, rfl⟩
  obtain ⟨x, hx⟩ : ∃ x, atK xs k = x := ⟨_, rfl⟩
  rw [hq] at hk
  unfold comLL FailsM DoneM listM
  rw [hq, hx]
  clear hq hx
  rcases codesC code with rfl | rfl | rfl | rfl | rfl | ⟨c0, c1, c2, c3, c4⟩
  all_goals simp [*]
  all_goals first | done | omega | (intros; omega) | exact eq_comm | (constructor <;> intro h <;> simp_all <;> omega)
theorem com_mem_8 (xs : List Int) (st k v code : Int) (ys : List Int) (hst : 0 ≤ st ∧ st ≤ 5) :
    (code, ys) ∈ comLL xs st 8 k v ↔ ((code ≠ 0 ∧ ys = [] ∧ FailsM xs st 8 k v code) ∨ (code = 0 ∧ DoneM xs st 8 k v ∧ listM xs 8 k v = ys)) := by
  have _h := hst
  have hk := keyN_le xs v
  obtain ⟨q, hq⟩ : ∃ q, keyN xs v = q := ⟨_, rfl⟩
  obtain ⟨x, hx⟩ : ∃ x, atK xs k = x := ⟨_, rfl⟩
  rw [hq] at hk
  unfold comLL FailsM DoneM listM
  rw [hq, hx]
  clear hq hx
  rcases codesC code with rfl | rfl | rfl | rfl | rfl | ⟨c0, c1, c2, c3, c4⟩ <;> by_cases h4 : st = 0
  all_goals simp [*]
  all_goals first | done | omega | (intros; omega) | exact eq_comm | (constructor <;> intro h <;> simp_all <;> omega)
theorem com_mem_9 (xs : List Int) (st k v code : Int) (ys : List Int) (hst : 0 ≤ st ∧ st ≤ 5) :
    (code, ys) ∈ comLL xs st 9 k v ↔ ((code ≠ 0 ∧ ys = [] ∧ FailsM xs st 9 k v code) ∨ (code = 0 ∧ DoneM xs st 9 k v ∧ listM xs 9 k v = ys)) := by
  have _h := hst
  have hk := keyN_le xs v
  obtain ⟨q, hq⟩ : ∃ q, keyN xs v = q := ⟨_, rfl⟩
  obtain ⟨x, hx⟩ : ∃ x, atK xs k = x := ⟨_, rfl⟩
  rw [hq] at hk
  unfold comLL FailsM DoneM listM
  rw [hq, hx]
  clear hq hx
  rcases codesC code with rfl | rfl | rfl | rfl | rfl | ⟨c0, c1, c2, c3, c4⟩ <;> by_cases h4 : st = 0 <;> by_cases h5 : st = 5
  all_goals simp [*]
  all_goals first | done | omega | (intros; omega) | exact eq_comm | (constructor <;> intro h <;> simp_all <;> omega)
theorem com_mem_10 (xs : List Int) (st k v code : Int) (ys : List Int) (hst : 0 ≤ st ∧ st ≤ 5) :
    (code, ys) ∈ comLL xs st 10 k v ↔ ((code ≠ 0 ∧ ys = [] ∧ FailsM xs st 10 k v code) ∨ (code = 0 ∧ DoneM xs st 10 k v ∧ listM xs 10 k v = ys)) := by
  have _h := hst
  have hk := keyN_le xs v
  obtain ⟨q, hq⟩ : ∃ q, keyN xs v = q := ⟨_, rfl⟩
  obtain ⟨x, hx⟩ : ∃ x, atK xs k = x := ⟨_, rfl⟩
  rw [hq] at hk
  unfold comLL FailsM DoneM listM
  rw [hq, hx]
  clear hq hx
  rcases codesC code with rfl | rfl | rfl | rfl | rfl | ⟨c0, c1, c2, c3, c4⟩ <;> by_cases h5 : st = 5 <;> (rcases (show (q < 0 ∧ ¬ 0 ≤ q) ∨ (0 ≤ q ∧ ¬ q < 0) by omega) with ⟨h2, h2'⟩ | ⟨h2, h2'⟩)
  all_goals simp [*]
  all_goals first | done | omega | (intros; omega) | exact eq_comm | (constructor <;> intro h <;> simp_all <;> omega)
end Go.Proofs.Ytlnhmmpmnflagad
