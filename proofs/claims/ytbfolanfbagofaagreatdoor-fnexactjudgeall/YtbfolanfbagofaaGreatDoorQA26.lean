/- Texts joined: ImplCom6, ImplCom7, ComLL, ImplCom, Finds, ImplAllow. -/
import Derived.Test.YtbfolanfbagofaaGreatDoorQA23
import Derived.Test.YtbfolanfbagofaaGreatDoorQA21
import Derived.Test.YtbfolanfbagofaaGreatDoorQA05
import Derived.Deep.RegionHeld3
import Derived.Test.YtbfolanfbagofaaGreatDoorQA16
import Derived.Test.YtbfolanfbagofaaGreatDoorQA24
import Derived.Test.YtbfolanfbagofaaGreatDoorQA25
import Derived.Test.YtbfolanfbagofaaGreatDoorQA13
import Derived.Test.YtbfolanfbagofaaGreatDoorQA11
set_option maxHeartbeats 1000000
set_option maxRecDepth 100000
namespace Go.Proofs.YtbfolanfbagofaaGreatDoor
section
open Go.ChangeShapes Go.WideShapes Go.ChangeAt Go.RowKit Go.Maps


end
def comLL (xs : List Int) (st kind k v : Int) : List (Int × List Int) :=
 if kind = 1 then (if atK xs k = 0 then (if keyN xs v < 0 then [(0, [])] else [(2, [])]) else (if keyN xs v < 0 then [(1, [])] else [(1, []), (2, [])]))
 else if kind = 2 then (if atK xs k = 0 then (if keyN xs v < 0 then [(3, [])] else [(3, []), (2, [])]) else (if keyN xs v < 0 then [(0, [])] else if keyN xs v = k then [(2, []), (0, [])] else [(2, [])]))
 else if kind = 3 then (if atK xs k = 0 then [(3, [])] else [(0, [])])
 else if kind = 4 then (if atK xs k = 0 then [(3, [])] else [(0, [atK xs k])])
 else if kind = 5 then (if keyN xs v < 0 then [(3, [])] else [(0, [keyN xs v])])
 else if kind = 6 then [(0, [cntK xs k 4])]
 else if kind = 7 then [(0, xs)]
 else if kind = 8 then (if st = 0 then [(0, [])] else [(4, [])])
 else if kind = 9 then (if st = 0 then [(4, [])] else if st = 5 then [(4, [])] else [(0, [])])
 else (if st = 5 then (if keyN xs v < 0 then [(3, [])] else [(0, [keyN xs v])]) else [(4, [])])
theorem ite_len {α : Type} {p : Prop} [Decidable p] {a b : List α} (ha : a.length ≤ 4) (hb : b.length ≤ 4) : (if p then a else b).length ≤ 4 := by split <;> assumption
theorem comLL_len (xs : List Int) (st kind k v : Int) : (comLL xs st kind k v).length ≤ 4 := by
 unfold comLL
 repeat' apply ite_len
 all_goals (try simp)
theorem codesC (code : Int) : code = 0 ∨ code = 1 ∨ code = 2 ∨ code = 3 ∨ code = 4 ∨ (code ≠ 0 ∧ code ≠ 1 ∧ code ≠ 2 ∧ code ≠ 3 ∧ code ≠ 4) := by omega
theorem com_mem_1 (xs : List Int) (st k v code : Int) (ys : List Int) (hst : 0 ≤ st ∧ st ≤ 5) :
   (code, ys) ∈ comLL xs st 1 k v ↔ ((code ≠ 0 ∧ ys = [] ∧ FailsM xs st 1 k v code) ∨ (code = 0 ∧ DoneM xs st 1 k v ∧ listM xs 1 k v = ys)) := by
 have _h := hst
 have hk := keyN_le xs v
 obtain ⟨q, hq⟩ : ∃ q, keyN xs v = q := ⟨_, rfl⟩
 obtain ⟨x, hx⟩ : ∃ x, atK xs k = x := ⟨_, rfl⟩
 rw [hq] at hk
 unfold comLL FailsM DoneM listM
 rw [hq, hx]
 clear hq hx
 rcases codesC code with rfl | rfl | rfl | rfl | rfl | ⟨c0, c1, c2, c3, c4⟩ <;> by_cases h1 : x = 0 <;> (rcases (show (q < 0 ∧ ¬ 0 ≤ q) ∨ (0 ≤ q ∧ ¬ q < 0) by omega) with ⟨h2, h2'⟩ | ⟨h2, h2'⟩)
 all_goals simp [*]
 all_goals first | done | omega | (intros; omega) | exact eq_comm | (constructor <;> intro h <;> simp_all <;> omega)
theorem com_mem_2 (xs : List Int) (st k v code : Int) (ys : List Int) (hst : 0 ≤ st ∧ st ≤ 5) :
   (code, ys) ∈ comLL xs st 2 k v ↔ ((code ≠ 0 ∧ ys = [] ∧ FailsM xs st 2 k v code) ∨ (code = 0 ∧ DoneM xs st 2 k v ∧ listM xs 2 k v = ys)) := by
 have _h := hst
 have hk := keyN_le xs v
 obtain ⟨q, hq⟩ : ∃ q, keyN xs v = q := ⟨_, rfl⟩
 obtain ⟨x, hx⟩ : ∃ x, atK xs k = x := ⟨_, rfl⟩
 rw [hq] at hk
 unfold comLL FailsM DoneM listM
 rw [hq, hx]
 clear hq hx
 rcases codesC code with rfl | rfl | rfl | rfl | rfl | ⟨c0, c1, c2, c3, c4⟩ <;> by_cases h1 : x = 0 <;> (rcases (show (q < 0 ∧ ¬ 0 ≤ q) ∨ (0 ≤ q ∧ ¬ q < 0) by omega) with ⟨h2, h2'⟩ | ⟨h2, h2'⟩) <;> (rcases Decidable.em (q = k) with rfl | h3)
 all_goals simp [*]
 all_goals first | done | omega | (intros; omega) | exact eq_comm | (constructor <;> intro h <;> simp_all <;> omega)
theorem com_mem_3 (xs : List Int) (st k v code : Int) (ys : List Int) (hst : 0 ≤ st ∧ st ≤ 5) :
   (code, ys) ∈ comLL xs st 3 k v ↔ ((code ≠ 0 ∧ ys = [] ∧ FailsM xs st 3 k v code) ∨ (code = 0 ∧ DoneM xs st 3 k v ∧ listM xs 3 k v = ys)) := by
 have _h := hst
 have hk := keyN_le xs v
 obtain ⟨q, hq⟩ : ∃ q, keyN xs v = q := ⟨_, rfl⟩
 obtain ⟨x, hx⟩ : ∃ x, atK xs k = x := ⟨_, rfl⟩
 rw [hq] at hk
 unfold comLL FailsM DoneM listM
 rw [hq, hx]
 clear hq hx
 rcases codesC code with rfl | rfl | rfl | rfl | rfl | ⟨c0, c1, c2, c3, c4⟩ <;> by_cases h1 : x = 0
 all_goals simp [*]
 all_goals first | done | omega | (intros; omega) | exact eq_comm | (constructor <;> intro h <;> simp_all <;> omega)
theorem com_mem_4 (xs : List Int) (st k v code : Int) (ys : List Int) (hst : 0 ≤ st ∧ st ≤ 5) :
   (code, ys) ∈ comLL xs st 4 k v ↔ ((code ≠ 0 ∧ ys = [] ∧ FailsM xs st 4 k v code) ∨ (code = 0 ∧ DoneM xs st 4 k v ∧ listM xs 4 k v = ys)) := by
 have _h := hst
 have hk := keyN_le xs v
 obtain ⟨q, hq⟩ : ∃ q, keyN xs v = q := ⟨_, rfl⟩
 obtain ⟨x, hx⟩ : ∃ x, atK xs k = x := ⟨_, rfl⟩
 rw [hq] at hk
 unfold comLL FailsM DoneM listM
 rw [hq, hx]
 clear hq hx
 rcases codesC code with rfl | rfl | rfl | rfl | rfl | ⟨c0, c1, c2, c3, c4⟩ <;> by_cases h1 : x = 0
 all_goals simp [*]
 all_goals first | done | omega | (intros; omega) | exact eq_comm | (constructor <;> intro h <;> simp_all <;> omega)
theorem com_mem_5 (xs : List Int) (st k v code : Int) (ys : List Int) (hst : 0 ≤ st ∧ st ≤ 5) :
   (code, ys) ∈ comLL xs st 5 k v ↔ ((code ≠ 0 ∧ ys = [] ∧ FailsM xs st 5 k v code) ∨ (code = 0 ∧ DoneM xs st 5 k v ∧ listM xs 5 k v = ys)) := by
 have _h := hst
 have hk := keyN_le xs v
 obtain ⟨q, hq⟩ : ∃ q, keyN xs v = q := ⟨_, rfl⟩
 obtain ⟨x, hx⟩ : ∃ x, atK xs k = x := ⟨_, rfl⟩
 rw [hq] at hk
 unfold comLL FailsM DoneM listM
 rw [hq, hx]
 clear hq hx
 rcases codesC code with rfl | rfl | rfl | rfl | rfl | ⟨c0, c1, c2, c3, c4⟩ <;> (rcases (show (q < 0 ∧ ¬ 0 ≤ q) ∨ (0 ≤ q ∧ ¬ q < 0) by omega) with ⟨h2, h2'⟩ | ⟨h2, h2'⟩)
 all_goals simp [*]
 all_goals first | done | omega | (intros; omega) | exact eq_comm | (constructor <;> intro h <;> simp_all <;> omega)
theorem com_mem_6 (xs : List Int) (st k v code : Int) (ys : List Int) (hst : 0 ≤ st ∧ st ≤ 5) :
   (code, ys) ∈ comLL xs st 6 k v ↔ ((code ≠ 0 ∧ ys = [] ∧ FailsM xs st 6 k v code) ∨ (code = 0 ∧ DoneM xs st 6 k v ∧ listM xs 6 k v = ys)) := by
 have _h := hst
 have hk := keyN_le xs v
 obtain ⟨q, hq⟩ : ∃ q, keyN xs v = q := ⟨_, rfl⟩
 obtain ⟨x, hx⟩ : ∃ x, atK xs k = x := ⟨_, rfl⟩
 rw [hq] at hk
 unfold comLL FailsM DoneM listM
 rw [hq, hx]
 clear hq hx
 rcases codesC code with rfl | rfl | rfl | rfl | rfl | ⟨c0, c1, c2, c3, c4⟩
 all_goals simp [*]
 all_goals first | done | omega | (intros; omega) | exact eq_comm | (constructor <;> intro h <;> simp_all <;> omega)
theorem com_mem_7 (xs : List Int) (st k v code : Int) (ys : List Int) (hst : 0 ≤ st ∧ st ≤ 5) :
   (code, ys) ∈ comLL xs st 7 k v ↔ ((code ≠ 0 ∧ ys = [] ∧ FailsM xs st 7 k v code) ∨ (code = 0 ∧ DoneM xs st 7 k v ∧ listM xs 7 k v = ys)) := by
 have _h := hst
 have hk := keyN_le xs v
 obtain ⟨q, hq⟩ : ∃ q, keyN xs v = q := ⟨_, rfl⟩
 obtain ⟨x, hx⟩ : ∃ x, atK xs k = x := ⟨_, rfl⟩
 rw [hq] at hk
 unfold comLL FailsM DoneM listM
 rw [hq, hx]
 clear hq hx
 rcases codesC code with rfl | rfl | rfl | rfl | rfl | ⟨c0, c1, c2, c3, c4⟩
 all_goals simp [*]
 all_goals first | done | omega | (intros; omega) | exact eq_comm | (constructor <;> intro h <;> simp_all <;> omega)
theorem com_mem_8 (xs : List Int) (st k v code : Int) (ys : List Int) (hst : 0 ≤ st ∧ st ≤ 5) :
   (code, ys) ∈ comLL xs st 8 k v ↔ ((code ≠ 0 ∧ ys = [] ∧ FailsM xs st 8 k v code) ∨ (code = 0 ∧ DoneM xs st 8 k v ∧ listM xs 8 k v = ys)) := by
 have _h := hst
 have hk := keyN_le xs v
 obtain ⟨q, hq⟩ : ∃ q, keyN xs v = q := ⟨_, rfl⟩
 obtain ⟨x, hx⟩ : ∃ x, atK xs k = x := ⟨_, rfl⟩
 rw [hq] at hk
 unfold comLL FailsM DoneM listM
 rw [hq, hx]
 clear hq hx
 rcases codesC code with rfl | rfl | rfl | rfl | rfl | ⟨c0, c1, c2, c3, c4⟩ <;> by_cases h4 : st = 0
 all_goals simp [*]
 all_goals first | done | omega | (intros; omega) | exact eq_comm | (constructor <;> intro h <;> simp_all <;> omega)
theorem com_mem_9 (xs : List Int) (st k v code : Int) (ys : List Int) (hst : 0 ≤ st ∧ st ≤ 5) :
   (code, ys) ∈ comLL xs st 9 k v ↔ ((code ≠ 0 ∧ ys = [] ∧ FailsM xs st 9 k v code) ∨ (code = 0 ∧ DoneM xs st 9 k v ∧ listM xs 9 k v = ys)) := by
 have _h := hst
 have hk := keyN_le xs v
 obtain ⟨q, hq⟩ : ∃ q, keyN xs v = q := ⟨_, rfl⟩
 obtain ⟨x, hx⟩ : ∃ x, atK xs k = x := ⟨_, rfl⟩
 rw [hq] at hk
 unfold comLL FailsM DoneM listM
 rw [hq, hx]
 clear hq hx
 rcases codesC code with rfl | rfl | rfl | rfl | rfl | ⟨c0, c1, c2, c3, c4⟩ <;> by_cases h4 : st = 0 <;> by_cases h5 : st = 5
 all_goals simp [*]
 all_goals first | done | omega | (intros; omega) | exact eq_comm | (constructor <;> intro h <;> simp_all <;> omega)
theorem com_mem_10 (xs : List Int) (st k v code : Int) (ys : List Int) (hst : 0 ≤ st ∧ st ≤ 5) :
   (code, ys) ∈ comLL xs st 10 k v ↔ ((code ≠ 0 ∧ ys = [] ∧ FailsM xs st 10 k v code) ∨ (code = 0 ∧ DoneM xs st 10 k v ∧ listM xs 10 k v = ys)) := by
 have _h := hst
 have hk := keyN_le xs v
 obtain ⟨q, hq⟩ : ∃ q, keyN xs v = q := ⟨_, rfl⟩
 obtain ⟨x, hx⟩ : ∃ x, atK xs k = x := ⟨_, rfl⟩
 rw [hq] at hk
 unfold comLL FailsM DoneM listM
 rw [hq, hx]
 clear hq hx
 rcases codesC code with rfl | rfl | rfl | rfl | rfl | ⟨c0, c1, c2, c3, c4⟩ <;> by_cases h5 : st = 5 <;> (rcases (show (q < 0 ∧ ¬ 0 ≤ q) ∨ (0 ≤ q ∧ ¬ q < 0) by omega) with ⟨h2, h2'⟩ | ⟨h2, h2'⟩)
 all_goals simp [*]
 all_goals first | done | omega | (intros; omega) | exact eq_comm | (constructor <;> intro h <;> simp_all <;> omega)
section
open Go.ChangeShapes Go.WideShapes Go.ChangeAt Go.RowKit Go.Maps
theorem atK_nat (xs : List Int) (j : Nat) : atK xs (j : Int) = xs.getD j 0 := by simp [atK]
theorem com_mem (xs : List Int) (st kind k v code : Int) (ys : List Int) (hst : 0 ≤ st ∧ st ≤ 5) (hk : 1 ≤ kind ∧ kind ≤ 10) :
   (code, ys) ∈ comLL xs st kind k v ↔ ((code ≠ 0 ∧ ys = [] ∧ FailsM xs st kind k v code) ∨ (code = 0 ∧ DoneM xs st kind k v ∧ listM xs kind k v = ys)) := by
 rcases kinds hk with rfl | rfl | rfl | rfl | rfl | rfl | rfl | rfl | rfl | rfl
 · exact com_mem_1 xs st k v code ys hst
 · exact com_mem_2 xs st k v code ys hst
 · exact com_mem_3 xs st k v code ys hst
 · exact com_mem_4 xs st k v code ys hst
 · exact com_mem_5 xs st k v code ys hst
 · exact com_mem_6 xs st k v code ys hst
 · exact com_mem_7 xs st k v code ys hst
 · exact com_mem_8 xs st k v code ys hst
 · exact com_mem_9 xs st k v code ys hst
 · exact com_mem_10 xs st k v code ys hst
end
section
open Go.ChangeShapes Go.WideShapes Go.ChangeAt Go.RowKit
theorem clos_any (b : Nat) (code code2 : Int) (a a2 : Option Addr) (n n2 c c2 : Nat) (xs ys : List Int) (w : World) (hb : b < w.heap.size) (h1 : w.cell? ⟨b, 0, none⟩ = some (.int .i64 code2)) (h2 : w.cell? ⟨b, 1, none⟩ = some (.slice a2 n2 c2)) (hx : IntAt w a n xs) (hy : IntAt w a2 n2 ys) :
   Calls Tryz.prog 135 #[ResV code a n c, .pointer (some ⟨b, 0, none⟩)] w fun e w' => e = .returned (.bool (decide (code = code2 ∧ xs = ys))) ∧ Below w.heap.size w w' := by
 have HX : Hid (IntAt w a n xs) := hx
 have HY : Hid (IntAt w a2 n2 ys) := hy
 obtain ⟨B, hB⟩ : ∃ B, decide (code = code2 ∧ xs = ys) = B := ⟨_, rfl⟩
 have HB : Hid (decide (code = code2 ∧ xs = ys) = B) := hB
 rw [hB]
 clear hx hy hB
 go_enter Tryz.func135, Tryz.ntmps135
 go_wp2_with fail
 have hb0 : Below w.heap.size w (w.alloc (.cells #[.int .i64 code, .slice a n c] 82)) := (Below.refl _ w).alloc (Nat.le_refl _) _
 refine (implResSame_any a a2 n n2 c c2 code code2 xs ys _ (HX.out.below hb0 (Nat.le_refl _)) (HY.out.below hb0 (Nat.le_refl _))).mono ?_
 rintro e w1 ⟨rfl, hb1⟩
 have hb2 := hb0.trans (hb1.mono (by simp))
 rw [HB.out]
 clear hb0 hb1
 go_wp2
 go_ret
 exact ⟨rfl, hb2⟩
theorem cellsC_at {L : List (Int × Value)} {k : Nat} {r : Int × Value} (h : L[k]? = some r) : (cellsC L)[k * 2]? = some (.int .i64 r.1) ∧ (cellsC L)[k * 2 + 1]? = some r.2 := by
 induction L generalizing k with
 | nil => simp at h
 | cons x L ih =>
   cases k with
   | zero => simp only [List.getElem?_cons_zero, Option.some.injEq] at h; subst h; simp [cellsC]
   | succ k =>
     have h' : L[k]? = some r := by simpa using h
     have := ih h'
     simp only [cellsC, List.flatMap_cons, List.cons_append, List.nil_append] at this ⊢
     rw [show (k + 1) * 2 = k * 2 + 1 + 1 by omega, List.getElem?_cons_succ, List.getElem?_cons_succ, List.getElem?_cons_succ, List.getElem?_cons_succ]
     exact this
theorem com_cells {w : World} {base : Nat} {v : Value} {L : List (Int × Value)} (h : ComAt w base v L) {k : Nat} {r : Int × Value} (hr : L[k]? = some r) :
   ∃ g cap, v = .slice (some ⟨g, 0, none⟩) L.length cap ∧ g < w.heap.size ∧ w.cell? ⟨g, k * 2, none⟩ = some (.int .i64 r.1) ∧ w.cell? ⟨g, k * 2 + 1, none⟩ = some r.2 := by
 have hk : k < L.length := (List.getElem?_eq_some_iff.1 hr).1
 rcases h.2 with ⟨_, h0⟩ | ⟨g, cap, cur, rfl, _, hg, hcap, _, hsz, ht⟩
 · omega
 have hlt : g < w.heap.size := (Array.getElem?_eq_some_iff.1 hg).1
 obtain ⟨c0, c1⟩ := cellsC_at hr
 rw [← ht] at c0 c1
 have e0 : cur[k * 2]? = some (.int .i64 r.1) := by
   rw [List.getElem?_take] at c0
   split at c0
   · simpa using c0
   · cases c0
 have e1 : cur[k * 2 + 1]? = some r.2 := by
   rw [List.getElem?_take] at c1
   split at c1
   · simpa using c1
   · cases c1
 exact ⟨g, cap, rfl, hlt, by simp [World.cell?, hg, e0], by simp [World.cell?, hg, e1]⟩
theorem TellsAs.len {w : World} : ∀ {L : List (Int × Value)} {LL : List (Int × List Int)}, TellsAs w L LL → L.length = LL.length
 | [], [], _ => rfl
 | _ :: _, _ :: _, h => by simp [TellsAs.len h.2]
 | [], _ :: _, h => h.elim
 | _ :: _, [], h => h.elim
theorem TellsAs.at {w : World} : ∀ {L : List (Int × Value)} {LL : List (Int × List Int)}, TellsAs w L LL → ∀ {k : Nat} {q : Int × List Int}, LL[k]? = some q → ∃ a n c, L[k]? = some (q.1, .slice a n c) ∧ IntAt w a n q.2
 | [], [], _, k, q, h => by simp at h
 | r :: _, _ :: _, h, 0, q, hq => by
   simp only [List.getElem?_cons_zero, Option.some.injEq] at hq
   subst hq
   obtain ⟨⟨h1, a, n, c, h2, h3⟩, _⟩ := h
   exact ⟨a, n, c, by simp only [List.getElem?_cons_zero, Option.some.injEq]; rw [← h1, ← h2], h3⟩
 | _ :: _, _ :: _, h, k + 1, q, hq => by
   simp only [List.getElem?_cons_succ] at hq ⊢
   exact TellsAs.at h.2 hq
 | [], _ :: _, h, _, _, _ => h.elim
 | _ :: _, [], h, _, _, _ => h.elim
abbrev Clos (b : Nat) : Value := .func (.func 135) #[] #[.pointer (some ⟨b, 0, none⟩)]
theorem com_slice {w : World} {base : Nat} {v : Value} {L : List (Int × Value)} (h : ComAt w base v L) : ∃ a c, v = .slice a L.length c := by
 rcases h.2 with ⟨rfl, h0⟩ | ⟨g, cap, cur, rfl, _⟩
 · exact ⟨none, 0, by rw [h0]⟩
 · exact ⟨_, cap, rfl⟩
theorem no_more {α : Type} {LL : List α} {k : Nat} {q y : α} (h : y ∉ LL.take k) (hq : LL[k]? = some q) (hne : q ≠ y) : y ∉ LL.take (k + 1) := by
 rw [List.take_add_one, hq]
 simp only [Option.toList_some, List.mem_append, List.mem_singleton, not_or]
 exact ⟨h, fun e => hne e.symm⟩
theorem indexFunc_any (base b : Nat) (code : Int) (a2 : Option Addr) (n2 c2 : Nat) (ys : List Int) (vv : Value) (L : List (Int × Value)) (LL : List (Int × List Int)) (w : World) (hL : L.length ≤ 4) (hc : ComAt w base vv L) (ht : TellsAs w L LL)
   (hb : b < w.heap.size) (h1 : w.cell? ⟨b, 0, none⟩ = some (.int .i64 code)) (h2 : w.cell? ⟨b, 1, none⟩ = some (.slice a2 n2 c2)) (hy : IntAt w a2 n2 ys) :
   Calls Tryz.prog 162 #[vv, Clos b] w fun e w' => ∃ r : Int, e = .returned (.int .i64 r) ∧ (0 ≤ r ↔ (code, ys) ∈ LL) ∧ Below w.heap.size w w' := by
 have HC : Hid (ComAt w base vv L) := hc
 have HT : Hid (TellsAs w L LL) := ht
 have H1 : Hid (w.cell? ⟨b, 0, none⟩ = some (.int .i64 code)) := h1
 have H2 : Hid (w.cell? ⟨b, 1, none⟩ = some (.slice a2 n2 c2)) := h2
 have HY : Hid (IntAt w a2 n2 ys) := hy
 have HLL : Hid (L.length = LL.length) := ht.len
 obtain ⟨av, cv, rfl⟩ := com_slice hc
 obtain ⟨n, hn⟩ : ∃ n, L.length = n := ⟨_, rfl⟩
 rw [hn] at hL HLL
 have HN : Hid (L.length = n) := hn
 rw [hn]
 clear hc ht h1 h2 hy hn
 go_enter Tryz.func162, Tryz.ntmps162
 go_wp2
 go_loopw [8] (fun i wr => ∃ k : Nat, k ≤ n ∧ i = .int .i64 k ∧ (code, ys) ∉ LL.take k ∧ Below w.heap.size w wr) (fun i _ => n - (intOf i).toNat)
 case atStart => exact ⟨0, Nat.zero_le _, rfl, by simp, Below.refl _ _⟩
 case round =>
   obtain ⟨k, hk, rfl, hno, hbr⟩ := hrel
   have HNO : Hid ((code, ys) ∉ LL.take k) := hno
   clear hno
   by_cases hlt : k < n
   · obtain ⟨q, hq⟩ : ∃ q, LL[k]? = some q := ⟨_, List.getElem?_eq_getElem (by rw [← HLL.out]; exact hlt)⟩
     obtain ⟨a, m, c, hLk, hat⟩ := HT.out.at hq
     obtain ⟨g, cap, e, hg, g0, g1⟩ := com_cells HC.out hLk
     cases e
     have e0 : _ = _ := (hbr.cell (show g < w.heap.size from hg)).trans g0
     have e1 : _ = _ := (hbr.cell (show g < w.heap.size from hg)).trans g1
     have hk0 : (0 : Int) ≤ (k : Int) := by omega
     have hk1 : (k : Int) < (n : Int) := by omega
     have HAT : Hid (IntAt w a m q.2) := hat
     have HQ : Hid (LL[k]? = some q) := hq
     clear g0 g1 hat hq hLk
     go_wp2_with fail
     have hlb : b < wr.heap.size := Nat.lt_of_lt_of_le hb hbr.size
     refine (clos_any b q.1 code a a2 m n2 c c2 q.2 ys _ hlb ((hbr.cell (show b < w.heap.size from hb)).trans H1.out) ((hbr.cell (show b < w.heap.size from hb)).trans H2.out) (HAT.out.below hbr (Nat.le_refl _)) (HY.out.below hbr (Nat.le_refl _))).mono ?_
     rintro e w1 ⟨rfl, hb1⟩
     have hb2 := hbr.trans (hb1.mono hbr.size)
     clear hb1 e0 e1
     by_cases hh : q.1 = code ∧ q.2 = ys
     · rw [show decide (q.1 = code ∧ q.2 = ys) = true from decide_eq_true hh]
       have HH : Hid ((code, ys) ∈ LL) := by
         have e : q = (code, ys) := by rw [← hh.1, ← hh.2]
         rw [← e]
         exact List.mem_of_getElem? HQ.out
       clear hh
       go_wp2
       go_ret
       exact ⟨_, rfl, ⟨fun _ => HH.out, fun _ => hk0⟩, hb2⟩
     · rw [show decide (q.1 = code ∧ q.2 = ys) = false from decide_eq_false hh]
       have HH : Hid (q ≠ (code, ys)) := fun e => hh (by rw [e]; exact ⟨rfl, rfl⟩)
       clear hh
       go_wp2
       exact ⟨⟨k + 1, by omega, by go_num, no_more HNO.out HQ.out HH.out, hb2⟩, by simp [intOf]; omega⟩
   · obtain rfl : k = n := by omega
     go_wp2
     go_ret
     refine ⟨_, rfl, ?_, hbr⟩
     have h := HNO.out
     rw [HLL.out, List.take_length] at h
     simp [h]
theorem containsFunc_any (base b : Nat) (code : Int) (a2 : Option Addr) (n2 c2 : Nat) (ys : List Int) (vv : Value) (L : List (Int × Value)) (LL : List (Int × List Int)) (w : World) (hL : L.length ≤ 4) (hc : ComAt w base vv L) (ht : TellsAs w L LL)
   (hb : b < w.heap.size) (h1 : w.cell? ⟨b, 0, none⟩ = some (.int .i64 code)) (h2 : w.cell? ⟨b, 1, none⟩ = some (.slice a2 n2 c2)) (hy : IntAt w a2 n2 ys) :
   Calls Tryz.prog 132 #[vv, Clos b] w fun e w' => e = .returned (.bool (decide ((code, ys) ∈ LL))) ∧ Below w.heap.size w w' := by
 have HI : Hid (Calls Tryz.prog 162 #[vv, Clos b] w fun e w' => ∃ r : Int, e = .returned (.int .i64 r) ∧ (0 ≤ r ↔ (code, ys) ∈ LL) ∧ Below w.heap.size w w') := indexFunc_any base b code a2 n2 c2 ys vv L LL w hL hc ht hb h1 h2 hy
 obtain ⟨B, hB⟩ : ∃ B, decide ((code, ys) ∈ LL) = B := ⟨_, rfl⟩
 have HB : Hid (decide ((code, ys) ∈ LL) = B) := hB
 rw [hB]
 obtain ⟨av, cv, rfl⟩ := com_slice hc
 clear hc ht h1 h2 hy hB hL
 go_enter Tryz.func132, Tryz.ntmps132
 go_wp2_with fail
 refine HI.out.mono ?_
 rintro e w1 ⟨r, rfl, hr, hb1⟩
 have HR : Hid (0 ≤ r ↔ (code, ys) ∈ LL) := hr
 clear hr
 go_wp2
 go_ret
 refine ⟨?_, hb1⟩
 rw [← HB.out, decide_eq_decide.2 HR.out.symm]
 rfl
end
section
open Go.ChangeShapes Go.WideShapes Go.ChangeAt Go.RowKit Go.Maps
theorem allow_boxes {w W0 w' : World} {a1 a2 : Option Addr} {n1 c1 n2 c2 : Nat} {st kind k v code : Int} (hW : W0 = ((w.alloc (.cells #[.slice a1 n1 c1, .int .i64 st] 41)).alloc (.cells #[.int .i64 kind, .int .i64 k, .int .i64 v] 81)).alloc (.cells #[.int .i64 code, .slice a2 n2 c2] 82))
   (hb : Below (w.heap.size + 1 + 1 + 1) W0 w') :
   (w'.cell? ⟨w.heap.size, 0, none⟩ = some (.slice a1 n1 c1) ∧ w'.cell? ⟨w.heap.size, 1, none⟩ = some (.int .i64 st) ∧ w'.cell? ⟨w.heap.size + 1, 0, none⟩ = some (.int .i64 kind) ∧ w'.cell? ⟨w.heap.size + 1, 1, none⟩ = some (.int .i64 k) ∧ w'.cell? ⟨w.heap.size + 1, 2, none⟩ = some (.int .i64 v) ∧ w'.cell? ⟨w.heap.size + 1 + 1, 0, none⟩ = some (.int .i64 code) ∧ w'.cell? ⟨w.heap.size + 1 + 1, 1, none⟩ = some (.slice a2 n2 c2)) ∧ Below w.heap.size w w' := by
 subst hW
 have h := args_at w _ _ _ _ _ _ w' hb
 exact ⟨⟨h.1 0 _ rfl, h.1 1 _ rfl, h.2.1 0 _ rfl, h.2.1 1 _ rfl, h.2.1 2 _ rfl, h.2.2 0 _ rfl, h.2.2 1 _ rfl⟩, ((((Below.refl _ w).alloc (Nat.le_refl _) _).alloc (by simp) _).alloc (by simp; omega) _).trans (hb.mono (by omega))⟩
end
end Go.Proofs.YtbfolanfbagofaaGreatDoor
