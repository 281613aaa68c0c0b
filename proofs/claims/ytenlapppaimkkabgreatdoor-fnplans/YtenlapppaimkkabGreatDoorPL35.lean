/- Texts joined: EqualI, ImplRes, Finds, ImplAllow, ImplTurn. -/
import Derived.Test.YtenlapppaimkkabGreatDoorPL03
import Derived.Handy
import Derived.Test.YtenlapppaimkkabGreatDoorPL34
import Derived.Test.YtenlapppaimkkabGreatDoorPL19
import Derived.Test.YtenlapppaimkkabGreatDoorPL21
import Derived.Test.YtenlapppaimkkabGreatDoorPL02
set_option maxHeartbeats 2000000
set_option maxRecDepth 100000
namespace Go.Proofs.YtenlapppaimkkabGreatDoor
section
open Go.ChangeShapes Go.WideShapes Go.ChangeAt Go.RowKit
theorem equalI_any (a1 a2 : Option Addr) (n1 n2 c1 c2 : Nat) (xs ys : List Int) (w : World) (h1 : IntAt w a1 n1 xs) (h2 : IntAt w a2 n2 ys) :
    Calls Tryz.prog 86 #[.slice a1 n1 c1, .slice a2 n2 c2] w fun e w' => e = .returned (.bool (decide (xs = ys))) ∧ Below w.heap.size w w' := by
  have H1 : Hid (IntAt w a1 n1 xs) := h1
  have H2 : Hid (IntAt w a2 n2 ys) := h2
  have L1 : Hid (xs.length = n1) := h1.1
  have L2 : Hid (ys.length = n2) := h2.1
  have b1 := h1.2.1
  have b2 := h2.2.1
  obtain ⟨B, hB⟩ : ∃ B, decide (xs = ys) = B := ⟨_, rfl⟩
  rw [hB]
  have HB : Hid (decide (xs = ys) = B) := hB
  clear h1 h2 hB
  by_cases hn : n1 = n2
  · subst hn
    go_enter Tryz.func86, Tryz.ntmps86
    go_wp2
    go_loopw [13] (fun i wr => ∃ k : Nat, k ≤ n1 ∧ i = .int .i64 k ∧ xs.take k = ys.take k ∧ Below w.heap.size w wr) (fun i _ => n1 - (intOf i).toNat)
    case atStart => exact ⟨0, Nat.zero_le _, rfl, rfl, Below.refl _ _⟩
    case round =>
      obtain ⟨k, hk1, rfl, ht, hb⟩ := hrel
      have HT : Hid (xs.take k = ys.take k) := ht
      clear ht
      by_cases hlt1 : k < n1
      · rcases (H1.out.below hb (Nat.le_refl _)).2.2 with h | ⟨p1, o1, rfl, g1⟩
        · omega
        rcases (H2.out.below hb (Nat.le_refl _)).2.2 with h | ⟨p2, o2, rfl, g2⟩
        · omega
        obtain ⟨x, hx⟩ : ∃ x, xs.getD k 0 = x := ⟨_, rfl⟩
        obtain ⟨y, hy⟩ : ∃ y, ys.getD k 0 = y := ⟨_, rfl⟩
        have e1 := g1 k hlt1
        have e2 := g2 k hlt1
        rw [hx] at e1
        rw [hy] at e2
        have HX : Hid (xs.getD k 0 = x) := hx
        have HY : Hid (ys.getD k 0 = y) := hy
        clear g1 g2 hx hy
        go_wp2
        go_region
        go_wp2
        · have hd : (x != y) = true := by assumption
          go_ret
          refine ⟨?_, hb.drew⟩
          have e : xs ≠ ys := fun e => by rw [← HX.out, ← HY.out, e] at hd; simp at hd
          rw [← HB.out]
          simp [e]
        · have hd : (x != y) = false := by assumption
          have l1 := L1.out
          have l2 := L2.out
          exact ⟨⟨k + 1, by omega, by go_num, take_nextI (by omega) (by omega) HT.out (by rw [HX.out, HY.out]; simpa using hd), hb.drew⟩, by simp [intOf]; omega⟩
      · obtain rfl : k = n1 := by omega
        go_wp2
        go_ret
        refine ⟨?_, hb⟩
        have l1 := L1.out
        have l2 := L2.out
        have e : xs = ys := by
          have e0 := HT.out
          rwa [List.take_of_length_le (by omega), List.take_of_length_le (by omega)] at e0
        rw [← HB.out]
        simp [e]
  · have hne : ((n1 : Int) != (n2 : Int)) = true := by simp; omega
    have hxy : xs ≠ ys := fun e => by have l1 := L1.out; have l2 := L2.out; rw [e] at l1; omega
    have HX : Hid (xs ≠ ys) := hxy
    clear hxy
    go_enter Tryz.func86, Tryz.ntmps86
    go_wp2
    go_ret
    refine ⟨?_, Below.refl _ _⟩
    rw [← HB.out]
    simp [HX.out]

theorem implResSame_any (a1 a2 : Option Addr) (n1 n2 c1 c2 : Nat) (k1 k2 : Int) (xs ys : List Int) (w : World) (h1 : IntAt w a1 n1 xs) (h2 : IntAt w a2 n2 ys) :
    Calls Tryz.prog 44 #[ResV k1 a1 n1 c1, ResV k2 a2 n2 c2] w fun e w' => e = .returned (.bool (decide (k1 = k2 ∧ xs = ys))) ∧ Below w.heap.size w w' := by
  have H1 : Hid (IntAt w a1 n1 xs) := h1
  have H2 : Hid (IntAt w a2 n2 ys) := h2
  obtain ⟨B, hB⟩ : ∃ B, decide (k1 = k2 ∧ xs = ys) = B := ⟨_, rfl⟩
  rw [hB]
  have HB : Hid (decide (k1 = k2 ∧ xs = ys) = B) := hB
  clear h1 h2 hB
  by_cases hk : k1 = k2
  · subst hk
    go_enter Tryz.func44, Tryz.ntmps44
    go_wp2_with fail
    have hb0 : Below w.heap.size w ((w.alloc (.cells #[.int .i64 k1, .slice a1 n1 c1] 33)).alloc (.cells #[.int .i64 k1, .slice a2 n2 c2] 33)) := ((Below.refl _ w).alloc (Nat.le_refl _) _).alloc (by simp) _
    refine (equalI_any a1 a2 n1 n2 c1 c2 xs ys _ (H1.out.below hb0 (Nat.le_refl _)) (H2.out.below hb0 (Nat.le_refl _))).mono ?_
    rintro e w1 ⟨rfl, hb1⟩
    have hb2 := hb0.trans (hb1.mono (by simp; omega))
    clear hb0 hb1
    by_cases hx : xs = ys
    · rw [show decide (xs = ys) = true from decide_eq_true hx]
      have HX : Hid (xs = ys) := hx
      clear hx
      go_wp2
      go_ret
      exact ⟨by rw [← HB.out]; simp [HX.out], hb2⟩
    · rw [show decide (xs = ys) = false from decide_eq_false hx]
      have HX : Hid (¬ xs = ys) := hx
      clear hx
      go_wp2
      go_ret
      exact ⟨by rw [← HB.out]; simp [HX.out], hb2⟩
  · have hk' : (k1 == k2) = false := by simpa using hk
    have HK : Hid (¬ k1 = k2) := hk
    clear hk
    go_enter Tryz.func44, Tryz.ntmps44
    go_wp2
    go_ret
    refine ⟨?_, ((Below.refl _ _).alloc (Nat.le_refl _) _).alloc (by simp) _⟩
    rw [← HB.out]
    simp [HK.out]
end
end Go.Proofs.YtenlapppaimkkabGreatDoor

namespace Go.Proofs.YtenlapppaimkkabGreatDoor
section
open Go.ChangeShapes Go.WideShapes Go.ChangeAt Go.RowKit
theorem clos_any (b : Nat) (code code2 : Int) (a a2 : Option Addr) (n n2 c c2 : Nat) (xs ys : List Int) (w : World) (hb : b < w.heap.size) (h1 : w.cell? ⟨b, 0, none⟩ = some (.int .i64 code2)) (h2 : w.cell? ⟨b, 1, none⟩ = some (.slice a2 n2 c2)) (hx : IntAt w a n xs) (hy : IntAt w a2 n2 ys) :
    Calls Tryz.prog 43 #[ResV code a n c, .pointer (some ⟨b, 0, none⟩)] w fun e w' => e = .returned (.bool (decide (code = code2 ∧ xs = ys))) ∧ Below w.heap.size w w' := by
  have HX : Hid (IntAt w a n xs) := hx
  have HY : Hid (IntAt w a2 n2 ys) := hy
  obtain ⟨B, hB⟩ : ∃ B, decide (code = code2 ∧ xs = ys) = B := ⟨_, rfl⟩
  have HB : Hid (decide (code = code2 ∧ xs = ys) = B) := hB
  rw [hB]
  clear hx hy hB
  go_enter Tryz.func43, Tryz.ntmps43
  go_wp2_with fail
  have hb0 : Below w.heap.size w (w.alloc (.cells #[.int .i64 code, .slice a n c] 33)) := (Below.refl _ w).alloc (Nat.le_refl _) _
  refine (implResSame_any a a2 n n2 c c2 code code2 xs ys _ (HX.out.below hb0 (Nat.le_refl _)) (HY.out.below hb0 (Nat.le_refl _))).mono ?_
  rintro e w1 ⟨rfl, hb1⟩
  have hb2 := hb0.trans (hb1.mono (by simp))
  rw [HB.out]
  clear hb0 hb1
  go_wp2
  go_ret
  exact ⟨rfl, hb2⟩

theorem cellsC_at {L : List (Int × Value)} {k : Nat} {r : Int × Value} (h : L[k]? = some r) : (cellsC L)[k * 2]? = some (.int .i64 r.1) ∧ (cellsC L)[k * 2 + 1]? = some r.2 := by
  induction L generalizing k with
  | nil => simp at h
  | cons x L ih =>
    cases k with
    | zero => simp only [List.getElem?_cons_zero, Option.some.injEq] at h; subst h; simp [cellsC]
    | succ k =>
      have h' : L[k]? = some r := by simpa using h
      have := ih h'
      simp only [cellsC, List.flatMap_cons, List.cons_append, List.nil_append] at this ⊢
      rw [show (k + 1) * 2 = k * 2 + 1 + 1 by omega, List.getElem?_cons_succ, List.getElem?_cons_succ, List.getElem?_cons_succ, List.getElem?_cons_succ]
      exact this
theorem com_cells {w : World} {base : Nat} {v : Value} {L : List (Int × Value)} (h : ComAt w base v L) {k : Nat} {r : Int × Value} (hr : L[k]? = some r) :
    ∃ g cap, v = .slice (some ⟨g, 0, none⟩) L.length cap ∧ g < w.heap.size ∧ w.cell? ⟨g, k * 2, none⟩ = some (.int .i64 r.1) ∧ w.cell? ⟨g, k * 2 + 1, none⟩ = some r.2 := by
  have hk : k < L.length := (List.getElem?_eq_some_iff.1 hr).1
  rcases h.2 with ⟨_, h0⟩ | ⟨g, cap, cur, rfl, _, hg, hcap, _, hsz, ht⟩
  · omega
  have hlt : g < w.heap.size := (Array.getElem?_eq_some_iff.1 hg).1
  obtain ⟨c0, c1⟩ := cellsC_at hr
  rw [← ht] at c0 c1
  have e0 : cur[k * 2]? = some (.int .i64 r.1) := by
    rw [List.getElem?_take] at c0
    split at c0
    · simpa using c0
    · cases c0
  have e1 : cur[k * 2 + 1]? = some r.2 := by
    rw [List.getElem?_take] at c1
    split at c1
    · simpa using c1
    · cases c1
  exact ⟨g, cap, rfl, hlt, by simp [World.cell?, hg, e0], by simp [World.cell?, hg, e1]⟩
theorem TellsAs.len {w : World} : ∀ {L : List (Int × Value)} {LL : List (Int × List Int)}, TellsAs w L LL → L.length = LL.length
  | [], [], _ => rfl
  | _ :: _, _ :: _, h => by simp [TellsAs.len h.2]
  | [], _ :: _, h => h.elim
  | _ :: _, [], h => h.elim
theorem TellsAs.at {w : World} : ∀ {L : List (Int × Value)} {LL : List (Int × List Int)}, TellsAs w L LL → ∀ {k : Nat} {q : Int × List Int}, LL[k]? = some q → ∃ a n c, L[k]? = some (q.1, .slice a n c) ∧ IntAt w a n q.2
  | [], [], _, k, q, h => by simp at h
  | r :: _, _ :: _, h, 0, q, hq => by
    simp only [List.getElem?_cons_zero, Option.some.injEq] at hq
    subst hq
    obtain ⟨⟨h1, a, n, c, h2, h3⟩, _⟩ := h
    exact ⟨a, n, c, by simp only [List.getElem?_cons_zero, Option.some.injEq]; rw [← h1, ← h2], h3⟩
  | _ :: _, _ :: _, h, k + 1, q, hq => by
    simp only [List.getElem?_cons_succ] at hq ⊢
    exact TellsAs.at h.2 hq
  | [], _ :: _, h, _, _, _ => h.elim
  | _ :: _, [], h, _, _, _ => h.elim

abbrev Clos (b : Nat) : Value := .func (.func 43) #[] #[.pointer (some ⟨b, 0, none⟩)]

theorem com_slice {w : World} {base : Nat} {v : Value} {L : List (Int × Value)} (h : ComAt w base v L) : ∃ a c, v = .slice a L.length c := by
  rcases h.2 with ⟨rfl, h0⟩ | ⟨g, cap, cur, rfl, _⟩
  · exact ⟨none, 0, by rw [h0]⟩
  · exact ⟨_, cap, rfl⟩
theorem no_more {α : Type} {LL : List α} {k : Nat} {q y : α} (h : y ∉ LL.take k) (hq : LL[k]? = some q) (hne : q ≠ y) : y ∉ LL.take (k + 1) := by
  rw [List.take_add_one, hq]
  simp only [Option.toList_some, List.mem_append, List.mem_singleton, not_or]
  exact ⟨h, fun e => hne e.symm⟩

theorem indexFunc_any (base b : Nat) (code : Int) (a2 : Option Addr) (n2 c2 : Nat) (ys : List Int) (vv : Value) (L : List (Int × Value)) (LL : List (Int × List Int)) (w : World) (hL : L.length ≤ 4) (hc : ComAt w base vv L) (ht : TellsAs w L LL)
    (hb : b < w.heap.size) (h1 : w.cell? ⟨b, 0, none⟩ = some (.int .i64 code)) (h2 : w.cell? ⟨b, 1, none⟩ = some (.slice a2 n2 c2)) (hy : IntAt w a2 n2 ys) :
    Calls Tryz.prog 83 #[vv, Clos b] w fun e w' => ∃ r : Int, e = .returned (.int .i64 r) ∧ (0 ≤ r ↔ (code, ys) ∈ LL) ∧ Below w.heap.size w w' := by
  have HC : Hid (ComAt w base vv L) := hc
  have HT : Hid (TellsAs w L LL) := ht
  have H1 : Hid (w.cell? ⟨b, 0, none⟩ = some (.int .i64 code)) := h1
  have H2 : Hid (w.cell? ⟨b, 1, none⟩ = some (.slice a2 n2 c2)) := h2
  have HY : Hid (IntAt w a2 n2 ys) := hy
  have HLL : Hid (L.length = LL.length) := ht.len
  obtain ⟨av, cv, rfl⟩ := com_slice hc
  obtain ⟨n, hn⟩ : ∃ n, L.length = n := ⟨_, rfl⟩
  rw [hn] at hL HLL
  have HN : Hid (L.length = n) := hn
  rw [hn]
  clear hc ht h1 h2 hy hn
  go_enter Tryz.func83, Tryz.ntmps83
  go_wp2
  go_loopw [8] (fun i wr => ∃ k : Nat, k ≤ n ∧ i = .int .i64 k ∧ (code, ys) ∉ LL.take k ∧ Below w.heap.size w wr) (fun i _ => n - (intOf i).toNat)
  case atStart => exact ⟨0, Nat.zero_le _, rfl, by simp, Below.refl _ _⟩
  case round =>
    obtain ⟨k, hk, rfl, hno, hbr⟩ := hrel
    have HNO : Hid ((code, ys) ∉ LL.take k) := hno
    clear hno
    by_cases hlt : k < n
    · obtain ⟨q, hq⟩ : ∃ q, LL[k]? = some q := ⟨_, List.getElem?_eq_getElem (by rw [← HLL.out]; exact hlt)⟩
      obtain ⟨a, m, c, hLk, hat⟩ := HT.out.at hq
      obtain ⟨g, cap, e, hg, g0, g1⟩ := com_cells HC.out hLk
      cases e
      have e0 : _ = _ := (hbr.cell (show g < w.heap.size from hg)).trans g0
      have e1 : _ = _ := (hbr.cell (show g < w.heap.size from hg)).trans g1
      have hk0 : (0 : Int) ≤ (k : Int) := by omega
      have hk1 : (k : Int) < (n : Int) := by omega
      have HAT : Hid (IntAt w a m q.2) := hat
      have HQ : Hid (LL[k]? = some q) := hq
      clear g0 g1 hat hq hLk
      go_wp2_with fail
      have hlb : b < wr.heap.size := Nat.lt_of_lt_of_le hb hbr.size
      refine (clos_any b q.1 code a a2 m n2 c c2 q.2 ys _ hlb ((hbr.cell (show b < w.heap.size from hb)).trans H1.out) ((hbr.cell (show b < w.heap.size from hb)).trans H2.out) (HAT.out.below hbr (Nat.le_refl _)) (HY.out.below hbr (Nat.le_refl _))).mono ?_
      rintro e w1 ⟨rfl, hb1⟩
      have hb2 := hbr.trans (hb1.mono hbr.size)
      clear hb1 e0 e1
      by_cases hh : q.1 = code ∧ q.2 = ys
      · rw [show decide (q.1 = code ∧ q.2 = ys) = true from decide_eq_true hh]
        have HH : Hid ((code, ys) ∈ LL) := by
          have e : q = (code, ys) := by rw [← hh.1, ← hh.2]
          rw [← e]
          exact List.mem_of_getElem? HQ.out
        clear hh
        go_wp2
        go_ret
        exact ⟨_, rfl, ⟨fun _ => HH.out, fun _ => hk0⟩, hb2⟩
      · rw [show decide (q.1 = code ∧ q.2 = ys) = false from decide_eq_false hh]
        have HH : Hid (q ≠ (code, ys)) := fun e => hh (by rw [e]; exact ⟨rfl, rfl⟩)
        clear hh
        go_wp2
        exact ⟨⟨k + 1, by omega, by go_num, no_more HNO.out HQ.out HH.out, hb2⟩, by simp [intOf]; omega⟩
    · obtain rfl : k = n := by omega
      go_wp2
      go_ret
      refine ⟨_, rfl, ?_, hbr⟩
      have h := HNO.out
      rw [HLL.out, List.take_length] at h
      simp [h]

theorem containsFunc_any (base b : Nat) (code : Int) (a2 : Option Addr) (n2 c2 : Nat) (ys : List Int) (vv : Value) (L : List (Int × Value)) (LL : List (Int × List Int)) (w : World) (hL : L.length ≤ 4) (hc : ComAt w base vv L) (ht : TellsAs w L LL)
    (hb : b < w.heap.size) (h1 : w.cell? ⟨b, 0, none⟩ = some (.int .i64 code)) (h2 : w.cell? ⟨b, 1, none⟩ = some (.slice a2 n2 c2)) (hy : IntAt w a2 n2 ys) :
    Calls Tryz.prog 41 #[vv, Clos b] w fun e w' => e = .returned (.bool (decide ((code, ys) ∈ LL))) ∧ Below w.heap.size w w' := by
  have HI : Hid (Calls Tryz.prog 83 #[vv, Clos b] w fun e w' => ∃ r : Int, e = .returned (.int .i64 r) ∧ (0 ≤ r ↔ (code, ys) ∈ LL) ∧ Below w.heap.size w w') := indexFunc_any base b code a2 n2 c2 ys vv L LL w hL hc ht hb h1 h2 hy
  obtain ⟨B, hB⟩ : ∃ B, decide ((code, ys) ∈ LL) = B := ⟨_, rfl⟩
  have HB : Hid (decide ((code, ys) ∈ LL) = B) := hB
  rw [hB]
  obtain ⟨av, cv, rfl⟩ := com_slice hc
  clear hc ht h1 h2 hy hB hL
  go_enter Tryz.func41, Tryz.ntmps41
  go_wp2_with fail
  refine HI.out.mono ?_
  rintro e w1 ⟨r, rfl, hr, hb1⟩
  have HR : Hid (0 ≤ r ↔ (code, ys) ∈ LL) := hr
  clear hr
  go_wp2
  go_ret
  refine ⟨?_, hb1⟩
  rw [← HB.out, decide_eq_decide.2 HR.out.symm]
  rfl
end
section
open Go.ChangeShapes Go.WideShapes Go.ChangeAt Go.RowKit Go.Maps
theorem allow_boxes {w W0 w' : World} {a1 a2 : Option Addr} {n1 c1 n2 c2 : Nat} {st kind k v code : Int} (hW : W0 = ((w.alloc (.cells #[.slice a1 n1 c1, .int .i64 st] 26)).alloc (.cells #[.int .i64 kind, .int .i64 k, .int .i64 v] 28)).alloc (.cells #[.int .i64 code, .slice a2 n2 c2] 33))
    (hb : Below (w.heap.size + 1 + 1 + 1) W0 w') :
    (w'.cell? ⟨w.heap.size, 0, none⟩ = some (.slice a1 n1 c1) ∧ w'.cell? ⟨w.heap.size, 1, none⟩ = some (.int .i64 st) ∧ w'.cell? ⟨w.heap.size + 1, 0, none⟩ = some (.int .i64 kind) ∧ w'.cell? ⟨w.heap.size + 1, 1, none⟩ = some (.int .i64 k) ∧ w'.cell? ⟨w.heap.size + 1, 2, none⟩ = some (.int .i64 v) ∧ w'.cell? ⟨w.heap.size + 1 + 1, 0, none⟩ = some (.int .i64 code) ∧ w'.cell? ⟨w.heap.size + 1 + 1, 1, none⟩ = some (.slice a2 n2 c2)) ∧ Below w.heap.size w w' := by
  subst hW
  have h := args_at w _ _ _ _ _ _ w' hb
  exact ⟨⟨h.1 0 _ rfl, h.1 1 _ rfl, h.2.1 0 _ rfl, h.2.1 1 _ rfl, h.2.1 2 _ rfl, h.2.2 0 _ rfl, h.2.2 1 _ rfl⟩, ((((Below.refl _ w).alloc (Nat.le_refl _) _).alloc (by simp) _).alloc (by simp; omega) _).trans (hb.mono (by omega))⟩

theorem implRowsOk_cap (a : Option Addr) (n cp : Nat) (st : Int) (xs : List Int) (w : World) (hA : IntAt w a n xs) (hi : ∀ x ∈ xs, (Lit.int .i64 x).wf = true) (hcp : n = 4 → cp = 4) :
    Calls Tryz.prog 10 #[.agg #[.slice a n cp, .int .i64 st]] w fun e w' => Says e (OkRows xs st) ∧ Below w.heap.size w w' := by
  by_cases hn : n = 4
  · obtain rfl : cp = n := by rw [hn]; exact hcp hn
    exact implRowsOk_any a cp st xs w hA hi
  · have hb := hA.2.1
    have h1 : Hid (¬ OkRows xs st) := fun h => hn (hA.1.symm.trans h.1)
    have hne : ((n : Int) != 4) = true := by simp; omega
    clear hA hi hcp
    go_enter Tryz.func10, Tryz.ntmps10
    go_wp2
    go_ret
    exact ⟨⟨false, rfl, by simp [h1.out]⟩, (Below.refl _ _).alloc (Nat.le_refl _) _⟩

theorem implAllowed_cap (p o n1 cp n2 c2 : Nat) (a2 : Option Addr) (st kind k v code : Int) (xs ys : List Int) (w : World) (hcp : n1 = 4 → cp = 4) (hA : IntAt w (some ⟨p, o, none⟩) n1 xs) (hB : IntAt w a2 n2 ys) (hi : ∀ x ∈ xs, (Lit.int .i64 x).wf = true) :
    Calls Tryz.prog 12 #[.agg #[.slice (some ⟨p, o, none⟩) n1 cp, .int .i64 st], OpV kind k v, ResV code a2 n2 c2] w fun e w' => Says e (AllowM xs st kind k v code ys) ∧ Below w.heap.size w w' := by
  have HA : Hid (IntAt w (some ⟨p, o, none⟩) n1 xs) := hA
  have HY : Hid (IntAt w a2 n2 ys) := hB
  have HI : Hid (∀ x ∈ xs, (Lit.int .i64 x).wf = true) := hi
  clear hA hB hi
  obtain ⟨W0, hW0⟩ : ∃ W0, W0 = ((w.alloc (.cells #[.slice (some ⟨p, o, none⟩) n1 cp, .int .i64 st] 26)).alloc (.cells #[.int .i64 kind, .int .i64 k, .int .i64 v] 28)).alloc (.cells #[.int .i64 code, .slice a2 n2 c2] 33) := ⟨_, rfl⟩
  have hs0 : W0.heap.size = w.heap.size + 1 + 1 + 1 := by rw [hW0]; simp
  have HBX : Hid (∀ w', Below (w.heap.size + 1 + 1 + 1) W0 w' → (w'.cell? ⟨w.heap.size, 0, none⟩ = some (.slice (some ⟨p, o, none⟩) n1 cp) ∧ w'.cell? ⟨w.heap.size, 1, none⟩ = some (.int .i64 st) ∧ w'.cell? ⟨w.heap.size + 1, 0, none⟩ = some (.int .i64 kind) ∧ w'.cell? ⟨w.heap.size + 1, 1, none⟩ = some (.int .i64 k) ∧ w'.cell? ⟨w.heap.size + 1, 2, none⟩ = some (.int .i64 v) ∧ w'.cell? ⟨w.heap.size + 1 + 1, 0, none⟩ = some (.int .i64 code) ∧ w'.cell? ⟨w.heap.size + 1 + 1, 1, none⟩ = some (.slice a2 n2 c2)) ∧ Below w.heap.size w w') := fun w' hb => allow_boxes hW0 hb
  go_enter Tryz.func12, Tryz.ntmps12
  go_wp2_with fail
  rw [← hW0]
  clear hW0
  have hb0 : Below (w.heap.size + 1 + 1 + 1) W0 W0 := Below.refl _ _
  refine (implRowsOk_cap _ n1 cp st xs _ (HA.out.below (HBX.out _ hb0).2 (Nat.le_refl _)) HI.out hcp).mono ?_
  rintro e w1 ⟨⟨ok, rfl, hok⟩, hb1⟩
  have hb1 : Below (w.heap.size + 1 + 1 + 1) W0 w1 := hb0.trans (hb1.mono (by omega))
  have hs1 : w.heap.size + 1 + 1 + 1 ≤ w1.heap.size := by have h := hb1.size; omega
  obtain ⟨⟨d0, d1, d2, d3, d4, d5, d6⟩, bw1⟩ := HBX.out _ hb1
  cases ok with
  | false =>
    have HN : Hid (¬ OkRows xs st) := fun h => by cases hok.2 h
    clear hok
    go_wp2
    go_ret
    exact ⟨⟨false, rfl, by simp [AllowM, HN.out]⟩, bw1⟩
  | true =>
    have HO : Hid (OkRows xs st) := hok.1 rfl
    clear hok hb0
    obtain rfl : n1 = 4 := by rw [← HA.out.1]; exact HO.out.1
    obtain rfl : cp = 4 := hcp rfl
    clear hcp
    go_wp2_with fail
    refine (implOpOk_any kind k v _).mono ?_
    rintro e w2 ⟨rfl, hb2⟩
    have hb2 : Below (w.heap.size + 1 + 1 + 1) W0 w2 := hb1.trans (hb2.mono (by omega))
    have hs2 : w.heap.size + 1 + 1 + 1 ≤ w2.heap.size := by have h := hb2.size; omega
    clear d0 d1 d2 d3 d4 d5 d6 bw1 hb1 hs1
    obtain ⟨⟨d0, d1, d2, d3, d4, d5, d6⟩, bw2⟩ := HBX.out _ hb2
    by_cases hop : OpGood kind k v
    · rw [show decide (OpGood kind k v) = true from decide_eq_true hop]
      have HP : Hid (OpGood kind k v) := hop
      clear hop
      go_wp2_with fail
      go_region_held3 (fun w' => w'.cell? ⟨w.heap.size, 0, none⟩ = some (.slice (some ⟨p, o, none⟩) 4 4) ∧ w'.cell? ⟨w.heap.size, 1, none⟩ = some (.int .i64 st) ∧ w'.cell? ⟨w.heap.size + 1, 0, none⟩ = some (.int .i64 kind) ∧ w'.cell? ⟨w.heap.size + 1, 1, none⟩ = some (.int .i64 k) ∧ w'.cell? ⟨w.heap.size + 1, 2, none⟩ = some (.int .i64 v) ∧ w'.cell? ⟨w.heap.size + 1 + 1, 0, none⟩ = some (.int .i64 code) ∧ w'.cell? ⟨w.heap.size + 1 + 1, 1, none⟩ = some (.slice a2 n2 c2))
        (first | (exact (HBX.out _ hb5).1) | (exact (HBX.out _ hb4).1) | (exact (HBX.out _ hb3).1) | (exact (HBX.out _ hb2.drew).1) | (exact (HBX.out _ hb2).1) | go_keep)
        (first
        | (go_at_call 22
           refine (implDeedOf_any kind k v _).mono ?_
           rintro e w3 ⟨rfl, hb3⟩
           have hb3 : Below (w.heap.size + 1 + 1 + 1) W0 w3 := hb2.drew.trans (hb3.mono (by simp; omega))
           have hs3 : w.heap.size + 1 + 1 + 1 ≤ w3.heap.size := by have h := hb3.size; omega)
        | (go_at_call 42
           refine (comAny p o st kind k v xs _ (HA.out.below (HBX.out _ hb3).2 (Nat.le_refl _)) HI.out HP.out).mono ?_
           rintro e w4 ⟨⟨vv, L, rfl, hc4, ht4⟩, hb4⟩
           have hb4 : Below (w.heap.size + 1 + 1 + 1) W0 w4 := hb3.trans (hb4.mono (by omega))
           have hs4 : w.heap.size + 1 + 1 + 1 ≤ w4.heap.size := by have h := hb4.size; omega)
        | (go_at_call 41
           refine (containsFunc_any _ (w.heap.size + 1 + 1) code a2 n2 c2 ys vv L _ _ (by rw [ht4.len]; exact comLL_len _ _ _ _ _) hc4 ht4 (by omega) (HBX.out _ hb4).1.2.2.2.2.2.1 (HBX.out _ hb4).1.2.2.2.2.2.2 (HY.out.below (HBX.out _ hb4).2 (Nat.le_refl _))).mono ?_
           rintro e w5 ⟨rfl, hb5⟩
           have hb5 : Below (w.heap.size + 1 + 1 + 1) W0 w5 := hb4.trans (hb5.mono (by omega))))
      all_goals
        go_wp2
        go_ret
        refine ⟨⟨_, rfl, ?_⟩, (HBX.out _ hb5).2⟩
        rw [decide_eq_true_iff, com_mem xs st kind k v code ys ⟨HO.out.2.1, HO.out.2.2.1⟩ HP.out.1]
        exact ⟨fun h => ⟨HO.out, HP.out, h⟩, fun h => h.2.2⟩
    · rw [show decide (OpGood kind k v) = false from decide_eq_false hop]
      have HP : Hid (¬ OpGood kind k v) := hop
      clear hop
      go_wp2
      go_ret
      exact ⟨⟨false, rfl, by simp [AllowM, HP.out]⟩, bw2⟩
end
section
open Go.ChangeShapes Go.WideShapes Go.ChangeAt Go.RowKit
theorem turn_4 (base g c : Nat) (st : Int) (xs : List Int) (w : World) (hown : w.ownsRow base 3 1 (.slice (some ⟨g, 0, none⟩) 4 c) 4 (xs.map I)) (hb : base ≤ w.heap.size) (k v : Int) :
    Calls Tryz.prog 51 #[.agg #[.slice (some ⟨g, 0, none⟩) 4 c, .int .i64 st], .iface 96 (OpV 4 (k) (v))] w fun e w' => e = .returned (.agg #[.slice (some ⟨g, 0, none⟩) 4 c, .int .i64 st]) ∧ w'.ownsRow base 3 1 (.slice (some ⟨g, 0, none⟩) 4 c) 4 ((xs).map I) ∧ Below base w w' := by
  have hgl : g < w.heap.size := (hown.lt g rfl).2
  have hgb : base ≤ g := (hown.lt g rfl).1
  have OWN : Hid (w.ownsRow base 3 1 (.slice (some ⟨g, 0, none⟩) 4 c) 4 (xs.map I)) := hown
  clear hown
  have t1 : ∀ w : World, (Instr.typeAssert (.iface 96 (OpV 4 (k) (v))) 56 93 true).run Tryz.prog w = .ok (.tuple #[OpV 0 0 0, .bool false]) w := fun _ => by kernel_rfl
  have t2 : ∀ w : World, (Instr.typeAssert (.iface 96 (OpV 4 (k) (v))) 56 94 true).run Tryz.prog w = .ok (.tuple #[OpV 0 0 0, .bool false]) w := fun _ => by kernel_rfl
  have t3 : ∀ w : World, (Instr.typeAssert (.iface 96 (OpV 4 (k) (v))) 56 95 true).run Tryz.prog w = .ok (.tuple #[OpV 0 0 0, .bool false]) w := fun _ => by kernel_rfl
  have t8 : ∀ w : World, (Instr.typeAssert (.iface 96 (OpV 4 (k) (v))) 56 100 true).run Tryz.prog w = .ok (.tuple #[OpV 0 0 0, .bool false]) w := fun _ => by kernel_rfl
  have t9 : ∀ w : World, (Instr.typeAssert (.iface 96 (OpV 4 (k) (v))) 56 101 true).run Tryz.prog w = .ok (.tuple #[OpV 0 0 0, .bool false]) w := fun _ => by kernel_rfl
  go_enter Tryz.func51, Tryz.ntmps51
  go_wp2
  (try simp only [Exit.inBlock, Exit.then])
  refine bodyPost_ret (by simp [results, Tryz.results51, go_sem]; try rfl) rfl ?_
  exact ⟨rfl, (OWN.out.alloc _).alloc _, ((Below.refl base w).alloc hb _).alloc (by simp; omega) _⟩

theorem turn_5 (base g c : Nat) (st : Int) (xs : List Int) (w : World) (hown : w.ownsRow base 3 1 (.slice (some ⟨g, 0, none⟩) 4 c) 4 (xs.map I)) (hb : base ≤ w.heap.size) (k v : Int) :
    Calls Tryz.prog 51 #[.agg #[.slice (some ⟨g, 0, none⟩) 4 c, .int .i64 st], .iface 97 (OpV 5 (k) (v))] w fun e w' => e = .returned (.agg #[.slice (some ⟨g, 0, none⟩) 4 c, .int .i64 st]) ∧ w'.ownsRow base 3 1 (.slice (some ⟨g, 0, none⟩) 4 c) 4 ((xs).map I) ∧ Below base w w' := by
  have hgl : g < w.heap.size := (hown.lt g rfl).2
  have hgb : base ≤ g := (hown.lt g rfl).1
  have OWN : Hid (w.ownsRow base 3 1 (.slice (some ⟨g, 0, none⟩) 4 c) 4 (xs.map I)) := hown
  clear hown
  have t1 : ∀ w : World, (Instr.typeAssert (.iface 97 (OpV 5 (k) (v))) 56 93 true).run Tryz.prog w = .ok (.tuple #[OpV 0 0 0, .bool false]) w := fun _ => by kernel_rfl
  have t2 : ∀ w : World, (Instr.typeAssert (.iface 97 (OpV 5 (k) (v))) 56 94 true).run Tryz.prog w = .ok (.tuple #[OpV 0 0 0, .bool false]) w := fun _ => by kernel_rfl
  have t3 : ∀ w : World, (Instr.typeAssert (.iface 97 (OpV 5 (k) (v))) 56 95 true).run Tryz.prog w = .ok (.tuple #[OpV 0 0 0, .bool false]) w := fun _ => by kernel_rfl
  have t8 : ∀ w : World, (Instr.typeAssert (.iface 97 (OpV 5 (k) (v))) 56 100 true).run Tryz.prog w = .ok (.tuple #[OpV 0 0 0, .bool false]) w := fun _ => by kernel_rfl
  have t9 : ∀ w : World, (Instr.typeAssert (.iface 97 (OpV 5 (k) (v))) 56 101 true).run Tryz.prog w = .ok (.tuple #[OpV 0 0 0, .bool false]) w := fun _ => by kernel_rfl
  go_enter Tryz.func51, Tryz.ntmps51
  go_wp2
  (try simp only [Exit.inBlock, Exit.then])
  refine bodyPost_ret (by simp [results, Tryz.results51, go_sem]; try rfl) rfl ?_
  exact ⟨rfl, (OWN.out.alloc _).alloc _, ((Below.refl base w).alloc hb _).alloc (by simp; omega) _⟩

theorem turn_6 (base g c : Nat) (st : Int) (xs : List Int) (w : World) (hown : w.ownsRow base 3 1 (.slice (some ⟨g, 0, none⟩) 4 c) 4 (xs.map I)) (hb : base ≤ w.heap.size) (k v : Int) :
    Calls Tryz.prog 51 #[.agg #[.slice (some ⟨g, 0, none⟩) 4 c, .int .i64 st], .iface 98 (OpV 6 (k) (v))] w fun e w' => e = .returned (.agg #[.slice (some ⟨g, 0, none⟩) 4 c, .int .i64 st]) ∧ w'.ownsRow base 3 1 (.slice (some ⟨g, 0, none⟩) 4 c) 4 ((xs).map I) ∧ Below base w w' := by
  have hgl : g < w.heap.size := (hown.lt g rfl).2
  have hgb : base ≤ g := (hown.lt g rfl).1
  have OWN : Hid (w.ownsRow base 3 1 (.slice (some ⟨g, 0, none⟩) 4 c) 4 (xs.map I)) := hown
  clear hown
  have t1 : ∀ w : World, (Instr.typeAssert (.iface 98 (OpV 6 (k) (v))) 56 93 true).run Tryz.prog w = .ok (.tuple #[OpV 0 0 0, .bool false]) w := fun _ => by kernel_rfl
  have t2 : ∀ w : World, (Instr.typeAssert (.iface 98 (OpV 6 (k) (v))) 56 94 true).run Tryz.prog w = .ok (.tuple #[OpV 0 0 0, .bool false]) w := fun _ => by kernel_rfl
  have t3 : ∀ w : World, (Instr.typeAssert (.iface 98 (OpV 6 (k) (v))) 56 95 true).run Tryz.prog w = .ok (.tuple #[OpV 0 0 0, .bool false]) w := fun _ => by kernel_rfl
  have t8 : ∀ w : World, (Instr.typeAssert (.iface 98 (OpV 6 (k) (v))) 56 100 true).run Tryz.prog w = .ok (.tuple #[OpV 0 0 0, .bool false]) w := fun _ => by kernel_rfl
  have t9 : ∀ w : World, (Instr.typeAssert (.iface 98 (OpV 6 (k) (v))) 56 101 true).run Tryz.prog w = .ok (.tuple #[OpV 0 0 0, .bool false]) w := fun _ => by kernel_rfl
  go_enter Tryz.func51, Tryz.ntmps51
  go_wp2
  (try simp only [Exit.inBlock, Exit.then])
  refine bodyPost_ret (by simp [results, Tryz.results51, go_sem]; try rfl) rfl ?_
  exact ⟨rfl, (OWN.out.alloc _).alloc _, ((Below.refl base w).alloc hb _).alloc (by simp; omega) _⟩

theorem turn_7 (base g c : Nat) (st : Int) (xs : List Int) (w : World) (hown : w.ownsRow base 3 1 (.slice (some ⟨g, 0, none⟩) 4 c) 4 (xs.map I)) (hb : base ≤ w.heap.size) (k v : Int) :
    Calls Tryz.prog 51 #[.agg #[.slice (some ⟨g, 0, none⟩) 4 c, .int .i64 st], .iface 99 (OpV 7 (k) (v))] w fun e w' => e = .returned (.agg #[.slice (some ⟨g, 0, none⟩) 4 c, .int .i64 st]) ∧ w'.ownsRow base 3 1 (.slice (some ⟨g, 0, none⟩) 4 c) 4 ((xs).map I) ∧ Below base w w' := by
  have hgl : g < w.heap.size := (hown.lt g rfl).2
  have hgb : base ≤ g := (hown.lt g rfl).1
  have OWN : Hid (w.ownsRow base 3 1 (.slice (some ⟨g, 0, none⟩) 4 c) 4 (xs.map I)) := hown
  clear hown
  have t1 : ∀ w : World, (Instr.typeAssert (.iface 99 (OpV 7 (k) (v))) 56 93 true).run Tryz.prog w = .ok (.tuple #[OpV 0 0 0, .bool false]) w := fun _ => by kernel_rfl
  have t2 : ∀ w : World, (Instr.typeAssert (.iface 99 (OpV 7 (k) (v))) 56 94 true).run Tryz.prog w = .ok (.tuple #[OpV 0 0 0, .bool false]) w := fun _ => by kernel_rfl
  have t3 : ∀ w : World, (Instr.typeAssert (.iface 99 (OpV 7 (k) (v))) 56 95 true).run Tryz.prog w = .ok (.tuple #[OpV 0 0 0, .bool false]) w := fun _ => by kernel_rfl
  have t8 : ∀ w : World, (Instr.typeAssert (.iface 99 (OpV 7 (k) (v))) 56 100 true).run Tryz.prog w = .ok (.tuple #[OpV 0 0 0, .bool false]) w := fun _ => by kernel_rfl
  have t9 : ∀ w : World, (Instr.typeAssert (.iface 99 (OpV 7 (k) (v))) 56 101 true).run Tryz.prog w = .ok (.tuple #[OpV 0 0 0, .bool false]) w := fun _ => by kernel_rfl
  go_enter Tryz.func51, Tryz.ntmps51
  go_wp2
  (try simp only [Exit.inBlock, Exit.then])
  refine bodyPost_ret (by simp [results, Tryz.results51, go_sem]; try rfl) rfl ?_
  exact ⟨rfl, (OWN.out.alloc _).alloc _, ((Below.refl base w).alloc hb _).alloc (by simp; omega) _⟩

theorem turn_10 (base g c : Nat) (st : Int) (xs : List Int) (w : World) (hown : w.ownsRow base 3 1 (.slice (some ⟨g, 0, none⟩) 4 c) 4 (xs.map I)) (hb : base ≤ w.heap.size) (k v : Int) :
    Calls Tryz.prog 51 #[.agg #[.slice (some ⟨g, 0, none⟩) 4 c, .int .i64 st], .iface 102 (OpV 10 (k) (v))] w fun e w' => e = .returned (.agg #[.slice (some ⟨g, 0, none⟩) 4 c, .int .i64 st]) ∧ w'.ownsRow base 3 1 (.slice (some ⟨g, 0, none⟩) 4 c) 4 ((xs).map I) ∧ Below base w w' := by
  have hgl : g < w.heap.size := (hown.lt g rfl).2
  have hgb : base ≤ g := (hown.lt g rfl).1
  have OWN : Hid (w.ownsRow base 3 1 (.slice (some ⟨g, 0, none⟩) 4 c) 4 (xs.map I)) := hown
  clear hown
  have t1 : ∀ w : World, (Instr.typeAssert (.iface 102 (OpV 10 (k) (v))) 56 93 true).run Tryz.prog w = .ok (.tuple #[OpV 0 0 0, .bool false]) w := fun _ => by kernel_rfl
  have t2 : ∀ w : World, (Instr.typeAssert (.iface 102 (OpV 10 (k) (v))) 56 94 true).run Tryz.prog w = .ok (.tuple #[OpV 0 0 0, .bool false]) w := fun _ => by kernel_rfl
  have t3 : ∀ w : World, (Instr.typeAssert (.iface 102 (OpV 10 (k) (v))) 56 95 true).run Tryz.prog w = .ok (.tuple #[OpV 0 0 0, .bool false]) w := fun _ => by kernel_rfl
  have t8 : ∀ w : World, (Instr.typeAssert (.iface 102 (OpV 10 (k) (v))) 56 100 true).run Tryz.prog w = .ok (.tuple #[OpV 0 0 0, .bool false]) w := fun _ => by kernel_rfl
  have t9 : ∀ w : World, (Instr.typeAssert (.iface 102 (OpV 10 (k) (v))) 56 101 true).run Tryz.prog w = .ok (.tuple #[OpV 0 0 0, .bool false]) w := fun _ => by kernel_rfl
  go_enter Tryz.func51, Tryz.ntmps51
  go_wp2
  (try simp only [Exit.inBlock, Exit.then])
  refine bodyPost_ret (by simp [results, Tryz.results51, go_sem]; try rfl) rfl ?_
  exact ⟨rfl, (OWN.out.alloc _).alloc _, ((Below.refl base w).alloc hb _).alloc (by simp; omega) _⟩

theorem turn_8 (base g c : Nat) (st : Int) (xs : List Int) (w : World) (hown : w.ownsRow base 3 1 (.slice (some ⟨g, 0, none⟩) 4 c) 4 (xs.map I)) (hb : base ≤ w.heap.size) (k v : Int) (hst : 0 ≤ st ∧ st ≤ 5) :
    Calls Tryz.prog 51 #[.agg #[.slice (some ⟨g, 0, none⟩) 4 c, .int .i64 st], .iface 100 (OpV 8 (k) (v))] w fun e w' => e = .returned (.agg #[.slice (some ⟨g, 0, none⟩) 4 c, .int .i64 (st + 1)]) ∧ w'.ownsRow base 3 1 (.slice (some ⟨g, 0, none⟩) 4 c) 4 ((xs).map I) ∧ Below base w w' := by
  have hgl : g < w.heap.size := (hown.lt g rfl).2
  have hgb : base ≤ g := (hown.lt g rfl).1
  have OWN : Hid (w.ownsRow base 3 1 (.slice (some ⟨g, 0, none⟩) 4 c) 4 (xs.map I)) := hown
  clear hown
  have t1 : ∀ w : World, (Instr.typeAssert (.iface 100 (OpV 8 (k) (v))) 56 93 true).run Tryz.prog w = .ok (.tuple #[OpV 0 0 0, .bool false]) w := fun _ => by kernel_rfl
  have t2 : ∀ w : World, (Instr.typeAssert (.iface 100 (OpV 8 (k) (v))) 56 94 true).run Tryz.prog w = .ok (.tuple #[OpV 0 0 0, .bool false]) w := fun _ => by kernel_rfl
  have t3 : ∀ w : World, (Instr.typeAssert (.iface 100 (OpV 8 (k) (v))) 56 95 true).run Tryz.prog w = .ok (.tuple #[OpV 0 0 0, .bool false]) w := fun _ => by kernel_rfl
  have t8 : ∀ w : World, (Instr.typeAssert (.iface 100 (OpV 8 (k) (v))) 56 100 true).run Tryz.prog w = .ok (.tuple #[OpV 8 (k) (v), .bool true]) w := fun _ => by kernel_rfl
  have t9 : ∀ w : World, (Instr.typeAssert (.iface 100 (OpV 8 (k) (v))) 56 101 true).run Tryz.prog w = .ok (.tuple #[OpV 0 0 0, .bool false]) w := fun _ => by kernel_rfl
  go_enter Tryz.func51, Tryz.ntmps51
  have hst0 := hst.1
  have hst1 := hst.2
  go_wp2
  (try simp only [Exit.inBlock, Exit.then])
  refine bodyPost_ret (by simp [results, Tryz.results51, go_sem]; try rfl) rfl ?_
  exact ⟨rfl, (OWN.out.alloc _).alloc _, ((Below.refl base w).alloc hb _).alloc (by simp; omega) _⟩

theorem turn_9 (base g c : Nat) (st : Int) (xs : List Int) (w : World) (hown : w.ownsRow base 3 1 (.slice (some ⟨g, 0, none⟩) 4 c) 4 (xs.map I)) (hb : base ≤ w.heap.size) (k v : Int) (hst : 0 ≤ st ∧ st ≤ 5) :
    Calls Tryz.prog 51 #[.agg #[.slice (some ⟨g, 0, none⟩) 4 c, .int .i64 st], .iface 101 (OpV 9 (k) (v))] w fun e w' => e = .returned (.agg #[.slice (some ⟨g, 0, none⟩) 4 c, .int .i64 (st + 1)]) ∧ w'.ownsRow base 3 1 (.slice (some ⟨g, 0, none⟩) 4 c) 4 ((xs).map I) ∧ Below base w w' := by
  have hgl : g < w.heap.size := (hown.lt g rfl).2
  have hgb : base ≤ g := (hown.lt g rfl).1
  have OWN : Hid (w.ownsRow base 3 1 (.slice (some ⟨g, 0, none⟩) 4 c) 4 (xs.map I)) := hown
  clear hown
  have t1 : ∀ w : World, (Instr.typeAssert (.iface 101 (OpV 9 (k) (v))) 56 93 true).run Tryz.prog w = .ok (.tuple #[OpV 0 0 0, .bool false]) w := fun _ => by kernel_rfl
  have t2 : ∀ w : World, (Instr.typeAssert (.iface 101 (OpV 9 (k) (v))) 56 94 true).run Tryz.prog w = .ok (.tuple #[OpV 0 0 0, .bool false]) w := fun _ => by kernel_rfl
  have t3 : ∀ w : World, (Instr.typeAssert (.iface 101 (OpV 9 (k) (v))) 56 95 true).run Tryz.prog w = .ok (.tuple #[OpV 0 0 0, .bool false]) w := fun _ => by kernel_rfl
  have t8 : ∀ w : World, (Instr.typeAssert (.iface 101 (OpV 9 (k) (v))) 56 100 true).run Tryz.prog w = .ok (.tuple #[OpV 0 0 0, .bool false]) w := fun _ => by kernel_rfl
  have t9 : ∀ w : World, (Instr.typeAssert (.iface 101 (OpV 9 (k) (v))) 56 101 true).run Tryz.prog w = .ok (.tuple #[OpV 9 (k) (v), .bool true]) w := fun _ => by kernel_rfl
  go_enter Tryz.func51, Tryz.ntmps51
  have hst0 := hst.1
  have hst1 := hst.2
  go_wp2
  (try simp only [Exit.inBlock, Exit.then])
  refine bodyPost_ret (by simp [results, Tryz.results51, go_sem]; try rfl) rfl ?_
  exact ⟨rfl, (OWN.out.alloc _).alloc _, ((Below.refl base w).alloc hb _).alloc (by simp; omega) _⟩

theorem turn_1 (base g c : Nat) (st : Int) (xs : List Int) (w : World) (hown : w.ownsRow base 3 1 (.slice (some ⟨g, 0, none⟩) 4 c) 4 (xs.map I)) (hb : base ≤ w.heap.size) (m : Nat) (v : Int) (hm : m < 4) :
    Calls Tryz.prog 51 #[.agg #[.slice (some ⟨g, 0, none⟩) 4 c, .int .i64 st], .iface 93 (OpV 1 ((m : Int)) (v))] w fun e w' => e = .returned (.agg #[.slice (some ⟨g, 0, none⟩) 4 c, .int .i64 st]) ∧ w'.ownsRow base 3 1 (.slice (some ⟨g, 0, none⟩) 4 c) 4 ((xs.set m v).map I) ∧ Below base w w' := by
  have hgl : g < w.heap.size := (hown.lt g rfl).2
  have hgb : base ≤ g := (hown.lt g rfl).1
  have OWN : Hid (w.ownsRow base 3 1 (.slice (some ⟨g, 0, none⟩) 4 c) 4 (xs.map I)) := hown
  clear hown
  have t1 : ∀ w : World, (Instr.typeAssert (.iface 93 (OpV 1 ((m : Int)) (v))) 56 93 true).run Tryz.prog w = .ok (.tuple #[OpV 1 ((m : Int)) (v), .bool true]) w := fun _ => by kernel_rfl
  go_enter Tryz.func51, Tryz.ntmps51
  have hm0 : (0 : Int) ≤ (m : Int) := by omega
  have hm1 : (m : Int) < 4 := by omega
  obtain ⟨u0, hu⟩ := own_cell OWN.out hm
  have hu3 : (((w.alloc (.cells #[.slice (some ⟨g, 0, none⟩) 4 c, .int .i64 st] 26)).alloc (.cells #[.slice none 0 0, .int .i64 0] 26)).alloc (.cells #[.int .i64 1, .int .i64 m, .int .i64 v] 93)).cell? ⟨g, m, none⟩ = some u0 := by rw [World.cell?_alloc_past _ _ _ (by simp; omega), World.cell?_alloc_past _ _ _ (by simp; omega), World.cell?_alloc_past _ _ _ hgl, hu]
  have hz3 : (((w.alloc (.cells #[.slice (some ⟨g, 0, none⟩) 4 c, .int .i64 st] 26)).alloc (.cells #[.slice none 0 0, .int .i64 0] 26)).alloc (.cells #[.int .i64 1, .int .i64 m, .int .i64 v] 93)).frozen? ⟨g, m, none⟩ = false := (((OWN.out.alloc _).alloc _).alloc _).frozenAt m
  have HST : Hid (((((w.alloc (.cells #[.slice (some ⟨g, 0, none⟩) 4 c, .int .i64 st] 26)).alloc (.cells #[.slice none 0 0, .int .i64 0] 26)).alloc (.cells #[.int .i64 1, .int .i64 m, .int .i64 v] 93)).setCell ⟨g, m, none⟩ (I v)).ownsRow base 3 1 (.slice (some ⟨g, 0, none⟩) 4 c) 4 ((xs.set m v).map I)) := by
    rw [List.map_set]
    exact ((((OWN.out.alloc _).alloc _).alloc _).stored m (I v)).1
  go_wp2
  (try simp only [Exit.inBlock, Exit.then])
  refine bodyPost_ret (by simp [results, Tryz.results51, go_sem]; try rfl) rfl ?_
  exact ⟨rfl, own_setCell_far (own_setCell_far HST.out (by simp [Value.ownBlock]; omega) _) (by simp [Value.ownBlock]; omega) _, ((((((Below.refl base w).alloc hb _).alloc (by simp; omega) _).alloc (by simp; omega) _).setCell hgb _).setCell (by simp; omega) _).setCell (by simp; omega) _⟩

theorem turn_2 (base g c : Nat) (st : Int) (xs : List Int) (w : World) (hown : w.ownsRow base 3 1 (.slice (some ⟨g, 0, none⟩) 4 c) 4 (xs.map I)) (hb : base ≤ w.heap.size) (m : Nat) (v : Int) (hm : m < 4) :
    Calls Tryz.prog 51 #[.agg #[.slice (some ⟨g, 0, none⟩) 4 c, .int .i64 st], .iface 94 (OpV 2 ((m : Int)) (v))] w fun e w' => e = .returned (.agg #[.slice (some ⟨g, 0, none⟩) 4 c, .int .i64 st]) ∧ w'.ownsRow base 3 1 (.slice (some ⟨g, 0, none⟩) 4 c) 4 ((xs.set m v).map I) ∧ Below base w w' := by
  have hgl : g < w.heap.size := (hown.lt g rfl).2
  have hgb : base ≤ g := (hown.lt g rfl).1
  have OWN : Hid (w.ownsRow base 3 1 (.slice (some ⟨g, 0, none⟩) 4 c) 4 (xs.map I)) := hown
  clear hown
  have t1 : ∀ w : World, (Instr.typeAssert (.iface 94 (OpV 2 ((m : Int)) (v))) 56 93 true).run Tryz.prog w = .ok (.tuple #[OpV 0 0 0, .bool false]) w := fun _ => by kernel_rfl
  have t2 : ∀ w : World, (Instr.typeAssert (.iface 94 (OpV 2 ((m : Int)) (v))) 56 94 true).run Tryz.prog w = .ok (.tuple #[OpV 2 ((m : Int)) (v), .bool true]) w := fun _ => by kernel_rfl
  go_enter Tryz.func51, Tryz.ntmps51
  have hm0 : (0 : Int) ≤ (m : Int) := by omega
  have hm1 : (m : Int) < 4 := by omega
  obtain ⟨u0, hu⟩ := own_cell OWN.out hm
  have hu3 : (((w.alloc (.cells #[.slice (some ⟨g, 0, none⟩) 4 c, .int .i64 st] 26)).alloc (.cells #[.slice none 0 0, .int .i64 0] 26)).alloc (.cells #[.int .i64 2, .int .i64 m, .int .i64 v] 94)).cell? ⟨g, m, none⟩ = some u0 := by rw [World.cell?_alloc_past _ _ _ (by simp; omega), World.cell?_alloc_past _ _ _ (by simp; omega), World.cell?_alloc_past _ _ _ hgl, hu]
  have hz3 : (((w.alloc (.cells #[.slice (some ⟨g, 0, none⟩) 4 c, .int .i64 st] 26)).alloc (.cells #[.slice none 0 0, .int .i64 0] 26)).alloc (.cells #[.int .i64 2, .int .i64 m, .int .i64 v] 94)).frozen? ⟨g, m, none⟩ = false := (((OWN.out.alloc _).alloc _).alloc _).frozenAt m
  have HST : Hid (((((w.alloc (.cells #[.slice (some ⟨g, 0, none⟩) 4 c, .int .i64 st] 26)).alloc (.cells #[.slice none 0 0, .int .i64 0] 26)).alloc (.cells #[.int .i64 2, .int .i64 m, .int .i64 v] 94)).setCell ⟨g, m, none⟩ (I v)).ownsRow base 3 1 (.slice (some ⟨g, 0, none⟩) 4 c) 4 ((xs.set m v).map I)) := by
    rw [List.map_set]
    exact ((((OWN.out.alloc _).alloc _).alloc _).stored m (I v)).1
  go_wp2
  (try simp only [Exit.inBlock, Exit.then])
  refine bodyPost_ret (by simp [results, Tryz.results51, go_sem]; try rfl) rfl ?_
  exact ⟨rfl, own_setCell_far (own_setCell_far HST.out (by simp [Value.ownBlock]; omega) _) (by simp [Value.ownBlock]; omega) _, ((((((Below.refl base w).alloc hb _).alloc (by simp; omega) _).alloc (by simp; omega) _).setCell hgb _).setCell (by simp; omega) _).setCell (by simp; omega) _⟩

theorem turn_3 (base g c : Nat) (st : Int) (xs : List Int) (w : World) (hown : w.ownsRow base 3 1 (.slice (some ⟨g, 0, none⟩) 4 c) 4 (xs.map I)) (hb : base ≤ w.heap.size) (m : Nat) (v : Int) (hm : m < 4) :
    Calls Tryz.prog 51 #[.agg #[.slice (some ⟨g, 0, none⟩) 4 c, .int .i64 st], .iface 95 (OpV 3 ((m : Int)) (v))] w fun e w' => e = .returned (.agg #[.slice (some ⟨g, 0, none⟩) 4 c, .int .i64 st]) ∧ w'.ownsRow base 3 1 (.slice (some ⟨g, 0, none⟩) 4 c) 4 ((xs.set m 0).map I) ∧ Below base w w' := by
  have hgl : g < w.heap.size := (hown.lt g rfl).2
  have hgb : base ≤ g := (hown.lt g rfl).1
  have OWN : Hid (w.ownsRow base 3 1 (.slice (some ⟨g, 0, none⟩) 4 c) 4 (xs.map I)) := hown
  clear hown
  have t1 : ∀ w : World, (Instr.typeAssert (.iface 95 (OpV 3 ((m : Int)) (v))) 56 93 true).run Tryz.prog w = .ok (.tuple #[OpV 0 0 0, .bool false]) w := fun _ => by kernel_rfl
  have t2 : ∀ w : World, (Instr.typeAssert (.iface 95 (OpV 3 ((m : Int)) (v))) 56 94 true).run Tryz.prog w = .ok (.tuple #[OpV 0 0 0, .bool false]) w := fun _ => by kernel_rfl
  have t3 : ∀ w : World, (Instr.typeAssert (.iface 95 (OpV 3 ((m : Int)) (v))) 56 95 true).run Tryz.prog w = .ok (.tuple #[OpV 3 ((m : Int)) (v), .bool true]) w := fun _ => by kernel_rfl
  go_enter Tryz.func51, Tryz.ntmps51
  have hm0 : (0 : Int) ≤ (m : Int) := by omega
  have hm1 : (m : Int) < 4 := by omega
  obtain ⟨u0, hu⟩ := own_cell OWN.out hm
  have hu3 : (((w.alloc (.cells #[.slice (some ⟨g, 0, none⟩) 4 c, .int .i64 st] 26)).alloc (.cells #[.slice none 0 0, .int .i64 0] 26)).alloc (.cells #[.int .i64 3, .int .i64 m, .int .i64 v] 95)).cell? ⟨g, m, none⟩ = some u0 := by rw [World.cell?_alloc_past _ _ _ (by simp; omega), World.cell?_alloc_past _ _ _ (by simp; omega), World.cell?_alloc_past _ _ _ hgl, hu]
  have hz3 : (((w.alloc (.cells #[.slice (some ⟨g, 0, none⟩) 4 c, .int .i64 st] 26)).alloc (.cells #[.slice none 0 0, .int .i64 0] 26)).alloc (.cells #[.int .i64 3, .int .i64 m, .int .i64 v] 95)).frozen? ⟨g, m, none⟩ = false := (((OWN.out.alloc _).alloc _).alloc _).frozenAt m
  have HST : Hid (((((w.alloc (.cells #[.slice (some ⟨g, 0, none⟩) 4 c, .int .i64 st] 26)).alloc (.cells #[.slice none 0 0, .int .i64 0] 26)).alloc (.cells #[.int .i64 3, .int .i64 m, .int .i64 v] 95)).setCell ⟨g, m, none⟩ (I 0)).ownsRow base 3 1 (.slice (some ⟨g, 0, none⟩) 4 c) 4 ((xs.set m 0).map I)) := by
    rw [List.map_set]
    exact ((((OWN.out.alloc _).alloc _).alloc _).stored m (I 0)).1
  go_wp2
  (try simp only [Exit.inBlock, Exit.then])
  refine bodyPost_ret (by simp [results, Tryz.results51, go_sem]; try rfl) rfl ?_
  exact ⟨rfl, own_setCell_far (own_setCell_far HST.out (by simp [Value.ownBlock]; omega) _) (by simp [Value.ownBlock]; omega) _, ((((((Below.refl base w).alloc hb _).alloc (by simp; omega) _).alloc (by simp; omega) _).setCell hgb _).setCell (by simp; omega) _).setCell (by simp; omega) _⟩

def TurnM (xs : List Int) (st kind k v : Int) (zs : List Int) (st' : Int) : Prop :=
  ((kind = 1 ∨ kind = 2) ∧ zs = xs.set k.toNat v ∧ st' = st) ∨ (kind = 3 ∧ zs = xs.set k.toNat 0 ∧ st' = st) ∨ ((kind = 8 ∨ kind = 9) ∧ zs = xs ∧ st' = st + 1) ∨ ((4 ≤ kind ∧ kind ≤ 7 ∨ kind = 10) ∧ zs = xs ∧ st' = st)
theorem turn_any (base g c : Nat) (st kind k v : Int) (xs : List Int) (w : World) (hown : w.ownsRow base 3 1 (.slice (some ⟨g, 0, none⟩) 4 c) 4 (xs.map I)) (hb : base ≤ w.heap.size) (hop : OpGood kind k v) (hst : 0 ≤ st ∧ st ≤ 5) :
    Calls Tryz.prog 51 #[.agg #[.slice (some ⟨g, 0, none⟩) 4 c, .int .i64 st], DeedV kind k v] w fun e w' => ∃ zs st', e = .returned (.agg #[.slice (some ⟨g, 0, none⟩) 4 c, .int .i64 st']) ∧ TurnM xs st kind k v zs st' ∧ w'.ownsRow base 3 1 (.slice (some ⟨g, 0, none⟩) 4 c) 4 (zs.map I) ∧ Below base w w' := by
  obtain ⟨hk, hkey, _⟩ := hop
  unfold KeyGood at hkey
  rcases kinds hk with rfl | rfl | rfl | rfl | rfl | rfl | rfl | rfl | rfl | rfl
  · obtain ⟨m, rfl⟩ : ∃ m : Nat, k = m := ⟨k.toNat, by omega⟩
    refine (turn_1 base g c st xs w hown hb m v (by omega)).mono ?_
    rintro e w' ⟨rfl, ho, hbl⟩
    exact ⟨xs.set m v, st, rfl, .inl ⟨.inl rfl, by simp, rfl⟩, ho, hbl⟩
  · obtain ⟨m, rfl⟩ : ∃ m : Nat, k = m := ⟨k.toNat, by omega⟩
    refine (turn_2 base g c st xs w hown hb m v (by omega)).mono ?_
    rintro e w' ⟨rfl, ho, hbl⟩
    exact ⟨xs.set m v, st, rfl, .inl ⟨.inr rfl, by simp, rfl⟩, ho, hbl⟩
  · obtain ⟨m, rfl⟩ : ∃ m : Nat, k = m := ⟨k.toNat, by omega⟩
    refine (turn_3 base g c st xs w hown hb m v (by omega)).mono ?_
    rintro e w' ⟨rfl, ho, hbl⟩
    exact ⟨xs.set m 0, st, rfl, .inr (.inl ⟨rfl, by simp, rfl⟩), ho, hbl⟩
  · refine (turn_4 base g c st xs w hown hb k v).mono ?_
    rintro e w' ⟨rfl, ho, hbl⟩
    exact ⟨xs, st, rfl, .inr (.inr (.inr ⟨by omega, rfl, rfl⟩)), ho, hbl⟩
  · refine (turn_5 base g c st xs w hown hb k v).mono ?_
    rintro e w' ⟨rfl, ho, hbl⟩
    exact ⟨xs, st, rfl, .inr (.inr (.inr ⟨by omega, rfl, rfl⟩)), ho, hbl⟩
  · refine (turn_6 base g c st xs w hown hb k v).mono ?_
    rintro e w' ⟨rfl, ho, hbl⟩
    exact ⟨xs, st, rfl, .inr (.inr (.inr ⟨by omega, rfl, rfl⟩)), ho, hbl⟩
  · refine (turn_7 base g c st xs w hown hb k v).mono ?_
    rintro e w' ⟨rfl, ho, hbl⟩
    exact ⟨xs, st, rfl, .inr (.inr (.inr ⟨by omega, rfl, rfl⟩)), ho, hbl⟩
  · refine (turn_8 base g c st xs w hown hb k v hst).mono ?_
    rintro e w' ⟨rfl, ho, hbl⟩
    exact ⟨xs, st + 1, rfl, .inr (.inr (.inl ⟨by omega, rfl, rfl⟩)), ho, hbl⟩
  · refine (turn_9 base g c st xs w hown hb k v hst).mono ?_
    rintro e w' ⟨rfl, ho, hbl⟩
    exact ⟨xs, st + 1, rfl, .inr (.inr (.inl ⟨by omega, rfl, rfl⟩)), ho, hbl⟩
  · refine (turn_10 base g c st xs w hown hb k v).mono ?_
    rintro e w' ⟨rfl, ho, hbl⟩
    exact ⟨xs, st, rfl, .inr (.inr (.inr ⟨by omega, rfl, rfl⟩)), ho, hbl⟩
end
end Go.Proofs.YtenlapppaimkkabGreatDoor
