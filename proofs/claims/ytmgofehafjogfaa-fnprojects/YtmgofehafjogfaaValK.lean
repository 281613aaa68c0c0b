/- The laws' own helpers that mark a list of values and ask for the marks, walked. -/
import Derived.Test.YtmgofehafjogfaaVasO
import Derived.Test.YtmgofehafjogfaaMark
import Derived.Test.YtmgofehafjogfaaDrawF
import Derived.WalkSmall
import Derived.Deep.RegionHeld3
import Derived.Deep.Cut
namespace Go.Proofs.Ytmgofehafjogfaa
open Go.ChangeShapes Go.WideShapes Go.ChangeAt Go.RowKit

/-- The marks that are laid, from 1 on. -/
def markV (i : Nat) : Va3 := ((i : Int) * 3 + 1, (i : Int) * 3 + 2, ⟨(markS (i * 3 + 3)).toArray⟩)
def marksV (n : Nat) : List Va3 := (List.range n).map markV
theorem marksV_len (n : Nat) : (marksV n).length = n := by simp [marksV]
theorem marksV_at {n i : Nat} (h : i < n) : (marksV n)[i]? = some (markV i) := by simp [marksV, h]
theorem set_three {α : Type} (a : List α) (x y z x' y' z' : α) (r : List α) (k : Nat) (hk : a.length = k) : ((((a ++ x :: y :: z :: r).set k x').set (k + 1) y').set (k + 2) z') = a ++ x' :: y' :: z' :: r := by
  subst hk
  rw [List.set_append_right _ _ (Nat.le_refl _), Nat.sub_self, List.set_cons_zero, List.set_append_right _ _ (by omega), show a.length + 1 - a.length = 0 + 1 by omega, List.set_cons_succ, List.set_cons_zero, List.set_append_right _ _ (by omega), show a.length + 2 - a.length = 0 + 1 + 1 by omega, List.set_cons_succ, List.set_cons_succ, List.set_cons_zero]
theorem markV_step (n j : Nat) (L : List Va3) (hx : L.length = n) (h : j < n) :
    (((vaC (marksV j ++ L.drop j)).set (j * 3) (.int .i64 (markV j).1)).set (j * 3 + 1) (.int .i64 (markV j).2.1)).set (j * 3 + 2) (.string (markV j).2.2) = vaC (marksV (j + 1) ++ L.drop (j + 1)) := by
  have e : marksV (j + 1) = marksV j ++ [markV j] := by simp [marksV, List.range_succ]
  rw [List.drop_eq_getElem_cons (show j < L.length by omega), vaC_append, vaC, set_three _ _ _ _ _ _ _ _ _ (by rw [vaC_length, marksV_len]), e, vaC_append, vaC_append, List.append_assoc]
  rfl
theorem grown_set {w0 w : World} {g : Nat} (h : w0.grownBy w (some g)) (i : Nat) (v : Value) : w0.grownBy (w.setCell ⟨g, i, none⟩ v) (some g) :=
  ⟨h.os, h.tape, h.output, by simpa [World.setCell] using h.size, fun k hk hr => by rw [Below.heap_setCell _ _ _ _ (fun e => hr (by simp at e; simp [e]))]; exact h.block k hk hr⟩
set_option maxHeartbeats 2000000 in
theorem markValueS_own (base g n cap : Nat) (L : List Va3) (w : World) (hx : L.length = n) (hn : n ≤ 2097152)
    (hown : w.ownsRow base 43 3 (.slice (some ⟨g, 0, none⟩) n cap) n (vaC L)) :
    Calls Try.prog 39 #[(.slice (some ⟨g, 0, none⟩) n cap), .int .i64 1] w fun e w' =>
      e = .returned (.int .i64 ((n : Int) * 3 + 1)) ∧ w'.ownsRow base 43 3 (.slice (some ⟨g, 0, none⟩) n cap) n (vaC (marksV n)) ∧ w.grownBy w' (some g) := by
  have HX : Hid (L.length = n) := hx
  have HOWN : Hid (w.ownsRow base 43 3 (.slice (some ⟨g, 0, none⟩) n cap) n (vaC L)) := hown
  clear hx hown
  go_enter Try.func39, Try.ntmps39
  go_wp2
  go_loopw [1, 5] (fun q i wr => ∃ j : Nat, j ≤ n ∧ q = .int .i64 ((j : Int) * 3 + 1) ∧ i = .int .i64 (j : Int) ∧ wr.ownsRow base 43 3 (.slice (some ⟨g, 0, none⟩) n cap) n (vaC (marksV j ++ L.drop j)) ∧ w.grownBy wr (some g)) (fun _ i _ => n - (intOf i).toNat)
  case atStart => exact ⟨0, Nat.zero_le _, rfl, rfl, by simpa [marksV] using HOWN.out, far_only (Only.refl g w)⟩
  case round =>
    obtain ⟨j, hj, rfl, rfl, ho, hb⟩ := hrel
    have HO : Hid (wr.ownsRow base 43 3 (.slice (some ⟨g, 0, none⟩) n cap) n (vaC (marksV j ++ L.drop j))) := ho
    have HB : Hid (w.grownBy wr (some g)) := hb
    have hj0 : (0 : Int) ≤ (j : Int) := by omega
    have hjm : (j : Int) ≤ 2097152 := by omega
    clear ho hb
    by_cases hlt : j < n
    · have hjn : (j : Int) < (n : Int) := by omega
      obtain ⟨q, hq⟩ : ∃ q : Int, (j : Int) * 3 + 1 = q := ⟨_, rfl⟩
      have HQ : Hid ((j : Int) * 3 + 1 = q) := hq
      have hq0 : 0 ≤ q := by omega
      have hq1 : q ≤ 10000000 := by omega
      rw [HQ.out]
      clear hq
      have hlen : (vaC (marksV j ++ L.drop j)).length = n * 3 := by rw [vaC_length, List.length_append, marksV_len, List.length_drop]; have := HX.out; omega
      have o1 := HO.out.stored (j * 3) (.int .i64 q)
      have o2 := o1.1.stored (j * 3 + 1) (.int .i64 (q + 1))
      obtain ⟨u0, hu0⟩ : ∃ u, (vaC (marksV j ++ L.drop j))[j * 3]? = some u := ⟨_, List.getElem?_eq_getElem (by omega)⟩
      obtain ⟨u1, hu1⟩ : ∃ u, ((vaC (marksV j ++ L.drop j)).set (j * 3) (.int .i64 q))[j * 3 + 1]? = some u := ⟨_, List.getElem?_eq_getElem (by rw [List.length_set]; omega)⟩
      obtain ⟨u2, hu2⟩ : ∃ u, (((vaC (marksV j ++ L.drop j)).set (j * 3) (.int .i64 q)).set (j * 3 + 1) (.int .i64 (q + 1)))[j * 3 + 2]? = some u := ⟨_, List.getElem?_eq_getElem (by rw [List.length_set, List.length_set]; omega)⟩
      have c0 := own_cellV HO.out hu0
      have f0 := HO.out.frozenAt (j * 3)
      have c1 := own_cellV o1.1 hu1
      have f1 := o1.1.frozenAt (j * 3 + 1)
      have O2 : Hid (((wr.setCell ⟨g, j * 3, none⟩ (.int .i64 q)).setCell ⟨g, j * 3 + 1, none⟩ (.int .i64 (q + 1))).ownsRow base 43 3 (.slice (some ⟨g, 0, none⟩) n cap) n _) := o2.1
      have HU2 := hu2
      clear hu2
      have B2 : Hid (w.grownBy ((wr.setCell ⟨g, j * 3, none⟩ (.int .i64 q)).setCell ⟨g, j * 3 + 1, none⟩ (.int .i64 (q + 1))) (some g)) := grown_set (grown_set HB.out _ _) _ _
      clear o1 o2 hu0 hu1
      go_upto_region 8 with (fail)
      have hk3 : q + 1 + 1 = ((j * 3 + 3 : Nat) : Int) := by have := HQ.out; omega
      rw [hk3]
      obtain ⟨W5, hW5⟩ : ∃ W5, (wr.setCell ⟨g, j * 3, none⟩ (.int .i64 q)).setCell ⟨g, j * 3 + 1, none⟩ (.int .i64 (q + 1)) = W5 := ⟨_, rfl⟩
      rw [hW5] at O2 B2 ⊢
      clear c0 c1 f0 f1 hk3 hW5
      go_upto_region 9 with
        (go_at_call 76
         refine (markText_any (j * 3 + 3) (by omega) (by omega) W5).mono ?_
         rintro e w6 ⟨rfl, hb6⟩
         have HB6 : Hid (Below W5.heap.size W5 w6) := hb6
         have O6 : Hid (w6.ownsRow base 43 3 (.slice (some ⟨g, 0, none⟩) n cap) n _) := owns_below O2.out hb6 (Nat.le_refl _)
         have c2 := own_cellV O6.out HU2
         have f2 := O6.out.frozenAt (j * 3 + 2)
         clear hb6)
      have o7 := (O6.out.stored (j * 3 + 2) (.string ⟨(markS (j * 3 + 3)).toArray⟩)).1
      have e1 : Value.int .i64 q = .int .i64 (markV j).1 := by rw [← HQ.out]; rfl
      have e2 : Value.int .i64 (q + 1) = .int .i64 (markV j).2.1 := by rw [← HQ.out]; show Value.int .i64 _ = .int .i64 ((j : Int) * 3 + 2); rw [show (j : Int) * 3 + 1 + 1 = (j : Int) * 3 + 2 by omega]
      rw [e1, e2, show Value.string ⟨(markS (j * 3 + 3)).toArray⟩ = .string (markV j).2.2 from rfl, markV_step n j L HX.out hlt] at o7
      have O7 : Hid (World.ownsRow _ base 43 3 (.slice (some ⟨g, 0, none⟩) n cap) n (vaC (marksV (j + 1) ++ L.drop (j + 1)))) := o7
      have B7 : Hid (w.grownBy (w6.setCell ⟨g, j * 3 + 2, none⟩ (.string ⟨(markS (j * 3 + 3)).toArray⟩)) (some g)) := grown_set (B2.out.trans (far_below HB6.out _)) _ _
      clear o7 e1 e2 c2 f2
      go_wp2
      go_roundw
      case rel => exact ⟨j + 1, by omega, by go_num, by go_num, O7.out, B7.out⟩
      case measure => simp [intOf]; omega
    · obtain rfl : n = j := by omega
      have ho := HO.out
      rw [List.drop_of_length_le (by have := HX.out; omega), List.append_nil] at ho
      have HO' := Hid.out (p := World.ownsRow _ _ _ _ _ _ _) ho
      go_wp2
      go_ret
      exact ⟨rfl, HO', HB.out⟩
theorem markValueS_none (cap : Nat) (w : World) :
    Calls Try.prog 39 #[.slice none 0 cap, .int .i64 1] w fun e w' => e = .returned (.int .i64 1) ∧ w' = w := by
  go_enter Try.func39, Try.ntmps39
  go_wp2
  go_loopw [1, 5] (fun q i wr => q = .int .i64 1 ∧ i = .int .i64 0 ∧ wr = w) (fun _ _ _ => 0)
  case atStart => exact ⟨rfl, rfl, rfl⟩
  case round =>
    obtain ⟨rfl, rfl, rfl⟩ := hrel
    go_wp2
    go_ret
    exact ⟨rfl, rfl⟩
set_option maxHeartbeats 2000000 in
theorem heldValueS_any (a : Option Addr) (n cap : Nat) (w : World) (h : VasAt w a n (marksV n)) :
    Calls Try.prog 41 #[.slice a n cap, .int .i64 1] w fun e w' => e = .returned (.int .i64 ((n : Int) * 3 + 1)) ∧ Below w.heap.size w w' := by
  have HA : Hid (VasAt w a n (marksV n)) := h
  have hn := h.2.1
  clear h
  go_enter Try.func41, Try.ntmps41
  go_wp2
  go_loopw [1, 5] (fun q i wr => ∃ j : Nat, j ≤ n ∧ q = .int .i64 ((j : Int) * 3 + 1) ∧ i = .int .i64 (j : Int) ∧ Below w.heap.size w wr) (fun _ i _ => n - (intOf i).toNat)
  case atStart => exact ⟨0, Nat.zero_le _, rfl, rfl, Below.refl _ _⟩
  case round =>
    obtain ⟨j, hj, rfl, rfl, hb⟩ := hrel
    have HB : Hid (Below w.heap.size w wr) := hb
    have hj0 : (0 : Int) ≤ (j : Int) := by omega
    have hjm : (j : Int) ≤ 2097152 := by omega
    clear hb
    by_cases hlt : j < n
    · rcases (HA.out.below HB.out (Nat.le_refl _)).2.2 with h0 | ⟨b, o, rfl, g1⟩
      · omega
      obtain ⟨e1, e2, e3⟩ := g1 j _ (marksV_at hlt)
      have hjn : (j : Int) < (n : Int) := by omega
      obtain ⟨q, hq⟩ : ∃ q : Int, (j : Int) * 3 + 1 = q := ⟨_, rfl⟩
      have HQ : Hid ((j : Int) * 3 + 1 = q) := hq
      have hq0 : 0 ≤ q := by omega
      have hq1 : q ≤ 10000000 := by omega
      have e1' : wr.cell? ⟨b, o + j * 3, none⟩ = some (.int .i64 q) := by rw [e1, ← hq]; rfl
      have e2' : wr.cell? ⟨b, o + j * 3 + 1, none⟩ = some (.int .i64 (q + 1)) := by rw [e2, ← hq]; show some (Value.int .i64 ((j : Int) * 3 + 2)) = _; rw [show (j : Int) * 3 + 1 + 1 = (j : Int) * 3 + 2 by omega]
      have e3' : wr.cell? ⟨b, o + j * 3 + 2, none⟩ = some (.string ⟨(markS (j * 3 + 3)).toArray⟩) := e3
      have LB : b < wr.heap.size := World.block_lt_of_cell? wr _ e3
      have K0 : Hid (wr.drew.cell? ⟨b, o + j * 3 + 2, none⟩ = some (.string ⟨(markS (j * 3 + 3)).toArray⟩)) := e3
      rw [HQ.out]
      clear g1 e1 e2 e3 hq
      go_upto_region 10 with (fail)
      have hk3 : q + 1 + 1 = ((j * 3 + 3 : Nat) : Int) := by have := HQ.out; omega
      rw [hk3]
      clear hk3 e1' e2'
      go_region_held3 (fun w' => w'.cell? ⟨b, o + j * 3 + 2, none⟩ = some (.string ⟨(markS (j * 3 + 3)).toArray⟩))
        (first | (with_reducible exact K1.out) | (with_reducible exact K0.out) | go_keep)
        (first
        | (go_at_call 76
           refine (markText_any (j * 3 + 3) (by omega) (by omega) _).mono ?_
           rintro e w6 ⟨rfl, hb6⟩
           have hb6' : Below wr.heap.size wr w6 := (Below.refl _ wr).drew.trans hb6
           have HB6 : Hid (Below wr.heap.size wr w6) := hb6'
           have K1 : Hid (w6.cell? ⟨b, o + j * 3 + 2, none⟩ = some (.string ⟨(markS (j * 3 + 3)).toArray⟩)) := (hb6'.cell LB).trans e3'
           clear hb6 hb6'))
      clear e3'
      go_wp2
      go_roundw
      case rel => exact ⟨j + 1, by omega, by go_num, by go_num, HB.out.trans (HB6.out.mono HB.out.size)⟩
      case measure => simp [intOf]; omega
    · obtain rfl : n = j := by omega
      go_wp2
      go_ret
      exact ⟨rfl, HB.out⟩
end Go.Proofs.Ytmgofehafjogfaa
