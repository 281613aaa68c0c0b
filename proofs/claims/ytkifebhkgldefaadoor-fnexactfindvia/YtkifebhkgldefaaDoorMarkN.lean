/- The laws' own helpers markIntS and heldIntS, walked from the number 1 on. -/
import Derived.Test.YtkifebhkgldefaaDoorInts
import Derived.Handy
namespace Go.Proofs.YtkifebhkgldefaaDoor
open Go.ChangeShapes Go.WideShapes Go.ChangeAt Go.RowKit

/-- The numbers that markIntS lays. -/
def marksI (n : Nat) : List Int := (List.range n).map fun (i : Nat) => (i : Int) + 1
theorem marksI_len (n : Nat) : (marksI n).length = n := by simp [marksI]
theorem marksI_at (n i : Nat) (h : i < n) : (marksI n).getD i 0 = (i : Int) + 1 := by simp [marksI, List.getD, h]

theorem markI_step (n j : Nat) (xs : List Int) (hx : xs.length = n) (h : j < n) :
    ((marksI j ++ xs.drop j).map I).set j (I ((j : Int) + 1)) = (marksI (j + 1) ++ xs.drop (j + 1)).map I := by
  have e : marksI (j + 1) = marksI j ++ [(j : Int) + 1] := by simp [marksI, List.range_succ]
  rw [← List.map_set, e]
  congr 1
  rw [List.set_append_right _ _ (by simp [marksI]), show j - (marksI j).length = 0 by simp [marksI], List.drop_eq_getElem_cons (show j < xs.length by omega), List.set_cons_zero, List.append_assoc]
  rfl

set_option maxHeartbeats 400000 in
theorem markIntS_own (base g n cap : Nat) (xs : List Int) (w : World) (hx : xs.length = n) (hn : n ≤ 1099511627776)
    (hown : w.ownsRow base 3 1 (.slice (some ⟨g, 0, none⟩) n cap) n (xs.map I)) :
    Calls Tryd.prog 13 #[.slice (some ⟨g, 0, none⟩) n cap, .int .i64 1] w fun e w' =>
      e = .returned (.int .i64 ((n : Int) + 1)) ∧ w'.ownsRow base 3 1 (.slice (some ⟨g, 0, none⟩) n cap) n ((marksI n).map I) ∧ Below base w w' ∧ w'.heap.size = w.heap.size ∧ ∀ k, k ≠ g → w'.heap[k]? = w.heap[k]? := by
  have HX : Hid (xs.length = n) := hx
  clear hx
  go_enter Tryd.func13, Tryd.ntmps13
  go_wp2
  go_loopw [1, 5] (fun q i wr => ∃ j : Nat, j ≤ n ∧ q = .int .i64 ((j : Int) + 1) ∧ i = .int .i64 (j : Int) ∧ wr.ownsRow base 3 1 (.slice (some ⟨g, 0, none⟩) n cap) n ((marksI j ++ xs.drop j).map I) ∧ Below base w wr ∧ wr.heap.size = w.heap.size ∧ ∀ k, k ≠ g → wr.heap[k]? = w.heap[k]?) (fun _ i _ => n - (intOf i).toNat)
  case atStart => exact ⟨0, Nat.zero_le _, rfl, rfl, by simpa [marksI] using hown, Below.refl _ _, rfl, fun _ _ => rfl⟩
  case round =>
    obtain ⟨j, hj, rfl, rfl, ho, hb, hsz, hoth⟩ := hrel
    have HOT : Hid (∀ k, k ≠ g → wr.heap[k]? = w.heap[k]?) := hoth
    clear hown hoth
    by_cases hlt : j < n
    · have hf1 := ho.frozenAt j
      obtain ⟨u, hc1⟩ := own_cell ho hlt
      have ho1 := ho.stored j (I ((j : Int) + 1))
      rw [markI_step n j xs HX.out hlt] at ho1
      have HO1 : Hid ((wr.setCell ⟨g, j, none⟩ (I ((j : Int) + 1))).ownsRow base 3 1 (.slice (some ⟨g, 0, none⟩) n cap) n ((marksI (j + 1) ++ xs.drop (j + 1)).map I)) := ho1.1
      have hg := (own_base ho).1
      clear ho ho1
      go_wp2
      go_roundw
      case rel => exact ⟨j + 1, by omega, by go_num, by go_num, HO1.out, hb.setCell hg _, by simpa [World.setCell] using hsz, fun k hk => (Below.heap_setCell _ _ _ _ hk).trans (HOT.out k hk)⟩
      case measure => simp [intOf]; omega
    · go_wp2
      go_ret
      obtain rfl : j = n := by omega
      refine ⟨rfl, ?_, hb, hsz, HOT.out⟩
      have hx := HX.out
      rwa [List.drop_of_length_le (by omega), List.append_nil] at ho
theorem markIntS_none (a : Option Addr) (cap : Nat) (w : World) :
    Calls Tryd.prog 13 #[.slice a 0 cap, .int .i64 1] w fun e w' => e = .returned (.int .i64 1) ∧ w' = w := by
  go_enter Tryd.func13, Tryd.ntmps13
  go_wp2
  refine wp_loop_rounds 1 ?_
  rw [rounds_succ]
  go_wp2
  go_ret
  exact ⟨rfl, rfl⟩

set_option maxHeartbeats 400000 in
theorem heldIntS_any (a : Option Addr) (n cap : Nat) (w : World) (hA : IntAt w a n (marksI n)) :
    Calls Tryd.prog 20 #[.slice a n cap, .int .i64 1] w fun e w' => e = .returned (.int .i64 ((n : Int) + 1)) ∧ ∃ m, w' = w.drewN m := by
  have hn := hA.2.1
  have HC : Hid (n = 0 ∨ ∃ b o, a = some ⟨b, o, none⟩ ∧ ∀ i, i < n → w.cell? ⟨b, o + i, none⟩ = some (I ((i : Int) + 1))) := by
    rcases hA.2.2 with h | ⟨b, o, h1, h2⟩
    · exact .inl h
    · exact .inr ⟨b, o, h1, fun i hi => by rw [h2 i hi, marksI_at n i hi]⟩
  clear hA
  go_enter Tryd.func20, Tryd.ntmps20
  go_wp2
  go_loopw [1, 5] (fun q i wr => ∃ j m : Nat, j ≤ n ∧ q = .int .i64 ((j : Int) + 1) ∧ i = .int .i64 (j : Int) ∧ wr = w.drewN m) (fun _ i _ => n - (intOf i).toNat)
  case atStart => exact ⟨0, 0, Nat.zero_le _, rfl, rfl, rfl⟩
  case round =>
    obtain ⟨j, m, hj, rfl, rfl, rfl⟩ := hrel
    by_cases hlt : j < n
    · rcases HC.out with h | ⟨b, o, rfl, h1⟩
      · omega
      have e1 := h1 j hlt
      clear h1
      go_wp2
      go_roundw
      case rel => exact ⟨j + 1, m, by omega, by go_num, by go_num, rfl⟩
      case measure => simp [intOf]; omega
    · go_wp2
      go_ret
      obtain rfl : j = n := by omega
      exact ⟨rfl, m, rfl⟩

end Go.Proofs.YtkifebhkgldefaaDoor
