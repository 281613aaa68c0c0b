/- slices.Clone of ops, of pairs, of helps: lists that are copied, with memory of their own. -/
import Derived.Test.YtemeklfkbjpnmarThr
import Derived.Test.YtemeklfkbjpnmarInvReg
namespace Go.Proofs.Ytemeklfkbjpnmar
open Go.ChangeShapes Go.WideShapes Go.ChangeAt Go.RowKit Go.Joins

set_option maxHeartbeats 1000000 in
set_option maxRecDepth 100000 in
theorem cloneOp (v : Value) (n : Nat) (fs : List Int) (w : World) (h : LAt 3 w v n fs) :
    Calls Try.prog 60 #[v] w fun e w' => ∃ v', e = .returned v' ∧ w'.ownsRow w.heap.size 84 3 v' n (fs.map I) ∧ Below w.heap.size w w' := by
  obtain ⟨a, c, rfl, ⟨hc, -⟩, hA⟩ := h
  obtain ⟨i0, hi0, hz0, hz1, hz2⟩ := info_parts kInfoOp
  rcases a with _ | ad
  · obtain rfl : c = 0 := hc rfl
    obtain ⟨rfl, rfl⟩ := hA.nilE
    have hE : ∀ w : World, (binOp .eql 42 (.slice none 0 0) (.slice none 0 0)).run Try.prog w = .ok (.bool true) w := fun w => eql_nilK w Try.underlying42
    clear hA hc
    go_enter Try.func60, Try.ntmps60
    go_wp2
    go_ret
    exact ⟨_, rfl, World.ownsRow_nil _ _ _ _, Below.refl _ _⟩
  have hn := hA.2.1
  have HA : Hid (KAt 3 (w.alloc (.cells #[] 84)) (some ad) n fs) := hA.below ((Below.refl w.heap.size w).alloc (Nat.le_refl _) _) (Nat.le_refl _)
  have hE : ∀ w : World, (binOp .eql 42 (.slice (some ad) n c) (.slice none 0 0)).run Try.prog w = .ok (.bool false) w := fun w => eql_nilK w Try.underlying42
  clear hA hc
  go_enter Try.func60, Try.ntmps60
  go_wp2_with
    (at_builtin
     refine wpList_append_any _ rfl _ _ 42 rfl w.heap.size 84 i0 (.agg #[.int .i64 0, .int .i64 0, .int .i64 0]) 3 24 Try.underlying42 hi0 hz0 hz1 hz2 rfl (by decide) (.slice (some ⟨w.heap.size, 0, none⟩) 0 0) 0 [] rfl (own_emptyK (Nat.le_refl _)) (some ad) n c fs rfl (fun e => by cases e) HA.out (by unfold maxLen; omega) (by omega) (by simp) ?_
     intro v' w1 own' gr at'
     rw [Nat.zero_add, List.nil_append] at own'
     have HO : Hid (w1.ownsRow w.heap.size 84 3 v' n (fs.map I)) := own'
     have hb1 : Below w.heap.size w w1 := ((Below.refl _ w).alloc (Nat.le_refl _) _).grown gr (by simp only [World.size_alloc]; omega) (fun k e => by have := sl_blk e; omega)
     have HB : Hid (Below w.heap.size w w1) := hb1
     clear own' gr at' hb1)
  go_ret
  exact ⟨_, rfl, HO.out, HB.out⟩
set_option maxHeartbeats 1000000 in
set_option maxRecDepth 100000 in
theorem clonePair (v : Value) (n : Nat) (fs : List Int) (w : World) (h : LAt 2 w v n fs) :
    Calls Try.prog 97 #[v] w fun e w' => ∃ v', e = .returned v' ∧ w'.ownsRow w.heap.size 86 2 v' n (fs.map I) ∧ Below w.heap.size w w' := by
  obtain ⟨a, c, rfl, ⟨hc, -⟩, hA⟩ := h
  obtain ⟨i0, hi0, hz0, hz1, hz2⟩ := info_parts kInfoPair
  rcases a with _ | ad
  · obtain rfl : c = 0 := hc rfl
    obtain ⟨rfl, rfl⟩ := hA.nilE
    have hE : ∀ w : World, (binOp .eql 43 (.slice none 0 0) (.slice none 0 0)).run Try.prog w = .ok (.bool true) w := fun w => eql_nilK w Try.underlying43
    clear hA hc
    go_enter Try.func97, Try.ntmps97
    go_wp2
    go_ret
    exact ⟨_, rfl, World.ownsRow_nil _ _ _ _, Below.refl _ _⟩
  have hn := hA.2.1
  have HA : Hid (KAt 2 (w.alloc (.cells #[] 86)) (some ad) n fs) := hA.below ((Below.refl w.heap.size w).alloc (Nat.le_refl _) _) (Nat.le_refl _)
  have hE : ∀ w : World, (binOp .eql 43 (.slice (some ad) n c) (.slice none 0 0)).run Try.prog w = .ok (.bool false) w := fun w => eql_nilK w Try.underlying43
  clear hA hc
  go_enter Try.func97, Try.ntmps97
  go_wp2_with
    (at_builtin
     refine wpList_append_any _ rfl _ _ 43 rfl w.heap.size 86 i0 (.agg #[.int .i64 0, .int .i64 0]) 2 16 Try.underlying43 hi0 hz0 hz1 hz2 rfl (by decide) (.slice (some ⟨w.heap.size, 0, none⟩) 0 0) 0 [] rfl (own_emptyK (Nat.le_refl _)) (some ad) n c fs rfl (fun e => by cases e) HA.out (by unfold maxLen; omega) (by omega) (by simp) ?_
     intro v' w1 own' gr at'
     rw [Nat.zero_add, List.nil_append] at own'
     have HO : Hid (w1.ownsRow w.heap.size 86 2 v' n (fs.map I)) := own'
     have hb1 : Below w.heap.size w w1 := ((Below.refl _ w).alloc (Nat.le_refl _) _).grown gr (by simp only [World.size_alloc]; omega) (fun k e => by have := sl_blk e; omega)
     have HB : Hid (Below w.heap.size w w1) := hb1
     clear own' gr at' hb1)
  go_ret
  exact ⟨_, rfl, HO.out, HB.out⟩
set_option maxHeartbeats 1000000 in
set_option maxRecDepth 100000 in
theorem cloneHelp (v : Value) (n : Nat) (fs : List Int) (w : World) (h : LAt 4 w v n fs) :
    Calls Try.prog 96 #[v] w fun e w' => ∃ v', e = .returned v' ∧ w'.ownsRow w.heap.size 62 4 v' n (fs.map I) ∧ Below w.heap.size w w' := by
  obtain ⟨a, c, rfl, ⟨hc, -⟩, hA⟩ := h
  obtain ⟨i0, hi0, hz0, hz1, hz2⟩ := info_parts kInfoHelp
  rcases a with _ | ad
  · obtain rfl : c = 0 := hc rfl
    obtain ⟨rfl, rfl⟩ := hA.nilE
    have hE : ∀ w : World, (binOp .eql 44 (.slice none 0 0) (.slice none 0 0)).run Try.prog w = .ok (.bool true) w := fun w => eql_nilK w Try.underlying44
    clear hA hc
    go_enter Try.func96, Try.ntmps96
    go_wp2
    go_ret
    exact ⟨_, rfl, World.ownsRow_nil _ _ _ _, Below.refl _ _⟩
  have hn := hA.2.1
  have HA : Hid (KAt 4 (w.alloc (.cells #[] 62)) (some ad) n fs) := hA.below ((Below.refl w.heap.size w).alloc (Nat.le_refl _) _) (Nat.le_refl _)
  have hE : ∀ w : World, (binOp .eql 44 (.slice (some ad) n c) (.slice none 0 0)).run Try.prog w = .ok (.bool false) w := fun w => eql_nilK w Try.underlying44
  clear hA hc
  go_enter Try.func96, Try.ntmps96
  go_wp2_with
    (at_builtin
     refine wpList_append_any _ rfl _ _ 44 rfl w.heap.size 62 i0 (.agg #[.int .i64 0, .int .i64 0, .int .i64 0, .int .i64 0]) 4 32 Try.underlying44 hi0 hz0 hz1 hz2 rfl (by decide) (.slice (some ⟨w.heap.size, 0, none⟩) 0 0) 0 [] rfl (own_emptyK (Nat.le_refl _)) (some ad) n c fs rfl (fun e => by cases e) HA.out (by unfold maxLen; omega) (by omega) (by simp) ?_
     intro v' w1 own' gr at'
     rw [Nat.zero_add, List.nil_append] at own'
     have HO : Hid (w1.ownsRow w.heap.size 62 4 v' n (fs.map I)) := own'
     have hb1 : Below w.heap.size w w1 := ((Below.refl _ w).alloc (Nat.le_refl _) _).grown gr (by simp only [World.size_alloc]; omega) (fun k e => by have := sl_blk e; omega)
     have HB : Hid (Below w.heap.size w w1) := hb1
     clear own' gr at' hb1)
  go_ret
  exact ⟨_, rfl, HO.out, HB.out⟩
end Go.Proofs.Ytemeklfkbjpnmar
