/- slices.Clone of ops, of pairs, of helps: lists that are copied, with memory of their own. -/
import Derived.Test.YtemeklfkbjpnmasThr
import Derived.Test.YtemeklfkbjpnmasInvReg
namespace Go.Proofs.Ytemeklfkbjpnmas
open Go.ChangeShapes Go.WideShapes Go.ChangeAt Go.RowKit Go.Joins

set_option maxHeartbeats 1000000 in
set_option maxRecDepth 100000 in
theorem cloneOp (v : Value) (n : Nat) (fs : List Int) (w : World) (h : LAt 3 w v n fs) :
    Calls Try.prog 38 #[v] w fun e w' => ∃ v', e = .returned v' ∧ w'.ownsRow w.heap.size 65 3 v' n (fs.map I) ∧ Below w.heap.size w w' := by
  obtain ⟨a, c, rfl, ⟨hc, -⟩, hA⟩ := h
  obtain ⟨i0, hi0, hz0, hz1, hz2⟩ := info_parts kInfoOp
  rcases a with _ | ad
  · obtain rfl : c = 0 := hc rfl
    obtain ⟨rfl, rfl⟩ := hA.nilE
    have hE : ∀ w : World, (binOp .eql 30 (.slice none 0 0) (.slice none 0 0)).run Try.prog w = .ok (.bool true) w := fun w => eql_nilK w Try.underlying30
    clear hA hc
    go_enter Try.func38, Try.ntmps38
    go_wp2
    go_ret
    exact ⟨_, rfl, World.ownsRow_nil _ _ _ _, Below.refl _ _⟩
  have hn := hA.2.1
  have HA : Hid (KAt 3 (w.alloc (.cells #[] 65)) (some ad) n fs) := hA.below ((Below.refl w.heap.size w).alloc (Nat.le_refl _) _) (Nat.le_refl _)
  have hE : ∀ w : World, (binOp .eql 30 (.slice (some ad) n c) (.slice none 0 0)).run Try.prog w = .ok (.bool false) w := fun w => eql_nilK w Try.underlying30
  clear hA hc
  go_enter Try.func38, Try.ntmps38
  go_wp2_with
    (at_builtin
     refine wpList_append_any _ rfl _ _ 30 rfl w.heap.size 65 i0 (.agg #[.int .i64 0, .int .i64 0, .int .i64 0]) 3 24 Try.underlying30 hi0 hz0 hz1 hz2 rfl (by decide) (.slice (some ⟨w.heap.size, 0, none⟩) 0 0) 0 [] rfl (own_emptyK (Nat.le_refl _)) (some ad) n c fs rfl (fun e => by cases e) HA.out (by unfold maxLen; omega) (by omega) (by simp) ?_
     intro v' w1 own' gr at'
     rw [Nat.zero_add, List.nil_append] at own'
     have HO : Hid (w1.ownsRow w.heap.size 65 3 v' n (fs.map I)) := own'
     have hb1 : Below w.heap.size w w1 := ((Below.refl _ w).alloc (Nat.le_refl _) _).grown gr (by simp only [World.size_alloc]; omega) (fun k e => by have := sl_blk e; omega)
     have HB : Hid (Below w.heap.size w w1) := hb1
     clear own' gr at' hb1)
  go_ret
  exact ⟨_, rfl, HO.out, HB.out⟩
set_option maxHeartbeats 1000000 in
set_option maxRecDepth 100000 in
theorem clonePair (v : Value) (n : Nat) (fs : List Int) (w : World) (h : LAt 2 w v n fs) :
    Calls Try.prog 39 #[v] w fun e w' => ∃ v', e = .returned v' ∧ w'.ownsRow w.heap.size 69 2 v' n (fs.map I) ∧ Below w.heap.size w w' := by
  obtain ⟨a, c, rfl, ⟨hc, -⟩, hA⟩ := h
  obtain ⟨i0, hi0, hz0, hz1, hz2⟩ := info_parts kInfoPair
  rcases a with _ | ad
  · obtain rfl : c = 0 := hc rfl
    obtain ⟨rfl, rfl⟩ := hA.nilE
    have hE : ∀ w : World, (binOp .eql 31 (.slice none 0 0) (.slice none 0 0)).run Try.prog w = .ok (.bool true) w := fun w => eql_nilK w Try.underlying31
    clear hA hc
    go_enter Try.func39, Try.ntmps39
    go_wp2
    go_ret
    exact ⟨_, rfl, World.ownsRow_nil _ _ _ _, Below.refl _ _⟩
  have hn := hA.2.1
  have HA : Hid (KAt 2 (w.alloc (.cells #[] 69)) (some ad) n fs) := hA.below ((Below.refl w.heap.size w).alloc (Nat.le_refl _) _) (Nat.le_refl _)
  have hE : ∀ w : World, (binOp .eql 31 (.slice (some ad) n c) (.slice none 0 0)).run Try.prog w = .ok (.bool false) w := fun w => eql_nilK w Try.underlying31
  clear hA hc
  go_enter Try.func39, Try.ntmps39
  go_wp2_with
    (at_builtin
     refine wpList_append_any _ rfl _ _ 31 rfl w.heap.size 69 i0 (.agg #[.int .i64 0, .int .i64 0]) 2 16 Try.underlying31 hi0 hz0 hz1 hz2 rfl (by decide) (.slice (some ⟨w.heap.size, 0, none⟩) 0 0) 0 [] rfl (own_emptyK (Nat.le_refl _)) (some ad) n c fs rfl (fun e => by cases e) HA.out (by unfold maxLen; omega) (by omega) (by simp) ?_
     intro v' w1 own' gr at'
     rw [Nat.zero_add, List.nil_append] at own'
     have HO : Hid (w1.ownsRow w.heap.size 69 2 v' n (fs.map I)) := own'
     have hb1 : Below w.heap.size w w1 := ((Below.refl _ w).alloc (Nat.le_refl _) _).grown gr (by simp only [World.size_alloc]; omega) (fun k e => by have := sl_blk e; omega)
     have HB : Hid (Below w.heap.size w w1) := hb1
     clear own' gr at' hb1)
  go_ret
  exact ⟨_, rfl, HO.out, HB.out⟩
set_option maxHeartbeats 1000000 in
set_option maxRecDepth 100000 in
theorem cloneHelp (v : Value) (n : Nat) (fs : List Int) (w : World) (h : LAt 4 w v n fs) :
    Calls Try.prog 37 #[v] w fun e w' => ∃ v', e = .returned v' ∧ w'.ownsRow w.heap.size 37 4 v' n (fs.map I) ∧ Below w.heap.size w w' := by
  obtain ⟨a, c, rfl, ⟨hc, -⟩, hA⟩ := h
  obtain ⟨i0, hi0, hz0, hz1, hz2⟩ := info_parts kInfoHelp
  rcases a with _ | ad
  · obtain rfl : c = 0 := hc rfl
    obtain ⟨rfl, rfl⟩ := hA.nilE
    have hE : ∀ w : World, (binOp .eql 32 (.slice none 0 0) (.slice none 0 0)).run Try.prog w = .ok (.bool true) w := fun w => eql_nilK w Try.underlying32
    clear hA hc
    go_enter Try.func37, Try.ntmps37
    go_wp2
    go_ret
    exact ⟨_, rfl, World.ownsRow_nil _ _ _ _, Below.refl _ _⟩
  have hn := hA.2.1
  have HA : Hid (KAt 4 (w.alloc (.cells #[] 37)) (some ad) n fs) := hA.below ((Below.refl w.heap.size w).alloc (Nat.le_refl _) _) (Nat.le_refl _)
  have hE : ∀ w : World, (binOp .eql 32 (.slice (some ad) n c) (.slice none 0 0)).run Try.prog w = .ok (.bool false) w := fun w => eql_nilK w Try.underlying32
  clear hA hc
  go_enter Try.func37, Try.ntmps37
  go_wp2_with
    (at_builtin
     refine wpList_append_any _ rfl _ _ 32 rfl w.heap.size 37 i0 (.agg #[.int .i64 0, .int .i64 0, .int .i64 0, .int .i64 0]) 4 32 Try.underlying32 hi0 hz0 hz1 hz2 rfl (by decide) (.slice (some ⟨w.heap.size, 0, none⟩) 0 0) 0 [] rfl (own_emptyK (Nat.le_refl _)) (some ad) n c fs rfl (fun e => by cases e) HA.out (by unfold maxLen; omega) (by omega) (by simp) ?_
     intro v' w1 own' gr at'
     rw [Nat.zero_add, List.nil_append] at own'
     have HO : Hid (w1.ownsRow w.heap.size 37 4 v' n (fs.map I)) := own'
     have hb1 : Below w.heap.size w w1 := ((Below.refl _ w).alloc (Nat.le_refl _) _).grown gr (by simp only [World.size_alloc]; omega) (fun k e => by have := sl_blk e; omega)
     have HB : Hid (Below w.heap.size w w1) := hb1
     clear own' gr at' hb1)
  go_ret
  exact ⟨_, rfl, HO.out, HB.out⟩
end Go.Proofs.Ytemeklfkbjpnmas
