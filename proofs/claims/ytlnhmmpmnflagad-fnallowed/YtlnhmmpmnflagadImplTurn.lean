/- impl.turn, walked. -/
import Derived.Test.YtlnhmmpmnflagadClone
import Derived.Test.YtlnhmmpmnflagadImplOp
import Derived.Test.YtlnhmmpmnflagadSpecAfter
namespace Go.Proofs.Ytlnhmmpmnflagad
open Go.ChangeShapes Go.WideShapes Go.ChangeAt Go.RowKit

set_option maxHeartbeats 2000000 in
set_option maxRecDepth 100000 in
theorem turn_4 (base g c : Nat) (st : Int) (xs : List Int) (w : World) (hown : w.ownsRow base 3 1 (.slice (some ⟨g, 0, none⟩) 4 c) 4 (xs.map I)) (hb : base ≤ w.heap.size) (k v : Int) :
    Calls Try.prog 26 #[.agg #[.slice (some ⟨g, 0, none⟩) 4 c, .int .i64 st], .iface 76 (OpV 4 (k) (v))] w fun e w' => e = .returned (.agg #[.slice (some ⟨g, 0, none⟩) 4 c, .int .i64 st]) ∧ w'.ownsRow base 3 1 (.slice (some ⟨g, 0, none⟩) 4 c) 4 ((xs).map I) ∧ Below base w w' := by
  have hgl : g < w.heap.size := (hown.lt g rfl).2
  have hgb : base ≤ g := (hown.lt g rfl).1
  have OWN : Hid (w.ownsRow base 3 1 (.slice (some ⟨g, 0, none⟩) 4 c) 4 (xs.map I)) := hown
  clear hown
  have t1 : ∀ w : World, (Instr.typeAssert (.iface 76 (OpV 4 (k) (v))) 52 71 true).run Try.prog w = .ok (.tuple #[OpV 0 0 0, .bool false]) w := fun _ => by kernel_rfl
  have t2 : ∀ w : World, (Instr.typeAssert (.iface 76 (OpV 4 (k) (v))) 52 74 true).run Try.prog w = .ok (.tuple #[OpV 0 0 0, .bool false]) w := fun _ => by kernel_rfl
  have t3 : ∀ w : World, (Instr.typeAssert (.iface 76 (OpV 4 (k) (v))) 52 75 true).run Try.prog w = .ok (.tuple #[OpV 0 0 0, .bool false]) w := fun _ => by kernel_rfl
  have t8 : ∀ w : World, (Instr.typeAssert (.iface 76 (OpV 4 (k) (v))) 52 80 true).run Try.prog w = .ok (.tuple #[OpV 0 0 0, .bool false]) w := fun _ => by kernel_rfl
  have t9 : ∀ w : World, (Instr.typeAssert (.iface 76 (OpV 4 (k) (v))) 52 81 true).run Try.prog w = .ok (.tuple #[OpV 0 0 0, .bool false]) w := fun _ => by kernel_rfl
  go_enter Try.func26, Try.ntmps26
  go_wp2
  (try simp only [Exit.inBlock, Exit.then])
  refine bodyPost_ret (by simp [results, Try.results26, go_sem]; try rfl) rfl ?_
  exact ⟨rfl, (OWN.out.alloc _).alloc _, ((Below.refl base w).alloc hb _).alloc (by simp; omega) _⟩

set_option maxHeartbeats 2000000 in
set_option maxRecDepth 100000 in
theorem turn_5 (base g c : Nat) (st : Int) (xs : List Int) (w : World) (hown : w.ownsRow base 3 1 (.slice (some ⟨g, 0, none⟩) 4 c) 4 (xs.map I)) (hb : base ≤ w.heap.size) (k v : Int) :
    Calls Try.prog 26 #[.agg #[.slice (some ⟨g, 0, none⟩) 4 c, .int .i64 st], .iface 77 (OpV 5 (k) (v))] w fun e w' => e = .returned (.agg #[.slice (some ⟨g, 0, none⟩) 4 c, .int .i64 st]) ∧ w'.ownsRow base 3 1 (.slice (some ⟨g, 0, none⟩) 4 c) 4 ((xs).map I) ∧ Below base w w' := by
  have hgl : g < w.heap.size := (hown.lt g rfl).2
  have hgb : base ≤ g := (hown.lt g rfl).1
  have OWN : Hid (w.ownsRow base 3 1 (.slice (some ⟨g, 0, none⟩) 4 c) 4 (xs.map I)) := hown
  clear hown
  have t1 : ∀ w : World, (Instr.typeAssert (.iface 77 (OpV 5 (k) (v))) 52 71 true).run Try.prog w = .ok (.tuple #[OpV 0 0 0, .bool false]) w := fun _ => by kernel_rfl
  have t2 : ∀ w : World, (Instr.typeAssert (.iface 77 (OpV 5 (k) (v))) 52 74 true).run Try.prog w = .ok (.tuple #[OpV 0 0 0, .bool false]) w := fun _ => by kernel_rfl
  have t3 : ∀ w : World, (Instr.typeAssert (.iface 77 (OpV 5 (k) (v))) 52 75 true).run Try.prog w = .ok (.tuple #[OpV 0 0 0, .bool false]) w := fun _ => by kernel_rfl
  have t8 : ∀ w : World, (Instr.typeAssert (.iface 77 (OpV 5 (k) (v))) 52 80 true).run Try.prog w = .ok (.tuple #[OpV 0 0 0, .bool false]) w := fun _ => by kernel_rfl
  have t9 : ∀ w : World, (Instr.typeAssert (.iface 77 (OpV 5 (k) (v))) 52 81 true).run Try.prog w = .ok (.tuple #[OpV 0 0 0, .bool false]) w := fun _ => by kernel_rfl
  go_enter Try.func26, Try.ntmps26
  go_wp2
  (try simp only [Exit.inBlock, Exit.then])
  refine bodyPost_ret (by simp [results, Try.results26, go_sem]; try rfl) rfl ?_
  exact ⟨rfl, (OWN.out.alloc _).alloc _, ((Below.refl base w).alloc hb _).alloc (by simp; omega) _⟩

set_option maxHeartbeats 2000000 in
set_option maxRecDepth 100000 in
theorem turn_6 (base g c : Nat) (st : Int) (xs : List Int) (w : World) (hown : w.ownsRow base 3 1 (.slice (some ⟨g, 0, none⟩) 4 c) 4 (xs.map I)) (hb : base ≤ w.heap.size) (k v : Int) :
    Calls Try.prog 26 #[.agg #[.slice (some ⟨g, 0, none⟩) 4 c, .int .i64 st], .iface 78 (OpV 6 (k) (v))] w fun e w' => e = .returned (.agg #[.slice (some ⟨g, 0, none⟩) 4 c, .int .i64 st]) ∧ w'.ownsRow base 3 1 (.slice (some ⟨g, 0, none⟩) 4 c) 4 ((xs).map I) ∧ Below base w w' := by
  have hgl : g < w.heap.size := (hown.lt g rfl).2
  have hgb : base ≤ g := (hown.lt g rfl).1
  have OWN : Hid (w.ownsRow base 3 1 (.slice (some ⟨g, 0, none⟩) 4 c) 4 (xs.map I)) := hown
  clear hown
  have t1 : ∀ w : World, (Instr.typeAssert (.iface 78 (OpV 6 (k) (v))) 52 71 true).run Try.prog w = .ok (.tuple #[OpV 0 0 0, .bool false]) w := fun _ => by kernel_rfl
  have t2 : ∀ w : World, (Instr.typeAssert (.iface 78 (OpV 6 (k) (v))) 52 74 true).run Try.prog w = .ok (.tuple #[OpV 0 0 0, .bool false]) w := fun _ => by kernel_rfl
  have t3 : ∀ w : World, (Instr.typeAssert (.iface 78 (OpV 6 (k) (v))) 52 75 true).run Try.prog w = .ok (.tuple #[OpV 0 0 0, .bool false]) w := fun _ => by kernel_rfl
  have t8 : ∀ w : World, (Instr.typeAssert (.iface 78 (OpV 6 (k) (v))) 52 80 true).run Try.prog w = .ok (.tuple #[OpV 0 0 0, .bool false]) w := fun _ => by kernel_rfl
  have t9 : ∀ w : World, (Instr.typeAssert (.iface 78 (OpV 6 (k) (v))) 52 81 true).run Try.prog w = .ok (.tuple #[OpV 0 0 0, .bool false]) w := fun _ => by kernel_rfl
  go_enter Try.func26, Try.ntmps26
  go_wp2
  (try simp only [Exit.inBlock, Exit.then])
  refine bodyPost_ret (by simp [results, Try.results26, go_sem]; try rfl) rfl ?_
  exact ⟨rfl, (OWN.out.alloc _).alloc _, ((Below.refl base w).alloc hb _).alloc (by simp; omega) _⟩

set_option maxHeartbeats 2000000 in
set_option maxRecDepth 100000 in
theorem turn_7 (base g c : Nat) (st : Int) (xs : List Int) (w : World) (hown : w.ownsRow base 3 1 (.slice (some ⟨g, 0, none⟩) 4 c) 4 (xs.map I)) (hb : base ≤ w.heap.size) (k v : Int) :
    Calls Try.prog 26 #[.agg #[.slice (some ⟨g, 0, none⟩) 4 c, .int .i64 st], .iface 79 (OpV 7 (k) (v))] w fun e w' => e = .returned (.agg #[.slice (some ⟨g, 0, none⟩) 4 c, .int .i64 st]) ∧ w'.ownsRow base 3 1 (.slice (some ⟨g, 0, none⟩) 4 c) 4 ((xs).map I) ∧ Below base w w' := by
  have hgl : g < w.heap.size := (hown.lt g rfl).2
  have hgb : base ≤ g := (hown.lt g rfl).1
  have OWN : Hid (w.ownsRow base 3 1 (.slice (some ⟨g, 0, none⟩) 4 c) 4 (xs.map I)) := hown
  clear hown
  have t1 : ∀ w : World, (Instr.typeAssert (.iface 79 (OpV 7 (k) (v))) 52 71 true).run Try.prog w = .ok (.tuple #[OpV 0 0 0, .bool false]) w := fun _ => by kernel_rfl
  have t2 : ∀ w : World, (Instr.typeAssert (.iface 79 (OpV 7 (k) (v))) 52 74 true).run Try.prog w = .ok (.tuple #[OpV 0 0 0, .bool false]) w := fun _ => by kernel_rfl
  have t3 : ∀ w : World, (Instr.typeAssert (.iface 79 (OpV 7 (k) (v))) 52 75 true).run Try.prog w = .ok (.tuple #[OpV 0 0 0, .bool false]) w := fun _ => by kernel_rfl
  have t8 : ∀ w : World, (Instr.typeAssert (.iface 79 (OpV 7 (k) (v))) 52 80 true).run Try.prog w = .ok (.tuple #[OpV 0 0 0, .bool false]) w := fun _ => by kernel_rfl
  have t9 : ∀ w : World, (Instr.typeAssert (.iface 79 (OpV 7 (k) (v))) 52 81 true).run Try.prog w = .ok (.tuple #[OpV 0 0 0, .bool false]) w := fun _ => by kernel_rfl
  go_enter Try.func26, Try.ntmps26
  go_wp2
  (try simp only [Exit.inBlock, Exit.then])
  refine bodyPost_ret (by simp [results, Try.results26, go_sem]; try rfl) rfl ?_
  exact ⟨rfl, (OWN.out.alloc _).alloc _, ((Below.refl base w).alloc hb _).alloc (by simp; omega) _⟩

set_option maxHeartbeats 2000000 in
set_option maxRecDepth 100000 in
theorem turn_10 (base g c : Nat) (st : Int) (xs : List Int) (w : World) (hown : w.ownsRow base 3 1 (.slice (some ⟨g, 0, none⟩) 4 c) 4 (xs.map I)) (hb : base ≤ w.heap.size) (k v : Int) :
    Calls Try.prog 26 #[.agg #[.slice (some ⟨g, 0, none⟩) 4 c, .int .i64 st], .iface 82 (OpV 10 (k) (v))] w fun e w' => e = .returned (.agg #[.slice (some ⟨g, 0, none⟩) 4 c, .int .i64 st]) ∧ w'.ownsRow base 3 1 (.slice (some ⟨g, 0, none⟩) 4 c) 4 ((xs).map I) ∧ Below base w w' := by
  have hgl : g < w.heap.size := (hown.lt g rfl).2
  have hgb : base ≤ g := (hown.lt g rfl).1
  have OWN : Hid (w.ownsRow base 3 1 (.slice (some ⟨g, 0, none⟩) 4 c) 4 (xs.map I)) := hown
  clear hown
  have t1 : ∀ w : World, (Instr.typeAssert (.iface 82 (OpV 10 (k) (v))) 52 71 true).run Try.prog w = .ok (.tuple #[OpV 0 0 0, .bool false]) w := fun _ => by kernel_rfl
  have t2 : ∀ w : World, (Instr.typeAssert (.iface 82 (OpV 10 (k) (v))) 52 74 true).run Try.prog w = .ok (.tuple #[OpV 0 0 0, .bool false]) w := fun _ => by kernel_rfl
  have t3 : ∀ w : World, (Instr.typeAssert (.iface 82 (OpV 10 (k) (v))) 52 75 true).run Try.prog w = .ok (.tuple #[OpV 0 0 0, .bool false]) w := fun _ => by kernel_rfl
  have t8 : ∀ w : World, (Instr.typeAssert (.iface 82 (OpV 10 (k) (v))) 52 80 true).run Try.prog w = .ok (.tuple #[OpV 0 0 0, .bool false]) w := fun _ => by kernel_rfl
  have t9 : ∀ w : World, (Instr.typeAssert (.iface 82 (OpV 10 (k) (v))) 52 81 true).run Try.prog w = .ok (.tuple #[OpV 0 0 0, .bool false]) w := fun _ => by kernel_rfl
  go_enter Try.func26, Try.ntmps26
  go_wp2
  (try simp only [Exit.inBlock, Exit.then])
  refine bodyPost_ret (by simp [results, Try.results26, go_sem]; try rfl) rfl ?_
  exact ⟨rfl, (OWN.out.alloc _).alloc _, ((Below.refl base w).alloc hb _).alloc (by simp; omega) _⟩

set_option maxHeartbeats 2000000 in
set_option maxRecDepth 100000 in
theorem turn_8 (base g c : Nat) (st : Int) (xs : List Int) (w : World) (hown : w.ownsRow base 3 1 (.slice (some ⟨g, 0, none⟩) 4 c) 4 (xs.map I)) (hb : base ≤ w.heap.size) (k v : Int) (hst : 0 ≤ st ∧ st ≤ 5) :
    Calls Try.prog 26 #[.agg #[.slice (some ⟨g, 0, none⟩) 4 c, .int .i64 st], .iface 80 (OpV 8 (k) (v))] w fun e w' => e = .returned (.agg #[.slice (some ⟨g, 0, none⟩) 4 c, .int .i64 (st + 1)]) ∧ w'.ownsRow base 3 1 (.slice (some ⟨g, 0, none⟩) 4 c) 4 ((xs).map I) ∧ Below base w w' := by
  have hgl : g < w.heap.size := (hown.lt g rfl).2
  have hgb : base ≤ g := (hown.lt g rfl).1
  have OWN : Hid (w.ownsRow base 3 1 (.slice (some ⟨g, 0, none⟩) 4 c) 4 (xs.map I)) := hown
  clear hown
  have t1 : ∀ w : World, (Instr.typeAssert (.iface 80 (OpV 8 (k) (v))) 52 71 true).run Try.prog w = .ok (.tuple #[OpV 0 0 0, .bool false]) w := fun _ => by kernel_rfl
  have t2 : ∀ w : World, (Instr.typeAssert (.iface 80 (OpV 8 (k) (v))) 52 74 true).run Try.prog w = .ok (.tuple #[OpV 0 0 0, .bool false]) w := fun _ => by kernel_rfl
  have t3 : ∀ w : World, (Instr.typeAssert (.iface 80 (OpV 8 (k) (v))) 52 75 true).run Try.prog w = .ok (.tuple #[OpV 0 0 0, .bool false]) w := fun _ => by kernel_rfl
  have t8 : ∀ w : World, (Instr.typeAssert (.iface 80 (OpV 8 (k) (v))) 52 80 true).run Try.prog w = .ok (.tuple #[OpV 8 (k) (v), .bool true]) w := fun _ => by kernel_rfl
  have t9 : ∀ w : World, (Instr.typeAssert (.iface 80 (OpV 8 (k) (v))) 52 81 true).run Try.prog w = .ok (.tuple #[OpV 0 0 0, .bool false]) w := fun _ => by kernel_rfl
  go_enter Try.func26, Try.ntmps26
  have hst0 := hst.1
  have hst1 := hst.2
  go_wp2
  (try simp only [Exit.inBlock, Exit.then])
  refine bodyPost_ret (by simp [results, Try.results26, go_sem]; try rfl) rfl ?_
  exact ⟨rfl, (OWN.out.alloc _).alloc _, ((Below.refl base w).alloc hb _).alloc (by simp; omega) _⟩

set_option maxHeartbeats 2000000 in
set_option maxRecDepth 100000 in
theorem turn_9 (base g c : Nat) (st : Int) (xs : List Int) (w : World) (hown : w.ownsRow base 3 1 (.slice (some ⟨g, 0, none⟩) 4 c) 4 (xs.map I)) (hb : base ≤ w.heap.size) (k v : Int) (hst : 0 ≤ st ∧ st ≤ 5) :
    Calls Try.prog 26 #[.agg #[.slice (some ⟨g, 0, none⟩) 4 c, .int .i64 st], .iface 81 (OpV 9 (k) (v))] w fun e w' => e = .returned (.agg #[.slice (some ⟨g, 0, none⟩) 4 c, .int .i64 (st + 1)]) ∧ w'.ownsRow base 3 1 (.slice (some ⟨g, 0, none⟩) 4 c) 4 ((xs).map I) ∧ Below base w w' := by
  have hgl : g < w.heap.size := (hown.lt g rfl).2
  have hgb : base ≤ g := (hown.lt g rfl).1
  have OWN : Hid (w.ownsRow base 3 1 (.slice (some ⟨g, 0, none⟩) 4 c) 4 (xs.map I)) := hown
  clear hown
  have t1 : ∀ w : World, (Instr.typeAssert (.iface 81 (OpV 9 (k) (v))) 52 71 true).run Try.prog w = .ok (.tuple #[OpV 0 0 0, .bool false]) w := fun _ => by kernel_rfl
  have t2 : ∀ w : World, (Instr.typeAssert (.iface 81 (OpV 9 (k) (v))) 52 74 true).run Try.prog w = .ok (.tuple #[OpV 0 0 0, .bool false]) w := fun _ => by kernel_rfl
  have t3 : ∀ w : World, (Instr.typeAssert (.iface 81 (OpV 9 (k) (v))) 52 75 true).run Try.prog w = .ok (.tuple #[OpV 0 0 0, .bool false]) w := fun _ => by kernel_rfl
  have t8 : ∀ w : World, (Instr.typeAssert (.iface 81 (OpV 9 (k) (v))) 52 80 true).run Try.prog w = .ok (.tuple #[OpV 0 0 0, .bool false]) w := fun _ => by kernel_rfl
  have t9 : ∀ w : World, (Instr.typeAssert (.iface 81 (OpV 9 (k) (v))) 52 81 true).run Try.prog w = .ok (.tuple #[OpV 9 (k) (v), .bool true]) w := fun _ => by kernel_rfl
  go_enter Try.func26, Try.ntmps26
  have hst0 := hst.1
  have hst1 := hst.2
  go_wp2
  (try simp only [Exit.inBlock, Exit.then])
  refine bodyPost_ret (by simp [results, Try.results26, go_sem]; try rfl) rfl ?_
  exact ⟨rfl, (OWN.out.alloc _).alloc _, ((Below.refl base w).alloc hb _).alloc (by simp; omega) _⟩

set_option maxHeartbeats 2000000 in
set_option maxRecDepth 100000 in
theorem turn_1 (base g c : Nat) (st : Int) (xs : List Int) (w : World) (hown : w.ownsRow base 3 1 (.slice (some ⟨g, 0, none⟩) 4 c) 4 (xs.map I)) (hb : base ≤ w.heap.size) (m : Nat) (v : Int) (hm : m < 4) :
    Calls Try.prog 26 #[.agg #[.slice (some ⟨g, 0, none⟩) 4 c, .int .i64 st], .iface 71 (OpV 1 ((m : Int)) (v))] w fun e w' => e = .returned (.agg #[.slice (some ⟨g, 0, none⟩) 4 c, .int .i64 st]) ∧ w'.ownsRow base 3 1 (.slice (some ⟨g, 0, none⟩) 4 c) 4 ((xs.set m v).map I) ∧ Below base w w' := by
  have hgl : g < w.heap.size := (hown.lt g rfl).2
  have hgb : base ≤ g := (hown.lt g rfl).1
  have OWN : Hid (w.ownsRow base 3 1 (.slice (some ⟨g, 0, none⟩) 4 c) 4 (xs.map I)) := hown
  clear hown
  have t1 : ∀ w : World, (Instr.typeAssert (.iface 71 (OpV 1 ((m : Int)) (v))) 52 71 true).run Try.prog w = .ok (.tuple #[OpV 1 ((m : Int)) (v), .bool true]) w := fun _ => by kernel_rfl
  go_enter Try.func26, Try.ntmps26
  have hm0 : (0 : Int) ≤ (m : Int) := by omega
  have hm1 : (m : Int) < 4 := by omega
  obtain ⟨u0, hu⟩ := own_cell OWN.out hm
  have hu3 : (((w.alloc (.cells #[.slice (some ⟨g, 0, none⟩) 4 c, .int .i64 st] 26)).alloc (.cells #[.slice none 0 0, .int .i64 0] 26)).alloc (.cells #[.int .i64 1, .int .i64 m, .int .i64 v] 71)).cell? ⟨g, m, none⟩ = some u0 := by rw [World.cell?_alloc_past _ _ _ (by simp; omega), World.cell?_alloc_past _ _ _ (by simp; omega), World.cell?_alloc_past _ _ _ hgl, hu]
  have hz3 : (((w.alloc (.cells #[.slice (some ⟨g, 0, none⟩) 4 c, .int .i64 st] 26)).alloc (.cells #[.slice none 0 0, .int .i64 0] 26)).alloc (.cells #[.int .i64 1, .int .i64 m, .int .i64 v] 71)).frozen? ⟨g, m, none⟩ = false := (((OWN.out.alloc _).alloc _).alloc _).frozenAt m
  have HST : Hid (((((w.alloc (.cells #[.slice (some ⟨g, 0, none⟩) 4 c, .int .i64 st] 26)).alloc (.cells #[.slice none 0 0, .int .i64 0] 26)).alloc (.cells #[.int .i64 1, .int .i64 m, .int .i64 v] 71)).setCell ⟨g, m, none⟩ (I v)).ownsRow base 3 1 (.slice (some ⟨g, 0, none⟩) 4 c) 4 ((xs.set m v).map I)) := by
    rw [List.map_set]
    exact ((((OWN.out.alloc _).alloc _).alloc _).stored m (I v)).1
  go_wp2
  (try simp only [Exit.inBlock, Exit.then])
  refine bodyPost_ret (by simp [results, Try.results26, go_sem]; try rfl) rfl ?_
  exact ⟨rfl, own_setCell_far (own_setCell_far HST.out (by simp [Value.ownBlock]; omega) _) (by simp [Value.ownBlock]; omega) _, ((((((Below.refl base w).alloc hb _).alloc (by simp; omega) _).alloc (by simp; omega) _).setCell hgb _).setCell (by simp; omega) _).setCell (by simp; omega) _⟩

set_option maxHeartbeats 2000000 in
set_option maxRecDepth 100000 in
theorem turn_2 (base g c : Nat) (st : Int) (xs : List Int) (w : World) (hown : w.ownsRow base 3 1 (.slice (some ⟨g, 0, none⟩) 4 c) 4 (xs.map I)) (hb : base ≤ w.heap.size) (m : Nat) (v : Int) (hm : m < 4) :
    Calls Try.prog 26 #[.agg #[.slice (some ⟨g, 0, none⟩) 4 c, .int .i64 st], .iface 74 (OpV 2 ((m : Int)) (v))] w fun e w' => e = .returned (.agg #[.slice (some ⟨g, 0, none⟩) 4 c, .int .i64 st]) ∧ w'.ownsRow base 3 1 (.slice (some ⟨g, 0, none⟩) 4 c) 4 ((xs.set m v).map I) ∧ Below base w w' := by
  have hgl : g < w.heap.size := (hown.lt g rfl).2
  have hgb : base ≤ g := (hown.lt g rfl).1
  have OWN : Hid (w.ownsRow base 3 1 (.slice (some ⟨g, 0, none⟩) 4 c) 4 (xs.map I)) := hown
  clear hown
  have t1 : ∀ w : World, (Instr.typeAssert (.iface 74 (OpV 2 ((m : Int)) (v))) 52 71 true).run Try.prog w = .ok (.tuple #[OpV 0 0 0, .bool false]) w := fun _ => by kernel_rfl
  have t2 : ∀ w : World, (Instr.typeAssert (.iface 74 (OpV 2 ((m : Int)) (v))) 52 74 true).run Try.prog w = .ok (.tuple #[OpV 2 ((m : Int)) (v), .bool true]) w := fun _ => by kernel_rfl
  go_enter Try.func26, Try.ntmps26
  have hm0 : (0 : Int) ≤ (m : Int) := by omega
  have hm1 : (m : Int) < 4 := by omega
  obtain ⟨u0, hu⟩ := own_cell OWN.out hm
  have hu3 : (((w.alloc (.cells #[.slice (some ⟨g, 0, none⟩) 4 c, .int .i64 st] 26)).alloc (.cells #[.slice none 0 0, .int .i64 0] 26)).alloc (.cells #[.int .i64 2, .int .i64 m, .int .i64 v] 74)).cell? ⟨g, m, none⟩ = some u0 := by rw [World.cell?_alloc_past _ _ _ (by simp; omega), World.cell?_alloc_past _ _ _ (by simp; omega), World.cell?_alloc_past _ _ _ hgl, hu]
  have hz3 : (((w.alloc (.cells #[.slice (some ⟨g, 0, none⟩) 4 c, .int .i64 st] 26)).alloc (.cells #[.slice none 0 0, .int .i64 0] 26)).alloc (.cells #[.int .i64 2, .int .i64 m, .int .i64 v] 74)).frozen? ⟨g, m, none⟩ = false := (((OWN.out.alloc _).alloc _).alloc _).frozenAt m
  have HST : Hid (((((w.alloc (.cells #[.slice (some ⟨g, 0, none⟩) 4 c, .int .i64 st] 26)).alloc (.cells #[.slice none 0 0, .int .i64 0] 26)).alloc (.cells #[.int .i64 2, .int .i64 m, .int .i64 v] 74)).setCell ⟨g, m, none⟩ (I v)).ownsRow base 3 1 (.slice (some ⟨g, 0, none⟩) 4 c) 4 ((xs.set m v).map I)) := by
    rw [List.map_set]
    exact ((((OWN.out.alloc _).alloc _).alloc _).stored m (I v)).1
  go_wp2
  (try simp only [Exit.inBlock, Exit.then])
  refine bodyPost_ret (by simp [results, Try.results26, go_sem]; try rfl) rfl ?_
  exact ⟨rfl, own_setCell_far (own_setCell_far HST.out (by simp [Value.ownBlock]; omega) _) (by simp [Value.ownBlock]; omega) _, ((((((Below.refl base w).alloc hb _).alloc (by simp; omega) _).alloc (by simp; omega) _).setCell hgb _).setCell (by simp; omega) _).setCell (by simp; omega) _⟩

set_option maxHeartbeats 2000000 in
set_option maxRecDepth 100000 in
theorem turn_3 (base g c : Nat) (st : Int) (xs : List Int) (w : World) (hown : w.ownsRow base 3 1 (.slice (some ⟨g, 0, none⟩) 4 c) 4 (xs.map I)) (hb : base ≤ w.heap.size) (m : Nat) (v : Int) (hm : m < 4) :
    Calls Try.prog 26 #[.agg #[.slice (some ⟨g, 0, none⟩) 4 c, .int .i64 st], .iface 75 (OpV 3 ((m : Int)) (v))] w fun e w' => e = .returned (.agg #[.slice (some ⟨g, 0, none⟩) 4 c, .int .i64 st]) ∧ w'.ownsRow base 3 1 (.slice (some ⟨g, 0, none⟩) 4 c) 4 ((xs.set m 0).map I) ∧ Below base w w' := by
  have hgl : g < w.heap.size := (hown.lt g rfl).2
  have hgb : base ≤ g := (hown.lt g rfl).1
  have OWN : Hid (w.ownsRow base 3 1 (.slice (some ⟨g, 0, none⟩) 4 c) 4 (xs.map I)) := hown
  clear hown
  have t1 : ∀ w : World, (Instr.typeAssert (.iface 75 (OpV 3 ((m : Int)) (v))) 52 71 true).run Try.prog w = .ok (.tuple #[OpV 0 0 0, .bool false]) w := fun _ => by kernel_rfl
  have t2 : ∀ w : World, (Instr.typeAssert (.iface 75 (OpV 3 ((m : Int)) (v))) 52 74 true).run Try.prog w = .ok (.tuple #[OpV 0 0 0, .bool false]) w := fun _ => by kernel_rfl
  have t3 : ∀ w : World, (Instr.typeAssert (.iface 75 (OpV 3 ((m : Int)) (v))) 52 75 true).run Try.prog w = .ok (.tuple #[OpV 3 ((m : Int)) (v), .bool true]) w := fun _ => by kernel_rfl
  go_enter Try.func26, Try.ntmps26
  have hm0 : (0 : Int) ≤ (m : Int) := by omega
  have hm1 : (m : Int) < 4 := by omega
  obtain ⟨u0, hu⟩ := own_cell OWN.out hm
  have hu3 : (((w.alloc (.cells #[.slice (some ⟨g, 0, none⟩) 4 c, .int .i64 st] 26)).alloc (.cells #[.slice none 0 0, .int .i64 0] 26)).alloc (.cells #[.int .i64 3, .int .i64 m, .int .i64 v] 75)).cell? ⟨g, m, none⟩ = some u0 := by rw [World.cell?_alloc_past _ _ _ (by simp; omega), World.cell?_alloc_past _ _ _ (by simp; omega), World.cell?_alloc_past _ _ _ hgl, hu]
  have hz3 : (((w.alloc (.cells #[.slice (some ⟨g, 0, none⟩) 4 c, .int .i64 st] 26)).alloc (.cells #[.slice none 0 0, .int .i64 0] 26)).alloc (.cells #[.int .i64 3, .int .i64 m, .int .i64 v] 75)).frozen? ⟨g, m, none⟩ = false := (((OWN.out.alloc _).alloc _).alloc _).frozenAt m
  have HST : Hid (((((w.alloc (.cells #[.slice (some ⟨g, 0, none⟩) 4 c, .int .i64 st] 26)).alloc (.cells #[.slice none 0 0, .int .i64 0] 26)).alloc (.cells #[.int .i64 3, .int .i64 m, .int .i64 v] 75)).setCell ⟨g, m, none⟩ (I 0)).ownsRow base 3 1 (.slice (some ⟨g, 0, none⟩) 4 c) 4 ((xs.set m 0).map I)) := by
    rw [List.map_set]
    exact ((((OWN.out.alloc _).alloc _).alloc _).stored m (I 0)).1
  go_wp2
  (try simp only [Exit.inBlock, Exit.then])
  refine bodyPost_ret (by simp [results, Try.results26, go_sem]; try rfl) rfl ?_
  exact ⟨rfl, own_setCell_far (own_setCell_far HST.out (by simp [Value.ownBlock]; omega) _) (by simp [Value.ownBlock]; omega) _, ((((((Below.refl base w).alloc hb _).alloc (by simp; omega) _).alloc (by simp; omega) _).setCell hgb _).setCell (by simp; omega) _).setCell (by simp; omega) _⟩

/-- What is made of the rows where an op is done. -/
def TurnM (xs : List Int) (st kind k v : Int) (zs : List Int) (st' : Int) : Prop :=
  ((kind = 1 ∨ kind = 2) ∧ zs = xs.set k.toNat v ∧ st' = st) ∨ (kind = 3 ∧ zs = xs.set k.toNat 0 ∧ st' = st) ∨ ((kind = 8 ∨ kind = 9) ∧ zs = xs ∧ st' = st + 1) ∨ ((4 ≤ kind ∧ kind ≤ 7 ∨ kind = 10) ∧ zs = xs ∧ st' = st)
theorem turn_any (base g c : Nat) (st kind k v : Int) (xs : List Int) (w : World) (hown : w.ownsRow base 3 1 (.slice (some ⟨g, 0, none⟩) 4 c) 4 (xs.map I)) (hb : base ≤ w.heap.size) (hop : OpGood kind k v) (hst : 0 ≤ st ∧ st ≤ 5) :
    Calls Try.prog 26 #[.agg #[.slice (some ⟨g, 0, none⟩) 4 c, .int .i64 st], DeedV kind k v] w fun e w' => ∃ zs st', e = .returned (.agg #[.slice (some ⟨g, 0, none⟩) 4 c, .int .i64 st']) ∧ TurnM xs st kind k v zs st' ∧ w'.ownsRow base 3 1 (.slice (some ⟨g, 0, none⟩) 4 c) 4 (zs.map I) ∧ Below base w w' := by
  obtain ⟨hk, hkey, _⟩ := hop
  unfold KeyGood at hkey
  rcases kinds hk with rfl | rfl | rfl | rfl | rfl | rfl | rfl | rfl | rfl | rfl
  · obtain ⟨m, rfl⟩ : ∃ m : Nat, k = m := ⟨k.toNat, by omega⟩
    refine (turn_1 base g c st xs w hown hb m v (by omega)).mono ?_
    rintro e w' ⟨rfl, ho, hbl⟩
    exact ⟨xs.set m v, st, rfl, .inl ⟨.inl rfl, by simp, rfl⟩, ho, hbl⟩
  · obtain ⟨m, rfl⟩ : ∃ m : Nat, k = m := ⟨k.toNat, by omega⟩
    refine (turn_2 base g c st xs w hown hb m v (by omega)).mono ?_
    rintro e w' ⟨rfl, ho, hbl⟩
    exact ⟨xs.set m v, st, rfl, .inl ⟨.inr rfl, by simp, rfl⟩, ho, hbl⟩
  · obtain ⟨m, rfl⟩ : ∃ m : Nat, k = m := ⟨k.toNat, by omega⟩
    refine (turn_3 base g c st xs w hown hb m v (by omega)).mono ?_
    rintro e w' ⟨rfl, ho, hbl⟩
    exact ⟨xs.set m 0, st, rfl, .inr (.inl ⟨rfl, by simp, rfl⟩), ho, hbl⟩
  · refine (turn_4 base g c st xs w hown hb k v).mono ?_
    rintro e w' ⟨rfl, ho, hbl⟩
    exact ⟨xs, st, rfl, .inr (.inr (.inr ⟨by omega, rfl, rfl⟩)), ho, hbl⟩
  · refine (turn_5 base g c st xs w hown hb k v).mono ?_
    rintro e w' ⟨rfl, ho, hbl⟩
    exact ⟨xs, st, rfl, .inr (.inr (.inr ⟨by omega, rfl, rfl⟩)), ho, hbl⟩
  · refine (turn_6 base g c st xs w hown hb k v).mono ?_
    rintro e w' ⟨rfl, ho, hbl⟩
    exact ⟨xs, st, rfl, .inr (.inr (.inr ⟨by omega, rfl, rfl⟩)), ho, hbl⟩
  · refine (turn_7 base g c st xs w hown hb k v).mono ?_
    rintro e w' ⟨rfl, ho, hbl⟩
    exact ⟨xs, st, rfl, .inr (.inr (.inr ⟨by omega, rfl, rfl⟩)), ho, hbl⟩
  · refine (turn_8 base g c st xs w hown hb k v hst).mono ?_
    rintro e w' ⟨rfl, ho, hbl⟩
    exact ⟨xs, st + 1, rfl, .inr (.inr (.inl ⟨by omega, rfl, rfl⟩)), ho, hbl⟩
  · refine (turn_9 base g c st xs w hown hb k v hst).mono ?_
    rintro e w' ⟨rfl, ho, hbl⟩
    exact ⟨xs, st + 1, rfl, .inr (.inr (.inl ⟨by omega, rfl, rfl⟩)), ho, hbl⟩
  · refine (turn_10 base g c st xs w hown hb k v).mono ?_
    rintro e w' ⟨rfl, ho, hbl⟩
    exact ⟨xs, st, rfl, .inr (.inr (.inr ⟨by omega, rfl, rfl⟩)), ho, hbl⟩
end Go.Proofs.Ytlnhmmpmnflagad
