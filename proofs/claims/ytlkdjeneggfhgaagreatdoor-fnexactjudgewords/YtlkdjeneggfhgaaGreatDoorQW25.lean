/- Texts joined: ImplTurn, Comings, ImplCom1, ImplCom2, ImplCom3. -/
import Derived.Test.YtlkdjeneggfhgaaGreatDoorQW01
import Derived.Test.YtlkdjeneggfhgaaGreatDoorQW06
import Derived.Test.YtlkdjeneggfhgaaGreatDoorQW18
import Derived.Test.YtlkdjeneggfhgaaGreatDoorQW08
import Derived.Handy
import Derived.Maps.AppendAt
import Derived.OwnWalk
import Derived.Test.YtlkdjeneggfhgaaGreatDoorQW23
import Derived.Deep.RegionHeld3
set_option maxHeartbeats 2000000
set_option maxRecDepth 100000
namespace Go.Proofs.YtlkdjeneggfhgaaGreatDoor
section
open Go.ChangeShapes Go.WideShapes Go.ChangeAt Go.RowKit
theorem turn_4 (base g c : Nat) (st : Int) (xs : List Int) (w : World) (hown : w.ownsRow base 3 1 (.slice (some ⟨g, 0, none⟩) 4 c) 4 (xs.map I)) (hb : base ≤ w.heap.size) (k v : Int) :
   Calls Tryz.prog 144 #[.agg #[.slice (some ⟨g, 0, none⟩) 4 c, .int .i64 st], .iface 229 (OpV 4 (k) (v))] w fun e w' => e = .returned (.agg #[.slice (some ⟨g, 0, none⟩) 4 c, .int .i64 st]) ∧ w'.ownsRow base 3 1 (.slice (some ⟨g, 0, none⟩) 4 c) 4 ((xs).map I) ∧ Below base w w' := by
 have hgl : g < w.heap.size := (hown.lt g rfl).2
 have hgb : base ≤ g := (hown.lt g rfl).1
 have OWN : Hid (w.ownsRow base 3 1 (.slice (some ⟨g, 0, none⟩) 4 c) 4 (xs.map I)) := hown
 clear hown
 have t1 : ∀ w : World, (Instr.typeAssert (.iface 229 (OpV 4 (k) (v))) 177 225 true).run Tryz.prog w = .ok (.tuple #[OpV 0 0 0, .bool false]) w := fun _ => by kernel_rfl
 have t2 : ∀ w : World, (Instr.typeAssert (.iface 229 (OpV 4 (k) (v))) 177 227 true).run Tryz.prog w = .ok (.tuple #[OpV 0 0 0, .bool false]) w := fun _ => by kernel_rfl
 have t3 : ∀ w : World, (Instr.typeAssert (.iface 229 (OpV 4 (k) (v))) 177 228 true).run Tryz.prog w = .ok (.tuple #[OpV 0 0 0, .bool false]) w := fun _ => by kernel_rfl
 have t8 : ∀ w : World, (Instr.typeAssert (.iface 229 (OpV 4 (k) (v))) 177 233 true).run Tryz.prog w = .ok (.tuple #[OpV 0 0 0, .bool false]) w := fun _ => by kernel_rfl
 have t9 : ∀ w : World, (Instr.typeAssert (.iface 229 (OpV 4 (k) (v))) 177 234 true).run Tryz.prog w = .ok (.tuple #[OpV 0 0 0, .bool false]) w := fun _ => by kernel_rfl
 go_enter Tryz.func144, Tryz.ntmps144
 go_wp2
 (try simp only [Exit.inBlock, Exit.then])
 refine bodyPost_ret (by simp [results, Tryz.results144, go_sem]; try rfl) rfl ?_
 exact ⟨rfl, (OWN.out.alloc _).alloc _, ((Below.refl base w).alloc hb _).alloc (by simp; omega) _⟩
theorem turn_5 (base g c : Nat) (st : Int) (xs : List Int) (w : World) (hown : w.ownsRow base 3 1 (.slice (some ⟨g, 0, none⟩) 4 c) 4 (xs.map I)) (hb : base ≤ w.heap.size) (k v : Int) :
   Calls Tryz.prog 144 #[.agg #[.slice (some ⟨g, 0, none⟩) 4 c, .int .i64 st], .iface 230 (OpV 5 (k) (v))] w fun e w' => e = .returned (.agg #[.slice (some ⟨g, 0, none⟩) 4 c, .int .i64 st]) ∧ w'.ownsRow base 3 1 (.slice (some ⟨g, 0, none⟩) 4 c) 4 ((xs).map I) ∧ Below base w w' := by
 have hgl : g < w.heap.size := (hown.lt g rfl).2
 have hgb : base ≤ g := (hown.lt g rfl).1
 have OWN : Hid (w.ownsRow base 3 1 (.slice (some ⟨g, 0, none⟩) 4 c) 4 (xs.map I)) := hown
 clear hown
 have t1 : ∀ w : World, (Instr.typeAssert (.iface 230 (OpV 5 (k) (v))) 177 225 true).run Tryz.prog w = .ok (.tuple #[OpV 0 0 0, .bool false]) w := fun _ => by kernel_rfl
 have t2 : ∀ w : World, (Instr.typeAssert (.iface 230 (OpV 5 (k) (v))) 177 227 true).run Tryz.prog w = .ok (.tuple #[OpV 0 0 0, .bool false]) w := fun _ => by kernel_rfl
 have t3 : ∀ w : World, (Instr.typeAssert (.iface 230 (OpV 5 (k) (v))) 177 228 true).run Tryz.prog w = .ok (.tuple #[OpV 0 0 0, .bool false]) w := fun _ => by kernel_rfl
 have t8 : ∀ w : World, (Instr.typeAssert (.iface 230 (OpV 5 (k) (v))) 177 233 true).run Tryz.prog w = .ok (.tuple #[OpV 0 0 0, .bool false]) w := fun _ => by kernel_rfl
 have t9 : ∀ w : World, (Instr.typeAssert (.iface 230 (OpV 5 (k) (v))) 177 234 true).run Tryz.prog w = .ok (.tuple #[OpV 0 0 0, .bool false]) w := fun _ => by kernel_rfl
 go_enter Tryz.func144, Tryz.ntmps144
 go_wp2
 (try simp only [Exit.inBlock, Exit.then])
 refine bodyPost_ret (by simp [results, Tryz.results144, go_sem]; try rfl) rfl ?_
 exact ⟨rfl, (OWN.out.alloc _).alloc _, ((Below.refl base w).alloc hb _).alloc (by simp; omega) _⟩
theorem turn_6 (base g c : Nat) (st : Int) (xs : List Int) (w : World) (hown : w.ownsRow base 3 1 (.slice (some ⟨g, 0, none⟩) 4 c) 4 (xs.map I)) (hb : base ≤ w.heap.size) (k v : Int) :
   Calls Tryz.prog 144 #[.agg #[.slice (some ⟨g, 0, none⟩) 4 c, .int .i64 st], .iface 231 (OpV 6 (k) (v))] w fun e w' => e = .returned (.agg #[.slice (some ⟨g, 0, none⟩) 4 c, .int .i64 st]) ∧ w'.ownsRow base 3 1 (.slice (some ⟨g, 0, none⟩) 4 c) 4 ((xs).map I) ∧ Below base w w' := by
 have hgl : g < w.heap.size := (hown.lt g rfl).2
 have hgb : base ≤ g := (hown.lt g rfl).1
 have OWN : Hid (w.ownsRow base 3 1 (.slice (some ⟨g, 0, none⟩) 4 c) 4 (xs.map I)) := hown
 clear hown
 have t1 : ∀ w : World, (Instr.typeAssert (.iface 231 (OpV 6 (k) (v))) 177 225 true).run Tryz.prog w = .ok (.tuple #[OpV 0 0 0, .bool false]) w := fun _ => by kernel_rfl
 have t2 : ∀ w : World, (Instr.typeAssert (.iface 231 (OpV 6 (k) (v))) 177 227 true).run Tryz.prog w = .ok (.tuple #[OpV 0 0 0, .bool false]) w := fun _ => by kernel_rfl
 have t3 : ∀ w : World, (Instr.typeAssert (.iface 231 (OpV 6 (k) (v))) 177 228 true).run Tryz.prog w = .ok (.tuple #[OpV 0 0 0, .bool false]) w := fun _ => by kernel_rfl
 have t8 : ∀ w : World, (Instr.typeAssert (.iface 231 (OpV 6 (k) (v))) 177 233 true).run Tryz.prog w = .ok (.tuple #[OpV 0 0 0, .bool false]) w := fun _ => by kernel_rfl
 have t9 : ∀ w : World, (Instr.typeAssert (.iface 231 (OpV 6 (k) (v))) 177 234 true).run Tryz.prog w = .ok (.tuple #[OpV 0 0 0, .bool false]) w := fun _ => by kernel_rfl
 go_enter Tryz.func144, Tryz.ntmps144
 go_wp2
 (try simp only [Exit.inBlock, Exit.then])
 refine bodyPost_ret (by simp [results, Tryz.results144, go_sem]; try rfl) rfl ?_
 exact ⟨rfl, (OWN.out.alloc _).alloc _, ((Below.refl base w).alloc hb _).alloc (by simp; omega) _⟩
theorem turn_7 (base g c : Nat) (st : Int) (xs : List Int) (w : World) (hown : w.ownsRow base 3 1 (.slice (some ⟨g, 0, none⟩) 4 c) 4 (xs.map I)) (hb : base ≤ w.heap.size) (k v : Int) :
   Calls Tryz.prog 144 #[.agg #[.slice (some ⟨g, 0, none⟩) 4 c, .int .i64 st], .iface 232 (OpV 7 (k) (v))] w fun e w' => e = .returned (.agg #[.slice (some ⟨g, 0, none⟩) 4 c, .int .i64 st]) ∧ w'.ownsRow base 3 1 (.slice (some ⟨g, 0, none⟩) 4 c) 4 ((xs).map I) ∧ Below base w w' := by
 have hgl : g < w.heap.size := (hown.lt g rfl).2
 have hgb : base ≤ g := (hown.lt g rfl).1
 have OWN : Hid (w.ownsRow base 3 1 (.slice (some ⟨g, 0, none⟩) 4 c) 4 (xs.map I)) := hown
 clear hown
 have t1 : ∀ w : World, (Instr.typeAssert (.iface 232 (OpV 7 (k) (v))) 177 225 true).run Tryz.prog w = .ok (.tuple #[OpV 0 0 0, .bool false]) w := fun _ => by kernel_rfl
 have t2 : ∀ w : World, (Instr.typeAssert (.iface 232 (OpV 7 (k) (v))) 177 227 true).run Tryz.prog w = .ok (.tuple #[OpV 0 0 0, .bool false]) w := fun _ => by kernel_rfl
 have t3 : ∀ w : World, (Instr.typeAssert (.iface 232 (OpV 7 (k) (v))) 177 228 true).run Tryz.prog w = .ok (.tuple #[OpV 0 0 0, .bool false]) w := fun _ => by kernel_rfl
 have t8 : ∀ w : World, (Instr.typeAssert (.iface 232 (OpV 7 (k) (v))) 177 233 true).run Tryz.prog w = .ok (.tuple #[OpV 0 0 0, .bool false]) w := fun _ => by kernel_rfl
 have t9 : ∀ w : World, (Instr.typeAssert (.iface 232 (OpV 7 (k) (v))) 177 234 true).run Tryz.prog w = .ok (.tuple #[OpV 0 0 0, .bool false]) w := fun _ => by kernel_rfl
 go_enter Tryz.func144, Tryz.ntmps144
 go_wp2
 (try simp only [Exit.inBlock, Exit.then])
 refine bodyPost_ret (by simp [results, Tryz.results144, go_sem]; try rfl) rfl ?_
 exact ⟨rfl, (OWN.out.alloc _).alloc _, ((Below.refl base w).alloc hb _).alloc (by simp; omega) _⟩
theorem turn_10 (base g c : Nat) (st : Int) (xs : List Int) (w : World) (hown : w.ownsRow base 3 1 (.slice (some ⟨g, 0, none⟩) 4 c) 4 (xs.map I)) (hb : base ≤ w.heap.size) (k v : Int) :
   Calls Tryz.prog 144 #[.agg #[.slice (some ⟨g, 0, none⟩) 4 c, .int .i64 st], .iface 235 (OpV 10 (k) (v))] w fun e w' => e = .returned (.agg #[.slice (some ⟨g, 0, none⟩) 4 c, .int .i64 st]) ∧ w'.ownsRow base 3 1 (.slice (some ⟨g, 0, none⟩) 4 c) 4 ((xs).map I) ∧ Below base w w' := by
 have hgl : g < w.heap.size := (hown.lt g rfl).2
 have hgb : base ≤ g := (hown.lt g rfl).1
 have OWN : Hid (w.ownsRow base 3 1 (.slice (some ⟨g, 0, none⟩) 4 c) 4 (xs.map I)) := hown
 clear hown
 have t1 : ∀ w : World, (Instr.typeAssert (.iface 235 (OpV 10 (k) (v))) 177 225 true).run Tryz.prog w = .ok (.tuple #[OpV 0 0 0, .bool false]) w := fun _ => by kernel_rfl
 have t2 : ∀ w : World, (Instr.typeAssert (.iface 235 (OpV 10 (k) (v))) 177 227 true).run Tryz.prog w = .ok (.tuple #[OpV 0 0 0, .bool false]) w := fun _ => by kernel_rfl
 have t3 : ∀ w : World, (Instr.typeAssert (.iface 235 (OpV 10 (k) (v))) 177 228 true).run Tryz.prog w = .ok (.tuple #[OpV 0 0 0, .bool false]) w := fun _ => by kernel_rfl
 have t8 : ∀ w : World, (Instr.typeAssert (.iface 235 (OpV 10 (k) (v))) 177 233 true).run Tryz.prog w = .ok (.tuple #[OpV 0 0 0, .bool false]) w := fun _ => by kernel_rfl
 have t9 : ∀ w : World, (Instr.typeAssert (.iface 235 (OpV 10 (k) (v))) 177 234 true).run Tryz.prog w = .ok (.tuple #[OpV 0 0 0, .bool false]) w := fun _ => by kernel_rfl
 go_enter Tryz.func144, Tryz.ntmps144
 go_wp2
 (try simp only [Exit.inBlock, Exit.then])
 refine bodyPost_ret (by simp [results, Tryz.results144, go_sem]; try rfl) rfl ?_
 exact ⟨rfl, (OWN.out.alloc _).alloc _, ((Below.refl base w).alloc hb _).alloc (by simp; omega) _⟩
theorem turn_8 (base g c : Nat) (st : Int) (xs : List Int) (w : World) (hown : w.ownsRow base 3 1 (.slice (some ⟨g, 0, none⟩) 4 c) 4 (xs.map I)) (hb : base ≤ w.heap.size) (k v : Int) (hst : 0 ≤ st ∧ st ≤ 5) :
   Calls Tryz.prog 144 #[.agg #[.slice (some ⟨g, 0, none⟩) 4 c, .int .i64 st], .iface 233 (OpV 8 (k) (v))] w fun e w' => e = .returned (.agg #[.slice (some ⟨g, 0, none⟩) 4 c, .int .i64 (st + 1)]) ∧ w'.ownsRow base 3 1 (.slice (some ⟨g, 0, none⟩) 4 c) 4 ((xs).map I) ∧ Below base w w' := by
 have hgl : g < w.heap.size := (hown.lt g rfl).2
 have hgb : base ≤ g := (hown.lt g rfl).1
 have OWN : Hid (w.ownsRow base 3 1 (.slice (some ⟨g, 0, none⟩) 4 c) 4 (xs.map I)) := hown
 clear hown
 have t1 : ∀ w : World, (Instr.typeAssert (.iface 233 (OpV 8 (k) (v))) 177 225 true).run Tryz.prog w = .ok (.tuple #[OpV 0 0 0, .bool false]) w := fun _ => by kernel_rfl
 have t2 : ∀ w : World, (Instr.typeAssert (.iface 233 (OpV 8 (k) (v))) 177 227 true).run Tryz.prog w = .ok (.tuple #[OpV 0 0 0, .bool false]) w := fun _ => by kernel_rfl
 have t3 : ∀ w : World, (Instr.typeAssert (.iface 233 (OpV 8 (k) (v))) 177 228 true).run Tryz.prog w = .ok (.tuple #[OpV 0 0 0, .bool false]) w := fun _ => by kernel_rfl
 have t8 : ∀ w : World, (Instr.typeAssert (.iface 233 (OpV 8 (k) (v))) 177 233 true).run Tryz.prog w = .ok (.tuple #[OpV 8 (k) (v), .bool true]) w := fun _ => by kernel_rfl
 have t9 : ∀ w : World, (Instr.typeAssert (.iface 233 (OpV 8 (k) (v))) 177 234 true).run Tryz.prog w = .ok (.tuple #[OpV 0 0 0, .bool false]) w := fun _ => by kernel_rfl
 go_enter Tryz.func144, Tryz.ntmps144
 have hst0 := hst.1
 have hst1 := hst.2
 go_wp2
 (try simp only [Exit.inBlock, Exit.then])
 refine bodyPost_ret (by simp [results, Tryz.results144, go_sem]; try rfl) rfl ?_
 exact ⟨rfl, (OWN.out.alloc _).alloc _, ((Below.refl base w).alloc hb _).alloc (by simp; omega) _⟩
theorem turn_9 (base g c : Nat) (st : Int) (xs : List Int) (w : World) (hown : w.ownsRow base 3 1 (.slice (some ⟨g, 0, none⟩) 4 c) 4 (xs.map I)) (hb : base ≤ w.heap.size) (k v : Int) (hst : 0 ≤ st ∧ st ≤ 5) :
   Calls Tryz.prog 144 #[.agg #[.slice (some ⟨g, 0, none⟩) 4 c, .int .i64 st], .iface 234 (OpV 9 (k) (v))] w fun e w' => e = .returned (.agg #[.slice (some ⟨g, 0, none⟩) 4 c, .int .i64 (st + 1)]) ∧ w'.ownsRow base 3 1 (.slice (some ⟨g, 0, none⟩) 4 c) 4 ((xs).map I) ∧ Below base w w' := by
 have hgl : g < w.heap.size := (hown.lt g rfl).2
 have hgb : base ≤ g := (hown.lt g rfl).1
 have OWN : Hid (w.ownsRow base 3 1 (.slice (some ⟨g, 0, none⟩) 4 c) 4 (xs.map I)) := hown
 clear hown
 have t1 : ∀ w : World, (Instr.typeAssert (.iface 234 (OpV 9 (k) (v))) 177 225 true).run Tryz.prog w = .ok (.tuple #[OpV 0 0 0, .bool false]) w := fun _ => by kernel_rfl
 have t2 : ∀ w : World, (Instr.typeAssert (.iface 234 (OpV 9 (k) (v))) 177 227 true).run Tryz.prog w = .ok (.tuple #[OpV 0 0 0, .bool false]) w := fun _ => by kernel_rfl
 have t3 : ∀ w : World, (Instr.typeAssert (.iface 234 (OpV 9 (k) (v))) 177 228 true).run Tryz.prog w = .ok (.tuple #[OpV 0 0 0, .bool false]) w := fun _ => by kernel_rfl
 have t8 : ∀ w : World, (Instr.typeAssert (.iface 234 (OpV 9 (k) (v))) 177 233 true).run Tryz.prog w = .ok (.tuple #[OpV 0 0 0, .bool false]) w := fun _ => by kernel_rfl
 have t9 : ∀ w : World, (Instr.typeAssert (.iface 234 (OpV 9 (k) (v))) 177 234 true).run Tryz.prog w = .ok (.tuple #[OpV 9 (k) (v), .bool true]) w := fun _ => by kernel_rfl
 go_enter Tryz.func144, Tryz.ntmps144
 have hst0 := hst.1
 have hst1 := hst.2
 go_wp2
 (try simp only [Exit.inBlock, Exit.then])
 refine bodyPost_ret (by simp [results, Tryz.results144, go_sem]; try rfl) rfl ?_
 exact ⟨rfl, (OWN.out.alloc _).alloc _, ((Below.refl base w).alloc hb _).alloc (by simp; omega) _⟩
theorem turn_1 (base g c : Nat) (st : Int) (xs : List Int) (w : World) (hown : w.ownsRow base 3 1 (.slice (some ⟨g, 0, none⟩) 4 c) 4 (xs.map I)) (hb : base ≤ w.heap.size) (m : Nat) (v : Int) (hm : m < 4) :
   Calls Tryz.prog 144 #[.agg #[.slice (some ⟨g, 0, none⟩) 4 c, .int .i64 st], .iface 225 (OpV 1 ((m : Int)) (v))] w fun e w' => e = .returned (.agg #[.slice (some ⟨g, 0, none⟩) 4 c, .int .i64 st]) ∧ w'.ownsRow base 3 1 (.slice (some ⟨g, 0, none⟩) 4 c) 4 ((xs.set m v).map I) ∧ Below base w w' := by
 have hgl : g < w.heap.size := (hown.lt g rfl).2
 have hgb : base ≤ g := (hown.lt g rfl).1
 have OWN : Hid (w.ownsRow base 3 1 (.slice (some ⟨g, 0, none⟩) 4 c) 4 (xs.map I)) := hown
 clear hown
 have t1 : ∀ w : World, (Instr.typeAssert (.iface 225 (OpV 1 ((m : Int)) (v))) 177 225 true).run Tryz.prog w = .ok (.tuple #[OpV 1 ((m : Int)) (v), .bool true]) w := fun _ => by kernel_rfl
 go_enter Tryz.func144, Tryz.ntmps144
 have hm0 : (0 : Int) ≤ (m : Int) := by omega
 have hm1 : (m : Int) < 4 := by omega
 obtain ⟨u0, hu⟩ := own_cell OWN.out hm
 have hu3 : (((w.alloc (.cells #[.slice (some ⟨g, 0, none⟩) 4 c, .int .i64 st] 34)).alloc (.cells #[.slice none 0 0, .int .i64 0] 34)).alloc (.cells #[.int .i64 1, .int .i64 m, .int .i64 v] 225)).cell? ⟨g, m, none⟩ = some u0 := by rw [World.cell?_alloc_past _ _ _ (by simp; omega), World.cell?_alloc_past _ _ _ (by simp; omega), World.cell?_alloc_past _ _ _ hgl, hu]
 have hz3 : (((w.alloc (.cells #[.slice (some ⟨g, 0, none⟩) 4 c, .int .i64 st] 34)).alloc (.cells #[.slice none 0 0, .int .i64 0] 34)).alloc (.cells #[.int .i64 1, .int .i64 m, .int .i64 v] 225)).frozen? ⟨g, m, none⟩ = false := (((OWN.out.alloc _).alloc _).alloc _).frozenAt m
 have HST : Hid (((((w.alloc (.cells #[.slice (some ⟨g, 0, none⟩) 4 c, .int .i64 st] 34)).alloc (.cells #[.slice none 0 0, .int .i64 0] 34)).alloc (.cells #[.int .i64 1, .int .i64 m, .int .i64 v] 225)).setCell ⟨g, m, none⟩ (I v)).ownsRow base 3 1 (.slice (some ⟨g, 0, none⟩) 4 c) 4 ((xs.set m v).map I)) := by
   rw [List.map_set]
   exact ((((OWN.out.alloc _).alloc _).alloc _).stored m (I v)).1
 go_wp2
 (try simp only [Exit.inBlock, Exit.then])
 refine bodyPost_ret (by simp [results, Tryz.results144, go_sem]; try rfl) rfl ?_
 exact ⟨rfl, own_setCell_far (own_setCell_far HST.out (by simp [Value.ownBlock]; omega) _) (by simp [Value.ownBlock]; omega) _, ((((((Below.refl base w).alloc hb _).alloc (by simp; omega) _).alloc (by simp; omega) _).setCell hgb _).setCell (by simp; omega) _).setCell (by simp; omega) _⟩
theorem turn_2 (base g c : Nat) (st : Int) (xs : List Int) (w : World) (hown : w.ownsRow base 3 1 (.slice (some ⟨g, 0, none⟩) 4 c) 4 (xs.map I)) (hb : base ≤ w.heap.size) (m : Nat) (v : Int) (hm : m < 4) :
   Calls Tryz.prog 144 #[.agg #[.slice (some ⟨g, 0, none⟩) 4 c, .int .i64 st], .iface 227 (OpV 2 ((m : Int)) (v))] w fun e w' => e = .returned (.agg #[.slice (some ⟨g, 0, none⟩) 4 c, .int .i64 st]) ∧ w'.ownsRow base 3 1 (.slice (some ⟨g, 0, none⟩) 4 c) 4 ((xs.set m v).map I) ∧ Below base w w' := by
 have hgl : g < w.heap.size := (hown.lt g rfl).2
 have hgb : base ≤ g := (hown.lt g rfl).1
 have OWN : Hid (w.ownsRow base 3 1 (.slice (some ⟨g, 0, none⟩) 4 c) 4 (xs.map I)) := hown
 clear hown
 have t1 : ∀ w : World, (Instr.typeAssert (.iface 227 (OpV 2 ((m : Int)) (v))) 177 225 true).run Tryz.prog w = .ok (.tuple #[OpV 0 0 0, .bool false]) w := fun _ => by kernel_rfl
 have t2 : ∀ w : World, (Instr.typeAssert (.iface 227 (OpV 2 ((m : Int)) (v))) 177 227 true).run Tryz.prog w = .ok (.tuple #[OpV 2 ((m : Int)) (v), .bool true]) w := fun _ => by kernel_rfl
 go_enter Tryz.func144, Tryz.ntmps144
 have hm0 : (0 : Int) ≤ (m : Int) := by omega
 have hm1 : (m : Int) < 4 := by omega
 obtain ⟨u0, hu⟩ := own_cell OWN.out hm
 have hu3 : (((w.alloc (.cells #[.slice (some ⟨g, 0, none⟩) 4 c, .int .i64 st] 34)).alloc (.cells #[.slice none 0 0, .int .i64 0] 34)).alloc (.cells #[.int .i64 2, .int .i64 m, .int .i64 v] 227)).cell? ⟨g, m, none⟩ = some u0 := by rw [World.cell?_alloc_past _ _ _ (by simp; omega), World.cell?_alloc_past _ _ _ (by simp; omega), World.cell?_alloc_past _ _ _ hgl, hu]
 have hz3 : (((w.alloc (.cells #[.slice (some ⟨g, 0, none⟩) 4 c, .int .i64 st] 34)).alloc (.cells #[.slice none 0 0, .int .i64 0] 34)).alloc (.cells #[.int .i64 2, .int .i64 m, .int .i64 v] 227)).frozen? ⟨g, m, none⟩ = false := (((OWN.out.alloc _).alloc _).alloc _).frozenAt m
 have HST : Hid (((((w.alloc (.cells #[.slice (some ⟨g, 0, none⟩) 4 c, .int .i64 st] 34)).alloc (.cells #[.slice none 0 0, .int .i64 0] 34)).alloc (.cells #[.int .i64 2, .int .i64 m, .int .i64 v] 227)).setCell ⟨g, m, none⟩ (I v)).ownsRow base 3 1 (.slice (some ⟨g, 0, none⟩) 4 c) 4 ((xs.set m v).map I)) := by
   rw [List.map_set]
   exact ((((OWN.out.alloc _).alloc _).alloc _).stored m (I v)).1
 go_wp2
 (try simp only [Exit.inBlock, Exit.then])
 refine bodyPost_ret (by simp [results, Tryz.results144, go_sem]; try rfl) rfl ?_
 exact ⟨rfl, own_setCell_far (own_setCell_far HST.out (by simp [Value.ownBlock]; omega) _) (by simp [Value.ownBlock]; omega) _, ((((((Below.refl base w).alloc hb _).alloc (by simp; omega) _).alloc (by simp; omega) _).setCell hgb _).setCell (by simp; omega) _).setCell (by simp; omega) _⟩
theorem turn_3 (base g c : Nat) (st : Int) (xs : List Int) (w : World) (hown : w.ownsRow base 3 1 (.slice (some ⟨g, 0, none⟩) 4 c) 4 (xs.map I)) (hb : base ≤ w.heap.size) (m : Nat) (v : Int) (hm : m < 4) :
   Calls Tryz.prog 144 #[.agg #[.slice (some ⟨g, 0, none⟩) 4 c, .int .i64 st], .iface 228 (OpV 3 ((m : Int)) (v))] w fun e w' => e = .returned (.agg #[.slice (some ⟨g, 0, none⟩) 4 c, .int .i64 st]) ∧ w'.ownsRow base 3 1 (.slice (some ⟨g, 0, none⟩) 4 c) 4 ((xs.set m 0).map I) ∧ Below base w w' := by
 have hgl : g < w.heap.size := (hown.lt g rfl).2
 have hgb : base ≤ g := (hown.lt g rfl).1
 have OWN : Hid (w.ownsRow base 3 1 (.slice (some ⟨g, 0, none⟩) 4 c) 4 (xs.map I)) := hown
 clear hown
 have t1 : ∀ w : World, (Instr.typeAssert (.iface 228 (OpV 3 ((m : Int)) (v))) 177 225 true).run Tryz.prog w = .ok (.tuple #[OpV 0 0 0, .bool false]) w := fun _ => by kernel_rfl
 have t2 : ∀ w : World, (Instr.typeAssert (.iface 228 (OpV 3 ((m : Int)) (v))) 177 227 true).run Tryz.prog w = .ok (.tuple #[OpV 0 0 0, .bool false]) w := fun _ => by kernel_rfl
 have t3 : ∀ w : World, (Instr.typeAssert (.iface 228 (OpV 3 ((m : Int)) (v))) 177 228 true).run Tryz.prog w = .ok (.tuple #[OpV 3 ((m : Int)) (v), .bool true]) w := fun _ => by kernel_rfl
 go_enter Tryz.func144, Tryz.ntmps144
 have hm0 : (0 : Int) ≤ (m : Int) := by omega
 have hm1 : (m : Int) < 4 := by omega
 obtain ⟨u0, hu⟩ := own_cell OWN.out hm
 have hu3 : (((w.alloc (.cells #[.slice (some ⟨g, 0, none⟩) 4 c, .int .i64 st] 34)).alloc (.cells #[.slice none 0 0, .int .i64 0] 34)).alloc (.cells #[.int .i64 3, .int .i64 m, .int .i64 v] 228)).cell? ⟨g, m, none⟩ = some u0 := by rw [World.cell?_alloc_past _ _ _ (by simp; omega), World.cell?_alloc_past _ _ _ (by simp; omega), World.cell?_alloc_past _ _ _ hgl, hu]
 have hz3 : (((w.alloc (.cells #[.slice (some ⟨g, 0, none⟩) 4 c, .int .i64 st] 34)).alloc (.cells #[.slice none 0 0, .int .i64 0] 34)).alloc (.cells #[.int .i64 3, .int .i64 m, .int .i64 v] 228)).frozen? ⟨g, m, none⟩ = false := (((OWN.out.alloc _).alloc _).alloc _).frozenAt m
 have HST : Hid (((((w.alloc (.cells #[.slice (some ⟨g, 0, none⟩) 4 c, .int .i64 st] 34)).alloc (.cells #[.slice none 0 0, .int .i64 0] 34)).alloc (.cells #[.int .i64 3, .int .i64 m, .int .i64 v] 228)).setCell ⟨g, m, none⟩ (I 0)).ownsRow base 3 1 (.slice (some ⟨g, 0, none⟩) 4 c) 4 ((xs.set m 0).map I)) := by
   rw [List.map_set]
   exact ((((OWN.out.alloc _).alloc _).alloc _).stored m (I 0)).1
 go_wp2
 (try simp only [Exit.inBlock, Exit.then])
 refine bodyPost_ret (by simp [results, Tryz.results144, go_sem]; try rfl) rfl ?_
 exact ⟨rfl, own_setCell_far (own_setCell_far HST.out (by simp [Value.ownBlock]; omega) _) (by simp [Value.ownBlock]; omega) _, ((((((Below.refl base w).alloc hb _).alloc (by simp; omega) _).alloc (by simp; omega) _).setCell hgb _).setCell (by simp; omega) _).setCell (by simp; omega) _⟩
def TurnM (xs : List Int) (st kind k v : Int) (zs : List Int) (st' : Int) : Prop :=
 ((kind = 1 ∨ kind = 2) ∧ zs = xs.set k.toNat v ∧ st' = st) ∨ (kind = 3 ∧ zs = xs.set k.toNat 0 ∧ st' = st) ∨ ((kind = 8 ∨ kind = 9) ∧ zs = xs ∧ st' = st + 1) ∨ ((4 ≤ kind ∧ kind ≤ 7 ∨ kind = 10) ∧ zs = xs ∧ st' = st)
theorem turn_any (base g c : Nat) (st kind k v : Int) (xs : List Int) (w : World) (hown : w.ownsRow base 3 1 (.slice (some ⟨g, 0, none⟩) 4 c) 4 (xs.map I)) (hb : base ≤ w.heap.size) (hop : OpGood kind k v) (hst : 0 ≤ st ∧ st ≤ 5) :
   Calls Tryz.prog 144 #[.agg #[.slice (some ⟨g, 0, none⟩) 4 c, .int .i64 st], DeedV kind k v] w fun e w' => ∃ zs st', e = .returned (.agg #[.slice (some ⟨g, 0, none⟩) 4 c, .int .i64 st']) ∧ TurnM xs st kind k v zs st' ∧ w'.ownsRow base 3 1 (.slice (some ⟨g, 0, none⟩) 4 c) 4 (zs.map I) ∧ Below base w w' := by
 obtain ⟨hk, hkey, _⟩ := hop
 unfold KeyGood at hkey
 rcases kinds hk with rfl | rfl | rfl | rfl | rfl | rfl | rfl | rfl | rfl | rfl
 · obtain ⟨m, rfl⟩ : ∃ m : Nat, k = m := ⟨k.toNat, by omega⟩
   refine (turn_1 base g c st xs w hown hb m v (by omega)).mono ?_
   rintro e w' ⟨rfl, ho, hbl⟩
   exact ⟨xs.set m v, st, rfl, .inl ⟨.inl rfl, by simp, rfl⟩, ho, hbl⟩
 · obtain ⟨m, rfl⟩ : ∃ m : Nat, k = m := ⟨k.toNat, by omega⟩
   refine (turn_2 base g c st xs w hown hb m v (by omega)).mono ?_
   rintro e w' ⟨rfl, ho, hbl⟩
   exact ⟨xs.set m v, st, rfl, .inl ⟨.inr rfl, by simp, rfl⟩, ho, hbl⟩
 · obtain ⟨m, rfl⟩ : ∃ m : Nat, k = m := ⟨k.toNat, by omega⟩
   refine (turn_3 base g c st xs w hown hb m v (by omega)).mono ?_
   rintro e w' ⟨rfl, ho, hbl⟩
   exact ⟨xs.set m 0, st, rfl, .inr (.inl ⟨rfl, by simp, rfl⟩), ho, hbl⟩
 · refine (turn_4 base g c st xs w hown hb k v).mono ?_
   rintro e w' ⟨rfl, ho, hbl⟩
   exact ⟨xs, st, rfl, .inr (.inr (.inr ⟨by omega, rfl, rfl⟩)), ho, hbl⟩
 · refine (turn_5 base g c st xs w hown hb k v).mono ?_
   rintro e w' ⟨rfl, ho, hbl⟩
   exact ⟨xs, st, rfl, .inr (.inr (.inr ⟨by omega, rfl, rfl⟩)), ho, hbl⟩
 · refine (turn_6 base g c st xs w hown hb k v).mono ?_
   rintro e w' ⟨rfl, ho, hbl⟩
   exact ⟨xs, st, rfl, .inr (.inr (.inr ⟨by omega, rfl, rfl⟩)), ho, hbl⟩
 · refine (turn_7 base g c st xs w hown hb k v).mono ?_
   rintro e w' ⟨rfl, ho, hbl⟩
   exact ⟨xs, st, rfl, .inr (.inr (.inr ⟨by omega, rfl, rfl⟩)), ho, hbl⟩
 · refine (turn_8 base g c st xs w hown hb k v hst).mono ?_
   rintro e w' ⟨rfl, ho, hbl⟩
   exact ⟨xs, st + 1, rfl, .inr (.inr (.inl ⟨by omega, rfl, rfl⟩)), ho, hbl⟩
 · refine (turn_9 base g c st xs w hown hb k v hst).mono ?_
   rintro e w' ⟨rfl, ho, hbl⟩
   exact ⟨xs, st + 1, rfl, .inr (.inr (.inl ⟨by omega, rfl, rfl⟩)), ho, hbl⟩
 · refine (turn_10 base g c st xs w hown hb k v).mono ?_
   rintro e w' ⟨rfl, ho, hbl⟩
   exact ⟨xs, st, rfl, .inr (.inr (.inr ⟨by omega, rfl, rfl⟩)), ho, hbl⟩
def cellsC (L : List (Int × Value)) : List Value := L.flatMap fun r => [.int .i64 r.1, r.2]
theorem cellsC_snoc (L : List (Int × Value)) (k : Int) (v : Value) : cellsC L ++ [.int .i64 k, v] = cellsC (L ++ [(k, v)]) := by simp [cellsC]
abbrev ComAt (w : World) (base : Nat) (v : Value) (L : List (Int × Value)) : Prop := w.ownsRow base 61 2 v L.length (cellsC L)
theorem com_empty {w : World} {base : Nat} (hb : base ≤ w.heap.size) : ComAt (w.alloc (.cells #[] 61)) base (.slice (some ⟨w.heap.size, 0, none⟩) 0 0) [] :=
 ⟨rfl, .inr ⟨w.heap.size, 0, #[], rfl, hb, (by show (w.heap.push _)[w.heap.size]? = _; simp), Nat.le_refl _, by unfold maxLen; omega, rfl, rfl⟩⟩
theorem cell_two_new (w : World) (x y : Value) (t : TypeId) : ∀ (j : Nat) (u : Value), [x, y][j]? = some u → (w.alloc (.cells #[x, y] t)).cell? ((⟨w.heap.size, 0, none⟩ : Addr).add j) = some u := by
 intro j u hj
 rcases j with _ | _ | j
 · simp only [List.getElem?_cons_zero, Option.some.injEq] at hj; subst hj; simp [Addr.add]
 · simp only [List.getElem?_cons_succ, List.getElem?_cons_zero, Option.some.injEq] at hj; subst hj; simp [Addr.add]
 · simp at hj
theorem or_yes (base : Nat) (code : Int) (a : Option Addr) (n c : Nat) (v : Value) (L : List (Int × Value)) (w : World) (h : ComAt w base v L) (hL : L.length ≤ 3) (hb : base ≤ w.heap.size) :
   Calls Tryz.prog 178 #[v, .bool true, .int .i64 code, .slice a n c] w fun e w' => ∃ v', e = .returned v' ∧ ComAt w' base v' (L ++ [(code, .slice a n c)]) ∧ w.grownBy w' v.ownBlock := by
 obtain ⟨i0, hin⟩ : ∃ i, Tryz.prog.info? 61 = some i := ⟨_, rfl⟩
 have hz0 : i0.zero = some (.agg #[.int .i64 0, .slice none 0 0]) := by cases hin; kernel_rfl
 have hz1 : i0.size = 2 := by cases hin; kernel_rfl
 have hz2 : i0.bytes = 32 := by cases hin; kernel_rfl
 go_enter Tryz.func178, Tryz.ntmps178
 go_wp2_with (first
   | (at_builtin; refine wpList_append_own _ rfl _ _ 174 rfl base 61 i0 (.agg #[.int .i64 0, .slice none 0 0]) 2 32 Tryz.underlying174 hin hz0 hz1 hz2 rfl (by decide) _ _ _ rfl (h.alloc _) ⟨w.heap.size, 0, none⟩ 1 1 [.int .i64 code, .slice a n c] rfl rfl (cell_two_new _ _ _ _) (by intro u hu; simp at hu; rcases hu with rfl | rfl <;> rfl) (by unfold maxLen; omega) (by omega) (by simp; omega) ?_; intro v' w' hown' hgrow hnil)
   | go_in)
 go_ret
 rw [cellsC_snoc] at hown'
 refine ⟨_, rfl, ?_, (World.grownBy_alloc w _ _).trans hgrow⟩
 rw [ComAt, List.length_append]
 exact hown'
theorem or_no (code : Int) (a : Option Addr) (n c : Nat) (v : Value) (w : World) :
   Calls Tryz.prog 178 #[v, .bool false, .int .i64 code, .slice a n c] w fun e w' => e = .returned v ∧ w' = w := by
 go_enter Tryz.func178, Tryz.ntmps178
 go_wp2
 go_ret
 exact ⟨rfl, rfl⟩
theorem or_on (base : Nat) (W0 : World) (code : Int) (a : Option Addr) (n c : Nat) (v : Value) (L : List (Int × Value)) (w : World) (h : ComAt w base v L) (hL : L.length ≤ 3) (hbl : Below base W0 w) (hs : base ≤ W0.heap.size) :
   Calls Tryz.prog 178 #[v, .bool true, .int .i64 code, .slice a n c] w fun e w' => ∃ v', e = .returned v' ∧ ComAt w' base v' (L ++ [(code, .slice a n c)]) ∧ w.grownBy w' v.ownBlock ∧ Below base W0 w' := by
 have hs' : base ≤ w.heap.size := Nat.le_trans hs hbl.size
 refine (or_yes base code a n c v L w h hL hs').mono ?_
 rintro e w' ⟨v', rfl, hc, hg⟩
 exact ⟨v', rfl, hc, hg, hbl.grown hg hs' fun j hj => (h.lt j hj).1⟩
def TellsAs (w : World) : List (Int × Value) → List (Int × List Int) → Prop
 | [], [] => True
 | r :: L, q :: LL => (r.1 = q.1 ∧ ∃ a n c, r.2 = .slice a n c ∧ IntAt w a n q.2) ∧ TellsAs w L LL
 | _, _ => False
def ComSays (e : Ending) (w w' : World) (LL : List (Int × List Int)) : Prop :=
 ∃ (v : Value) (L : List (Int × Value)), e = .returned v ∧ ComAt w' w.heap.size v L ∧ TellsAs w' L LL
theorem com_empty_at {w : World} {base g : Nat} (hg : w.heap.size = g) (hb : base ≤ g) : ComAt (w.alloc (.cells #[] 61)) base (.slice (some ⟨g, 0, none⟩) 0 0) [] := by
 subst hg
 exact com_empty hb
theorem com_empty_drew {w : World} {base g : Nat} (hg : w.heap.size = g) (hb : base ≤ g) : ComAt (w.alloc (.cells #[] 61)).drew base (.slice (some ⟨g, 0, none⟩) 0 0) [] := by
 subst hg
 exact com_empty hb
theorem nil_at (w : World) : IntAt w none 0 [] := ⟨rfl, by omega, .inl rfl⟩
theorem none_told (w : World) (k : Int) : (((k, Value.slice none 0 0) : Int × Value).1 = ((k, []) : Int × List Int).1 ∧ ∃ a n c, ((k, Value.slice none 0 0) : Int × Value).2 = .slice a n c ∧ IntAt w a n ((k, []) : Int × List Int).2) := ⟨rfl, none, 0, 0, rfl, nil_at w⟩
theorem tells_1 (w : World) (k : Int) : TellsAs w [(k, .slice none 0 0)] [(k, [])] := ⟨none_told w k, trivial⟩
theorem tells_2 (w : World) (k k' : Int) : TellsAs w [(k, .slice none 0 0), (k', .slice none 0 0)] [(k, []), (k', [])] := ⟨none_told w k, none_told w k', trivial⟩
theorem tells_l {w : World} {a : Option Addr} {n c : Nat} {xs : List Int} (h : IntAt w a n xs) (k : Int) : TellsAs w [(k, .slice a n c)] [(k, xs)] := ⟨⟨rfl, a, n, c, rfl, h⟩, trivial⟩
theorem one_at {w : World} {g : Nat} {x : Int} (h : w.cell? ⟨g, 0, none⟩ = some (.int .i64 x)) : IntAt w (some ⟨g, 0, none⟩) 1 [x] :=
 ⟨rfl, by omega, .inr ⟨g, 0, rfl, fun i hi => by obtain rfl : i = 0 := by omega
                                                 exact h⟩⟩
theorem com_done {w w' : World} {v : Value} {L : List (Int × Value)} {LL : List (Int × List Int)} {B : Nat} (hB : w.heap.size ≤ B) (hc : ComAt w' B v L) (ht : TellsAs w' L LL) : ComSays (.returned v) w w' LL := ⟨v, L, rfl, own_weaken hc hB, ht⟩
theorem told_first {W : World} {b : Nat} {x : Int} {ob : Obj} {t : TypeId} (hb : W.heap.size = b) : ((W.alloc (.cells #[I x] t)).alloc ob).cell? ⟨b, 0, none⟩ = some (.int .i64 x) := by
 subst hb
 rw [World.cell?_alloc_past _ _ _ (show W.heap.size < _ by simp)]
 simp
theorem told_second {W : World} {b : Nat} {x : Int} {ob : Obj} {t : TypeId} (hb : W.heap.size = b) : ((W.alloc ob).alloc (.cells #[I x] t)).cell? ⟨b + 1, 0, none⟩ = some (.int .i64 x) := by
 subst hb
 have e : (W.alloc ob).heap.size = W.heap.size + 1 := by simp
 rw [← e]
 simp
theorem told_first_drew {W : World} {b : Nat} {x : Int} {ob : Obj} {t : TypeId} (hb : W.heap.size = b) : ((W.alloc (.cells #[I x] t)).alloc ob).drew.cell? ⟨b, 0, none⟩ = some (.int .i64 x) := told_first hb
theorem told_second_drew {W : World} {b : Nat} {x : Int} {ob : Obj} {t : TypeId} (hb : W.heap.size = b) : ((W.alloc ob).alloc (.cells #[I x] t)).drew.cell? ⟨b + 1, 0, none⟩ = some (.int .i64 x) := told_second hb
end
section
open Go.ChangeShapes Go.WideShapes Go.ChangeAt Go.RowKit Go.Maps



end
end Go.Proofs.YtlkdjeneggfhgaaGreatDoor
