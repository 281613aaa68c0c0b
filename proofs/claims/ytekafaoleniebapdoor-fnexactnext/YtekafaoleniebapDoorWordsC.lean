/- What the program's teller tells of each op, one word behind the other. -/
import Derived.Test.YtekafaoleniebapDoorPut
import Derived.Test.YtekafaoleniebapDoorSetT
import Derived.Test.YtekafaoleniebapDoorDel
import Derived.Test.YtekafaoleniebapDoorScan
import Derived.Test.YtekafaoleniebapDoorMakeN
import Derived.Test.YtekafaoleniebapDoorFindV
import Derived.Test.YtekafaoleniebapDoorOpM
import Derived.Laws.EntriesVeiled
namespace Go.Proofs.YtekafaoleniebapDoor
open Go.ChangeShapes Go.WideShapes Go.ChangeAt Go.RowKit


set_option maxRecDepth 100000 in
set_option maxHeartbeats 4000000 in
theorem words_1 (a : Option Addr) (n c : Nat) (F : Value) (wh : Bool) (k v : Int) (fs : List Int) (go : Ent → Bool) (ts : List TypeId) (J Jx : List Ent → World → Prop) (W0 W : World)
    (hG : Goes F wh a n c fs go W0 ts J Jx) (hB : Base W0 a n fs) (hW : Below W0.heap.size W0 W) (hJ : J [] W) (hk : 0 ≤ k ∧ k ≤ 3) :
    Calls Tryd.prog 35 #[.agg #[.slice a n c, F, .bool wh], .iface 67 (OpV 1 k v)] W fun e W' => (∃ v, e = .returned v) ∧ ∃ b, Fin wh go W0.heap.size ts J Jx W (stepsT wh fs n 1 k v) [] b W' := by
  have HG : Hid (Goes F wh a n c fs go W0 ts J Jx) := hG
  have HS : Hid (Sits W0.heap.size ts J a n fs W0 W W []) := ⟨hB, hW, hJ, Kp.of_below (Below.refl _ _) hW.size⟩
  clear hG hB hW hJ
  have t1 : ∀ w : World, (Instr.typeAssert (.iface 67 (OpV 1 k v)) 46 67 true).run Tryd.prog w = .ok (.tuple #[OpV 1 k v, .bool true]) w := fun w => by kernel_rfl
  have hX : Below W.heap.size W ((W.alloc (.cells #[.slice a n c, F, .bool wh] 65)).alloc (.cells #[.int .i64 1, .int .i64 k, .int .i64 v] 67)) := ((Below.refl _ _).alloc (Nat.le_refl _) _).alloc (by simp) _
  have HX : Hid (Below W.heap.size W ((W.alloc (.cells #[.slice a n c, F, .bool wh] 65)).alloc (.cells #[.int .i64 1, .int .i64 k, .int .i64 v] 67))) := hX
  clear hX
  go_enter Tryd.func35, Tryd.ntmps35
  go_wp2_with fail
  refine (put_any a n c F wh 1 k v fs go ts J Jx [] W0 _ HG.out HS.out.base (by decide) (HS.out.low.trans (HX.out.mono HS.out.low.size)) (HG.out.gj _ _ _ HS.out.j (far_below HX.out none)) hk).mono ?_
  rintro e W' ⟨b, rfl, hF⟩
  have HF : Hid (Fin wh go W0.heap.size ts J Jx ((W.alloc (.cells #[.slice a n c, F, .bool wh] 65)).alloc (.cells #[.int .i64 1, .int .i64 k, .int .i64 v] 67)) (stepsT wh fs n 1 k v) [] b W') := hF
  clear hF
  go_wp2
  go_end0
  exact ⟨⟨_, rfl⟩, b, Fin.kp (Kp.of_below HX.out HS.out.low.size) HF.out⟩

set_option maxRecDepth 100000 in
set_option maxHeartbeats 4000000 in
theorem words_2 (a : Option Addr) (n c : Nat) (F : Value) (wh : Bool) (k v : Int) (fs : List Int) (go : Ent → Bool) (ts : List TypeId) (J Jx : List Ent → World → Prop) (W0 W : World)
    (hG : Goes F wh a n c fs go W0 ts J Jx) (hB : Base W0 a n fs) (hW : Below W0.heap.size W0 W) (hJ : J [] W) (hk : 0 ≤ k ∧ k ≤ 3) :
    Calls Tryd.prog 35 #[.agg #[.slice a n c, F, .bool wh], .iface 68 (OpV 2 k v)] W fun e W' => (∃ v, e = .returned v) ∧ ∃ b, Fin wh go W0.heap.size ts J Jx W (stepsT wh fs n 2 k v) [] b W' := by
  have HG : Hid (Goes F wh a n c fs go W0 ts J Jx) := hG
  have HS : Hid (Sits W0.heap.size ts J a n fs W0 W W []) := ⟨hB, hW, hJ, Kp.of_below (Below.refl _ _) hW.size⟩
  clear hG hB hW hJ
  have t1 : ∀ w : World, (Instr.typeAssert (.iface 68 (OpV 2 k v)) 46 67 true).run Tryd.prog w = .ok (.tuple #[OpV 0 0 0, .bool false]) w := fun w => by kernel_rfl
  have t2 : ∀ w : World, (Instr.typeAssert (.iface 68 (OpV 2 k v)) 46 68 true).run Tryd.prog w = .ok (.tuple #[OpV 2 k v, .bool true]) w := fun w => by kernel_rfl
  have hX : Below W.heap.size W ((W.alloc (.cells #[.slice a n c, F, .bool wh] 65)).alloc (.cells #[.int .i64 2, .int .i64 k, .int .i64 v] 68)) := ((Below.refl _ _).alloc (Nat.le_refl _) _).alloc (by simp) _
  have HX : Hid (Below W.heap.size W ((W.alloc (.cells #[.slice a n c, F, .bool wh] 65)).alloc (.cells #[.int .i64 2, .int .i64 k, .int .i64 v] 68))) := hX
  clear hX
  go_enter Tryd.func35, Tryd.ntmps35
  go_wp2_with fail
  refine (set_any a n c F wh 2 k v fs go ts J Jx [] W0 _ HG.out HS.out.base (by decide) (HS.out.low.trans (HX.out.mono HS.out.low.size)) (HG.out.gj _ _ _ HS.out.j (far_below HX.out none)) hk).mono ?_
  rintro e W' ⟨b, rfl, hF⟩
  have HF : Hid (Fin wh go W0.heap.size ts J Jx ((W.alloc (.cells #[.slice a n c, F, .bool wh] 65)).alloc (.cells #[.int .i64 2, .int .i64 k, .int .i64 v] 68)) (stepsT wh fs n 2 k v) [] b W') := hF
  clear hF
  go_wp2
  go_end0
  exact ⟨⟨_, rfl⟩, b, Fin.kp (Kp.of_below HX.out HS.out.low.size) HF.out⟩

set_option maxRecDepth 100000 in
set_option maxHeartbeats 4000000 in
theorem words_3 (a : Option Addr) (n c : Nat) (F : Value) (wh : Bool) (k v : Int) (fs : List Int) (go : Ent → Bool) (ts : List TypeId) (J Jx : List Ent → World → Prop) (W0 W : World)
    (hG : Goes F wh a n c fs go W0 ts J Jx) (hB : Base W0 a n fs) (hW : Below W0.heap.size W0 W) (hJ : J [] W) (hk : 0 ≤ k ∧ k ≤ 3) :
    Calls Tryd.prog 35 #[.agg #[.slice a n c, F, .bool wh], .iface 69 (OpV 3 k v)] W fun e W' => (∃ v, e = .returned v) ∧ ∃ b, Fin wh go W0.heap.size ts J Jx W (stepsT wh fs n 3 k v) [] b W' := by
  have HG : Hid (Goes F wh a n c fs go W0 ts J Jx) := hG
  have HS : Hid (Sits W0.heap.size ts J a n fs W0 W W []) := ⟨hB, hW, hJ, Kp.of_below (Below.refl _ _) hW.size⟩
  clear hG hB hW hJ
  have t1 : ∀ w : World, (Instr.typeAssert (.iface 69 (OpV 3 k v)) 46 67 true).run Tryd.prog w = .ok (.tuple #[OpV 0 0 0, .bool false]) w := fun w => by kernel_rfl
  have t2 : ∀ w : World, (Instr.typeAssert (.iface 69 (OpV 3 k v)) 46 68 true).run Tryd.prog w = .ok (.tuple #[OpV 0 0 0, .bool false]) w := fun w => by kernel_rfl
  have t3 : ∀ w : World, (Instr.typeAssert (.iface 69 (OpV 3 k v)) 46 69 true).run Tryd.prog w = .ok (.tuple #[OpV 3 k v, .bool true]) w := fun w => by kernel_rfl
  have hX : Below W.heap.size W ((W.alloc (.cells #[.slice a n c, F, .bool wh] 65)).alloc (.cells #[.int .i64 3, .int .i64 k, .int .i64 v] 69)) := ((Below.refl _ _).alloc (Nat.le_refl _) _).alloc (by simp) _
  have HX : Hid (Below W.heap.size W ((W.alloc (.cells #[.slice a n c, F, .bool wh] 65)).alloc (.cells #[.int .i64 3, .int .i64 k, .int .i64 v] 69))) := hX
  clear hX
  go_enter Tryd.func35, Tryd.ntmps35
  go_wp2_with fail
  refine (del_any a n c F wh 3 k v fs go ts J Jx [] W0 _ HG.out HS.out.base (by decide) (HS.out.low.trans (HX.out.mono HS.out.low.size)) (HG.out.gj _ _ _ HS.out.j (far_below HX.out none)) hk).mono ?_
  rintro e W' ⟨b, rfl, hF⟩
  have HF : Hid (Fin wh go W0.heap.size ts J Jx ((W.alloc (.cells #[.slice a n c, F, .bool wh] 65)).alloc (.cells #[.int .i64 3, .int .i64 k, .int .i64 v] 69)) (stepsT wh fs n 3 k v) [] b W') := hF
  clear hF
  go_wp2
  go_end0
  exact ⟨⟨_, rfl⟩, b, Fin.kp (Kp.of_below HX.out HS.out.low.size) HF.out⟩

set_option maxRecDepth 100000 in
set_option maxHeartbeats 4000000 in
theorem words_4 (a : Option Addr) (n c : Nat) (F : Value) (wh : Bool) (k v : Int) (fs : List Int) (go : Ent → Bool) (ts : List TypeId) (J Jx : List Ent → World → Prop) (W0 W : World)
    (hG : Goes F wh a n c fs go W0 ts J Jx) (hB : Base W0 a n fs) (hW : Below W0.heap.size W0 W) (hJ : J [] W) :
    Calls Tryd.prog 35 #[.agg #[.slice a n c, F, .bool wh], .iface 70 (OpV 4 k v)] W fun e W' => (∃ v, e = .returned v) ∧ ∃ b, Fin wh go W0.heap.size ts J Jx W (stepsT wh fs n 4 k v) [] b W' := by
  have HG : Hid (Goes F wh a n c fs go W0 ts J Jx) := hG
  have HS : Hid (Sits W0.heap.size ts J a n fs W0 W W []) := ⟨hB, hW, hJ, Kp.of_below (Below.refl _ _) hW.size⟩
  clear hG hB hW hJ
  have t1 : ∀ w : World, (Instr.typeAssert (.iface 70 (OpV 4 k v)) 46 67 true).run Tryd.prog w = .ok (.tuple #[OpV 0 0 0, .bool false]) w := fun w => by kernel_rfl
  have t2 : ∀ w : World, (Instr.typeAssert (.iface 70 (OpV 4 k v)) 46 68 true).run Tryd.prog w = .ok (.tuple #[OpV 0 0 0, .bool false]) w := fun w => by kernel_rfl
  have t3 : ∀ w : World, (Instr.typeAssert (.iface 70 (OpV 4 k v)) 46 69 true).run Tryd.prog w = .ok (.tuple #[OpV 0 0 0, .bool false]) w := fun w => by kernel_rfl
  have t4 : ∀ w : World, (Instr.typeAssert (.iface 70 (OpV 4 k v)) 46 70 true).run Tryd.prog w = .ok (.tuple #[OpV 4 k v, .bool true]) w := fun w => by kernel_rfl
  have hX : Below W.heap.size W ((W.alloc (.cells #[.slice a n c, F, .bool wh] 65)).alloc (.cells #[.int .i64 4, .int .i64 k, .int .i64 v] 70)) := ((Below.refl _ _).alloc (Nat.le_refl _) _).alloc (by simp) _
  have HX : Hid (Below W.heap.size W ((W.alloc (.cells #[.slice a n c, F, .bool wh] 65)).alloc (.cells #[.int .i64 4, .int .i64 k, .int .i64 v] 70))) := hX
  clear hX
  go_enter Tryd.func35, Tryd.ntmps35
  go_wp2_with fail
  obtain ⟨wd, hwd⟩ : ∃ wd, ((W.alloc (.cells #[.slice a n c, F, .bool wh] 65)).alloc (.cells #[.int .i64 4, .int .i64 k, .int .i64 v] 70)).drew = wd := ⟨_, rfl⟩
  have hdd : Below W.heap.size W wd := by rw [← hwd]; exact HX.out.drew
  have HSd : Hid (Sits W0.heap.size ts J a n fs W0 W wd []) := HS.out.on HG.out.gj hdd
  have BT : Hid (wd.heap[W.heap.size]? = some (tellCells a n c F wh) ∧ wd.heap[W.heap.size + 1]? = some (.cells #[.int .i64 4, .int .i64 k, .int .i64 v] 70 (0, 0))) := by
    rw [← hwd]
    refine ⟨(Below.heap_alloc _ _ _ (by simp)).trans (World.alloc_heap_new W _), ?_⟩
    have := World.alloc_heap_new (W.alloc (.cells #[.slice a n c, F, .bool wh] 65)) (.cells #[.int .i64 4, .int .i64 k, .int .i64 v] 70); rw [World.size_alloc] at this; exact this
  have K0 : Hid (wd.cell? ⟨W.heap.size, 0, none⟩ = some (.slice a n c) ∧ wd.cell? ⟨W.heap.size, 1, none⟩ = some F ∧ wd.cell? ⟨W.heap.size, 2, none⟩ = some (.bool wh) ∧ wd.cell? ⟨W.heap.size + 1, 1, none⟩ = some (.int .i64 k)) := ⟨by simp [World.cell?, BT.out.1], by simp [World.cell?, BT.out.1], by simp [World.cell?, BT.out.1], by simp [World.cell?, BT.out.2]⟩
  clear hdd
  go_region_held3 (fun w' => w'.cell? ⟨W.heap.size, 0, none⟩ = some (.slice a n c) ∧ w'.cell? ⟨W.heap.size, 1, none⟩ = some F ∧ w'.cell? ⟨W.heap.size, 2, none⟩ = some (.bool wh) ∧ w'.cell? ⟨W.heap.size + 1, 1, none⟩ = some (.int .i64 k))
    (first | (with_reducible exact K2.out) | (with_reducible exact K1.out) | (with_reducible exact K0.out) | exact hwd ▸ K0.out | go_keep)
    (first
    | (go_at_call 44
       refine (implRowAt_any k _ (by first | exact HSd.out.names | exact hwd ▸ HSd.out.names)).mono ?_
       rintro e w1 ⟨rfl, hb1⟩
       have hb1' : Below wd.heap.size wd w1 := by first | exact hb1 | exact hwd ▸ hb1
       have HS1 : Hid (Sits W0.heap.size ts J a n fs W0 W w1 []) := HSd.out.on HG.out.gj hb1'
       have B1 : Hid (w1.heap[W.heap.size]? = some (tellCells a n c F wh) ∧ w1.heap[W.heap.size + 1]? = some (.cells #[.int .i64 4, .int .i64 k, .int .i64 v] 70 (0, 0))) := ⟨(hb1'.block _ (Array.getElem?_eq_some_iff.1 BT.out.1).1).trans BT.out.1, (hb1'.block _ (Array.getElem?_eq_some_iff.1 BT.out.2).1).trans BT.out.2⟩
       have K1 : Hid (w1.cell? ⟨W.heap.size, 0, none⟩ = some (.slice a n c) ∧ w1.cell? ⟨W.heap.size, 1, none⟩ = some F ∧ w1.cell? ⟨W.heap.size, 2, none⟩ = some (.bool wh) ∧ w1.cell? ⟨W.heap.size + 1, 1, none⟩ = some (.int .i64 k)) := ⟨by simp [World.cell?, B1.out.1], by simp [World.cell?, B1.out.1], by simp [World.cell?, B1.out.1], by simp [World.cell?, B1.out.2]⟩
       clear hb1 hb1')
    | (go_at_call 43
       refine (stays_any a n c F wh (placeN 1 k) fs go ts J Jx [] W0 _ HG.out HS1.out.base (by decide) HS1.out.low HS1.out.j).mono ?_
       rintro e w2 ⟨b, rfl, hF⟩
       have HF : Hid (Fin wh go W0.heap.size ts J Jx W [stayS fs n (placeN 1 k)] [] b w2) := Fin.kp HS1.out.kp hF
       have B2 : Hid (w2.heap[W.heap.size]? = some (tellCells a n c F wh) ∧ w2.heap[W.heap.size + 1]? = some (.cells #[.int .i64 4, .int .i64 k, .int .i64 v] 70 (0, 0))) := ⟨hF.kx.keep _ _ _ _ B1.out.1 (HG.out.tt _ (by simp)), hF.kx.keep _ _ _ _ B1.out.2 (HG.out.tt _ (by simp))⟩
       have K2 : Hid (w2.cell? ⟨W.heap.size, 0, none⟩ = some (.slice a n c) ∧ w2.cell? ⟨W.heap.size, 1, none⟩ = some F ∧ w2.cell? ⟨W.heap.size, 2, none⟩ = some (.bool wh) ∧ w2.cell? ⟨W.heap.size + 1, 1, none⟩ = some (.int .i64 k)) := ⟨by simp [World.cell?, B2.out.1], by simp [World.cell?, B2.out.1], by simp [World.cell?, B2.out.1], by simp [World.cell?, B2.out.2]⟩
       clear hF))
  go_wp2
  go_end0
  exact ⟨⟨_, rfl⟩, b, HF.out⟩

set_option maxRecDepth 100000 in
set_option maxHeartbeats 4000000 in
theorem words_5 (a : Option Addr) (n c : Nat) (F : Value) (wh : Bool) (k v : Int) (fs : List Int) (go : Ent → Bool) (ts : List TypeId) (J Jx : List Ent → World → Prop) (W0 W : World)
    (hG : Goes F wh a n c fs go W0 ts J Jx) (hB : Base W0 a n fs) (hW : Below W0.heap.size W0 W) (hJ : J [] W) :
    Calls Tryd.prog 35 #[.agg #[.slice a n c, F, .bool wh], .iface 71 (OpV 5 k v)] W fun e W' => (∃ v, e = .returned v) ∧ ∃ b, Fin wh go W0.heap.size ts J Jx W (stepsT wh fs n 5 k v) [] b W' := by
  have HG : Hid (Goes F wh a n c fs go W0 ts J Jx) := hG
  have HS : Hid (Sits W0.heap.size ts J a n fs W0 W W []) := ⟨hB, hW, hJ, Kp.of_below (Below.refl _ _) hW.size⟩
  clear hG hB hW hJ
  have t1 : ∀ w : World, (Instr.typeAssert (.iface 71 (OpV 5 k v)) 46 67 true).run Tryd.prog w = .ok (.tuple #[OpV 0 0 0, .bool false]) w := fun w => by kernel_rfl
  have t2 : ∀ w : World, (Instr.typeAssert (.iface 71 (OpV 5 k v)) 46 68 true).run Tryd.prog w = .ok (.tuple #[OpV 0 0 0, .bool false]) w := fun w => by kernel_rfl
  have t3 : ∀ w : World, (Instr.typeAssert (.iface 71 (OpV 5 k v)) 46 69 true).run Tryd.prog w = .ok (.tuple #[OpV 0 0 0, .bool false]) w := fun w => by kernel_rfl
  have t4 : ∀ w : World, (Instr.typeAssert (.iface 71 (OpV 5 k v)) 46 70 true).run Tryd.prog w = .ok (.tuple #[OpV 0 0 0, .bool false]) w := fun w => by kernel_rfl
  have t5 : ∀ w : World, (Instr.typeAssert (.iface 71 (OpV 5 k v)) 46 71 true).run Tryd.prog w = .ok (.tuple #[OpV 5 k v, .bool true]) w := fun w => by kernel_rfl
  have hX : Below W.heap.size W ((W.alloc (.cells #[.slice a n c, F, .bool wh] 65)).alloc (.cells #[.int .i64 5, .int .i64 k, .int .i64 v] 71)) := ((Below.refl _ _).alloc (Nat.le_refl _) _).alloc (by simp) _
  have HX : Hid (Below W.heap.size W ((W.alloc (.cells #[.slice a n c, F, .bool wh] 65)).alloc (.cells #[.int .i64 5, .int .i64 k, .int .i64 v] 71))) := hX
  clear hX
  go_enter Tryd.func35, Tryd.ntmps35
  go_wp2_with fail
  obtain ⟨wd, hwd⟩ : ∃ wd, ((W.alloc (.cells #[.slice a n c, F, .bool wh] 65)).alloc (.cells #[.int .i64 5, .int .i64 k, .int .i64 v] 71)).drew = wd := ⟨_, rfl⟩
  have hdd : Below W.heap.size W wd := by rw [← hwd]; exact HX.out.drew
  have HSd : Hid (Sits W0.heap.size ts J a n fs W0 W wd []) := HS.out.on HG.out.gj hdd
  have BT : Hid (wd.heap[W.heap.size]? = some (tellCells a n c F wh) ∧ wd.heap[W.heap.size + 1]? = some (.cells #[.int .i64 5, .int .i64 k, .int .i64 v] 71 (0, 0))) := by
    rw [← hwd]
    refine ⟨(Below.heap_alloc _ _ _ (by simp)).trans (World.alloc_heap_new W _), ?_⟩
    have := World.alloc_heap_new (W.alloc (.cells #[.slice a n c, F, .bool wh] 65)) (.cells #[.int .i64 5, .int .i64 k, .int .i64 v] 71); rw [World.size_alloc] at this; exact this
  have K0 : Hid (wd.cell? ⟨W.heap.size, 0, none⟩ = some (.slice a n c) ∧ wd.cell? ⟨W.heap.size, 1, none⟩ = some F ∧ wd.cell? ⟨W.heap.size, 2, none⟩ = some (.bool wh) ∧ wd.cell? ⟨W.heap.size + 1, 2, none⟩ = some (.int .i64 v)) := ⟨by simp [World.cell?, BT.out.1], by simp [World.cell?, BT.out.1], by simp [World.cell?, BT.out.1], by simp [World.cell?, BT.out.2]⟩
  clear hdd
  go_region_held3 (fun w' => w'.cell? ⟨W.heap.size, 0, none⟩ = some (.slice a n c) ∧ w'.cell? ⟨W.heap.size, 1, none⟩ = some F ∧ w'.cell? ⟨W.heap.size, 2, none⟩ = some (.bool wh) ∧ w'.cell? ⟨W.heap.size + 1, 2, none⟩ = some (.int .i64 v))
    (first | (with_reducible exact K2.out) | (with_reducible exact K1.out) | (with_reducible exact K0.out) | exact hwd ▸ K0.out | go_keep)
    (first
    | (go_at_call 45
       refine (implOwnerAt_any v _ (by first | exact HSd.out.names | exact hwd ▸ HSd.out.names)).mono ?_
       rintro e w1 ⟨rfl, hb1⟩
       have hb1' : Below wd.heap.size wd w1 := by first | exact hb1 | exact hwd ▸ hb1
       have HS1 : Hid (Sits W0.heap.size ts J a n fs W0 W w1 []) := HSd.out.on HG.out.gj hb1'
       have B1 : Hid (w1.heap[W.heap.size]? = some (tellCells a n c F wh) ∧ w1.heap[W.heap.size + 1]? = some (.cells #[.int .i64 5, .int .i64 k, .int .i64 v] 71 (0, 0))) := ⟨(hb1'.block _ (Array.getElem?_eq_some_iff.1 BT.out.1).1).trans BT.out.1, (hb1'.block _ (Array.getElem?_eq_some_iff.1 BT.out.2).1).trans BT.out.2⟩
       have K1 : Hid (w1.cell? ⟨W.heap.size, 0, none⟩ = some (.slice a n c) ∧ w1.cell? ⟨W.heap.size, 1, none⟩ = some F ∧ w1.cell? ⟨W.heap.size, 2, none⟩ = some (.bool wh) ∧ w1.cell? ⟨W.heap.size + 1, 2, none⟩ = some (.int .i64 v)) := ⟨by simp [World.cell?, B1.out.1], by simp [World.cell?, B1.out.1], by simp [World.cell?, B1.out.1], by simp [World.cell?, B1.out.2]⟩
       clear hb1 hb1')
    | (go_at_call 43
       refine (stays_any a n c F wh (placeN 2 v) fs go ts J Jx [] W0 _ HG.out HS1.out.base (by decide) HS1.out.low HS1.out.j).mono ?_
       rintro e w2 ⟨b, rfl, hF⟩
       have HF : Hid (Fin wh go W0.heap.size ts J Jx W [stayS fs n (placeN 2 v)] [] b w2) := Fin.kp HS1.out.kp hF
       have B2 : Hid (w2.heap[W.heap.size]? = some (tellCells a n c F wh) ∧ w2.heap[W.heap.size + 1]? = some (.cells #[.int .i64 5, .int .i64 k, .int .i64 v] 71 (0, 0))) := ⟨hF.kx.keep _ _ _ _ B1.out.1 (HG.out.tt _ (by simp)), hF.kx.keep _ _ _ _ B1.out.2 (HG.out.tt _ (by simp))⟩
       have K2 : Hid (w2.cell? ⟨W.heap.size, 0, none⟩ = some (.slice a n c) ∧ w2.cell? ⟨W.heap.size, 1, none⟩ = some F ∧ w2.cell? ⟨W.heap.size, 2, none⟩ = some (.bool wh) ∧ w2.cell? ⟨W.heap.size + 1, 2, none⟩ = some (.int .i64 v)) := ⟨by simp [World.cell?, B2.out.1], by simp [World.cell?, B2.out.1], by simp [World.cell?, B2.out.1], by simp [World.cell?, B2.out.2]⟩
       clear hF))
  go_wp2
  go_end0
  exact ⟨⟨_, rfl⟩, b, HF.out⟩

set_option maxRecDepth 100000 in
set_option maxHeartbeats 4000000 in
theorem words_6 (a : Option Addr) (n c : Nat) (F : Value) (wh : Bool) (k v : Int) (fs : List Int) (go : Ent → Bool) (ts : List TypeId) (J Jx : List Ent → World → Prop) (W0 W : World)
    (hG : Goes F wh a n c fs go W0 ts J Jx) (hB : Base W0 a n fs) (hW : Below W0.heap.size W0 W) (hJ : J [] W) :
    Calls Tryd.prog 35 #[.agg #[.slice a n c, F, .bool wh], .iface 72 (OpV 6 k v)] W fun e W' => (∃ v, e = .returned v) ∧ ∃ b, Fin wh go W0.heap.size ts J Jx W (stepsT wh fs n 6 k v) [] b W' := by
  have HG : Hid (Goes F wh a n c fs go W0 ts J Jx) := hG
  have HS : Hid (Sits W0.heap.size ts J a n fs W0 W W []) := ⟨hB, hW, hJ, Kp.of_below (Below.refl _ _) hW.size⟩
  clear hG hB hW hJ
  have t1 : ∀ w : World, (Instr.typeAssert (.iface 72 (OpV 6 k v)) 46 67 true).run Tryd.prog w = .ok (.tuple #[OpV 0 0 0, .bool false]) w := fun w => by kernel_rfl
  have t2 : ∀ w : World, (Instr.typeAssert (.iface 72 (OpV 6 k v)) 46 68 true).run Tryd.prog w = .ok (.tuple #[OpV 0 0 0, .bool false]) w := fun w => by kernel_rfl
  have t3 : ∀ w : World, (Instr.typeAssert (.iface 72 (OpV 6 k v)) 46 69 true).run Tryd.prog w = .ok (.tuple #[OpV 0 0 0, .bool false]) w := fun w => by kernel_rfl
  have t4 : ∀ w : World, (Instr.typeAssert (.iface 72 (OpV 6 k v)) 46 70 true).run Tryd.prog w = .ok (.tuple #[OpV 0 0 0, .bool false]) w := fun w => by kernel_rfl
  have t5 : ∀ w : World, (Instr.typeAssert (.iface 72 (OpV 6 k v)) 46 71 true).run Tryd.prog w = .ok (.tuple #[OpV 0 0 0, .bool false]) w := fun w => by kernel_rfl
  have t6 : ∀ w : World, (Instr.typeAssert (.iface 72 (OpV 6 k v)) 46 72 true).run Tryd.prog w = .ok (.tuple #[OpV 6 k v, .bool true]) w := fun w => by kernel_rfl
  have hX : Below W.heap.size W ((W.alloc (.cells #[.slice a n c, F, .bool wh] 65)).alloc (.cells #[.int .i64 6, .int .i64 k, .int .i64 v] 72)) := ((Below.refl _ _).alloc (Nat.le_refl _) _).alloc (by simp) _
  have HX : Hid (Below W.heap.size W ((W.alloc (.cells #[.slice a n c, F, .bool wh] 65)).alloc (.cells #[.int .i64 6, .int .i64 k, .int .i64 v] 72))) := hX
  clear hX
  go_enter Tryd.func35, Tryd.ntmps35
  go_wp2_with fail
  obtain ⟨wd, hwd⟩ : ∃ wd, ((W.alloc (.cells #[.slice a n c, F, .bool wh] 65)).alloc (.cells #[.int .i64 6, .int .i64 k, .int .i64 v] 72)).drew = wd := ⟨_, rfl⟩
  have hdd : Below W.heap.size W wd := by rw [← hwd]; exact HX.out.drew
  have HSd : Hid (Sits W0.heap.size ts J a n fs W0 W wd []) := HS.out.on HG.out.gj hdd
  have BT : Hid (wd.heap[W.heap.size]? = some (tellCells a n c F wh) ∧ wd.heap[W.heap.size + 1]? = some (.cells #[.int .i64 6, .int .i64 k, .int .i64 v] 72 (0, 0))) := by
    rw [← hwd]
    refine ⟨(Below.heap_alloc _ _ _ (by simp)).trans (World.alloc_heap_new W _), ?_⟩
    have := World.alloc_heap_new (W.alloc (.cells #[.slice a n c, F, .bool wh] 65)) (.cells #[.int .i64 6, .int .i64 k, .int .i64 v] 72); rw [World.size_alloc] at this; exact this
  have K0 : Hid (wd.cell? ⟨W.heap.size, 0, none⟩ = some (.slice a n c) ∧ wd.cell? ⟨W.heap.size, 1, none⟩ = some F ∧ wd.cell? ⟨W.heap.size, 2, none⟩ = some (.bool wh) ∧ wd.cell? ⟨W.heap.size + 1, 1, none⟩ = some (.int .i64 k)) := ⟨by simp [World.cell?, BT.out.1], by simp [World.cell?, BT.out.1], by simp [World.cell?, BT.out.1], by simp [World.cell?, BT.out.2]⟩
  clear hdd
  go_region_held3 (fun w' => w'.cell? ⟨W.heap.size, 0, none⟩ = some (.slice a n c) ∧ w'.cell? ⟨W.heap.size, 1, none⟩ = some F ∧ w'.cell? ⟨W.heap.size, 2, none⟩ = some (.bool wh) ∧ w'.cell? ⟨W.heap.size + 1, 1, none⟩ = some (.int .i64 k))
    (first | (with_reducible exact K2.out) | (with_reducible exact K1.out) | (with_reducible exact K0.out) | exact hwd ▸ K0.out | go_keep)
    (first
    | (go_at_call 46
       refine (implCountAt_any k _ (by first | exact HSd.out.names | exact hwd ▸ HSd.out.names)).mono ?_
       rintro e w1 ⟨rfl, hb1⟩
       have hb1' : Below wd.heap.size wd w1 := by first | exact hb1 | exact hwd ▸ hb1
       have HS1 : Hid (Sits W0.heap.size ts J a n fs W0 W w1 []) := HSd.out.on HG.out.gj hb1'
       have B1 : Hid (w1.heap[W.heap.size]? = some (tellCells a n c F wh) ∧ w1.heap[W.heap.size + 1]? = some (.cells #[.int .i64 6, .int .i64 k, .int .i64 v] 72 (0, 0))) := ⟨(hb1'.block _ (Array.getElem?_eq_some_iff.1 BT.out.1).1).trans BT.out.1, (hb1'.block _ (Array.getElem?_eq_some_iff.1 BT.out.2).1).trans BT.out.2⟩
       have K1 : Hid (w1.cell? ⟨W.heap.size, 0, none⟩ = some (.slice a n c) ∧ w1.cell? ⟨W.heap.size, 1, none⟩ = some F ∧ w1.cell? ⟨W.heap.size, 2, none⟩ = some (.bool wh) ∧ w1.cell? ⟨W.heap.size + 1, 1, none⟩ = some (.int .i64 k)) := ⟨by simp [World.cell?, B1.out.1], by simp [World.cell?, B1.out.1], by simp [World.cell?, B1.out.1], by simp [World.cell?, B1.out.2]⟩
       clear hb1 hb1')
    | (go_at_call 43
       refine (stays_any a n c F wh (placeN 3 k) fs go ts J Jx [] W0 _ HG.out HS1.out.base (by decide) HS1.out.low HS1.out.j).mono ?_
       rintro e w2 ⟨b, rfl, hF⟩
       have HF : Hid (Fin wh go W0.heap.size ts J Jx W [stayS fs n (placeN 3 k)] [] b w2) := Fin.kp HS1.out.kp hF
       have B2 : Hid (w2.heap[W.heap.size]? = some (tellCells a n c F wh) ∧ w2.heap[W.heap.size + 1]? = some (.cells #[.int .i64 6, .int .i64 k, .int .i64 v] 72 (0, 0))) := ⟨hF.kx.keep _ _ _ _ B1.out.1 (HG.out.tt _ (by simp)), hF.kx.keep _ _ _ _ B1.out.2 (HG.out.tt _ (by simp))⟩
       have K2 : Hid (w2.cell? ⟨W.heap.size, 0, none⟩ = some (.slice a n c) ∧ w2.cell? ⟨W.heap.size, 1, none⟩ = some F ∧ w2.cell? ⟨W.heap.size, 2, none⟩ = some (.bool wh) ∧ w2.cell? ⟨W.heap.size + 1, 1, none⟩ = some (.int .i64 k)) := ⟨by simp [World.cell?, B2.out.1], by simp [World.cell?, B2.out.1], by simp [World.cell?, B2.out.1], by simp [World.cell?, B2.out.2]⟩
       clear hF))
  go_wp2
  go_end0
  exact ⟨⟨_, rfl⟩, b, HF.out⟩

set_option maxRecDepth 100000 in
set_option maxHeartbeats 4000000 in
theorem words_7 (a : Option Addr) (n c : Nat) (F : Value) (wh : Bool) (k v : Int) (fs : List Int) (go : Ent → Bool) (ts : List TypeId) (J Jx : List Ent → World → Prop) (W0 W : World)
    (hG : Goes F wh a n c fs go W0 ts J Jx) (hB : Base W0 a n fs) (hW : Below W0.heap.size W0 W) (hJ : J [] W) :
    Calls Tryd.prog 35 #[.agg #[.slice a n c, F, .bool wh], .iface 73 (OpV 7 k v)] W fun e W' => (∃ v, e = .returned v) ∧ ∃ b, Fin wh go W0.heap.size ts J Jx W (stepsT wh fs n 7 k v) [] b W' := by
  have HG : Hid (Goes F wh a n c fs go W0 ts J Jx) := hG
  have HS : Hid (Sits W0.heap.size ts J a n fs W0 W W []) := ⟨hB, hW, hJ, Kp.of_below (Below.refl _ _) hW.size⟩
  clear hG hB hW hJ
  have t1 : ∀ w : World, (Instr.typeAssert (.iface 73 (OpV 7 k v)) 46 67 true).run Tryd.prog w = .ok (.tuple #[OpV 0 0 0, .bool false]) w := fun w => by kernel_rfl
  have t2 : ∀ w : World, (Instr.typeAssert (.iface 73 (OpV 7 k v)) 46 68 true).run Tryd.prog w = .ok (.tuple #[OpV 0 0 0, .bool false]) w := fun w => by kernel_rfl
  have t3 : ∀ w : World, (Instr.typeAssert (.iface 73 (OpV 7 k v)) 46 69 true).run Tryd.prog w = .ok (.tuple #[OpV 0 0 0, .bool false]) w := fun w => by kernel_rfl
  have t4 : ∀ w : World, (Instr.typeAssert (.iface 73 (OpV 7 k v)) 46 70 true).run Tryd.prog w = .ok (.tuple #[OpV 0 0 0, .bool false]) w := fun w => by kernel_rfl
  have t5 : ∀ w : World, (Instr.typeAssert (.iface 73 (OpV 7 k v)) 46 71 true).run Tryd.prog w = .ok (.tuple #[OpV 0 0 0, .bool false]) w := fun w => by kernel_rfl
  have t6 : ∀ w : World, (Instr.typeAssert (.iface 73 (OpV 7 k v)) 46 72 true).run Tryd.prog w = .ok (.tuple #[OpV 0 0 0, .bool false]) w := fun w => by kernel_rfl
  have t7 : ∀ w : World, (Instr.typeAssert (.iface 73 (OpV 7 k v)) 46 73 true).run Tryd.prog w = .ok (.tuple #[OpV 7 k v, .bool true]) w := fun w => by kernel_rfl
  have hX : Below W.heap.size W ((W.alloc (.cells #[.slice a n c, F, .bool wh] 65)).alloc (.cells #[.int .i64 7, .int .i64 k, .int .i64 v] 73)) := ((Below.refl _ _).alloc (Nat.le_refl _) _).alloc (by simp) _
  have HX : Hid (Below W.heap.size W ((W.alloc (.cells #[.slice a n c, F, .bool wh] 65)).alloc (.cells #[.int .i64 7, .int .i64 k, .int .i64 v] 73))) := hX
  clear hX
  go_enter Tryd.func35, Tryd.ntmps35
  go_wp2_with fail
  refine (scan_any a n c F wh fs go ts J Jx [] W0 _ HG.out HS.out.base (by decide) (HS.out.low.trans (HX.out.mono HS.out.low.size)) (HG.out.gj _ _ _ HS.out.j (far_below HX.out none))).mono ?_
  rintro e W' ⟨b, rfl, hF⟩
  have HF : Hid (Fin wh go W0.heap.size ts J Jx ((W.alloc (.cells #[.slice a n c, F, .bool wh] 65)).alloc (.cells #[.int .i64 7, .int .i64 k, .int .i64 v] 73)) (stepsT wh fs n 7 k v) [] b W') := hF
  clear hF
  go_wp2
  go_end0
  exact ⟨⟨_, rfl⟩, b, Fin.kp (Kp.of_below HX.out HS.out.low.size) HF.out⟩

set_option maxRecDepth 100000 in
set_option maxHeartbeats 4000000 in
theorem words_8 (a : Option Addr) (n c : Nat) (F : Value) (wh : Bool) (k v : Int) (fs : List Int) (go : Ent → Bool) (ts : List TypeId) (J Jx : List Ent → World → Prop) (W0 W : World)
    (hG : Goes F wh a n c fs go W0 ts J Jx) (hB : Base W0 a n fs) (hW : Below W0.heap.size W0 W) (hJ : J [] W) :
    Calls Tryd.prog 35 #[.agg #[.slice a n c, F, .bool wh], .iface 74 (OpV 8 k v)] W fun e W' => (∃ v, e = .returned v) ∧ ∃ b, Fin wh go W0.heap.size ts J Jx W (stepsT wh fs n 8 k v) [] b W' := by
  have HG : Hid (Goes F wh a n c fs go W0 ts J Jx) := hG
  have HS : Hid (Sits W0.heap.size ts J a n fs W0 W W []) := ⟨hB, hW, hJ, Kp.of_below (Below.refl _ _) hW.size⟩
  clear hG hB hW hJ
  have t1 : ∀ w : World, (Instr.typeAssert (.iface 74 (OpV 8 k v)) 46 67 true).run Tryd.prog w = .ok (.tuple #[OpV 0 0 0, .bool false]) w := fun w => by kernel_rfl
  have t2 : ∀ w : World, (Instr.typeAssert (.iface 74 (OpV 8 k v)) 46 68 true).run Tryd.prog w = .ok (.tuple #[OpV 0 0 0, .bool false]) w := fun w => by kernel_rfl
  have t3 : ∀ w : World, (Instr.typeAssert (.iface 74 (OpV 8 k v)) 46 69 true).run Tryd.prog w = .ok (.tuple #[OpV 0 0 0, .bool false]) w := fun w => by kernel_rfl
  have t4 : ∀ w : World, (Instr.typeAssert (.iface 74 (OpV 8 k v)) 46 70 true).run Tryd.prog w = .ok (.tuple #[OpV 0 0 0, .bool false]) w := fun w => by kernel_rfl
  have t5 : ∀ w : World, (Instr.typeAssert (.iface 74 (OpV 8 k v)) 46 71 true).run Tryd.prog w = .ok (.tuple #[OpV 0 0 0, .bool false]) w := fun w => by kernel_rfl
  have t6 : ∀ w : World, (Instr.typeAssert (.iface 74 (OpV 8 k v)) 46 72 true).run Tryd.prog w = .ok (.tuple #[OpV 0 0 0, .bool false]) w := fun w => by kernel_rfl
  have t7 : ∀ w : World, (Instr.typeAssert (.iface 74 (OpV 8 k v)) 46 73 true).run Tryd.prog w = .ok (.tuple #[OpV 0 0 0, .bool false]) w := fun w => by kernel_rfl
  have t8 : ∀ w : World, (Instr.typeAssert (.iface 74 (OpV 8 k v)) 46 74 true).run Tryd.prog w = .ok (.tuple #[OpV 8 k v, .bool true]) w := fun w => by kernel_rfl
  have hX : Below W.heap.size W ((W.alloc (.cells #[.slice a n c, F, .bool wh] 65)).alloc (.cells #[.int .i64 8, .int .i64 k, .int .i64 v] 74)) := ((Below.refl _ _).alloc (Nat.le_refl _) _).alloc (by simp) _
  have HX : Hid (Below W.heap.size W ((W.alloc (.cells #[.slice a n c, F, .bool wh] 65)).alloc (.cells #[.int .i64 8, .int .i64 k, .int .i64 v] 74))) := hX
  clear hX
  go_enter Tryd.func35, Tryd.ntmps35
  go_wp2_with fail
  obtain ⟨wd, hwd⟩ : ∃ wd, ((W.alloc (.cells #[.slice a n c, F, .bool wh] 65)).alloc (.cells #[.int .i64 8, .int .i64 k, .int .i64 v] 74)).drew = wd := ⟨_, rfl⟩
  have hdd : Below W.heap.size W wd := by rw [← hwd]; exact HX.out.drew
  have HSd : Hid (Sits W0.heap.size ts J a n fs W0 W wd []) := HS.out.on HG.out.gj hdd
  have BT : Hid (wd.heap[W.heap.size]? = some (tellCells a n c F wh) ∧ wd.heap[W.heap.size + 1]? = some (.cells #[.int .i64 8, .int .i64 k, .int .i64 v] 74 (0, 0))) := by
    rw [← hwd]
    refine ⟨(Below.heap_alloc _ _ _ (by simp)).trans (World.alloc_heap_new W _), ?_⟩
    have := World.alloc_heap_new (W.alloc (.cells #[.slice a n c, F, .bool wh] 65)) (.cells #[.int .i64 8, .int .i64 k, .int .i64 v] 74); rw [World.size_alloc] at this; exact this
  have K0 : Hid (wd.cell? ⟨W.heap.size, 0, none⟩ = some (.slice a n c) ∧ wd.cell? ⟨W.heap.size, 1, none⟩ = some F ∧ wd.cell? ⟨W.heap.size, 2, none⟩ = some (.bool wh)) := ⟨by simp [World.cell?, BT.out.1], by simp [World.cell?, BT.out.1], by simp [World.cell?, BT.out.1]⟩
  clear hdd
  go_region_held3 (fun w' => w'.cell? ⟨W.heap.size, 0, none⟩ = some (.slice a n c) ∧ w'.cell? ⟨W.heap.size, 1, none⟩ = some F ∧ w'.cell? ⟨W.heap.size, 2, none⟩ = some (.bool wh))
    (first | (with_reducible exact K2.out) | (with_reducible exact K1.out) | (with_reducible exact K0.out) | exact hwd ▸ K0.out | go_keep)
    (first
    | (go_at_call 49
       refine (implStateAt_any _ (by first | exact HSd.out.names | exact hwd ▸ HSd.out.names)).mono ?_
       rintro e w1 ⟨rfl, hb1⟩
       have hb1' : Below wd.heap.size wd w1 := by first | exact hb1 | exact hwd ▸ hb1
       have HS1 : Hid (Sits W0.heap.size ts J a n fs W0 W w1 []) := HSd.out.on HG.out.gj hb1'
       have B1 : Hid (w1.heap[W.heap.size]? = some (tellCells a n c F wh) ∧ w1.heap[W.heap.size + 1]? = some (.cells #[.int .i64 8, .int .i64 k, .int .i64 v] 74 (0, 0))) := ⟨(hb1'.block _ (Array.getElem?_eq_some_iff.1 BT.out.1).1).trans BT.out.1, (hb1'.block _ (Array.getElem?_eq_some_iff.1 BT.out.2).1).trans BT.out.2⟩
       have K1 : Hid (w1.cell? ⟨W.heap.size, 0, none⟩ = some (.slice a n c) ∧ w1.cell? ⟨W.heap.size, 1, none⟩ = some F ∧ w1.cell? ⟨W.heap.size, 2, none⟩ = some (.bool wh)) := ⟨by simp [World.cell?, B1.out.1], by simp [World.cell?, B1.out.1], by simp [World.cell?, B1.out.1]⟩
       clear hb1 hb1')
    | (go_at_call 48
       refine (grows_any a n c F wh (13) fs go ts J Jx [] W0 _ HG.out HS1.out.base (by decide) HS1.out.low HS1.out.j).mono ?_
       rintro e w2 ⟨b, rfl, hF⟩
       have HF : Hid (Fin wh go W0.heap.size ts J Jx W [growS fs n (13)] [] b w2) := Fin.kp HS1.out.kp hF
       have B2 : Hid (w2.heap[W.heap.size]? = some (tellCells a n c F wh) ∧ w2.heap[W.heap.size + 1]? = some (.cells #[.int .i64 8, .int .i64 k, .int .i64 v] 74 (0, 0))) := ⟨hF.kx.keep _ _ _ _ B1.out.1 (HG.out.tt _ (by simp)), hF.kx.keep _ _ _ _ B1.out.2 (HG.out.tt _ (by simp))⟩
       have K2 : Hid (w2.cell? ⟨W.heap.size, 0, none⟩ = some (.slice a n c) ∧ w2.cell? ⟨W.heap.size, 1, none⟩ = some F ∧ w2.cell? ⟨W.heap.size, 2, none⟩ = some (.bool wh)) := ⟨by simp [World.cell?, B2.out.1], by simp [World.cell?, B2.out.1], by simp [World.cell?, B2.out.1]⟩
       clear hF))
  go_wp2
  go_end0
  exact ⟨⟨_, rfl⟩, b, HF.out⟩

set_option maxRecDepth 100000 in
set_option maxHeartbeats 4000000 in
theorem words_9 (a : Option Addr) (n c : Nat) (F : Value) (wh : Bool) (k v : Int) (fs : List Int) (go : Ent → Bool) (ts : List TypeId) (J Jx : List Ent → World → Prop) (W0 W : World)
    (hG : Goes F wh a n c fs go W0 ts J Jx) (hB : Base W0 a n fs) (hW : Below W0.heap.size W0 W) (hJ : J [] W) :
    Calls Tryd.prog 35 #[.agg #[.slice a n c, F, .bool wh], .iface 75 (OpV 9 k v)] W fun e W' => (∃ v, e = .returned v) ∧ ∃ b, Fin wh go W0.heap.size ts J Jx W (stepsT wh fs n 9 k v) [] b W' := by
  have HG : Hid (Goes F wh a n c fs go W0 ts J Jx) := hG
  have HS : Hid (Sits W0.heap.size ts J a n fs W0 W W []) := ⟨hB, hW, hJ, Kp.of_below (Below.refl _ _) hW.size⟩
  clear hG hB hW hJ
  have t1 : ∀ w : World, (Instr.typeAssert (.iface 75 (OpV 9 k v)) 46 67 true).run Tryd.prog w = .ok (.tuple #[OpV 0 0 0, .bool false]) w := fun w => by kernel_rfl
  have t2 : ∀ w : World, (Instr.typeAssert (.iface 75 (OpV 9 k v)) 46 68 true).run Tryd.prog w = .ok (.tuple #[OpV 0 0 0, .bool false]) w := fun w => by kernel_rfl
  have t3 : ∀ w : World, (Instr.typeAssert (.iface 75 (OpV 9 k v)) 46 69 true).run Tryd.prog w = .ok (.tuple #[OpV 0 0 0, .bool false]) w := fun w => by kernel_rfl
  have t4 : ∀ w : World, (Instr.typeAssert (.iface 75 (OpV 9 k v)) 46 70 true).run Tryd.prog w = .ok (.tuple #[OpV 0 0 0, .bool false]) w := fun w => by kernel_rfl
  have t5 : ∀ w : World, (Instr.typeAssert (.iface 75 (OpV 9 k v)) 46 71 true).run Tryd.prog w = .ok (.tuple #[OpV 0 0 0, .bool false]) w := fun w => by kernel_rfl
  have t6 : ∀ w : World, (Instr.typeAssert (.iface 75 (OpV 9 k v)) 46 72 true).run Tryd.prog w = .ok (.tuple #[OpV 0 0 0, .bool false]) w := fun w => by kernel_rfl
  have t7 : ∀ w : World, (Instr.typeAssert (.iface 75 (OpV 9 k v)) 46 73 true).run Tryd.prog w = .ok (.tuple #[OpV 0 0 0, .bool false]) w := fun w => by kernel_rfl
  have t8 : ∀ w : World, (Instr.typeAssert (.iface 75 (OpV 9 k v)) 46 74 true).run Tryd.prog w = .ok (.tuple #[OpV 0 0 0, .bool false]) w := fun w => by kernel_rfl
  have t9 : ∀ w : World, (Instr.typeAssert (.iface 75 (OpV 9 k v)) 46 75 true).run Tryd.prog w = .ok (.tuple #[OpV 9 k v, .bool true]) w := fun w => by kernel_rfl
  have hX : Below W.heap.size W ((W.alloc (.cells #[.slice a n c, F, .bool wh] 65)).alloc (.cells #[.int .i64 9, .int .i64 k, .int .i64 v] 75)) := ((Below.refl _ _).alloc (Nat.le_refl _) _).alloc (by simp) _
  have HX : Hid (Below W.heap.size W ((W.alloc (.cells #[.slice a n c, F, .bool wh] 65)).alloc (.cells #[.int .i64 9, .int .i64 k, .int .i64 v] 75))) := hX
  clear hX
  go_enter Tryd.func35, Tryd.ntmps35
  go_wp2_with fail
  refine (makeNext_any a n c F wh fs go ts J Jx [] W0 _ HG.out HS.out.base (by decide) (HS.out.low.trans (HX.out.mono HS.out.low.size)) (HG.out.gj _ _ _ HS.out.j (far_below HX.out none))).mono ?_
  rintro e W' ⟨b, rfl, hF⟩
  have HF : Hid (Fin wh go W0.heap.size ts J Jx ((W.alloc (.cells #[.slice a n c, F, .bool wh] 65)).alloc (.cells #[.int .i64 9, .int .i64 k, .int .i64 v] 75)) (stepsT wh fs n 9 k v) [] b W') := hF
  clear hF
  go_wp2
  go_end0
  exact ⟨⟨_, rfl⟩, b, Fin.kp (Kp.of_below HX.out HS.out.low.size) HF.out⟩

set_option maxRecDepth 100000 in
set_option maxHeartbeats 4000000 in
theorem words_10 (a : Option Addr) (n c : Nat) (F : Value) (wh : Bool) (k v : Int) (fs : List Int) (go : Ent → Bool) (ts : List TypeId) (J Jx : List Ent → World → Prop) (W0 W : World)
    (hG : Goes F wh a n c fs go W0 ts J Jx) (hB : Base W0 a n fs) (hW : Below W0.heap.size W0 W) (hJ : J [] W) :
    Calls Tryd.prog 35 #[.agg #[.slice a n c, F, .bool wh], .iface 76 (OpV 10 k v)] W fun e W' => (∃ v, e = .returned v) ∧ ∃ b, Fin wh go W0.heap.size ts J Jx W (stepsT wh fs n 10 k v) [] b W' := by
  have HG : Hid (Goes F wh a n c fs go W0 ts J Jx) := hG
  have HS : Hid (Sits W0.heap.size ts J a n fs W0 W W []) := ⟨hB, hW, hJ, Kp.of_below (Below.refl _ _) hW.size⟩
  clear hG hB hW hJ
  have t1 : ∀ w : World, (Instr.typeAssert (.iface 76 (OpV 10 k v)) 46 67 true).run Tryd.prog w = .ok (.tuple #[OpV 0 0 0, .bool false]) w := fun w => by kernel_rfl
  have t2 : ∀ w : World, (Instr.typeAssert (.iface 76 (OpV 10 k v)) 46 68 true).run Tryd.prog w = .ok (.tuple #[OpV 0 0 0, .bool false]) w := fun w => by kernel_rfl
  have t3 : ∀ w : World, (Instr.typeAssert (.iface 76 (OpV 10 k v)) 46 69 true).run Tryd.prog w = .ok (.tuple #[OpV 0 0 0, .bool false]) w := fun w => by kernel_rfl
  have t4 : ∀ w : World, (Instr.typeAssert (.iface 76 (OpV 10 k v)) 46 70 true).run Tryd.prog w = .ok (.tuple #[OpV 0 0 0, .bool false]) w := fun w => by kernel_rfl
  have t5 : ∀ w : World, (Instr.typeAssert (.iface 76 (OpV 10 k v)) 46 71 true).run Tryd.prog w = .ok (.tuple #[OpV 0 0 0, .bool false]) w := fun w => by kernel_rfl
  have t6 : ∀ w : World, (Instr.typeAssert (.iface 76 (OpV 10 k v)) 46 72 true).run Tryd.prog w = .ok (.tuple #[OpV 0 0 0, .bool false]) w := fun w => by kernel_rfl
  have t7 : ∀ w : World, (Instr.typeAssert (.iface 76 (OpV 10 k v)) 46 73 true).run Tryd.prog w = .ok (.tuple #[OpV 0 0 0, .bool false]) w := fun w => by kernel_rfl
  have t8 : ∀ w : World, (Instr.typeAssert (.iface 76 (OpV 10 k v)) 46 74 true).run Tryd.prog w = .ok (.tuple #[OpV 0 0 0, .bool false]) w := fun w => by kernel_rfl
  have t9 : ∀ w : World, (Instr.typeAssert (.iface 76 (OpV 10 k v)) 46 75 true).run Tryd.prog w = .ok (.tuple #[OpV 0 0 0, .bool false]) w := fun w => by kernel_rfl
  have t10 : ∀ w : World, (Instr.typeAssert (.iface 76 (OpV 10 k v)) 46 76 true).run Tryd.prog w = .ok (.tuple #[OpV 10 k v, .bool true]) w := fun w => by kernel_rfl
  have hX : Below W.heap.size W ((W.alloc (.cells #[.slice a n c, F, .bool wh] 65)).alloc (.cells #[.int .i64 10, .int .i64 k, .int .i64 v] 76)) := ((Below.refl _ _).alloc (Nat.le_refl _) _).alloc (by simp) _
  have HX : Hid (Below W.heap.size W ((W.alloc (.cells #[.slice a n c, F, .bool wh] 65)).alloc (.cells #[.int .i64 10, .int .i64 k, .int .i64 v] 76))) := hX
  clear hX
  go_enter Tryd.func35, Tryd.ntmps35
  go_wp2_with fail
  refine (findVia_any a n c F wh 10 k v fs go ts J Jx [] W0 _ HG.out HS.out.base (by decide) (HS.out.low.trans (HX.out.mono HS.out.low.size)) (HG.out.gj _ _ _ HS.out.j (far_below HX.out none))).mono ?_
  rintro e W' ⟨b, rfl, hF⟩
  have HF : Hid (Fin wh go W0.heap.size ts J Jx ((W.alloc (.cells #[.slice a n c, F, .bool wh] 65)).alloc (.cells #[.int .i64 10, .int .i64 k, .int .i64 v] 76)) (stepsT wh fs n 10 k v) [] b W') := hF
  clear hF
  go_wp2
  go_end0
  exact ⟨⟨_, rfl⟩, b, Fin.kp (Kp.of_below HX.out HS.out.low.size) HF.out⟩
end Go.Proofs.YtekafaoleniebapDoor
