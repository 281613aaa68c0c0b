/- What the program's wordsOf tells of each op, one word behind the other. -/
import Derived.Test.YtdihmfhojjlijapDoorPut
import Derived.Test.YtdihmfhojjlijapDoorSetT
import Derived.Test.YtdihmfhojjlijapDoorDel
import Derived.Test.YtdihmfhojjlijapDoorScan
import Derived.Test.YtdihmfhojjlijapDoorMakeN
import Derived.Test.YtdihmfhojjlijapDoorFindV
import Derived.Test.YtdihmfhojjlijapDoorLawOp
import Derived.Laws.EntriesVeiled
namespace Go.Proofs.YtdihmfhojjlijapDoor
open Go.ChangeShapes Go.WideShapes Go.ChangeAt Go.RowKit

/-- What the function value has captured. -/
structure Caught (a : Option Addr) (n c : Nat) (T : TypeId) (kind k v : Int) (Bg Bd : Nat) (W : World) : Prop where
  got : W.cell? ⟨Bg, 0, none⟩ = some (.slice a n c)
  deed : W.cell? ⟨Bd, 0, none⟩ = some (.iface T (OpV kind k v))

set_option maxRecDepth 100000 in
set_option maxHeartbeats 4000000 in
theorem words_1 (a : Option Addr) (n c l Bg Bd : Nat) (k v : Int) (fs : List Int) (go : Ent → Bool) (ts : List TypeId) (J Jx : List Ent → World → Prop) (W0 W : World)
    (hG : Goes l go W0.heap.size ts J Jx) (hB : Base W0 a n fs) (hW : Below W0.heap.size W0 W) (hJ : J [] W) (hC : Caught a n c 66 1 k v Bg Bd W) (hk : 0 ≤ k ∧ k ≤ 3) :
    Calls Tryd.prog 34 #[.func (.yield l) #[] #[], .pointer (some ⟨Bg, 0, none⟩), .pointer (some ⟨Bd, 0, none⟩)] W fun e W' => (∃ v, e = .returned v) ∧ ∃ b, Fin go W0.heap.size ts J Jx W (stepsT fs n 1 k v) [] b W' := by
  have HG : Hid (Goes l go W0.heap.size ts J Jx) := hG
  have HS : Hid (Sits W0.heap.size ts J a n fs W0 W W []) := ⟨hB, hW, hJ, Kp.of_below (Below.refl _ _) hW.size⟩
  obtain ⟨g0, d0⟩ := hC
  clear hG hB hW hJ
  have t1 : ∀ w : World, (Instr.typeAssert (.iface 66 (OpV 1 k v)) 46 66 true).run Tryd.prog w = .ok (.tuple #[OpV 1 k v, .bool true]) w := fun w => by kernel_rfl
  have hX : Below W.heap.size W ((W.alloc (.cells #[.slice a n c, .func (.yield l) #[] #[]] 65)).alloc (.cells #[.int .i64 1, .int .i64 k, .int .i64 v] 66)) := ((Below.refl _ _).alloc (Nat.le_refl _) _).alloc (by simp) _
  have HX : Hid (Below W.heap.size W ((W.alloc (.cells #[.slice a n c, .func (.yield l) #[] #[]] 65)).alloc (.cells #[.int .i64 1, .int .i64 k, .int .i64 v] 66))) := hX
  clear hX
  have d1 : (W.alloc (.cells #[.slice a n c, .func (.yield l) #[] #[]] 65)).cell? ⟨Bd, 0, none⟩ = some (.iface 66 (OpV 1 k v)) := (((Below.refl W.heap.size W).alloc (Nat.le_refl _) _).cell (p := ⟨Bd, 0, none⟩) (World.block_lt_of_cell? W _ d0)).trans d0
  go_enter Tryd.func34, Tryd.ntmps34
  go_wp2_with fail
  refine (put_any a n c l 1 k v fs go ts J Jx [] W0 _ HG.out HS.out.base (HS.out.low.trans (HX.out.mono HS.out.low.size)) (HG.out.gj _ _ _ HS.out.j (far_below HX.out none)) hk).mono ?_
  rintro e W' ⟨b, rfl, hF⟩
  have HF : Hid (Fin go W0.heap.size ts J Jx ((W.alloc (.cells #[.slice a n c, .func (.yield l) #[] #[]] 65)).alloc (.cells #[.int .i64 1, .int .i64 k, .int .i64 v] 66)) (stepsT fs n 1 k v) [] b W') := hF
  clear hF
  go_wp2
  go_end0
  exact ⟨⟨_, rfl⟩, b, Fin.kp (Kp.of_below HX.out HS.out.low.size) HF.out⟩

set_option maxRecDepth 100000 in
set_option maxHeartbeats 4000000 in
theorem words_2 (a : Option Addr) (n c l Bg Bd : Nat) (k v : Int) (fs : List Int) (go : Ent → Bool) (ts : List TypeId) (J Jx : List Ent → World → Prop) (W0 W : World)
    (hG : Goes l go W0.heap.size ts J Jx) (hB : Base W0 a n fs) (hW : Below W0.heap.size W0 W) (hJ : J [] W) (hC : Caught a n c 68 2 k v Bg Bd W) (hk : 0 ≤ k ∧ k ≤ 3) :
    Calls Tryd.prog 34 #[.func (.yield l) #[] #[], .pointer (some ⟨Bg, 0, none⟩), .pointer (some ⟨Bd, 0, none⟩)] W fun e W' => (∃ v, e = .returned v) ∧ ∃ b, Fin go W0.heap.size ts J Jx W (stepsT fs n 2 k v) [] b W' := by
  have HG : Hid (Goes l go W0.heap.size ts J Jx) := hG
  have HS : Hid (Sits W0.heap.size ts J a n fs W0 W W []) := ⟨hB, hW, hJ, Kp.of_below (Below.refl _ _) hW.size⟩
  obtain ⟨g0, d0⟩ := hC
  clear hG hB hW hJ
  have t1 : ∀ w : World, (Instr.typeAssert (.iface 68 (OpV 2 k v)) 46 66 true).run Tryd.prog w = .ok (.tuple #[OpV 0 0 0, .bool false]) w := fun w => by kernel_rfl
  have t2 : ∀ w : World, (Instr.typeAssert (.iface 68 (OpV 2 k v)) 46 68 true).run Tryd.prog w = .ok (.tuple #[OpV 2 k v, .bool true]) w := fun w => by kernel_rfl
  have hX : Below W.heap.size W ((W.alloc (.cells #[.slice a n c, .func (.yield l) #[] #[]] 65)).alloc (.cells #[.int .i64 2, .int .i64 k, .int .i64 v] 68)) := ((Below.refl _ _).alloc (Nat.le_refl _) _).alloc (by simp) _
  have HX : Hid (Below W.heap.size W ((W.alloc (.cells #[.slice a n c, .func (.yield l) #[] #[]] 65)).alloc (.cells #[.int .i64 2, .int .i64 k, .int .i64 v] 68))) := hX
  clear hX
  have d1 : (W.alloc (.cells #[.slice a n c, .func (.yield l) #[] #[]] 65)).cell? ⟨Bd, 0, none⟩ = some (.iface 68 (OpV 2 k v)) := (((Below.refl W.heap.size W).alloc (Nat.le_refl _) _).cell (p := ⟨Bd, 0, none⟩) (World.block_lt_of_cell? W _ d0)).trans d0
  go_enter Tryd.func34, Tryd.ntmps34
  go_wp2_with fail
  refine (set_any a n c l 2 k v fs go ts J Jx [] W0 _ HG.out HS.out.base (HS.out.low.trans (HX.out.mono HS.out.low.size)) (HG.out.gj _ _ _ HS.out.j (far_below HX.out none)) hk).mono ?_
  rintro e W' ⟨b, rfl, hF⟩
  have HF : Hid (Fin go W0.heap.size ts J Jx ((W.alloc (.cells #[.slice a n c, .func (.yield l) #[] #[]] 65)).alloc (.cells #[.int .i64 2, .int .i64 k, .int .i64 v] 68)) (stepsT fs n 2 k v) [] b W') := hF
  clear hF
  go_wp2
  go_end0
  exact ⟨⟨_, rfl⟩, b, Fin.kp (Kp.of_below HX.out HS.out.low.size) HF.out⟩

set_option maxRecDepth 100000 in
set_option maxHeartbeats 4000000 in
theorem words_3 (a : Option Addr) (n c l Bg Bd : Nat) (k v : Int) (fs : List Int) (go : Ent → Bool) (ts : List TypeId) (J Jx : List Ent → World → Prop) (W0 W : World)
    (hG : Goes l go W0.heap.size ts J Jx) (hB : Base W0 a n fs) (hW : Below W0.heap.size W0 W) (hJ : J [] W) (hC : Caught a n c 70 3 k v Bg Bd W) (hk : 0 ≤ k ∧ k ≤ 3) :
    Calls Tryd.prog 34 #[.func (.yield l) #[] #[], .pointer (some ⟨Bg, 0, none⟩), .pointer (some ⟨Bd, 0, none⟩)] W fun e W' => (∃ v, e = .returned v) ∧ ∃ b, Fin go W0.heap.size ts J Jx W (stepsT fs n 3 k v) [] b W' := by
  have HG : Hid (Goes l go W0.heap.size ts J Jx) := hG
  have HS : Hid (Sits W0.heap.size ts J a n fs W0 W W []) := ⟨hB, hW, hJ, Kp.of_below (Below.refl _ _) hW.size⟩
  obtain ⟨g0, d0⟩ := hC
  clear hG hB hW hJ
  have t1 : ∀ w : World, (Instr.typeAssert (.iface 70 (OpV 3 k v)) 46 66 true).run Tryd.prog w = .ok (.tuple #[OpV 0 0 0, .bool false]) w := fun w => by kernel_rfl
  have t2 : ∀ w : World, (Instr.typeAssert (.iface 70 (OpV 3 k v)) 46 68 true).run Tryd.prog w = .ok (.tuple #[OpV 0 0 0, .bool false]) w := fun w => by kernel_rfl
  have t3 : ∀ w : World, (Instr.typeAssert (.iface 70 (OpV 3 k v)) 46 70 true).run Tryd.prog w = .ok (.tuple #[OpV 3 k v, .bool true]) w := fun w => by kernel_rfl
  have hX : Below W.heap.size W ((W.alloc (.cells #[.slice a n c, .func (.yield l) #[] #[]] 65)).alloc (.cells #[.int .i64 3, .int .i64 k, .int .i64 v] 70)) := ((Below.refl _ _).alloc (Nat.le_refl _) _).alloc (by simp) _
  have HX : Hid (Below W.heap.size W ((W.alloc (.cells #[.slice a n c, .func (.yield l) #[] #[]] 65)).alloc (.cells #[.int .i64 3, .int .i64 k, .int .i64 v] 70))) := hX
  clear hX
  have d1 : (W.alloc (.cells #[.slice a n c, .func (.yield l) #[] #[]] 65)).cell? ⟨Bd, 0, none⟩ = some (.iface 70 (OpV 3 k v)) := (((Below.refl W.heap.size W).alloc (Nat.le_refl _) _).cell (p := ⟨Bd, 0, none⟩) (World.block_lt_of_cell? W _ d0)).trans d0
  go_enter Tryd.func34, Tryd.ntmps34
  go_wp2_with fail
  refine (del_any a n c l 3 k v fs go ts J Jx [] W0 _ HG.out HS.out.base (HS.out.low.trans (HX.out.mono HS.out.low.size)) (HG.out.gj _ _ _ HS.out.j (far_below HX.out none)) hk).mono ?_
  rintro e W' ⟨b, rfl, hF⟩
  have HF : Hid (Fin go W0.heap.size ts J Jx ((W.alloc (.cells #[.slice a n c, .func (.yield l) #[] #[]] 65)).alloc (.cells #[.int .i64 3, .int .i64 k, .int .i64 v] 70)) (stepsT fs n 3 k v) [] b W') := hF
  clear hF
  go_wp2
  go_end0
  exact ⟨⟨_, rfl⟩, b, Fin.kp (Kp.of_below HX.out HS.out.low.size) HF.out⟩

set_option maxRecDepth 100000 in
set_option maxHeartbeats 4000000 in
theorem words_4 (a : Option Addr) (n c l Bg Bd : Nat) (k v : Int) (fs : List Int) (go : Ent → Bool) (ts : List TypeId) (J Jx : List Ent → World → Prop) (W0 W : World)
    (hG : Goes l go W0.heap.size ts J Jx) (hB : Base W0 a n fs) (hW : Below W0.heap.size W0 W) (hJ : J [] W) (hC : Caught a n c 72 4 k v Bg Bd W) :
    Calls Tryd.prog 34 #[.func (.yield l) #[] #[], .pointer (some ⟨Bg, 0, none⟩), .pointer (some ⟨Bd, 0, none⟩)] W fun e W' => (∃ v, e = .returned v) ∧ ∃ b, Fin go W0.heap.size ts J Jx W (stepsT fs n 4 k v) [] b W' := by
  have HG : Hid (Goes l go W0.heap.size ts J Jx) := hG
  have HS : Hid (Sits W0.heap.size ts J a n fs W0 W W []) := ⟨hB, hW, hJ, Kp.of_below (Below.refl _ _) hW.size⟩
  obtain ⟨g0, d0⟩ := hC
  clear hG hB hW hJ
  have t1 : ∀ w : World, (Instr.typeAssert (.iface 72 (OpV 4 k v)) 46 66 true).run Tryd.prog w = .ok (.tuple #[OpV 0 0 0, .bool false]) w := fun w => by kernel_rfl
  have t2 : ∀ w : World, (Instr.typeAssert (.iface 72 (OpV 4 k v)) 46 68 true).run Tryd.prog w = .ok (.tuple #[OpV 0 0 0, .bool false]) w := fun w => by kernel_rfl
  have t3 : ∀ w : World, (Instr.typeAssert (.iface 72 (OpV 4 k v)) 46 70 true).run Tryd.prog w = .ok (.tuple #[OpV 0 0 0, .bool false]) w := fun w => by kernel_rfl
  have t4 : ∀ w : World, (Instr.typeAssert (.iface 72 (OpV 4 k v)) 46 72 true).run Tryd.prog w = .ok (.tuple #[OpV 4 k v, .bool true]) w := fun w => by kernel_rfl
  have hX : Below W.heap.size W ((W.alloc (.cells #[.slice a n c, .func (.yield l) #[] #[]] 65)).alloc (.cells #[.int .i64 4, .int .i64 k, .int .i64 v] 72)) := ((Below.refl _ _).alloc (Nat.le_refl _) _).alloc (by simp) _
  have HX : Hid (Below W.heap.size W ((W.alloc (.cells #[.slice a n c, .func (.yield l) #[] #[]] 65)).alloc (.cells #[.int .i64 4, .int .i64 k, .int .i64 v] 72))) := hX
  clear hX
  have d1 : (W.alloc (.cells #[.slice a n c, .func (.yield l) #[] #[]] 65)).cell? ⟨Bd, 0, none⟩ = some (.iface 72 (OpV 4 k v)) := (((Below.refl W.heap.size W).alloc (Nat.le_refl _) _).cell (p := ⟨Bd, 0, none⟩) (World.block_lt_of_cell? W _ d0)).trans d0
  go_enter Tryd.func34, Tryd.ntmps34
  go_wp2_with fail
  obtain ⟨wd, hwd⟩ : ∃ wd, ((W.alloc (.cells #[.slice a n c, .func (.yield l) #[] #[]] 65)).alloc (.cells #[.int .i64 4, .int .i64 k, .int .i64 v] 72)).drew = wd := ⟨_, rfl⟩
  have hdd : Below W.heap.size W wd := by rw [← hwd]; exact HX.out.drew
  have HSd : Hid (Sits W0.heap.size ts J a n fs W0 W wd []) := HS.out.on HG.out.gj hdd
  have BT : Hid (wd.heap[W.heap.size]? = some (tellCells a n c l) ∧ wd.heap[W.heap.size + 1]? = some (.cells #[.int .i64 4, .int .i64 k, .int .i64 v] 72 (0, 0))) := by
    rw [← hwd]
    refine ⟨(Below.heap_alloc _ _ _ (by simp)).trans (World.alloc_heap_new W _), ?_⟩
    have := World.alloc_heap_new (W.alloc (.cells #[.slice a n c, .func (.yield l) #[] #[]] 65)) (.cells #[.int .i64 4, .int .i64 k, .int .i64 v] 72); rw [World.size_alloc] at this; exact this
  have K0 : Hid (wd.cell? ⟨W.heap.size, 0, none⟩ = some (.slice a n c) ∧ wd.cell? ⟨W.heap.size, 1, none⟩ = some (.func (.yield l) #[] #[]) ∧ wd.cell? ⟨W.heap.size + 1, 1, none⟩ = some (.int .i64 k)) := ⟨by simp [World.cell?, BT.out.1], by simp [World.cell?, BT.out.1], by simp [World.cell?, BT.out.2]⟩
  clear hdd
  go_region_held3 (fun w' => w'.cell? ⟨W.heap.size, 0, none⟩ = some (.slice a n c) ∧ w'.cell? ⟨W.heap.size, 1, none⟩ = some (.func (.yield l) #[] #[]) ∧ w'.cell? ⟨W.heap.size + 1, 1, none⟩ = some (.int .i64 k))
    (first | (with_reducible exact K2.out) | (with_reducible exact K1.out) | (with_reducible exact K0.out) | exact hwd ▸ K0.out | go_keep)
    (first
    | (go_at_call 39
       refine (implRowAt_any k _ (by first | exact HSd.out.names | exact hwd ▸ HSd.out.names)).mono ?_
       rintro e w1 ⟨rfl, hb1⟩
       have hb1' : Below wd.heap.size wd w1 := by first | exact hb1 | exact hwd ▸ hb1
       have HS1 : Hid (Sits W0.heap.size ts J a n fs W0 W w1 []) := HSd.out.on HG.out.gj hb1'
       have B1 : Hid (w1.heap[W.heap.size]? = some (tellCells a n c l) ∧ w1.heap[W.heap.size + 1]? = some (.cells #[.int .i64 4, .int .i64 k, .int .i64 v] 72 (0, 0))) := ⟨(hb1'.block _ (Array.getElem?_eq_some_iff.1 BT.out.1).1).trans BT.out.1, (hb1'.block _ (Array.getElem?_eq_some_iff.1 BT.out.2).1).trans BT.out.2⟩
       have K1 : Hid (w1.cell? ⟨W.heap.size, 0, none⟩ = some (.slice a n c) ∧ w1.cell? ⟨W.heap.size, 1, none⟩ = some (.func (.yield l) #[] #[]) ∧ w1.cell? ⟨W.heap.size + 1, 1, none⟩ = some (.int .i64 k)) := ⟨by simp [World.cell?, B1.out.1], by simp [World.cell?, B1.out.1], by simp [World.cell?, B1.out.2]⟩
       clear hb1 hb1')
    | (go_at_call 38
       refine (stays_any a n c l (placeN 1 k) fs go ts J Jx [] W0 _ HG.out HS1.out.base HS1.out.low HS1.out.j).mono ?_
       rintro e w2 ⟨b, rfl, hF⟩
       have HF : Hid (Fin go W0.heap.size ts J Jx W [stayS fs n (placeN 1 k)] [] b w2) := Fin.kp HS1.out.kp hF
       have B2 : Hid (w2.heap[W.heap.size]? = some (tellCells a n c l) ∧ w2.heap[W.heap.size + 1]? = some (.cells #[.int .i64 4, .int .i64 k, .int .i64 v] 72 (0, 0))) := ⟨hF.kx.keep _ _ _ _ B1.out.1 (HG.out.tt _ (by simp)), hF.kx.keep _ _ _ _ B1.out.2 (HG.out.tt _ (by simp))⟩
       have K2 : Hid (w2.cell? ⟨W.heap.size, 0, none⟩ = some (.slice a n c) ∧ w2.cell? ⟨W.heap.size, 1, none⟩ = some (.func (.yield l) #[] #[]) ∧ w2.cell? ⟨W.heap.size + 1, 1, none⟩ = some (.int .i64 k)) := ⟨by simp [World.cell?, B2.out.1], by simp [World.cell?, B2.out.1], by simp [World.cell?, B2.out.2]⟩
       clear hF))
  go_wp2
  go_end0
  exact ⟨⟨_, rfl⟩, b, HF.out⟩

set_option maxRecDepth 100000 in
set_option maxHeartbeats 4000000 in
theorem words_5 (a : Option Addr) (n c l Bg Bd : Nat) (k v : Int) (fs : List Int) (go : Ent → Bool) (ts : List TypeId) (J Jx : List Ent → World → Prop) (W0 W : World)
    (hG : Goes l go W0.heap.size ts J Jx) (hB : Base W0 a n fs) (hW : Below W0.heap.size W0 W) (hJ : J [] W) (hC : Caught a n c 73 5 k v Bg Bd W) :
    Calls Tryd.prog 34 #[.func (.yield l) #[] #[], .pointer (some ⟨Bg, 0, none⟩), .pointer (some ⟨Bd, 0, none⟩)] W fun e W' => (∃ v, e = .returned v) ∧ ∃ b, Fin go W0.heap.size ts J Jx W (stepsT fs n 5 k v) [] b W' := by
  have HG : Hid (Goes l go W0.heap.size ts J Jx) := hG
  have HS : Hid (Sits W0.heap.size ts J a n fs W0 W W []) := ⟨hB, hW, hJ, Kp.of_below (Below.refl _ _) hW.size⟩
  obtain ⟨g0, d0⟩ := hC
  clear hG hB hW hJ
  have t1 : ∀ w : World, (Instr.typeAssert (.iface 73 (OpV 5 k v)) 46 66 true).run Tryd.prog w = .ok (.tuple #[OpV 0 0 0, .bool false]) w := fun w => by kernel_rfl
  have t2 : ∀ w : World, (Instr.typeAssert (.iface 73 (OpV 5 k v)) 46 68 true).run Tryd.prog w = .ok (.tuple #[OpV 0 0 0, .bool false]) w := fun w => by kernel_rfl
  have t3 : ∀ w : World, (Instr.typeAssert (.iface 73 (OpV 5 k v)) 46 70 true).run Tryd.prog w = .ok (.tuple #[OpV 0 0 0, .bool false]) w := fun w => by kernel_rfl
  have t4 : ∀ w : World, (Instr.typeAssert (.iface 73 (OpV 5 k v)) 46 72 true).run Tryd.prog w = .ok (.tuple #[OpV 0 0 0, .bool false]) w := fun w => by kernel_rfl
  have t5 : ∀ w : World, (Instr.typeAssert (.iface 73 (OpV 5 k v)) 46 73 true).run Tryd.prog w = .ok (.tuple #[OpV 5 k v, .bool true]) w := fun w => by kernel_rfl
  have hX : Below W.heap.size W ((W.alloc (.cells #[.slice a n c, .func (.yield l) #[] #[]] 65)).alloc (.cells #[.int .i64 5, .int .i64 k, .int .i64 v] 73)) := ((Below.refl _ _).alloc (Nat.le_refl _) _).alloc (by simp) _
  have HX : Hid (Below W.heap.size W ((W.alloc (.cells #[.slice a n c, .func (.yield l) #[] #[]] 65)).alloc (.cells #[.int .i64 5, .int .i64 k, .int .i64 v] 73))) := hX
  clear hX
  have d1 : (W.alloc (.cells #[.slice a n c, .func (.yield l) #[] #[]] 65)).cell? ⟨Bd, 0, none⟩ = some (.iface 73 (OpV 5 k v)) := (((Below.refl W.heap.size W).alloc (Nat.le_refl _) _).cell (p := ⟨Bd, 0, none⟩) (World.block_lt_of_cell? W _ d0)).trans d0
  go_enter Tryd.func34, Tryd.ntmps34
  go_wp2_with fail
  obtain ⟨wd, hwd⟩ : ∃ wd, ((W.alloc (.cells #[.slice a n c, .func (.yield l) #[] #[]] 65)).alloc (.cells #[.int .i64 5, .int .i64 k, .int .i64 v] 73)).drew = wd := ⟨_, rfl⟩
  have hdd : Below W.heap.size W wd := by rw [← hwd]; exact HX.out.drew
  have HSd : Hid (Sits W0.heap.size ts J a n fs W0 W wd []) := HS.out.on HG.out.gj hdd
  have BT : Hid (wd.heap[W.heap.size]? = some (tellCells a n c l) ∧ wd.heap[W.heap.size + 1]? = some (.cells #[.int .i64 5, .int .i64 k, .int .i64 v] 73 (0, 0))) := by
    rw [← hwd]
    refine ⟨(Below.heap_alloc _ _ _ (by simp)).trans (World.alloc_heap_new W _), ?_⟩
    have := World.alloc_heap_new (W.alloc (.cells #[.slice a n c, .func (.yield l) #[] #[]] 65)) (.cells #[.int .i64 5, .int .i64 k, .int .i64 v] 73); rw [World.size_alloc] at this; exact this
  have K0 : Hid (wd.cell? ⟨W.heap.size, 0, none⟩ = some (.slice a n c) ∧ wd.cell? ⟨W.heap.size, 1, none⟩ = some (.func (.yield l) #[] #[]) ∧ wd.cell? ⟨W.heap.size + 1, 2, none⟩ = some (.int .i64 v)) := ⟨by simp [World.cell?, BT.out.1], by simp [World.cell?, BT.out.1], by simp [World.cell?, BT.out.2]⟩
  clear hdd
  go_region_held3 (fun w' => w'.cell? ⟨W.heap.size, 0, none⟩ = some (.slice a n c) ∧ w'.cell? ⟨W.heap.size, 1, none⟩ = some (.func (.yield l) #[] #[]) ∧ w'.cell? ⟨W.heap.size + 1, 2, none⟩ = some (.int .i64 v))
    (first | (with_reducible exact K2.out) | (with_reducible exact K1.out) | (with_reducible exact K0.out) | exact hwd ▸ K0.out | go_keep)
    (first
    | (go_at_call 40
       refine (implOwnerAt_any v _ (by first | exact HSd.out.names | exact hwd ▸ HSd.out.names)).mono ?_
       rintro e w1 ⟨rfl, hb1⟩
       have hb1' : Below wd.heap.size wd w1 := by first | exact hb1 | exact hwd ▸ hb1
       have HS1 : Hid (Sits W0.heap.size ts J a n fs W0 W w1 []) := HSd.out.on HG.out.gj hb1'
       have B1 : Hid (w1.heap[W.heap.size]? = some (tellCells a n c l) ∧ w1.heap[W.heap.size + 1]? = some (.cells #[.int .i64 5, .int .i64 k, .int .i64 v] 73 (0, 0))) := ⟨(hb1'.block _ (Array.getElem?_eq_some_iff.1 BT.out.1).1).trans BT.out.1, (hb1'.block _ (Array.getElem?_eq_some_iff.1 BT.out.2).1).trans BT.out.2⟩
       have K1 : Hid (w1.cell? ⟨W.heap.size, 0, none⟩ = some (.slice a n c) ∧ w1.cell? ⟨W.heap.size, 1, none⟩ = some (.func (.yield l) #[] #[]) ∧ w1.cell? ⟨W.heap.size + 1, 2, none⟩ = some (.int .i64 v)) := ⟨by simp [World.cell?, B1.out.1], by simp [World.cell?, B1.out.1], by simp [World.cell?, B1.out.2]⟩
       clear hb1 hb1')
    | (go_at_call 38
       refine (stays_any a n c l (placeN 2 v) fs go ts J Jx [] W0 _ HG.out HS1.out.base HS1.out.low HS1.out.j).mono ?_
       rintro e w2 ⟨b, rfl, hF⟩
       have HF : Hid (Fin go W0.heap.size ts J Jx W [stayS fs n (placeN 2 v)] [] b w2) := Fin.kp HS1.out.kp hF
       have B2 : Hid (w2.heap[W.heap.size]? = some (tellCells a n c l) ∧ w2.heap[W.heap.size + 1]? = some (.cells #[.int .i64 5, .int .i64 k, .int .i64 v] 73 (0, 0))) := ⟨hF.kx.keep _ _ _ _ B1.out.1 (HG.out.tt _ (by simp)), hF.kx.keep _ _ _ _ B1.out.2 (HG.out.tt _ (by simp))⟩
       have K2 : Hid (w2.cell? ⟨W.heap.size, 0, none⟩ = some (.slice a n c) ∧ w2.cell? ⟨W.heap.size, 1, none⟩ = some (.func (.yield l) #[] #[]) ∧ w2.cell? ⟨W.heap.size + 1, 2, none⟩ = some (.int .i64 v)) := ⟨by simp [World.cell?, B2.out.1], by simp [World.cell?, B2.out.1], by simp [World.cell?, B2.out.2]⟩
       clear hF))
  go_wp2
  go_end0
  exact ⟨⟨_, rfl⟩, b, HF.out⟩

set_option maxRecDepth 100000 in
set_option maxHeartbeats 4000000 in
theorem words_6 (a : Option Addr) (n c l Bg Bd : Nat) (k v : Int) (fs : List Int) (go : Ent → Bool) (ts : List TypeId) (J Jx : List Ent → World → Prop) (W0 W : World)
    (hG : Goes l go W0.heap.size ts J Jx) (hB : Base W0 a n fs) (hW : Below W0.heap.size W0 W) (hJ : J [] W) (hC : Caught a n c 74 6 k v Bg Bd W) :
    Calls Tryd.prog 34 #[.func (.yield l) #[] #[], .pointer (some ⟨Bg, 0, none⟩), .pointer (some ⟨Bd, 0, none⟩)] W fun e W' => (∃ v, e = .returned v) ∧ ∃ b, Fin go W0.heap.size ts J Jx W (stepsT fs n 6 k v) [] b W' := by
  have HG : Hid (Goes l go W0.heap.size ts J Jx) := hG
  have HS : Hid (Sits W0.heap.size ts J a n fs W0 W W []) := ⟨hB, hW, hJ, Kp.of_below (Below.refl _ _) hW.size⟩
  obtain ⟨g0, d0⟩ := hC
  clear hG hB hW hJ
  have t1 : ∀ w : World, (Instr.typeAssert (.iface 74 (OpV 6 k v)) 46 66 true).run Tryd.prog w = .ok (.tuple #[OpV 0 0 0, .bool false]) w := fun w => by kernel_rfl
  have t2 : ∀ w : World, (Instr.typeAssert (.iface 74 (OpV 6 k v)) 46 68 true).run Tryd.prog w = .ok (.tuple #[OpV 0 0 0, .bool false]) w := fun w => by kernel_rfl
  have t3 : ∀ w : World, (Instr.typeAssert (.iface 74 (OpV 6 k v)) 46 70 true).run Tryd.prog w = .ok (.tuple #[OpV 0 0 0, .bool false]) w := fun w => by kernel_rfl
  have t4 : ∀ w : World, (Instr.typeAssert (.iface 74 (OpV 6 k v)) 46 72 true).run Tryd.prog w = .ok (.tuple #[OpV 0 0 0, .bool false]) w := fun w => by kernel_rfl
  have t5 : ∀ w : World, (Instr.typeAssert (.iface 74 (OpV 6 k v)) 46 73 true).run Tryd.prog w = .ok (.tuple #[OpV 0 0 0, .bool false]) w := fun w => by kernel_rfl
  have t6 : ∀ w : World, (Instr.typeAssert (.iface 74 (OpV 6 k v)) 46 74 true).run Tryd.prog w = .ok (.tuple #[OpV 6 k v, .bool true]) w := fun w => by kernel_rfl
  have hX : Below W.heap.size W ((W.alloc (.cells #[.slice a n c, .func (.yield l) #[] #[]] 65)).alloc (.cells #[.int .i64 6, .int .i64 k, .int .i64 v] 74)) := ((Below.refl _ _).alloc (Nat.le_refl _) _).alloc (by simp) _
  have HX : Hid (Below W.heap.size W ((W.alloc (.cells #[.slice a n c, .func (.yield l) #[] #[]] 65)).alloc (.cells #[.int .i64 6, .int .i64 k, .int .i64 v] 74))) := hX
  clear hX
  have d1 : (W.alloc (.cells #[.slice a n c, .func (.yield l) #[] #[]] 65)).cell? ⟨Bd, 0, none⟩ = some (.iface 74 (OpV 6 k v)) := (((Below.refl W.heap.size W).alloc (Nat.le_refl _) _).cell (p := ⟨Bd, 0, none⟩) (World.block_lt_of_cell? W _ d0)).trans d0
  go_enter Tryd.func34, Tryd.ntmps34
  go_wp2_with fail
  obtain ⟨wd, hwd⟩ : ∃ wd, ((W.alloc (.cells #[.slice a n c, .func (.yield l) #[] #[]] 65)).alloc (.cells #[.int .i64 6, .int .i64 k, .int .i64 v] 74)).drew = wd := ⟨_, rfl⟩
  have hdd : Below W.heap.size W wd := by rw [← hwd]; exact HX.out.drew
  have HSd : Hid (Sits W0.heap.size ts J a n fs W0 W wd []) := HS.out.on HG.out.gj hdd
  have BT : Hid (wd.heap[W.heap.size]? = some (tellCells a n c l) ∧ wd.heap[W.heap.size + 1]? = some (.cells #[.int .i64 6, .int .i64 k, .int .i64 v] 74 (0, 0))) := by
    rw [← hwd]
    refine ⟨(Below.heap_alloc _ _ _ (by simp)).trans (World.alloc_heap_new W _), ?_⟩
    have := World.alloc_heap_new (W.alloc (.cells #[.slice a n c, .func (.yield l) #[] #[]] 65)) (.cells #[.int .i64 6, .int .i64 k, .int .i64 v] 74); rw [World.size_alloc] at this; exact this
  have K0 : Hid (wd.cell? ⟨W.heap.size, 0, none⟩ = some (.slice a n c) ∧ wd.cell? ⟨W.heap.size, 1, none⟩ = some (.func (.yield l) #[] #[]) ∧ wd.cell? ⟨W.heap.size + 1, 1, none⟩ = some (.int .i64 k)) := ⟨by simp [World.cell?, BT.out.1], by simp [World.cell?, BT.out.1], by simp [World.cell?, BT.out.2]⟩
  clear hdd
  go_region_held3 (fun w' => w'.cell? ⟨W.heap.size, 0, none⟩ = some (.slice a n c) ∧ w'.cell? ⟨W.heap.size, 1, none⟩ = some (.func (.yield l) #[] #[]) ∧ w'.cell? ⟨W.heap.size + 1, 1, none⟩ = some (.int .i64 k))
    (first | (with_reducible exact K2.out) | (with_reducible exact K1.out) | (with_reducible exact K0.out) | exact hwd ▸ K0.out | go_keep)
    (first
    | (go_at_call 41
       refine (implCountAt_any k _ (by first | exact HSd.out.names | exact hwd ▸ HSd.out.names)).mono ?_
       rintro e w1 ⟨rfl, hb1⟩
       have hb1' : Below wd.heap.size wd w1 := by first | exact hb1 | exact hwd ▸ hb1
       have HS1 : Hid (Sits W0.heap.size ts J a n fs W0 W w1 []) := HSd.out.on HG.out.gj hb1'
       have B1 : Hid (w1.heap[W.heap.size]? = some (tellCells a n c l) ∧ w1.heap[W.heap.size + 1]? = some (.cells #[.int .i64 6, .int .i64 k, .int .i64 v] 74 (0, 0))) := ⟨(hb1'.block _ (Array.getElem?_eq_some_iff.1 BT.out.1).1).trans BT.out.1, (hb1'.block _ (Array.getElem?_eq_some_iff.1 BT.out.2).1).trans BT.out.2⟩
       have K1 : Hid (w1.cell? ⟨W.heap.size, 0, none⟩ = some (.slice a n c) ∧ w1.cell? ⟨W.heap.size, 1, none⟩ = some (.func (.yield l) #[] #[]) ∧ w1.cell? ⟨W.heap.size + 1, 1, none⟩ = some (.int .i64 k)) := ⟨by simp [World.cell?, B1.out.1], by simp [World.cell?, B1.out.1], by simp [World.cell?, B1.out.2]⟩
       clear hb1 hb1')
    | (go_at_call 38
       refine (stays_any a n c l (placeN 3 k) fs go ts J Jx [] W0 _ HG.out HS1.out.base HS1.out.low HS1.out.j).mono ?_
       rintro e w2 ⟨b, rfl, hF⟩
       have HF : Hid (Fin go W0.heap.size ts J Jx W [stayS fs n (placeN 3 k)] [] b w2) := Fin.kp HS1.out.kp hF
       have B2 : Hid (w2.heap[W.heap.size]? = some (tellCells a n c l) ∧ w2.heap[W.heap.size + 1]? = some (.cells #[.int .i64 6, .int .i64 k, .int .i64 v] 74 (0, 0))) := ⟨hF.kx.keep _ _ _ _ B1.out.1 (HG.out.tt _ (by simp)), hF.kx.keep _ _ _ _ B1.out.2 (HG.out.tt _ (by simp))⟩
       have K2 : Hid (w2.cell? ⟨W.heap.size, 0, none⟩ = some (.slice a n c) ∧ w2.cell? ⟨W.heap.size, 1, none⟩ = some (.func (.yield l) #[] #[]) ∧ w2.cell? ⟨W.heap.size + 1, 1, none⟩ = some (.int .i64 k)) := ⟨by simp [World.cell?, B2.out.1], by simp [World.cell?, B2.out.1], by simp [World.cell?, B2.out.2]⟩
       clear hF))
  go_wp2
  go_end0
  exact ⟨⟨_, rfl⟩, b, HF.out⟩

set_option maxRecDepth 100000 in
set_option maxHeartbeats 4000000 in
theorem words_7 (a : Option Addr) (n c l Bg Bd : Nat) (k v : Int) (fs : List Int) (go : Ent → Bool) (ts : List TypeId) (J Jx : List Ent → World → Prop) (W0 W : World)
    (hG : Goes l go W0.heap.size ts J Jx) (hB : Base W0 a n fs) (hW : Below W0.heap.size W0 W) (hJ : J [] W) (hC : Caught a n c 75 7 k v Bg Bd W) :
    Calls Tryd.prog 34 #[.func (.yield l) #[] #[], .pointer (some ⟨Bg, 0, none⟩), .pointer (some ⟨Bd, 0, none⟩)] W fun e W' => (∃ v, e = .returned v) ∧ ∃ b, Fin go W0.heap.size ts J Jx W (stepsT fs n 7 k v) [] b W' := by
  have HG : Hid (Goes l go W0.heap.size ts J Jx) := hG
  have HS : Hid (Sits W0.heap.size ts J a n fs W0 W W []) := ⟨hB, hW, hJ, Kp.of_below (Below.refl _ _) hW.size⟩
  obtain ⟨g0, d0⟩ := hC
  clear hG hB hW hJ
  have t1 : ∀ w : World, (Instr.typeAssert (.iface 75 (OpV 7 k v)) 46 66 true).run Tryd.prog w = .ok (.tuple #[OpV 0 0 0, .bool false]) w := fun w => by kernel_rfl
  have t2 : ∀ w : World, (Instr.typeAssert (.iface 75 (OpV 7 k v)) 46 68 true).run Tryd.prog w = .ok (.tuple #[OpV 0 0 0, .bool false]) w := fun w => by kernel_rfl
  have t3 : ∀ w : World, (Instr.typeAssert (.iface 75 (OpV 7 k v)) 46 70 true).run Tryd.prog w = .ok (.tuple #[OpV 0 0 0, .bool false]) w := fun w => by kernel_rfl
  have t4 : ∀ w : World, (Instr.typeAssert (.iface 75 (OpV 7 k v)) 46 72 true).run Tryd.prog w = .ok (.tuple #[OpV 0 0 0, .bool false]) w := fun w => by kernel_rfl
  have t5 : ∀ w : World, (Instr.typeAssert (.iface 75 (OpV 7 k v)) 46 73 true).run Tryd.prog w = .ok (.tuple #[OpV 0 0 0, .bool false]) w := fun w => by kernel_rfl
  have t6 : ∀ w : World, (Instr.typeAssert (.iface 75 (OpV 7 k v)) 46 74 true).run Tryd.prog w = .ok (.tuple #[OpV 0 0 0, .bool false]) w := fun w => by kernel_rfl
  have t7 : ∀ w : World, (Instr.typeAssert (.iface 75 (OpV 7 k v)) 46 75 true).run Tryd.prog w = .ok (.tuple #[OpV 7 k v, .bool true]) w := fun w => by kernel_rfl
  have hX : Below W.heap.size W ((W.alloc (.cells #[.slice a n c, .func (.yield l) #[] #[]] 65)).alloc (.cells #[.int .i64 7, .int .i64 k, .int .i64 v] 75)) := ((Below.refl _ _).alloc (Nat.le_refl _) _).alloc (by simp) _
  have HX : Hid (Below W.heap.size W ((W.alloc (.cells #[.slice a n c, .func (.yield l) #[] #[]] 65)).alloc (.cells #[.int .i64 7, .int .i64 k, .int .i64 v] 75))) := hX
  clear hX
  have d1 : (W.alloc (.cells #[.slice a n c, .func (.yield l) #[] #[]] 65)).cell? ⟨Bd, 0, none⟩ = some (.iface 75 (OpV 7 k v)) := (((Below.refl W.heap.size W).alloc (Nat.le_refl _) _).cell (p := ⟨Bd, 0, none⟩) (World.block_lt_of_cell? W _ d0)).trans d0
  go_enter Tryd.func34, Tryd.ntmps34
  go_wp2_with fail
  refine (scan_any a n c l fs go ts J Jx [] W0 _ HG.out HS.out.base (HS.out.low.trans (HX.out.mono HS.out.low.size)) (HG.out.gj _ _ _ HS.out.j (far_below HX.out none))).mono ?_
  rintro e W' ⟨b, rfl, hF⟩
  have HF : Hid (Fin go W0.heap.size ts J Jx ((W.alloc (.cells #[.slice a n c, .func (.yield l) #[] #[]] 65)).alloc (.cells #[.int .i64 7, .int .i64 k, .int .i64 v] 75)) (stepsT fs n 7 k v) [] b W') := hF
  clear hF
  go_wp2
  go_end0
  exact ⟨⟨_, rfl⟩, b, Fin.kp (Kp.of_below HX.out HS.out.low.size) HF.out⟩

set_option maxRecDepth 100000 in
set_option maxHeartbeats 4000000 in
theorem words_8 (a : Option Addr) (n c l Bg Bd : Nat) (k v : Int) (fs : List Int) (go : Ent → Bool) (ts : List TypeId) (J Jx : List Ent → World → Prop) (W0 W : World)
    (hG : Goes l go W0.heap.size ts J Jx) (hB : Base W0 a n fs) (hW : Below W0.heap.size W0 W) (hJ : J [] W) (hC : Caught a n c 76 8 k v Bg Bd W) :
    Calls Tryd.prog 34 #[.func (.yield l) #[] #[], .pointer (some ⟨Bg, 0, none⟩), .pointer (some ⟨Bd, 0, none⟩)] W fun e W' => (∃ v, e = .returned v) ∧ ∃ b, Fin go W0.heap.size ts J Jx W (stepsT fs n 8 k v) [] b W' := by
  have HG : Hid (Goes l go W0.heap.size ts J Jx) := hG
  have HS : Hid (Sits W0.heap.size ts J a n fs W0 W W []) := ⟨hB, hW, hJ, Kp.of_below (Below.refl _ _) hW.size⟩
  obtain ⟨g0, d0⟩ := hC
  clear hG hB hW hJ
  have t1 : ∀ w : World, (Instr.typeAssert (.iface 76 (OpV 8 k v)) 46 66 true).run Tryd.prog w = .ok (.tuple #[OpV 0 0 0, .bool false]) w := fun w => by kernel_rfl
  have t2 : ∀ w : World, (Instr.typeAssert (.iface 76 (OpV 8 k v)) 46 68 true).run Tryd.prog w = .ok (.tuple #[OpV 0 0 0, .bool false]) w := fun w => by kernel_rfl
  have t3 : ∀ w : World, (Instr.typeAssert (.iface 76 (OpV 8 k v)) 46 70 true).run Tryd.prog w = .ok (.tuple #[OpV 0 0 0, .bool false]) w := fun w => by kernel_rfl
  have t4 : ∀ w : World, (Instr.typeAssert (.iface 76 (OpV 8 k v)) 46 72 true).run Tryd.prog w = .ok (.tuple #[OpV 0 0 0, .bool false]) w := fun w => by kernel_rfl
  have t5 : ∀ w : World, (Instr.typeAssert (.iface 76 (OpV 8 k v)) 46 73 true).run Tryd.prog w = .ok (.tuple #[OpV 0 0 0, .bool false]) w := fun w => by kernel_rfl
  have t6 : ∀ w : World, (Instr.typeAssert (.iface 76 (OpV 8 k v)) 46 74 true).run Tryd.prog w = .ok (.tuple #[OpV 0 0 0, .bool false]) w := fun w => by kernel_rfl
  have t7 : ∀ w : World, (Instr.typeAssert (.iface 76 (OpV 8 k v)) 46 75 true).run Tryd.prog w = .ok (.tuple #[OpV 0 0 0, .bool false]) w := fun w => by kernel_rfl
  have t8 : ∀ w : World, (Instr.typeAssert (.iface 76 (OpV 8 k v)) 46 76 true).run Tryd.prog w = .ok (.tuple #[OpV 8 k v, .bool true]) w := fun w => by kernel_rfl
  have hX : Below W.heap.size W ((W.alloc (.cells #[.slice a n c, .func (.yield l) #[] #[]] 65)).alloc (.cells #[.int .i64 8, .int .i64 k, .int .i64 v] 76)) := ((Below.refl _ _).alloc (Nat.le_refl _) _).alloc (by simp) _
  have HX : Hid (Below W.heap.size W ((W.alloc (.cells #[.slice a n c, .func (.yield l) #[] #[]] 65)).alloc (.cells #[.int .i64 8, .int .i64 k, .int .i64 v] 76))) := hX
  clear hX
  have d1 : (W.alloc (.cells #[.slice a n c, .func (.yield l) #[] #[]] 65)).cell? ⟨Bd, 0, none⟩ = some (.iface 76 (OpV 8 k v)) := (((Below.refl W.heap.size W).alloc (Nat.le_refl _) _).cell (p := ⟨Bd, 0, none⟩) (World.block_lt_of_cell? W _ d0)).trans d0
  go_enter Tryd.func34, Tryd.ntmps34
  go_wp2_with fail
  obtain ⟨wd, hwd⟩ : ∃ wd, ((W.alloc (.cells #[.slice a n c, .func (.yield l) #[] #[]] 65)).alloc (.cells #[.int .i64 8, .int .i64 k, .int .i64 v] 76)).drew = wd := ⟨_, rfl⟩
  have hdd : Below W.heap.size W wd := by rw [← hwd]; exact HX.out.drew
  have HSd : Hid (Sits W0.heap.size ts J a n fs W0 W wd []) := HS.out.on HG.out.gj hdd
  have BT : Hid (wd.heap[W.heap.size]? = some (tellCells a n c l) ∧ wd.heap[W.heap.size + 1]? = some (.cells #[.int .i64 8, .int .i64 k, .int .i64 v] 76 (0, 0))) := by
    rw [← hwd]
    refine ⟨(Below.heap_alloc _ _ _ (by simp)).trans (World.alloc_heap_new W _), ?_⟩
    have := World.alloc_heap_new (W.alloc (.cells #[.slice a n c, .func (.yield l) #[] #[]] 65)) (.cells #[.int .i64 8, .int .i64 k, .int .i64 v] 76); rw [World.size_alloc] at this; exact this
  have K0 : Hid (wd.cell? ⟨W.heap.size, 0, none⟩ = some (.slice a n c) ∧ wd.cell? ⟨W.heap.size, 1, none⟩ = some (.func (.yield l) #[] #[])) := ⟨by simp [World.cell?, BT.out.1], by simp [World.cell?, BT.out.1]⟩
  clear hdd
  go_region_held3 (fun w' => w'.cell? ⟨W.heap.size, 0, none⟩ = some (.slice a n c) ∧ w'.cell? ⟨W.heap.size, 1, none⟩ = some (.func (.yield l) #[] #[]))
    (first | (with_reducible exact K2.out) | (with_reducible exact K1.out) | (with_reducible exact K0.out) | exact hwd ▸ K0.out | go_keep)
    (first
    | (go_at_call 44
       refine (implStateAt_any _ (by first | exact HSd.out.names | exact hwd ▸ HSd.out.names)).mono ?_
       rintro e w1 ⟨rfl, hb1⟩
       have hb1' : Below wd.heap.size wd w1 := by first | exact hb1 | exact hwd ▸ hb1
       have HS1 : Hid (Sits W0.heap.size ts J a n fs W0 W w1 []) := HSd.out.on HG.out.gj hb1'
       have B1 : Hid (w1.heap[W.heap.size]? = some (tellCells a n c l) ∧ w1.heap[W.heap.size + 1]? = some (.cells #[.int .i64 8, .int .i64 k, .int .i64 v] 76 (0, 0))) := ⟨(hb1'.block _ (Array.getElem?_eq_some_iff.1 BT.out.1).1).trans BT.out.1, (hb1'.block _ (Array.getElem?_eq_some_iff.1 BT.out.2).1).trans BT.out.2⟩
       have K1 : Hid (w1.cell? ⟨W.heap.size, 0, none⟩ = some (.slice a n c) ∧ w1.cell? ⟨W.heap.size, 1, none⟩ = some (.func (.yield l) #[] #[])) := ⟨by simp [World.cell?, B1.out.1], by simp [World.cell?, B1.out.1]⟩
       clear hb1 hb1')
    | (go_at_call 43
       refine (grows_any a n c l (13) fs go ts J Jx [] W0 _ HG.out HS1.out.base HS1.out.low HS1.out.j).mono ?_
       rintro e w2 ⟨b, rfl, hF⟩
       have HF : Hid (Fin go W0.heap.size ts J Jx W [growS fs n (13)] [] b w2) := Fin.kp HS1.out.kp hF
       have B2 : Hid (w2.heap[W.heap.size]? = some (tellCells a n c l) ∧ w2.heap[W.heap.size + 1]? = some (.cells #[.int .i64 8, .int .i64 k, .int .i64 v] 76 (0, 0))) := ⟨hF.kx.keep _ _ _ _ B1.out.1 (HG.out.tt _ (by simp)), hF.kx.keep _ _ _ _ B1.out.2 (HG.out.tt _ (by simp))⟩
       have K2 : Hid (w2.cell? ⟨W.heap.size, 0, none⟩ = some (.slice a n c) ∧ w2.cell? ⟨W.heap.size, 1, none⟩ = some (.func (.yield l) #[] #[])) := ⟨by simp [World.cell?, B2.out.1], by simp [World.cell?, B2.out.1]⟩
       clear hF))
  go_wp2
  go_end0
  exact ⟨⟨_, rfl⟩, b, HF.out⟩

set_option maxRecDepth 100000 in
set_option maxHeartbeats 4000000 in
theorem words_9 (a : Option Addr) (n c l Bg Bd : Nat) (k v : Int) (fs : List Int) (go : Ent → Bool) (ts : List TypeId) (J Jx : List Ent → World → Prop) (W0 W : World)
    (hG : Goes l go W0.heap.size ts J Jx) (hB : Base W0 a n fs) (hW : Below W0.heap.size W0 W) (hJ : J [] W) (hC : Caught a n c 77 9 k v Bg Bd W) :
    Calls Tryd.prog 34 #[.func (.yield l) #[] #[], .pointer (some ⟨Bg, 0, none⟩), .pointer (some ⟨Bd, 0, none⟩)] W fun e W' => (∃ v, e = .returned v) ∧ ∃ b, Fin go W0.heap.size ts J Jx W (stepsT fs n 9 k v) [] b W' := by
  have HG : Hid (Goes l go W0.heap.size ts J Jx) := hG
  have HS : Hid (Sits W0.heap.size ts J a n fs W0 W W []) := ⟨hB, hW, hJ, Kp.of_below (Below.refl _ _) hW.size⟩
  obtain ⟨g0, d0⟩ := hC
  clear hG hB hW hJ
  have t1 : ∀ w : World, (Instr.typeAssert (.iface 77 (OpV 9 k v)) 46 66 true).run Tryd.prog w = .ok (.tuple #[OpV 0 0 0, .bool false]) w := fun w => by kernel_rfl
  have t2 : ∀ w : World, (Instr.typeAssert (.iface 77 (OpV 9 k v)) 46 68 true).run Tryd.prog w = .ok (.tuple #[OpV 0 0 0, .bool false]) w := fun w => by kernel_rfl
  have t3 : ∀ w : World, (Instr.typeAssert (.iface 77 (OpV 9 k v)) 46 70 true).run Tryd.prog w = .ok (.tuple #[OpV 0 0 0, .bool false]) w := fun w => by kernel_rfl
  have t4 : ∀ w : World, (Instr.typeAssert (.iface 77 (OpV 9 k v)) 46 72 true).run Tryd.prog w = .ok (.tuple #[OpV 0 0 0, .bool false]) w := fun w => by kernel_rfl
  have t5 : ∀ w : World, (Instr.typeAssert (.iface 77 (OpV 9 k v)) 46 73 true).run Tryd.prog w = .ok (.tuple #[OpV 0 0 0, .bool false]) w := fun w => by kernel_rfl
  have t6 : ∀ w : World, (Instr.typeAssert (.iface 77 (OpV 9 k v)) 46 74 true).run Tryd.prog w = .ok (.tuple #[OpV 0 0 0, .bool false]) w := fun w => by kernel_rfl
  have t7 : ∀ w : World, (Instr.typeAssert (.iface 77 (OpV 9 k v)) 46 75 true).run Tryd.prog w = .ok (.tuple #[OpV 0 0 0, .bool false]) w := fun w => by kernel_rfl
  have t8 : ∀ w : World, (Instr.typeAssert (.iface 77 (OpV 9 k v)) 46 76 true).run Tryd.prog w = .ok (.tuple #[OpV 0 0 0, .bool false]) w := fun w => by kernel_rfl
  have t9 : ∀ w : World, (Instr.typeAssert (.iface 77 (OpV 9 k v)) 46 77 true).run Tryd.prog w = .ok (.tuple #[OpV 9 k v, .bool true]) w := fun w => by kernel_rfl
  have hX : Below W.heap.size W ((W.alloc (.cells #[.slice a n c, .func (.yield l) #[] #[]] 65)).alloc (.cells #[.int .i64 9, .int .i64 k, .int .i64 v] 77)) := ((Below.refl _ _).alloc (Nat.le_refl _) _).alloc (by simp) _
  have HX : Hid (Below W.heap.size W ((W.alloc (.cells #[.slice a n c, .func (.yield l) #[] #[]] 65)).alloc (.cells #[.int .i64 9, .int .i64 k, .int .i64 v] 77))) := hX
  clear hX
  have d1 : (W.alloc (.cells #[.slice a n c, .func (.yield l) #[] #[]] 65)).cell? ⟨Bd, 0, none⟩ = some (.iface 77 (OpV 9 k v)) := (((Below.refl W.heap.size W).alloc (Nat.le_refl _) _).cell (p := ⟨Bd, 0, none⟩) (World.block_lt_of_cell? W _ d0)).trans d0
  go_enter Tryd.func34, Tryd.ntmps34
  go_wp2_with fail
  refine (makeNext_any a n c l fs go ts J Jx [] W0 _ HG.out HS.out.base (HS.out.low.trans (HX.out.mono HS.out.low.size)) (HG.out.gj _ _ _ HS.out.j (far_below HX.out none))).mono ?_
  rintro e W' ⟨b, rfl, hF⟩
  have HF : Hid (Fin go W0.heap.size ts J Jx ((W.alloc (.cells #[.slice a n c, .func (.yield l) #[] #[]] 65)).alloc (.cells #[.int .i64 9, .int .i64 k, .int .i64 v] 77)) (stepsT fs n 9 k v) [] b W') := hF
  clear hF
  go_wp2
  go_end0
  exact ⟨⟨_, rfl⟩, b, Fin.kp (Kp.of_below HX.out HS.out.low.size) HF.out⟩

set_option maxRecDepth 100000 in
set_option maxHeartbeats 4000000 in
theorem words_10 (a : Option Addr) (n c l Bg Bd : Nat) (k v : Int) (fs : List Int) (go : Ent → Bool) (ts : List TypeId) (J Jx : List Ent → World → Prop) (W0 W : World)
    (hG : Goes l go W0.heap.size ts J Jx) (hB : Base W0 a n fs) (hW : Below W0.heap.size W0 W) (hJ : J [] W) (hC : Caught a n c 78 10 k v Bg Bd W) :
    Calls Tryd.prog 34 #[.func (.yield l) #[] #[], .pointer (some ⟨Bg, 0, none⟩), .pointer (some ⟨Bd, 0, none⟩)] W fun e W' => (∃ v, e = .returned v) ∧ ∃ b, Fin go W0.heap.size ts J Jx W (stepsT fs n 10 k v) [] b W' := by
  have HG : Hid (Goes l go W0.heap.size ts J Jx) := hG
  have HS : Hid (Sits W0.heap.size ts J a n fs W0 W W []) := ⟨hB, hW, hJ, Kp.of_below (Below.refl _ _) hW.size⟩
  obtain ⟨g0, d0⟩ := hC
  clear hG hB hW hJ
  have t1 : ∀ w : World, (Instr.typeAssert (.iface 78 (OpV 10 k v)) 46 66 true).run Tryd.prog w = .ok (.tuple #[OpV 0 0 0, .bool false]) w := fun w => by kernel_rfl
  have t2 : ∀ w : World, (Instr.typeAssert (.iface 78 (OpV 10 k v)) 46 68 true).run Tryd.prog w = .ok (.tuple #[OpV 0 0 0, .bool false]) w := fun w => by kernel_rfl
  have t3 : ∀ w : World, (Instr.typeAssert (.iface 78 (OpV 10 k v)) 46 70 true).run Tryd.prog w = .ok (.tuple #[OpV 0 0 0, .bool false]) w := fun w => by kernel_rfl
  have t4 : ∀ w : World, (Instr.typeAssert (.iface 78 (OpV 10 k v)) 46 72 true).run Tryd.prog w = .ok (.tuple #[OpV 0 0 0, .bool false]) w := fun w => by kernel_rfl
  have t5 : ∀ w : World, (Instr.typeAssert (.iface 78 (OpV 10 k v)) 46 73 true).run Tryd.prog w = .ok (.tuple #[OpV 0 0 0, .bool false]) w := fun w => by kernel_rfl
  have t6 : ∀ w : World, (Instr.typeAssert (.iface 78 (OpV 10 k v)) 46 74 true).run Tryd.prog w = .ok (.tuple #[OpV 0 0 0, .bool false]) w := fun w => by kernel_rfl
  have t7 : ∀ w : World, (Instr.typeAssert (.iface 78 (OpV 10 k v)) 46 75 true).run Tryd.prog w = .ok (.tuple #[OpV 0 0 0, .bool false]) w := fun w => by kernel_rfl
  have t8 : ∀ w : World, (Instr.typeAssert (.iface 78 (OpV 10 k v)) 46 76 true).run Tryd.prog w = .ok (.tuple #[OpV 0 0 0, .bool false]) w := fun w => by kernel_rfl
  have t9 : ∀ w : World, (Instr.typeAssert (.iface 78 (OpV 10 k v)) 46 77 true).run Tryd.prog w = .ok (.tuple #[OpV 0 0 0, .bool false]) w := fun w => by kernel_rfl
  have t10 : ∀ w : World, (Instr.typeAssert (.iface 78 (OpV 10 k v)) 46 78 true).run Tryd.prog w = .ok (.tuple #[OpV 10 k v, .bool true]) w := fun w => by kernel_rfl
  have hX : Below W.heap.size W ((W.alloc (.cells #[.slice a n c, .func (.yield l) #[] #[]] 65)).alloc (.cells #[.int .i64 10, .int .i64 k, .int .i64 v] 78)) := ((Below.refl _ _).alloc (Nat.le_refl _) _).alloc (by simp) _
  have HX : Hid (Below W.heap.size W ((W.alloc (.cells #[.slice a n c, .func (.yield l) #[] #[]] 65)).alloc (.cells #[.int .i64 10, .int .i64 k, .int .i64 v] 78))) := hX
  clear hX
  have d1 : (W.alloc (.cells #[.slice a n c, .func (.yield l) #[] #[]] 65)).cell? ⟨Bd, 0, none⟩ = some (.iface 78 (OpV 10 k v)) := (((Below.refl W.heap.size W).alloc (Nat.le_refl _) _).cell (p := ⟨Bd, 0, none⟩) (World.block_lt_of_cell? W _ d0)).trans d0
  go_enter Tryd.func34, Tryd.ntmps34
  go_wp2_with fail
  refine (findVia_any a n c l 10 k v fs go ts J Jx [] W0 _ HG.out HS.out.base (HS.out.low.trans (HX.out.mono HS.out.low.size)) (HG.out.gj _ _ _ HS.out.j (far_below HX.out none))).mono ?_
  rintro e W' ⟨b, rfl, hF⟩
  have HF : Hid (Fin go W0.heap.size ts J Jx ((W.alloc (.cells #[.slice a n c, .func (.yield l) #[] #[]] 65)).alloc (.cells #[.int .i64 10, .int .i64 k, .int .i64 v] 78)) (stepsT fs n 10 k v) [] b W') := hF
  clear hF
  go_wp2
  go_end0
  exact ⟨⟨_, rfl⟩, b, Fin.kp (Kp.of_below HX.out HS.out.low.size) HF.out⟩
end Go.Proofs.YtdihmfhojjlijapDoor
