/- Texts joined: WordsC, NextT, ImplNext, ReadOf. -/
import Derived.Test.YtenlapppaimkkaeGreatDoorAL04
import Derived.Test.YtenlapppaimkkaeGreatDoorAL05
import Derived.Test.YtenlapppaimkkaeGreatDoorAL06
import Derived.Test.YtenlapppaimkkaeGreatDoorAL01
import Derived.Laws.EntriesVeiled
import Derived.Test.YtenlapppaimkkaeGreatDoorAL02
/- What the program's teller tells of each op, one word behind the other. -/
namespace Go.Proofs.YtenlapppaimkkaeGreatDoor
open Go.ChangeShapes Go.WideShapes Go.ChangeAt Go.RowKit


set_option maxRecDepth 100000 in
set_option maxHeartbeats 4000000 in
theorem words_1 (a : Option Addr) (n c : Nat) (F : Value) (wh : Bool) (k v : Int) (fs : List Int) (go : Ent → Bool) (ts : List TypeId) (J Jx : List Ent → World → Prop) (W0 W : World)
    (hG : Goes F wh a n c fs go W0 ts J Jx) (hB : Base W0 a n fs) (hW : Below W0.heap.size W0 W) (hJ : J [] W) (hk : 0 ≤ k ∧ k ≤ 3) :
    Calls Tryz.prog 66 #[.agg #[.slice a n c, F, .bool wh], .iface 91 (OpV 1 k v)] W fun e W' => (∃ v, e = .returned v) ∧ ∃ b, Fin wh go W0.heap.size ts J Jx W (stepsT wh fs n 1 k v) [] b W' := by
  have HG : Hid (Goes F wh a n c fs go W0 ts J Jx) := hG
  have HS : Hid (Sits W0.heap.size ts J a n fs W0 W W []) := ⟨hB, hW, hJ, Kp.of_below (Below.refl _ _) hW.size⟩
  clear hG hB hW hJ
  have t1 : ∀ w : World, (Instr.typeAssert (.iface 91 (OpV 1 k v)) 53 91 true).run Tryz.prog w = .ok (.tuple #[OpV 1 k v, .bool true]) w := fun w => by kernel_rfl
  have hX : Below W.heap.size W ((W.alloc (.cells #[.slice a n c, F, .bool wh] 108)).alloc (.cells #[.int .i64 1, .int .i64 k, .int .i64 v] 91)) := ((Below.refl _ _).alloc (Nat.le_refl _) _).alloc (by simp) _
  have HX : Hid (Below W.heap.size W ((W.alloc (.cells #[.slice a n c, F, .bool wh] 108)).alloc (.cells #[.int .i64 1, .int .i64 k, .int .i64 v] 91))) := hX
  clear hX
  go_enter Tryz.func66, Tryz.ntmps66
  go_wp2_with fail
  refine (put_any a n c F wh 1 k v fs go ts J Jx [] W0 _ HG.out HS.out.base (by decide) (HS.out.low.trans (HX.out.mono HS.out.low.size)) (HG.out.gj _ _ _ HS.out.j (far_below HX.out none)) hk).mono ?_
  rintro e W' ⟨b, rfl, hF⟩
  have HF : Hid (Fin wh go W0.heap.size ts J Jx ((W.alloc (.cells #[.slice a n c, F, .bool wh] 108)).alloc (.cells #[.int .i64 1, .int .i64 k, .int .i64 v] 91)) (stepsT wh fs n 1 k v) [] b W') := hF
  clear hF
  go_wp2
  go_end0
  exact ⟨⟨_, rfl⟩, b, Fin.kp (Kp.of_below HX.out HS.out.low.size) HF.out⟩

set_option maxRecDepth 100000 in
set_option maxHeartbeats 4000000 in
theorem words_2 (a : Option Addr) (n c : Nat) (F : Value) (wh : Bool) (k v : Int) (fs : List Int) (go : Ent → Bool) (ts : List TypeId) (J Jx : List Ent → World → Prop) (W0 W : World)
    (hG : Goes F wh a n c fs go W0 ts J Jx) (hB : Base W0 a n fs) (hW : Below W0.heap.size W0 W) (hJ : J [] W) (hk : 0 ≤ k ∧ k ≤ 3) :
    Calls Tryz.prog 66 #[.agg #[.slice a n c, F, .bool wh], .iface 92 (OpV 2 k v)] W fun e W' => (∃ v, e = .returned v) ∧ ∃ b, Fin wh go W0.heap.size ts J Jx W (stepsT wh fs n 2 k v) [] b W' := by
  have HG : Hid (Goes F wh a n c fs go W0 ts J Jx) := hG
  have HS : Hid (Sits W0.heap.size ts J a n fs W0 W W []) := ⟨hB, hW, hJ, Kp.of_below (Below.refl _ _) hW.size⟩
  clear hG hB hW hJ
  have t1 : ∀ w : World, (Instr.typeAssert (.iface 92 (OpV 2 k v)) 53 91 true).run Tryz.prog w = .ok (.tuple #[OpV 0 0 0, .bool false]) w := fun w => by kernel_rfl
  have t2 : ∀ w : World, (Instr.typeAssert (.iface 92 (OpV 2 k v)) 53 92 true).run Tryz.prog w = .ok (.tuple #[OpV 2 k v, .bool true]) w := fun w => by kernel_rfl
  have hX : Below W.heap.size W ((W.alloc (.cells #[.slice a n c, F, .bool wh] 108)).alloc (.cells #[.int .i64 2, .int .i64 k, .int .i64 v] 92)) := ((Below.refl _ _).alloc (Nat.le_refl _) _).alloc (by simp) _
  have HX : Hid (Below W.heap.size W ((W.alloc (.cells #[.slice a n c, F, .bool wh] 108)).alloc (.cells #[.int .i64 2, .int .i64 k, .int .i64 v] 92))) := hX
  clear hX
  go_enter Tryz.func66, Tryz.ntmps66
  go_wp2_with fail
  refine (set_any a n c F wh 2 k v fs go ts J Jx [] W0 _ HG.out HS.out.base (by decide) (HS.out.low.trans (HX.out.mono HS.out.low.size)) (HG.out.gj _ _ _ HS.out.j (far_below HX.out none)) hk).mono ?_
  rintro e W' ⟨b, rfl, hF⟩
  have HF : Hid (Fin wh go W0.heap.size ts J Jx ((W.alloc (.cells #[.slice a n c, F, .bool wh] 108)).alloc (.cells #[.int .i64 2, .int .i64 k, .int .i64 v] 92)) (stepsT wh fs n 2 k v) [] b W') := hF
  clear hF
  go_wp2
  go_end0
  exact ⟨⟨_, rfl⟩, b, Fin.kp (Kp.of_below HX.out HS.out.low.size) HF.out⟩

set_option maxRecDepth 100000 in
set_option maxHeartbeats 4000000 in
theorem words_3 (a : Option Addr) (n c : Nat) (F : Value) (wh : Bool) (k v : Int) (fs : List Int) (go : Ent → Bool) (ts : List TypeId) (J Jx : List Ent → World → Prop) (W0 W : World)
    (hG : Goes F wh a n c fs go W0 ts J Jx) (hB : Base W0 a n fs) (hW : Below W0.heap.size W0 W) (hJ : J [] W) (hk : 0 ≤ k ∧ k ≤ 3) :
    Calls Tryz.prog 66 #[.agg #[.slice a n c, F, .bool wh], .iface 93 (OpV 3 k v)] W fun e W' => (∃ v, e = .returned v) ∧ ∃ b, Fin wh go W0.heap.size ts J Jx W (stepsT wh fs n 3 k v) [] b W' := by
  have HG : Hid (Goes F wh a n c fs go W0 ts J Jx) := hG
  have HS : Hid (Sits W0.heap.size ts J a n fs W0 W W []) := ⟨hB, hW, hJ, Kp.of_below (Below.refl _ _) hW.size⟩
  clear hG hB hW hJ
  have t1 : ∀ w : World, (Instr.typeAssert (.iface 93 (OpV 3 k v)) 53 91 true).run Tryz.prog w = .ok (.tuple #[OpV 0 0 0, .bool false]) w := fun w => by kernel_rfl
  have t2 : ∀ w : World, (Instr.typeAssert (.iface 93 (OpV 3 k v)) 53 92 true).run Tryz.prog w = .ok (.tuple #[OpV 0 0 0, .bool false]) w := fun w => by kernel_rfl
  have t3 : ∀ w : World, (Instr.typeAssert (.iface 93 (OpV 3 k v)) 53 93 true).run Tryz.prog w = .ok (.tuple #[OpV 3 k v, .bool true]) w := fun w => by kernel_rfl
  have hX : Below W.heap.size W ((W.alloc (.cells #[.slice a n c, F, .bool wh] 108)).alloc (.cells #[.int .i64 3, .int .i64 k, .int .i64 v] 93)) := ((Below.refl _ _).alloc (Nat.le_refl _) _).alloc (by simp) _
  have HX : Hid (Below W.heap.size W ((W.alloc (.cells #[.slice a n c, F, .bool wh] 108)).alloc (.cells #[.int .i64 3, .int .i64 k, .int .i64 v] 93))) := hX
  clear hX
  go_enter Tryz.func66, Tryz.ntmps66
  go_wp2_with fail
  refine (del_any a n c F wh 3 k v fs go ts J Jx [] W0 _ HG.out HS.out.base (by decide) (HS.out.low.trans (HX.out.mono HS.out.low.size)) (HG.out.gj _ _ _ HS.out.j (far_below HX.out none)) hk).mono ?_
  rintro e W' ⟨b, rfl, hF⟩
  have HF : Hid (Fin wh go W0.heap.size ts J Jx ((W.alloc (.cells #[.slice a n c, F, .bool wh] 108)).alloc (.cells #[.int .i64 3, .int .i64 k, .int .i64 v] 93)) (stepsT wh fs n 3 k v) [] b W') := hF
  clear hF
  go_wp2
  go_end0
  exact ⟨⟨_, rfl⟩, b, Fin.kp (Kp.of_below HX.out HS.out.low.size) HF.out⟩

set_option maxRecDepth 100000 in
set_option maxHeartbeats 4000000 in
theorem words_4 (a : Option Addr) (n c : Nat) (F : Value) (wh : Bool) (k v : Int) (fs : List Int) (go : Ent → Bool) (ts : List TypeId) (J Jx : List Ent → World → Prop) (W0 W : World)
    (hG : Goes F wh a n c fs go W0 ts J Jx) (hB : Base W0 a n fs) (hW : Below W0.heap.size W0 W) (hJ : J [] W) :
    Calls Tryz.prog 66 #[.agg #[.slice a n c, F, .bool wh], .iface 94 (OpV 4 k v)] W fun e W' => (∃ v, e = .returned v) ∧ ∃ b, Fin wh go W0.heap.size ts J Jx W (stepsT wh fs n 4 k v) [] b W' := by
  have HG : Hid (Goes F wh a n c fs go W0 ts J Jx) := hG
  have HS : Hid (Sits W0.heap.size ts J a n fs W0 W W []) := ⟨hB, hW, hJ, Kp.of_below (Below.refl _ _) hW.size⟩
  clear hG hB hW hJ
  have t1 : ∀ w : World, (Instr.typeAssert (.iface 94 (OpV 4 k v)) 53 91 true).run Tryz.prog w = .ok (.tuple #[OpV 0 0 0, .bool false]) w := fun w => by kernel_rfl
  have t2 : ∀ w : World, (Instr.typeAssert (.iface 94 (OpV 4 k v)) 53 92 true).run Tryz.prog w = .ok (.tuple #[OpV 0 0 0, .bool false]) w := fun w => by kernel_rfl
  have t3 : ∀ w : World, (Instr.typeAssert (.iface 94 (OpV 4 k v)) 53 93 true).run Tryz.prog w = .ok (.tuple #[OpV 0 0 0, .bool false]) w := fun w => by kernel_rfl
  have t4 : ∀ w : World, (Instr.typeAssert (.iface 94 (OpV 4 k v)) 53 94 true).run Tryz.prog w = .ok (.tuple #[OpV 4 k v, .bool true]) w := fun w => by kernel_rfl
  have hX : Below W.heap.size W ((W.alloc (.cells #[.slice a n c, F, .bool wh] 108)).alloc (.cells #[.int .i64 4, .int .i64 k, .int .i64 v] 94)) := ((Below.refl _ _).alloc (Nat.le_refl _) _).alloc (by simp) _
  have HX : Hid (Below W.heap.size W ((W.alloc (.cells #[.slice a n c, F, .bool wh] 108)).alloc (.cells #[.int .i64 4, .int .i64 k, .int .i64 v] 94))) := hX
  clear hX
  go_enter Tryz.func66, Tryz.ntmps66
  go_wp2_with fail
  obtain ⟨wd, hwd⟩ : ∃ wd, ((W.alloc (.cells #[.slice a n c, F, .bool wh] 108)).alloc (.cells #[.int .i64 4, .int .i64 k, .int .i64 v] 94)).drew = wd := ⟨_, rfl⟩
  have hdd : Below W.heap.size W wd := by rw [← hwd]; exact HX.out.drew
  have HSd : Hid (Sits W0.heap.size ts J a n fs W0 W wd []) := HS.out.on HG.out.gj hdd
  have BT : Hid (wd.heap[W.heap.size]? = some (tellCells a n c F wh) ∧ wd.heap[W.heap.size + 1]? = some (.cells #[.int .i64 4, .int .i64 k, .int .i64 v] 94 (0, 0))) := by
    rw [← hwd]
    refine ⟨(Below.heap_alloc _ _ _ (by simp)).trans (World.alloc_heap_new W _), ?_⟩
    have := World.alloc_heap_new (W.alloc (.cells #[.slice a n c, F, .bool wh] 108)) (.cells #[.int .i64 4, .int .i64 k, .int .i64 v] 94); rw [World.size_alloc] at this; exact this
  have K0 : Hid (wd.cell? ⟨W.heap.size, 0, none⟩ = some (.slice a n c) ∧ wd.cell? ⟨W.heap.size, 1, none⟩ = some F ∧ wd.cell? ⟨W.heap.size, 2, none⟩ = some (.bool wh) ∧ wd.cell? ⟨W.heap.size + 1, 1, none⟩ = some (.int .i64 k)) := ⟨by simp [World.cell?, BT.out.1], by simp [World.cell?, BT.out.1], by simp [World.cell?, BT.out.1], by simp [World.cell?, BT.out.2]⟩
  clear hdd
  go_region_held3 (fun w' => w'.cell? ⟨W.heap.size, 0, none⟩ = some (.slice a n c) ∧ w'.cell? ⟨W.heap.size, 1, none⟩ = some F ∧ w'.cell? ⟨W.heap.size, 2, none⟩ = some (.bool wh) ∧ w'.cell? ⟨W.heap.size + 1, 1, none⟩ = some (.int .i64 k))
    (first | (with_reducible exact K2.out) | (with_reducible exact K1.out) | (with_reducible exact K0.out) | exact hwd ▸ K0.out | go_keep)
    (first
    | (go_at_call 86
       refine (implRowAt_any k _ (by first | exact HSd.out.names | exact hwd ▸ HSd.out.names)).mono ?_
       rintro e w1 ⟨rfl, hb1⟩
       have hb1' : Below wd.heap.size wd w1 := by first | exact hb1 | exact hwd ▸ hb1
       have HS1 : Hid (Sits W0.heap.size ts J a n fs W0 W w1 []) := HSd.out.on HG.out.gj hb1'
       have B1 : Hid (w1.heap[W.heap.size]? = some (tellCells a n c F wh) ∧ w1.heap[W.heap.size + 1]? = some (.cells #[.int .i64 4, .int .i64 k, .int .i64 v] 94 (0, 0))) := ⟨(hb1'.block _ (Array.getElem?_eq_some_iff.1 BT.out.1).1).trans BT.out.1, (hb1'.block _ (Array.getElem?_eq_some_iff.1 BT.out.2).1).trans BT.out.2⟩
       have K1 : Hid (w1.cell? ⟨W.heap.size, 0, none⟩ = some (.slice a n c) ∧ w1.cell? ⟨W.heap.size, 1, none⟩ = some F ∧ w1.cell? ⟨W.heap.size, 2, none⟩ = some (.bool wh) ∧ w1.cell? ⟨W.heap.size + 1, 1, none⟩ = some (.int .i64 k)) := ⟨by simp [World.cell?, B1.out.1], by simp [World.cell?, B1.out.1], by simp [World.cell?, B1.out.1], by simp [World.cell?, B1.out.2]⟩
       clear hb1 hb1')
    | (go_at_call 97
       refine (stays_any a n c F wh (placeN 1 k) fs go ts J Jx [] W0 _ HG.out HS1.out.base (by decide) HS1.out.low HS1.out.j).mono ?_
       rintro e w2 ⟨b, rfl, hF⟩
       have HF : Hid (Fin wh go W0.heap.size ts J Jx W [stayS fs n (placeN 1 k)] [] b w2) := Fin.kp HS1.out.kp hF
       have B2 : Hid (w2.heap[W.heap.size]? = some (tellCells a n c F wh) ∧ w2.heap[W.heap.size + 1]? = some (.cells #[.int .i64 4, .int .i64 k, .int .i64 v] 94 (0, 0))) := ⟨hF.kx.keep _ _ _ _ B1.out.1 (HG.out.tt _ (by simp)), hF.kx.keep _ _ _ _ B1.out.2 (HG.out.tt _ (by simp))⟩
       have K2 : Hid (w2.cell? ⟨W.heap.size, 0, none⟩ = some (.slice a n c) ∧ w2.cell? ⟨W.heap.size, 1, none⟩ = some F ∧ w2.cell? ⟨W.heap.size, 2, none⟩ = some (.bool wh) ∧ w2.cell? ⟨W.heap.size + 1, 1, none⟩ = some (.int .i64 k)) := ⟨by simp [World.cell?, B2.out.1], by simp [World.cell?, B2.out.1], by simp [World.cell?, B2.out.1], by simp [World.cell?, B2.out.2]⟩
       clear hF))
  go_wp2
  go_end0
  exact ⟨⟨_, rfl⟩, b, HF.out⟩

set_option maxRecDepth 100000 in
set_option maxHeartbeats 4000000 in
theorem words_5 (a : Option Addr) (n c : Nat) (F : Value) (wh : Bool) (k v : Int) (fs : List Int) (go : Ent → Bool) (ts : List TypeId) (J Jx : List Ent → World → Prop) (W0 W : World)
    (hG : Goes F wh a n c fs go W0 ts J Jx) (hB : Base W0 a n fs) (hW : Below W0.heap.size W0 W) (hJ : J [] W) :
    Calls Tryz.prog 66 #[.agg #[.slice a n c, F, .bool wh], .iface 95 (OpV 5 k v)] W fun e W' => (∃ v, e = .returned v) ∧ ∃ b, Fin wh go W0.heap.size ts J Jx W (stepsT wh fs n 5 k v) [] b W' := by
  have HG : Hid (Goes F wh a n c fs go W0 ts J Jx) := hG
  have HS : Hid (Sits W0.heap.size ts J a n fs W0 W W []) := ⟨hB, hW, hJ, Kp.of_below (Below.refl _ _) hW.size⟩
  clear hG hB hW hJ
  have t1 : ∀ w : World, (Instr.typeAssert (.iface 95 (OpV 5 k v)) 53 91 true).run Tryz.prog w = .ok (.tuple #[OpV 0 0 0, .bool false]) w := fun w => by kernel_rfl
  have t2 : ∀ w : World, (Instr.typeAssert (.iface 95 (OpV 5 k v)) 53 92 true).run Tryz.prog w = .ok (.tuple #[OpV 0 0 0, .bool false]) w := fun w => by kernel_rfl
  have t3 : ∀ w : World, (Instr.typeAssert (.iface 95 (OpV 5 k v)) 53 93 true).run Tryz.prog w = .ok (.tuple #[OpV 0 0 0, .bool false]) w := fun w => by kernel_rfl
  have t4 : ∀ w : World, (Instr.typeAssert (.iface 95 (OpV 5 k v)) 53 94 true).run Tryz.prog w = .ok (.tuple #[OpV 0 0 0, .bool false]) w := fun w => by kernel_rfl
  have t5 : ∀ w : World, (Instr.typeAssert (.iface 95 (OpV 5 k v)) 53 95 true).run Tryz.prog w = .ok (.tuple #[OpV 5 k v, .bool true]) w := fun w => by kernel_rfl
  have hX : Below W.heap.size W ((W.alloc (.cells #[.slice a n c, F, .bool wh] 108)).alloc (.cells #[.int .i64 5, .int .i64 k, .int .i64 v] 95)) := ((Below.refl _ _).alloc (Nat.le_refl _) _).alloc (by simp) _
  have HX : Hid (Below W.heap.size W ((W.alloc (.cells #[.slice a n c, F, .bool wh] 108)).alloc (.cells #[.int .i64 5, .int .i64 k, .int .i64 v] 95))) := hX
  clear hX
  go_enter Tryz.func66, Tryz.ntmps66
  go_wp2_with fail
  obtain ⟨wd, hwd⟩ : ∃ wd, ((W.alloc (.cells #[.slice a n c, F, .bool wh] 108)).alloc (.cells #[.int .i64 5, .int .i64 k, .int .i64 v] 95)).drew = wd := ⟨_, rfl⟩
  have hdd : Below W.heap.size W wd := by rw [← hwd]; exact HX.out.drew
  have HSd : Hid (Sits W0.heap.size ts J a n fs W0 W wd []) := HS.out.on HG.out.gj hdd
  have BT : Hid (wd.heap[W.heap.size]? = some (tellCells a n c F wh) ∧ wd.heap[W.heap.size + 1]? = some (.cells #[.int .i64 5, .int .i64 k, .int .i64 v] 95 (0, 0))) := by
    rw [← hwd]
    refine ⟨(Below.heap_alloc _ _ _ (by simp)).trans (World.alloc_heap_new W _), ?_⟩
    have := World.alloc_heap_new (W.alloc (.cells #[.slice a n c, F, .bool wh] 108)) (.cells #[.int .i64 5, .int .i64 k, .int .i64 v] 95); rw [World.size_alloc] at this; exact this
  have K0 : Hid (wd.cell? ⟨W.heap.size, 0, none⟩ = some (.slice a n c) ∧ wd.cell? ⟨W.heap.size, 1, none⟩ = some F ∧ wd.cell? ⟨W.heap.size, 2, none⟩ = some (.bool wh) ∧ wd.cell? ⟨W.heap.size + 1, 2, none⟩ = some (.int .i64 v)) := ⟨by simp [World.cell?, BT.out.1], by simp [World.cell?, BT.out.1], by simp [World.cell?, BT.out.1], by simp [World.cell?, BT.out.2]⟩
  clear hdd
  go_region_held3 (fun w' => w'.cell? ⟨W.heap.size, 0, none⟩ = some (.slice a n c) ∧ w'.cell? ⟨W.heap.size, 1, none⟩ = some F ∧ w'.cell? ⟨W.heap.size, 2, none⟩ = some (.bool wh) ∧ w'.cell? ⟨W.heap.size + 1, 2, none⟩ = some (.int .i64 v))
    (first | (with_reducible exact K2.out) | (with_reducible exact K1.out) | (with_reducible exact K0.out) | exact hwd ▸ K0.out | go_keep)
    (first
    | (go_at_call 87
       refine (implOwnerAt_any v _ (by first | exact HSd.out.names | exact hwd ▸ HSd.out.names)).mono ?_
       rintro e w1 ⟨rfl, hb1⟩
       have hb1' : Below wd.heap.size wd w1 := by first | exact hb1 | exact hwd ▸ hb1
       have HS1 : Hid (Sits W0.heap.size ts J a n fs W0 W w1 []) := HSd.out.on HG.out.gj hb1'
       have B1 : Hid (w1.heap[W.heap.size]? = some (tellCells a n c F wh) ∧ w1.heap[W.heap.size + 1]? = some (.cells #[.int .i64 5, .int .i64 k, .int .i64 v] 95 (0, 0))) := ⟨(hb1'.block _ (Array.getElem?_eq_some_iff.1 BT.out.1).1).trans BT.out.1, (hb1'.block _ (Array.getElem?_eq_some_iff.1 BT.out.2).1).trans BT.out.2⟩
       have K1 : Hid (w1.cell? ⟨W.heap.size, 0, none⟩ = some (.slice a n c) ∧ w1.cell? ⟨W.heap.size, 1, none⟩ = some F ∧ w1.cell? ⟨W.heap.size, 2, none⟩ = some (.bool wh) ∧ w1.cell? ⟨W.heap.size + 1, 2, none⟩ = some (.int .i64 v)) := ⟨by simp [World.cell?, B1.out.1], by simp [World.cell?, B1.out.1], by simp [World.cell?, B1.out.1], by simp [World.cell?, B1.out.2]⟩
       clear hb1 hb1')
    | (go_at_call 97
       refine (stays_any a n c F wh (placeN 2 v) fs go ts J Jx [] W0 _ HG.out HS1.out.base (by decide) HS1.out.low HS1.out.j).mono ?_
       rintro e w2 ⟨b, rfl, hF⟩
       have HF : Hid (Fin wh go W0.heap.size ts J Jx W [stayS fs n (placeN 2 v)] [] b w2) := Fin.kp HS1.out.kp hF
       have B2 : Hid (w2.heap[W.heap.size]? = some (tellCells a n c F wh) ∧ w2.heap[W.heap.size + 1]? = some (.cells #[.int .i64 5, .int .i64 k, .int .i64 v] 95 (0, 0))) := ⟨hF.kx.keep _ _ _ _ B1.out.1 (HG.out.tt _ (by simp)), hF.kx.keep _ _ _ _ B1.out.2 (HG.out.tt _ (by simp))⟩
       have K2 : Hid (w2.cell? ⟨W.heap.size, 0, none⟩ = some (.slice a n c) ∧ w2.cell? ⟨W.heap.size, 1, none⟩ = some F ∧ w2.cell? ⟨W.heap.size, 2, none⟩ = some (.bool wh) ∧ w2.cell? ⟨W.heap.size + 1, 2, none⟩ = some (.int .i64 v)) := ⟨by simp [World.cell?, B2.out.1], by simp [World.cell?, B2.out.1], by simp [World.cell?, B2.out.1], by simp [World.cell?, B2.out.2]⟩
       clear hF))
  go_wp2
  go_end0
  exact ⟨⟨_, rfl⟩, b, HF.out⟩

set_option maxRecDepth 100000 in
set_option maxHeartbeats 4000000 in
theorem words_6 (a : Option Addr) (n c : Nat) (F : Value) (wh : Bool) (k v : Int) (fs : List Int) (go : Ent → Bool) (ts : List TypeId) (J Jx : List Ent → World → Prop) (W0 W : World)
    (hG : Goes F wh a n c fs go W0 ts J Jx) (hB : Base W0 a n fs) (hW : Below W0.heap.size W0 W) (hJ : J [] W) :
    Calls Tryz.prog 66 #[.agg #[.slice a n c, F, .bool wh], .iface 96 (OpV 6 k v)] W fun e W' => (∃ v, e = .returned v) ∧ ∃ b, Fin wh go W0.heap.size ts J Jx W (stepsT wh fs n 6 k v) [] b W' := by
  have HG : Hid (Goes F wh a n c fs go W0 ts J Jx) := hG
  have HS : Hid (Sits W0.heap.size ts J a n fs W0 W W []) := ⟨hB, hW, hJ, Kp.of_below (Below.refl _ _) hW.size⟩
  clear hG hB hW hJ
  have t1 : ∀ w : World, (Instr.typeAssert (.iface 96 (OpV 6 k v)) 53 91 true).run Tryz.prog w = .ok (.tuple #[OpV 0 0 0, .bool false]) w := fun w => by kernel_rfl
  have t2 : ∀ w : World, (Instr.typeAssert (.iface 96 (OpV 6 k v)) 53 92 true).run Tryz.prog w = .ok (.tuple #[OpV 0 0 0, .bool false]) w := fun w => by kernel_rfl
  have t3 : ∀ w : World, (Instr.typeAssert (.iface 96 (OpV 6 k v)) 53 93 true).run Tryz.prog w = .ok (.tuple #[OpV 0 0 0, .bool false]) w := fun w => by kernel_rfl
  have t4 : ∀ w : World, (Instr.typeAssert (.iface 96 (OpV 6 k v)) 53 94 true).run Tryz.prog w = .ok (.tuple #[OpV 0 0 0, .bool false]) w := fun w => by kernel_rfl
  have t5 : ∀ w : World, (Instr.typeAssert (.iface 96 (OpV 6 k v)) 53 95 true).run Tryz.prog w = .ok (.tuple #[OpV 0 0 0, .bool false]) w := fun w => by kernel_rfl
  have t6 : ∀ w : World, (Instr.typeAssert (.iface 96 (OpV 6 k v)) 53 96 true).run Tryz.prog w = .ok (.tuple #[OpV 6 k v, .bool true]) w := fun w => by kernel_rfl
  have hX : Below W.heap.size W ((W.alloc (.cells #[.slice a n c, F, .bool wh] 108)).alloc (.cells #[.int .i64 6, .int .i64 k, .int .i64 v] 96)) := ((Below.refl _ _).alloc (Nat.le_refl _) _).alloc (by simp) _
  have HX : Hid (Below W.heap.size W ((W.alloc (.cells #[.slice a n c, F, .bool wh] 108)).alloc (.cells #[.int .i64 6, .int .i64 k, .int .i64 v] 96))) := hX
  clear hX
  go_enter Tryz.func66, Tryz.ntmps66
  go_wp2_with fail
  obtain ⟨wd, hwd⟩ : ∃ wd, ((W.alloc (.cells #[.slice a n c, F, .bool wh] 108)).alloc (.cells #[.int .i64 6, .int .i64 k, .int .i64 v] 96)).drew = wd := ⟨_, rfl⟩
  have hdd : Below W.heap.size W wd := by rw [← hwd]; exact HX.out.drew
  have HSd : Hid (Sits W0.heap.size ts J a n fs W0 W wd []) := HS.out.on HG.out.gj hdd
  have BT : Hid (wd.heap[W.heap.size]? = some (tellCells a n c F wh) ∧ wd.heap[W.heap.size + 1]? = some (.cells #[.int .i64 6, .int .i64 k, .int .i64 v] 96 (0, 0))) := by
    rw [← hwd]
    refine ⟨(Below.heap_alloc _ _ _ (by simp)).trans (World.alloc_heap_new W _), ?_⟩
    have := World.alloc_heap_new (W.alloc (.cells #[.slice a n c, F, .bool wh] 108)) (.cells #[.int .i64 6, .int .i64 k, .int .i64 v] 96); rw [World.size_alloc] at this; exact this
  have K0 : Hid (wd.cell? ⟨W.heap.size, 0, none⟩ = some (.slice a n c) ∧ wd.cell? ⟨W.heap.size, 1, none⟩ = some F ∧ wd.cell? ⟨W.heap.size, 2, none⟩ = some (.bool wh) ∧ wd.cell? ⟨W.heap.size + 1, 1, none⟩ = some (.int .i64 k)) := ⟨by simp [World.cell?, BT.out.1], by simp [World.cell?, BT.out.1], by simp [World.cell?, BT.out.1], by simp [World.cell?, BT.out.2]⟩
  clear hdd
  go_region_held3 (fun w' => w'.cell? ⟨W.heap.size, 0, none⟩ = some (.slice a n c) ∧ w'.cell? ⟨W.heap.size, 1, none⟩ = some F ∧ w'.cell? ⟨W.heap.size, 2, none⟩ = some (.bool wh) ∧ w'.cell? ⟨W.heap.size + 1, 1, none⟩ = some (.int .i64 k))
    (first | (with_reducible exact K2.out) | (with_reducible exact K1.out) | (with_reducible exact K0.out) | exact hwd ▸ K0.out | go_keep)
    (first
    | (go_at_call 59
       refine (implCountAt_any k _ (by first | exact HSd.out.names | exact hwd ▸ HSd.out.names)).mono ?_
       rintro e w1 ⟨rfl, hb1⟩
       have hb1' : Below wd.heap.size wd w1 := by first | exact hb1 | exact hwd ▸ hb1
       have HS1 : Hid (Sits W0.heap.size ts J a n fs W0 W w1 []) := HSd.out.on HG.out.gj hb1'
       have B1 : Hid (w1.heap[W.heap.size]? = some (tellCells a n c F wh) ∧ w1.heap[W.heap.size + 1]? = some (.cells #[.int .i64 6, .int .i64 k, .int .i64 v] 96 (0, 0))) := ⟨(hb1'.block _ (Array.getElem?_eq_some_iff.1 BT.out.1).1).trans BT.out.1, (hb1'.block _ (Array.getElem?_eq_some_iff.1 BT.out.2).1).trans BT.out.2⟩
       have K1 : Hid (w1.cell? ⟨W.heap.size, 0, none⟩ = some (.slice a n c) ∧ w1.cell? ⟨W.heap.size, 1, none⟩ = some F ∧ w1.cell? ⟨W.heap.size, 2, none⟩ = some (.bool wh) ∧ w1.cell? ⟨W.heap.size + 1, 1, none⟩ = some (.int .i64 k)) := ⟨by simp [World.cell?, B1.out.1], by simp [World.cell?, B1.out.1], by simp [World.cell?, B1.out.1], by simp [World.cell?, B1.out.2]⟩
       clear hb1 hb1')
    | (go_at_call 97
       refine (stays_any a n c F wh (placeN 3 k) fs go ts J Jx [] W0 _ HG.out HS1.out.base (by decide) HS1.out.low HS1.out.j).mono ?_
       rintro e w2 ⟨b, rfl, hF⟩
       have HF : Hid (Fin wh go W0.heap.size ts J Jx W [stayS fs n (placeN 3 k)] [] b w2) := Fin.kp HS1.out.kp hF
       have B2 : Hid (w2.heap[W.heap.size]? = some (tellCells a n c F wh) ∧ w2.heap[W.heap.size + 1]? = some (.cells #[.int .i64 6, .int .i64 k, .int .i64 v] 96 (0, 0))) := ⟨hF.kx.keep _ _ _ _ B1.out.1 (HG.out.tt _ (by simp)), hF.kx.keep _ _ _ _ B1.out.2 (HG.out.tt _ (by simp))⟩
       have K2 : Hid (w2.cell? ⟨W.heap.size, 0, none⟩ = some (.slice a n c) ∧ w2.cell? ⟨W.heap.size, 1, none⟩ = some F ∧ w2.cell? ⟨W.heap.size, 2, none⟩ = some (.bool wh) ∧ w2.cell? ⟨W.heap.size + 1, 1, none⟩ = some (.int .i64 k)) := ⟨by simp [World.cell?, B2.out.1], by simp [World.cell?, B2.out.1], by simp [World.cell?, B2.out.1], by simp [World.cell?, B2.out.2]⟩
       clear hF))
  go_wp2
  go_end0
  exact ⟨⟨_, rfl⟩, b, HF.out⟩

set_option maxRecDepth 100000 in
set_option maxHeartbeats 4000000 in
theorem words_7 (a : Option Addr) (n c : Nat) (F : Value) (wh : Bool) (k v : Int) (fs : List Int) (go : Ent → Bool) (ts : List TypeId) (J Jx : List Ent → World → Prop) (W0 W : World)
    (hG : Goes F wh a n c fs go W0 ts J Jx) (hB : Base W0 a n fs) (hW : Below W0.heap.size W0 W) (hJ : J [] W) :
    Calls Tryz.prog 66 #[.agg #[.slice a n c, F, .bool wh], .iface 97 (OpV 7 k v)] W fun e W' => (∃ v, e = .returned v) ∧ ∃ b, Fin wh go W0.heap.size ts J Jx W (stepsT wh fs n 7 k v) [] b W' := by
  have HG : Hid (Goes F wh a n c fs go W0 ts J Jx) := hG
  have HS : Hid (Sits W0.heap.size ts J a n fs W0 W W []) := ⟨hB, hW, hJ, Kp.of_below (Below.refl _ _) hW.size⟩
  clear hG hB hW hJ
  have t1 : ∀ w : World, (Instr.typeAssert (.iface 97 (OpV 7 k v)) 53 91 true).run Tryz.prog w = .ok (.tuple #[OpV 0 0 0, .bool false]) w := fun w => by kernel_rfl
  have t2 : ∀ w : World, (Instr.typeAssert (.iface 97 (OpV 7 k v)) 53 92 true).run Tryz.prog w = .ok (.tuple #[OpV 0 0 0, .bool false]) w := fun w => by kernel_rfl
  have t3 : ∀ w : World, (Instr.typeAssert (.iface 97 (OpV 7 k v)) 53 93 true).run Tryz.prog w = .ok (.tuple #[OpV 0 0 0, .bool false]) w := fun w => by kernel_rfl
  have t4 : ∀ w : World, (Instr.typeAssert (.iface 97 (OpV 7 k v)) 53 94 true).run Tryz.prog w = .ok (.tuple #[OpV 0 0 0, .bool false]) w := fun w => by kernel_rfl
  have t5 : ∀ w : World, (Instr.typeAssert (.iface 97 (OpV 7 k v)) 53 95 true).run Tryz.prog w = .ok (.tuple #[OpV 0 0 0, .bool false]) w := fun w => by kernel_rfl
  have t6 : ∀ w : World, (Instr.typeAssert (.iface 97 (OpV 7 k v)) 53 96 true).run Tryz.prog w = .ok (.tuple #[OpV 0 0 0, .bool false]) w := fun w => by kernel_rfl
  have t7 : ∀ w : World, (Instr.typeAssert (.iface 97 (OpV 7 k v)) 53 97 true).run Tryz.prog w = .ok (.tuple #[OpV 7 k v, .bool true]) w := fun w => by kernel_rfl
  have hX : Below W.heap.size W ((W.alloc (.cells #[.slice a n c, F, .bool wh] 108)).alloc (.cells #[.int .i64 7, .int .i64 k, .int .i64 v] 97)) := ((Below.refl _ _).alloc (Nat.le_refl _) _).alloc (by simp) _
  have HX : Hid (Below W.heap.size W ((W.alloc (.cells #[.slice a n c, F, .bool wh] 108)).alloc (.cells #[.int .i64 7, .int .i64 k, .int .i64 v] 97))) := hX
  clear hX
  go_enter Tryz.func66, Tryz.ntmps66
  go_wp2_with fail
  refine (scan_any a n c F wh fs go ts J Jx [] W0 _ HG.out HS.out.base (by decide) (HS.out.low.trans (HX.out.mono HS.out.low.size)) (HG.out.gj _ _ _ HS.out.j (far_below HX.out none))).mono ?_
  rintro e W' ⟨b, rfl, hF⟩
  have HF : Hid (Fin wh go W0.heap.size ts J Jx ((W.alloc (.cells #[.slice a n c, F, .bool wh] 108)).alloc (.cells #[.int .i64 7, .int .i64 k, .int .i64 v] 97)) (stepsT wh fs n 7 k v) [] b W') := hF
  clear hF
  go_wp2
  go_end0
  exact ⟨⟨_, rfl⟩, b, Fin.kp (Kp.of_below HX.out HS.out.low.size) HF.out⟩

set_option maxRecDepth 100000 in
set_option maxHeartbeats 4000000 in
theorem words_8 (a : Option Addr) (n c : Nat) (F : Value) (wh : Bool) (k v : Int) (fs : List Int) (go : Ent → Bool) (ts : List TypeId) (J Jx : List Ent → World → Prop) (W0 W : World)
    (hG : Goes F wh a n c fs go W0 ts J Jx) (hB : Base W0 a n fs) (hW : Below W0.heap.size W0 W) (hJ : J [] W) :
    Calls Tryz.prog 66 #[.agg #[.slice a n c, F, .bool wh], .iface 98 (OpV 8 k v)] W fun e W' => (∃ v, e = .returned v) ∧ ∃ b, Fin wh go W0.heap.size ts J Jx W (stepsT wh fs n 8 k v) [] b W' := by
  have HG : Hid (Goes F wh a n c fs go W0 ts J Jx) := hG
  have HS : Hid (Sits W0.heap.size ts J a n fs W0 W W []) := ⟨hB, hW, hJ, Kp.of_below (Below.refl _ _) hW.size⟩
  clear hG hB hW hJ
  have t1 : ∀ w : World, (Instr.typeAssert (.iface 98 (OpV 8 k v)) 53 91 true).run Tryz.prog w = .ok (.tuple #[OpV 0 0 0, .bool false]) w := fun w => by kernel_rfl
  have t2 : ∀ w : World, (Instr.typeAssert (.iface 98 (OpV 8 k v)) 53 92 true).run Tryz.prog w = .ok (.tuple #[OpV 0 0 0, .bool false]) w := fun w => by kernel_rfl
  have t3 : ∀ w : World, (Instr.typeAssert (.iface 98 (OpV 8 k v)) 53 93 true).run Tryz.prog w = .ok (.tuple #[OpV 0 0 0, .bool false]) w := fun w => by kernel_rfl
  have t4 : ∀ w : World, (Instr.typeAssert (.iface 98 (OpV 8 k v)) 53 94 true).run Tryz.prog w = .ok (.tuple #[OpV 0 0 0, .bool false]) w := fun w => by kernel_rfl
  have t5 : ∀ w : World, (Instr.typeAssert (.iface 98 (OpV 8 k v)) 53 95 true).run Tryz.prog w = .ok (.tuple #[OpV 0 0 0, .bool false]) w := fun w => by kernel_rfl
  have t6 : ∀ w : World, (Instr.typeAssert (.iface 98 (OpV 8 k v)) 53 96 true).run Tryz.prog w = .ok (.tuple #[OpV 0 0 0, .bool false]) w := fun w => by kernel_rfl
  have t7 : ∀ w : World, (Instr.typeAssert (.iface 98 (OpV 8 k v)) 53 97 true).run Tryz.prog w = .ok (.tuple #[OpV 0 0 0, .bool false]) w := fun w => by kernel_rfl
  have t8 : ∀ w : World, (Instr.typeAssert (.iface 98 (OpV 8 k v)) 53 98 true).run Tryz.prog w = .ok (.tuple #[OpV 8 k v, .bool true]) w := fun w => by kernel_rfl
  have hX : Below W.heap.size W ((W.alloc (.cells #[.slice a n c, F, .bool wh] 108)).alloc (.cells #[.int .i64 8, .int .i64 k, .int .i64 v] 98)) := ((Below.refl _ _).alloc (Nat.le_refl _) _).alloc (by simp) _
  have HX : Hid (Below W.heap.size W ((W.alloc (.cells #[.slice a n c, F, .bool wh] 108)).alloc (.cells #[.int .i64 8, .int .i64 k, .int .i64 v] 98))) := hX
  clear hX
  go_enter Tryz.func66, Tryz.ntmps66
  go_wp2_with fail
  obtain ⟨wd, hwd⟩ : ∃ wd, ((W.alloc (.cells #[.slice a n c, F, .bool wh] 108)).alloc (.cells #[.int .i64 8, .int .i64 k, .int .i64 v] 98)).drew = wd := ⟨_, rfl⟩
  have hdd : Below W.heap.size W wd := by rw [← hwd]; exact HX.out.drew
  have HSd : Hid (Sits W0.heap.size ts J a n fs W0 W wd []) := HS.out.on HG.out.gj hdd
  have BT : Hid (wd.heap[W.heap.size]? = some (tellCells a n c F wh) ∧ wd.heap[W.heap.size + 1]? = some (.cells #[.int .i64 8, .int .i64 k, .int .i64 v] 98 (0, 0))) := by
    rw [← hwd]
    refine ⟨(Below.heap_alloc _ _ _ (by simp)).trans (World.alloc_heap_new W _), ?_⟩
    have := World.alloc_heap_new (W.alloc (.cells #[.slice a n c, F, .bool wh] 108)) (.cells #[.int .i64 8, .int .i64 k, .int .i64 v] 98); rw [World.size_alloc] at this; exact this
  have K0 : Hid (wd.cell? ⟨W.heap.size, 0, none⟩ = some (.slice a n c) ∧ wd.cell? ⟨W.heap.size, 1, none⟩ = some F ∧ wd.cell? ⟨W.heap.size, 2, none⟩ = some (.bool wh)) := ⟨by simp [World.cell?, BT.out.1], by simp [World.cell?, BT.out.1], by simp [World.cell?, BT.out.1]⟩
  clear hdd
  go_region_held3 (fun w' => w'.cell? ⟨W.heap.size, 0, none⟩ = some (.slice a n c) ∧ w'.cell? ⟨W.heap.size, 1, none⟩ = some F ∧ w'.cell? ⟨W.heap.size, 2, none⟩ = some (.bool wh))
    (first | (with_reducible exact K2.out) | (with_reducible exact K1.out) | (with_reducible exact K0.out) | exact hwd ▸ K0.out | go_keep)
    (first
    | (go_at_call 89
       refine (implStateAt_any _ (by first | exact HSd.out.names | exact hwd ▸ HSd.out.names)).mono ?_
       rintro e w1 ⟨rfl, hb1⟩
       have hb1' : Below wd.heap.size wd w1 := by first | exact hb1 | exact hwd ▸ hb1
       have HS1 : Hid (Sits W0.heap.size ts J a n fs W0 W w1 []) := HSd.out.on HG.out.gj hb1'
       have B1 : Hid (w1.heap[W.heap.size]? = some (tellCells a n c F wh) ∧ w1.heap[W.heap.size + 1]? = some (.cells #[.int .i64 8, .int .i64 k, .int .i64 v] 98 (0, 0))) := ⟨(hb1'.block _ (Array.getElem?_eq_some_iff.1 BT.out.1).1).trans BT.out.1, (hb1'.block _ (Array.getElem?_eq_some_iff.1 BT.out.2).1).trans BT.out.2⟩
       have K1 : Hid (w1.cell? ⟨W.heap.size, 0, none⟩ = some (.slice a n c) ∧ w1.cell? ⟨W.heap.size, 1, none⟩ = some F ∧ w1.cell? ⟨W.heap.size, 2, none⟩ = some (.bool wh)) := ⟨by simp [World.cell?, B1.out.1], by simp [World.cell?, B1.out.1], by simp [World.cell?, B1.out.1]⟩
       clear hb1 hb1')
    | (go_at_call 99
       refine (grows_any a n c F wh (13) fs go ts J Jx [] W0 _ HG.out HS1.out.base (by decide) HS1.out.low HS1.out.j).mono ?_
       rintro e w2 ⟨b, rfl, hF⟩
       have HF : Hid (Fin wh go W0.heap.size ts J Jx W [growS fs n (13)] [] b w2) := Fin.kp HS1.out.kp hF
       have B2 : Hid (w2.heap[W.heap.size]? = some (tellCells a n c F wh) ∧ w2.heap[W.heap.size + 1]? = some (.cells #[.int .i64 8, .int .i64 k, .int .i64 v] 98 (0, 0))) := ⟨hF.kx.keep _ _ _ _ B1.out.1 (HG.out.tt _ (by simp)), hF.kx.keep _ _ _ _ B1.out.2 (HG.out.tt _ (by simp))⟩
       have K2 : Hid (w2.cell? ⟨W.heap.size, 0, none⟩ = some (.slice a n c) ∧ w2.cell? ⟨W.heap.size, 1, none⟩ = some F ∧ w2.cell? ⟨W.heap.size, 2, none⟩ = some (.bool wh)) := ⟨by simp [World.cell?, B2.out.1], by simp [World.cell?, B2.out.1], by simp [World.cell?, B2.out.1]⟩
       clear hF))
  go_wp2
  go_end0
  exact ⟨⟨_, rfl⟩, b, HF.out⟩

set_option maxRecDepth 100000 in
set_option maxHeartbeats 4000000 in
theorem words_9 (a : Option Addr) (n c : Nat) (F : Value) (wh : Bool) (k v : Int) (fs : List Int) (go : Ent → Bool) (ts : List TypeId) (J Jx : List Ent → World → Prop) (W0 W : World)
    (hG : Goes F wh a n c fs go W0 ts J Jx) (hB : Base W0 a n fs) (hW : Below W0.heap.size W0 W) (hJ : J [] W) :
    Calls Tryz.prog 66 #[.agg #[.slice a n c, F, .bool wh], .iface 99 (OpV 9 k v)] W fun e W' => (∃ v, e = .returned v) ∧ ∃ b, Fin wh go W0.heap.size ts J Jx W (stepsT wh fs n 9 k v) [] b W' := by
  have HG : Hid (Goes F wh a n c fs go W0 ts J Jx) := hG
  have HS : Hid (Sits W0.heap.size ts J a n fs W0 W W []) := ⟨hB, hW, hJ, Kp.of_below (Below.refl _ _) hW.size⟩
  clear hG hB hW hJ
  have t1 : ∀ w : World, (Instr.typeAssert (.iface 99 (OpV 9 k v)) 53 91 true).run Tryz.prog w = .ok (.tuple #[OpV 0 0 0, .bool false]) w := fun w => by kernel_rfl
  have t2 : ∀ w : World, (Instr.typeAssert (.iface 99 (OpV 9 k v)) 53 92 true).run Tryz.prog w = .ok (.tuple #[OpV 0 0 0, .bool false]) w := fun w => by kernel_rfl
  have t3 : ∀ w : World, (Instr.typeAssert (.iface 99 (OpV 9 k v)) 53 93 true).run Tryz.prog w = .ok (.tuple #[OpV 0 0 0, .bool false]) w := fun w => by kernel_rfl
  have t4 : ∀ w : World, (Instr.typeAssert (.iface 99 (OpV 9 k v)) 53 94 true).run Tryz.prog w = .ok (.tuple #[OpV 0 0 0, .bool false]) w := fun w => by kernel_rfl
  have t5 : ∀ w : World, (Instr.typeAssert (.iface 99 (OpV 9 k v)) 53 95 true).run Tryz.prog w = .ok (.tuple #[OpV 0 0 0, .bool false]) w := fun w => by kernel_rfl
  have t6 : ∀ w : World, (Instr.typeAssert (.iface 99 (OpV 9 k v)) 53 96 true).run Tryz.prog w = .ok (.tuple #[OpV 0 0 0, .bool false]) w := fun w => by kernel_rfl
  have t7 : ∀ w : World, (Instr.typeAssert (.iface 99 (OpV 9 k v)) 53 97 true).run Tryz.prog w = .ok (.tuple #[OpV 0 0 0, .bool false]) w := fun w => by kernel_rfl
  have t8 : ∀ w : World, (Instr.typeAssert (.iface 99 (OpV 9 k v)) 53 98 true).run Tryz.prog w = .ok (.tuple #[OpV 0 0 0, .bool false]) w := fun w => by kernel_rfl
  have t9 : ∀ w : World, (Instr.typeAssert (.iface 99 (OpV 9 k v)) 53 99 true).run Tryz.prog w = .ok (.tuple #[OpV 9 k v, .bool true]) w := fun w => by kernel_rfl
  have hX : Below W.heap.size W ((W.alloc (.cells #[.slice a n c, F, .bool wh] 108)).alloc (.cells #[.int .i64 9, .int .i64 k, .int .i64 v] 99)) := ((Below.refl _ _).alloc (Nat.le_refl _) _).alloc (by simp) _
  have HX : Hid (Below W.heap.size W ((W.alloc (.cells #[.slice a n c, F, .bool wh] 108)).alloc (.cells #[.int .i64 9, .int .i64 k, .int .i64 v] 99))) := hX
  clear hX
  go_enter Tryz.func66, Tryz.ntmps66
  go_wp2_with fail
  refine (makeNext_any a n c F wh fs go ts J Jx [] W0 _ HG.out HS.out.base (by decide) (HS.out.low.trans (HX.out.mono HS.out.low.size)) (HG.out.gj _ _ _ HS.out.j (far_below HX.out none))).mono ?_
  rintro e W' ⟨b, rfl, hF⟩
  have HF : Hid (Fin wh go W0.heap.size ts J Jx ((W.alloc (.cells #[.slice a n c, F, .bool wh] 108)).alloc (.cells #[.int .i64 9, .int .i64 k, .int .i64 v] 99)) (stepsT wh fs n 9 k v) [] b W') := hF
  clear hF
  go_wp2
  go_end0
  exact ⟨⟨_, rfl⟩, b, Fin.kp (Kp.of_below HX.out HS.out.low.size) HF.out⟩

set_option maxRecDepth 100000 in
set_option maxHeartbeats 4000000 in
theorem words_10 (a : Option Addr) (n c : Nat) (F : Value) (wh : Bool) (k v : Int) (fs : List Int) (go : Ent → Bool) (ts : List TypeId) (J Jx : List Ent → World → Prop) (W0 W : World)
    (hG : Goes F wh a n c fs go W0 ts J Jx) (hB : Base W0 a n fs) (hW : Below W0.heap.size W0 W) (hJ : J [] W) :
    Calls Tryz.prog 66 #[.agg #[.slice a n c, F, .bool wh], .iface 100 (OpV 10 k v)] W fun e W' => (∃ v, e = .returned v) ∧ ∃ b, Fin wh go W0.heap.size ts J Jx W (stepsT wh fs n 10 k v) [] b W' := by
  have HG : Hid (Goes F wh a n c fs go W0 ts J Jx) := hG
  have HS : Hid (Sits W0.heap.size ts J a n fs W0 W W []) := ⟨hB, hW, hJ, Kp.of_below (Below.refl _ _) hW.size⟩
  clear hG hB hW hJ
  have t1 : ∀ w : World, (Instr.typeAssert (.iface 100 (OpV 10 k v)) 53 91 true).run Tryz.prog w = .ok (.tuple #[OpV 0 0 0, .bool false]) w := fun w => by kernel_rfl
  have t2 : ∀ w : World, (Instr.typeAssert (.iface 100 (OpV 10 k v)) 53 92 true).run Tryz.prog w = .ok (.tuple #[OpV 0 0 0, .bool false]) w := fun w => by kernel_rfl
  have t3 : ∀ w : World, (Instr.typeAssert (.iface 100 (OpV 10 k v)) 53 93 true).run Tryz.prog w = .ok (.tuple #[OpV 0 0 0, .bool false]) w := fun w => by kernel_rfl
  have t4 : ∀ w : World, (Instr.typeAssert (.iface 100 (OpV 10 k v)) 53 94 true).run Tryz.prog w = .ok (.tuple #[OpV 0 0 0, .bool false]) w := fun w => by kernel_rfl
  have t5 : ∀ w : World, (Instr.typeAssert (.iface 100 (OpV 10 k v)) 53 95 true).run Tryz.prog w = .ok (.tuple #[OpV 0 0 0, .bool false]) w := fun w => by kernel_rfl
  have t6 : ∀ w : World, (Instr.typeAssert (.iface 100 (OpV 10 k v)) 53 96 true).run Tryz.prog w = .ok (.tuple #[OpV 0 0 0, .bool false]) w := fun w => by kernel_rfl
  have t7 : ∀ w : World, (Instr.typeAssert (.iface 100 (OpV 10 k v)) 53 97 true).run Tryz.prog w = .ok (.tuple #[OpV 0 0 0, .bool false]) w := fun w => by kernel_rfl
  have t8 : ∀ w : World, (Instr.typeAssert (.iface 100 (OpV 10 k v)) 53 98 true).run Tryz.prog w = .ok (.tuple #[OpV 0 0 0, .bool false]) w := fun w => by kernel_rfl
  have t9 : ∀ w : World, (Instr.typeAssert (.iface 100 (OpV 10 k v)) 53 99 true).run Tryz.prog w = .ok (.tuple #[OpV 0 0 0, .bool false]) w := fun w => by kernel_rfl
  have t10 : ∀ w : World, (Instr.typeAssert (.iface 100 (OpV 10 k v)) 53 100 true).run Tryz.prog w = .ok (.tuple #[OpV 10 k v, .bool true]) w := fun w => by kernel_rfl
  have hX : Below W.heap.size W ((W.alloc (.cells #[.slice a n c, F, .bool wh] 108)).alloc (.cells #[.int .i64 10, .int .i64 k, .int .i64 v] 100)) := ((Below.refl _ _).alloc (Nat.le_refl _) _).alloc (by simp) _
  have HX : Hid (Below W.heap.size W ((W.alloc (.cells #[.slice a n c, F, .bool wh] 108)).alloc (.cells #[.int .i64 10, .int .i64 k, .int .i64 v] 100))) := hX
  clear hX
  go_enter Tryz.func66, Tryz.ntmps66
  go_wp2_with fail
  refine (findVia_any a n c F wh 10 k v fs go ts J Jx [] W0 _ HG.out HS.out.base (by decide) (HS.out.low.trans (HX.out.mono HS.out.low.size)) (HG.out.gj _ _ _ HS.out.j (far_below HX.out none))).mono ?_
  rintro e W' ⟨b, rfl, hF⟩
  have HF : Hid (Fin wh go W0.heap.size ts J Jx ((W.alloc (.cells #[.slice a n c, F, .bool wh] 108)).alloc (.cells #[.int .i64 10, .int .i64 k, .int .i64 v] 100)) (stepsT wh fs n 10 k v) [] b W') := hF
  clear hF
  go_wp2
  go_end0
  exact ⟨⟨_, rfl⟩, b, Fin.kp (Kp.of_below HX.out HS.out.low.size) HF.out⟩
end Go.Proofs.YtenlapppaimkkaeGreatDoor

/- Which word is next, by what is told of each op (no program). -/
namespace Go.Proofs.YtenlapppaimkkaeGreatDoor
open Go.ChangeShapes Go.WideShapes Go.ChangeAt Go.RowKit

/-- A word that was read. -/
def goR (fs : List Int) (n : Nat) (x : Ent) : Bool := (readF fs x.1 n).2
/-- The place of the first word that was not read; -1: there is none. -/
def firstR (fs : List Int) (n : Nat) : List Ent → Int
  | [] => -1
  | x :: t => if goR fs n x = true then firstR fs n t else x.1
theorem firstR_all {fs : List Int} {n : Nat} : ∀ {L : List Ent}, (∀ x ∈ L, goR fs n x = true) → firstR fs n L = -1
  | [], _ => rfl
  | x :: t, h => by rw [firstR, if_pos (h x (List.mem_cons_self ..))]; exact firstR_all (fun y hy => h y (List.mem_cons_of_mem _ hy))
theorem firstR_some {fs : List Int} {n : Nat} {x : Ent} {rest : List Ent} (hx : goR fs n x = false) : ∀ {L q : List Ent}, L = q ++ x :: rest → (∀ y ∈ q, goR fs n y = true) → firstR fs n L = x.1
  | _, [], e, _ => by rw [e]; rw [List.nil_append, firstR, if_neg (by rw [hx]; simp)]
  | _, y :: q, e, h => by
    rw [e, List.cons_append, firstR, if_pos (h y (List.mem_cons_self ..))]
    exact firstR_some hx rfl (fun z hz => h z (List.mem_cons_of_mem _ hz))
/-- Where one stands when a word is told. -/
theorem first_tell {fs : List Int} {n : Nat} (p o v : Int) (t : List Stp) : firstR fs n (wordsT false (.tell p o v :: t)) = if 0 ≤ p then (if (readF fs p n).2 = true then firstR fs n (wordsT false t) else p) else -1 := by
  rw [wordsT]
  by_cases hp : 0 ≤ p
  · rw [if_pos hp, if_pos hp]; rfl
  · rw [if_neg hp, if_neg hp]; rfl
theorem first_ask {fs : List Int} {n : Nat} (b : Bool) (t : List Stp) : firstR fs n (wordsT false (.ask b :: t)) = if b = true then firstR fs n (wordsT false t) else -1 := by
  rw [wordsT]
  by_cases hp : b = true
  · rw [if_pos hp, if_pos hp]
  · rw [if_neg hp, if_neg hp]; rfl
/-- One word of the specification's: known, or it stops there. -/
theorem know_go {fs : List Int} {n : Nat} {s : Work} (h : s.2 = false) {p : Int} (hp : 0 ≤ p) (hr : (readF fs p n).2 = true) : knowM fs n s p = (s, rd fs n p) := by
  unfold knowM
  rw [if_neg (by rw [h]; simp), if_neg (by rw [hr]; simp; omega), rd, if_neg (Int.not_lt.2 hp)]
theorem know_stop {fs : List Int} {n : Nat} {s : Work} (h : s.2 = false) {p : Int} (hr : (readF fs p n).2 = false ∨ p < 0) : knowM fs n s p = ((p, true), 0) := by
  unfold knowM
  rw [if_neg (by rw [h]; simp), if_pos hr]
theorem place_neg {m : Int} {k : Int} (h : ¬ 0 ≤ placeN m k) : placeN m k = -1 := by
  unfold placeN at h ⊢
  repeat' split at h
  all_goals first | omega | (repeat' split) <;> omega
/-- What a known word makes of the work, whatever it was. -/
theorem know_one {fs : List Int} {n : Nat} (p : Int) (hneg : ¬ 0 ≤ p → p = -1) (o v : Int) : (knowM fs n (-1, false) p).1.1 = firstR fs n (wordsT false [.tell p o v]) := by
  rw [first_tell]
  by_cases hp : 0 ≤ p
  · rw [if_pos hp]
    by_cases hr : (readF fs p n).2 = true
    · rw [if_pos hr, know_go rfl hp hr]; rfl
    · rw [if_neg hr, know_stop rfl (.inl (by simpa using hr))]
  · rw [if_neg hp, know_stop rfl (.inr (by omega))]; exact hneg hp
theorem know_on (fs : List Int) (n : Nat) (x p : Int) : knowM fs n (x, true) p = ((x, true), 0) := knowM_stop rfl p
theorem if_on (x : Int) (b : Prop) [Decidable b] : ifM (x, true) b = (x, true) := rfl
theorem if_off (x : Int) (b : Prop) [Decidable b] : ifM (x, false) b = (x, decide b) := by unfold ifM; simp
theorem via_on (fs : List Int) (n : Nat) (x k : Int) (vals : List Int) : viaM fs n (x, true) k vals = (x, true) := by
  unfold viaM
  rw [know_on]
  dsimp only
  split
  · induction vals with
    | nil => rfl
    | cons y t ih => rw [List.foldl_cons, know_on]; exact ih
  · rfl
/-- A word: it is known and told, or both stop at it. -/
theorem tell3 (fs : List Int) (n : Nat) (p : Int) (hneg : ¬ 0 ≤ p → p = -1) :
    ((∀ x : Int, knowM fs n (x, false) p = ((x, false), rd fs n p)) ∧ ∀ o v t, firstR fs n (wordsT false (.tell p o v :: t)) = firstR fs n (wordsT false t)) ∨
    ((∀ x : Int, knowM fs n (x, false) p = ((p, true), 0)) ∧ ∀ o v t, firstR fs n (wordsT false (.tell p o v :: t)) = p) := by
  by_cases hp : 0 ≤ p
  · by_cases hr : (readF fs p n).2 = true
    · exact .inl ⟨fun x => know_go rfl hp hr, fun o v t => by rw [first_tell, if_pos hp, if_pos hr]⟩
    · exact .inr ⟨fun x => know_stop rfl (.inl (by simpa using hr)), fun o v t => by rw [first_tell, if_pos hp, if_neg hr]⟩
  · exact .inr ⟨fun x => know_stop rfl (.inr (by omega)), fun o v t => by rw [first_tell, if_neg hp, hneg hp]⟩
theorem ask_yes {fs : List Int} {n : Nat} {b : Prop} [Decidable b] (h : b) (t : List Stp) : firstR fs n (wordsT false (.ask (decide b) :: t)) = firstR fs n (wordsT false t) := by rw [first_ask, if_pos (decide_eq_true h)]
theorem ask_no {fs : List Int} {n : Nat} {b : Prop} [Decidable b] (h : ¬ b) (t : List Stp) : firstR fs n (wordsT false (.ask (decide b) :: t)) = -1 := by rw [first_ask, if_neg (by rw [decide_eq_false h]; simp)]
theorem first_nil (fs : List Int) (n : Nat) : firstR fs n (wordsT false []) = -1 := rfl
/-- How far the other way is made, and what it tells. -/
theorem next_via (fs : List Int) (n : Nat) (k : Int) (vals : List (Int × Int)) :
    (viaM fs n (-1, false) k (vals.map (·.1))).1 = firstR fs n (wordsT false (stayS fs n 13 :: .ask (decide (k + 1 < rd fs n 13)) :: vals.map (fun x => becS fs n (placeN 5 x.1) x.2))) ∨ k + 1 < 0 := by
  by_cases hk : k + 1 < 0
  · exact .inr hk
  refine .inl ?_
  unfold viaM
  rcases tell3 fs n 13 (by omega) with ⟨a1, f1⟩ | ⟨a1, f1⟩
  · rw [a1, stayS, f1]
    dsimp only
    by_cases h : k + 1 < rd fs n 13
    · rw [if_pos h, ask_yes h]
      clear f1 a1
      induction vals with
      | nil => rfl
      | cons x t ih =>
        rw [List.map_cons, List.map_cons, List.foldl_cons, becS]
        rcases tell3 fs n (placeN 5 x.1) place_neg with ⟨a2, f2⟩ | ⟨a2, f2⟩
        · rw [a2, f2]; exact ih
        · rw [a2, f2]
          clear ih
          induction t with
          | nil => rfl
          | cons y t ih => rw [List.map_cons, List.foldl_cons, know_on]; exact ih
    · rw [if_neg h, ask_no h]
  · rw [a1, stayS, f1]
    dsimp only
    rw [if_neg hk]
theorem next_put (fs : List Int) (n : Nat) (k v : Int) (hk : 0 ≤ k) : (putM fs n k v).1 = firstR fs n (wordsT false (putS false fs n k v)) := by
  unfold putM putS becS growS
  rcases tell3 fs n (placeN 1 k) place_neg with ⟨a1, f1⟩ | ⟨a1, f1⟩
  · rw [a1, f1]
    by_cases h1 : rd fs n (placeN 1 k) = 0
    · rw [ask_yes h1]
      simp only [if_off, ne_eq, h1, not_true, decide_false]
      rcases tell3 fs n (placeN 2 v) place_neg with ⟨a2, f2⟩ | ⟨a2, f2⟩
      · rw [a2, f2]
        by_cases h2 : rd fs n (placeN 2 v) = 0
        · rw [ask_yes h2]
          simp only [if_off, h2, not_true, decide_false]
          rcases tell3 fs n (placeN 3 (classN v)) place_neg with ⟨a3, f3⟩ | ⟨a3, f3⟩
          · rw [a3, f3]
            rcases next_via fs n k [(v, k + 1)] with h | h
            · exact h
            · omega
          · rw [a3, f3]; simp only [via_on]
        · rw [ask_no h2]; simp only [if_off, h2, not_false_eq_true, decide_true, know_on, via_on]
      · rw [a2, f2]; simp only [if_on, know_on, via_on]
    · rw [ask_no h1]; simp only [if_off, if_on, ne_eq, h1, not_false_eq_true, decide_true, know_on, via_on]
  · rw [a1, f1]; simp only [if_on, know_on, via_on]
theorem next_del (fs : List Int) (n : Nat) (k : Int) (hk : 0 ≤ k) : (delM fs n k).1 = firstR fs n (wordsT false (delS false fs n k)) := by
  unfold delM delS becS shrinkS
  dsimp only
  rcases tell3 fs n (placeN 1 k) place_neg with ⟨a1, f1⟩ | ⟨a1, f1⟩
  · rw [a1, f1]
    dsimp only
    by_cases h1 : rd fs n (placeN 1 k) = 0
    · have e : placeN 2 (rd fs n (placeN 1 k)) = -1 := by rw [h1]; decide
      rw [first_tell, e, if_neg (by omega)]
      simp only [if_off, h1, decide_true, know_on, via_on]
    · simp only [if_off, h1, decide_false]
      rcases tell3 fs n (placeN 2 (rd fs n (placeN 1 k))) place_neg with ⟨a2, f2⟩ | ⟨a2, f2⟩
      · rw [a2, f2]
        rcases tell3 fs n (placeN 3 (classN (rd fs n (placeN 1 k)))) place_neg with ⟨a3, f3⟩ | ⟨a3, f3⟩
        · rw [a3, f3]
          rcases next_via fs n k [(rd fs n (placeN 1 k), 0)] with h | h
          · exact h
          · omega
        · rw [a3, f3]; simp only [via_on]
      · rw [a2, f2]; simp only [know_on, via_on]
  · rw [a1, f1]; simp only [if_on, know_on, via_on]
theorem next_set (fs : List Int) (n : Nat) (k v : Int) (hk : 0 ≤ k) : (setM fs n k v).1 = firstR fs n (wordsT false (setS false fs n k v)) := by
  unfold setM setS becS moveS shrinkS growS
  dsimp only [List.cons_append, List.nil_append]
  rcases tell3 fs n (placeN 1 k) place_neg with ⟨a1, f1⟩ | ⟨a1, f1⟩
  · rw [a1, f1]
    dsimp only
    by_cases h1 : rd fs n (placeN 1 k) = 0
    · rw [ask_no (by simpa using h1)]
      simp only [if_off, if_on, h1, true_or, decide_true, know_on, via_on, ite_self]
    · rw [ask_yes h1]
      by_cases h2 : rd fs n (placeN 1 k) = v
      · rw [ask_no (by simpa using h2)]
        simp only [if_off, if_on, h2, or_true, decide_true, know_on, via_on, ite_self]
      · rw [ask_yes h2]
        simp only [if_off, h1, h2, or_self, decide_false]
        rcases tell3 fs n (placeN 2 v) place_neg with ⟨a2, f2⟩ | ⟨a2, f2⟩
        · rw [a2, f2]
          by_cases h3 : rd fs n (placeN 2 v) = 0
          · rw [ask_yes h3]
            simp only [if_off, h3, ne_eq, not_true, decide_false]
            rcases tell3 fs n (placeN 2 (rd fs n (placeN 1 k))) place_neg with ⟨a4, f4⟩ | ⟨a4, f4⟩
            · rw [a4, f4]
              have hv := next_via fs n k [(rd fs n (placeN 1 k), 0), (v, k + 1)]
              by_cases hc : classN (rd fs n (placeN 1 k)) = classN v
              · rw [if_pos hc, if_pos hc]
                rcases hv with h | h
                · exact h
                · omega
              · rw [if_neg hc, if_neg hc]
                dsimp only [List.cons_append, List.nil_append]
                rcases tell3 fs n (placeN 3 (classN (rd fs n (placeN 1 k)))) place_neg with ⟨a5, f5⟩ | ⟨a5, f5⟩
                · rw [a5, f5]
                  dsimp only
                  rcases tell3 fs n (placeN 3 (classN v)) place_neg with ⟨a6, f6⟩ | ⟨a6, f6⟩
                  · rw [a6, f6]
                    rcases hv with h | h
                    · exact h
                    · omega
                  · rw [a6, f6]; simp only [via_on]
                · rw [a5, f5]; simp only [know_on, via_on]
            · rw [a4, f4]; simp only [know_on, via_on, ite_self]
          · rw [ask_no h3]; simp only [if_off, h3, ne_eq, not_false_eq_true, decide_true, know_on, via_on, ite_self]
        · rw [a2, f2]; simp only [if_on, know_on, via_on, ite_self]
  · rw [a1, f1]; simp only [if_on, know_on, via_on, ite_self]
theorem next_make (fs : List Int) (n : Nat) (hw : (Lit.int .i64 (rd fs n 13)).wf = true) : (makeM fs n).1 = firstR fs n (wordsT false (makeS fs n)) := by
  unfold makeM makeS growS stayS becS
  dsimp only
  rcases tell3 fs n 13 (by omega) with ⟨a1, f1⟩ | ⟨a1, f1⟩
  · rw [a1, f1]
    dsimp only
    by_cases h1 : 1 ≤ rd fs n 13 ∧ rd fs n 13 ≤ 4
    · simp only [if_off, h1, and_self, not_true, decide_false]
      rw [show wrap64 (rd fs n 13 - 1) = rd fs n 13 - 1 by unfold wrap64; omega]
      rcases tell3 fs n (placeN 1 (rd fs n 13 - 1)) place_neg with ⟨a2, f2⟩ | ⟨a2, f2⟩
      · rw [a2, f2]
        dsimp only
        by_cases h2 : rd fs n (placeN 1 (rd fs n 13 - 1)) = 0
        · have e : placeN 5 (rd fs n (placeN 1 (rd fs n 13 - 1))) = -1 := by rw [h2]; decide
          rw [if_pos h2, first_tell, e, if_neg (by omega)]
        · rw [if_neg h2]
          exact know_one _ place_neg _ _
      · rw [a2, f2]; simp only [if_true]
    · simp only [if_off, h1, not_false_eq_true, decide_true, know_on, if_true]
      have e : placeN 1 (wrap64 (rd fs n 13 - 1)) = -1 := by
        have hl : -9223372036854775808 ≤ rd fs n 13 ∧ rd fs n 13 ≤ 9223372036854775807 := by simpa [Lit.wf, IntKind.min, IntKind.max, IntKind.signed, IntKind.bits] using hw
        have e1 : wrap64 (rd fs n 13 - 1) < 0 ∨ 3 < wrap64 (rd fs n 13 - 1) := by unfold wrap64; omega
        unfold placeN
        repeat' split
        all_goals omega
      rw [first_tell, e, if_neg (by omega)]
  · rw [a1, f1]
    simp only [if_on, know_on, if_true]
theorem next_viaOp (fs : List Int) (n : Nat) (v : Int) : ((knowM fs n (ifM (knowM fs n (-1, false) 13).1 ((knowM fs n (-1, false) 13).2 ≠ 5)) (placeN 5 v)).1).1 = firstR fs n (wordsT false (viaS fs n v)) := by
  unfold viaS stayS
  rcases tell3 fs n 13 (by omega) with ⟨a1, f1⟩ | ⟨a1, f1⟩
  · rw [a1, f1]
    dsimp only
    by_cases h1 : rd fs n 13 = 5
    · rw [ask_yes h1]
      simp only [if_off, h1, ne_eq, not_true, decide_false]
      exact know_one _ place_neg _ _
    · rw [ask_no h1]
      simp only [if_off, h1, ne_eq, not_false_eq_true, decide_true, know_on]
  · rw [a1, f1]; simp only [if_on, know_on]
theorem next_scan (fs : List Int) (n : Nat) : ((knowM fs n (knowM fs n (knowM fs n (knowM fs n (-1, false) (placeN 1 0)).1 (placeN 1 1)).1 (placeN 1 2)).1 (placeN 1 3)).1).1 = firstR fs n (wordsT false (scanS fs n)) := by
  unfold scanS stayS
  rcases tell3 fs n (placeN 1 0) place_neg with ⟨a1, f1⟩ | ⟨a1, f1⟩
  · rw [a1, f1]
    rcases tell3 fs n (placeN 1 1) place_neg with ⟨a2, f2⟩ | ⟨a2, f2⟩
    · rw [a2, f2]
      rcases tell3 fs n (placeN 1 2) place_neg with ⟨a3, f3⟩ | ⟨a3, f3⟩
      · rw [a3, f3]; exact know_one _ place_neg _ _
      · rw [a3, f3, know_on]
    · rw [a2, f2, know_on, know_on]
  · rw [a1, f1, know_on, know_on, know_on]
/-- Of every op that may be asked: the next word is the first that is told and was not read. -/
theorem next_words (fs : List Int) (n : Nat) (kind k v : Int) (hw : (Lit.int .i64 (rd fs n 13)).wf = true) (hg : OpGood kind k v) : nextM fs n kind k v = firstR fs n (wordsT false (stepsT false fs n kind k v)) := by
  unfold nextM allM stepsT
  rw [if_pos hg]
  by_cases h1 : kind = 1
  · rw [if_pos h1, if_pos h1]; exact next_put fs n k v (by subst h1; unfold OpGood KeyGood at hg; omega)
  rw [if_neg h1, if_neg h1]
  by_cases h2 : kind = 2
  · rw [if_pos h2, if_pos h2]; exact next_set fs n k v (by subst h2; unfold OpGood KeyGood at hg; omega)
  rw [if_neg h2, if_neg h2]
  by_cases h3 : kind = 3
  · rw [if_pos h3, if_pos h3]; exact next_del fs n k (by subst h3; unfold OpGood KeyGood at hg; omega)
  rw [if_neg h3, if_neg h3]
  by_cases h4 : kind = 4
  · rw [if_pos h4, if_pos h4]; exact know_one _ place_neg _ _
  rw [if_neg h4, if_neg h4]
  by_cases h5 : kind = 5
  · rw [if_pos h5, if_pos h5]; exact know_one _ place_neg _ _
  rw [if_neg h5, if_neg h5]
  by_cases h6 : kind = 6
  · rw [if_pos h6, if_pos h6]; exact know_one _ place_neg _ _
  rw [if_neg h6, if_neg h6]
  by_cases h7 : kind = 7
  · rw [if_pos h7, if_pos h7]; exact next_scan fs n
  rw [if_neg h7, if_neg h7]
  by_cases h8 : kind = 8
  · rw [if_pos h8, if_pos h8]; exact know_one _ (by omega) _ _
  rw [if_neg h8, if_neg h8]
  by_cases h9 : kind = 9
  · rw [if_pos h9, if_pos h9]; exact next_make fs n hw
  rw [if_neg h9, if_neg h9]
  exact next_viaOp fs n v
end Go.Proofs.YtenlapppaimkkaeGreatDoor

/- The program's Next: of every op and every list of pairs the place of the first word that is needed and was not read. -/
namespace Go.Proofs.YtenlapppaimkkaeGreatDoor
open Go.ChangeShapes Go.WideShapes Go.ChangeAt Go.RowKit Go.Shelf
attribute [local go_sem] Oper.semAt_some

/-- What a function value of the program has captured: the pairs and the deed. -/
structure Caught (a : Option Addr) (n c : Nat) (T : TypeId) (kind k v : Int) (Bg Bd : Nat) (W : World) : Prop where
  got : W.cell? ⟨Bg, 0, none⟩ = some (.slice a n c)
  deed : W.cell? ⟨Bd, 0, none⟩ = some (.iface T (OpV kind k v))
theorem words_any (a : Option Addr) (n c : Nat) (F : Value) (wh : Bool) (kind k v : Int) (fs : List Int) (go : Ent → Bool) (ts : List TypeId) (J Jx : List Ent → World → Prop) (W0 W : World)
    (hG : Goes F wh a n c fs go W0 ts J Jx) (hB : Base W0 a n fs) (hW : Below W0.heap.size W0 W) (hJ : J [] W) (hg : OpGood kind k v) :
    Calls Tryz.prog 66 #[.agg #[.slice a n c, F, .bool wh], .iface (deedT kind) (OpV kind k v)] W fun e W' => (∃ v, e = .returned v) ∧ ∃ b, Fin wh go W0.heap.size ts J Jx W (stepsT wh fs n kind k v) [] b W' := by
  have hkk : kind ≤ 3 → 0 ≤ k ∧ k ≤ 3 := fun h => by unfold OpGood KeyGood at hg; omega
  rcases kinds hg.1 with rfl | rfl | rfl | rfl | rfl | rfl | rfl | rfl | rfl | rfl
  · exact words_1 a n c F wh k v fs go ts J Jx W0 W hG hB hW hJ (hkk (by omega))
  · exact words_2 a n c F wh k v fs go ts J Jx W0 W hG hB hW hJ (hkk (by omega))
  · exact words_3 a n c F wh k v fs go ts J Jx W0 W hG hB hW hJ (hkk (by omega))
  · exact words_4 a n c F wh k v fs go ts J Jx W0 W hG hB hW hJ
  · exact words_5 a n c F wh k v fs go ts J Jx W0 W hG hB hW hJ
  · exact words_6 a n c F wh k v fs go ts J Jx W0 W hG hB hW hJ
  · exact words_7 a n c F wh k v fs go ts J Jx W0 W hG hB hW hJ
  · exact words_8 a n c F wh k v fs go ts J Jx W0 W hG hB hW hJ
  · exact words_9 a n c F wh k v fs go ts J Jx W0 W hG hB hW hJ
  · exact words_10 a n c F wh k v fs go ts J Jx W0 W hG hB hW hJ

set_option maxRecDepth 100000 in
set_option maxHeartbeats 2000000 in
theorem needed1_any (a : Option Addr) (n c l Bg Bd : Nat) (kind k v : Int) (fs : List Int) (go : Ent → Bool) (ts : List TypeId) (J Jx : List Ent → World → Prop) (W0 W : World)
    (hG : Goes (.func (.yield l) #[] #[]) false a n c fs go W0 ts J Jx) (hB : Base W0 a n fs) (hW : Below W0.heap.size W0 W) (hJ : J [] W) (hC : Caught a n c (deedT kind) kind k v Bg Bd W) (hg : OpGood kind k v) :
    Calls Tryz.prog 84 #[.func (.yield l) #[] #[], .pointer (some ⟨Bg, 0, none⟩), .pointer (some ⟨Bd, 0, none⟩)] W fun e W' => (∃ v, e = .returned v) ∧ ∃ b, Fin false go W0.heap.size ts J Jx W (stepsT false fs n kind k v) [] b W' := by
  have HG : Hid (Goes (.func (.yield l) #[] #[]) false a n c fs go W0 ts J Jx ∧ Base W0 a n fs ∧ Below W0.heap.size W0 W ∧ J [] W ∧ OpGood kind k v) := ⟨hG, hB, hW, hJ, hg⟩
  obtain ⟨c0, c1⟩ := hC
  clear hG hB hW hJ hg
  go_enter Tryz.func84, Tryz.ntmps84
  go_wp2_with fail
  refine (words_any a n c _ false kind k v fs go ts J Jx W0 W HG.out.1 HG.out.2.1 HG.out.2.2.1 HG.out.2.2.2.1 HG.out.2.2.2.2).mono ?_
  rintro e W' ⟨⟨r, rfl⟩, b, hF⟩
  have HF : Hid (Fin false go W0.heap.size ts J Jx W (stepsT false fs n kind k v) [] b W') := hF
  clear hF
  go_wp2
  go_end0
  exact ⟨⟨_, rfl⟩, b, HF.out⟩
/-- The function value tells the op's words. -/
theorem words_seq (a : Option Addr) (n c Bg Bd : Nat) (kind k v : Int) (fs : List Int) (go : Ent → Bool) (ts : List TypeId) (w : World) (hB : Base w a n fs) (hC : Caught a n c (deedT kind) kind k v Bg Bd w) (hg : OpGood kind k v)
    (ht : ∀ t ∈ [108, 91, 92, 93, 100, 94, 95, 96, 98, 53, 29], t ∉ ts) :
    SeqGo Tryz.prog 84 #[.pointer (some ⟨Bg, 0, none⟩), .pointer (some ⟨Bd, 0, none⟩)] encE go w.heap.size ts (wordsT false (stepsT false fs n kind k v)) w := fun l J Jx W hW hj hx hR h0 => by
  have lg : Bg < w.heap.size := World.block_lt_of_cell? w _ hC.got
  have ld : Bd < w.heap.size := World.block_lt_of_cell? w _ hC.deed
  refine (needed1_any a n c l Bg Bd kind k v fs go ts J Jx w W ⟨fun p x pre X hl hX hJX => becomes_yield a n c l false p x fs go ts J Jx pre w X hR hj hB hl hX hJX, hj, hx, ht⟩ hB hW h0 ⟨(hW.cell (p := ⟨Bg, 0, none⟩) lg).trans hC.got, (hW.cell (p := ⟨Bd, 0, none⟩) ld).trans hC.deed⟩ hg).mono ?_
  rintro e W' ⟨he, b, hF⟩
  exact ⟨he, fun ha => by simpa using fin_all hF ha, fun pre x rest e1 e2 e3 => by simpa using fin_some e3 hF e1 e2⟩

set_option maxHeartbeats 1000000 in
theorem neededOf_any (a : Option Addr) (n c : Nat) (d : Value) (T : TypeId) (x : Value) (hd : d = .iface T x) (w : World) :
    Calls Tryz.prog 53 #[d, .slice a n c] w fun e w' => e = .returned (.func (.func 84) #[] #[.pointer (some ⟨w.heap.size + 1, 0, none⟩), .pointer (some ⟨w.heap.size, 0, none⟩)]) ∧
      w' = (w.alloc (.cells #[d] 53)).alloc (.cells #[.slice a n c] 29) := by
  subst hd
  go_enter Tryz.func53, Tryz.ntmps53
  go_wp2
  go_ret
  exact ⟨rfl, rfl⟩

/-- A struct of three numbers lies in a box. -/
def Box3 (W : World) (B : Nat) (t : TypeId) (x : Ent) : Prop := W.heap[B]? = some (.cells #[.int .i64 x.1, .int .i64 x.2.1, .int .i64 x.2.2] t (0, 0))
theorem Box3.fst {W : World} {B : Nat} {t : TypeId} {x : Ent} (h : Box3 W B t x) : W.cell? ⟨B, 0, none⟩ = some (.int .i64 x.1) := by simp [World.cell?, show W.heap[B]? = _ from h]
theorem box3_own {β : Type} (B : Nat) (t : TypeId) (x : Ent) : Own (fun (_ : β) W => Box3 W B t x) := fun s X Y row hs hg hrow =>
  (hg.block B (Array.getElem?_eq_some_iff.1 hs).1 (fun e' => by obtain ⟨o, ho, hc⟩ := hrow B e'.symm; rw [show X.heap[B]? = _ from hs] at ho; cases ho; cases hc)).trans hs
theorem rd_wf {fs : List Int} {n : Nat} (h : ∀ x ∈ fs, (Lit.int .i64 x).wf = true) (p : Int) : (Lit.int .i64 (rd fs n p)).wf = true := by
  unfold rd
  split
  · decide
  induction n with
  | zero => show (Lit.int .i64 0).wf = true; decide
  | succ n ih =>
    show (Lit.int .i64 (if _ then _ else _ : Int × Bool).1).wf = true
    split
    · show (Lit.int .i64 (fs.getD (n * 2 + 1) 0)).wf = true
      by_cases hl : n * 2 + 1 < fs.length
      · rw [List.getD_eq_getElem?_getD, List.getElem?_eq_getElem hl]; exact h _ (List.getElem_mem hl)
      · rw [List.getD_eq_getElem?_getD, List.getElem?_eq_none (by omega)]; decide
    · exact ih

set_option maxRecDepth 100000 in
set_option maxHeartbeats 4000000 in
theorem implNext_cap (a : Option Addr) (n c : Nat) (kind k v : Int) (fs : List Int) (w : World) (hN : Names w) (hP : PairAt w a n fs) (hx : ∀ x ∈ fs, (Lit.int .i64 x).wf = true) :
    Calls Tryz.prog 18 #[OpV kind k v, .slice a n c] w fun e w' => e = .returned (.int .i64 (nextM fs n kind k v)) ∧ Below w.heap.size w w' := by
  have HB : Hid (Base w a n fs) := ⟨hN, hP⟩
  have HW : Hid (∀ x ∈ fs, (Lit.int .i64 x).wf = true) := hx
  clear hN hP hx
  obtain ⟨res, hres⟩ : ∃ r, nextM fs n kind k v = r := ⟨_, rfl⟩
  have HR : Hid (nextM fs n kind k v = res) := hres
  rw [hres]
  clear hres
  refine (callsIn_wide (n := 3)).1 (callsIn_of_wp_marks Tryz.func18 rfl trivial (wpIn_wide.2 ?_) rfl)
  simp only [Tryz.ntmps18, List.size_toArray, List.length_cons, List.length_nil, Nat.reduceAdd, Nat.reduceSub, Array.replicate_succ, Array.replicate_zero, List.push_toArray, List.append_toArray, List.nil_append, List.cons_append]
  obtain ⟨wa, hwa⟩ : ∃ wa, ((w.alloc (.cells #[.int .i64 kind, .int .i64 k, .int .i64 v] 28)).alloc (.cells #[.slice a n c] 29)).alloc (.cells #[.int .i64 0] 3) = wa := ⟨_, rfl⟩
  have sa : wa.heap.size = w.heap.size + 3 := by rw [← hwa]; simp
  have ba : Below w.heap.size w wa := by rw [← hwa]; exact (((Below.refl _ w).alloc (Nat.le_refl _) _).alloc (by simp) _).alloc (by simp; omega) _
  have x0 : wa.heap[w.heap.size]? = some (.cells #[.int .i64 kind, .int .i64 k, .int .i64 v] 28 (0, 0)) := by
    rw [← hwa]; exact ((Below.heap_alloc _ _ _ (by simp; omega)).trans (Below.heap_alloc _ _ _ (by simp))).trans (World.alloc_heap_new w _)
  have x1 : Boxed wa (w.heap.size + 1) 29 (.slice a n c) := by
    rw [← hwa]; have := Boxed.new (w.alloc (.cells #[.int .i64 kind, .int .i64 k, .int .i64 v] 28)) 29 (.slice a n c); rw [World.size_alloc] at this; exact this.alloc _
  have x2 : Boxed wa (w.heap.size + 1 + 1) 3 (.int .i64 0) := by
    rw [← hwa]; have := Boxed.new ((w.alloc (.cells #[.int .i64 kind, .int .i64 k, .int .i64 v] 28)).alloc (.cells #[.slice a n c] 29)) 3 (.int .i64 0); rw [World.size_alloc, World.size_alloc] at this; exact this
  have HA : Hid (wa.heap.size = w.heap.size + 3 ∧ Below w.heap.size w wa ∧ wa.heap[w.heap.size]? = some (.cells #[.int .i64 kind, .int .i64 k, .int .i64 v] 28 (0, 0)) ∧ Boxed wa (w.heap.size + 1) 29 (.slice a n c) ∧ Boxed wa (w.heap.size + 1 + 1) 3 (.int .i64 0)) := ⟨sa, ba, x0, x1, x2⟩
  have c0 : wa.cell? ⟨w.heap.size, 0, none⟩ = some (.int .i64 kind) := by simp [World.cell?, x0]
  have c1 : wa.cell? ⟨w.heap.size, 1, none⟩ = some (.int .i64 k) := by simp [World.cell?, x0]
  have c2 : wa.cell? ⟨w.heap.size, 2, none⟩ = some (.int .i64 v) := by simp [World.cell?, x0]
  clear sa ba x0 x1 x2
  go_wp2_with fail
  refine (implOpOk_any kind k v _).mono ?_
  rintro e w1 ⟨rfl, hb1⟩
  have hb1' : Below wa.heap.size wa w1 := by first | exact hb1 | exact hwa ▸ hb1
  have HA1 : Hid (w.heap.size + 3 ≤ w1.heap.size ∧ Below w.heap.size w w1 ∧ w1.heap[w.heap.size]? = some (.cells #[.int .i64 kind, .int .i64 k, .int .i64 v] 28 (0, 0)) ∧ Boxed w1 (w.heap.size + 1) 29 (.slice a n c) ∧ Boxed w1 (w.heap.size + 1 + 1) 3 (.int .i64 0)) := by
    obtain ⟨g1, g2, g3, g4, g5⟩ := HA.out
    exact ⟨by have := hb1'.size; omega, g2.trans (hb1'.mono (by omega)), (hb1'.block _ (by omega)).trans g3, (hb1'.block _ (by omega)).trans g4, (hb1'.block _ (by omega)).trans g5⟩
  clear hb1 hb1' c0 c1 c2
  have r2 := HA1.out.2.2.2.2.cell
  have f2 := HA1.out.2.2.2.2.frozen
  by_cases hg : OpGood kind k v
  case neg =>
    rw [decide_eq_false hg]
    have HZ : Hid (res = -1) := by rw [← HR.out]; unfold nextM; exact if_neg hg
    clear hg
    go_wp2
    have g2 := (HA1.out.2.2.2.2.set (.int .i64 (-1))).cell
    refine ⟨.int .i64 (-1), by simp [results, Tryz.f18, go_sem, g2], by rw [HZ.out], HA1.out.2.1.setCell (p := ⟨w.heap.size + 1 + 1, 0, none⟩) (by simp; omega) _⟩
  rw [decide_eq_true hg]
  have HG : Hid (OpGood kind k v) := hg
  clear hg
  obtain ⟨wd, hwd⟩ : ∃ wd, w1.drew = wd := ⟨_, rfl⟩
  have HD : Hid (w.heap.size + 3 ≤ wd.heap.size ∧ Below w.heap.size w wd ∧ wd.heap[w.heap.size]? = some (.cells #[.int .i64 kind, .int .i64 k, .int .i64 v] 28 (0, 0)) ∧ Boxed wd (w.heap.size + 1) 29 (.slice a n c) ∧ Boxed wd (w.heap.size + 1 + 1) 3 (.int .i64 0)) := by
    rw [← hwd]; obtain ⟨g1, g2, g3, g4, g5⟩ := HA1.out; exact ⟨g1, g2.drew, g3, g4, g5⟩
  have boxS : ∀ {w' : World}, w'.heap[w.heap.size]? = some (.cells #[.int .i64 kind, .int .i64 k, .int .i64 v] 28 (0, 0)) → Boxed w' (w.heap.size + 1) 29 (.slice a n c) →
      (w'.cell? ⟨w.heap.size, 0, none⟩ = some (.int .i64 kind) ∧ w'.cell? ⟨w.heap.size, 1, none⟩ = some (.int .i64 k) ∧ w'.cell? ⟨w.heap.size, 2, none⟩ = some (.int .i64 v) ∧ w'.cell? ⟨w.heap.size + 1, 0, none⟩ = some (.slice a n c)) :=
    fun h h' => ⟨by simp [World.cell?, h], by simp [World.cell?, h], by simp [World.cell?, h], h'.cell⟩
  have K0 : Hid _ := boxS HD.out.2.2.1 HD.out.2.2.2.1
  clear r2 f2
  go_wp2_with fail
  go_region_held3 (fun w' => w'.cell? ⟨w.heap.size, 0, none⟩ = some (.int .i64 kind) ∧ w'.cell? ⟨w.heap.size, 1, none⟩ = some (.int .i64 k) ∧ w'.cell? ⟨w.heap.size, 2, none⟩ = some (.int .i64 v) ∧ w'.cell? ⟨w.heap.size + 1, 0, none⟩ = some (.slice a n c))
    (first | (with_reducible exact K3.out) | (with_reducible exact K2.out) | (with_reducible exact K0.out) | exact hwd ▸ K0.out | go_keep)
    (first
    | (go_at_call 19
       refine (implDeedOf_any kind k v _).mono ?_
       rintro e w2 ⟨rfl, hb2⟩
       have hb2' : Below wd.heap.size wd w2 := by first | exact hb2 | exact hwd ▸ hb2
       have HD2 : Hid (w.heap.size + 3 ≤ w2.heap.size ∧ Below w.heap.size w w2 ∧ w2.heap[w.heap.size]? = some (.cells #[.int .i64 kind, .int .i64 k, .int .i64 v] 28 (0, 0)) ∧ Boxed w2 (w.heap.size + 1) 29 (.slice a n c) ∧ Boxed w2 (w.heap.size + 1 + 1) 3 (.int .i64 0)) := by
         obtain ⟨g1, g2, g3, g4, g5⟩ := HD.out
         exact ⟨Nat.le_trans g1 hb2'.size, g2.trans (hb2'.mono (by omega)), (hb2'.block _ (by omega)).trans g3, (hb2'.block _ (by omega)).trans g4, (hb2'.block _ (by omega)).trans g5⟩
       have K2 : Hid (w2.cell? ⟨w.heap.size, 0, none⟩ = some (.int .i64 kind) ∧ w2.cell? ⟨w.heap.size, 1, none⟩ = some (.int .i64 k) ∧ w2.cell? ⟨w.heap.size, 2, none⟩ = some (.int .i64 v) ∧ w2.cell? ⟨w.heap.size + 1, 0, none⟩ = some (.slice a n c)) := boxS HD2.out.2.2.1 HD2.out.2.2.2.1
       clear hb2 hb2')
    | (go_at_call 53
       refine (neededOf_any a n c (DeedV kind k v) (deedT kind) _ rfl _).mono ?_
       rintro e w3 ⟨rfl, hw3⟩
       have HW3 : Hid (w3 = (w2.alloc (.cells #[DeedV kind k v] 53)).alloc (.cells #[.slice a n c] 29)) := hw3
       have hb3 : Below w2.heap.size w2 w3 := by rw [hw3]; exact ((Below.refl _ _).alloc (Nat.le_refl _) _).alloc (by simp) _
       have HD3 : Hid (w.heap.size + 3 ≤ w3.heap.size ∧ Below w.heap.size w w3 ∧ w3.heap[w.heap.size]? = some (.cells #[.int .i64 kind, .int .i64 k, .int .i64 v] 28 (0, 0)) ∧ Boxed w3 (w.heap.size + 1) 29 (.slice a n c) ∧ Boxed w3 (w.heap.size + 1 + 1) 3 (.int .i64 0)) := by
         obtain ⟨g1, g2, g3, g4, g5⟩ := HD2.out
         exact ⟨Nat.le_trans g1 hb3.size, g2.trans (hb3.mono (by omega)), (hb3.block _ (by omega)).trans g3, (hb3.block _ (by omega)).trans g4, (hb3.block _ (by omega)).trans g5⟩
       have K3 : Hid (w3.cell? ⟨w.heap.size, 0, none⟩ = some (.int .i64 kind) ∧ w3.cell? ⟨w.heap.size, 1, none⟩ = some (.int .i64 k) ∧ w3.cell? ⟨w.heap.size, 2, none⟩ = some (.int .i64 v) ∧ w3.cell? ⟨w.heap.size + 1, 0, none⟩ = some (.slice a n c)) := boxS HD3.out.2.2.1 HD3.out.2.2.2.1
       clear hw3 hb3))
  go_wp2_with fail
  have HSQ : Hid (SeqGo Tryz.prog 84 #[.pointer (some ⟨w2.heap.size + 1, 0, none⟩), .pointer (some ⟨w2.heap.size, 0, none⟩)] encE (goR fs n) w3.heap.size [3] (wordsT false (stepsT false fs n kind k v)) w3) :=
    words_seq a n c (w2.heap.size + 1) w2.heap.size kind k v fs (goR fs n) [3] w3 (HB.out.on HD3.out.2.1) ⟨by rw [HW3.out]; have := Boxed.new (w2.alloc (.cells #[DeedV kind k v] 53)) 29 (.slice a n c); rw [World.size_alloc] at this; exact this.cell,
      by rw [HW3.out]; exact ((Boxed.new w2 53 (DeedV kind k v)).alloc _).cell⟩ HG.out (by decide)
  refine wp_rangeFunc_go (gf := 84) (lb := #[.pointer (some ⟨w2.heap.size + 1, 0, none⟩), .pointer (some ⟨w2.heap.size, 0, none⟩)]) rfl (enters_of Tryz.func84 (by kernel_rfl) rfl) HSQ.out (Nat.le_refl _) (fun _ => rfl)
    (fun pre W => (Boxed W (w.heap.size + 1) 29 (.slice a n c) ∧ Boxed W (w.heap.size + 1 + 1) 3 (.int .i64 0)) ∧ Below w.heap.size w W)
    (fun pre W => (∃ q x, pre = q ++ [x] ∧ Boxed W (w.heap.size + 1 + 1) 3 (.int .i64 x.1)) ∧ Below w.heap.size w W)
    (OwnFrom.and (Own.from (fun s A B row hs hg hr => ⟨boxed_own _ _ (fun _ => _) () A B row hs.1 hg hr, boxed_own _ _ (fun _ => _) () A B row hs.2 hg hr⟩) _) (ownFrom_below (Nat.le_refl _) HD3.out.2.1.size))
    (OwnFrom.and (Own.from (fun s A B row ⟨q, x, h1, h2⟩ hg hr => ⟨q, x, h1, boxed_own _ _ (fun _ => _) () A B row h2 hg hr⟩) _) (ownFrom_below (Nat.le_refl _) HD3.out.2.1.size))
    ⟨⟨HD3.out.2.2.2.1, HD3.out.2.2.2.2⟩, HD3.out.2.1⟩
    (fun x a' W => ∃ Bx, w.heap.size + 1 + 1 < Bx ∧ Box3 W Bx 60 x ∧ a' = { tmps := #[OpV kind k v, .slice a n c, .pointer (some ⟨w.heap.size, 0, none⟩), .pointer (some ⟨w.heap.size + 1, 0, none⟩), .pointer (some ⟨w.heap.size + 1 + 1, 0, none⟩), .pointer (some ⟨Bx, 0, none⟩), undef, undef, OpV kind k v, .bool true, .bool false, OpV kind k v, DeedV kind k v, .slice a n c, .func (.func 84) #[] #[.pointer (some ⟨w2.heap.size + 1, 0, none⟩), .pointer (some ⟨w2.heap.size, 0, none⟩)], .agg #[.int .i64 x.1, .int .i64 x.2.1, .int .i64 x.2.2], undef, undef, undef, undef, undef, undef, undef, undef, undef, undef, undef], defers := [] })
    (fun x a' => Own.from (fun s A B row ⟨Bx, h1, h2, h3⟩ hg hr => ⟨Bx, h1, box3_own _ _ _ () A B row h2 hg hr, h3⟩) _) ?assign ?body ?done ?stop
  case assign =>
    rintro l pre x W K hsz _ ⟨⟨b1, b2⟩, hB⟩ hK
    simp only [encE]
    gi_wp2
    exact hK _ _ (World.grownBy_alloc W _ none) ⟨⟨b1.alloc _, b2.alloc _⟩, hB.alloc hB.size _⟩ ⟨W.heap.size, b2.lt, World.alloc_heap_new W _, rfl⟩
  case body =>
    rintro l pre x a' W hsz _ ⟨⟨b1, b2⟩, hB⟩ ⟨Bx, hBx, bX, rfl⟩
    have HI : Hid ((Boxed W (w.heap.size + 1) 29 (.slice a n c) ∧ Boxed W (w.heap.size + 1 + 1) 3 (.int .i64 0)) ∧ Below w.heap.size w W) := ⟨⟨b1, b2⟩, hB⟩
    have HBX : Hid (Box3 W Bx 60 x) := bX
    have HSZ : Hid (w3.heap.size + 1 < W.heap.size ∧ w.heap.size + 1 + 1 < Bx) := ⟨hsz, hBx⟩
    have e1 := b1.cell
    have xx := bX.fst
    clear b1 b2 hB bX hsz hBx
    obtain ⟨⟨r1, r2⟩, hr⟩ : ∃ r, readF fs x.1 n = r := ⟨_, rfl⟩
    have HRD : Hid (readF fs x.1 n = (r1, r2)) := hr
    clear hr
    cases r2 with
    | true =>
      gi_wp2_with (refine ⟨trivial, ?_⟩; gi_at_call 54; refine (CallsIn.inRound l (callsIn_wide.2 (implRead_any a n c x.1 fs _ (HB.out.on HI.out.2).pairs))).mono ?_; rintro e w5 ⟨rfl, hb5⟩; rw [HRD.out]; have HB5 : Hid (Below W.heap.size W w5) := hb5; have y5 := (hb5.cell (p := ⟨Bx, 0, none⟩) (Array.getElem?_eq_some_iff.1 HBX.out).1).trans xx; have q5 := (show Boxed w5 (w.heap.size + 1 + 1) 3 (.int .i64 0) from (hb5.block _ HI.out.1.2.lt).trans HI.out.1.2).cell; have q6 := (show Boxed w5 (w.heap.size + 1 + 1) 3 (.int .i64 0) from (hb5.block _ HI.out.1.2.lt).trans HI.out.1.2).frozen; clear hb5)
      have hb := HB5.out
      refine ⟨⟨hb.block _ (by have := HSZ.out.1; omega), hb.block _ HSZ.out.1⟩, by unfold goR; rw [HRD.out], Kp.of_below hb (by have := HSZ.out.1; omega), ⟨(hb.block _ HI.out.1.1.lt).trans HI.out.1.1, (hb.block _ HI.out.1.2.lt).trans HI.out.1.2⟩, HI.out.2.trans (hb.mono HI.out.2.size)⟩
    | false =>
      gi_wp2_with (refine ⟨trivial, ?_⟩; gi_at_call 54; refine (CallsIn.inRound l (callsIn_wide.2 (implRead_any a n c x.1 fs _ (HB.out.on HI.out.2).pairs))).mono ?_; rintro e w5 ⟨rfl, hb5⟩; rw [HRD.out]; have HB5 : Hid (Below W.heap.size W w5) := hb5; have y5 := (hb5.cell (p := ⟨Bx, 0, none⟩) (Array.getElem?_eq_some_iff.1 HBX.out).1).trans xx; have q5 := (show Boxed w5 (w.heap.size + 1 + 1) 3 (.int .i64 0) from (hb5.block _ HI.out.1.2.lt).trans HI.out.1.2).cell; have q6 := (show Boxed w5 (w.heap.size + 1 + 1) 3 (.int .i64 0) from (hb5.block _ HI.out.1.2.lt).trans HI.out.1.2).frozen; clear hb5)
      have hb := HB5.out
      have b5 : Boxed w5 (w.heap.size + 1 + 1) 3 (.int .i64 0) := (hb.block _ HI.out.1.2.lt).trans HI.out.1.2
      have h3 := HD3.out.1
      have hs := grownBy_setCell' w5 (w.heap.size + 1 + 1) (.int .i64 x.1)
      have hz := HSZ.out.1
      have hzb := hb.size
      refine ⟨⟨(hs.block _ (by omega) (by simp; omega)).trans (hb.block _ (by omega)), (hs.block _ (by omega) (by simp; omega)).trans (hb.block _ hz)⟩, by unfold goR; rw [HRD.out], ⟨Nat.le_trans hzb hs.size, fun k' cs t r hk ht => ?_⟩, ⟨pre, x.1, ⟨rfl, x.2.1, x.2.2, rfl⟩, b5.set _⟩, (HI.out.2.trans (hb.mono HI.out.2.size)).setCell (p := ⟨w.heap.size + 1 + 1, 0, none⟩) (by simp; omega) _⟩
      have hne : k' ≠ w.heap.size + 1 + 1 := fun e => by
        rw [e, show W.heap[w.heap.size + 1 + 1]? = _ from HI.out.1.2] at hk
        cases hk
        exact ht (by simp)
      have hkl := (Array.getElem?_eq_some_iff.1 hk).1
      exact (hs.block k' (by omega) (by simpa using hne)).trans ((hb.block _ (Array.getElem?_eq_some_iff.1 hk).1).trans hk)
  case done =>
    rintro W hall ⟨⟨b1, b2⟩, hB⟩ hK
    have HI : Hid (Boxed W (w.heap.size + 1 + 1) 3 (.int .i64 0) ∧ Below w.heap.size w W ∧ W.heap[w3.heap.size]? = some (.deferred (some []))) := ⟨b2, hB, hK⟩
    have HZ : Hid (res = -1) := by rw [← HR.out, next_words fs n kind k v (rd_wf HW.out 13) HG.out]; exact firstR_all hall
    have r2 := b2.cell
    have f2 := b2.frozen
    clear b1 b2 hB hK hall
    go_wp2
    have hK' := (KeepsOthers.setCell W ⟨w.heap.size + 1 + 1, 0, none⟩ (.int .i64 (-1))).same w3.heap.size _ HI.out.2.2 rfl
    refine ⟨by simp, .inl ⟨_, _, rfl, run_takeDeferred hK', ?_⟩⟩
    have i1 := cell_kept (HI.out.1.set (.int .i64 (-1))).cell (grownBy_putObj' _ w3.heap.size (.deferred none)) (fun r e => by cases e; exact ⟨_, hK', rfl⟩)
    refine ⟨.int .i64 (-1), by simp [results, Tryz.f18, go_sem, i1], by rw [HZ.out], (HI.out.2.1.setCell (p := ⟨w.heap.size + 1 + 1, 0, none⟩) (by simp; omega) _).trans (belowK_b (w := w) (Nat.le_refl _) _ w3.heap.size _ _ (by have := HD3.out.1; omega) hK' rfl rfl)⟩
  case stop =>
    rintro pre x rest W e1 e2 e3 ⟨⟨q, y, hq, b2⟩, hB⟩ hK
    obtain ⟨hq1, hq2⟩ := List.append_inj' hq rfl
    obtain rfl := (List.cons.inj hq2).1
    have HI : Hid (Boxed W (w.heap.size + 1 + 1) 3 (.int .i64 x.1) ∧ Below w.heap.size w W ∧ W.heap[w3.heap.size]? = some (.deferred (some []))) := ⟨b2, hB, hK⟩
    have HZ : Hid (res = x.1) := by rw [← HR.out, next_words fs n kind k v (rd_wf HW.out 13) HG.out]; exact firstR_some e3 e1 e2
    clear b2 hB hK hq hq1 hq2 e1 e2 e3
    go_wp2
    have hK' := HI.out.2.2
    refine ⟨by simp, .inl ⟨_, _, rfl, run_takeDeferred hK', ?_⟩⟩
    have i1 := cell_kept HI.out.1.cell (grownBy_putObj' _ w3.heap.size (.deferred none)) (fun r e => by cases e; exact ⟨_, hK', rfl⟩)
    refine ⟨.int .i64 x.1, by simp [results, Tryz.f18, go_sem, i1], by rw [HZ.out], HI.out.2.1.trans (belowK_b (w := w) (Nat.le_refl _) _ w3.heap.size _ _ (by have := HD3.out.1; omega) hK' rfl rfl)⟩

theorem implNext_any (p n : Nat) (kind k v : Int) (fs : List Int) (w : World) (hN : Names w) (hP : PairAt w (some ⟨p, 0, none⟩) n fs) (hx : ∀ x ∈ fs, (Lit.int .i64 x).wf = true) (_ : (Lit.int .i64 kind).wf = true) (_ : (Lit.int .i64 k).wf = true) (_ : (Lit.int .i64 v).wf = true) :
    Calls Tryz.prog 18 #[OpV kind k v, .slice (some ⟨p, 0, none⟩) n n] w fun e w' => e = .returned (.int .i64 (nextM fs n kind k v)) ∧ Below w.heap.size w w' := implNext_cap _ n n kind k v fs w hN hP hx
end Go.Proofs.YtenlapppaimkkaeGreatDoor

/- The program's readOf: it tells the words of an op that were read. -/
namespace Go.Proofs.YtenlapppaimkkaeGreatDoor
open Go.ChangeShapes Go.WideShapes Go.ChangeAt Go.RowKit Go.Shelf
attribute [local go_sem] Oper.semAt_some

/-- What a call of the function literal comes to. -/
def TellSays (fs : List Int) (n : Nat) (go : Ent → Bool) (n₀ : Nat) (ts : List TypeId) (J Jx : List Ent → World → Prop) (X : World) (q : List Ent) (x : Ent) (b : Bool) (X' : World) : Prop :=
  (goR fs n x = false → b = true ∧ Below X.heap.size X X') ∧ (goR fs n x = true → b = go x ∧ (go x = true → J (q ++ [x]) X' ∧ Kp n₀ ts X X') ∧ (go x = false → Jx (q ++ [x]) X' ∧ Kx ts X X'))

set_option maxRecDepth 100000 in
set_option maxHeartbeats 2000000 in
theorem tellRead_any (a : Option Addr) (n c l Bg Bt : Nat) (x : Ent) (fs : List Int) (go : Ent → Bool) (ts : List TypeId) (J Jx : List Ent → World → Prop) (q : List Ent) (W0 X : World)
    (hR : Rounds Tryz.prog l encE go W0.heap.size ts J Jx) (hj : Grows J) (hB : Base W0 a n fs) (hl : q.length < 100) (hX : Below W0.heap.size W0 X) (hJ : J q X)
    (hg : X.cell? ⟨Bg, 0, none⟩ = some (.slice a n c)) (ht : X.cell? ⟨Bt, 0, none⟩ = some (.func (.yield l) #[] #[])) :
    Calls Tryz.prog 65 #[.agg #[.int .i64 x.1, .int .i64 x.2.1, .int .i64 x.2.2], .pointer (some ⟨Bg, 0, none⟩), .pointer (some ⟨Bt, 0, none⟩)] X fun e X' => ∃ b, e = .returned (.bool b) ∧ TellSays fs n go W0.heap.size ts J Jx X q x b X' := by
  obtain ⟨p, o, v⟩ := x
  have HG : Hid (Rounds Tryz.prog l encE go W0.heap.size ts J Jx ∧ Grows J) := ⟨hR, hj⟩
  have HB : Hid (Base W0 a n fs ∧ Below W0.heap.size W0 X ∧ J q X) := ⟨hB, hX, hJ⟩
  have HL : Hid (q.length < 100) := hl
  clear hR hj hB hX hJ hl
  have lg := World.block_lt_of_cell? X _ hg
  have lt := World.block_lt_of_cell? X _ ht
  have hx : Below X.heap.size X (X.alloc (.cells #[.int .i64 p, .int .i64 o, .int .i64 v] 60)) := (Below.refl _ _).alloc (Nat.le_refl _) _
  have g1 : (X.alloc (.cells #[.int .i64 p, .int .i64 o, .int .i64 v] 60)).cell? ⟨Bg, 0, none⟩ = some (.slice a n c) := (hx.cell (p := ⟨Bg, 0, none⟩) lg).trans hg
  have t1 : (X.alloc (.cells #[.int .i64 p, .int .i64 o, .int .i64 v] 60)).cell? ⟨Bt, 0, none⟩ = some (.func (.yield l) #[] #[]) := (hx.cell (p := ⟨Bt, 0, none⟩) lt).trans ht
  have bx : (X.alloc (.cells #[.int .i64 p, .int .i64 o, .int .i64 v] 60)).heap[X.heap.size]? = some (.cells #[.int .i64 p, .int .i64 o, .int .i64 v] 60 (0, 0)) := World.alloc_heap_new X _
  obtain ⟨X1, hX1⟩ : ∃ X1, X.alloc (.cells #[.int .i64 p, .int .i64 o, .int .i64 v] 60) = X1 := ⟨_, rfl⟩
  rw [hX1] at hx g1 t1 bx
  have HX : Hid (Below X.heap.size X X1 ∧ X1.heap[X.heap.size]? = some (.cells #[.int .i64 p, .int .i64 o, .int .i64 v] 60 (0, 0)) ∧ X1.cell? ⟨Bt, 0, none⟩ = some (.func (.yield l) #[] #[])) := ⟨hx, bx, t1⟩
  have c0 : X1.cell? ⟨X.heap.size, 0, none⟩ = some (.int .i64 p) := by simp [World.cell?, bx]
  clear hx bx t1 hg ht
  obtain ⟨r, hr⟩ : ∃ r, readF fs p n = r := ⟨_, rfl⟩
  have HR : Hid (readF fs p n = r) := hr
  clear hr
  obtain ⟨r1, r2⟩ := r
  refine (callsIn_wide (n := 5)).1 ?_
  refine callsIn_of_wp Tryz.func65 rfl trivial ?_ rfl
  simp only [Tryz.ntmps65, List.size_toArray, List.length_cons, List.length_nil, Nat.reduceAdd, Nat.reduceSub, Array.replicate_succ, Array.replicate_zero, List.push_toArray, List.append_toArray, List.nil_append, List.cons_append]
  cases r2 with
  | false =>
    gi_wp2_with (refine ⟨trivial, ?_⟩; gi_at_call 54; refine (callsIn_wide.2 (implRead_any a n c p fs _ (by first | exact (HB.out.1.on (HB.out.2.1.trans (HX.out.1.mono HB.out.2.1.size))).pairs | exact hX1 ▸ (HB.out.1.on (HB.out.2.1.trans (HX.out.1.mono HB.out.2.1.size))).pairs))).mono ?_; rintro e w5 ⟨rfl, hb5⟩; rw [HR.out]; have HB5 : Hid (Below X1.heap.size X1 w5) := (by first | exact hb5 | exact hX1 ▸ hb5); clear hb5)
    refine ⟨fun f h => (by cases h), ?_⟩
    gi_wp2
    go_ret
    refine ⟨true, rfl, fun _ => ⟨rfl, HX.out.1.trans (HB5.out.mono HX.out.1.size)⟩, fun h => ?_⟩
    unfold goR at h
    rw [HR.out] at h
    cases h
  | true =>
    gi_wp2_with (first
      | (refine ⟨trivial, ?_⟩; gi_at_call 54; refine (callsIn_wide.2 (implRead_any a n c p fs _ (by first | exact (HB.out.1.on (HB.out.2.1.trans (HX.out.1.mono HB.out.2.1.size))).pairs | exact hX1 ▸ (HB.out.1.on (HB.out.2.1.trans (HX.out.1.mono HB.out.2.1.size))).pairs))).mono ?_; rintro e w5 ⟨rfl, hb5⟩; rw [HR.out]
         have hb6 : Below X1.heap.size X1 w5 := (by first | exact hb5 | exact hX1 ▸ hb5)
         have HB5 : Hid (Below X.heap.size X w5) := HX.out.1.trans (hb6.mono HX.out.1.size)
         have BX5 : w5.heap[X.heap.size]? = some (.cells #[.int .i64 p, .int .i64 o, .int .i64 v] 60 (0, 0)) := (hb6.block _ (Array.getElem?_eq_some_iff.1 HX.out.2.1).1).trans HX.out.2.1
         have d0 : w5.cell? ⟨X.heap.size, 0, none⟩ = some (.int .i64 p) := by simp [World.cell?, BX5]
         have d1 : w5.cell? ⟨X.heap.size, 1, none⟩ = some (.int .i64 o) := by simp [World.cell?, BX5]
         have d2 : w5.cell? ⟨X.heap.size, 2, none⟩ = some (.int .i64 v) := by simp [World.cell?, BX5]
         have t5 : w5.cell? ⟨Bt, 0, none⟩ = some (.func (.yield l) #[] #[]) := (hb6.cell (p := ⟨Bt, 0, none⟩) (World.block_lt_of_cell? X1 _ HX.out.2.2)).trans HX.out.2.2
         obtain ⟨fn, tmps, assign, body, hy, hR⟩ := HG.out.1 q (p, o, v) w5 HL.out (HG.out.2 _ _ _ HB.out.2.2 (far_below HB5.out none))
         dsimp only [encE] at hy
         clear hb5 hb6 BX5)
      | (first | (refine (round_any hR).mono ?_) | (refine ⟨?_, (round_any hR).mono ?_⟩; (intro _; omega)) | (refine ⟨fun h => absurd h (by decide), (round_any hR).mono ?_⟩)
         rintro e W3 ⟨rfl, hg1, hg2⟩))
    all_goals
      (try gi_wp2)
      go_ret
      refine ⟨go (p, o, v), rfl, fun h => ?_, fun _ => ⟨rfl, fun hg => ⟨(hg1 hg).1, (Kp.of_below HB5.out HB.out.2.1.size).trans (hg1 hg).2⟩, fun hg => ⟨(hg2 hg).1, (Kp.of_below HB5.out HB.out.2.1.size).kx.trans (hg2 hg).2⟩⟩⟩
      unfold goR at h
      rw [HR.out] at h
      cases h
end Go.Proofs.YtenlapppaimkkaeGreatDoor
