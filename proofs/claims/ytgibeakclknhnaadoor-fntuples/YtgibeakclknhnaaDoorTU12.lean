/- Texts joined: AsX, AsH, ImplTof, ImplTok, ImplAi, ImplAx, ImplAv, ImplTb. -/
import Derived.Test.YtgibeakclknhnaaDoorTU10
import Derived.Test.YtgibeakclknhnaaDoorTU01
import Derived.WalkKit
import Derived.LaidEql
import Derived.Stop.Asserts
import Derived.RowKitTokens
import Derived.Test.YtgibeakclknhnaaDoorTU11
import Derived.Test.YtgibeakclknhnaaDoorTU06
import Derived.Deep.Cut
import Derived.Test.YtgibeakclknhnaaDoorTU04
import Derived.Test.YtgibeakclknhnaaDoorTU02
import Derived.Maps.AppendAt
import Derived.Maps.Range
import Derived.Test.YtgibeakclknhnaaDoorTU03
set_option maxHeartbeats 4000000
set_option maxRecDepth 100000
namespace Go.Proofs.YtgibeakclknhnaaDoor
section
open Go.RowKit Go.Extern.Stop Go.Stop Go.Extern
def asIsNil : Array Value → Sem Value := ReflectliteValue.method (ReflectliteValue.valueError "reflectlite.Value.IsNil" 0) ReflectliteValue.isNil
def asElem : Array Value → Sem Value := ReflectliteValue.method (ReflectliteValue.valueError "reflectlite.Value.Elem" 0) ReflectliteValue.elem
def asKind : Array Value → Sem Value := ReflectliteType.abiMethod fun t => do pure (.int .u8 (← Rtype.kind t))
theorem as_nil (t : Value) (w : World) :
    Calls Tryd.prog 25 #[.nilIface, t] w fun e w' => e = .returned (.bool false) ∧ w' = w := by
  go_enter Tryd.func25, Tryd.ntmps25
  go_wp2
  go_ret
  exact ⟨rfl, rfl⟩
theorem as_valueOfP (t : Addr) (w : World) : (ReflectliteValue.unpack (.iface 49 (.pointer (some t)))).run Tryd.prog w = .ok (.agg #[.pointer (some ⟨5, 49, none⟩), .pointer (some ⟨w.heap.size, 0, none⟩), .int .u64 150]) (w.alloc (.cells #[.pointer (some t)] 49)) := by kernel_rfl
theorem as_typeP (a : Addr) (w : World) : (ReflectliteValue.methodAny (ReflectliteValue.valueError "reflectlite.Value.Type" 0) (fun t _ _ _ => ReflectliteType.toType t) #[.agg #[.pointer (some ⟨5, 49, none⟩), .pointer (some a), .int .u64 150]]).run Tryd.prog w = .ok (.iface 102 (.agg #[.pointer (some ⟨5, 49, none⟩)])) w := by kernel_rfl
theorem as_methodKind (h : Value) (w : World) : (Go.method 266 102 (.agg #[h]) "Kind").run Tryd.prog w = .ok (98, h) w := by kernel_rfl
theorem as_kindP (w : World) : (asKind #[.pointer (some ⟨5, 49, none⟩)]).run Tryd.prog w = .ok (.int .u8 22) w := by kernel_rfl
theorem as_kindN (w : World) : (asKind #[.pointer (some ⟨5, 47, none⟩)]).run Tryd.prog w = .ok (.int .u8 25) w := by kernel_rfl
theorem as_rlm (z : Sem Value) (f : TypeId → Addr → Nat → Nat → Sem Value) (v : Value) :
    ReflectliteValue.method z f #[v] = (do match ← ReflectliteValue.parts v with | none => z | some (t, a, fl) => f t a fl (fl % 32)) := rfl
theorem as_partsP (a : Addr) (w : World) : (ReflectliteValue.parts (.agg #[.pointer (some ⟨5, 49, none⟩), .pointer (some a), .int .u64 150])).run Tryd.prog w = .ok (some (49, a, 150)) w := by kernel_rfl
theorem as_isNilP (a p : Addr) (W : World) (ha : W.cell? a = some (.pointer (some p))) : (asIsNil #[.agg #[.pointer (some ⟨5, 49, none⟩), .pointer (some a), .int .u64 150]]).run Tryd.prog W = .ok (.bool false) W := by
  unfold asIsNil
  rw [as_rlm]
  simp only [Sem.run_bind, as_partsP, Result.andThen]
  simp [ReflectliteValue.isNil, loadVar, isAgg, underlying, Tryd.underlying49, ha, Result.andThen]
theorem as_methodElem (h : Value) (w : World) : (Go.method 266 102 (.agg #[h]) "Elem").run Tryd.prog w = .ok (109, .agg #[h]) w := by kernel_rfl
theorem as_methodImplements (h : Value) (w : World) : (Go.method 266 102 (.agg #[h]) "Implements").run Tryd.prog w = .ok (110, .agg #[h]) w := by kernel_rfl
theorem as_methodAssignableTo (h : Value) (w : World) : (Go.method 266 102 (.agg #[h]) "AssignableTo").run Tryd.prog w = .ok (107, .agg #[h]) w := by kernel_rfl
theorem as_elemP (w : World) : (ReflectliteType.method ReflectliteType.elem #[.agg #[.pointer (some ⟨5, 49, none⟩)]]).run Tryd.prog w = .ok (.iface 102 (.agg #[.pointer (some ⟨5, 47, none⟩)])) w := by kernel_rfl
theorem as_implementsN (w : World) : (ReflectliteType.relation "Implements" ReflectliteType.implements_ #[.agg #[.pointer (some ⟨5, 47, none⟩)], .iface 102 (.agg #[.pointer (some ⟨5, 43, none⟩)])]).run Tryd.prog w = .ok (.bool true) w := by kernel_rfl
theorem as_typeOfN (v : Value) (w : World) : (ReflectliteType.typeOf #[.iface 47 v]).run Tryd.prog w = .ok (.iface 102 (.agg #[.pointer (some ⟨5, 47, none⟩)])) w := by kernel_rfl
theorem as_assignableN (w : World) : (ReflectliteType.relation "AssignableTo" ReflectliteType.assignableTo #[.agg #[.pointer (some ⟨5, 47, none⟩)], .iface 102 (.agg #[.pointer (some ⟨5, 47, none⟩)])]).run Tryd.prog w = .ok (.bool true) w := by kernel_rfl
theorem as_valueOfN (p : Int) (w : World) : (ReflectliteValue.unpack (ErrV p)).run Tryd.prog w = .ok (.agg #[.pointer (some ⟨5, 47, none⟩), .pointer (some ⟨w.heap.size, 0, none⟩), .int .u64 153]) (w.alloc (.cells #[.int .i64 p] 47)) := by kernel_rfl
theorem as_elemOfP (w : World) : (Rtype.elem? 49).run Tryd.prog w = .ok (some 47) w := by kernel_rfl
theorem as_mkN (p : Addr) (w : World) : (ReflectliteValue.mk 47 p ReflectliteValue.flagAddr).run Tryd.prog w = .ok (.agg #[.pointer (some ⟨5, 47, none⟩), .pointer (some p), .int .u64 409]) w := by kernel_rfl
theorem as_elemV (a p : Addr) (W : World) (ha : W.cell? a = some (.pointer (some p))) : (asElem #[.agg #[.pointer (some ⟨5, 49, none⟩), .pointer (some a), .int .u64 150]]).run Tryd.prog W = .ok (.agg #[.pointer (some ⟨5, 47, none⟩), .pointer (some p), .int .u64 409]) W := by
  unfold asElem
  rw [as_rlm]
  simp only [Sem.run_bind, as_partsP, Result.andThen]
  simp [ReflectliteValue.elem, loadVar, isAgg, underlying, Tryd.underlying49, ha, Result.andThen, as_elemOfP, as_mkN]
theorem as_rls (v x : Value) : ReflectliteValue.set #[v, x] = (do
    let (some (dst, a, fl), some (src, b, _)) := (← ReflectliteValue.parts v, ← ReflectliteValue.parts x)
      | unsupported (.noEntry "extern/(internal/reflectlite.Value).Set.zeroValue")
    if fl / ReflectliteValue.flagAddr % 2 == 0 then unsupported (.noEntry "extern/(internal/reflectlite.Value).Set.unaddressable")
    let val ← loadVar src b
    if ← Rtype.directlyAssignable dst src then storeVar dst a val
    else if ← Rtype.implements dst src then
      if (← Rtype.kind src) == 20 then
        match val with
        | .nilIface => unsupported (.noEntry "extern/reflectlite: a nil value of one interface type handed on as a value of another")
        | _ => storeVar dst a val
      else storeVar dst a (.iface src val)
    else panicString ("reflectlite.Set: value of type " ++ (← Rtype.spelt src) ++ " is not assignable to type " ++ (← Rtype.spelt dst))
    pure (.tuple #[])) := rfl
theorem as_partsNa (a : Addr) (w : World) : (ReflectliteValue.parts (.agg #[.pointer (some ⟨5, 47, none⟩), .pointer (some a), .int .u64 409])).run Tryd.prog w = .ok (some (47, a, 409)) w := by kernel_rfl
theorem as_partsN (a : Addr) (w : World) : (ReflectliteValue.parts (.agg #[.pointer (some ⟨5, 47, none⟩), .pointer (some a), .int .u64 153])).run Tryd.prog w = .ok (some (47, a, 153)) w := by kernel_rfl
theorem as_directN (w : World) : (Rtype.directlyAssignable 47 47).run Tryd.prog w = .ok true w := by kernel_rfl
theorem as_loadN (b : Nat) (p : Int) (W : World) (hb : W.cell? ⟨b, 0, none⟩ = some (.int .i64 p)) : (loadVar 47 ⟨b, 0, none⟩).run Tryd.prog W = .ok (.agg #[.int .i64 p]) W := by
  simp [loadVar, isAgg, underlying, Tryd.underlying47, loadCells, loadCellsFrom, Addr.add, hb, Result.andThen]
theorem as_setN (tb b : Nat) (p : Int) (old : Value) (W : World) (hb : W.cell? ⟨b, 0, none⟩ = some (.int .i64 p)) (ht : W.cell? ⟨tb, 0, none⟩ = some old) (hf : W.frozen? ⟨tb, 0, none⟩ = false) :
    (ReflectliteValue.set #[.agg #[.pointer (some ⟨5, 47, none⟩), .pointer (some ⟨tb, 0, none⟩), .int .u64 409], .agg #[.pointer (some ⟨5, 47, none⟩), .pointer (some ⟨b, 0, none⟩), .int .u64 153]]).run Tryd.prog W = .ok (.tuple #[]) (W.setCell ⟨tb, 0, none⟩ (.int .i64 p)) := by
  rw [as_rls]
  simp only [Sem.run_bind, as_partsNa, as_partsN, Result.andThen]
  simp [ReflectliteValue.flagAddr, as_loadN b p W hb, Result.andThen, as_directN, storeVar, Value.cells, storeCells, Addr.add]
  rw [run_store Tryd.prog W ⟨tb, 0, none⟩ _ _ (by rfl)]
  simp [ht, hf]
theorem as_hit (tb : Nat) (p : Int) (old : Value) (w : World) (hg : ErrT w) (ht0 : w.cell? ⟨tb, 0, none⟩ = some old) (hf0 : w.frozen? ⟨tb, 0, none⟩ = false) (hg0 : 0 < w.heap.size) :
    Calls Tryd.prog 25 #[ErrV p, .iface 49 (.pointer (some ⟨tb, 0, none⟩))] w fun ev w' => ev = .returned (.bool true) ∧ w.grownBy w' (some tb) := by
  have h6 := @run_callFunc_extern Tryd.prog 42 _ (fun args => ReflectliteValue.unpack (args.getD 0 (.tuple #[]))) Tryd.func42 (by kernel_rfl) (by kernel_rfl) (by kernel_rfl) (by kernel_rfl)
  have h7 := @run_callFunc_extern Tryd.prog 43 _ (ReflectliteValue.methodAny (ReflectliteValue.valueError "reflectlite.Value.Type" 0) (fun t _ _ _ => ReflectliteType.toType t)) Tryd.func43 (by kernel_rfl) (by kernel_rfl) (by kernel_rfl) (by kernel_rfl)
  have h8 := @run_callFunc_extern Tryd.prog 44 _ asIsNil Tryd.func44 (by kernel_rfl) (by kernel_rfl) (by kernel_rfl) (by kernel_rfl)
  have h27 := @run_callFunc_extern Tryd.prog 98 _ asKind Tryd.func98 (by kernel_rfl) (by kernel_rfl) (by kernel_rfl) (by kernel_rfl)
  have h37 := @run_callFunc_extern Tryd.prog 109 _ (ReflectliteType.method ReflectliteType.elem) Tryd.func109 (by kernel_rfl) (by kernel_rfl) (by kernel_rfl) (by kernel_rfl)
  have h38 := @run_callFunc_extern Tryd.prog 110 _ (ReflectliteType.relation "Implements" ReflectliteType.implements_) Tryd.func110 (by kernel_rfl) (by kernel_rfl) (by kernel_rfl) (by kernel_rfl)
  have h10 := @run_callFunc_extern Tryd.prog 60 _ ReflectliteType.typeOf Tryd.func60 (by kernel_rfl) (by kernel_rfl) (by kernel_rfl) (by kernel_rfl)
  have h35 := @run_callFunc_extern Tryd.prog 107 _ (ReflectliteType.relation "AssignableTo" ReflectliteType.assignableTo) Tryd.func107 (by kernel_rfl) (by kernel_rfl) (by kernel_rfl) (by kernel_rfl)
  have h11 := @run_callFunc_extern Tryd.prog 61 _ asElem Tryd.func61 (by kernel_rfl) (by kernel_rfl) (by kernel_rfl) (by kernel_rfl)
  have h12 := @run_callFunc_extern Tryd.prog 62 _ ReflectliteValue.set Tryd.func62 (by kernel_rfl) (by kernel_rfl) (by kernel_rfl) (by kernel_rfl)
  have tO := as_typeOfN
  have mA := as_methodAssignableTo
  have aN := as_assignableN
  have vN := as_valueOfN
  have f6 := as_valueOfP
  have f7 := as_typeP
  have mK := as_methodKind
  have mE := as_methodElem
  have mI := as_methodImplements
  have kP := as_kindP
  have kN := as_kindN
  have eP := as_elemP
  have iN := as_implementsN
  have htl : tb < w.heap.size := World.block_lt_of_cell? w _ ht0
  have n8 := as_isNilP ⟨w.heap.size, 0, none⟩ ⟨tb, 0, none⟩ ((w.alloc (.cells #[.pointer (some ⟨tb, 0, none⟩)] 49)).alloc (.cells #[.pointer (some ⟨5, 49, none⟩), .pointer (some ⟨w.heap.size, 0, none⟩), .int .u64 150] 72)) (by simp)
  have hg2 : ((w.alloc (.cells #[.pointer (some ⟨tb, 0, none⟩)] 49)).alloc (.cells #[.pointer (some ⟨5, 49, none⟩), .pointer (some ⟨w.heap.size, 0, none⟩), .int .u64 150] 72)).cell? ⟨0, 0, none⟩ = some (.iface 102 (.agg #[.pointer (some ⟨5, 43, none⟩)])) := by
    rw [World.cell?_alloc_lt _ _ ⟨0, 0, none⟩ (by rw [World.size_alloc]; exact Nat.lt_succ_of_lt hg0), World.cell?_alloc_lt _ _ ⟨0, 0, none⟩ hg0]; exact hg
  have el := as_elemV ⟨w.heap.size, 0, none⟩ ⟨tb, 0, none⟩ (((w.alloc (.cells #[.pointer (some ⟨tb, 0, none⟩)] 49)).alloc (.cells #[.pointer (some ⟨5, 49, none⟩), .pointer (some ⟨w.heap.size, 0, none⟩), .int .u64 150] 72)).alloc (.cells #[.pointer (some ⟨5, 49, none⟩), .pointer (some ⟨w.heap.size, 0, none⟩), .int .u64 150] 72)) (by rw [World.cell?_alloc_lt _ _ ⟨w.heap.size, 0, none⟩ (by simp; omega)]; simp)
  have st := as_setN tb (w.heap.size + 1 + 1 + 1) p old ((((w.alloc (.cells #[.pointer (some ⟨tb, 0, none⟩)] 49)).alloc (.cells #[.pointer (some ⟨5, 49, none⟩), .pointer (some ⟨w.heap.size, 0, none⟩), .int .u64 150] 72)).alloc (.cells #[.pointer (some ⟨5, 49, none⟩), .pointer (some ⟨w.heap.size, 0, none⟩), .int .u64 150] 72)).alloc (.cells #[.int .i64 p] 47))
    (by rw [World.cell?_alloc_at _ _ _ _ (by simp)]; rfl)
    (by rw [World.cell?_alloc_lt _ _ ⟨tb, 0, none⟩ (by simp; omega), World.cell?_alloc_lt _ _ ⟨tb, 0, none⟩ (by simp; omega), World.cell?_alloc_lt _ _ ⟨tb, 0, none⟩ (by simp; omega), World.cell?_alloc_lt _ _ ⟨tb, 0, none⟩ htl]; exact ht0)
    (by rw [World.frozen?_alloc_old _ _ ⟨tb, 0, none⟩ (by simp; omega), World.frozen?_alloc_old _ _ ⟨tb, 0, none⟩ (by simp; omega), World.frozen?_alloc_old _ _ ⟨tb, 0, none⟩ (by simp; omega), World.frozen?_alloc_old _ _ ⟨tb, 0, none⟩ (Nat.ne_of_lt htl)]; exact hf0)
  go_enter Tryd.func25, Tryd.ntmps25
  go_wp2
  refine wp_loop_rounds 1 ?_
  rw [rounds_succ]
  go_wp2
  go_ret
  exact ⟨rfl, ((((World.grownBy_alloc w _ _).trans (World.grownBy_alloc _ _ _)).trans (World.grownBy_alloc _ _ _)).trans (World.grownBy_alloc _ _ _)).trans (grownBy_setAt _ _ _ _)⟩
end
section
open Go.ChangeShapes Go.WideShapes Go.ChangeAt Go.RowKit
theorem implTupleOf_any (a : Option Addr) (n c : Nat) (l : List UInt8) (w : World) (hT : ErrT w) (h : BysAt w a n l) (hc : n ≤ c) :
    Calls Tryd.prog 8 #[.slice a n c] w fun e w' => TupAns l w e w' ∧ Below w.heap.size w w' := by
  have H : Hid (BysAt w a n l ∧ n ≤ c) := ⟨h, hc⟩
  have HT : Hid (ErrT w) := hT
  clear h hc hT
  go_enter Tryd.func8, Tryd.ntmps8
  go_wp2_with fail
  refine (readTuple_any a n c l w H.out.1 H.out.2).mono ?_
  rintro e w1 ⟨⟨v, L, rfl, ho, ht⟩ | ⟨p, rfl, hno⟩, hb⟩
  · have HB1 : Hid (Below w.heap.size w w1) := hb
    have HO1 : Hid (VOwn w1 w.heap.size v L) := ho
    have HTI : Hid (TupIs l L) := ht
    clear ho ht hb
    go_wp2_with fail
    refine (as_nil _ _).mono ?_
    rintro e w2 ⟨rfl, rfl⟩
    go_wp2
    go_ret2
    exact ⟨⟨_, true, L, rfl, HO1.out.alloc _, .inl ⟨rfl, HTI.out⟩⟩, HB1.out.alloc HB1.out.size _⟩
  · have HB1 : Hid (Below w.heap.size w w1) := hb
    have HNO : Hid (∀ M, ¬ TupIs l M) := hno
    clear hno hb
    obtain ⟨W, hW⟩ : ∃ W, w1.alloc (.cells #[.int .i64 0] 47) = W := ⟨_, rfl⟩
    have HW : Hid (w1.alloc (.cells #[.int .i64 0] 47) = W) := hW
    have XB : Hid (Box W w1.heap.size #[.int .i64 0] 47) := by rw [← hW]; exact box_of w1 _ _
    have HBW : Hid (Below w.heap.size w W) := by rw [← hW]; exact HB1.out.alloc HB1.out.size _
    have HTW : Hid (ErrT W) := HT.out.below HBW.out (Nat.le_refl _)
    clear hW
    go_upto_region 3 with (fail)
    rw [HW.out]
    go_wp2_with fail
    refine (as_hit w1.heap.size p (.int .i64 0) W HTW.out (XB.out.cell 0) (XB.out.frozen 0) HTW.out.lt).mono ?_
    rintro e w2 ⟨rfl, hg⟩
    have HB2 : Hid (Below w.heap.size w w2) := HBW.out.grown hg HBW.out.size (fun q e => by cases e; exact HB1.out.size)
    clear hg
    go_wp2
    go_ret2
    exact ⟨⟨_, false, [], rfl, ⟨rfl, .inl ⟨rfl, rfl⟩⟩, .inr ⟨rfl, rfl, HNO.out⟩⟩, HB2.out⟩
theorem tokBad_any (k n : Int) (s : ByteArray) (w : World) :
    Calls Tryd.prog 28 #[VaV k n s] w fun e w' => e = .returned (.bool !(decide (VaGood k n s))) ∧ Below w.heap.size w w' := by
  obtain ⟨B, hB⟩ : ∃ B, decide (VaGood k n s) = B := ⟨_, rfl⟩
  rw [hB]
  have HB : Hid (decide (VaGood k n s) = B) := hB
  clear hB
  obtain ⟨W, hW⟩ : ∃ W, w.alloc (.cells #[.int .i64 k, .int .i64 n, .string s] 37) = W := ⟨_, rfl⟩
  have HB0 : Hid (Below w.heap.size w W) := by rw [← hW]; exact (Below.refl _ w).alloc (Nat.le_refl _) _
  have X0 : Hid (Box W w.heap.size #[.int .i64 k, .int .i64 n, .string s] 37) := by rw [← hW]; exact box_of w _ _
  have HW : Hid (w.alloc (.cells #[.int .i64 k, .int .i64 n, .string s] 37) = W) := hW
  obtain ⟨c0, c1, c2⟩ := X0.out.triV
  clear hW
  go_enter Tryd.func28, Tryd.ntmps28
  go_upto_region 1 with (fail)
  rw [HW.out]
  go_wp2_with fail
  refine (implValueOk_any k n s _).mono ?_
  rintro e w1 ⟨rfl, hb1⟩
  rw [HB.out]
  have HB1 : Hid (Below w.heap.size w w1) := HB0.out.trans (hb1.mono HB0.out.size)
  clear hb1 c0 c1 c2
  go_wp2
  go_ret
  exact ⟨rfl, HB1.out⟩
theorem tokIndex_any (a : Option Addr) (n c : Nat) (L : List Va3) (w : World) (h : VasAt w a n L) :
    Calls Tryd.prog 48 #[.slice a n c, .func (.func 28) #[] #[]] w fun e w' => ∃ r : Int, (e = .returned (.int .i64 r) ∧ (0 ≤ r ↔ ¬ ∀ x ∈ L, VaGood x.1 x.2.1 x.2.2)) ∧ Below w.heap.size w w' := by
  have HL : Hid (VasAt w a n L) := h
  have hl := h.1
  have hn := h.2.1
  clear h
  go_enter Tryd.func48, Tryd.ntmps48
  go_wp2
  go_loopw [8] (fun i wr => ∃ j : Nat, j ≤ n ∧ i = .int .i64 (j : Int) ∧ (∀ x ∈ L.take j, VaGood x.1 x.2.1 x.2.2) ∧ Below w.heap.size w wr) (fun i _ => n - (RowKit.intOf i).toNat)
  case atStart => exact ⟨0, Nat.zero_le _, rfl, fun x hx => by simp at hx, Below.refl _ _⟩
  case round =>
    obtain ⟨j, hj, rfl, hg, hb⟩ := hrel
    have HG : Hid (∀ x ∈ L.take j, VaGood x.1 x.2.1 x.2.2) := hg
    have HBW : Hid (Below w.heap.size w wr) := hb
    clear hg hb
    by_cases hlt : j < n
    · rcases (HL.out.below HBW.out (Nat.le_refl _)).2.2 with h0 | ⟨p1, o1, rfl, g1⟩
      · omega
      obtain ⟨x, hx⟩ : ∃ x, L[j]? = some x := ⟨_, List.getElem?_eq_getElem (by omega)⟩
      obtain ⟨e0, e1, e2⟩ := g1 j x hx
      have HX : Hid (L[j]? = some x) := hx
      have HT : Hid (L.take (j + 1) = L.take j ++ [x]) := by
        show _ = _
        rw [List.take_succ_eq_append_getElem (by omega), ← (List.getElem?_eq_some_iff.1 hx).2]
      obtain ⟨k, m, s⟩ := x
      dsimp only at e0 e1 e2
      have hk0 : (0 : Int) ≤ (j : Int) := by omega
      have hk1 : (j : Int) < (n : Int) := by omega
      clear g1 hx
      go_wp2_with fail
      refine (tokBad_any k m s _).mono ?_
      rintro e w2 ⟨rfl, hb2⟩
      have HB2 : Hid (Below w.heap.size w w2) := HBW.out.trans (hb2.mono HBW.out.size)
      clear hb2 e0 e1 e2
      by_cases hv : VaGood k m s
      · rw [decide_eq_true hv]
        have hall : ∀ x ∈ L.take (j + 1), VaGood x.1 x.2.1 x.2.2 := by
          rw [HT.out]
          intro x hx
          rcases List.mem_append.1 hx with h1 | h1
          · exact HG.out x h1
          · simp at h1; subst h1; exact hv
        go_wp2
        go_roundw
        case rel => exact ⟨j + 1, by omega, by go_num, hall, HB2.out⟩
        case measure => simp [RowKit.intOf]; omega
      · rw [decide_eq_false hv]
        have HV : Hid (¬ ∀ x ∈ L, VaGood x.1 x.2.1 x.2.2) := fun h => hv (h _ (List.mem_of_getElem? HX.out))
        clear hv
        go_wp2
        go_ret
        exact ⟨(j : Int), ⟨rfl, ⟨fun _ => HV.out, fun _ => by omega⟩⟩, HB2.out⟩
    · obtain rfl : j = n := by omega
      have HALL : Hid (∀ x ∈ L, VaGood x.1 x.2.1 x.2.2) := by
        have h1 := HG.out
        rwa [List.take_of_length_le (by omega)] at h1
      go_wp2
      go_ret
      exact ⟨-1, ⟨rfl, ⟨fun h => by omega, fun h => absurd HALL.out h⟩⟩, HBW.out⟩
theorem tokContains_any (a : Option Addr) (n c : Nat) (L : List Va3) (w : World) (h : VasAt w a n L) :
    Calls Tryd.prog 30 #[.slice a n c, .func (.func 28) #[] #[]] w fun e w' => e = .returned (.bool !(decide (∀ x ∈ L, VaGood x.1 x.2.1 x.2.2))) ∧ Below w.heap.size w w' := by
  have HL : Hid (VasAt w a n L) := h
  clear h
  obtain ⟨B, hB⟩ : ∃ B, decide (∀ x ∈ L, VaGood x.1 x.2.1 x.2.2) = B := ⟨_, rfl⟩
  rw [hB]
  have HB : Hid (decide (∀ x ∈ L, VaGood x.1 x.2.1 x.2.2) = B) := hB
  clear hB
  go_enter Tryd.func30, Tryd.ntmps30
  go_wp2_with fail
  refine (tokIndex_any a n c L w HL.out).mono ?_
  rintro e w1 ⟨r, ⟨rfl, hr⟩, hb1⟩
  have HB1 : Hid (Below w.heap.size w w1) := hb1
  by_cases hall : ∀ x ∈ L, VaGood x.1 x.2.1 x.2.2
  · obtain rfl : true = B := (decide_eq_true hall).symm.trans HB.out
    have h1 : Hid (decide (0 ≤ r) = false) := decide_eq_false fun h => hr.1 h hall
    clear hr hall hb1
    go_wp2
    go_ret
    exact ⟨by show Ending.returned (.bool (decide (0 ≤ r))) = _; rw [h1.out]; rfl, HB1.out⟩
  · obtain rfl : false = B := (decide_eq_false hall).symm.trans HB.out
    have h1 : Hid (decide (0 ≤ r) = true) := decide_eq_true (hr.2 hall)
    clear hr hall hb1
    go_wp2
    go_ret
    exact ⟨by show Ending.returned (.bool (decide (0 ≤ r))) = _; rw [h1.out]; rfl, HB1.out⟩
theorem implTupleOk_any (a : Option Addr) (n c : Nat) (L : List Va3) (w : World) (h : VasAt w a n L) :
    Calls Tryd.prog 14 #[.slice a n c] w fun e w' => e = .returned (.bool (decide (TupGood L))) ∧ Below w.heap.size w w' := by
  have HL : Hid (VasAt w a n L) := h
  have hl := h.1
  have hn := h.2.1
  clear h
  by_cases h4 : n ≤ 4
  · have h5 : (n : Int) ≤ 4 := by omega
    have HD : Hid (decide (TupGood L) = decide (∀ x ∈ L, VaGood x.1 x.2.1 x.2.2)) := decide_eq_decide.2 ⟨fun h => h.1, fun h => ⟨h, by omega⟩⟩
    rw [HD.out]
    obtain ⟨B, hB⟩ : ∃ B, decide (∀ x ∈ L, VaGood x.1 x.2.1 x.2.2) = B := ⟨_, rfl⟩
    have HB : Hid (decide (∀ x ∈ L, VaGood x.1 x.2.1 x.2.2) = B) := hB
    rw [hB]
    clear hB
    go_enter Tryd.func14, Tryd.ntmps14
    go_wp2_with fail
    refine (tokContains_any a n c L w HL.out).mono ?_
    rintro e w1 ⟨rfl, hb1⟩
    rw [HB.out]
    have HB1 : Hid (Below w.heap.size w w1) := hb1
    clear hb1
    go_wp2
    go_ret
    cases B <;> exact ⟨rfl, HB1.out⟩
  · have h5 : ¬ (n : Int) ≤ 4 := by omega
    have HD : Hid (decide (TupGood L) = false) := decide_eq_false fun h => by have := h.2; omega
    rw [HD.out]
    go_enter Tryd.func14, Tryd.ntmps14
    go_wp2
    go_ret
    exact ⟨rfl, Below.refl _ _⟩
open Go.Lib (byteCells byteCells_length byteCells_append)

def Grw (w : World) (v : Value) (w' : World) (v' : Value) : Prop := w.grownBy w' v.ownBlock ∧ ∀ j, v'.ownBlock = some j → w.heap.size ≤ j ∨ v.ownBlock = some j
theorem Grw.refl (w : World) (v : Value) : Grw w v w v := ⟨⟨rfl, rfl, rfl, Nat.le_refl _, fun _ _ _ => rfl⟩, fun _ h => .inr h⟩
theorem Grw.trans {w w1 w2 : World} {v v1 v2 : Value} (h : Grw w v w1 v1) (k : Grw w1 v1 w2 v2) : Grw w v w2 v2 :=
  ⟨h.1.andThen k.1 h.2, fun j e => (k.2 j e).elim (fun x => .inl (Nat.le_trans h.1.size x)) (h.2 j)⟩
theorem Grw.alloc {w w1 : World} {v v1 : Value} (h : Grw w v w1 v1) (o : Obj) : Grw w v (w1.alloc o) v1 := ⟨h.1.trans (World.grownBy_alloc w1 o _), h.2⟩
theorem Grw.below {w w1 w2 : World} {v v1 : Value} (h : Grw w v w1 v1) (hb : Below w1.heap.size w1 w2) : Grw w v w2 v1 := ⟨h.1.trans ⟨hb.os, hb.tape, hb.output, hb.size, fun k hk _ => hb.block k hk⟩, h.2⟩
theorem Grw.bel {a w w' : World} {v v' : Value} {B : Nat} (h : Grw w v w' v') (hb : Below B a w) (hs : B ≤ w.heap.size) (hv : ∀ k, v.ownBlock = some k → B ≤ k) : Below B a w' := below_app hb hs hv h.1
theorem Grw.box {w w' : World} {v v' : Value} {b : Nat} {cs : Array Value} {T : TypeId} (h : Grw w v w' v') (hb : Box w b cs T) (hne : ∀ k, v.ownBlock = some k → k ≠ b) : Box w' b cs T :=
  (h.1.block b hb.lt (fun e => hne b e.symm rfl)).trans hb
theorem list_appG {ops : Array Oper} {rest : List Oper} {o : Oper} {a : Act} (w : World) {Q : Exit → Act → World → Prop} (hg : o.guard = none) (s x : Operand)
    (ho : o.op = .call { callee := .builtin .append, args := #[s, x], argTypes := #[22, 22] })
    (base : Nat) (v : Value) (l : List UInt8) (hs : a.eval s = v) (hown : BOwn w base v l)
    (ad : Addr) (c : Nat) (news : List UInt8) (hx : a.eval x = .slice (some ad) news.length c) (hnews : ∀ j u, (byteCells news)[j]? = some u → w.cell? (ad.add j) = some u)
    (hle : l.length + news.length ≤ 1099511627776) (hbase : base ≤ w.heap.size)
    (h : ∀ v' w', BOwn w' base v' (l ++ news) → (∀ w0 v0, Grw w0 v0 w v → Grw w0 v0 w' v') → wpList Tryd.prog ops Q rest (a.put o.dst v') w') : wpList Tryd.prog ops Q (o :: rest) a w := by
  obtain ⟨i0, hi, hz0, hz1, hz2⟩ := info_parts infoByte
  refine wpList_append_own_at (w := w) hg s x 22 ho base 5 i0 (.int .u8 0) 1 1 Tryd.underlying22 hi hz0 hz1 hz2 (by rfl) (by decide) v l.length (byteCells l) hs hown ad news.length c (byteCells news) hx (by simp [byteCells_length]) hnews bcell_one (by unfold maxLen; omega) (by omega) hbase ?_
  intro v' w' hown' hgrow _ hat
  refine h v' w' ?_ (fun w0 v0 h0 => h0.trans ⟨hgrow, fun j e => hat.elim (fun x => .inr (x ▸ e)) (fun x => .inl (by rw [x] at e; cases e; exact Nat.le_refl _))⟩)
  unfold BOwn
  rw [byteCells_append, List.length_append]
  exact hown'
def AppSays (base : Nat) (w : World) (v : Value) (l : List UInt8) (e : Ending) (w' : World) : Prop := ∃ v', e = .returned v' ∧ BOwn w' base v' l ∧ Grw w v w' v'
theorem shift_byte2 {m : Nat} {j : Nat} (h : j < 8) : (m : Int) / 2 ^ (8 * (7 - j)) % 256 = ((m / 256 ^ (8 - 1 - j) % 256 : Nat) : Int) := by
  have h1 := shift_byte (m := m) h
  rw [show (56 - 8 * (j : Int)).toNat = 8 * (7 - j) by omega] at h1
  exact h1
theorem appendInt_any (base : Nat) (v : Value) (l : List UInt8) (n : Int) (hn : -1000000000000 ≤ n ∧ n ≤ 1000000000000) (m : Nat) (hm : n + 4611686018427387904 = (m : Int)) (w : World) (ho : BOwn w base v l) (hl : l.length ≤ 1000000) (hb : base ≤ w.heap.size) :
    Calls Tryd.prog 37 #[v, .int .i64 n] w fun e w' => AppSays base w v (l ++ beN 8 m) e w' := by
  have HO0 : Hid (BOwn w base v l) := ho
  have HSB : Hid (base ≤ w.heap.size) := hb
  have HLL : Hid (l.length ≤ 1000000) := hl
  have hm0 : (0 : Int) ≤ (m : Int) := by omega
  have hm1 : (m : Int) ≤ 9223372036854775807 := by omega
  have hadd : wrap64 (n + 4611686018427387904) = (m : Int) := by rw [hm]; unfold wrap64; omega
  clear ho hl hb hm hn
  go_enter Tryd.func37, Tryd.ntmps37
  go_wp2
  go_loopw [0, 6] (fun u i wr => ∃ j : Nat, j ≤ 8 ∧ i = .int .i64 (j : Int) ∧ BOwn wr base u (l ++ (beN 8 m).take j) ∧ Grw w v wr u) (fun _ i _ => (8 - RowKit.intOf i).toNat)
  case atStart => exact ⟨0, Nat.zero_le _, rfl, by rw [List.take_zero, List.append_nil]; exact HO0.out, Grw.refl _ _⟩
  case round =>
    obtain ⟨j, hj, rfl, ho, hk⟩ := hrel
    have HO : Hid (BOwn wr base u0 (l ++ (beN 8 m).take j)) := ho
    have HKP : Hid (Grw w v wr u0) := hk
    have HSZ : Hid (base ≤ wr.heap.size) := Nat.le_trans HSB.out hk.1.size
    clear ho hk
    by_cases hlt : j < 8
    · have hk0 : (0 : Int) ≤ (j : Int) := by omega
      have hk1 : (j : Int) < 8 := by omega
      have HSH := shift_byte2 (m := m) hlt
      obtain ⟨q, hq⟩ : ∃ q : Nat, m / 256 ^ (8 - 1 - j) % 256 = q := ⟨_, rfl⟩
      have hq256 : q < 256 := by omega
      have HNEW : Hid ((l ++ (beN 8 m).take j) ++ [UInt8.ofNat q] = l ++ (beN 8 m).take (j + 1)) := by show _ = _; rw [beN_succ hlt, hq, List.append_assoc]
      rw [hq] at HSH
      have HLEN : Hid ((l ++ (beN 8 m).take j).length ≤ 1000008) := by show _ ≤ _; rw [List.length_append, List.length_take]; have := HLL.out; omega
      have HQ : Hid (.int .u8 (q : Int) = (Value.int .u8 ((UInt8.ofNat q).toNat : Int))) := by show _ = _; rw [u8_nat hq256]
      clear hq
      go_upto_region 4 with (fail)
      (try rw [hadd])
      go_wp2_with
        (at_builtin
         refine list_appG _ rfl _ _ rfl base u0 _ rfl (HO.out.alloc _) ⟨wr.heap.size, 0, none⟩ 1 [UInt8.ofNat q] rfl (bnews _ _ rfl _ (by rw [HQ.out]; rfl)) (by have := HLEN.out; simp only [List.length_cons, List.length_nil]; omega) (by have := HSZ.out; simp; omega) ?_
         intro v1 w1 hown hbel
         have HO1 : Hid (BOwn w1 base v1 _) := hown
         have HK1 : Hid (Grw w v w1 v1) := hbel _ _ (HKP.out.alloc _)
         have HS1 : Hid (base ≤ w1.heap.size) := Nat.le_trans HSB.out HK1.out.1.size
         clear hown hbel)
      have HO1' := HO1
      rw [HNEW.out] at HO1'
      go_roundw
      case rel => exact ⟨j + 1, by omega, by go_num, HO1'.out, HK1.out⟩
      case measure => simp [RowKit.intOf]; omega
    · obtain rfl : 8 = j := by omega
      have HT : Hid (BOwn wr base u0 (l ++ beN 8 m)) := by
        have h1 := HO.out
        rw [List.take_of_length_le (by rw [beN_length]; exact Nat.le_refl _)] at h1
        exact h1
      go_wp2
      go_ret
      exact ⟨_, rfl, HT.out, HKP.out⟩
open Go.Lib (byteCells byteCells_length byteCells_append)

theorem appendText_any (base : Nat) (v : Value) (l : List UInt8) (s : ByteArray) (hs : s.size ≤ 20) (w : World) (ho : BOwn w base v l) (hl : l.length ≤ 1000000) (hb : base ≤ w.heap.size) :
    Calls Tryd.prog 38 #[v, .string s] w fun e w' => AppSays base w v (l ++ (escB s.data.toList ++ [0, 1])) e w' := by
  have HO0 : Hid (BOwn w base v l) := ho
  have HSB : Hid (base ≤ w.heap.size) := hb
  have HLL : Hid (l.length ≤ 1000000) := hl
  clear ho hl hb
  go_enter Tryd.func38, Tryd.ntmps38
  go_wp2
  go_loopw [0, 8] (fun u i wr => ∃ j : Nat, j ≤ s.size ∧ i = .int .i64 (j : Int) ∧ BOwn wr base u (l ++ escB (s.data.toList.take j)) ∧ Grw w v wr u) (fun _ i _ => s.size - (RowKit.intOf i).toNat)
  case atStart => exact ⟨0, Nat.zero_le _, rfl, by rw [List.take_zero]; show BOwn _ _ _ (l ++ []); rw [List.append_nil]; exact HO0.out, Grw.refl _ _⟩
  case round =>
    obtain ⟨j, hj, rfl, ho, hk⟩ := hrel
    have HO : Hid (BOwn wr base u0 (l ++ escB (s.data.toList.take j))) := ho
    have HKP : Hid (Grw w v wr u0) := hk
    have HSZ : Hid (base ≤ wr.heap.size) := Nat.le_trans HSB.out hk.1.size
    have HLEN : Hid ((l ++ escB (s.data.toList.take j)).length ≤ 1000041) := by
      show _ ≤ _
      have h1 := escB_le (s.data.toList.take j)
      have h2 := HLL.out
      rw [List.length_take] at h1
      rw [List.length_append]
      omega
    clear ho hk
    by_cases hlt : j < s.size
    · have hk0 : (0 : Int) ≤ (j : Int) := by omega
      have hk1 : (j : Int) < (s.size : Int) := by omega
      have hbd : j < s.data.size := hlt
      have hb? : s.data.toList[j]? = some (s[j]'hlt) := by
        rw [Array.getElem?_toList]
        exact Array.getElem?_eq_getElem hlt
      obtain ⟨b, hbq⟩ : ∃ b, s[j]'hlt = b := ⟨_, rfl⟩
      have HX := escB_succ hb?
      rw [hbq] at HX
      go_upto_region 5 with
        (at_builtin
         refine list_appG _ rfl _ _ rfl base u0 _ rfl (HO.out.alloc _) ⟨wr.heap.size, 0, none⟩ 1 [b] rfl (bnews _ _ rfl _ rfl) (by have := HLEN.out; simp only [List.length_cons, List.length_nil]; omega) (by have := HSZ.out; simp; omega) ?_
         intro v1 w1 hown hbel
         have HO1 : Hid (BOwn w1 base v1 _) := hown
         have HK1 : Hid (Grw w v w1 v1) := hbel _ _ (HKP.out.alloc _)
         have HS1 : Hid (base ≤ w1.heap.size) := Nat.le_trans HSB.out HK1.out.1.size
         clear hown hbel)
      by_cases hb0 : b = 0
      · have hbe : ((b.toNat : Int) == 0) = true := by rw [hb0]; rfl
        rw [if_pos hb0] at HX
        have HNEW : Hid (((l ++ escB (s.data.toList.take j)) ++ [b]) ++ [255] = l ++ escB (s.data.toList.take (j + 1))) := by show _ = _; rw [HX, hb0]; simp
        have HLE1 : Hid (((l ++ escB (s.data.toList.take j)) ++ [b]).length ≤ 1000042) := by show _ ≤ _; rw [List.length_append]; exact Nat.add_le_add_right HLEN.out 1
        clear HX hb0
        have HKP := HK1
        go_wp2_with
          (at_builtin
           refine list_appG _ rfl _ _ rfl base v1 _ rfl (HO1.out.alloc _) ⟨w1.heap.size, 0, none⟩ 1 [255] rfl (bnews _ _ rfl _ rfl) (by have := HLE1.out; simp only [List.length_cons, List.length_nil]; omega) (by have := HS1.out; simp; omega) ?_
           intro v2 w2 hown hbel
           have HO2 : Hid (BOwn w2 base v2 _) := hown
           have HK2 : Hid (Grw w v w2 v2) := hbel _ _ (HKP.out.alloc _)
           have HS2 : Hid (base ≤ w2.heap.size) := Nat.le_trans HSB.out HK2.out.1.size
           clear hown hbel)
        have HO2' := HO2
        rw [HNEW.out] at HO2'
        go_roundw
        case rel => exact ⟨j + 1, by omega, by go_num, HO2'.out, HK2.out⟩
        case measure => simp [RowKit.intOf]; omega
      · have hbe : ((b.toNat : Int) == 0) = false := by
          rw [beq_eq_false_iff_ne]
          have := u8_pos hb0
          omega
        rw [if_neg hb0] at HX
        have HNEW : Hid ((l ++ escB (s.data.toList.take j)) ++ [b] = l ++ escB (s.data.toList.take (j + 1))) := by show _ = _; rw [HX, List.append_assoc]
        have HO1' := HO1
        rw [HNEW.out] at HO1'
        clear HX hb0
        go_wp2
        go_roundw
        case rel => exact ⟨j + 1, by omega, by go_num, HO1'.out, HK1.out⟩
        case measure => simp [RowKit.intOf]; omega
    · obtain rfl : s.size = j := by omega
      have HT : Hid (BOwn wr base u0 (l ++ escB s.data.toList)) := by
        have h1 := HO.out
        rw [List.take_of_length_le (by simp)] at h1
        exact h1
      have HLT := HLEN
      rw [List.take_of_length_le (by simp)] at HLT
      go_wp2_with
        (at_builtin
         refine list_appG _ rfl _ _ rfl base u0 _ rfl (HT.out.alloc _) ⟨wr.heap.size, 0, none⟩ 2 [0, 1] rfl (bnews _ _ rfl _ rfl) (by have := HLT.out; simp only [List.length_cons, List.length_nil]; omega) (by have := HSZ.out; simp; omega) ?_
         intro v1 w1 hown hbel
         have HO1 : Hid (BOwn w1 base v1 _) := hown
         have HK1 : Hid (Grw w v w1 v1) := hbel _ _ (HKP.out.alloc _)
         have HS1 : Hid (base ≤ w1.heap.size) := Nat.le_trans HSB.out HK1.out.1.size
         clear hown hbel)
      go_ret
      have hfin := HO1.out
      rw [List.append_assoc] at hfin
      exact ⟨_, rfl, hfin, HK1.out⟩
open Go.Lib (byteCells byteCells_length byteCells_append)

theorem appV_null (base : Nat) (v : Value) (l : List UInt8) (w : World) (ho : BOwn w base v l) (hl : l.length ≤ 1000) (hb : base ≤ w.heap.size) :
    Calls Tryd.prog 20 #[v, VaV 0 0 ⟨#[]⟩] w fun e w' => AppSays base w v (l ++ [1]) e w' := by
  obtain ⟨W, hW⟩ : ∃ W, w.alloc (.cells #[.int .i64 0, .int .i64 0, .string ⟨#[]⟩] 37) = W := ⟨_, rfl⟩
  have HKP : Hid (Grw w v W v) := by rw [← hW]; exact (Grw.refl w v).alloc _
  have X0 : Hid (Box W w.heap.size #[.int .i64 0, .int .i64 0, .string ⟨#[]⟩] 37) := by rw [← hW]; exact box_of w _ _
  have HO : Hid (BOwn W base v l) := by rw [← hW]; exact ho.alloc _
  have HNE : Hid (∀ k, v.ownBlock = some k → k ≠ w.heap.size) := fun k e h => by have := own_lt ho k e; omega
  have HSB : Hid (base ≤ w.heap.size) := hb
  have HSZ : Hid (base ≤ W.heap.size) := Nat.le_trans hb HKP.out.1.size
  have HLEN : Hid (l.length ≤ 1000) := hl
  have HW : Hid (w.alloc (.cells #[.int .i64 0, .int .i64 0, .string ⟨#[]⟩] 37) = W) := hW
  obtain ⟨c0, c1, c2⟩ := X0.out.triV
  clear hW ho hl hb
  go_enter Tryd.func20, Tryd.ntmps20
  go_upto_region 1 with (fail)
  rw [HW.out]
  go_upto_region 2 with
    (at_builtin
     refine list_appG _ rfl _ _ rfl base v _ rfl (HO.out.alloc _) ⟨W.heap.size, 0, none⟩ 1 [1] rfl (bnews _ _ rfl _ rfl) (by have := HLEN.out; simp only [List.length_cons, List.length_nil]; omega) (by have := HSZ.out; simp; omega) ?_
     intro v1 w1 hown hbel
     have HO1 : Hid (BOwn w1 base v1 _) := hown
     have HK1 : Hid (Grw w v w1 v1) := hbel _ _ (HKP.out.alloc _)
     have HS1 : Hid (base ≤ w1.heap.size) := Nat.le_trans HSB.out HK1.out.1.size
     have HG1 : Hid (Grw W v w1 v1) := hbel _ _ ((Grw.refl W v).alloc _)
     clear hown hbel)
  have HKG : Hid (Grw W v w1 v1) := HG1.out
  have X1 : Hid (Box w1 w.heap.size #[.int .i64 0, .int .i64 0, .string ⟨#[]⟩] 37) := HKG.out.box X0.out HNE.out
  have HLE1 : Hid ((l ++ [1]).length ≤ 1001) := by show _ ≤ _; rw [List.length_append]; exact Nat.add_le_add_right HLEN.out 1
  clear c0 c1 c2
  obtain ⟨c0, c1, c2⟩ := X1.out.triV
  go_wp2
  go_ret
  exact ⟨_, rfl, HO1.out, HK1.out⟩
theorem appV_no (base : Nat) (v : Value) (l : List UInt8) (w : World) (ho : BOwn w base v l) (hl : l.length ≤ 1000) (hb : base ≤ w.heap.size) :
    Calls Tryd.prog 20 #[v, VaV 1 0 ⟨#[]⟩] w fun e w' => AppSays base w v (l ++ [2, 0]) e w' := by
  obtain ⟨W, hW⟩ : ∃ W, w.alloc (.cells #[.int .i64 1, .int .i64 0, .string ⟨#[]⟩] 37) = W := ⟨_, rfl⟩
  have HKP : Hid (Grw w v W v) := by rw [← hW]; exact (Grw.refl w v).alloc _
  have X0 : Hid (Box W w.heap.size #[.int .i64 1, .int .i64 0, .string ⟨#[]⟩] 37) := by rw [← hW]; exact box_of w _ _
  have HO : Hid (BOwn W base v l) := by rw [← hW]; exact ho.alloc _
  have HNE : Hid (∀ k, v.ownBlock = some k → k ≠ w.heap.size) := fun k e h => by have := own_lt ho k e; omega
  have HSB : Hid (base ≤ w.heap.size) := hb
  have HSZ : Hid (base ≤ W.heap.size) := Nat.le_trans hb HKP.out.1.size
  have HLEN : Hid (l.length ≤ 1000) := hl
  have HW : Hid (w.alloc (.cells #[.int .i64 1, .int .i64 0, .string ⟨#[]⟩] 37) = W) := hW
  obtain ⟨c0, c1, c2⟩ := X0.out.triV
  clear hW ho hl hb
  go_enter Tryd.func20, Tryd.ntmps20
  go_upto_region 1 with (fail)
  rw [HW.out]
  go_upto_region 2 with
    (at_builtin
     refine list_appG _ rfl _ _ rfl base v _ rfl (HO.out.alloc _) ⟨W.heap.size, 0, none⟩ 1 [2] rfl (bnews _ _ rfl _ rfl) (by have := HLEN.out; simp only [List.length_cons, List.length_nil]; omega) (by have := HSZ.out; simp; omega) ?_
     intro v1 w1 hown hbel
     have HO1 : Hid (BOwn w1 base v1 _) := hown
     have HK1 : Hid (Grw w v w1 v1) := hbel _ _ (HKP.out.alloc _)
     have HS1 : Hid (base ≤ w1.heap.size) := Nat.le_trans HSB.out HK1.out.1.size
     have HG1 : Hid (Grw W v w1 v1) := hbel _ _ ((Grw.refl W v).alloc _)
     clear hown hbel)
  have HKG : Hid (Grw W v w1 v1) := HG1.out
  have X1 : Hid (Box w1 w.heap.size #[.int .i64 1, .int .i64 0, .string ⟨#[]⟩] 37) := HKG.out.box X0.out HNE.out
  have HLE1 : Hid ((l ++ [2]).length ≤ 1001) := by show _ ≤ _; rw [List.length_append]; exact Nat.add_le_add_right HLEN.out 1
  clear c0 c1 c2
  obtain ⟨c0, c1, c2⟩ := X1.out.triV
  have HKP := HK1
  go_wp2_with
    (at_builtin
     refine list_appG _ rfl _ _ rfl base v1 _ rfl (HO1.out.alloc _) ⟨w1.heap.size, 0, none⟩ 1 [0] rfl (bnews _ _ rfl _ rfl) (by have := HLE1.out; simp only [List.length_cons, List.length_nil]; omega) (by have := HS1.out; simp; omega) ?_
     intro v2 w2 hown hbel
     have HO2 : Hid (BOwn w2 base v2 _) := hown
     have HK2 : Hid (Grw w v w2 v2) := hbel _ _ (HKP.out.alloc _)
     have HS2 : Hid (base ≤ w2.heap.size) := Nat.le_trans HSB.out HK2.out.1.size
     clear hown hbel)
  go_ret
  have hfin := HO2.out
  rw [List.append_assoc] at hfin
  exact ⟨_, rfl, hfin, HK2.out⟩
theorem appV_yes (base : Nat) (v : Value) (l : List UInt8) (w : World) (ho : BOwn w base v l) (hl : l.length ≤ 1000) (hb : base ≤ w.heap.size) :
    Calls Tryd.prog 20 #[v, VaV 1 1 ⟨#[]⟩] w fun e w' => AppSays base w v (l ++ [2, 1]) e w' := by
  obtain ⟨W, hW⟩ : ∃ W, w.alloc (.cells #[.int .i64 1, .int .i64 1, .string ⟨#[]⟩] 37) = W := ⟨_, rfl⟩
  have HKP : Hid (Grw w v W v) := by rw [← hW]; exact (Grw.refl w v).alloc _
  have X0 : Hid (Box W w.heap.size #[.int .i64 1, .int .i64 1, .string ⟨#[]⟩] 37) := by rw [← hW]; exact box_of w _ _
  have HO : Hid (BOwn W base v l) := by rw [← hW]; exact ho.alloc _
  have HNE : Hid (∀ k, v.ownBlock = some k → k ≠ w.heap.size) := fun k e h => by have := own_lt ho k e; omega
  have HSB : Hid (base ≤ w.heap.size) := hb
  have HSZ : Hid (base ≤ W.heap.size) := Nat.le_trans hb HKP.out.1.size
  have HLEN : Hid (l.length ≤ 1000) := hl
  have HW : Hid (w.alloc (.cells #[.int .i64 1, .int .i64 1, .string ⟨#[]⟩] 37) = W) := hW
  obtain ⟨c0, c1, c2⟩ := X0.out.triV
  clear hW ho hl hb
  go_enter Tryd.func20, Tryd.ntmps20
  go_upto_region 1 with (fail)
  rw [HW.out]
  go_upto_region 2 with
    (at_builtin
     refine list_appG _ rfl _ _ rfl base v _ rfl (HO.out.alloc _) ⟨W.heap.size, 0, none⟩ 1 [2] rfl (bnews _ _ rfl _ rfl) (by have := HLEN.out; simp only [List.length_cons, List.length_nil]; omega) (by have := HSZ.out; simp; omega) ?_
     intro v1 w1 hown hbel
     have HO1 : Hid (BOwn w1 base v1 _) := hown
     have HK1 : Hid (Grw w v w1 v1) := hbel _ _ (HKP.out.alloc _)
     have HS1 : Hid (base ≤ w1.heap.size) := Nat.le_trans HSB.out HK1.out.1.size
     have HG1 : Hid (Grw W v w1 v1) := hbel _ _ ((Grw.refl W v).alloc _)
     clear hown hbel)
  have HKG : Hid (Grw W v w1 v1) := HG1.out
  have X1 : Hid (Box w1 w.heap.size #[.int .i64 1, .int .i64 1, .string ⟨#[]⟩] 37) := HKG.out.box X0.out HNE.out
  have HLE1 : Hid ((l ++ [2]).length ≤ 1001) := by show _ ≤ _; rw [List.length_append]; exact Nat.add_le_add_right HLEN.out 1
  clear c0 c1 c2
  obtain ⟨c0, c1, c2⟩ := X1.out.triV
  have HKP := HK1
  go_wp2_with
    (at_builtin
     refine list_appG _ rfl _ _ rfl base v1 _ rfl (HO1.out.alloc _) ⟨w1.heap.size, 0, none⟩ 1 [1] rfl (bnews _ _ rfl _ rfl) (by have := HLE1.out; simp only [List.length_cons, List.length_nil]; omega) (by have := HS1.out; simp; omega) ?_
     intro v2 w2 hown hbel
     have HO2 : Hid (BOwn w2 base v2 _) := hown
     have HK2 : Hid (Grw w v w2 v2) := hbel _ _ (HKP.out.alloc _)
     have HS2 : Hid (base ≤ w2.heap.size) := Nat.le_trans HSB.out HK2.out.1.size
     clear hown hbel)
  go_ret
  have hfin := HO2.out
  rw [List.append_assoc] at hfin
  exact ⟨_, rfl, hfin, HK2.out⟩
theorem appV_int (base : Nat) (v : Value) (l : List UInt8) (n : Int) (hn : -1000000000000 ≤ n ∧ n ≤ 1000000000000) (m : Nat) (hm : n + 4611686018427387904 = (m : Int)) (w : World) (ho : BOwn w base v l) (hl : l.length ≤ 1000) (hb : base ≤ w.heap.size) :
    Calls Tryd.prog 20 #[v, VaV 2 n ⟨#[]⟩] w fun e w' => AppSays base w v (l ++ (3 :: beN 8 m)) e w' := by
  have HN : Hid (-1000000000000 ≤ n ∧ n ≤ 1000000000000) := hn
  have HM : Hid (n + 4611686018427387904 = (m : Int)) := hm
  clear hn hm
  obtain ⟨W, hW⟩ : ∃ W, w.alloc (.cells #[.int .i64 2, .int .i64 n, .string ⟨#[]⟩] 37) = W := ⟨_, rfl⟩
  have HKP : Hid (Grw w v W v) := by rw [← hW]; exact (Grw.refl w v).alloc _
  have X0 : Hid (Box W w.heap.size #[.int .i64 2, .int .i64 n, .string ⟨#[]⟩] 37) := by rw [← hW]; exact box_of w _ _
  have HO : Hid (BOwn W base v l) := by rw [← hW]; exact ho.alloc _
  have HNE : Hid (∀ k, v.ownBlock = some k → k ≠ w.heap.size) := fun k e h => by have := own_lt ho k e; omega
  have HSB : Hid (base ≤ w.heap.size) := hb
  have HSZ : Hid (base ≤ W.heap.size) := Nat.le_trans hb HKP.out.1.size
  have HLEN : Hid (l.length ≤ 1000) := hl
  have HW : Hid (w.alloc (.cells #[.int .i64 2, .int .i64 n, .string ⟨#[]⟩] 37) = W) := hW
  obtain ⟨c0, c1, c2⟩ := X0.out.triV
  clear hW ho hl hb
  go_enter Tryd.func20, Tryd.ntmps20
  go_upto_region 1 with (fail)
  rw [HW.out]
  go_upto_region 2 with
    (at_builtin
     refine list_appG _ rfl _ _ rfl base v _ rfl (HO.out.alloc _) ⟨W.heap.size, 0, none⟩ 1 [3] rfl (bnews _ _ rfl _ rfl) (by have := HLEN.out; simp only [List.length_cons, List.length_nil]; omega) (by have := HSZ.out; simp; omega) ?_
     intro v1 w1 hown hbel
     have HO1 : Hid (BOwn w1 base v1 _) := hown
     have HK1 : Hid (Grw w v w1 v1) := hbel _ _ (HKP.out.alloc _)
     have HS1 : Hid (base ≤ w1.heap.size) := Nat.le_trans HSB.out HK1.out.1.size
     have HG1 : Hid (Grw W v w1 v1) := hbel _ _ ((Grw.refl W v).alloc _)
     clear hown hbel)
  have HKG : Hid (Grw W v w1 v1) := HG1.out
  have X1 : Hid (Box w1 w.heap.size #[.int .i64 2, .int .i64 n, .string ⟨#[]⟩] 37) := HKG.out.box X0.out HNE.out
  have HLE1 : Hid ((l ++ [3]).length ≤ 1001) := by show _ ≤ _; rw [List.length_append]; exact Nat.add_le_add_right HLEN.out 1
  clear c0 c1 c2
  obtain ⟨c0, c1, c2⟩ := X1.out.triV
  go_wp2_with fail
  refine (appendInt_any base v1 _ n HN.out m HM.out w1 HO1.out (by have := HLE1.out; omega) HS1.out).mono ?_
  rintro e w2 ⟨v2, rfl, hown, hg⟩
  have HO2 : Hid (BOwn w2 base v2 _) := hown
  have HK2 : Hid (Grw w v w2 v2) := HK1.out.trans hg
  clear hown hg c0 c1 c2
  go_wp2
  go_ret
  have hfin := HO2.out
  rw [List.append_assoc] at hfin
  exact ⟨_, rfl, hfin, HK2.out⟩
theorem appV_text (base : Nat) (v : Value) (l : List UInt8) (s : ByteArray) (hs : s.size ≤ 20) (w : World) (ho : BOwn w base v l) (hl : l.length ≤ 1000) (hb : base ≤ w.heap.size) :
    Calls Tryd.prog 20 #[v, VaV 3 0 s] w fun e w' => AppSays base w v (l ++ (4 :: (escB s.data.toList ++ [0, 1]))) e w' := by
  have HSS : Hid (s.size ≤ 20) := hs
  clear hs
  obtain ⟨W, hW⟩ : ∃ W, w.alloc (.cells #[.int .i64 3, .int .i64 0, .string s] 37) = W := ⟨_, rfl⟩
  have HKP : Hid (Grw w v W v) := by rw [← hW]; exact (Grw.refl w v).alloc _
  have X0 : Hid (Box W w.heap.size #[.int .i64 3, .int .i64 0, .string s] 37) := by rw [← hW]; exact box_of w _ _
  have HO : Hid (BOwn W base v l) := by rw [← hW]; exact ho.alloc _
  have HNE : Hid (∀ k, v.ownBlock = some k → k ≠ w.heap.size) := fun k e h => by have := own_lt ho k e; omega
  have HSB : Hid (base ≤ w.heap.size) := hb
  have HSZ : Hid (base ≤ W.heap.size) := Nat.le_trans hb HKP.out.1.size
  have HLEN : Hid (l.length ≤ 1000) := hl
  have HW : Hid (w.alloc (.cells #[.int .i64 3, .int .i64 0, .string s] 37) = W) := hW
  obtain ⟨c0, c1, c2⟩ := X0.out.triV
  clear hW ho hl hb
  go_enter Tryd.func20, Tryd.ntmps20
  go_upto_region 1 with (fail)
  rw [HW.out]
  go_upto_region 2 with
    (at_builtin
     refine list_appG _ rfl _ _ rfl base v _ rfl (HO.out.alloc _) ⟨W.heap.size, 0, none⟩ 1 [4] rfl (bnews _ _ rfl _ rfl) (by have := HLEN.out; simp only [List.length_cons, List.length_nil]; omega) (by have := HSZ.out; simp; omega) ?_
     intro v1 w1 hown hbel
     have HO1 : Hid (BOwn w1 base v1 _) := hown
     have HK1 : Hid (Grw w v w1 v1) := hbel _ _ (HKP.out.alloc _)
     have HS1 : Hid (base ≤ w1.heap.size) := Nat.le_trans HSB.out HK1.out.1.size
     have HG1 : Hid (Grw W v w1 v1) := hbel _ _ ((Grw.refl W v).alloc _)
     clear hown hbel)
  have HKG : Hid (Grw W v w1 v1) := HG1.out
  have X1 : Hid (Box w1 w.heap.size #[.int .i64 3, .int .i64 0, .string s] 37) := HKG.out.box X0.out HNE.out
  have HLE1 : Hid ((l ++ [4]).length ≤ 1001) := by show _ ≤ _; rw [List.length_append]; exact Nat.add_le_add_right HLEN.out 1
  clear c0 c1 c2
  obtain ⟨c0, c1, c2⟩ := X1.out.triV
  go_wp2_with fail
  refine (appendText_any base v1 _ s HSS.out w1 HO1.out (by have := HLE1.out; omega) HS1.out).mono ?_
  rintro e w2 ⟨v2, rfl, hown, hg⟩
  have HO2 : Hid (BOwn w2 base v2 _) := hown
  have HK2 : Hid (Grw w v w2 v2) := HK1.out.trans hg
  clear hown hg c0 c1 c2
  go_wp2
  go_ret
  have hfin := HO2.out
  rw [List.append_assoc] at hfin
  exact ⟨_, rfl, hfin, HK2.out⟩
theorem appendValue_any (base : Nat) (v : Value) (l : List UInt8) (x : Va3) (hg : VaGood x.1 x.2.1 x.2.2) (w : World) (ho : BOwn w base v l) (hl : l.length ≤ 1000) (hb : base ≤ w.heap.size) :
    Calls Tryd.prog 20 #[v, VaV x.1 x.2.1 x.2.2] w fun e w' => AppSays base w v (l ++ vaB x) e w' := by
  obtain ⟨k, n, s⟩ := x
  dsimp only at hg ⊢
  rcases hg with ⟨rfl, rfl, h2⟩ | ⟨rfl, h1, h2⟩ | ⟨rfl, h1, h2⟩ | ⟨rfl, rfl, h2⟩
  · rw [str_nil h2]
    exact appV_null base v l w ho hl hb
  · rw [str_nil h2]
    rcases (show n = 0 ∨ n = 1 by omega) with rfl | rfl
    · exact appV_no base v l w ho hl hb
    · exact appV_yes base v l w ho hl hb
  · rw [str_nil h2]
    exact appV_int base v l n h1 (n + 4611686018427387904).toNat (by omega) w ho hl hb
  · exact appV_text base v l s h2 w ho hl hb
open Go.Lib (byteCells byteCells_length byteCells_append)

theorem implTupleBytes_any (a : Option Addr) (n c : Nat) (L : List Va3) (w : World) (h : VasAt w a n L) :
    Calls Tryd.prog 6 #[.slice a n c] w fun e w' => VbSays w (tupBytes L) e w' := by
  have HL : Hid (VasAt w a n L) := h
  have hl := h.1
  have hn := h.2.1
  clear h
  by_cases hg : TupGood L
  · have HTG : Hid (TupGood L) := hg
    have HT : Hid (decide (TupGood L) = true) := decide_eq_true hg
    have HE : Hid (tupBytes L = tupB L) := if_pos hg
    rw [HE.out]
    have h4 : n ≤ 4 := by have := hg.2; omega
    clear hg
    go_enter Tryd.func6, Tryd.ntmps6
    go_wp2_with fail
    refine (implTupleOk_any a n c L w HL.out).mono ?_
    rintro e w1 ⟨rfl, hb1⟩
    rw [HT.out]
    have HB1 : Hid (Below w.heap.size w w1) := hb1
    clear hb1
    go_wp2
    go_loopw [3, 11] (fun v i wr => ∃ j : Nat, j ≤ n ∧ i = .int .i64 (j : Int) ∧ BOwn wr w.heap.size v (tupB (L.take j)) ∧ Below w.heap.size w wr) (fun _ i _ => n - (RowKit.intOf i).toNat)
    case atStart => exact ⟨0, Nat.zero_le _, rfl, ⟨rfl, .inl ⟨rfl, rfl⟩⟩, HB1.out⟩
    case round =>
      obtain ⟨j, hj, rfl, ho, hb⟩ := hrel
      have HO : Hid (BOwn wr w.heap.size u3 (tupB (L.take j))) := ho
      have HBW : Hid (Below w.heap.size w wr) := hb
      have HLEN : Hid ((tupB (L.take j)).length ≤ 172) := tupB_le (HTG.out.take j)
      clear ho hb
      by_cases hlt : j < n
      · rcases (HL.out.below HBW.out (Nat.le_refl _)).2.2 with h0 | ⟨p1, o1, rfl, g1⟩
        · omega
        obtain ⟨x, hx⟩ : ∃ x, L[j]? = some x := ⟨_, List.getElem?_eq_getElem (by omega)⟩
        obtain ⟨e0, e1, e2⟩ := g1 j x hx
        have HX : Hid (tupB (L.take (j + 1)) = tupB (L.take j) ++ vaB x) := tup_succ hx
        have HV : Hid (VaGood x.1 x.2.1 x.2.2) := HTG.out.1 x (List.mem_of_getElem? hx)
        obtain ⟨W, hW⟩ : ∃ W, wr.alloc (.cells #[.int .i64 x.1, .int .i64 x.2.1, .string x.2.2] 37) = W := ⟨_, rfl⟩
        have HO' : Hid (BOwn W w.heap.size u3 (tupB (L.take j))) := by rw [← hW]; exact HO.out.alloc _
        have HBW' : Hid (Below w.heap.size w W) := by rw [← hW]; exact HBW.out.alloc HBW.out.size _
        have X0 : Hid (Box W wr.heap.size #[.int .i64 x.1, .int .i64 x.2.1, .string x.2.2] 37) := by rw [← hW]; exact box_of wr _ _
        have HW : Hid (wr.alloc (.cells #[.int .i64 x.1, .int .i64 x.2.1, .string x.2.2] 37) = W) := hW
        have hk0 : (0 : Int) ≤ (j : Int) := by omega
        have hk1 : (j : Int) < (n : Int) := by omega
        clear g1 hx hW
        go_upto_region 7 with (fail)
        rw [HW.out]
        obtain ⟨c0, c1, c2⟩ := X0.out.triV
        clear e0 e1 e2
        go_wp2_with fail
        refine (appendValue_any w.heap.size u3 _ x HV.out W HO'.out (by have := HLEN.out; omega) HBW'.out.size).mono ?_
        rintro e w3 ⟨v3, rfl, hown, hg⟩
        rw [← HX.out] at hown
        have HO3 : Hid (BOwn w3 w.heap.size v3 (tupB (L.take (j + 1)))) := hown
        have HB3 : Hid (Below w.heap.size w w3) := hg.bel HBW'.out HBW'.out.size (own_block HO'.out)
        clear hown hg c0 c1 c2
        go_wp2
        go_roundw
        case rel => exact ⟨j + 1, by omega, by go_num, HO3.out, HB3.out⟩
        case measure => simp [RowKit.intOf]; omega
      · obtain rfl : n = j := by omega
        have HE2 : Hid (tupB (L.take n) = tupB L) := by show _ = _; rw [List.take_of_length_le (by omega)]
        rw [HE2.out] at HO
        go_wp2
        go_ret
        exact ⟨_, rfl, HO.out, HBW.out⟩
  · have HT : Hid (decide (TupGood L) = false) := decide_eq_false hg
    have HE : Hid (tupBytes L = []) := if_neg hg
    rw [HE.out]
    clear hg
    go_enter Tryd.func6, Tryd.ntmps6
    go_wp2_with fail
    refine (implTupleOk_any a n c L w HL.out).mono ?_
    rintro e w1 ⟨rfl, hb1⟩
    rw [HT.out]
    have HB1 : Hid (Below w.heap.size w w1) := hb1
    clear hb1
    go_wp2
    go_ret
    exact ⟨_, rfl, ⟨rfl, .inl ⟨rfl, rfl⟩⟩, HB1.out⟩
end
end Go.Proofs.YtgibeakclknhnaaDoor
