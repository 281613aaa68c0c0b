/- A Thread: as a value, its lists in memory, its lists as the call's own; the law's own functions on it (szThread, toThread, eqThread, markThread, heldThread). -/
import Derived.Test.YtemeklfkbjpnmarKOp
import Derived.Test.YtemeklfkbjpnmarKPair
import Derived.Test.YtemeklfkbjpnmarKHelp
import Derived.Lib.SmallJoins
import Derived.OpenShut
import Derived.ChangeOld
namespace Go.Proofs.Ytemeklfkbjpnmar
open Go.ChangeShapes Go.WideShapes Go.ChangeAt Go.RowKit Go.Joins

/-- What a Thread is: ops, at which, whether begun, what was read, whom it helps; numbers one behind the other. -/
structure TD where
  n0 : Nat
  fs : List Int
  pc : Int
  on : Bool
  n1 : Nat
  gs : List Int
  n2 : Nat
  hs : List Int
abbrev ThV (v0 v1 v2 : Value) (pc : Int) (on : Bool) : Value := .agg #[v0, .int .i64 pc, .bool on, v1, v2]
/-- The value is a list of n structs of k numbers, which lie there. -/
def LAt (k : Nat) (w : World) (v : Value) (n : Nat) (fs : List Int) : Prop := ∃ a c, v = .slice a n c ∧ ((a = none → c = 0) ∧ n ≤ c) ∧ KAt k w a n fs
theorem LAt.below {k : Nat} {w w' : World} {v : Value} {n : Nat} {fs : List Int} (h : LAt k w v n fs) {B : Nat} (hb : Below B w w') (hB : w.heap.size ≤ B) : LAt k w' v n fs := by
  obtain ⟨a, c, rfl, h1, h2⟩ := h
  exact ⟨a, c, rfl, h1, h2.below hb hB⟩
theorem owns_lAt {k : Nat} {w : World} {base : Nat} {e : TypeId} {n : Nat} {v : Value} {fs : List Int} (h : w.ownsRow base e k v n (fs.map I)) (hn : n ≤ 2097152) : LAt k w v n fs := by
  obtain ⟨a, c, e, hc⟩ := owns_slice h
  rcases owns_forms h with ⟨rfl, rfl⟩ | ⟨g, cap, rfl⟩
  · exact ⟨none, 0, rfl, ⟨fun _ => rfl, Nat.le_refl _⟩, owns_kAt h hn⟩
  · cases e
    exact ⟨_, c, rfl, ⟨(fun h => by cases h), hc⟩, owns_kAt h hn⟩
structure ThAt (w : World) (v0 v1 v2 : Value) (t : TD) : Prop where
  ops : LAt 3 w v0 t.n0 t.fs
  got : LAt 2 w v1 t.n1 t.gs
  stk : LAt 4 w v2 t.n2 t.hs
theorem ThAt.below {w w' : World} {v0 v1 v2 : Value} {t : TD} (h : ThAt w v0 v1 v2 t) {B : Nat} (hb : Below B w w') (hB : w.heap.size ≤ B) : ThAt w' v0 v1 v2 t :=
  ⟨h.ops.below hb hB, h.got.below hb hB, h.stk.below hb hB⟩
/-- A Thread that came in. -/
structure ThIn (w : World) (a0 a1 a2 : Option Addr) (t : TD) : Prop where
  ops : KAt 3 w a0 t.n0 t.fs
  got : KAt 2 w a1 t.n1 t.gs
  stk : KAt 4 w a2 t.n2 t.hs
theorem ThIn.below {w w' : World} {a0 a1 a2 : Option Addr} {t : TD} (h : ThIn w a0 a1 a2 t) {B : Nat} (hb : Below B w w') (hB : w.heap.size ≤ B) : ThIn w' a0 a1 a2 t :=
  ⟨h.ops.below hb hB, h.got.below hb hB, h.stk.below hb hB⟩
/-- No two of three lists lie in one block. -/
def Sep3 (v0 v1 v2 : Value) : Prop := (∀ k, v0.ownBlock = some k → v1.ownBlock ≠ some k) ∧ (∀ k, v0.ownBlock = some k → v2.ownBlock ≠ some k) ∧ (∀ k, v1.ownBlock = some k → v2.ownBlock ≠ some k)
/-- A Thread of the call's own. -/
structure ThO (w : World) (base : Nat) (v0 v1 v2 : Value) (t : TD) : Prop where
  ops : w.ownsRow base 84 3 v0 t.n0 (t.fs.map I)
  got : w.ownsRow base 86 2 v1 t.n1 (t.gs.map I)
  stk : w.ownsRow base 62 4 v2 t.n2 (t.hs.map I)
  sep : Sep3 v0 v1 v2
def TD.Small (t : TD) : Prop := t.n0 ≤ 2097152 ∧ t.n1 ≤ 2097152 ∧ t.n2 ≤ 2097152
theorem ThO.at {w : World} {base : Nat} {v0 v1 v2 : Value} {t : TD} (h : ThO w base v0 v1 v2 t) (hs : t.Small) : ThAt w v0 v1 v2 t := ⟨owns_lAt h.ops hs.1, owns_lAt h.got hs.2.1, owns_lAt h.stk hs.2.2⟩
theorem ThO.below {w w' : World} {base : Nat} {v0 v1 v2 : Value} {t : TD} (h : ThO w base v0 v1 v2 t) {B : Nat} (hb : Below B w w') (hB : w.heap.size ≤ B) : ThO w' base v0 v1 v2 t :=
  ⟨owns_below h.ops hb hB, owns_below h.got hb hB, owns_below h.stk hb hB, h.sep⟩
theorem ThO.weaken {w : World} {base base' : Nat} {v0 v1 v2 : Value} {t : TD} (h : ThO w base v0 v1 v2 t) (hb : base' ≤ base) : ThO w base' v0 v1 v2 t :=
  ⟨own_weaken h.ops hb, own_weaken h.got hb, own_weaken h.stk hb, h.sep⟩
/-- The block is one of the three lists'. -/
def In3 (v0 v1 v2 : Value) (k : Nat) : Prop := v0.ownBlock = some k ∨ v1.ownBlock = some k ∨ v2.ownBlock = some k
theorem ThO.blk {w : World} {base : Nat} {v0 v1 v2 : Value} {t : TD} (h : ThO w base v0 v1 v2 t) {k : Nat} (hk : In3 v0 v1 v2 k) : base ≤ k ∧ k < w.heap.size := by
  rcases hk with hk | hk | hk
  · exact h.ops.lt k hk
  · exact h.got.lt k hk
  · exact h.stk.lt k hk
theorem ThO.heap {w w' : World} {base : Nat} {v0 v1 v2 : Value} {t : TD} (h : ThO w base v0 v1 v2 t) (he : ∀ k, In3 v0 v1 v2 k → w'.heap[k]? = w.heap[k]?) : ThO w' base v0 v1 v2 t :=
  ⟨owns_heap h.ops fun k hk => he k (.inl hk), owns_heap h.got fun k hk => he k (.inr (.inl hk)), owns_heap h.stk fun k hk => he k (.inr (.inr hk)), h.sep⟩
theorem ThO.set {w : World} {base : Nat} {v0 v1 v2 : Value} {t : TD} (h : ThO w base v0 v1 v2 t) {q : Addr} (hq : ¬ In3 v0 v1 v2 q.block) (u : Value) : ThO (w.setCell q u) base v0 v1 v2 t :=
  h.heap fun _ hk => Below.heap_setCell _ _ _ _ (fun e => hq (e ▸ hk))
/-- What is told of a Thread that was made: its lists are new. -/
def ThAns (w : World) (t : TD) (e : Ending) (w' : World) : Prop := ∃ v0 v1 v2, e = .returned (ThV v0 v1 v2 t.pc t.on) ∧ ThO w' w.heap.size v0 v1 v2 t ∧ Below w.heap.size w w'

theorem sl_blk {g n c k : Nat} (e : (Value.slice (some ⟨g, 0, none⟩) n c).ownBlock = some k) : g = k := Option.some.inj e
theorem box_two (w : World) (o : Obj) (cs : Array Value) (T : TypeId) : Box ((w.alloc o).alloc (.cells cs T)) (w.heap.size + 1) cs T := by
  have := box_of (w.alloc o) cs T
  rwa [World.size_alloc] at this
theorem box_three (w : World) (o o' : Obj) (cs : Array Value) (T : TypeId) : Box (((w.alloc o).alloc o').alloc (.cells cs T)) (w.heap.size + 1 + 1) cs T := by
  have := box_two (w.alloc o) o' cs T
  rwa [World.size_alloc] at this
theorem Box.five {w : World} {b : Nat} {x0 x1 x2 x3 x4 : Value} {T : TypeId} (h : Box w b #[x0, x1, x2, x3, x4] T) :
    w.cell? ⟨b, 0, none⟩ = some x0 ∧ w.cell? ⟨b, 1, none⟩ = some x1 ∧ w.cell? ⟨b, 2, none⟩ = some x2 ∧ w.cell? ⟨b, 3, none⟩ = some x3 ∧ w.cell? ⟨b, 4, none⟩ = some x4 ∧
    w.frozen? ⟨b, 0, none⟩ = false ∧ w.frozen? ⟨b, 1, none⟩ = false ∧ w.frozen? ⟨b, 2, none⟩ = false ∧ w.frozen? ⟨b, 3, none⟩ = false ∧ w.frozen? ⟨b, 4, none⟩ = false :=
  ⟨h.cell 0, h.cell 1, h.cell 2, h.cell 3, h.cell 4, h.frozen 0, h.frozen 1, h.frozen 2, h.frozen 3, h.frozen 4⟩
theorem Box.four {w : World} {b : Nat} {x0 x1 x2 x3 : Value} {T : TypeId} (h : Box w b #[x0, x1, x2, x3] T) :
    w.cell? ⟨b, 0, none⟩ = some x0 ∧ w.cell? ⟨b, 1, none⟩ = some x1 ∧ w.cell? ⟨b, 2, none⟩ = some x2 ∧ w.cell? ⟨b, 3, none⟩ = some x3 ∧
    w.frozen? ⟨b, 0, none⟩ = false ∧ w.frozen? ⟨b, 1, none⟩ = false ∧ w.frozen? ⟨b, 2, none⟩ = false ∧ w.frozen? ⟨b, 3, none⟩ = false :=
  ⟨h.cell 0, h.cell 1, h.cell 2, h.cell 3, h.frozen 0, h.frozen 1, h.frozen 2, h.frozen 3⟩

set_option maxHeartbeats 1000000 in
/-- szThread: how much is left, or -1. -/
theorem szThread_any (a0 a1 a2 : Option Addr) (n0 c0 n1 c1 n2 c2 : Nat) (pc : Int) (on : Bool) (w : World) (h0 : n0 ≤ 9223372036854775807) (h1 : n1 ≤ 9223372036854775807) (h2 : n2 ≤ 9223372036854775807) :
    Calls Try.prog 14 #[ThV (.slice a0 n0 c0) (.slice a1 n1 c1) (.slice a2 n2 c2) pc on, .int .i64 1048576] w fun e w' => Below w.heap.size w w' ∧ ((e = .returned (.int .i64 (-1))) ∨ ∃ r : Int, e = .returned (.int .i64 r) ∧ 0 ≤ r ∧ n0 + n1 + n2 ≤ 1048576) := by
  obtain ⟨W, hW⟩ : ∃ W, w.alloc (.cells #[.slice a0 n0 c0, .int .i64 pc, .bool on, .slice a1 n1 c1, .slice a2 n2 c2] 39) = W := ⟨_, rfl⟩
  have hb0 : Below w.heap.size w W := by rw [← hW]; exact (Below.refl _ w).alloc (Nat.le_refl _) _
  have BX : Box W w.heap.size #[.slice a0 n0 c0, .int .i64 pc, .bool on, .slice a1 n1 c1, .slice a2 n2 c2] 39 := by rw [← hW]; exact box_of w _ _
  have HW : Hid (w.alloc (.cells #[.slice a0 n0 c0, .int .i64 pc, .bool on, .slice a1 n1 c1, .slice a2 n2 c2] 39) = W) := hW
  have HB0 : Hid (Below w.heap.size w W) := hb0
  obtain ⟨x0, x1, x2, x3, x4, -⟩ := BX.five
  clear hW hb0 BX
  by_cases f0 : (n0 : Int) ≤ 1048576
  case neg =>
    go_enter Try.func14, Try.ntmps14
    go_wp2_with fail
    rw [HW.out]
    refine (kSzOpS_big a0 n0 c0 1048576 _ (by omega) (by omega) (by omega) h0).mono ?_
    rintro e w1 ⟨rfl, rfl⟩
    go_wp2
    go_ret
    exact ⟨HB0.out, .inl rfl⟩
  have g0 : ¬ (1048576 - (n0 : Int) < 0) := by omega
  by_cases f1 : (n1 : Int) ≤ 1048576 - (n0 : Int)
  case neg =>
    go_enter Try.func14, Try.ntmps14
    go_wp2_with fail
    rw [HW.out]
    refine (kSzOpS a0 n0 c0 1048576 _ (by omega) (by omega) f0).mono ?_
    rintro e w1 ⟨rfl, rfl⟩
    go_wp2_with fail
    refine (kSzPairS_big a1 n1 c1 _ _ (by omega) (by omega) (by omega) h1).mono ?_
    rintro e w1 ⟨rfl, rfl⟩
    go_wp2
    go_ret
    exact ⟨HB0.out, .inl rfl⟩
  have g1 : ¬ (1048576 - (n0 : Int) - (n1 : Int) < 0) := by omega
  by_cases f2 : (n2 : Int) ≤ 1048576 - (n0 : Int) - (n1 : Int)
  case neg =>
    go_enter Try.func14, Try.ntmps14
    go_wp2_with fail
    rw [HW.out]
    refine (kSzOpS a0 n0 c0 1048576 _ (by omega) (by omega) f0).mono ?_
    rintro e w1 ⟨rfl, rfl⟩
    go_wp2_with fail
    refine (kSzPairS a1 n1 c1 _ _ (by omega) (by omega) f1).mono ?_
    rintro e w1 ⟨rfl, rfl⟩
    go_wp2_with fail
    refine (kSzHelpS_big a2 n2 c2 _ _ (by omega) (by omega) (by omega) h2).mono ?_
    rintro e w1 ⟨rfl, rfl⟩
    go_wp2
    go_ret
    exact ⟨HB0.out, .inl rfl⟩
  have g2 : ¬ (1048576 - (n0 : Int) - (n1 : Int) - (n2 : Int) < 0) := by omega
  go_enter Try.func14, Try.ntmps14
  go_wp2_with fail
  rw [HW.out]
  refine (kSzOpS a0 n0 c0 1048576 _ (by omega) (by omega) f0).mono ?_
  rintro e w1 ⟨rfl, rfl⟩
  go_wp2_with fail
  refine (kSzPairS a1 n1 c1 _ _ (by omega) (by omega) f1).mono ?_
  rintro e w1 ⟨rfl, rfl⟩
  go_wp2_with fail
  refine (kSzHelpS a2 n2 c2 _ _ (by omega) (by omega) f2).mono ?_
  rintro e w1 ⟨rfl, rfl⟩
  go_wp2
  go_ret
  exact ⟨HB0.out, .inr ⟨_, rfl, by omega, by omega⟩⟩

set_option maxHeartbeats 1000000 in
theorem toThread_any (a0 a1 a2 : Option Addr) (c0 c1 c2 : Nat) (t : TD) (w : World) (h : ThIn w a0 a1 a2 t) :
    Calls Try.prog 16 #[ThV (.slice a0 t.n0 c0) (.slice a1 t.n1 c1) (.slice a2 t.n2 c2) t.pc t.on] w (ThAns w t) := by
  obtain ⟨h0, h1, h2⟩ := h
  obtain ⟨n0, fs, pc, on, n1, gs, n2, hs⟩ := t
  simp only at h0 h1 h2 ⊢
  obtain ⟨sz, hsz⟩ : ∃ sz, w.heap.size = sz := ⟨_, rfl⟩
  obtain ⟨W, hW⟩ : ∃ W, ((w.alloc (.cells #[.slice a0 n0 c0, .int .i64 pc, .bool on, .slice a1 n1 c1, .slice a2 n2 c2] 39)).alloc (.cells #[.slice none 0 0, .int .i64 0, .bool false, .slice none 0 0, .slice none 0 0] 46)).alloc (.cells #[.slice none 0 0, .int .i64 0, .bool false, .slice none 0 0, .slice none 0 0] 46) = W := ⟨_, rfl⟩
  have hWs : W.heap.size = sz + 3 := by rw [← hW, ← hsz]; simp
  have hb0 : Below sz w W := by rw [← hW, ← hsz]; exact (((Below.refl _ w).alloc (Nat.le_refl _) _).alloc (by simp) _).alloc (by simp; omega) _
  have B0 : Hid (Box W sz #[.slice a0 n0 c0, .int .i64 pc, .bool on, .slice a1 n1 c1, .slice a2 n2 c2] 39) := by
    rw [← hW, ← hsz]; exact ((box_of w _ _).alloc _).alloc _
  have B1 : Hid (Box W (sz + 1) #[.slice none 0 0, .int .i64 0, .bool false, .slice none 0 0, .slice none 0 0] 46) := by
    rw [← hW, ← hsz]; exact (box_two w _ _ _).alloc _
  have B2 : Hid (Box W (sz + 1 + 1) #[.slice none 0 0, .int .i64 0, .bool false, .slice none 0 0, .slice none 0 0] 46) := by
    rw [← hW, ← hsz]; exact box_three w _ _ _ _
  have HW : Hid _ := hW
  have HSZ : Hid (w.heap.size = sz) := hsz
  have K0 : Hid (KAt 2 w a1 n1 gs ∧ KAt 4 w a2 n2 hs) := ⟨h1, h2⟩
  have H0 : Hid (KAt 3 W a0 n0 fs) := h0.below hb0 (by omega)
  have H1 : Hid (KAt 2 W a1 n1 gs) := h1.below hb0 (by omega)
  have H2 : Hid (KAt 4 W a2 n2 hs) := h2.below hb0 (by omega)
  have HB0 : Hid (Below sz w W) := hb0
  have HWS : Hid (W.heap.size = sz + 3) := hWs
  clear h0 h1 h2 hW hb0 hWs hsz
  go_enter Try.func16, Try.ntmps16
  go_wp2_with fail
  rw [HW.out, HSZ.out]
  refine (kToOpS a0 n0 c0 fs _ H0.out).mono ?_
  rintro e w1 ⟨rfl, own1, hb1⟩
  rw [HWS.out] at own1 hb1 ⊢
  have O1 : Hid (w1.ownsRow (sz + 3) 84 3 (SL (sz + 3) n0) n0 (fs.map I)) := own1
  have l1 : sz + 3 < w1.heap.size := (own1.lt (sz + 3) rfl).2
  have C0 : Hid (Box w1 sz _ _) := B0.out.below hb1 (by omega)
  have C1 : Hid (Box w1 (sz + 1) _ _) := B1.out.below hb1 (by omega)
  have C2 : Hid (Box w1 (sz + 1 + 1) _ _) := B2.out.below hb1 (by omega)
  have D0 : Hid (Box ((((w1.setCell ⟨sz + 1 + 1, 0, none⟩ (SL (sz + 3) n0)).setCell ⟨sz + 1 + 1, 1, none⟩ (.int .i64 pc)).setCell ⟨sz + 1 + 1, 2, none⟩ (.bool on))) sz _ _) := ((C0.out.set (by simp; omega) _).set (by simp; omega) _).set (by simp; omega) _
  have D1 : Hid (Box ((((w1.setCell ⟨sz + 1 + 1, 0, none⟩ (SL (sz + 3) n0)).setCell ⟨sz + 1 + 1, 1, none⟩ (.int .i64 pc)).setCell ⟨sz + 1 + 1, 2, none⟩ (.bool on))) (sz + 1) _ _) := ((C1.out.set (by simp) _).set (by simp) _).set (by simp) _
  have D2 : Hid (Box ((((w1.setCell ⟨sz + 1 + 1, 0, none⟩ (SL (sz + 3) n0)).setCell ⟨sz + 1 + 1, 1, none⟩ (.int .i64 pc)).setCell ⟨sz + 1 + 1, 2, none⟩ (.bool on))) (sz + 1 + 1) #[SL (sz + 3) n0, .int .i64 pc, .bool on, .slice none 0 0, .slice none 0 0] _) := ((C2.out.put 0 _).put 1 _).put 2 _
  obtain ⟨W1, hW1⟩ : ∃ W1, (((w1.setCell ⟨sz + 1 + 1, 0, none⟩ (SL (sz + 3) n0)).setCell ⟨sz + 1 + 1, 1, none⟩ (.int .i64 pc)).setCell ⟨sz + 1 + 1, 2, none⟩ (.bool on)) = W1 := ⟨_, rfl⟩
  have hs1 : W1.heap.size = w1.heap.size := by rw [← hW1]; simp only [size_setCell]
  have OW1 : Hid (W1.ownsRow (sz + 3) 84 3 (SL (sz + 3) n0) n0 (fs.map I)) := by
    rw [← hW1]
    exact own_setCell_far (own_setCell_far (own_setCell_far O1.out (by simp [Value.ownBlock]) _) (by simp [Value.ownBlock]) _) (by simp [Value.ownBlock]) _
  have hbW1 : Below sz w W1 := by
    rw [← hW1]
    exact (((HB0.out.trans (hb1.mono (by omega))).setCell (by simp; omega) _).setCell (by simp; omega) _).setCell (by simp; omega) _
  have HBW1 : Hid (Below sz w W1) := hbW1
  have K1 : Hid (KAt 2 W1 a1 n1 gs ∧ KAt 4 W1 a2 n2 hs) := by
    have hl : w.heap.size ≤ sz := by rw [HSZ.out]; exact Nat.le_refl _
    exact ⟨K0.out.1.below hbW1 hl, K0.out.2.below hbW1 hl⟩
  rw [hW1] at D0 D1 D2
  have HW1 : Hid _ := hW1
  obtain ⟨x0, x1, x2, x3, x4, -⟩ := C0.out.five
  obtain ⟨y0, y1, y2, y3, y4, z0, z1, z2, z3, z4⟩ := C2.out.five
  clear own1 hb1 hW1 hbW1
  go_wp2_with fail
  rw [HW1.out]
  refine (kToPairS a1 n1 c1 gs _ K1.out.1).mono ?_
  rintro e w2 ⟨rfl, own2, hb2⟩
  obtain ⟨g2, hg2⟩ : ∃ g, W1.heap.size = g := ⟨_, rfl⟩
  rw [hg2] at own2 hb2 ⊢
  have l2 : g2 < w2.heap.size := (own2.lt g2 rfl).2
  have lg : sz + 3 < g2 := by omega
  have E0 : Hid (Box w2 sz _ _) := D0.out.below hb2 (by omega)
  have E1 : Hid (Box w2 (sz + 1) _ _) := D1.out.below hb2 (by omega)
  have E2 : Hid (Box w2 (sz + 1 + 1) _ _) := D2.out.below hb2 (by omega)
  have O2 : Hid (w2.ownsRow (sz + 3) 84 3 (SL (sz + 3) n0) n0 (fs.map I) ∧ w2.ownsRow g2 86 2 (SL g2 n1) n1 (gs.map I)) := ⟨owns_below OW1.out hb2 (by omega), own2⟩
  have HB2 : Hid (Below sz w w2) := HBW1.out.trans (hb2.mono (by omega))
  obtain ⟨x0, x1, x2, x3, x4, -⟩ := E0.out.five
  obtain ⟨y0, y1, y2, y3, y4, z0, z1, z2, z3, z4⟩ := E2.out.five
  obtain ⟨W2, hW2⟩ : ∃ W2, w2.setCell ⟨sz + 1 + 1, 3, none⟩ (SL g2 n1) = W2 := ⟨_, rfl⟩
  have hs2 : W2.heap.size = w2.heap.size := by rw [← hW2]; simp only [size_setCell]
  have HW2 : Hid (w2.setCell ⟨sz + 1 + 1, 3, none⟩ (SL g2 n1) = W2) := hW2
  have F1 : Hid (Box (w2.setCell ⟨sz + 1 + 1, 3, none⟩ (SL g2 n1)) (sz + 1) _ _) := E1.out.set (by simp) _
  have F2 : Hid (Box (w2.setCell ⟨sz + 1 + 1, 3, none⟩ (SL g2 n1)) (sz + 1 + 1) #[SL (sz + 3) n0, .int .i64 pc, .bool on, SL g2 n1, .slice none 0 0] _) := E2.out.put 3 _
  rw [hW2] at F1 F2
  have hbW2 : Below sz w W2 := by rw [← hW2]; exact HB2.out.setCell (by simp; omega) _
  have HBW2 : Hid (Below sz w W2) := hbW2
  have OW2 : Hid (W2.ownsRow (sz + 3) 84 3 (SL (sz + 3) n0) n0 (fs.map I) ∧ W2.ownsRow g2 86 2 (SL g2 n1) n1 (gs.map I)) := by
    rw [← hW2]; exact ⟨own_setCell_far O2.out.1 (by simp [Value.ownBlock]) _, own_setCell_far O2.out.2 (by simp [Value.ownBlock]; omega) _⟩
  have K2 : Hid (KAt 4 W2 a2 n2 hs) := K0.out.2.below hbW2 (by rw [HSZ.out]; exact Nat.le_refl _)
  clear own2 hb2 hW2 hbW2 hg2
  go_wp2_with fail
  rw [HW2.out]
  refine (kToHelpS a2 n2 c2 hs _ K2.out).mono ?_
  rintro e w3 ⟨rfl, own3, hb3⟩
  obtain ⟨g3, hg3⟩ : ∃ g, W2.heap.size = g := ⟨_, rfl⟩
  rw [hg3] at own3 hb3 ⊢
  have l3 : g3 < w3.heap.size := (own3.lt g3 rfl).2
  have lg3 : g2 < g3 := by omega
  have G1 : Hid (Box w3 (sz + 1) _ _) := F1.out.below hb3 (by omega)
  have G2 : Hid (Box w3 (sz + 1 + 1) _ _) := F2.out.below hb3 (by omega)
  have O3 : Hid (w3.ownsRow (sz + 3) 84 3 (SL (sz + 3) n0) n0 (fs.map I) ∧ w3.ownsRow g2 86 2 (SL g2 n1) n1 (gs.map I) ∧ w3.ownsRow g3 62 4 (SL g3 n2) n2 (hs.map I)) := ⟨owns_below OW2.out.1 hb3 (by omega), owns_below OW2.out.2 hb3 (by omega), own3⟩
  have HB3 : Hid (Below sz w w3) := HBW2.out.trans (hb3.mono (by omega))
  clear x0 x1 x2 x3 x4 y0 y1 y2 y3 y4 z0 z1 z2 z3 z4
  obtain ⟨y0, y1, y2, y3, y4, z0, z1, z2, z3, z4⟩ := G2.out.five
  obtain ⟨u0, u1, u2, u3, u4, f0, f1, f2, f3, f4⟩ := G1.out.five
  clear own3 hb3 hg3
  go_wp2
  (try simp only [Exit.inBlock, Exit.then])
  refine bodyPost_ret (by simp [results, Try.results16, go_sem, u0, u1, u2, u3, u4]; try rfl) rfl ?_
  have o := O3.out
  have far1 : ∀ {g n : Nat}, sz + 3 ≤ g → (SL g n).ownBlock ≠ some (sz + 1) := fun hg e => by have e2 := sl_blk e; omega
  have far2 : ∀ {g n : Nat}, sz + 3 ≤ g → (SL g n).ownBlock ≠ some (sz + 1 + 1) := fun hg e => by have e2 := sl_blk e; omega
  have tO : ThO w3 sz (SL (sz + 3) n0) (SL g2 n1) (SL g3 n2) ⟨n0, fs, pc, on, n1, gs, n2, hs⟩ := ⟨own_weaken o.1 (by omega), own_weaken o.2.1 (by omega), own_weaken o.2.2 (by omega),
    fun k e e' => by have h1 := sl_blk e; have h2 := sl_blk e'; omega, fun k e e' => by have h1 := sl_blk e; have h2 := sl_blk e'; omega, fun k e e' => by have h1 := sl_blk e; have h2 := sl_blk e'; omega⟩
  have n1' : ¬ In3 (SL (sz + 3) n0) (SL g2 n1) (SL g3 n2) (sz + 1) := by
    rintro (e | e | e)
    · exact far1 (Nat.le_refl _) e
    · exact far1 (by omega) e
    · exact far1 (by omega) e
  have n2' : ¬ In3 (SL (sz + 3) n0) (SL g2 n1) (SL g3 n2) (sz + 1 + 1) := by
    rintro (e | e | e)
    · exact far2 (Nat.le_refl _) e
    · exact far2 (by omega) e
    · exact far2 (by omega) e
  refine ⟨SL (sz + 3) n0, SL g2 n1, SL g3 n2, rfl, ?_, ?_⟩
  · rw [HSZ.out]
    exact (((((tO.set (q := ⟨sz + 1 + 1, 4, none⟩) n2' _).set (q := ⟨sz + 1, 0, none⟩) n1' _).set (q := ⟨sz + 1, 1, none⟩) n1' _).set (q := ⟨sz + 1, 2, none⟩) n1' _).set (q := ⟨sz + 1, 3, none⟩) n1' _).set (q := ⟨sz + 1, 4, none⟩) n1' _
  · rw [HSZ.out]
    exact (((((HB3.out.setCell (by simp; omega) _).setCell (by simp) _).setCell (by simp) _).setCell (by simp) _).setCell (by simp) _).setCell (by simp) _

set_option maxHeartbeats 1000000 in
theorem eqThread_same (v0 v1 v2 u0 u1 u2 : Value) (t : TD) (w : World) (h : ThAt w v0 v1 v2 t) (h' : ThAt w u0 u1 u2 t) :
    Calls Try.prog 18 #[ThV v0 v1 v2 t.pc t.on, ThV u0 u1 u2 t.pc t.on] w fun e w' => e = .returned (.bool true) ∧ Below w.heap.size w w' := by
  obtain ⟨⟨a0, c0, rfl, _, h0⟩, ⟨a1, c1, rfl, _, h1⟩, ⟨a2, c2, rfl, _, h2⟩⟩ := h
  obtain ⟨⟨b0, d0, rfl, _, k0⟩, ⟨b1, d1, rfl, _, k1⟩, ⟨b2, d2, rfl, _, k2⟩⟩ := h'
  obtain ⟨n0, fs, pc, on, n1, gs, n2, hs⟩ := t
  simp only at h0 h1 h2 k0 k1 k2 ⊢
  have H0 : Hid (KAt 3 w a0 n0 fs ∧ KAt 3 w b0 n0 fs) := ⟨h0, k0⟩
  have H1 : Hid (KAt 2 w a1 n1 gs ∧ KAt 2 w b1 n1 gs) := ⟨h1, k1⟩
  have H2 : Hid (KAt 4 w a2 n2 hs ∧ KAt 4 w b2 n2 hs) := ⟨h2, k2⟩
  have ni : (pc != pc) = false := by simp
  have nb : (on != on) = false := by simp
  obtain ⟨W, hW⟩ : ∃ W, (w.alloc (.cells #[.slice a0 n0 c0, .int .i64 pc, .bool on, .slice a1 n1 c1, .slice a2 n2 c2] 46)).alloc (.cells #[.slice b0 n0 d0, .int .i64 pc, .bool on, .slice b1 n1 d1, .slice b2 n2 d2] 46) = W := ⟨_, rfl⟩
  have hb0 : Below w.heap.size w W := by rw [← hW]; exact ((Below.refl _ w).alloc (Nat.le_refl _) _).alloc (by simp) _
  have R1 : Hid (Box W w.heap.size #[.slice a0 n0 c0, .int .i64 pc, .bool on, .slice a1 n1 c1, .slice a2 n2 c2] 46) := by rw [← hW]; exact (box_of w _ _).alloc _
  have R2 : Hid (Box W (w.heap.size + 1) #[.slice b0 n0 d0, .int .i64 pc, .bool on, .slice b1 n1 d1, .slice b2 n2 d2] 46) := by rw [← hW]; exact box_two w _ _ _
  have HW : Hid _ := hW
  have HB0 : Hid (Below w.heap.size w W) := hb0
  clear h0 h1 h2 k0 k1 k2 hW hb0
  go_enter Try.func18, Try.ntmps18
  go_wp2_with fail
  rw [HW.out]
  refine (kEqOpS a0 b0 n0 c0 d0 fs _ (H0.out.1.below HB0.out (Nat.le_refl _)) (H0.out.2.below HB0.out (Nat.le_refl _))).mono ?_
  rintro e w1 ⟨rfl, hb1⟩
  have HB1 : Hid (Below w.heap.size w w1) := HB0.out.trans (hb1.mono HB0.out.size)
  obtain ⟨x0, x1, x2, x3, x4, -⟩ := (R1.out.below hb1 R1.out.lt).five
  obtain ⟨y0, y1, y2, y3, y4, -⟩ := (R2.out.below hb1 R2.out.lt).five
  have S1 : Hid (Box w1 w.heap.size _ _ ∧ Box w1 (w.heap.size + 1) _ _) := ⟨R1.out.below hb1 R1.out.lt, R2.out.below hb1 R2.out.lt⟩
  clear hb1
  go_wp2_with fail
  refine (kEqPairS a1 b1 n1 c1 d1 gs _ (H1.out.1.below HB1.out (Nat.le_refl _)) (H1.out.2.below HB1.out (Nat.le_refl _))).mono ?_
  rintro e w2 ⟨rfl, hb2⟩
  have HB2 : Hid (Below w.heap.size w w2) := HB1.out.trans (hb2.mono HB1.out.size)
  clear x0 x1 x2 x3 x4 y0 y1 y2 y3 y4
  obtain ⟨x0, x1, x2, x3, x4, -⟩ := (S1.out.1.below hb2 S1.out.1.lt).five
  obtain ⟨y0, y1, y2, y3, y4, -⟩ := (S1.out.2.below hb2 S1.out.2.lt).five
  clear hb2
  go_wp2_with fail
  refine (kEqHelpS a2 b2 n2 c2 d2 hs _ (H2.out.1.below HB2.out (Nat.le_refl _)) (H2.out.2.below HB2.out (Nat.le_refl _))).mono ?_
  rintro e w3 ⟨rfl, hb3⟩
  have hall : Below w.heap.size w w3 := HB2.out.trans (hb3.mono HB2.out.size)
  clear hb3
  go_wp2
  go_ret
  exact ⟨rfl, hall⟩

/-- What markThread makes of it, from k on. -/
def TD.mark (t : TD) (k : Int) : TD := { t with fs := asc k (t.n0 * 3), gs := asc (k + (t.n0 : Int) * 3) (t.n1 * 2), hs := asc (k + (t.n0 : Int) * 3 + (t.n1 : Int) * 2) (t.n2 * 4) }
def TD.off (t : TD) : Int := (t.n0 : Int) * 3 + (t.n1 : Int) * 2 + (t.n2 : Int) * 4
set_option maxHeartbeats 1000000 in
theorem markThread_o (base : Nat) (v0 v1 v2 : Value) (t : TD) (w : World) (hs : t.Small) (h : ThO w base v0 v1 v2 t) :
    Calls Try.prog 25 #[ThV v0 v1 v2 t.pc t.on, .int .i64 1] w fun e w' => e = .returned (.int .i64 (1 + t.off)) ∧ ThO w' base v0 v1 v2 (t.mark 1) ∧ Below (min base w.heap.size) w w' ∧ ∀ b, b < w.heap.size → ¬ In3 v0 v1 v2 b → w'.heap[b]? = w.heap[b]? := by
  obtain ⟨n0, fs, pc, on, n1, gs, n2, hs'⟩ := t
  obtain ⟨s0, s1, s2⟩ := hs
  simp only [TD.mark, TD.off] at s0 s1 s2 h ⊢
  obtain ⟨sz, hsz⟩ : ∃ sz, w.heap.size = sz := ⟨_, rfl⟩
  obtain ⟨W, hW⟩ : ∃ W, w.alloc (.cells #[v0, .int .i64 pc, .bool on, v1, v2] 46) = W := ⟨_, rfl⟩
  have hb0 : Below sz w W := by rw [← hW, ← hsz]; exact (Below.refl _ w).alloc (Nat.le_refl _) _
  have R1 : Hid (Box W sz #[v0, .int .i64 pc, .bool on, v1, v2] 46) := by rw [← hW, ← hsz]; exact box_of w _ _
  have hWs : W.heap.size = sz + 1 := by rw [← hW, ← hsz]; simp
  have HT : Hid (ThO W base v0 v1 v2 ⟨n0, fs, pc, on, n1, gs, n2, hs'⟩) := h.below hb0 (by omega)
  have BLK : Hid (∀ k, In3 v0 v1 v2 k → base ≤ k ∧ k < sz) := fun k hk => by rw [← hsz]; exact h.blk hk
  have SEP : Hid (Sep3 v0 v1 v2) := h.sep
  have HW : Hid _ := hW
  have HSZ : Hid (w.heap.size = sz) := hsz
  have HB0 : Hid (Below sz w W) := hb0
  have HWS : Hid (W.heap.size = sz + 1) := hWs
  clear h hW hb0 hsz
  go_enter Try.func25, Try.ntmps25
  go_wp2_with fail
  rw [HW.out]
  (try rw [HSZ.out])
  refine (kMarkOpS base v0 n0 1 fs _ s0 (by omega) (by omega) HT.out.ops).mono ?_
  rintro e w1 ⟨rfl, own1, o1⟩
  have nb0 : ∀ {v : Value}, (∀ k, v.ownBlock = some k → In3 v0 v1 v2 k) → v.ownBlock ≠ some sz := fun hv e => by have := (BLK.out _ (hv _ e)).2; omega
  have Q1 : Hid (Box w1 sz _ _) := (o1.oth sz (nb0 fun k e => .inl e)).trans R1.out
  have P1 : Hid (w1.ownsRow base 84 3 v0 n0 ((asc 1 (n0 * 3)).map I) ∧ w1.ownsRow base 86 2 v1 n1 (gs.map I) ∧ w1.ownsRow base 62 4 v2 n2 (hs'.map I)) :=
    ⟨own1, owns_heap HT.out.got fun k hk => o1.oth k fun e => SEP.out.1 k e hk, owns_heap HT.out.stk fun k hk => o1.oth k fun e => SEP.out.2.1 k e hk⟩
  have A1 : Hid (OnlyV base v0 W w1) := o1
  obtain ⟨x0, x1, x2, x3, x4, -⟩ := Q1.out.five
  obtain ⟨q1, hq1⟩ : ∃ q : Int, 1 + (n0 : Int) * 3 = q := ⟨_, rfl⟩
  have HQ1 : Hid (1 + (n0 : Int) * 3 = q1) := hq1
  have hq10 : 0 ≤ q1 ∧ q1 ≤ 8000000 := by omega
  rw [hq1]
  clear own1 o1 hq1
  go_wp2_with fail
  refine (kMarkPairS base v1 n1 q1 gs _ s1 hq10.1 (by omega) P1.out.2.1).mono ?_
  rintro e w2 ⟨rfl, own2, o2⟩
  have Q2 : Hid (Box w2 sz _ _) := (o2.oth sz (nb0 fun k e => .inr (.inl e))).trans Q1.out
  have P2 : Hid (w2.ownsRow base 84 3 v0 n0 ((asc 1 (n0 * 3)).map I) ∧ w2.ownsRow base 86 2 v1 n1 ((asc q1 (n1 * 2)).map I) ∧ w2.ownsRow base 62 4 v2 n2 (hs'.map I)) :=
    ⟨owns_heap P1.out.1 fun k hk => o2.oth k fun e => SEP.out.1 k hk e, own2, owns_heap P1.out.2.2 fun k hk => o2.oth k fun e => SEP.out.2.2 k e hk⟩
  have A2 : Hid (OnlyV base v1 w1 w2) := o2
  clear x0 x1 x2 x3 x4
  obtain ⟨x0, x1, x2, x3, x4, -⟩ := Q2.out.five
  obtain ⟨q2, hq2⟩ : ∃ q : Int, q1 + (n1 : Int) * 2 = q := ⟨_, rfl⟩
  have HQ2 : Hid (q1 + (n1 : Int) * 2 = q2) := hq2
  have hq20 : 0 ≤ q2 ∧ q2 ≤ 16000000 := by omega
  rw [hq2]
  clear own2 o2 hq2
  go_wp2_with fail
  refine (kMarkHelpS base v2 n2 q2 hs' _ s2 hq20.1 (by omega) P2.out.2.2).mono ?_
  rintro e w3 ⟨rfl, own3, o3⟩
  have P3 : Hid (w3.ownsRow base 84 3 v0 n0 ((asc 1 (n0 * 3)).map I) ∧ w3.ownsRow base 86 2 v1 n1 ((asc q1 (n1 * 2)).map I) ∧ w3.ownsRow base 62 4 v2 n2 ((asc q2 (n2 * 4)).map I)) :=
    ⟨owns_heap P2.out.1 fun k hk => o3.oth k fun e => SEP.out.2.1 k hk e, owns_heap P2.out.2.1 fun k hk => o3.oth k fun e => SEP.out.2.2 k hk e, own3⟩
  have A3 : Hid (OnlyV base v2 w2 w3) := o3
  clear own3 o3 x0 x1 x2 x3 x4
  go_wp2
  go_ret
  have e1 := HQ1.out
  have e2 := HQ2.out
  have e3 : q2 + (n2 : Int) * 4 = 1 + ((n0 : Int) * 3 + (n1 : Int) * 2 + (n2 : Int) * 4) := by omega
  rw [e3]
  refine ⟨rfl, ⟨P3.out.1, ?_, ?_, SEP.out⟩, ?_, ?_⟩
  · rw [e1]; exact P3.out.2.1
  · rw [e1, e2]; exact P3.out.2.2
  · have hb1 : Below (min base w.heap.size) W w3 := ((A1.out.bel.trans A2.out.bel).trans A3.out.bel).mono (Nat.min_le_left _ _)
    exact (HB0.out.mono (by rw [HSZ.out]; exact Nat.min_le_right _ _)).trans hb1
  · intro b hb hn
    rw [A3.out.oth b (fun e => hn (.inr (.inr e))), A2.out.oth b (fun e => hn (.inr (.inl e))), A1.out.oth b (fun e => hn (.inl e))]
    exact HB0.out.block b (by rw [← HSZ.out]; exact hb)

set_option maxHeartbeats 1000000 in
theorem heldThread_o (v0 v1 v2 : Value) (t : TD) (w : World) (hs : t.Small) (h : ThAt w v0 v1 v2 (t.mark 1)) :
    Calls Try.prog 26 #[ThV v0 v1 v2 t.pc t.on, .int .i64 1] w fun e w' => e = .returned (.int .i64 (1 + t.off)) ∧ Below w.heap.size w w' := by
  obtain ⟨n0, fs, pc, on, n1, gs, n2, hs'⟩ := t
  obtain ⟨s0, s1, s2⟩ := hs
  obtain ⟨⟨a0, c0, rfl, _, h0⟩, ⟨a1, c1, rfl, _, h1⟩, ⟨a2, c2, rfl, _, h2⟩⟩ := h
  simp only [TD.mark, TD.off] at s0 s1 s2 h0 h1 h2 ⊢
  obtain ⟨q1, hq1⟩ : ∃ q : Int, 1 + (n0 : Int) * 3 = q := ⟨_, rfl⟩
  obtain ⟨q2, hq2⟩ : ∃ q : Int, q1 + (n1 : Int) * 2 = q := ⟨_, rfl⟩
  obtain ⟨q3, hq3⟩ : ∃ q : Int, q2 + (n2 : Int) * 4 = q := ⟨_, rfl⟩
  have hr1 : ¬ q1 < 0 ∧ q1 ≤ 8000000 := by omega
  have hr2 : ¬ q2 < 0 ∧ q2 ≤ 16000000 := by omega
  have hr3 : ¬ q3 < 0 := by omega
  have r1 : ¬ q1 < 0 := hr1.1
  have r2 : ¬ q2 < 0 := hr2.1
  rw [hq1] at h1 h2
  rw [hq2] at h2
  have H0 : Hid (KAt 3 w a0 n0 (asc 1 (n0 * 3))) := h0
  have H1 : Hid (KAt 2 w a1 n1 (asc q1 (n1 * 2))) := h1
  have H2 : Hid (KAt 4 w a2 n2 (asc q2 (n2 * 4))) := h2
  have HQ : Hid (1 + (n0 : Int) * 3 = q1 ∧ q1 + (n1 : Int) * 2 = q2 ∧ q2 + (n2 : Int) * 4 = q3) := ⟨hq1, hq2, hq3⟩
  obtain ⟨W, hW⟩ : ∃ W, w.alloc (.cells #[.slice a0 n0 c0, .int .i64 pc, .bool on, .slice a1 n1 c1, .slice a2 n2 c2] 46) = W := ⟨_, rfl⟩
  have hb0 : Below w.heap.size w W := by rw [← hW]; exact (Below.refl _ w).alloc (Nat.le_refl _) _
  have R1 : Hid (Box W w.heap.size #[.slice a0 n0 c0, .int .i64 pc, .bool on, .slice a1 n1 c1, .slice a2 n2 c2] 46) := by rw [← hW]; exact box_of w _ _
  have HW : Hid _ := hW
  have HB0 : Hid (Below w.heap.size w W) := hb0
  clear h0 h1 h2 hW hb0 hq1 hq2 hq3
  go_enter Try.func26, Try.ntmps26
  go_wp2_with fail
  rw [HW.out]
  refine (kHeldOpS a0 n0 c0 1 _ (by omega) (by omega) (H0.out.below HB0.out (Nat.le_refl _))).mono ?_
  rintro e w1 ⟨rfl, hb1⟩
  rw [HQ.out.1]
  have HB1 : Hid (Below w.heap.size w w1) := HB0.out.trans (hb1.mono HB0.out.size)
  have R2 : Hid (Box w1 w.heap.size _ _) := R1.out.below hb1 R1.out.lt
  obtain ⟨x0, x1, x2, x3, x4, -⟩ := R2.out.five
  clear hb1
  go_wp2_with fail
  refine (kHeldPairS a1 n1 c1 q1 _ (by omega) (by omega) (H1.out.below HB1.out (Nat.le_refl _))).mono ?_
  rintro e w2 ⟨rfl, hb2⟩
  rw [HQ.out.2.1]
  have HB2 : Hid (Below w.heap.size w w2) := HB1.out.trans (hb2.mono HB1.out.size)
  have R3 : Hid (Box w2 w.heap.size _ _) := R2.out.below hb2 R2.out.lt
  clear x0 x1 x2 x3 x4
  obtain ⟨x0, x1, x2, x3, x4, -⟩ := R3.out.five
  clear hb2
  go_wp2_with fail
  refine (kHeldHelpS a2 n2 c2 q2 _ (by omega) (by omega) (H2.out.below HB2.out (Nat.le_refl _))).mono ?_
  rintro e w3 ⟨rfl, hb3⟩
  rw [HQ.out.2.2]
  have hall : Below w.heap.size w w3 := HB2.out.trans (hb3.mono HB2.out.size)
  clear hb3
  go_wp2
  go_ret
  have e := HQ.out
  have e3 : q3 = 1 + ((n0 : Int) * 3 + (n1 : Int) * 2 + (n2 : Int) * 4) := by omega
  rw [e3]
  exact ⟨rfl, hall⟩

theorem cellsLThread : Try.prog.cellsOf 39 = 5 := by kernel_rfl
theorem kCells1 : Try.prog.cellsOf 3 = 1 ∧ Try.prog.cellsOf 4 = 1 ∧ Try.prog.cellsOf 35 = 1 ∧ Try.prog.cellsOf 36 = 1 ∧ Try.prog.cellsOf 37 = 1 := ⟨by kernel_rfl, by kernel_rfl, by kernel_rfl, by kernel_rfl, by kernel_rfl⟩
set_option maxRecDepth 100000 in
theorem open_thread_cells {H : Type} {enc : TypeId × Value → H} {W : World} {base : Nat} {held : Bool} {fuel : Nat} {cs : List Value} {x : DataW H × List MemPlace}
    (h : DataW.trod enc Try.prog W base (fun _ => true) held fuel 39 cs = some x) :
    ∃ (a0 a1 a2 : Option Addr) (n0 c0 n1 c1 n2 c2 : Nat) (fs gs hs : List Int) (pc : Int) (on : Bool), cs = [.slice a0 n0 c0, .int .i64 pc, .bool on, .slice a1 n1 c1, .slice a2 n2 c2] ∧ n0 ≤ 9223372036854775807 ∧ n1 ≤ 9223372036854775807 ∧ n2 ≤ 9223372036854775807 ∧
      (n0 ≤ 1048576 → KAt 3 W a0 n0 fs) ∧ (n1 ≤ 1048576 → KAt 2 W a1 n1 gs) ∧ (n2 ≤ 1048576 → KAt 4 W a2 n2 hs) := by
  obtain ⟨xs, k', hk, hxy, hl, hxl, hf⟩ := DataW.trod_struct Try.underlying39 h
  rw [cellsLThread] at hl
  obtain ⟨q0, q1, q2, q3, q4⟩ := kCells1
  match xs, hxl, cs, hl with
  | [y0, y1, y2, y3, y4], _, [v0, v1, v2, v3, v4], _ =>
    have g0 := hf 0 _ rfl
    have g1 := hf 1 _ rfl
    have g2 := hf 2 _ rfl
    have g3 := hf 3 _ rfl
    have g4 := hf 4 _ rfl
    simp [q0, q1, q2, q3, q4] at g0 g1 g2 g3 g4
    obtain ⟨a0, n0, c0, fs, rfl, m0, _, k0⟩ := open_trips Try.underlying35 Try.underlying95 (by kernel_rfl) rfl rfl rfl (by kernel_rfl) (by kernel_rfl) (by kernel_rfl) Try.underlying3 Try.underlying3 Try.underlying3 g0
    obtain ⟨pc, e1, _, _⟩ := DataW.trod_int Try.underlying3 g1
    obtain rfl : v1 = .int .i64 pc := by simpa using e1
    obtain ⟨on, e2, _⟩ := DataW.trod_bool Try.underlying4 g2
    obtain rfl : v2 = .bool on := by simpa using e2
    obtain ⟨a1, n1, c1, gs, rfl, m1, k1⟩ := open_twos Try.underlying36 Try.underlying136 (by kernel_rfl) rfl rfl (by kernel_rfl) (by kernel_rfl) Try.underlying3 Try.underlying3 g3
    obtain ⟨a2, n2, c2, hs, rfl, m2, _, k2⟩ := open_quads Try.underlying37 Try.underlying60 (by kernel_rfl) rfl rfl rfl rfl (by kernel_rfl) (by kernel_rfl) (by kernel_rfl) (by kernel_rfl) Try.underlying3 Try.underlying3 Try.underlying3 Try.underlying3 g4
    exact ⟨a0, a1, a2, n0, c0, n1, c1, n2, c2, fs, gs, hs, pc, on, rfl, m0, m1, m2, fun h => .of_trip (k0 h), k1, fun h => .of_quad (k2 h)⟩
set_option maxRecDepth 100000 in
/-- A Thread that came in, opened. -/
theorem open_thread {H : Type} {enc : TypeId × Value → H} {W : World} {base b0 : Nat} {held : Bool} {v : Value} {d : DataW H} {p : List MemPlace}
    (hv : Value.okWide Try.prog W .any b0 39 v) (h : DataW.Trod enc Try.prog W base (fun _ => true) held 39 v d p) :
    ∃ (a0 a1 a2 : Option Addr) (n0 c0 n1 c1 n2 c2 : Nat) (fs gs hs : List Int) (pc : Int) (on : Bool), v = ThV (.slice a0 n0 c0) (.slice a1 n1 c1) (.slice a2 n2 c2) pc on ∧ n0 ≤ 9223372036854775807 ∧ n1 ≤ 9223372036854775807 ∧ n2 ≤ 9223372036854775807 ∧
      (n0 ≤ 1048576 → KAt 3 W a0 n0 fs) ∧ (n1 ≤ 1048576 → KAt 2 W a1 n1 gs) ∧ (n2 ≤ 1048576 → KAt 4 W a2 n2 hs) := by
  obtain ⟨cs, rfl, _⟩ := okWide_struct Try.underlying39 hv
  obtain ⟨fuel, hf⟩ := h
  obtain ⟨a0, a1, a2, n0, c0, n1, c1, n2, c2, fs, gs, hs, pc, on, hcs, r⟩ := open_thread_cells hf
  refine ⟨a0, a1, a2, n0, c0, n1, c1, n2, c2, fs, gs, hs, pc, on, ?_, r⟩
  have e : cs.toList = [.slice a0 n0 c0, .int .i64 pc, .bool on, .slice a1 n1 c1, .slice a2 n2 c2] := by simpa [Value.cells] using hcs
  rw [show cs = cs.toList.toArray by simp, e]
end Go.Proofs.Ytemeklfkbjpnmar
