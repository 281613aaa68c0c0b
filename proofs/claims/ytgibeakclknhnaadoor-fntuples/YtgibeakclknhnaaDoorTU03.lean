/- Texts joined: Far, DrawF, ValK, BytK, MarkAt, AppY, DrawTd, Draw, Pick, DrawV, DrawV2, OnceL, DrawT8, DrawT9. -/
import Derived.Test.YtgibeakclknhnaaDoorRows
import Derived.WalkKit
import Derived.ProofKit
import Derived.Below
import Derived.Maps.AppendAt
import Derived.OwnWalk
import Derived.Test.YtgibeakclknhnaaDoorTU02
import Derived.Test.YtgibeakclknhnaaDoorTU01
import Derived.WalkSmall
import Derived.Deep.RegionHeld3
import Derived.Deep.Cut
import Derived.Laws.AppendOwnNone
set_option maxHeartbeats 4000000
set_option maxRecDepth 100000
namespace Go.Proofs.YtgibeakclknhnaaDoor
section
open Go.ChangeShapes Go.WideShapes Go.ChangeAt Go.RowKit
theorem far_drew {w w' : World} {row : Option Nat} (h : w.grownBy w' row) : w.grownBy w'.drew row := ⟨h.os, h.tape, h.output, h.size, h.block⟩
theorem far_below {w w' : World} (h : Below w.heap.size w w') (row : Option Nat) : w.grownBy w' row := ⟨h.os, h.tape, h.output, h.size, fun k hk _ => h.block k hk⟩
theorem far_below_of {w0 w w' : World} {row : Option Nat} (h0 : w0.grownBy w row) (h : Below w.heap.size w w') : w0.grownBy w' row := h0.trans (far_below h row)
theorem far_set {w0 w : World} {row : Option Nat} (h : w0.grownBy w row) {a : Addr} (ha : w0.heap.size ≤ a.block) (v : Value) : w0.grownBy (w.setCell a v) row :=
  ⟨h.os, h.tape, h.output, by simpa [World.setCell] using h.size, fun k hk hr => by rw [Below.heap_setCell _ _ _ _ (fun e => by omega)]; exact h.block k hk hr⟩
theorem far_cell {w w' : World} {p g o : Nat} {v : Value} (h : w.grownBy w' (some p)) (hv : w.cell? ⟨g, o, none⟩ = some v) (hg : g ≠ p) : w'.cell? ⟨g, o, none⟩ = some v := h.cell hv (by simpa using hg)
theorem far_only {p : Nat} {w w' : World} (h : Only p w w') : w.grownBy w' (some p) := ⟨h.os, h.tape, h.output, Nat.le_of_eq h.size.symm, fun k _ hk => h.block k (fun e => hk (by rw [e]))⟩
theorem cur_below {T : TypeId} {w w' : World} {p : Nat} {a : Option Addr} {n c : Nat} (h : Cur T w p a n c) (hb : Below w.heap.size w w') : Cur T w' p a n c :=
  h.keep fun k hk => hb.block k (Nat.lt_of_le_of_lt hk h.lt)
theorem cur_set {T : TypeId} {w : World} {p : Nat} {a : Option Addr} {n c : Nat} (h : Cur T w p a n c) {q : Addr} (hq : p < q.block) (v : Value) : Cur T (w.setCell q v) p a n c :=
  h.keep fun k hk => Below.heap_setCell _ _ _ _ (fun e => by omega)
theorem cur_alloc {T : TypeId} {w : World} {p : Nat} {a : Option Addr} {n c : Nat} (h : Cur T w p a n c) (o : Obj) : Cur T (w.alloc o) p a n c := cur_below h ((Below.refl _ w).alloc (Nat.le_refl _) o)
theorem own_only {p : Nat} {w w' : World} {base : Nat} {e : TypeId} {size : Nat} {v : Value} {n : Nat} {xs : List Value} (ho : w.ownsRow base e size v n xs) (h : w.grownBy w' (some p)) (hp : p < base) : w'.ownsRow base e size v n xs := by
  obtain ⟨h1, h2 | ⟨g, cap, cur, h3, h4, h5, h6⟩⟩ := ho
  · exact ⟨h1, .inl h2⟩
  · exact ⟨h1, .inr ⟨g, cap, cur, h3, h4, by rw [h.block g (Array.getElem?_eq_some_iff.1 h5).1 (by simp; omega)]; exact h5, h6⟩⟩
theorem Box.farG {w w' : World} {b p : Nat} {cs : Array Value} {T : TypeId} (h : Box w b cs T) (hg : w.grownBy w' (some p)) (hp : ¬ b = p) : Box w' b cs T := by
  unfold Box at h ⊢
  rw [hg.block b (Array.getElem?_eq_some_iff.1 h).1 (by simpa using hp)]
  exact h
theorem Box.only {w w' : World} {b p : Nat} {cs : Array Value} {T : TypeId} (h : Box w b cs T) (hO : Only p w w') (hp : ¬ b = p) : Box w' b cs T := h.farG (far_only hO) hp
theorem far_alloc {w0 w : World} {row : Option Nat} (h : w0.grownBy w row) (o : Obj) : w0.grownBy (w.alloc o) row := h.trans (World.grownBy_alloc _ _ _)
theorem cur_drew {T : TypeId} {w : World} {p : Nat} {a : Option Addr} {n c : Nat} (h : Cur T w p a n c) : Cur T w.drew p a n c := h.keep fun _ _ => rfl
def markV (i : Nat) : Va3 := ((i : Int) * 3 + 1, (i : Int) * 3 + 2, ⟨(markS (i * 3 + 3)).toArray⟩)
def marksV (n : Nat) : List Va3 := (List.range n).map markV
open Go.Lib (byteCells byteCells_length byteCells_append)

def marksB (n : Nat) : List UInt8 := (List.range n).map fun i => UInt8.ofNat ((i + 1) % 256)
def uptoB (xs : List UInt8) (k n : Nat) : List UInt8 := xs.take k ++ List.replicate (n - k) 0
end
section
open Go.ChangeShapes Go.WideShapes Go.ChangeAt Go.RowKit Go.Joins
open Go.Lib (byteCells byteCells_length byteCells_append)

theorem own_far {w w' : World} {base : Nat} {e : TypeId} {size n : Nat} {v : Value} {xs : List Value} {blk : Option Nat} (h : w.ownsRow base e size v n xs) (hg : w.grownBy w' blk) (hne : ∀ k, v.ownBlock = some k → ¬ some k = blk) : w'.ownsRow base e size v n xs :=
  owns_heap h fun k hk => hg.block k (by
    rcases h.2 with ⟨rfl, _⟩ | ⟨g, cap, cur, rfl, _, hh, _⟩
    · cases hk
    · cases hk; exact (Array.getElem?_eq_some_iff.1 hh).1) (hne k hk)
theorem own_lt {w : World} {base : Nat} {e : TypeId} {size n : Nat} {v : Value} {xs : List Value} (h : w.ownsRow base e size v n xs) : ∀ k, v.ownBlock = some k → k < w.heap.size := by
  intro k hk
  rcases h.2 with ⟨rfl, _⟩ | ⟨g, cap, cur, rfl, _, hh, _⟩
  · cases hk
  · cases hk; exact (Array.getElem?_eq_some_iff.1 hh).1
theorem bown_bys {w : World} {base : Nat} {v : Value} {l : List UInt8} (h : BOwn w base v l) (hn : l.length ≤ 2097152) : ∃ a c, v = .slice a l.length c ∧ l.length ≤ c ∧ BysAt w a l.length l := by
  rcases h.2 with ⟨rfl, h0⟩ | ⟨g, cap, cur, rfl, _, _, hc, _⟩
  · exact ⟨none, 0, by rw [h0], by omega, rfl, hn, .inl h0⟩
  · refine ⟨_, cap, rfl, hc, rfl, hn, .inr ⟨g, 0, rfl, fun i x hi => ?_⟩⟩
    rw [Nat.zero_add]
    exact bown_cell h hi
end
section
open Go.ChangeShapes Go.WideShapes Go.ChangeAt Go.RowKit
open Go.Lib (byteCells byteCells_length byteCells_append)

theorem wp_append_bys {ops : Array Oper} {o : Oper} {a : Act} (w : World) {K : Act → World → Prop} {Q : Exit → Act → World → Prop} {E : Prop} (hg : o.guard = none) (s x : Operand)
    (ho : o.op = .call { callee := .builtin .append, args := #[s, x], argTypes := #[22, 22] })
    (base : Nat) (v : Value) (l : List UInt8) (hs : a.eval s = v) (hown : BOwn w base v l) (ad : Option Addr) (m c : Nat) (news : List UInt8) (hx : a.eval x = .slice ad m c) (hc : ad = none → c = 0) (hA : BysAt w ad m news)
    (hle : l.length + m ≤ 1099511627776) (hbase : base ≤ w.heap.size)
    (h : ∀ v' w', BOwn w' base v' (l ++ news) → w.grownBy w' v.ownBlock → (v'.ownBlock = v.ownBlock ∨ v'.ownBlock = some w.heap.size) → K (a.put o.dst v') w') :
    if Region.wanted o (yielded ops a.tmps) = true then Oper.wp Tryd.prog o a w K Q else E := by
  rw [if_pos (by simp [Region.wanted, hg])]
  obtain ⟨i0, hi, hz0, hz1, hz2⟩ := info_parts infoByte
  have hlen := hA.1
  cases ad with
  | none =>
    obtain rfl : m = 0 := by rcases hA.2.2 with h0 | ⟨_, _, h0, _⟩; · exact h0
                             · cases h0
    obtain rfl : c = 0 := hc rfl
    obtain rfl : news = [] := List.length_eq_zero_iff.1 hlen
    have hrun := run_append_owned_none (P := Tryd.prog) (w := w) base 22 o.type 5 i0 1 Tryd.underlying22 hi v l.length (byteCells l) hown
    unfold Oper.wp
    simp [execOp, ho, resolve, invoke, builtin, hs, hx, hrun, Result.andThen]
    exact h v w (by simpa using hown) ⟨rfl, rfl, rfl, Nat.le_refl _, fun _ _ _ => rfl⟩ (.inl rfl)
  | some ad =>
    obtain ⟨v', w', hr, h2, h3, _, h5⟩ := run_append_own_at (P := Tryd.prog) (w := w) base 22 o.type 5 i0 _ 1 1 Tryd.underlying22 hi hz0 hz1 hz2 rfl (by decide) v l.length (byteCells l) hown ad m c (byteCells news) (by rw [byteCells_length]; omega) (fun j u hj => by
      simp [byteCells] at hj
      obtain ⟨b, hb, rfl⟩ := hj
      rcases hA.2.2 with h0 | ⟨p, q, he, hcell⟩
      · have := (List.getElem?_eq_some_iff.1 hb).1
        omega
      · cases he
        rw [add_plain]
        exact hcell j b hb) bcell_one (by unfold maxLen; omega) (by omega) hbase
    unfold Oper.wp execOp
    simp only [ho, resolve, invoke, builtin, Sem.run_bind, Sem.run_pure, Result.andThen_ok, List.map_toArray, List.map_cons, List.map_nil, hs, hx, hr]
    exact h v' w' (by unfold BOwn; rw [byteCells_append, List.length_append, hlen]; exact h2) h3 h5
open Go.Lib (byteCells byteCells_length byteCells_append)

abbrev OV := Option (Value × List UInt8)
structure DT (w0 : World) (p g : Nat) (a : Option Addr) (n c : Nat) (w : World) (A : OV) (J : Option Nat) (B : OV) : Prop where
  cur : Cur 61 w p a n c
  far : w0.grownBy w (some p)
  sz : g ≤ w.heap.size
  hA : ∀ v l, A = some (v, l) → BOwn w g v l
  hJ : ∀ q, J = some q → g ≤ q ∧ Box w q #[.int .i64 0, .int .i64 1, .int .i64 2, .int .i64 5, .int .i64 255] 3
  hB : ∀ v l, B = some (v, l) → BOwn w g v l
  dis : ∀ v l v' l' k, A = some (v, l) → B = some (v', l') → v.ownBlock = some k → ¬ v'.ownBlock = some k
  disJ : ∀ v l q, A = some (v, l) → J = some q → ¬ v.ownBlock = some q
section
variable {w0 : World} {p g : Nat} {a : Option Addr} {n c : Nat} {w : World} {A B : OV} {J : Option Nat}
theorem DT.a0 (h : DT w0 p g a n c w none J B) : DT w0 p g a n c (w.alloc (.cells #[] 5)) (some (.slice (some ⟨w.heap.size, 0, none⟩) 0 0, [])) J B where
  cur := cur_alloc h.cur _
  far := far_alloc h.far _
  sz := by have := h.sz; rw [World.size_alloc]; omega
  hA := fun v l e => by cases e; exact bown_new w rfl rfl h.sz (by simp)
  hJ := fun q e => ⟨(h.hJ q e).1, (h.hJ q e).2.alloc _⟩
  hB := fun v l e => (h.hB v l e).alloc _
  dis := fun v l v' l' k e e' hk hk' => by
    cases e
    cases hk
    exact absurd (own_lt (h.hB v' l' e') _ hk') (Nat.lt_irrefl _)
  disJ := fun v l q e e' hk => by
    cases e
    cases hk
    exact absurd (h.hJ _ e').2.lt (Nat.lt_irrefl _)
theorem DT.i6 (h : DT w0 p g a n c w A none B) : DT w0 p g a n c (w.alloc (.cells #[.int .i64 0, .int .i64 1, .int .i64 2, .int .i64 5, .int .i64 255] 3)) A (some w.heap.size) B where
  cur := cur_alloc h.cur _
  far := far_alloc h.far _
  sz := by have := h.sz; rw [World.size_alloc]; omega
  hA := fun v l e => (h.hA v l e).alloc _
  hJ := fun q e => by cases e; exact ⟨h.sz, box_of w _ _⟩
  hB := fun v l e => (h.hB v l e).alloc _
  dis := h.dis
  disJ := fun v l q e e' hk => by
    cases e'
    have := own_lt (h.hA v l e) _ hk
    omega
theorem DT.pick {w' : World} (h : DT w0 p g a n c w A J B) (hpg : p < g) (hC : Cur 61 w' p a n c) (hO : Only p w w') : DT w0 p g a n c w' A none B where
  cur := hC
  far := h.far.trans (far_only hO)
  sz := Nat.le_trans h.sz (Nat.le_of_eq hO.size.symm)
  hA := fun v l e => own_only (h.hA v l e) (far_only hO) hpg
  hJ := fun q e => by cases e
  hB := fun v l e => own_only (h.hB v l e) (far_only hO) hpg
  dis := h.dis
  disJ := fun v l q e e' => by cases e'
theorem DT.b9 (h : DT w0 p g a n c w A J none) (x : UInt8) : DT w0 p g a n c (w.alloc (.cells #[.int .u8 (x.toNat : Int)] 5)) A J (some (.slice (some ⟨w.heap.size, 0, none⟩) 1 1, [x])) where
  cur := cur_alloc h.cur _
  far := far_alloc h.far _
  sz := by have := h.sz; rw [World.size_alloc]; omega
  hA := fun v l e => (h.hA v l e).alloc _
  hJ := fun q e => ⟨(h.hJ q e).1, (h.hJ q e).2.alloc _⟩
  hB := fun v l e => by cases e; exact bown_new w rfl rfl h.sz (by simp)
  dis := fun v l v' l' k e e' hk hk' => by
    cases e'
    cases hk'
    exact absurd (own_lt (h.hA v l e) _ hk) (Nat.lt_irrefl _)
  disJ := h.disJ
theorem far_own {w' : World} (hg : w0.heap.size = g) (h : w0.grownBy w (some p)) {blk : Option Nat} (hb : ∀ k, blk = some k → g ≤ k) (hw : w.grownBy w' blk) : w0.grownBy w' (some p) :=
  ⟨hw.os.trans h.os, hw.tape.trans h.tape, hw.output.trans h.output, Nat.le_trans h.size hw.size, fun k hk hr => (hw.block k (Nat.lt_of_lt_of_le hk h.size) (fun e => by have := hb k e.symm; omega)).trans (h.block k hk hr)⟩
theorem DT.appA {w' : World} {v v' : Value} {l l' : List UInt8} (h : DT w0 p g a n c w (some (v, l)) J B) (hg : w0.heap.size = g) (hpg : p < g) (ho : BOwn w' g v' l') (hw : w.grownBy w' v.ownBlock) (hv : v'.ownBlock = v.ownBlock ∨ v'.ownBlock = some w.heap.size) : DT w0 p g a n c w' (some (v', l')) J B where
  cur := h.cur.keep fun k hk => hw.block k (by have := h.cur.lt; omega) (fun e => by have := own_block (h.hA v l rfl) k e.symm; omega)
  far := far_own hg h.far (own_block (h.hA v l rfl)) hw
  sz := Nat.le_trans h.sz hw.size
  hA := fun x y e => by cases e; exact ho
  hJ := fun q e => ⟨(h.hJ q e).1, by
    have hb := (h.hJ q e).2
    unfold Box at hb ⊢
    rw [hw.block q (Array.getElem?_eq_some_iff.1 hb).1 (fun e' => h.disJ v l q rfl e e'.symm)]
    exact hb⟩
  hB := fun x y e => own_far (h.hB x y e) hw (fun k hk e' => h.dis v l x y k rfl e e'.symm hk)
  dis := fun x y x' y' k e e' hk hk' => by
    cases e
    rcases hv with hv | hv
    · rw [hv] at hk; exact h.dis v l x' y' k rfl e' hk hk'
    · rw [hv] at hk; cases hk; have := own_lt (h.hB x' y' e') _ hk'; omega
  disJ := fun x y q e e' hk => by
    cases e
    rcases hv with hv | hv
    · rw [hv] at hk; exact h.disJ v l q rfl e' hk
    · rw [hv] at hk; cases hk; have := (h.hJ _ e').2.lt; omega
theorem DT.appB {w' : World} {v v' : Value} {l l' : List UInt8} (h : DT w0 p g a n c w A none (some (v, l))) (hg : w0.heap.size = g) (hpg : p < g) (ho : BOwn w' g v' l') (hw : w.grownBy w' v.ownBlock) (hv : v'.ownBlock = v.ownBlock ∨ v'.ownBlock = some w.heap.size) : DT w0 p g a n c w' A none (some (v', l')) where
  cur := h.cur.keep fun k hk => hw.block k (by have := h.cur.lt; omega) (fun e => by have := own_block (h.hB v l rfl) k e.symm; omega)
  far := far_own hg h.far (own_block (h.hB v l rfl)) hw
  sz := Nat.le_trans h.sz hw.size
  hA := fun x y e => own_far (h.hA x y e) hw (fun k hk e' => h.dis x y v l k e rfl hk e'.symm)
  hJ := fun q e => by cases e
  hB := fun x y e => by cases e; exact ho
  dis := fun x y x' y' k e e' hk hk' => by
    cases e'
    rcases hv with hv | hv
    · rw [hv] at hk'; exact h.dis x y v l k e rfl hk hk'
    · rw [hv] at hk'; cases hk'; have := own_lt (h.hA x y e) _ hk; omega
  disJ := fun x y q e e' => by cases e'
end
theorem BysAt.far {w w' : World} {p : Nat} {ad : Option Addr} {m : Nat} {l : List UInt8} (h : BysAt w ad m l) (hf : w.grownBy w' (some p)) (hp : ∀ b o, ad = some ⟨b, o, none⟩ → ¬ b = p) : BysAt w' ad m l := by
  obtain ⟨h1, h2, h3 | ⟨b, o, h3, h4⟩⟩ := h
  · exact ⟨h1, h2, .inl h3⟩
  · exact ⟨h1, h2, .inr ⟨b, o, h3, fun i x hi => hf.cell (h4 i x hi) (by have := hp b o h3; simpa using this)⟩⟩
theorem bys_front {w : World} {a : Option Addr} {n : Nat} {l : List UInt8} (h : BysAt w a n l) {k : Nat} (hk : k ≤ n) : BysAt w a k (l.take k) := by
  obtain ⟨h1, h2, h3⟩ := h
  refine ⟨by rw [List.length_take]; omega, by omega, ?_⟩
  rcases h3 with h3 | ⟨b, o, h4, h5⟩
  · exact .inl (by omega)
  · refine .inr ⟨b, o, h4, fun i x hi => h5 i x ?_⟩
    rw [List.getElem?_take] at hi
    split at hi
    · exact hi
    · cases hi
theorem bys_back {w : World} {a : Option Addr} {n c : Nat} {l : List UInt8} (h : BysAt w a n l) {k : Nat} (hk : k ≤ n) (hc : n ≤ c) : BysAt w (if c = k then a else a.map (·.add (k * 1))) (n - k) (l.drop k) := by
  obtain ⟨h1, h2, h3⟩ := h
  refine ⟨by rw [List.length_drop]; omega, by omega, ?_⟩
  rcases h3 with h3 | ⟨b, o, rfl, h5⟩
  · exact .inl (by omega)
  · by_cases hck : c = k
    · exact .inl (by omega)
    · refine .inr ⟨b, o + k, by rw [if_neg hck, Option.map_some, add_plain]; simp, fun i x hi => ?_⟩
      rw [List.getElem?_drop] at hi
      have h8 := h5 (k + i) x hi
      rw [show o + (k + i) = o + k + i by omega] at h8
      exact h8
theorem u8_wrap (x : UInt8) : IntKind.u8.wrap (x.toNat : Int) = (x.toNat : Int) := by
  have h := x.toNat_lt
  show ((x.toNat : Int) % 256) = _
  omega
theorem pickB : ∀ x : Nat, x < 5 → ∃ b : UInt8, ([0, 1, 2, 5, 255] : List Int).getD x 0 = (b.toNat : Int)
  | 0, _ => ⟨0, rfl⟩
  | 1, _ => ⟨1, rfl⟩
  | 2, _ => ⟨2, rfl⟩
  | 3, _ => ⟨5, rfl⟩
  | 4, _ => ⟨255, rfl⟩
theorem l1Byte_any (p : Nat) (a : Option Addr) (n c : Nat) (w : World) (hC : Cur 61 w p a n c) :
    Calls Tryd.prog 40 #[.pointer (some ⟨p, 0, none⟩)] w fun e w' => ∃ x : Nat, x ≤ 255 ∧ e = .returned (.int .i64 (x : Int)) ∧ Cur 61 w' p a n c ∧ Only p w w' := by
  obtain ⟨⟨i, h, hI, hi0, hi1⟩, hB, hn⟩ := hC
  obtain ⟨j, rfl⟩ : ∃ j : Nat, i = (j : Int) := ⟨i.toNat, by omega⟩
  obtain ⟨c0, c1, c2⟩ := hI.cell
  have f1 := hI.frozen 1
  have f2 := hI.frozen 2
  have HI : Hid (CurIs 61 w p a n c j h) := hI
  have HB : Hid (BytesAt w p a n) := hB
  have hand := and255
  clear hI hB
  by_cases hlt : j < n
  · rcases HB.out with h0 | ⟨b, o, rfl, hbp, hby⟩
    · omega
    obtain ⟨z, hz, e1⟩ := hby j hlt
    clear hby
    go_enter Tryd.func40, Tryd.ntmps40
    go_wp2
    go_region
    go_wp2
    go_region
    go_wp2
    go_region
    go_wp2
    go_ret
    have hO : Only p w (((w.setCell ⟨p, 2, none⟩ (.int .i64 (wrap64 (wrap64 (h * 6364136223846793005) + 1442695040888963407)))).setCell ⟨p, 1, none⟩ (.int .i64 ((j : Int) + 1))).drew.drew.drew) := (((Only.refl p w).setCell 2 _).setCell 1 _).drew.drew.drew
    exact byte_fin _ (cur_of hO HB.out ((HI.out.set2 _).set1 _) (by omega) (by omega) hn) hO
  · go_enter Tryd.func40, Tryd.ntmps40
    go_wp2
    go_region
    go_wp2
    go_region
    go_wp2
    go_ret
    have hO : Only p w ((w.setCell ⟨p, 2, none⟩ (.int .i64 (wrap64 (wrap64 (h * 6364136223846793005) + 1442695040888963407)))).drew.drew) := ((Only.refl p w).setCell 2 _).drew.drew
    exact byte_fin _ (cur_of hO HB.out (HI.out.set2 _) hi0 hi1 hn) hO

theorem l1Below_any (p : Nat) (a : Option Addr) (n c : Nat) (m : Int) (h0 : 1 ≤ m) (hm : m ≤ 256) (w : World) (hC : Cur 61 w p a n c) :
    Calls Tryd.prog 22 #[.pointer (some ⟨p, 0, none⟩), .int .i64 m] w fun e w' => ∃ x : Nat, (x : Int) < m ∧ e = .returned (.int .i64 (x : Int)) ∧ Cur 61 w' p a n c ∧ Only p w w' := by
  go_enter Tryd.func22, Tryd.ntmps22
  go_wp2_with (go_at_call 40; refine (l1Byte_any p a n c _ hC).mono ?_; rintro e w1 ⟨x, hx, rfl, hC1, hO1⟩)
  go_ret
  exact below_fin h0 hC1 hO1

theorem l1New_any (a : Option Addr) (n c : Nat) (w : World) (hn : n ≤ 1048576) (hB : BytesAt w w.heap.size a n) :
    Calls Tryd.prog 19 #[.slice a n c] w fun e w' => e = .returned (.pointer (some ⟨w.heap.size, 0, none⟩)) ∧ Cur 61 w' w.heap.size a n c ∧ Below w.heap.size w w' ∧ w'.heap.size = w.heap.size + 1 := by
  have HB : Hid (BytesAt w w.heap.size a n) := hB
  clear hB
  go_enter Tryd.func19, Tryd.ntmps19
  go_wp2
  go_loop [3, 4] (fun h i => ∃ (x : Int) (k : Nat), h = .int .i64 x ∧ i = .int .i64 (k : Int) ∧ k ≤ n) (fun _ i => n - (intOf i).toNat)
  case atStart => exact ⟨_, 0, rfl, rfl, Nat.zero_le _⟩
  case round =>
    obtain ⟨x, k, rfl, rfl, hk⟩ := hrel
    by_cases hlt : k < n
    · rcases HB.out with h0 | ⟨b, o, rfl, hbp, hby⟩
      · omega
      obtain ⟨z, hz, e1⟩ := hby k hlt
      clear hby
      by_cases h4 : k < 4000
      · go_wp2
        go_round
        case rel => exact ⟨_, k + 1, rfl, by go_num, by omega⟩
        case measure => simp [intOf]; omega
      · go_wp2
        go_ret
        exact ⟨rfl, cur_new HB.out hn, (Below.refl _ _).alloc (Nat.le_refl _) _, by simp⟩
    · go_wp2
      go_ret
      exact ⟨rfl, cur_new HB.out hn, (Below.refl _ _).alloc (Nat.le_refl _) _, by simp⟩
theorem l1PickInt_any (p : Nat) (a : Option Addr) (n c g q d : Nat) (xs : List Int) (h0 : 1 ≤ q) (hq : q ≤ 256) (w : World) (hC : Cur 61 w p a n c) (hg : g ≠ p)
    (hx : ∀ i, i < q → w.cell? ⟨g, i, none⟩ = some (.int .i64 (xs.getD i 0))) :
    Calls Tryd.prog 23 #[.pointer (some ⟨p, 0, none⟩), .slice (some ⟨g, 0, none⟩) q d] w fun e w' => ∃ x : Nat, x < q ∧ e = .returned (.int .i64 (xs.getD x 0)) ∧ Cur 61 w' p a n c ∧ Only p w w' := by
  have HX : Hid (∀ i, i < q → w.cell? ⟨g, i, none⟩ = some (.int .i64 (xs.getD i 0))) := hx
  clear hx
  go_enter Tryd.func23, Tryd.ntmps23
  go_wp2_with (go_at_call 22; refine (l1Below_any p a n c _ (by omega) (by omega) _ hC).mono ?_; rintro e w1 ⟨x, hx, rfl, hC1, hO1⟩; have hlt : x < q := (by omega); have e1 := (hO1.cell (o := x) hg).trans (HX.out x hlt))
  go_ret
  exact ⟨x, hlt, rfl, hC1, hO1⟩

theorem l1Pick_any (p : Nat) (a : Option Addr) (n c g q d : Nat) (xs : List (List UInt8)) (h0 : 1 ≤ q) (hq : q ≤ 256) (w : World) (hC : Cur 61 w p a n c) (hg : g ≠ p)
    (hx : ∀ i, i < q → w.cell? ⟨g, i, none⟩ = some (S (xs.getD i []))) :
    Calls Tryd.prog 67 #[.pointer (some ⟨p, 0, none⟩), .slice (some ⟨g, 0, none⟩) q d] w fun e w' => ∃ x : Nat, x < q ∧ e = .returned (S (xs.getD x [])) ∧ Cur 61 w' p a n c ∧ Only p w w' := by
  have HX : Hid (∀ i, i < q → w.cell? ⟨g, i, none⟩ = some (S (xs.getD i []))) := hx
  clear hx
  go_enter Tryd.func67, Tryd.ntmps67
  go_wp2_with (go_at_call 22; refine (l1Below_any p a n c _ (by omega) (by omega) _ hC).mono ?_; rintro e w1 ⟨x, hx, rfl, hC1, hO1⟩; have hlt : x < q := (by omega); have e1 := (hO1.cell (o := x) hg).trans (HX.out x hlt))
  go_ret
  exact ⟨x, hlt, rfl, hC1, hO1⟩
theorem intsL_at (w : World) (xs : List Int) (g : Nat) (hg : w.heap.size = g) {cs : Array Value} {T : TypeId} (hc : cs = (xs.map I).toArray) : ∀ i, i < xs.length → (w.alloc (.cells cs T)).cell? ⟨g, i, none⟩ = some (.int .i64 (xs.getD i 0)) := by
  intro i hi
  subst hg hc
  simp [World.cell?_alloc_at, List.getD, hi]
theorem textsL_at (w : World) (xs : List (List UInt8)) (g : Nat) (hg : w.heap.size = g) {cs : Array Value} {T : TypeId} (hc : cs = (xs.map S).toArray) : ∀ i, i < xs.length → (w.alloc (.cells cs T)).cell? ⟨g, i, none⟩ = some (S (xs.getD i [])) := by
  intro i hi
  subst hg hc
  simp [World.cell?_alloc_at, List.getD, hi]
theorem pickV : ∀ x : Nat, x < 8 → -1000000000000 ≤ ([0, 1, -1, 7, 255, 256, -1000000000000, 1000000000000] : List Int).getD x 0 ∧ ([0, 1, -1, 7, 255, 256, -1000000000000, 1000000000000] : List Int).getD x 0 ≤ 1000000000000 := by decide
theorem pickT : ∀ x : Nat, x < 9 → (⟨(([[], [97], [97, 98], [97, 0], [97, 0, 98], [0], [1], [255], [98]] : List (List UInt8)).getD x []).toArray⟩ : ByteArray).size ≤ 20 := by decide
theorem l17DrawOf_any (p : Nat) (a : Option Addr) (n c : Nat) (kind : Int) (w : World) (hC : Cur 61 w p a n c) :
    Calls Tryd.prog 57 #[.pointer (some ⟨p, 0, none⟩), .int .i64 kind] w fun e w' => ∃ (k m : Int) (s : ByteArray), e = .returned (VaV k m s) ∧ (VaGood k m s ∧ k = (if kind = 1 ∨ kind = 2 ∨ kind = 3 then kind else 0)) ∧ Cur 61 w' p a n c ∧ w.grownBy w' (some p) := by
  have hpw := hC.lt
  have hpn : ¬ w.heap.size = p := by omega
  obtain ⟨W, hW⟩ : ∃ W, w.alloc (.cells #[.int .i64 0, .int .i64 0, .string ⟨#[]⟩] 37) = W := ⟨_, rfl⟩
  have HW : Hid (w.alloc (.cells #[.int .i64 0, .int .i64 0, .string ⟨#[]⟩] 37) = W) := hW
  have HC : Hid (Cur 61 W p a n c) := by rw [← hW]; exact cur_alloc hC _
  have R0 : Hid (Box W w.heap.size #[.int .i64 0, .int .i64 0, .string ⟨#[]⟩] 37) := by rw [← hW]; exact box_of w _ _
  have F0 : Hid (w.grownBy W (some p)) := by rw [← hW]; exact World.grownBy_alloc _ _ _
  have HSW : Hid (W.heap.size = w.heap.size + 1) := by show _ = _; rw [← hW]; simp
  clear hW hC
  rcases (show kind = 1 ∨ kind = 2 ∨ kind = 3 ∨ (¬ kind = 1 ∧ ¬ kind = 2 ∧ ¬ kind = 3) by omega) with rfl | rfl | rfl | ⟨h1, h2, h3⟩
  · go_enter Tryd.func57, Tryd.ntmps57
    go_upto_region 1 with (fail)
    rw [HW.out]
    go_upto_region 3 with (fail)
    go_wp2_with
      (refine (l1Below_any p a n c 2 (by omega) (by omega) W HC.out).mono ?_
       rintro e w1 ⟨x, hx, rfl, hC1, hO1⟩
       have HX : Hid (x < 2) := by show x < 2; omega
       have HC1 : Hid (Cur 61 w1 p a n c) := hC1
       have R1 : Hid (Box w1 w.heap.size #[.int .i64 0, .int .i64 0, .string ⟨#[]⟩] 37) := R0.out.only hO1 hpn
       have F1 : Hid (w.grownBy w1 (some p)) := F0.out.trans (far_only hO1)
       clear hC1 hO1 hx
       obtain ⟨c0, c1, c2⟩ := R1.out.triV
       have f0 := R1.out.frozen 0
       have f1 := R1.out.frozen 1
       have f2 := R1.out.frozen 2)
    have E := ((R1.out.put 0 (.int .i64 1)).put 1 (.int .i64 (x : Int))).put 2 (.string ⟨#[]⟩)
    have q0 := E.cell 0
    have q1 := E.cell 1
    have q2 := E.cell 2
    (try simp only [Exit.inBlock, Exit.then])
    refine bodyPost_ret (by simp [results, Tryd.results57, go_sem, q0, q1, q2]; try rfl) rfl ?_
    exact ⟨1, (x : Int), ⟨#[]⟩, rfl, ⟨.inr (.inl ⟨rfl, ⟨by omega, by have := HX.out; omega⟩, rfl⟩), rfl⟩, cur_set (cur_set (cur_set HC1.out (show p < w.heap.size from hpw) _) (show p < w.heap.size from hpw) _) (show p < w.heap.size from hpw) _, far_set (far_set (far_set F1.out (Nat.le_refl _) _) (Nat.le_refl _) _) (Nat.le_refl _) _⟩
  · go_enter Tryd.func57, Tryd.ntmps57
    go_upto_region 1 with (fail)
    rw [HW.out]
    go_upto_region 5 with (fail)
    go_wp2_with
      (refine (l1PickInt_any p a n c W.heap.size 8 8 [0, 1, -1, 7, 255, 256, -1000000000000, 1000000000000] (by omega) (by omega) _ (cur_alloc HC.out _) (by have := HSW.out; omega) (by intro i hi; exact intsL_at W [0, 1, -1, 7, 255, 256, -1000000000000, 1000000000000] _ rfl rfl i hi)).mono ?_
       rintro e w1 ⟨x, hx, rfl, hC1, hO1⟩
       obtain ⟨m, hm⟩ : ∃ m, ([0, 1, -1, 7, 255, 256, -1000000000000, 1000000000000] : List Int).getD x 0 = m := ⟨_, rfl⟩
       rw [hm]
       have HX : Hid (-1000000000000 ≤ m ∧ m ≤ 1000000000000) := by rw [← hm]; exact pickV x hx
       have HC1 : Hid (Cur 61 w1 p a n c) := hC1
       have R1 : Hid (Box w1 w.heap.size #[.int .i64 0, .int .i64 0, .string ⟨#[]⟩] 37) := (R0.out.alloc _).only hO1 hpn
       have F1 : Hid (w.grownBy w1 (some p)) := (far_alloc F0.out _).trans (far_only hO1)
       clear hC1 hO1 hx hm
       obtain ⟨c0, c1, c2⟩ := R1.out.triV
       have f0 := R1.out.frozen 0
       have f1 := R1.out.frozen 1
       have f2 := R1.out.frozen 2)
    have E := ((R1.out.put 0 (.int .i64 2)).put 1 (.int .i64 m)).put 2 (.string ⟨#[]⟩)
    have q0 := E.cell 0
    have q1 := E.cell 1
    have q2 := E.cell 2
    (try simp only [Exit.inBlock, Exit.then])
    refine bodyPost_ret (by simp [results, Tryd.results57, go_sem, q0, q1, q2]; try rfl) rfl ?_
    exact ⟨2, m, ⟨#[]⟩, rfl, ⟨.inr (.inr (.inl ⟨rfl, HX.out, rfl⟩)), rfl⟩, cur_set (cur_set (cur_set HC1.out (show p < w.heap.size from hpw) _) (show p < w.heap.size from hpw) _) (show p < w.heap.size from hpw) _, far_set (far_set (far_set F1.out (Nat.le_refl _) _) (Nat.le_refl _) _) (Nat.le_refl _) _⟩
  · go_enter Tryd.func57, Tryd.ntmps57
    go_upto_region 1 with (fail)
    rw [HW.out]
    go_upto_region 7 with (fail)
    go_wp2_with
      (refine (l1Pick_any p a n c W.heap.size 9 9 [[], [97], [97, 98], [97, 0], [97, 0, 98], [0], [1], [255], [98]] (by omega) (by omega) _ (cur_alloc HC.out _) (by have := HSW.out; omega) (by intro i hi; exact textsL_at W [[], [97], [97, 98], [97, 0], [97, 0, 98], [0], [1], [255], [98]] _ rfl rfl i hi)).mono ?_
       rintro e w1 ⟨x, hx, rfl, hC1, hO1⟩
       obtain ⟨s, hm⟩ : ∃ s : ByteArray, S (([[], [97], [97, 98], [97, 0], [97, 0, 98], [0], [1], [255], [98]] : List (List UInt8)).getD x []) = .string s := ⟨_, rfl⟩
       rw [hm]
       have HX : Hid (s.size ≤ 20) := by rw [← Value.string.inj hm]; exact pickT x hx
       have HC1 : Hid (Cur 61 w1 p a n c) := hC1
       have R1 : Hid (Box w1 w.heap.size #[.int .i64 0, .int .i64 0, .string ⟨#[]⟩] 37) := (R0.out.alloc _).only hO1 hpn
       have F1 : Hid (w.grownBy w1 (some p)) := (far_alloc F0.out _).trans (far_only hO1)
       clear hC1 hO1 hx hm
       obtain ⟨c0, c1, c2⟩ := R1.out.triV
       have f0 := R1.out.frozen 0
       have f1 := R1.out.frozen 1
       have f2 := R1.out.frozen 2)
    have E := ((R1.out.put 0 (.int .i64 3)).put 1 (.int .i64 0)).put 2 (.string s)
    have q0 := E.cell 0
    have q1 := E.cell 1
    have q2 := E.cell 2
    (try simp only [Exit.inBlock, Exit.then])
    refine bodyPost_ret (by simp [results, Tryd.results57, go_sem, q0, q1, q2]; try rfl) rfl ?_
    exact ⟨3, 0, s, rfl, ⟨.inr (.inr (.inr ⟨rfl, rfl, HX.out⟩)), rfl⟩, cur_set (cur_set (cur_set HC1.out (show p < w.heap.size from hpw) _) (show p < w.heap.size from hpw) _) (show p < w.heap.size from hpw) _, far_set (far_set (far_set F1.out (Nat.le_refl _) _) (Nat.le_refl _) _) (Nat.le_refl _) _⟩
  · go_enter Tryd.func57, Tryd.ntmps57
    go_upto_region 1 with (fail)
    rw [HW.out]
    obtain ⟨c0, c1, c2⟩ := R0.out.triV
    have f0 := R0.out.frozen 0
    have f1 := R0.out.frozen 1
    have f2 := R0.out.frozen 2
    go_wp2
    have E := ((R0.out.put 0 (.int .i64 0)).put 1 (.int .i64 0)).put 2 (.string ⟨#[]⟩)
    have q0 := E.cell 0
    have q1 := E.cell 1
    have q2 := E.cell 2
    (try simp only [Exit.inBlock, Exit.then])
    refine bodyPost_ret (by simp [results, Tryd.results57, go_sem, q0, q1, q2]; try rfl) rfl ?_
    exact ⟨0, 0, ⟨#[]⟩, rfl, ⟨.inl ⟨rfl, rfl, rfl⟩, (by first | rfl | exact (if_neg (by omega)).symm)⟩, cur_set (cur_set (cur_set HC.out (show p < w.heap.size from hpw) _) (show p < w.heap.size from hpw) _) (show p < w.heap.size from hpw) _, far_set (far_set (far_set F0.out (Nat.le_refl _) _) (Nat.le_refl _) _) (Nat.le_refl _) _⟩
theorem l17DrawRight_any (p : Nat) (a : Option Addr) (n c : Nat) (w : World) (hC : Cur 61 w p a n c) :
    Calls Tryd.prog 39 #[.pointer (some ⟨p, 0, none⟩)] w fun e w' => ∃ (k m : Int) (s : ByteArray), e = .returned (VaV k m s) ∧ (VaGood k m s) ∧ Cur 61 w' p a n c ∧ w.grownBy w' (some p) := by
  have hpw := hC.lt
  have hpn : ¬ w.heap.size = p := by omega
  obtain ⟨W, hW⟩ : ∃ W, w.alloc (.cells #[.int .i64 0, .int .i64 0, .string ⟨#[]⟩] 37) = W := ⟨_, rfl⟩
  have HW : Hid (w.alloc (.cells #[.int .i64 0, .int .i64 0, .string ⟨#[]⟩] 37) = W) := hW
  have HC : Hid (Cur 61 W p a n c) := by rw [← hW]; exact cur_alloc hC _
  have R0 : Hid (Box W w.heap.size #[.int .i64 0, .int .i64 0, .string ⟨#[]⟩] 37) := by rw [← hW]; exact box_of w _ _
  have F0 : Hid (w.grownBy W (some p)) := by rw [← hW]; exact World.grownBy_alloc _ _ _
  have HSW : Hid (W.heap.size = w.heap.size + 1) := by show _ = _; rw [← hW]; simp
  clear hW hC
  go_enter Tryd.func39, Tryd.ntmps39
  go_upto_region 1 with (fail)
  rw [HW.out]
  go_wp2_with fail
  refine (l1Below_any p a n c 4 (by omega) (by omega) W HC.out).mono ?_
  rintro e w1 ⟨x, hx, rfl, hC1, hO1⟩
  have HC1 : Hid (Cur 61 w1 p a n c) := hC1
  have R1 : Hid (Box w1 w.heap.size #[.int .i64 0, .int .i64 0, .string ⟨#[]⟩] 37) := R0.out.only hO1 hpn
  have F1 : Hid (w.grownBy w1 (some p)) := F0.out.trans (far_only hO1)
  clear hC1 hO1 hx
  go_wp2_with fail
  refine (l17DrawOf_any p a n c (x : Int) w1 HC1.out).mono ?_
  rintro e w2 ⟨k, m, s, rfl, ⟨hg, -⟩, hC2, hO2⟩
  have HGD : Hid (VaGood k m s) := hg
  have HC2 : Hid (Cur 61 w2 p a n c) := hC2
  have R2 : Hid (Box w2 w.heap.size #[.int .i64 0, .int .i64 0, .string ⟨#[]⟩] 37) := R1.out.farG hO2 hpn
  have F2 : Hid (w.grownBy w2 (some p)) := F1.out.trans hO2
  clear hg hC2 hO2
  obtain ⟨c0, c1, c2⟩ := R2.out.triV
  have f0 := R2.out.frozen 0
  have f1 := R2.out.frozen 1
  have f2 := R2.out.frozen 2
  go_wp2
  have E := ((R2.out.put 0 (.int .i64 k)).put 1 (.int .i64 m)).put 2 (.string s)
  have q0 := E.cell 0
  have q1 := E.cell 1
  have q2 := E.cell 2
  (try simp only [Exit.inBlock, Exit.then])
  refine bodyPost_ret (by simp [results, Tryd.results39, go_sem, q0, q1, q2]; try rfl) rfl ?_
  exact ⟨k, m, s, rfl, HGD.out, cur_set (cur_set (cur_set HC2.out (show p < w.heap.size from hpw) _) (show p < w.heap.size from hpw) _) (show p < w.heap.size from hpw) _, far_set (far_set (far_set F2.out (Nat.le_refl _) _) (Nat.le_refl _) _) (Nat.le_refl _) _⟩
theorem pickU : ∀ x : Nat, x < 3 → -9223372036854775808 ≤ ([2, 1000000000001, -9223372036854775808] : List Int).getD x 0 ∧ ([2, 1000000000001, -9223372036854775808] : List Int).getD x 0 ≤ 9223372036854775807 := by decide
theorem l17Draw_any (p : Nat) (a : Option Addr) (n c : Nat) (w : World) (hC : Cur 61 w p a n c) :
    Calls Tryd.prog 36 #[.pointer (some ⟨p, 0, none⟩)] w fun e w' => ∃ (k m : Int) (s : ByteArray), e = .returned (VaV k m s) ∧ (s.size ≤ 40 ∧ (-9223372036854775808 ≤ k ∧ k ≤ 9223372036854775807) ∧ (-9223372036854775808 ≤ m ∧ m ≤ 9223372036854775807)) ∧ Cur 61 w' p a n c ∧ w.grownBy w' (some p) := by
  have hpw := hC.lt
  have hpn : ¬ w.heap.size = p := by omega
  obtain ⟨W, hW⟩ : ∃ W, w.alloc (.cells #[.int .i64 0, .int .i64 0, .string ⟨#[]⟩] 37) = W := ⟨_, rfl⟩
  have HW : Hid (w.alloc (.cells #[.int .i64 0, .int .i64 0, .string ⟨#[]⟩] 37) = W) := hW
  have HC : Hid (Cur 61 W p a n c) := by rw [← hW]; exact cur_alloc hC _
  have R0 : Hid (Box W w.heap.size #[.int .i64 0, .int .i64 0, .string ⟨#[]⟩] 37) := by rw [← hW]; exact box_of w _ _
  have F0 : Hid (w.grownBy W (some p)) := by rw [← hW]; exact World.grownBy_alloc _ _ _
  have HSW : Hid (W.heap.size = w.heap.size + 1) := by show _ = _; rw [← hW]; simp
  clear hW hC
  go_enter Tryd.func36, Tryd.ntmps36
  go_upto_region 1 with (fail)
  rw [HW.out]
  go_upto_region 2 with
    (go_at_call 39
     refine (l17DrawRight_any p a n c W HC.out).mono ?_
     rintro e w1 ⟨k, m, s, rfl, hg, hC1, hO1⟩
     have HGD : Hid (s.size ≤ 20 ∧ (-1000000000000 ≤ m ∧ m ≤ 1000000000000) ∧ 0 ≤ k ∧ k ≤ 3) := by show _ ∧ _; unfold VaGood at hg; omega
     have HC1 : Hid (Cur 61 w1 p a n c) := hC1
     have R1 : Hid (Box w1 w.heap.size #[.int .i64 0, .int .i64 0, .string ⟨#[]⟩] 37) := R0.out.farG hO1 hpn
     have F1 : Hid (w.grownBy w1 (some p)) := F0.out.trans hO1
     clear hg hC1 hO1)
  obtain ⟨g, hg⟩ : ∃ g, w1.heap.size = g := ⟨_, rfl⟩
  obtain ⟨W2, hW2⟩ : ∃ W2, w1.alloc (.cells #[.int .i64 k, .int .i64 m, .string s] 37) = W2 := ⟨_, rfl⟩
  have HG : Hid (w1.heap.size = g) := hg
  have HW2 : Hid (w1.alloc (.cells #[.int .i64 k, .int .i64 m, .string s] 37) = W2) := hW2
  have HGW : Hid (w.heap.size < g) := by rw [← hg]; exact R1.out.lt
  have X2 : Hid (Box W2 g #[.int .i64 k, .int .i64 m, .string s] 37) := by rw [← hW2, ← hg]; exact box_of _ _ _
  have HC2 : Hid (Cur 61 W2 p a n c) := by rw [← hW2]; exact cur_alloc HC1.out _
  have R2 : Hid (Box W2 w.heap.size #[.int .i64 0, .int .i64 0, .string ⟨#[]⟩] 37) := by rw [← hW2]; exact R1.out.alloc _
  have F2 : Hid (w.grownBy W2 (some p)) := by rw [← hW2]; exact far_alloc F1.out _
  have hgr : ¬ w.heap.size = g := by have := HGW.out; omega
  have hgr' : ¬ g = w.heap.size := fun e => hgr e.symm
  have hgp : ¬ g = p := by have := HGW.out; omega
  rw [HW2.out, HG.out]
  clear hW2 hg
  go_upto_region 3 with
    (go_at_call 22
     refine (l1Below_any p a n c 12 (by omega) (by omega) W2 HC2.out).mono ?_
     rintro e w3 ⟨x, -, rfl, hC3, hO3⟩
     have HC3 : Hid (Cur 61 w3 p a n c) := hC3
     have X3 : Hid (Box w3 g #[.int .i64 k, .int .i64 m, .string s] 37) := X2.out.only hO3 hgp
     have R3 : Hid (Box w3 w.heap.size #[.int .i64 0, .int .i64 0, .string ⟨#[]⟩] 37) := R2.out.only hO3 hpn
     have F3 : Hid (w.grownBy w3 (some p)) := F2.out.trans (far_only hO3)
     clear hC3 hO3)
  obtain ⟨c0, c1, c2⟩ := X3.out.triV
  have f0 := X3.out.frozen 0
  have f1 := X3.out.frozen 1
  have f2 := X3.out.frozen 2
  obtain ⟨r0, r1, r2⟩ := R3.out.triV
  have z0 := R3.out.frozen 0
  have z1 := R3.out.frozen 1
  have z2 := R3.out.frozen 2
  rcases (show x = 0 ∨ x = 1 ∨ x = 2 ∨ (¬ x = 0 ∧ ¬ x = 1 ∧ ¬ x = 2) by omega) with hx | hx | hx | ⟨hx0, hx1, hx2⟩
  · subst hx
    go_upto_region 4 with (fail)
    go_wp2_with
      (go_at_call 22
       refine (l1Below_any p a n c 6 (by omega) (by omega) w3 HC3.out).mono ?_
       rintro e w4 ⟨y, hy, rfl, hC4, hO4⟩
       have HY : Hid (y < 6) := by show y < 6; omega
       have X4' := X3.out.only hO4 hgp
       have R4' := R3.out.only hO4 hpn
       have F4' := F3.out.trans (far_only hO4)
       have hy0 : (y : Int) ≤ 6 := by omega
       clear hO4 hy
       have HC4 : Hid (Cur 61 w4 p a n c) := hC4
       have X4 : Hid (Box w4 g #[.int .i64 k, .int .i64 m, .string s] 37) := X4'
       have R4 : Hid (Box w4 w.heap.size #[.int .i64 0, .int .i64 0, .string ⟨#[]⟩] 37) := R4'
       have F4 : Hid (w.grownBy w4 (some p)) := F4'
       clear hC4 X4' R4' F4' c0 c1 c2 f0 f1 f2 r0 r1 r2 z0 z1 z2
       obtain ⟨c0, c1, c2⟩ := X4.out.triV
       have f0 := X4.out.frozen 0
       have f1 := X4.out.frozen 1
       have f2 := X4.out.frozen 2
       obtain ⟨r0, r1, r2⟩ := R4.out.triV
       have z0 := R4.out.frozen 0
       have z1 := R4.out.frozen 1
       have z2 := R4.out.frozen 2)
    have E := (((R4.out.set (q := ⟨g, 0, none⟩) hgr (.int .i64 ((y : Int) - 1))).put 0 (.int .i64 ((y : Int) - 1))).put 1 (.int .i64 m)).put 2 (.string s)
    have q0 := E.cell 0
    have q1 := E.cell 1
    have q2 := E.cell 2
    (try simp only [Exit.inBlock, Exit.then])
    refine bodyPost_ret (by simp [results, Tryd.results36, go_sem, q0, q1, q2]; try rfl) rfl ?_
    exact ⟨((y : Int) - 1), m, s, rfl, ⟨by have := HGD.out; omega, by have := HY.out; omega, by have := HGD.out; omega⟩, cur_set (cur_set (cur_set (cur_set HC4.out (show p < g from Nat.lt_trans hpw HGW.out) (.int .i64 ((y : Int) - 1))) (show p < w.heap.size from hpw) _) (show p < w.heap.size from hpw) _) (show p < w.heap.size from hpw) _, far_set (far_set (far_set (far_set F4.out (show w.heap.size ≤ g from Nat.le_of_lt HGW.out) (.int .i64 ((y : Int) - 1))) (Nat.le_refl _) _) (Nat.le_refl _) _) (Nat.le_refl _) _⟩
  · subst hx
    go_upto_region 6 with (fail)
    go_wp2_with
      (go_at_call 23
       refine (l1PickInt_any p a n c w3.heap.size 3 3 [2, 1000000000001, -9223372036854775808] (by omega) (by omega) _ (cur_alloc HC3.out _) (by have := R3.out.lt; omega) (by intro i hi; exact intsL_at w3 [2, 1000000000001, -9223372036854775808] _ rfl rfl i hi)).mono ?_
       rintro e w4 ⟨y, hy, rfl, hC4, hO4⟩
       obtain ⟨v, hv⟩ : ∃ v, ([2, 1000000000001, -9223372036854775808] : List Int).getD y 0 = v := ⟨_, rfl⟩
       rw [hv]
       have HY : Hid (-9223372036854775808 ≤ v ∧ v ≤ 9223372036854775807) := by rw [← hv]; exact pickU y hy
       have X4' := (X3.out.alloc _).only hO4 hgp
       have R4' := (R3.out.alloc _).only hO4 hpn
       have F4' := (far_alloc F3.out _).trans (far_only hO4)
       clear hO4 hy hv
       have HC4 : Hid (Cur 61 w4 p a n c) := hC4
       have X4 : Hid (Box w4 g #[.int .i64 k, .int .i64 m, .string s] 37) := X4'
       have R4 : Hid (Box w4 w.heap.size #[.int .i64 0, .int .i64 0, .string ⟨#[]⟩] 37) := R4'
       have F4 : Hid (w.grownBy w4 (some p)) := F4'
       clear hC4 X4' R4' F4' c0 c1 c2 f0 f1 f2 r0 r1 r2 z0 z1 z2
       obtain ⟨c0, c1, c2⟩ := X4.out.triV
       have f0 := X4.out.frozen 0
       have f1 := X4.out.frozen 1
       have f2 := X4.out.frozen 2
       obtain ⟨r0, r1, r2⟩ := R4.out.triV
       have z0 := R4.out.frozen 0
       have z1 := R4.out.frozen 1
       have z2 := R4.out.frozen 2)
    have E := (((R4.out.set (q := ⟨g, 1, none⟩) hgr (.int .i64 v)).put 0 (.int .i64 k)).put 1 (.int .i64 v)).put 2 (.string s)
    have q0 := E.cell 0
    have q1 := E.cell 1
    have q2 := E.cell 2
    (try simp only [Exit.inBlock, Exit.then])
    refine bodyPost_ret (by simp [results, Tryd.results36, go_sem, q0, q1, q2]; try rfl) rfl ?_
    exact ⟨k, v, s, rfl, ⟨by have := HGD.out; omega, by have := HGD.out; omega, HY.out⟩, cur_set (cur_set (cur_set (cur_set HC4.out (show p < g from Nat.lt_trans hpw HGW.out) (.int .i64 v)) (show p < w.heap.size from hpw) _) (show p < w.heap.size from hpw) _) (show p < w.heap.size from hpw) _, far_set (far_set (far_set (far_set F4.out (show w.heap.size ≤ g from Nat.le_of_lt HGW.out) (.int .i64 v)) (Nat.le_refl _) _) (Nat.le_refl _) _) (Nat.le_refl _) _⟩
  · subst hx
    have HTS : Hid ((s ++ (⟨#[97, 97, 97, 97, 97, 97, 97, 97, 97, 97, 97, 97, 97, 97, 97, 97, 97, 97, 97, 97]⟩ : ByteArray)).size = s.size + 20) := by show _ = _; rw [ByteArray.size_append]; rfl
    have hsz : s.size ≤ 20 := HGD.out.1
    have HC4 := HC3
    have X4 := X3
    have R4 := R3
    have F4 := F3
    go_wp2
    generalize s ++ (⟨#[97, 97, 97, 97, 97, 97, 97, 97, 97, 97, 97, 97, 97, 97, 97, 97, 97, 97, 97, 97]⟩ : ByteArray) = t at HTS ⊢
    have E := (((R4.out.set (q := ⟨g, 2, none⟩) hgr (.string t)).put 0 (.int .i64 k)).put 1 (.int .i64 m)).put 2 (.string t)
    have q0 := E.cell 0
    have q1 := E.cell 1
    have q2 := E.cell 2
    (try simp only [Exit.inBlock, Exit.then])
    refine bodyPost_ret (by simp [results, Tryd.results36, go_sem, q0, q1, q2]; try rfl) rfl ?_
    exact ⟨k, m, t, rfl, ⟨by have := HGD.out; have := HTS.out; omega, by have := HGD.out; omega, by have := HGD.out; omega⟩, cur_set (cur_set (cur_set (cur_set HC4.out (show p < g from Nat.lt_trans hpw HGW.out) (.string t)) (show p < w.heap.size from hpw) _) (show p < w.heap.size from hpw) _) (show p < w.heap.size from hpw) _, far_set (far_set (far_set (far_set F4.out (show w.heap.size ≤ g from Nat.le_of_lt HGW.out) (.string t)) (Nat.le_refl _) _) (Nat.le_refl _) _) (Nat.le_refl _) _⟩
  · have HC4 := HC3
    have R4 := R3
    have F4 := F3
    have hb0 : ((x : Int) == 0) = false := by rw [beq_eq_false_iff_ne]; omega
    have hb1 : ((x : Int) == 1) = false := by rw [beq_eq_false_iff_ne]; omega
    have hb2 : ((x : Int) == 2) = false := by rw [beq_eq_false_iff_ne]; omega
    go_wp2
    have E := ((R4.out.put 0 (.int .i64 k)).put 1 (.int .i64 m)).put 2 (.string s)
    have q0 := E.cell 0
    have q1 := E.cell 1
    have q2 := E.cell 2
    (try simp only [Exit.inBlock, Exit.then])
    refine bodyPost_ret (by simp [results, Tryd.results36, go_sem, q0, q1, q2]; try rfl) rfl ?_
    exact ⟨k, m, s, rfl, ⟨by have := HGD.out; omega, by have := HGD.out; omega, by have := HGD.out; omega⟩, cur_set (cur_set (cur_set HC4.out (show p < w.heap.size from hpw) _) (show p < w.heap.size from hpw) _) (show p < w.heap.size from hpw) _, far_set (far_set (far_set F4.out (Nat.le_refl _) _) (Nat.le_refl _) _) (Nat.le_refl _) _⟩
theorem l1Once_anyB (p : Nat) (a : Option Addr) (n c : Nat) (m : Int) (h0 : 1 ≤ m) (hm : m ≤ 256) (w : World) (hC : Cur 61 w p a n c) :
    Calls Tryd.prog 35 #[.pointer (some ⟨p, 0, none⟩), .int .i64 m] w fun e w' => (∃ b : Bool, e = .returned (.bool b)) ∧ Cur 61 w' p a n c ∧ Only p w w' := by
  go_enter Tryd.func35, Tryd.ntmps35
  go_wp2_with (go_at_call 22; refine (l1Below_any p a n c m h0 hm _ hC).mono ?_; rintro e w1 ⟨x, -, rfl, hC1, hO1⟩)
  go_ret
  exact ⟨⟨_, rfl⟩, hC1, hO1⟩
theorem far_low {w0 w w' : World} {row : Option Nat} (h0 : w0.grownBy w row) (h : Below w0.heap.size w w') : w0.grownBy w' row :=
  ⟨h.os.trans h0.os, h.tape.trans h0.tape, h.output.trans h0.output, Nat.le_trans h0.size h.size, fun k hk hr => (h.block k hk).trans (h0.block k hk hr)⟩
theorem l18DrawRight_any (p : Nat) (a : Option Addr) (n c : Nat) (w : World) (hC : Cur 61 w p a n c) :
    Calls Tryd.prog 21 #[.pointer (some ⟨p, 0, none⟩)] w fun e w' => ∃ v L, e = .returned v ∧ VOwn w' w.heap.size v L ∧ (TupGood L ∧ ¬ v = .slice none 0 0) ∧ Cur 61 w' p a n c ∧ w.grownBy w' (some p) := by
  have hpw := hC.lt
  obtain ⟨g, hg⟩ : ∃ g, w.heap.size = g := ⟨_, rfl⟩
  obtain ⟨W, hW⟩ : ∃ W, w.alloc (.cells #[] 37) = W := ⟨_, rfl⟩
  have HW : Hid (w.alloc (.cells #[] 37) = W) := hW
  have HG : Hid (w.heap.size = g) := hg
  have HPG : Hid (p < g) := by rw [← hg]; exact hpw
  have C0 : Hid (Cur 61 W p a n c) := by rw [← hW]; exact cur_alloc hC _
  have O0 : Hid (VOwn W g (.slice (some ⟨g, 0, none⟩) 0 0) []) := by rw [← hW]; exact vown_nil w hg (Nat.le_refl _)
  have F0 : Hid (w.grownBy W (some p)) := by rw [← hW]; exact World.grownBy_alloc _ _ _
  have Z0 : Hid (g ≤ W.heap.size) := by show g ≤ W.heap.size; rw [← hW, World.size_alloc, hg]; exact Nat.le_succ _
  clear hW hC hg
  go_enter Tryd.func21, Tryd.ntmps21
  go_upto_region 2 with (fail)
  rw [HW.out, HG.out]
  go_wp2
  go_loopw [3, 4] (fun v i wr => ∃ L : List Va3, L.length ≤ 4 ∧ i = .int .i64 (L.length : Int) ∧ (∀ x ∈ L, VaGood x.1 x.2.1 x.2.2) ∧ VOwn wr g v L ∧ (¬ v = .slice none 0 0) ∧ Cur 61 wr p a n c ∧ w.grownBy wr (some p) ∧ g ≤ wr.heap.size) (fun _ i _ => 4 - (RowKit.intOf i).toNat)
  case atStart => exact ⟨[], Nat.zero_le _, rfl, fun x hx => (by cases hx), O0.out, (fun e => by cases e), C0.out, F0.out, Z0.out⟩
  case round =>
    obtain ⟨L, hL4, rfl, hgd, ho, hnn, hc, hf, hz⟩ := hrel
    have N1 : Hid (¬ u3 = .slice none 0 0) := hnn
    have HGD : Hid (∀ x ∈ L, VaGood x.1 x.2.1 x.2.2) := hgd
    have O1 : Hid (VOwn wr g u3 L) := ho
    have C1 : Hid (Cur 61 wr p a n c) := hc
    have F1 : Hid (w.grownBy wr (some p)) := hf
    have Z1 : Hid (g ≤ wr.heap.size) := hz
    have hL0 : (0 : Int) ≤ (L.length : Int) := by omega
    have hLi : (L.length : Int) ≤ 4 := by omega
    clear hgd ho hc hf hz hnn
    go_wp2_with fail
    refine (l1Below_any p a n c 5 (by omega) (by omega) wr C1.out).mono ?_
    rintro e w2 ⟨x, hx, rfl, hC2, hO2⟩
    have C2 : Hid (Cur 61 w2 p a n c) := hC2
    have O2 : Hid (VOwn w2 g u3 L) := own_only O1.out (far_only hO2) HPG.out
    have F2 : Hid (w.grownBy w2 (some p)) := F1.out.trans (far_only hO2)
    have Z2 : Hid (g ≤ w2.heap.size) := Nat.le_trans Z1.out (Nat.le_of_eq hO2.size.symm)
    clear hC2 hO2
    by_cases hlt : L.length < x
    · have hlt' : (L.length : Int) < (x : Int) := by omega
      have HLN : Hid (L.length < 4) := by show L.length < 4; omega
      clear hx hlt
      go_upto_region 5 with (fail)
      go_wp2_with (first
        | (go_at_call 39
           refine (l17DrawRight_any p a n c w2 C2.out).mono ?_
           rintro e w3 ⟨k, m, s, rfl, hg3, hC3, hO3⟩
           have HG3 : Hid (VaGood k m s) := hg3
           have CX : Hid (Cur 61 w3 p a n c) := hC3
           have OX : Hid (VOwn w3 g u3 L) := own_only O2.out hO3 HPG.out
           have FX : Hid (w.grownBy w3 (some p)) := F2.out.trans hO3
           have ZX : Hid (g ≤ w3.heap.size) := Nat.le_trans Z2.out hO3.size
           clear hg3 hC3 hO3)
        | (at_builtin
           refine list_appV _ rfl _ _ rfl g u3 L rfl (OX.out.alloc _) ⟨w3.heap.size, 0, none⟩ 1 1 [(k, m, s)] rfl rfl (vnews _ _ rfl (k, m, s)) (by have := HLN.out; omega) (by have := ZX.out; simp; omega) ?_
           intro v4 w4 hown hbel hnil
           have N4 : Hid (¬ v4 = .slice none 0 0) := fun e => by have h1 := (hnil.1 e).2; cases h1
           have O4 : Hid (VOwn w4 g v4 (L ++ [(k, m, s)])) := hown
           have hb4 : Below g w3 w4 := hbel w3 g (Nat.le_refl _) ((Below.refl g w3).alloc ZX.out _)
           have C4 : Hid (Cur 61 w4 p a n c) := CX.out.keep fun k hk => hb4.block k (Nat.lt_of_le_of_lt hk HPG.out)
           have F4 : Hid (w.grownBy w4 (some p)) := far_low FX.out (by rw [HG.out]; exact hb4)
           have Z4 : Hid (g ≤ w4.heap.size) := Nat.le_trans ZX.out hb4.size
           clear hown hbel hb4 hnil))
      go_roundw
      case rel =>
        refine ⟨L ++ [(k, m, s)], ?_, ?_, ?_, O4.out, N4.out, C4.out, F4.out, Z4.out⟩
        · rw [List.length_append]; have := HLN.out; show L.length + 1 ≤ 4; omega
        · rw [List.length_append]; show Value.int .i64 ((L.length : Int) + 1) = .int .i64 ((L.length + 1 : Nat) : Int); rfl
        · intro x hx
          rcases List.mem_append.1 hx with hx | hx
          · exact HGD.out x hx
          · rw [List.mem_singleton.1 hx]; exact HG3.out
      case measure => have := HLN.out; simp [RowKit.intOf]; omega
    · have hlt' : ¬ ((L.length : Int) < (x : Int)) := by omega
      go_wp2
      go_ret
      have ho := O2.out
      have hg := HG.out
      subst hg
      exact ⟨_, L, rfl, ho, ⟨⟨HGD.out, hL4⟩, N1.out⟩, C2.out, F2.out⟩
theorem l18Draw_any (p : Nat) (a : Option Addr) (n c : Nat) (w : World) (hC : Cur 61 w p a n c) :
    Calls Tryd.prog 18 #[.pointer (some ⟨p, 0, none⟩)] w fun e w' => ∃ v L, e = .returned v ∧ VOwn w' w.heap.size v L ∧ (L.length ≤ 5 ∧ ¬ v = .slice none 0 0) ∧ Cur 61 w' p a n c ∧ w.grownBy w' (some p) := by
  have hpw := hC.lt
  obtain ⟨g, hg⟩ : ∃ g, w.heap.size = g := ⟨_, rfl⟩
  have HG : Hid (w.heap.size = g) := hg
  have HPG : Hid (p < g) := by rw [← hg]; exact hpw
  go_enter Tryd.func18, Tryd.ntmps18
  go_wp2_with fail
  refine (l18DrawRight_any p a n c w hC).mono ?_
  rintro e w1 ⟨v1, L, rfl, ho, ⟨hgd, hnn⟩, hc, hf⟩
  have N1 : Hid (¬ v1 = .slice none 0 0) := hnn
  rw [HG.out] at ho
  have O1 : Hid (VOwn w1 g v1 L) := ho
  have HLN : Hid (L.length ≤ 4) := hgd.2
  have C1 : Hid (Cur 61 w1 p a n c) := hc
  have F1 : Hid (w.grownBy w1 (some p)) := hf
  have Z1 : Hid (g ≤ w1.heap.size) := by rw [← hg]; exact hf.size
  clear ho hgd hc hf hg hC hnn
  go_wp2_with fail
  refine (l1Once_anyB p a n c 6 (by omega) (by omega) w1 C1.out).mono ?_
  rintro e w2 ⟨⟨b, rfl⟩, hC2, hO2⟩
  have C2 : Hid (Cur 61 w2 p a n c) := hC2
  have O2 : Hid (VOwn w2 g v1 L) := own_only O1.out (far_only hO2) HPG.out
  have F2 : Hid (w.grownBy w2 (some p)) := F1.out.trans (far_only hO2)
  have Z2 : Hid (g ≤ w2.heap.size) := Nat.le_trans Z1.out (Nat.le_of_eq hO2.size.symm)
  clear hC2 hO2
  cases b
  · go_wp2
    go_ret
    have ho := O2.out
    have hg := HG.out
    subst hg
    exact ⟨_, L, rfl, ho, ⟨Nat.le_trans HLN.out (by omega), N1.out⟩, C2.out, F2.out⟩
  · go_upto_region 3 with (fail)
    go_wp2_with (first
      | (go_at_call 36
         refine (l17Draw_any p a n c w2 C2.out).mono ?_
         rintro e w3 ⟨k, m, s, rfl, -, hC3, hO3⟩
         have CX : Hid (Cur 61 w3 p a n c) := hC3
         have OX : Hid (VOwn w3 g v1 L) := own_only O2.out hO3 HPG.out
         have FX : Hid (w.grownBy w3 (some p)) := F2.out.trans hO3
         have ZX : Hid (g ≤ w3.heap.size) := Nat.le_trans Z2.out hO3.size
         clear hC3 hO3)
      | (at_builtin
         refine list_appV _ rfl _ _ rfl g v1 L rfl (OX.out.alloc _) ⟨w3.heap.size, 0, none⟩ 1 1 [(k, m, s)] rfl rfl (vnews _ _ rfl (k, m, s)) (by have := HLN.out; omega) (by have := ZX.out; simp; omega) ?_
         intro v4 w4 hown hbel hnil
         have N4 : Hid (¬ v4 = .slice none 0 0) := fun e => by have h1 := (hnil.1 e).2; cases h1
         have O4 : Hid (VOwn w4 g v4 (L ++ [(k, m, s)])) := hown
         have hb4 : Below g w3 w4 := hbel w3 g (Nat.le_refl _) ((Below.refl g w3).alloc ZX.out _)
         have C4 : Hid (Cur 61 w4 p a n c) := CX.out.keep fun k hk => hb4.block k (Nat.lt_of_le_of_lt hk HPG.out)
         have F4 : Hid (w.grownBy w4 (some p)) := far_low FX.out (by rw [HG.out]; exact hb4)
         have Z4 : Hid (g ≤ w4.heap.size) := Nat.le_trans ZX.out hb4.size
         clear hown hbel hb4 hnil))
    go_ret
    have ho := O4.out
    have hg := HG.out
    subst hg
    exact ⟨_, L ++ [(k, m, s)], rfl, ho, ⟨by rw [List.length_append]; have := HLN.out; show L.length + 1 ≤ 5; omega, N4.out⟩, C4.out, F4.out⟩
theorem drawTupleOk_any (a : Option Addr) (n c : Nat) (w : World) (hn : n ≤ 1048576) (hB : BytesAt w w.heap.size a n) :
    Calls Tryd.prog 10 #[.slice a n c] w fun e w' => (∃ v L, e = .returned v ∧ VOwn w' w.heap.size v L ∧ L.length ≤ 5) ∧ Below w.heap.size w w' := by
  have HB : Hid (BytesAt w w.heap.size a n) := hB
  clear hB
  go_enter Tryd.func10, Tryd.ntmps10
  go_wp2_with fail
  refine (l1New_any a n c _ hn HB.out).mono ?_
  rintro e w1 ⟨rfl, hC, hb, hz⟩
  have HC1 : Hid (Cur 61 w1 w.heap.size a n c) := hC
  have B1 : Hid (Below w.heap.size w w1) := hb
  clear hC hb hz
  go_wp2_with fail
  refine (l18Draw_any w.heap.size a n c w1 HC1.out).mono ?_
  rintro e w2 ⟨v, L, rfl, ho, ⟨hl, -⟩, -, hf⟩
  have O2 : Hid (VOwn w2 w1.heap.size v L) := ho
  have B2 : Hid (Below w.heap.size w w2) := B1.out.grown hf B1.out.size (fun k hk => by cases hk; exact Nat.le_refl _)
  clear ho hf
  go_wp2
  go_ret
  exact ⟨⟨_, L, rfl, own_weaken O2.out B1.out.size, hl⟩, B2.out⟩
theorem drawTupleBytes_any (a : Option Addr) (n c : Nat) (w : World) (hn : n ≤ 1048576) (hB : BytesAt w w.heap.size a n) :
    Calls Tryd.prog 5 #[.slice a n c] w fun e w' => (∃ v L, e = .returned v ∧ VOwn w' w.heap.size v L ∧ L.length ≤ 5) ∧ Below w.heap.size w w' := by
  have HB : Hid (BytesAt w w.heap.size a n) := hB
  clear hB
  go_enter Tryd.func5, Tryd.ntmps5
  go_wp2_with fail
  refine (l1New_any a n c _ hn HB.out).mono ?_
  rintro e w1 ⟨rfl, hC, hb, hz⟩
  have HC1 : Hid (Cur 61 w1 w.heap.size a n c) := hC
  have B1 : Hid (Below w.heap.size w w1) := hb
  clear hC hb hz
  go_wp2_with fail
  refine (l18Draw_any w.heap.size a n c w1 HC1.out).mono ?_
  rintro e w2 ⟨v, L, rfl, ho, ⟨hl, -⟩, -, hf⟩
  have O2 : Hid (VOwn w2 w1.heap.size v L) := ho
  have B2 : Hid (Below w.heap.size w w2) := B1.out.grown hf B1.out.size (fun k hk => by cases hk; exact Nat.le_refl _)
  clear ho hf
  go_wp2
  go_ret
  exact ⟨⟨_, L, rfl, own_weaken O2.out B1.out.size, hl⟩, B2.out⟩
theorem drawTupleText_any (a : Option Addr) (n c : Nat) (w : World) (hn : n ≤ 1048576) (hB : BytesAt w w.heap.size a n) :
    Calls Tryd.prog 11 #[.slice a n c] w fun e w' => (∃ v L, e = .returned v ∧ VOwn w' w.heap.size v L ∧ L.length ≤ 5) ∧ Below w.heap.size w w' := by
  have HB : Hid (BytesAt w w.heap.size a n) := hB
  clear hB
  go_enter Tryd.func11, Tryd.ntmps11
  go_wp2_with fail
  refine (l1New_any a n c _ hn HB.out).mono ?_
  rintro e w1 ⟨rfl, hC, hb, hz⟩
  have HC1 : Hid (Cur 61 w1 w.heap.size a n c) := hC
  have B1 : Hid (Below w.heap.size w w1) := hb
  clear hC hb hz
  go_wp2_with fail
  refine (l18Draw_any w.heap.size a n c w1 HC1.out).mono ?_
  rintro e w2 ⟨v, L, rfl, ho, ⟨hl, -⟩, -, hf⟩
  have O2 : Hid (VOwn w2 w1.heap.size v L) := ho
  have B2 : Hid (Below w.heap.size w w2) := B1.out.grown hf B1.out.size (fun k hk => by cases hk; exact Nat.le_refl _)
  clear ho hf
  go_wp2
  go_ret
  exact ⟨⟨_, L, rfl, own_weaken O2.out B1.out.size, hl⟩, B2.out⟩

end
end Go.Proofs.YtgibeakclknhnaaDoor
