/- Texts joined: Cur, Far, Own, IntAt, BoxN, DrawF, Str, Draw, Pick, Val17, DrawV, TextS, DrawV2, OnceL, OwnsF, Clone, Trip. -/
import Derived.WalkKit
import Derived.WalkSmall
import Derived.Test.YtgibeakclknhnaaRows
import Derived.ProofKit
import Derived.Below
import Derived.Maps.AppendAt
import Derived.OwnWalk
import Derived.OpenShut
import Derived.Deep.RegionHeld3
import Derived.Deep.Cut
import Derived.Laws.AppendOwn
import Derived.Deep.RegionLaw
import Derived.Handy
import Derived.Lib.SmallJoins
import Derived.Deep.Slices
import Derived.Deep.SlicePairs
import Derived.Deep.Strs
set_option maxHeartbeats 4000000
set_option maxRecDepth 100000
namespace Go.Proofs.Ytgibeakclknhnaa
section
open Go.RowKit
theorem and255 (x : Int) : bits .and .i64 x 255 = x % 256 := by
  have e : ((BitVec.ofInt 64 x) &&& (BitVec.ofInt 64 255)).toNat = (x % 256).toNat := by
    rw [BitVec.toNat_and, BitVec.toNat_ofInt, BitVec.toNat_ofInt, show ((255 : Int) % ((2 ^ 64 : Nat) : Int)).toNat = 2 ^ 8 - 1 by decide, Nat.and_two_pow_sub_one_eq_mod]
    omega
  show IntKind.i64.wrap (((BitVec.ofInt 64 x) &&& (BitVec.ofInt 64 255)).toNat : Int) = _
  rw [e, IntKind.wrap_i64]
  omega

structure Only (p : Nat) (w w' : World) : Prop where
  os : w'.os = w.os
  tape : w'.tape = w.tape
  output : w'.output = w.output
  size : w'.heap.size = w.heap.size
  block : ∀ k, k ≠ p → w'.heap[k]? = w.heap[k]?
theorem Only.refl (p : Nat) (w : World) : Only p w w := ⟨rfl, rfl, rfl, rfl, fun _ _ => rfl⟩
theorem Only.trans {p : Nat} {a b c : World} (h : Only p a b) (k : Only p b c) : Only p a c :=
  ⟨k.os.trans h.os, k.tape.trans h.tape, k.output.trans h.output, k.size.trans h.size, fun i hi => (k.block i hi).trans (h.block i hi)⟩
theorem Only.drew {p : Nat} {a b : World} (h : Only p a b) : Only p a b.drew := ⟨h.os, h.tape, h.output, h.size, h.block⟩
theorem Only.setCell {p : Nat} {a b : World} (h : Only p a b) (o : Nat) (v : Value) : Only p a (b.setCell ⟨p, o, none⟩ v) :=
  h.trans ⟨rfl, rfl, rfl, by simp [World.setCell], fun k hk => Below.heap_setCell _ _ _ _ hk⟩
theorem Only.below {p : Nat} {w w' : World} (h : Only p w w') {B : Nat} (hB : B ≤ p) : Below B w w' :=
  ⟨h.os, h.tape, h.output, Nat.le_of_eq h.size.symm, fun k hk => h.block k (by omega)⟩
theorem Only.owns {p : Nat} {w w' : World} (h : Only p w w') {base : Nat} {e : TypeId} {size : Nat} {v : Value} {n : Nat} {xs : List Value} (ho : w.ownsRow base e size v n xs) (hp : p < base) : w'.ownsRow base e size v n xs := by
  obtain ⟨h1, h2 | ⟨g, cap, cur, h3, h4, h5, h6⟩⟩ := ho
  · exact ⟨h1, .inl h2⟩
  · exact ⟨h1, .inr ⟨g, cap, cur, h3, h4, by rw [h.block g (by omega)]; exact h5, h6⟩⟩

def BytesAt (w : World) (p : Nat) (a : Option Addr) (n : Nat) : Prop :=
  n = 0 ∨ ∃ b o, a = some ⟨b, o, none⟩ ∧ b < p ∧ ∀ j, j < n → ∃ z : Nat, z ≤ 255 ∧ w.cell? ⟨b, o + j, none⟩ = some (.int .u8 (z : Int))
theorem BytesAt.keep {w w' : World} {p : Nat} {a : Option Addr} {n : Nat} (h : BytesAt w p a n) (hb : ∀ k, k < p → w'.heap[k]? = w.heap[k]?) : BytesAt w' p a n := by
  rcases h with h | ⟨b, o, h1, h2, h3⟩
  · exact .inl h
  · refine .inr ⟨b, o, h1, h2, fun j hj => ?_⟩
    obtain ⟨z, h4, h5⟩ := h3 j hj
    exact ⟨z, h4, by rw [World.cell?_of_block (w := w) (hb b h2)]; exact h5⟩
theorem BytesAt.mono {w : World} {p q : Nat} {a : Option Addr} {n : Nat} (h : BytesAt w p a n) (hq : p ≤ q) : BytesAt w q a n := by
  rcases h with h | ⟨b, o, h1, h2, h3⟩
  · exact .inl h
  · exact .inr ⟨b, o, h1, by omega, h3⟩

def CurIs (T : TypeId) (w : World) (p : Nat) (a : Option Addr) (n c : Nat) (i h : Int) : Prop :=
  w.heap[p]? = some (.cells #[.slice a n c, .int .i64 i, .int .i64 h] T (0, 0))
def Cur (T : TypeId) (w : World) (p : Nat) (a : Option Addr) (n c : Nat) : Prop :=
  (∃ i h : Int, CurIs T w p a n c i h ∧ 0 ≤ i ∧ i ≤ n) ∧ BytesAt w p a n ∧ n ≤ 1048576
theorem Cur.keep {T : TypeId} {w w' : World} {p : Nat} {a : Option Addr} {n c : Nat} (h : Cur T w p a n c) (hb : ∀ k, k ≤ p → w'.heap[k]? = w.heap[k]?) : Cur T w' p a n c := by
  obtain ⟨⟨i, x, h1, h2⟩, h3, h4⟩ := h
  exact ⟨⟨i, x, by unfold CurIs; rw [hb p (Nat.le_refl _)]; exact h1, h2⟩, h3.keep (fun k hk => hb k (by omega)), h4⟩
theorem Cur.lt {T : TypeId} {w : World} {p : Nat} {a : Option Addr} {n c : Nat} (h : Cur T w p a n c) : p < w.heap.size := by
  obtain ⟨⟨i, x, h1, h2⟩, h3, h4⟩ := h
  exact (Array.getElem?_eq_some_iff.1 h1).1
theorem CurIs.cell {T : TypeId} {w : World} {p : Nat} {a : Option Addr} {n c : Nat} {i x : Int} (h : CurIs T w p a n c i x) :
    w.cell? ⟨p, 0, none⟩ = some (.slice a n c) ∧ w.cell? ⟨p, 1, none⟩ = some (.int .i64 i) ∧ w.cell? ⟨p, 2, none⟩ = some (.int .i64 x) := by
  unfold CurIs at h
  simp [World.cell?, h]
theorem CurIs.frozen {T : TypeId} {w : World} {p : Nat} {a : Option Addr} {n c : Nat} {i x : Int} (h : CurIs T w p a n c i x) (j : Nat) : w.frozen? ⟨p, j, none⟩ = false := by
  unfold CurIs at h
  simp [World.frozen?, h]
theorem CurIs.set1 {T : TypeId} {w : World} {p : Nat} {a : Option Addr} {n c : Nat} {i x : Int} (h : CurIs T w p a n c i x) (i' : Int) : CurIs T (w.setCell ⟨p, 1, none⟩ (.int .i64 i')) p a n c i' x := by
  unfold CurIs at h ⊢
  obtain ⟨hlt, h'⟩ := Array.getElem?_eq_some_iff.1 h
  show (w.heap.modify p _)[p]? = _
  rw [Array.getElem?_eq_getElem (by simpa using hlt), Array.getElem_modify_self, h']
  rfl
theorem CurIs.set2 {T : TypeId} {w : World} {p : Nat} {a : Option Addr} {n c : Nat} {i x : Int} (h : CurIs T w p a n c i x) (x' : Int) : CurIs T (w.setCell ⟨p, 2, none⟩ (.int .i64 x')) p a n c i x' := by
  unfold CurIs at h ⊢
  obtain ⟨hlt, h'⟩ := Array.getElem?_eq_some_iff.1 h
  show (w.heap.modify p _)[p]? = _
  rw [Array.getElem?_eq_getElem (by simpa using hlt), Array.getElem_modify_self, h']
  rfl
theorem CurIs.drew {T : TypeId} {w : World} {p : Nat} {a : Option Addr} {n c : Nat} {i x : Int} (h : CurIs T w p a n c i x) : CurIs T w.drew p a n c i x := h

theorem byte_fin {C D : Prop} (V : Int) (hC : C) (hD : D) : ∃ x : Nat, x ≤ 255 ∧ Ending.returned (.int .i64 (V % 256)) = .returned (.int .i64 (x : Int)) ∧ C ∧ D :=
  ⟨(V % 256).toNat, by omega, by rw [show (((V % 256).toNat : Nat) : Int) = V % 256 by omega], hC, hD⟩
theorem cur_of {T : TypeId} {w w' : World} {p : Nat} {a : Option Addr} {n c : Nat} {i x : Int} (hO : Only p w w') (hB : BytesAt w p a n) (hI : CurIs T w' p a n c i x) (h0 : 0 ≤ i) (h1 : i ≤ n) (hn : n ≤ 1048576) : Cur T w' p a n c :=
  ⟨⟨i, x, hI, h0, h1⟩, hB.keep (fun k hk => hO.block k (by omega)), hn⟩
theorem below_fin {C D : Prop} {x : Nat} {m : Int} (h0 : 1 ≤ m) (hC : C) (hD : D) : ∃ y : Nat, (y : Int) < m ∧ Ending.returned (.int .i64 ((x : Int) % m)) = .returned (.int .i64 (y : Int)) ∧ C ∧ D := by
  obtain ⟨q, rfl⟩ : ∃ q : Nat, m = (q : Int) := ⟨m.toNat, by omega⟩
  have := Nat.mod_lt x (show 0 < q by omega)
  exact ⟨x % q, by omega, by rw [Int.natCast_emod], hC, hD⟩
theorem cur_new {T : TypeId} {w : World} {a : Option Addr} {n c : Nat} {x : Int} (hB : BytesAt w w.heap.size a n) (hn : n ≤ 1048576) : Cur T (w.alloc (.cells #[.slice a n c, .int .i64 0, .int .i64 x] T)) w.heap.size a n c :=
  ⟨⟨0, x, heap_alloc_new w _, by omega, by omega⟩, hB.keep (fun k hk => Below.heap_alloc _ _ _ hk), hn⟩
theorem Only.cell {p : Nat} {w w' : World} (h : Only p w w') {g o : Nat} (hg : g ≠ p) : w'.cell? ⟨g, o, none⟩ = w.cell? ⟨g, o, none⟩ := World.cell?_of_block (w := w) (h.block g hg)
end
section
open Go.ChangeShapes Go.WideShapes Go.ChangeAt Go.RowKit
theorem far_set {w0 w : World} {row : Option Nat} (h : w0.grownBy w row) {a : Addr} (ha : w0.heap.size ≤ a.block) (v : Value) : w0.grownBy (w.setCell a v) row :=
  ⟨h.os, h.tape, h.output, by simpa [World.setCell] using h.size, fun k hk hr => by rw [Below.heap_setCell _ _ _ _ (fun e => by omega)]; exact h.block k hk hr⟩
end
section
open Go.RowKit
theorem owns_below {w w' : World} {base : Nat} {e : TypeId} {size : Nat} {v : Value} {n : Nat} {xs : List Value} (h : w.ownsRow base e size v n xs) {B : Nat} (hb : Below B w w') (hB : w.heap.size ≤ B) : w'.ownsRow base e size v n xs := by
  obtain ⟨h1, h2 | ⟨g, cap, cur, h3, h4, h5, h6⟩⟩ := h
  · exact ⟨h1, .inl h2⟩
  · refine ⟨h1, .inr ⟨g, cap, cur, h3, h4, ?_, h6⟩⟩
    have := (Array.getElem?_eq_some_iff.1 h5).1
    rw [hb.block g (by omega)]
    exact h5
end
section
open Go.ChangeShapes Go.WideShapes Go.ChangeAt Go.RowKit
abbrev I (x : Int) : Value := .int .i64 x
def IntAt (w : World) (a : Option Addr) (n : Nat) (xs : List Int) : Prop :=
  xs.length = n ∧ n ≤ 1099511627776 ∧ (n = 0 ∨ ∃ b o, a = some ⟨b, o, none⟩ ∧ ∀ i, i < n → w.cell? ⟨b, o + i, none⟩ = some (I (xs.getD i 0)))

theorem IntAt.below {w w' : World} {a : Option Addr} {n : Nat} {xs : List Int} (h : IntAt w a n xs) {B : Nat} (hb : Below B w w') (hB : w.heap.size ≤ B) : IntAt w' a n xs := by
  obtain ⟨h1, h2, h3 | ⟨b, o, h3, h4⟩⟩ := h
  · exact ⟨h1, h2, .inl h3⟩
  · refine ⟨h1, h2, .inr ⟨b, o, h3, fun i hi => ?_⟩⟩
    have h5 := h4 i hi
    have h6 := World.block_lt_of_cell? w _ h5
    rw [hb.cell (show _ < B from Nat.lt_of_lt_of_le h6 hB)]
    exact h5
end
section
open Go.RowKit
def Box (w : World) (b : Nat) (cs : Array Value) (T : TypeId) : Prop := w.heap[b]? = some (.cells cs T)
section
variable {w w' : World} {b : Nat} {cs : Array Value} {T : TypeId}
theorem Box.lt (h : Box w b cs T) : b < w.heap.size := (Array.getElem?_eq_some_iff.1 h).1
theorem Box.cell (h : Box w b cs T) (i : Nat) : w.cell? ⟨b, i, none⟩ = cs[i]? := by unfold Box at h; simp [World.cell?, h]
theorem Box.frozen (h : Box w b cs T) (i : Nat) : w.frozen? ⟨b, i, none⟩ = false := by unfold Box at h; simp [World.frozen?, h]
theorem Box.below (h : Box w b cs T) {B : Nat} (hb : Below B w w') (hB : b < B) : Box w' b cs T := by
  unfold Box at h ⊢
  rw [hb.block b hB]
  exact h
theorem Box.set (h : Box w b cs T) {q : Addr} (hq : b ≠ q.block) (v : Value) : Box (w.setCell q v) b cs T := by
  unfold Box at h ⊢
  rw [Below.heap_setCell _ _ _ _ hq]
  exact h
theorem Box.put (h : Box w b cs T) (i : Nat) (v : Value) : Box (w.setCell ⟨b, i, none⟩ v) b (cs.setIfInBounds i v) T := by
  unfold Box at h ⊢
  obtain ⟨hlt, h'⟩ := Array.getElem?_eq_some_iff.1 h
  show (w.heap.modify b _)[b]? = _
  rw [Array.getElem?_eq_getElem (by simpa using hlt), Array.getElem_modify_self, h']
  rfl
theorem Box.alloc (h : Box w b cs T) (o : Obj) : Box (w.alloc o) b cs T := h.below ((Below.refl w.heap.size w).alloc (Nat.le_refl _) o) h.lt
theorem box_of (w : World) (cs : Array Value) (T : TypeId) : Box (w.alloc (.cells cs T)) w.heap.size cs T := by
  show (w.heap.push _)[w.heap.size]? = _
  simp
theorem Box.drew (h : Box w b cs T) : Box w.drew b cs T := h
end
theorem size_setCell (w : World) (a : Addr) (v : Value) : (w.setCell a v).heap.size = w.heap.size := by simp [World.setCell]
theorem Box.two {w : World} {b : Nat} {T : TypeId} {x y : Value} (h : Box w b #[x, y] T) : w.cell? ⟨b, 0, none⟩ = some x ∧ w.cell? ⟨b, 1, none⟩ = some y ∧ w.frozen? ⟨b, 0, none⟩ = false ∧ w.frozen? ⟨b, 1, none⟩ = false :=
  ⟨h.cell 0, h.cell 1, h.frozen 0, h.frozen 1⟩
end
section
open Go.ChangeShapes Go.WideShapes Go.ChangeAt Go.RowKit
theorem far_only {p : Nat} {w w' : World} (h : Only p w w') : w.grownBy w' (some p) := ⟨h.os, h.tape, h.output, Nat.le_of_eq h.size.symm, fun k _ hk => h.block k (fun e => hk (by rw [e]))⟩
theorem cur_below {T : TypeId} {w w' : World} {p : Nat} {a : Option Addr} {n c : Nat} (h : Cur T w p a n c) (hb : Below w.heap.size w w') : Cur T w' p a n c :=
  h.keep fun k hk => hb.block k (Nat.lt_of_le_of_lt hk h.lt)
theorem cur_set {T : TypeId} {w : World} {p : Nat} {a : Option Addr} {n c : Nat} (h : Cur T w p a n c) {q : Addr} (hq : p < q.block) (v : Value) : Cur T (w.setCell q v) p a n c :=
  h.keep fun k hk => Below.heap_setCell _ _ _ _ (fun e => by omega)
theorem cur_alloc {T : TypeId} {w : World} {p : Nat} {a : Option Addr} {n c : Nat} (h : Cur T w p a n c) (o : Obj) : Cur T (w.alloc o) p a n c := cur_below h ((Below.refl _ w).alloc (Nat.le_refl _) o)
theorem own_only {p : Nat} {w w' : World} {base : Nat} {e : TypeId} {size : Nat} {v : Value} {n : Nat} {xs : List Value} (ho : w.ownsRow base e size v n xs) (h : w.grownBy w' (some p)) (hp : p < base) : w'.ownsRow base e size v n xs := by
  obtain ⟨h1, h2 | ⟨g, cap, cur, h3, h4, h5, h6⟩⟩ := ho
  · exact ⟨h1, .inl h2⟩
  · exact ⟨h1, .inr ⟨g, cap, cur, h3, h4, by rw [h.block g (Array.getElem?_eq_some_iff.1 h5).1 (by simp; omega)]; exact h5, h6⟩⟩
theorem Box.farG {w w' : World} {b p : Nat} {cs : Array Value} {T : TypeId} (h : Box w b cs T) (hg : w.grownBy w' (some p)) (hp : ¬ b = p) : Box w' b cs T := by
  unfold Box at h ⊢
  rw [hg.block b (Array.getElem?_eq_some_iff.1 h).1 (by simpa using hp)]
  exact h
theorem Box.only {w w' : World} {b p : Nat} {cs : Array Value} {T : TypeId} (h : Box w b cs T) (hO : Only p w w') (hp : ¬ b = p) : Box w' b cs T := h.farG (far_only hO) hp
theorem far_alloc {w0 w : World} {row : Option Nat} (h : w0.grownBy w row) (o : Obj) : w0.grownBy (w.alloc o) row := h.trans (World.grownBy_alloc _ _ _)
end
theorem str_eq {a b : ByteArray} (h : a.data.toList = b.data.toList) : a = b := by
  cases a; cases b; simp_all
abbrev S (l : List UInt8) : Value := .string ⟨l.toArray⟩
section
open Go.ChangeShapes Go.WideShapes Go.ChangeAt Go.RowKit
theorem l1Byte_any (p : Nat) (a : Option Addr) (n c : Nat) (w : World) (hC : Cur 56 w p a n c) :
    Calls Try.prog 47 #[.pointer (some ⟨p, 0, none⟩)] w fun e w' => ∃ x : Nat, x ≤ 255 ∧ e = .returned (.int .i64 (x : Int)) ∧ Cur 56 w' p a n c ∧ Only p w w' := by
  obtain ⟨⟨i, h, hI, hi0, hi1⟩, hB, hn⟩ := hC
  obtain ⟨j, rfl⟩ : ∃ j : Nat, i = (j : Int) := ⟨i.toNat, by omega⟩
  obtain ⟨c0, c1, c2⟩ := hI.cell
  have f1 := hI.frozen 1
  have f2 := hI.frozen 2
  have HI : Hid (CurIs 56 w p a n c j h) := hI
  have HB : Hid (BytesAt w p a n) := hB
  have hand := and255
  clear hI hB
  by_cases hlt : j < n
  · rcases HB.out with h0 | ⟨b, o, rfl, hbp, hby⟩
    · omega
    obtain ⟨z, hz, e1⟩ := hby j hlt
    clear hby
    go_enter Try.func47, Try.ntmps47
    go_wp2
    go_region
    go_wp2
    go_region
    go_wp2
    go_region
    go_wp2
    go_ret
    have hO : Only p w (((w.setCell ⟨p, 2, none⟩ (.int .i64 (wrap64 (wrap64 (h * 6364136223846793005) + 1442695040888963407)))).setCell ⟨p, 1, none⟩ (.int .i64 ((j : Int) + 1))).drew.drew.drew) := (((Only.refl p w).setCell 2 _).setCell 1 _).drew.drew.drew
    exact byte_fin _ (cur_of hO HB.out ((HI.out.set2 _).set1 _) (by omega) (by omega) hn) hO
  · go_enter Try.func47, Try.ntmps47
    go_wp2
    go_region
    go_wp2
    go_region
    go_wp2
    go_ret
    have hO : Only p w ((w.setCell ⟨p, 2, none⟩ (.int .i64 (wrap64 (wrap64 (h * 6364136223846793005) + 1442695040888963407)))).drew.drew) := ((Only.refl p w).setCell 2 _).drew.drew
    exact byte_fin _ (cur_of hO HB.out (HI.out.set2 _) hi0 hi1 hn) hO

theorem l1Below_any (p : Nat) (a : Option Addr) (n c : Nat) (m : Int) (h0 : 1 ≤ m) (hm : m ≤ 256) (w : World) (hC : Cur 56 w p a n c) :
    Calls Try.prog 28 #[.pointer (some ⟨p, 0, none⟩), .int .i64 m] w fun e w' => ∃ x : Nat, (x : Int) < m ∧ e = .returned (.int .i64 (x : Int)) ∧ Cur 56 w' p a n c ∧ Only p w w' := by
  go_enter Try.func28, Try.ntmps28
  go_wp2_with (go_at_call 47; refine (l1Byte_any p a n c _ hC).mono ?_; rintro e w1 ⟨x, hx, rfl, hC1, hO1⟩)
  go_ret
  exact below_fin h0 hC1 hO1

theorem l1New_any (a : Option Addr) (n c : Nat) (w : World) (hn : n ≤ 1048576) (hB : BytesAt w w.heap.size a n) :
    Calls Try.prog 26 #[.slice a n c] w fun e w' => e = .returned (.pointer (some ⟨w.heap.size, 0, none⟩)) ∧ Cur 56 w' w.heap.size a n c ∧ Below w.heap.size w w' ∧ w'.heap.size = w.heap.size + 1 := by
  have HB : Hid (BytesAt w w.heap.size a n) := hB
  clear hB
  go_enter Try.func26, Try.ntmps26
  go_wp2
  go_loop [3, 4] (fun h i => ∃ (x : Int) (k : Nat), h = .int .i64 x ∧ i = .int .i64 (k : Int) ∧ k ≤ n) (fun _ i => n - (intOf i).toNat)
  case atStart => exact ⟨_, 0, rfl, rfl, Nat.zero_le _⟩
  case round =>
    obtain ⟨x, k, rfl, rfl, hk⟩ := hrel
    by_cases hlt : k < n
    · rcases HB.out with h0 | ⟨b, o, rfl, hbp, hby⟩
      · omega
      obtain ⟨z, hz, e1⟩ := hby k hlt
      clear hby
      by_cases h4 : k < 4000
      · go_wp2
        go_round
        case rel => exact ⟨_, k + 1, rfl, by go_num, by omega⟩
        case measure => simp [intOf]; omega
      · go_wp2
        go_ret
        exact ⟨rfl, cur_new HB.out hn, (Below.refl _ _).alloc (Nat.le_refl _) _, by simp⟩
    · go_wp2
      go_ret
      exact ⟨rfl, cur_new HB.out hn, (Below.refl _ _).alloc (Nat.le_refl _) _, by simp⟩
theorem l1PickInt_any (p : Nat) (a : Option Addr) (n c g q d : Nat) (xs : List Int) (h0 : 1 ≤ q) (hq : q ≤ 256) (w : World) (hC : Cur 56 w p a n c) (hg : g ≠ p)
    (hx : ∀ i, i < q → w.cell? ⟨g, i, none⟩ = some (.int .i64 (xs.getD i 0))) :
    Calls Try.prog 55 #[.pointer (some ⟨p, 0, none⟩), .slice (some ⟨g, 0, none⟩) q d] w fun e w' => ∃ x : Nat, x < q ∧ e = .returned (.int .i64 (xs.getD x 0)) ∧ Cur 56 w' p a n c ∧ Only p w w' := by
  have HX : Hid (∀ i, i < q → w.cell? ⟨g, i, none⟩ = some (.int .i64 (xs.getD i 0))) := hx
  clear hx
  go_enter Try.func55, Try.ntmps55
  go_wp2_with (go_at_call 28; refine (l1Below_any p a n c _ (by omega) (by omega) _ hC).mono ?_; rintro e w1 ⟨x, hx, rfl, hC1, hO1⟩; have hlt : x < q := (by omega); have e1 := (hO1.cell (o := x) hg).trans (HX.out x hlt))
  go_ret
  exact ⟨x, hlt, rfl, hC1, hO1⟩

theorem l1Pick_any (p : Nat) (a : Option Addr) (n c g q d : Nat) (xs : List (List UInt8)) (h0 : 1 ≤ q) (hq : q ≤ 256) (w : World) (hC : Cur 56 w p a n c) (hg : g ≠ p)
    (hx : ∀ i, i < q → w.cell? ⟨g, i, none⟩ = some (S (xs.getD i []))) :
    Calls Try.prog 56 #[.pointer (some ⟨p, 0, none⟩), .slice (some ⟨g, 0, none⟩) q d] w fun e w' => ∃ x : Nat, x < q ∧ e = .returned (S (xs.getD x [])) ∧ Cur 56 w' p a n c ∧ Only p w w' := by
  have HX : Hid (∀ i, i < q → w.cell? ⟨g, i, none⟩ = some (S (xs.getD i []))) := hx
  clear hx
  go_enter Try.func56, Try.ntmps56
  go_wp2_with (go_at_call 28; refine (l1Below_any p a n c _ (by omega) (by omega) _ hC).mono ?_; rintro e w1 ⟨x, hx, rfl, hC1, hO1⟩; have hlt : x < q := (by omega); have e1 := (hO1.cell (o := x) hg).trans (HX.out x hlt))
  go_ret
  exact ⟨x, hlt, rfl, hC1, hO1⟩
abbrev VaV (k n : Int) (s : ByteArray) : Value := .agg #[.int .i64 k, .int .i64 n, .string s]
def VaGood (k n : Int) (s : ByteArray) : Prop :=
  (k = 0 ∧ n = 0 ∧ s.size = 0) ∨ (k = 1 ∧ (0 ≤ n ∧ n ≤ 1) ∧ s.size = 0) ∨ (k = 2 ∧ (-1000000000000 ≤ n ∧ n ≤ 1000000000000) ∧ s.size = 0) ∨ (k = 3 ∧ n = 0 ∧ s.size ≤ 20)
instance (k n : Int) (s : ByteArray) : Decidable (VaGood k n s) := by unfold VaGood; infer_instance
def lessV (k n : Int) (s : ByteArray) (k' n' : Int) (s' : ByteArray) : Bool := if k = k' then (if n = n' then Op.bytesLess s.toList s'.toList else decide (n < n')) else decide (k < k')
def sameV (k n : Int) (s : ByteArray) (k' n' : Int) (s' : ByteArray) : Bool := decide (k = k' ∧ n = n' ∧ s = s')
theorem Box.triV {w : World} {b : Nat} {T : TypeId} {x y z : Value} (h : Box w b #[x, y, z] T) : w.cell? ⟨b, 0, none⟩ = some x ∧ w.cell? ⟨b, 1, none⟩ = some y ∧ w.cell? ⟨b, 2, none⟩ = some z := ⟨h.cell 0, h.cell 1, h.cell 2⟩
theorem str_nil {s : ByteArray} (h : s.size = 0) : s = ⟨#[]⟩ := by
  have h1 : s.data.toList = [] := List.length_eq_zero_iff.1 (by simpa using h)
  exact str_eq h1
theorem str_some {s : ByteArray} (h : ¬ s.size = 0) : s.toList.isEmpty = false := by
  simp only [ByteArray.toList_eq]
  rcases hl : s.data.toList with _ | ⟨x, r⟩
  · exfalso
    apply h
    have h1 : s.data.toList.length = 0 := by rw [hl]; rfl
    simpa using h1
  · rfl
theorem intsL_at (w : World) (xs : List Int) (g : Nat) (hg : w.heap.size = g) {cs : Array Value} {T : TypeId} (hc : cs = (xs.map I).toArray) : ∀ i, i < xs.length → (w.alloc (.cells cs T)).cell? ⟨g, i, none⟩ = some (.int .i64 (xs.getD i 0)) := by
  intro i hi
  subst hg hc
  simp [World.cell?_alloc_at, List.getD, hi]
theorem textsL_at (w : World) (xs : List (List UInt8)) (g : Nat) (hg : w.heap.size = g) {cs : Array Value} {T : TypeId} (hc : cs = (xs.map S).toArray) : ∀ i, i < xs.length → (w.alloc (.cells cs T)).cell? ⟨g, i, none⟩ = some (S (xs.getD i [])) := by
  intro i hi
  subst hg hc
  simp [World.cell?_alloc_at, List.getD, hi]
theorem pickV : ∀ x : Nat, x < 8 → -1000000000000 ≤ ([0, 1, -1, 7, 255, 256, -1000000000000, 1000000000000] : List Int).getD x 0 ∧ ([0, 1, -1, 7, 255, 256, -1000000000000, 1000000000000] : List Int).getD x 0 ≤ 1000000000000 := by decide
theorem pickT : ∀ x : Nat, x < 9 → (⟨(([[], [97], [97, 98], [97, 0], [97, 0, 98], [0], [1], [255], [98]] : List (List UInt8)).getD x []).toArray⟩ : ByteArray).size ≤ 20 := by decide
theorem l17DrawOf_any (p : Nat) (a : Option Addr) (n c : Nat) (kind : Int) (w : World) (hC : Cur 56 w p a n c) :
    Calls Try.prog 48 #[.pointer (some ⟨p, 0, none⟩), .int .i64 kind] w fun e w' => ∃ (k m : Int) (s : ByteArray), e = .returned (VaV k m s) ∧ (VaGood k m s ∧ k = (if kind = 1 ∨ kind = 2 ∨ kind = 3 then kind else 0)) ∧ Cur 56 w' p a n c ∧ w.grownBy w' (some p) := by
  have hpw := hC.lt
  have hpn : ¬ w.heap.size = p := by omega
  obtain ⟨W, hW⟩ : ∃ W, w.alloc (.cells #[.int .i64 0, .int .i64 0, .string ⟨#[]⟩] 44) = W := ⟨_, rfl⟩
  have HW : Hid (w.alloc (.cells #[.int .i64 0, .int .i64 0, .string ⟨#[]⟩] 44) = W) := hW
  have HC : Hid (Cur 56 W p a n c) := by rw [← hW]; exact cur_alloc hC _
  have R0 : Hid (Box W w.heap.size #[.int .i64 0, .int .i64 0, .string ⟨#[]⟩] 44) := by rw [← hW]; exact box_of w _ _
  have F0 : Hid (w.grownBy W (some p)) := by rw [← hW]; exact World.grownBy_alloc _ _ _
  have HSW : Hid (W.heap.size = w.heap.size + 1) := by show _ = _; rw [← hW]; simp
  clear hW hC
  rcases (show kind = 1 ∨ kind = 2 ∨ kind = 3 ∨ (¬ kind = 1 ∧ ¬ kind = 2 ∧ ¬ kind = 3) by omega) with rfl | rfl | rfl | ⟨h1, h2, h3⟩
  · go_enter Try.func48, Try.ntmps48
    go_upto_region 1 with (fail)
    rw [HW.out]
    go_upto_region 3 with (fail)
    go_wp2_with
      (refine (l1Below_any p a n c 2 (by omega) (by omega) W HC.out).mono ?_
       rintro e w1 ⟨x, hx, rfl, hC1, hO1⟩
       have HX : Hid (x < 2) := by show x < 2; omega
       have HC1 : Hid (Cur 56 w1 p a n c) := hC1
       have R1 : Hid (Box w1 w.heap.size #[.int .i64 0, .int .i64 0, .string ⟨#[]⟩] 44) := R0.out.only hO1 hpn
       have F1 : Hid (w.grownBy w1 (some p)) := F0.out.trans (far_only hO1)
       clear hC1 hO1 hx
       obtain ⟨c0, c1, c2⟩ := R1.out.triV
       have f0 := R1.out.frozen 0
       have f1 := R1.out.frozen 1
       have f2 := R1.out.frozen 2)
    have E := ((R1.out.put 0 (.int .i64 1)).put 1 (.int .i64 (x : Int))).put 2 (.string ⟨#[]⟩)
    have q0 := E.cell 0
    have q1 := E.cell 1
    have q2 := E.cell 2
    (try simp only [Exit.inBlock, Exit.then])
    refine bodyPost_ret (by simp [results, Try.results48, go_sem, q0, q1, q2]; try rfl) rfl ?_
    exact ⟨1, (x : Int), ⟨#[]⟩, rfl, ⟨.inr (.inl ⟨rfl, ⟨by omega, by have := HX.out; omega⟩, rfl⟩), rfl⟩, cur_set (cur_set (cur_set HC1.out (show p < w.heap.size from hpw) _) (show p < w.heap.size from hpw) _) (show p < w.heap.size from hpw) _, far_set (far_set (far_set F1.out (Nat.le_refl _) _) (Nat.le_refl _) _) (Nat.le_refl _) _⟩
  · go_enter Try.func48, Try.ntmps48
    go_upto_region 1 with (fail)
    rw [HW.out]
    go_upto_region 5 with (fail)
    go_wp2_with
      (refine (l1PickInt_any p a n c W.heap.size 8 8 [0, 1, -1, 7, 255, 256, -1000000000000, 1000000000000] (by omega) (by omega) _ (cur_alloc HC.out _) (by have := HSW.out; omega) (by intro i hi; exact intsL_at W [0, 1, -1, 7, 255, 256, -1000000000000, 1000000000000] _ rfl rfl i hi)).mono ?_
       rintro e w1 ⟨x, hx, rfl, hC1, hO1⟩
       obtain ⟨m, hm⟩ : ∃ m, ([0, 1, -1, 7, 255, 256, -1000000000000, 1000000000000] : List Int).getD x 0 = m := ⟨_, rfl⟩
       rw [hm]
       have HX : Hid (-1000000000000 ≤ m ∧ m ≤ 1000000000000) := by rw [← hm]; exact pickV x hx
       have HC1 : Hid (Cur 56 w1 p a n c) := hC1
       have R1 : Hid (Box w1 w.heap.size #[.int .i64 0, .int .i64 0, .string ⟨#[]⟩] 44) := (R0.out.alloc _).only hO1 hpn
       have F1 : Hid (w.grownBy w1 (some p)) := (far_alloc F0.out _).trans (far_only hO1)
       clear hC1 hO1 hx hm
       obtain ⟨c0, c1, c2⟩ := R1.out.triV
       have f0 := R1.out.frozen 0
       have f1 := R1.out.frozen 1
       have f2 := R1.out.frozen 2)
    have E := ((R1.out.put 0 (.int .i64 2)).put 1 (.int .i64 m)).put 2 (.string ⟨#[]⟩)
    have q0 := E.cell 0
    have q1 := E.cell 1
    have q2 := E.cell 2
    (try simp only [Exit.inBlock, Exit.then])
    refine bodyPost_ret (by simp [results, Try.results48, go_sem, q0, q1, q2]; try rfl) rfl ?_
    exact ⟨2, m, ⟨#[]⟩, rfl, ⟨.inr (.inr (.inl ⟨rfl, HX.out, rfl⟩)), rfl⟩, cur_set (cur_set (cur_set HC1.out (show p < w.heap.size from hpw) _) (show p < w.heap.size from hpw) _) (show p < w.heap.size from hpw) _, far_set (far_set (far_set F1.out (Nat.le_refl _) _) (Nat.le_refl _) _) (Nat.le_refl _) _⟩
  · go_enter Try.func48, Try.ntmps48
    go_upto_region 1 with (fail)
    rw [HW.out]
    go_upto_region 7 with (fail)
    go_wp2_with
      (refine (l1Pick_any p a n c W.heap.size 9 9 [[], [97], [97, 98], [97, 0], [97, 0, 98], [0], [1], [255], [98]] (by omega) (by omega) _ (cur_alloc HC.out _) (by have := HSW.out; omega) (by intro i hi; exact textsL_at W [[], [97], [97, 98], [97, 0], [97, 0, 98], [0], [1], [255], [98]] _ rfl rfl i hi)).mono ?_
       rintro e w1 ⟨x, hx, rfl, hC1, hO1⟩
       obtain ⟨s, hm⟩ : ∃ s : ByteArray, S (([[], [97], [97, 98], [97, 0], [97, 0, 98], [0], [1], [255], [98]] : List (List UInt8)).getD x []) = .string s := ⟨_, rfl⟩
       rw [hm]
       have HX : Hid (s.size ≤ 20) := by rw [← Value.string.inj hm]; exact pickT x hx
       have HC1 : Hid (Cur 56 w1 p a n c) := hC1
       have R1 : Hid (Box w1 w.heap.size #[.int .i64 0, .int .i64 0, .string ⟨#[]⟩] 44) := (R0.out.alloc _).only hO1 hpn
       have F1 : Hid (w.grownBy w1 (some p)) := (far_alloc F0.out _).trans (far_only hO1)
       clear hC1 hO1 hx hm
       obtain ⟨c0, c1, c2⟩ := R1.out.triV
       have f0 := R1.out.frozen 0
       have f1 := R1.out.frozen 1
       have f2 := R1.out.frozen 2)
    have E := ((R1.out.put 0 (.int .i64 3)).put 1 (.int .i64 0)).put 2 (.string s)
    have q0 := E.cell 0
    have q1 := E.cell 1
    have q2 := E.cell 2
    (try simp only [Exit.inBlock, Exit.then])
    refine bodyPost_ret (by simp [results, Try.results48, go_sem, q0, q1, q2]; try rfl) rfl ?_
    exact ⟨3, 0, s, rfl, ⟨.inr (.inr (.inr ⟨rfl, rfl, HX.out⟩)), rfl⟩, cur_set (cur_set (cur_set HC1.out (show p < w.heap.size from hpw) _) (show p < w.heap.size from hpw) _) (show p < w.heap.size from hpw) _, far_set (far_set (far_set F1.out (Nat.le_refl _) _) (Nat.le_refl _) _) (Nat.le_refl _) _⟩
  · go_enter Try.func48, Try.ntmps48
    go_upto_region 1 with (fail)
    rw [HW.out]
    obtain ⟨c0, c1, c2⟩ := R0.out.triV
    have f0 := R0.out.frozen 0
    have f1 := R0.out.frozen 1
    have f2 := R0.out.frozen 2
    go_wp2
    have E := ((R0.out.put 0 (.int .i64 0)).put 1 (.int .i64 0)).put 2 (.string ⟨#[]⟩)
    have q0 := E.cell 0
    have q1 := E.cell 1
    have q2 := E.cell 2
    (try simp only [Exit.inBlock, Exit.then])
    refine bodyPost_ret (by simp [results, Try.results48, go_sem, q0, q1, q2]; try rfl) rfl ?_
    exact ⟨0, 0, ⟨#[]⟩, rfl, ⟨.inl ⟨rfl, rfl, rfl⟩, (by first | rfl | exact (if_neg (by omega)).symm)⟩, cur_set (cur_set (cur_set HC.out (show p < w.heap.size from hpw) _) (show p < w.heap.size from hpw) _) (show p < w.heap.size from hpw) _, far_set (far_set (far_set F0.out (Nat.le_refl _) _) (Nat.le_refl _) _) (Nat.le_refl _) _⟩
theorem l17DrawRight_any (p : Nat) (a : Option Addr) (n c : Nat) (w : World) (hC : Cur 56 w p a n c) :
    Calls Try.prog 29 #[.pointer (some ⟨p, 0, none⟩)] w fun e w' => ∃ (k m : Int) (s : ByteArray), e = .returned (VaV k m s) ∧ (VaGood k m s) ∧ Cur 56 w' p a n c ∧ w.grownBy w' (some p) := by
  have hpw := hC.lt
  have hpn : ¬ w.heap.size = p := by omega
  obtain ⟨W, hW⟩ : ∃ W, w.alloc (.cells #[.int .i64 0, .int .i64 0, .string ⟨#[]⟩] 44) = W := ⟨_, rfl⟩
  have HW : Hid (w.alloc (.cells #[.int .i64 0, .int .i64 0, .string ⟨#[]⟩] 44) = W) := hW
  have HC : Hid (Cur 56 W p a n c) := by rw [← hW]; exact cur_alloc hC _
  have R0 : Hid (Box W w.heap.size #[.int .i64 0, .int .i64 0, .string ⟨#[]⟩] 44) := by rw [← hW]; exact box_of w _ _
  have F0 : Hid (w.grownBy W (some p)) := by rw [← hW]; exact World.grownBy_alloc _ _ _
  have HSW : Hid (W.heap.size = w.heap.size + 1) := by show _ = _; rw [← hW]; simp
  clear hW hC
  go_enter Try.func29, Try.ntmps29
  go_upto_region 1 with (fail)
  rw [HW.out]
  go_wp2_with fail
  refine (l1Below_any p a n c 4 (by omega) (by omega) W HC.out).mono ?_
  rintro e w1 ⟨x, hx, rfl, hC1, hO1⟩
  have HC1 : Hid (Cur 56 w1 p a n c) := hC1
  have R1 : Hid (Box w1 w.heap.size #[.int .i64 0, .int .i64 0, .string ⟨#[]⟩] 44) := R0.out.only hO1 hpn
  have F1 : Hid (w.grownBy w1 (some p)) := F0.out.trans (far_only hO1)
  clear hC1 hO1 hx
  go_wp2_with fail
  refine (l17DrawOf_any p a n c (x : Int) w1 HC1.out).mono ?_
  rintro e w2 ⟨k, m, s, rfl, ⟨hg, -⟩, hC2, hO2⟩
  have HGD : Hid (VaGood k m s) := hg
  have HC2 : Hid (Cur 56 w2 p a n c) := hC2
  have R2 : Hid (Box w2 w.heap.size #[.int .i64 0, .int .i64 0, .string ⟨#[]⟩] 44) := R1.out.farG hO2 hpn
  have F2 : Hid (w.grownBy w2 (some p)) := F1.out.trans hO2
  clear hg hC2 hO2
  obtain ⟨c0, c1, c2⟩ := R2.out.triV
  have f0 := R2.out.frozen 0
  have f1 := R2.out.frozen 1
  have f2 := R2.out.frozen 2
  go_wp2
  have E := ((R2.out.put 0 (.int .i64 k)).put 1 (.int .i64 m)).put 2 (.string s)
  have q0 := E.cell 0
  have q1 := E.cell 1
  have q2 := E.cell 2
  (try simp only [Exit.inBlock, Exit.then])
  refine bodyPost_ret (by simp [results, Try.results29, go_sem, q0, q1, q2]; try rfl) rfl ?_
  exact ⟨k, m, s, rfl, HGD.out, cur_set (cur_set (cur_set HC2.out (show p < w.heap.size from hpw) _) (show p < w.heap.size from hpw) _) (show p < w.heap.size from hpw) _, far_set (far_set (far_set F2.out (Nat.le_refl _) _) (Nat.le_refl _) _) (Nat.le_refl _) _⟩
end
section
open Go.ChangeShapes Go.WideShapes Go.RowKit
def TextSays (e : Ending) (l : List UInt8) : Prop := ∃ s : ByteArray, e = .returned (.string s) ∧ s.data.toList = l
end
section
open Go.ChangeShapes Go.WideShapes Go.ChangeAt Go.RowKit
theorem pickU : ∀ x : Nat, x < 3 → -9223372036854775808 ≤ ([2, 1000000000001, -9223372036854775808] : List Int).getD x 0 ∧ ([2, 1000000000001, -9223372036854775808] : List Int).getD x 0 ≤ 9223372036854775807 := by decide
theorem l17Draw_any (p : Nat) (a : Option Addr) (n c : Nat) (w : World) (hC : Cur 56 w p a n c) :
    Calls Try.prog 46 #[.pointer (some ⟨p, 0, none⟩)] w fun e w' => ∃ (k m : Int) (s : ByteArray), e = .returned (VaV k m s) ∧ (s.size ≤ 40 ∧ (-9223372036854775808 ≤ k ∧ k ≤ 9223372036854775807) ∧ (-9223372036854775808 ≤ m ∧ m ≤ 9223372036854775807)) ∧ Cur 56 w' p a n c ∧ w.grownBy w' (some p) := by
  have hpw := hC.lt
  have hpn : ¬ w.heap.size = p := by omega
  obtain ⟨W, hW⟩ : ∃ W, w.alloc (.cells #[.int .i64 0, .int .i64 0, .string ⟨#[]⟩] 44) = W := ⟨_, rfl⟩
  have HW : Hid (w.alloc (.cells #[.int .i64 0, .int .i64 0, .string ⟨#[]⟩] 44) = W) := hW
  have HC : Hid (Cur 56 W p a n c) := by rw [← hW]; exact cur_alloc hC _
  have R0 : Hid (Box W w.heap.size #[.int .i64 0, .int .i64 0, .string ⟨#[]⟩] 44) := by rw [← hW]; exact box_of w _ _
  have F0 : Hid (w.grownBy W (some p)) := by rw [← hW]; exact World.grownBy_alloc _ _ _
  have HSW : Hid (W.heap.size = w.heap.size + 1) := by show _ = _; rw [← hW]; simp
  clear hW hC
  go_enter Try.func46, Try.ntmps46
  go_upto_region 1 with (fail)
  rw [HW.out]
  go_upto_region 2 with
    (go_at_call 29
     refine (l17DrawRight_any p a n c W HC.out).mono ?_
     rintro e w1 ⟨k, m, s, rfl, hg, hC1, hO1⟩
     have HGD : Hid (s.size ≤ 20 ∧ (-1000000000000 ≤ m ∧ m ≤ 1000000000000) ∧ 0 ≤ k ∧ k ≤ 3) := by show _ ∧ _; unfold VaGood at hg; omega
     have HC1 : Hid (Cur 56 w1 p a n c) := hC1
     have R1 : Hid (Box w1 w.heap.size #[.int .i64 0, .int .i64 0, .string ⟨#[]⟩] 44) := R0.out.farG hO1 hpn
     have F1 : Hid (w.grownBy w1 (some p)) := F0.out.trans hO1
     clear hg hC1 hO1)
  obtain ⟨g, hg⟩ : ∃ g, w1.heap.size = g := ⟨_, rfl⟩
  obtain ⟨W2, hW2⟩ : ∃ W2, w1.alloc (.cells #[.int .i64 k, .int .i64 m, .string s] 44) = W2 := ⟨_, rfl⟩
  have HG : Hid (w1.heap.size = g) := hg
  have HW2 : Hid (w1.alloc (.cells #[.int .i64 k, .int .i64 m, .string s] 44) = W2) := hW2
  have HGW : Hid (w.heap.size < g) := by rw [← hg]; exact R1.out.lt
  have X2 : Hid (Box W2 g #[.int .i64 k, .int .i64 m, .string s] 44) := by rw [← hW2, ← hg]; exact box_of _ _ _
  have HC2 : Hid (Cur 56 W2 p a n c) := by rw [← hW2]; exact cur_alloc HC1.out _
  have R2 : Hid (Box W2 w.heap.size #[.int .i64 0, .int .i64 0, .string ⟨#[]⟩] 44) := by rw [← hW2]; exact R1.out.alloc _
  have F2 : Hid (w.grownBy W2 (some p)) := by rw [← hW2]; exact far_alloc F1.out _
  have hgr : ¬ w.heap.size = g := by have := HGW.out; omega
  have hgr' : ¬ g = w.heap.size := fun e => hgr e.symm
  have hgp : ¬ g = p := by have := HGW.out; omega
  rw [HW2.out, HG.out]
  clear hW2 hg
  go_upto_region 3 with
    (go_at_call 28
     refine (l1Below_any p a n c 12 (by omega) (by omega) W2 HC2.out).mono ?_
     rintro e w3 ⟨x, -, rfl, hC3, hO3⟩
     have HC3 : Hid (Cur 56 w3 p a n c) := hC3
     have X3 : Hid (Box w3 g #[.int .i64 k, .int .i64 m, .string s] 44) := X2.out.only hO3 hgp
     have R3 : Hid (Box w3 w.heap.size #[.int .i64 0, .int .i64 0, .string ⟨#[]⟩] 44) := R2.out.only hO3 hpn
     have F3 : Hid (w.grownBy w3 (some p)) := F2.out.trans (far_only hO3)
     clear hC3 hO3)
  obtain ⟨c0, c1, c2⟩ := X3.out.triV
  have f0 := X3.out.frozen 0
  have f1 := X3.out.frozen 1
  have f2 := X3.out.frozen 2
  obtain ⟨r0, r1, r2⟩ := R3.out.triV
  have z0 := R3.out.frozen 0
  have z1 := R3.out.frozen 1
  have z2 := R3.out.frozen 2
  rcases (show x = 0 ∨ x = 1 ∨ x = 2 ∨ (¬ x = 0 ∧ ¬ x = 1 ∧ ¬ x = 2) by omega) with hx | hx | hx | ⟨hx0, hx1, hx2⟩
  · subst hx
    go_upto_region 4 with (fail)
    go_wp2_with
      (go_at_call 28
       refine (l1Below_any p a n c 6 (by omega) (by omega) w3 HC3.out).mono ?_
       rintro e w4 ⟨y, hy, rfl, hC4, hO4⟩
       have HY : Hid (y < 6) := by show y < 6; omega
       have X4' := X3.out.only hO4 hgp
       have R4' := R3.out.only hO4 hpn
       have F4' := F3.out.trans (far_only hO4)
       have hy0 : (y : Int) ≤ 6 := by omega
       clear hO4 hy
       have HC4 : Hid (Cur 56 w4 p a n c) := hC4
       have X4 : Hid (Box w4 g #[.int .i64 k, .int .i64 m, .string s] 44) := X4'
       have R4 : Hid (Box w4 w.heap.size #[.int .i64 0, .int .i64 0, .string ⟨#[]⟩] 44) := R4'
       have F4 : Hid (w.grownBy w4 (some p)) := F4'
       clear hC4 X4' R4' F4' c0 c1 c2 f0 f1 f2 r0 r1 r2 z0 z1 z2
       obtain ⟨c0, c1, c2⟩ := X4.out.triV
       have f0 := X4.out.frozen 0
       have f1 := X4.out.frozen 1
       have f2 := X4.out.frozen 2
       obtain ⟨r0, r1, r2⟩ := R4.out.triV
       have z0 := R4.out.frozen 0
       have z1 := R4.out.frozen 1
       have z2 := R4.out.frozen 2)
    have E := (((R4.out.set (q := ⟨g, 0, none⟩) hgr (.int .i64 ((y : Int) - 1))).put 0 (.int .i64 ((y : Int) - 1))).put 1 (.int .i64 m)).put 2 (.string s)
    have q0 := E.cell 0
    have q1 := E.cell 1
    have q2 := E.cell 2
    (try simp only [Exit.inBlock, Exit.then])
    refine bodyPost_ret (by simp [results, Try.results46, go_sem, q0, q1, q2]; try rfl) rfl ?_
    exact ⟨((y : Int) - 1), m, s, rfl, ⟨by have := HGD.out; omega, by have := HY.out; omega, by have := HGD.out; omega⟩, cur_set (cur_set (cur_set (cur_set HC4.out (show p < g from Nat.lt_trans hpw HGW.out) (.int .i64 ((y : Int) - 1))) (show p < w.heap.size from hpw) _) (show p < w.heap.size from hpw) _) (show p < w.heap.size from hpw) _, far_set (far_set (far_set (far_set F4.out (show w.heap.size ≤ g from Nat.le_of_lt HGW.out) (.int .i64 ((y : Int) - 1))) (Nat.le_refl _) _) (Nat.le_refl _) _) (Nat.le_refl _) _⟩
  · subst hx
    go_upto_region 6 with (fail)
    go_wp2_with
      (go_at_call 55
       refine (l1PickInt_any p a n c w3.heap.size 3 3 [2, 1000000000001, -9223372036854775808] (by omega) (by omega) _ (cur_alloc HC3.out _) (by have := R3.out.lt; omega) (by intro i hi; exact intsL_at w3 [2, 1000000000001, -9223372036854775808] _ rfl rfl i hi)).mono ?_
       rintro e w4 ⟨y, hy, rfl, hC4, hO4⟩
       obtain ⟨v, hv⟩ : ∃ v, ([2, 1000000000001, -9223372036854775808] : List Int).getD y 0 = v := ⟨_, rfl⟩
       rw [hv]
       have HY : Hid (-9223372036854775808 ≤ v ∧ v ≤ 9223372036854775807) := by rw [← hv]; exact pickU y hy
       have X4' := (X3.out.alloc _).only hO4 hgp
       have R4' := (R3.out.alloc _).only hO4 hpn
       have F4' := (far_alloc F3.out _).trans (far_only hO4)
       clear hO4 hy hv
       have HC4 : Hid (Cur 56 w4 p a n c) := hC4
       have X4 : Hid (Box w4 g #[.int .i64 k, .int .i64 m, .string s] 44) := X4'
       have R4 : Hid (Box w4 w.heap.size #[.int .i64 0, .int .i64 0, .string ⟨#[]⟩] 44) := R4'
       have F4 : Hid (w.grownBy w4 (some p)) := F4'
       clear hC4 X4' R4' F4' c0 c1 c2 f0 f1 f2 r0 r1 r2 z0 z1 z2
       obtain ⟨c0, c1, c2⟩ := X4.out.triV
       have f0 := X4.out.frozen 0
       have f1 := X4.out.frozen 1
       have f2 := X4.out.frozen 2
       obtain ⟨r0, r1, r2⟩ := R4.out.triV
       have z0 := R4.out.frozen 0
       have z1 := R4.out.frozen 1
       have z2 := R4.out.frozen 2)
    have E := (((R4.out.set (q := ⟨g, 1, none⟩) hgr (.int .i64 v)).put 0 (.int .i64 k)).put 1 (.int .i64 v)).put 2 (.string s)
    have q0 := E.cell 0
    have q1 := E.cell 1
    have q2 := E.cell 2
    (try simp only [Exit.inBlock, Exit.then])
    refine bodyPost_ret (by simp [results, Try.results46, go_sem, q0, q1, q2]; try rfl) rfl ?_
    exact ⟨k, v, s, rfl, ⟨by have := HGD.out; omega, by have := HGD.out; omega, HY.out⟩, cur_set (cur_set (cur_set (cur_set HC4.out (show p < g from Nat.lt_trans hpw HGW.out) (.int .i64 v)) (show p < w.heap.size from hpw) _) (show p < w.heap.size from hpw) _) (show p < w.heap.size from hpw) _, far_set (far_set (far_set (far_set F4.out (show w.heap.size ≤ g from Nat.le_of_lt HGW.out) (.int .i64 v)) (Nat.le_refl _) _) (Nat.le_refl _) _) (Nat.le_refl _) _⟩
  · subst hx
    have HTS : Hid ((s ++ (⟨#[97, 97, 97, 97, 97, 97, 97, 97, 97, 97, 97, 97, 97, 97, 97, 97, 97, 97, 97, 97]⟩ : ByteArray)).size = s.size + 20) := by show _ = _; rw [ByteArray.size_append]; rfl
    have hsz : s.size ≤ 20 := HGD.out.1
    have HC4 := HC3
    have X4 := X3
    have R4 := R3
    have F4 := F3
    go_wp2
    generalize s ++ (⟨#[97, 97, 97, 97, 97, 97, 97, 97, 97, 97, 97, 97, 97, 97, 97, 97, 97, 97, 97, 97]⟩ : ByteArray) = t at HTS ⊢
    have E := (((R4.out.set (q := ⟨g, 2, none⟩) hgr (.string t)).put 0 (.int .i64 k)).put 1 (.int .i64 m)).put 2 (.string t)
    have q0 := E.cell 0
    have q1 := E.cell 1
    have q2 := E.cell 2
    (try simp only [Exit.inBlock, Exit.then])
    refine bodyPost_ret (by simp [results, Try.results46, go_sem, q0, q1, q2]; try rfl) rfl ?_
    exact ⟨k, m, t, rfl, ⟨by have := HGD.out; have := HTS.out; omega, by have := HGD.out; omega, by have := HGD.out; omega⟩, cur_set (cur_set (cur_set (cur_set HC4.out (show p < g from Nat.lt_trans hpw HGW.out) (.string t)) (show p < w.heap.size from hpw) _) (show p < w.heap.size from hpw) _) (show p < w.heap.size from hpw) _, far_set (far_set (far_set (far_set F4.out (show w.heap.size ≤ g from Nat.le_of_lt HGW.out) (.string t)) (Nat.le_refl _) _) (Nat.le_refl _) _) (Nat.le_refl _) _⟩
  · have HC4 := HC3
    have R4 := R3
    have F4 := F3
    have hb0 : ((x : Int) == 0) = false := by rw [beq_eq_false_iff_ne]; omega
    have hb1 : ((x : Int) == 1) = false := by rw [beq_eq_false_iff_ne]; omega
    have hb2 : ((x : Int) == 2) = false := by rw [beq_eq_false_iff_ne]; omega
    go_wp2
    have E := ((R4.out.put 0 (.int .i64 k)).put 1 (.int .i64 m)).put 2 (.string s)
    have q0 := E.cell 0
    have q1 := E.cell 1
    have q2 := E.cell 2
    (try simp only [Exit.inBlock, Exit.then])
    refine bodyPost_ret (by simp [results, Try.results46, go_sem, q0, q1, q2]; try rfl) rfl ?_
    exact ⟨k, m, s, rfl, ⟨by have := HGD.out; omega, by have := HGD.out; omega, by have := HGD.out; omega⟩, cur_set (cur_set (cur_set HC4.out (show p < w.heap.size from hpw) _) (show p < w.heap.size from hpw) _) (show p < w.heap.size from hpw) _, far_set (far_set (far_set F4.out (Nat.le_refl _) _) (Nat.le_refl _) _) (Nat.le_refl _) _⟩
theorem l1Once_anyB (p : Nat) (a : Option Addr) (n c : Nat) (m : Int) (h0 : 1 ≤ m) (hm : m ≤ 256) (w : World) (hC : Cur 56 w p a n c) :
    Calls Try.prog 45 #[.pointer (some ⟨p, 0, none⟩), .int .i64 m] w fun e w' => (∃ b : Bool, e = .returned (.bool b)) ∧ Cur 56 w' p a n c ∧ Only p w w' := by
  go_enter Try.func45, Try.ntmps45
  go_wp2_with (go_at_call 28; refine (l1Below_any p a n c m h0 hm _ hC).mono ?_; rintro e w1 ⟨x, -, rfl, hC1, hO1⟩)
  go_ret
  exact ⟨⟨_, rfl⟩, hC1, hO1⟩
abbrev SL (g n : Nat) : Value := .slice (some ⟨g, 0, none⟩) n n
theorem own_cellV {w : World} {base : Nat} {e : TypeId} {g n cap size j : Nat} {vs : List Value} {u : Value} (h : w.ownsRow base e size (.slice (some ⟨g, 0, none⟩) n cap) n vs) (hj : vs[j]? = some u) : w.cell? ⟨g, j, none⟩ = some u := by
  have hl : j < vs.length := (List.getElem?_eq_some_iff.1 hj).1
  rw [h.cellAt j (by rw [← h.1]; exact hl)]
  exact hj
theorem owns_heap {w w' : World} {base : Nat} {e : TypeId} {size n : Nat} {v : Value} {xs : List Value} (h : w.ownsRow base e size v n xs) (he : ∀ k, v.ownBlock = some k → w'.heap[k]? = w.heap[k]?) : w'.ownsRow base e size v n xs := by
  refine ⟨h.1, ?_⟩
  rcases h.2 with h2 | ⟨g, cap, cur, rfl, hg, hh, r⟩
  · exact .inl h2
  · exact .inr ⟨g, cap, cur, rfl, hg, by rw [he g rfl]; exact hh, r⟩
theorem owns_forms {w : World} {base : Nat} {e : TypeId} {size n : Nat} {v : Value} {xs : List Value} (h : w.ownsRow base e size v n xs) : (v = .slice none 0 0 ∧ n = 0) ∨ ∃ g cap, v = .slice (some ⟨g, 0, none⟩) n cap := by
  rcases h.2 with h2 | ⟨g, cap, cur, hv, _⟩
  · exact .inl h2
  · exact .inr ⟨g, cap, hv⟩
theorem owns_slice {w : World} {base : Nat} {e : TypeId} {size n : Nat} {v : Value} {xs : List Value} (h : w.ownsRow base e size v n xs) : ∃ a c, v = .slice a n c ∧ n ≤ c := by
  rcases h.2 with ⟨h2, h3⟩ | ⟨g, cap, cur, hv, _, _, hc, _⟩
  · exact ⟨none, 0, by rw [h2, h3], by omega⟩
  · exact ⟨_, cap, hv, hc⟩
def asc (k : Int) (n : Nat) : List Int := (List.range n).map fun (i : Nat) => k + (i : Int)
theorem asc_len (k : Int) (n : Nat) : (asc k n).length = n := by simp [asc]
def Asc (zs : List Int) (k : Int) (j : Nat) : Prop := ∀ i, i < j → zs[i]? = some (k + (i : Int))
theorem Asc.three {zs : List Int} {k q : Int} {j : Nat} (h : Asc zs k (j * 3)) (hl : j * 3 + 2 < zs.length) (hq : k + (j : Int) * 3 = q) : Asc (((zs.set (j * 3) q).set (j * 3 + 1) (q + 1)).set (j * 3 + 2) (q + 1 + 1)) k ((j + 1) * 3) := by
  intro i hi
  by_cases e2 : i = j * 3 + 2
  · subst e2
    rw [List.getElem?_set_self (by simp; omega)]
    congr 1; push_cast; omega
  rw [List.getElem?_set_ne (by omega)]
  by_cases e1 : i = j * 3 + 1
  · subst e1
    rw [List.getElem?_set_self (by simp; omega)]
    congr 1; push_cast; omega
  rw [List.getElem?_set_ne (by omega)]
  by_cases e0 : i = j * 3
  · subst e0
    rw [List.getElem?_set_self (by omega)]
    congr 1; push_cast; omega
  rw [List.getElem?_set_ne (by omega)]
  exact h i (by omega)
theorem Asc.one {zs : List Int} {k q : Int} {j : Nat} (h : Asc zs k j) (hl : j < zs.length) (hq : k + (j : Int) = q) : Asc (zs.set j q) k (j + 1) := by
  intro i hi
  by_cases e0 : i = j
  · subst e0
    rw [List.getElem?_set_self (by omega), hq]
  rw [List.getElem?_set_ne (by omega)]
  exact h i (by omega)
theorem Asc.all {zs : List Int} {k : Int} {n : Nat} (h : Asc zs k n) (hl : zs.length = n) : zs = asc k n := by
  refine List.ext_getElem? fun i => ?_
  rcases Nat.lt_or_ge i n with hi | hi
  · rw [h i hi]; simp [asc, hi]
  · rw [List.getElem?_eq_none (by omega), List.getElem?_eq_none (by rw [asc_len]; omega)]
structure OnlyV (base : Nat) (v : Value) (w w' : World) : Prop where
  bel : Below base w w'
  size : w'.heap.size = w.heap.size
  oth : ∀ k, v.ownBlock ≠ some k → w'.heap[k]? = w.heap[k]?
theorem OnlyV.refl (base : Nat) (v : Value) (w : World) : OnlyV base v w w := ⟨Below.refl _ _, rfl, fun _ _ => rfl⟩
theorem OnlyV.set {base g n cap : Nat} {w w' : World} (h : OnlyV base (.slice (some ⟨g, 0, none⟩) n cap) w w') (hb : base ≤ g) (j : Nat) (u : Value) : OnlyV base (.slice (some ⟨g, 0, none⟩) n cap) w (w'.setCell ⟨g, j, none⟩ u) :=
  ⟨h.bel.setCell hb _, by rw [size_setCell]; exact h.size, fun k hk => (Below.heap_setCell _ _ _ _ (fun e => hk (by simp [Value.ownBlock, e]))).trans (h.oth k hk)⟩
theorem own_weaken {w : World} {base base' : Nat} {e : TypeId} {size : Nat} {v : Value} {n : Nat} {xs : List Value} (h : w.ownsRow base e size v n xs) (hb : base' ≤ base) : w.ownsRow base' e size v n xs := by
  refine ⟨h.1, ?_⟩
  rcases h.2 with h2 | ⟨g, cap, cur, hv, hg, r⟩
  · exact .inl h2
  · exact .inr ⟨g, cap, cur, hv, Nat.le_trans hb hg, r⟩
theorem IntAt.cells {w : World} {p o n : Nat} {xs : List Int} (h : IntAt w (some ⟨p, o, none⟩) n xs) : ∀ i, i < n → w.cell? ⟨p, o + i, none⟩ = some (I (xs.getD i 0)) := by
  intro i hi
  rcases h.2.2 with h0 | ⟨b, c, e, g⟩
  · omega
  · cases e
    exact g i hi
end
section
open Go.ChangeShapes Go.WideShapes Go.ChangeAt Go.RowKit Go.Joins
def TripAt (w : World) (a : Option Addr) (n : Nat) (fs : List Int) : Prop :=
  fs.length = n * 3 ∧ n ≤ 1048576 ∧ (n = 0 ∨ ∃ b o, a = some ⟨b, o, none⟩ ∧ ∀ i, i < n * 3 → w.cell? ⟨b, o + i, none⟩ = some (I (fs.getD i 0)))
theorem TripAt.below {w w' : World} {a : Option Addr} {n : Nat} {fs : List Int} (h : TripAt w a n fs) {B : Nat} (hb : Below B w w') (hB : w.heap.size ≤ B) : TripAt w' a n fs := by
  obtain ⟨h1, h2, h3 | ⟨b, o, h3, h4⟩⟩ := h
  · exact ⟨h1, h2, .inl h3⟩
  · refine ⟨h1, h2, .inr ⟨b, o, h3, fun i hi => ?_⟩⟩
    have h5 := h4 i hi
    rw [hb.cell (show b < B from Nat.lt_of_lt_of_le (World.block_lt_of_cell? w _ h5) hB)]
    exact h5
def uptoT (fs : List Int) (k n : Nat) : List Int := fs.take k ++ List.replicate (n - k) 0
def flat3 (f : Nat → Int × Int × Int) (n : Nat) : List Int := (List.range n).flatMap fun i => [(f i).1, (f i).2.1, (f i).2.2]
end
end Go.Proofs.Ytgibeakclknhnaa
