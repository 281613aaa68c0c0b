/- Small facts on a cursor in memory and on worlds that differ in one block, of no program. -/
import Derived.WalkKit
import Derived.WalkSmall
namespace Go.Proofs.Ytmgofehafjogfaa
open Go.RowKit

theorem and255 (x : Int) : bits .and .i64 x 255 = x % 256 := by
  have e : ((BitVec.ofInt 64 x) &&& (BitVec.ofInt 64 255)).toNat = (x % 256).toNat := by
    rw [BitVec.toNat_and, BitVec.toNat_ofInt, BitVec.toNat_ofInt, show ((255 : Int) % ((2 ^ 64 : Nat) : Int)).toNat = 2 ^ 8 - 1 by decide, Nat.and_two_pow_sub_one_eq_mod]
    omega
  show IntKind.i64.wrap (((BitVec.ofInt 64 x) &&& (BitVec.ofInt 64 255)).toNat : Int) = _
  rw [e, IntKind.wrap_i64]
  omega

/-- The two worlds differ in block p alone. -/
structure Only (p : Nat) (w w' : World) : Prop where
  os : w'.os = w.os
  tape : w'.tape = w.tape
  output : w'.output = w.output
  size : w'.heap.size = w.heap.size
  block : ∀ k, k ≠ p → w'.heap[k]? = w.heap[k]?
theorem Only.refl (p : Nat) (w : World) : Only p w w := ⟨rfl, rfl, rfl, rfl, fun _ _ => rfl⟩
theorem Only.trans {p : Nat} {a b c : World} (h : Only p a b) (k : Only p b c) : Only p a c :=
  ⟨k.os.trans h.os, k.tape.trans h.tape, k.output.trans h.output, k.size.trans h.size, fun i hi => (k.block i hi).trans (h.block i hi)⟩
theorem Only.drew {p : Nat} {a b : World} (h : Only p a b) : Only p a b.drew := ⟨h.os, h.tape, h.output, h.size, h.block⟩
theorem Only.setCell {p : Nat} {a b : World} (h : Only p a b) (o : Nat) (v : Value) : Only p a (b.setCell ⟨p, o, none⟩ v) :=
  h.trans ⟨rfl, rfl, rfl, by simp [World.setCell], fun k hk => Below.heap_setCell _ _ _ _ hk⟩
theorem Only.below {p : Nat} {w w' : World} (h : Only p w w') {B : Nat} (hB : B ≤ p) : Below B w w' :=
  ⟨h.os, h.tape, h.output, Nat.le_of_eq h.size.symm, fun k hk => h.block k (by omega)⟩
theorem Only.owns {p : Nat} {w w' : World} (h : Only p w w') {base : Nat} {e : TypeId} {size : Nat} {v : Value} {n : Nat} {xs : List Value} (ho : w.ownsRow base e size v n xs) (hp : p < base) : w'.ownsRow base e size v n xs := by
  obtain ⟨h1, h2 | ⟨g, cap, cur, h3, h4, h5, h6⟩⟩ := ho
  · exact ⟨h1, .inl h2⟩
  · exact ⟨h1, .inr ⟨g, cap, cur, h3, h4, by rw [h.block g (by omega)]; exact h5, h6⟩⟩

/-- The slice of address a and length n holds bytes, below block p. -/
def BytesAt (w : World) (p : Nat) (a : Option Addr) (n : Nat) : Prop :=
  n = 0 ∨ ∃ b o, a = some ⟨b, o, none⟩ ∧ b < p ∧ ∀ j, j < n → ∃ z : Nat, z ≤ 255 ∧ w.cell? ⟨b, o + j, none⟩ = some (.int .u8 (z : Int))
theorem BytesAt.keep {w w' : World} {p : Nat} {a : Option Addr} {n : Nat} (h : BytesAt w p a n) (hb : ∀ k, k < p → w'.heap[k]? = w.heap[k]?) : BytesAt w' p a n := by
  rcases h with h | ⟨b, o, h1, h2, h3⟩
  · exact .inl h
  · refine .inr ⟨b, o, h1, h2, fun j hj => ?_⟩
    obtain ⟨z, h4, h5⟩ := h3 j hj
    exact ⟨z, h4, by rw [World.cell?_of_block (w := w) (hb b h2)]; exact h5⟩
theorem BytesAt.mono {w : World} {p q : Nat} {a : Option Addr} {n : Nat} (h : BytesAt w p a n) (hq : p ≤ q) : BytesAt w q a n := by
  rcases h with h | ⟨b, o, h1, h2, h3⟩
  · exact .inl h
  · exact .inr ⟨b, o, h1, by omega, h3⟩

/-- Block p is a cursor over the bytes at a, at place i, its mixed number h. -/
def CurIs (T : TypeId) (w : World) (p : Nat) (a : Option Addr) (n c : Nat) (i h : Int) : Prop :=
  w.heap[p]? = some (.cells #[.slice a n c, .int .i64 i, .int .i64 h] T (0, 0))
/-- Block p is a cursor over the bytes at a. -/
def Cur (T : TypeId) (w : World) (p : Nat) (a : Option Addr) (n c : Nat) : Prop :=
  (∃ i h : Int, CurIs T w p a n c i h ∧ 0 ≤ i ∧ i ≤ n) ∧ BytesAt w p a n ∧ n ≤ 1048576
theorem Cur.keep {T : TypeId} {w w' : World} {p : Nat} {a : Option Addr} {n c : Nat} (h : Cur T w p a n c) (hb : ∀ k, k ≤ p → w'.heap[k]? = w.heap[k]?) : Cur T w' p a n c := by
  obtain ⟨⟨i, x, h1, h2⟩, h3, h4⟩ := h
  exact ⟨⟨i, x, by unfold CurIs; rw [hb p (Nat.le_refl _)]; exact h1, h2⟩, h3.keep (fun k hk => hb k (by omega)), h4⟩
theorem Cur.lt {T : TypeId} {w : World} {p : Nat} {a : Option Addr} {n c : Nat} (h : Cur T w p a n c) : p < w.heap.size := by
  obtain ⟨⟨i, x, h1, h2⟩, h3, h4⟩ := h
  exact (Array.getElem?_eq_some_iff.1 h1).1
theorem CurIs.cell {T : TypeId} {w : World} {p : Nat} {a : Option Addr} {n c : Nat} {i x : Int} (h : CurIs T w p a n c i x) :
    w.cell? ⟨p, 0, none⟩ = some (.slice a n c) ∧ w.cell? ⟨p, 1, none⟩ = some (.int .i64 i) ∧ w.cell? ⟨p, 2, none⟩ = some (.int .i64 x) := by
  unfold CurIs at h
  simp [World.cell?, h]
theorem CurIs.frozen {T : TypeId} {w : World} {p : Nat} {a : Option Addr} {n c : Nat} {i x : Int} (h : CurIs T w p a n c i x) (j : Nat) : w.frozen? ⟨p, j, none⟩ = false := by
  unfold CurIs at h
  simp [World.frozen?, h]
theorem CurIs.set1 {T : TypeId} {w : World} {p : Nat} {a : Option Addr} {n c : Nat} {i x : Int} (h : CurIs T w p a n c i x) (i' : Int) : CurIs T (w.setCell ⟨p, 1, none⟩ (.int .i64 i')) p a n c i' x := by
  unfold CurIs at h ⊢
  obtain ⟨hlt, h'⟩ := Array.getElem?_eq_some_iff.1 h
  show (w.heap.modify p _)[p]? = _
  rw [Array.getElem?_eq_getElem (by simpa using hlt), Array.getElem_modify_self, h']
  rfl
theorem CurIs.set2 {T : TypeId} {w : World} {p : Nat} {a : Option Addr} {n c : Nat} {i x : Int} (h : CurIs T w p a n c i x) (x' : Int) : CurIs T (w.setCell ⟨p, 2, none⟩ (.int .i64 x')) p a n c i x' := by
  unfold CurIs at h ⊢
  obtain ⟨hlt, h'⟩ := Array.getElem?_eq_some_iff.1 h
  show (w.heap.modify p _)[p]? = _
  rw [Array.getElem?_eq_getElem (by simpa using hlt), Array.getElem_modify_self, h']
  rfl
theorem CurIs.drew {T : TypeId} {w : World} {p : Nat} {a : Option Addr} {n c : Nat} {i x : Int} (h : CurIs T w p a n c i x) : CurIs T w.drew p a n c i x := h

theorem byte_fin {C D : Prop} (V : Int) (hC : C) (hD : D) : ∃ x : Nat, x ≤ 255 ∧ Ending.returned (.int .i64 (V % 256)) = .returned (.int .i64 (x : Int)) ∧ C ∧ D :=
  ⟨(V % 256).toNat, by omega, by rw [show (((V % 256).toNat : Nat) : Int) = V % 256 by omega], hC, hD⟩
theorem cur_of {T : TypeId} {w w' : World} {p : Nat} {a : Option Addr} {n c : Nat} {i x : Int} (hO : Only p w w') (hB : BytesAt w p a n) (hI : CurIs T w' p a n c i x) (h0 : 0 ≤ i) (h1 : i ≤ n) (hn : n ≤ 1048576) : Cur T w' p a n c :=
  ⟨⟨i, x, hI, h0, h1⟩, hB.keep (fun k hk => hO.block k (by omega)), hn⟩
theorem below_fin {C D : Prop} {x : Nat} {m : Int} (h0 : 1 ≤ m) (hC : C) (hD : D) : ∃ y : Nat, (y : Int) < m ∧ Ending.returned (.int .i64 ((x : Int) % m)) = .returned (.int .i64 (y : Int)) ∧ C ∧ D := by
  obtain ⟨q, rfl⟩ : ∃ q : Nat, m = (q : Int) := ⟨m.toNat, by omega⟩
  have := Nat.mod_lt x (show 0 < q by omega)
  exact ⟨x % q, by omega, by rw [Int.natCast_emod], hC, hD⟩
theorem cur_new {T : TypeId} {w : World} {a : Option Addr} {n c : Nat} {x : Int} (hB : BytesAt w w.heap.size a n) (hn : n ≤ 1048576) : Cur T (w.alloc (.cells #[.slice a n c, .int .i64 0, .int .i64 x] T)) w.heap.size a n c :=
  ⟨⟨0, x, heap_alloc_new w _, by omega, by omega⟩, hB.keep (fun k hk => Below.heap_alloc _ _ _ hk), hn⟩
theorem Only.cell {p : Nat} {w w' : World} (h : Only p w w') {g o : Nat} (hg : g ≠ p) : w'.cell? ⟨g, o, none⟩ = w.cell? ⟨g, o, none⟩ := World.cell?_of_block (w := w) (h.block g hg)
end Go.Proofs.Ytmgofehafjogfaa
