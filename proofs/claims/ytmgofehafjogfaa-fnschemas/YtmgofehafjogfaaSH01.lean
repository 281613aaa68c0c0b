/- Texts joined: Str, Own, IntAt, BoxN, Val17, OwnsF, Clone, Trip, Dat, DatF, DatVd, CelN, VasL, SchL, DatCd. -/
import Derived.WalkKit
import Derived.Test.YtmgofehafjogfaaRows
import Derived.ProofKit
import Derived.WalkSmall
import Derived.OpenShut
import Derived.Below
import Derived.Laws.AppendOwn
import Derived.Deep.RegionLaw
import Derived.Handy
import Derived.Lib.SmallJoins
import Derived.Deep.Slices
import Derived.Deep.SlicePairs
import Derived.Deep.Strs
import Derived.Deep.RegionHeld3
import Derived.Deep.Cut
set_option maxHeartbeats 200000
set_option maxRecDepth 100000
namespace Go.Proofs.Ytmgofehafjogfaa
theorem str_eq {a b : ByteArray} (h : a.data.toList = b.data.toList) : a = b := by
  cases a; cases b; simp_all
abbrev S (l : List UInt8) : Value := .string ⟨l.toArray⟩
section
open Go.RowKit
theorem owns_below {w w' : World} {base : Nat} {e : TypeId} {size : Nat} {v : Value} {n : Nat} {xs : List Value} (h : w.ownsRow base e size v n xs) {B : Nat} (hb : Below B w w') (hB : w.heap.size ≤ B) : w'.ownsRow base e size v n xs := by
  obtain ⟨h1, h2 | ⟨g, cap, cur, h3, h4, h5, h6⟩⟩ := h
  · exact ⟨h1, .inl h2⟩
  · refine ⟨h1, .inr ⟨g, cap, cur, h3, h4, ?_, h6⟩⟩
    have := (Array.getElem?_eq_some_iff.1 h5).1
    rw [hb.block g (by omega)]
    exact h5
end
section
open Go.ChangeShapes Go.WideShapes Go.ChangeAt Go.RowKit
abbrev I (x : Int) : Value := .int .i64 x
def IntAt (w : World) (a : Option Addr) (n : Nat) (xs : List Int) : Prop :=
  xs.length = n ∧ n ≤ 1099511627776 ∧ (n = 0 ∨ ∃ b o, a = some ⟨b, o, none⟩ ∧ ∀ i, i < n → w.cell? ⟨b, o + i, none⟩ = some (I (xs.getD i 0)))

theorem IntAt.below {w w' : World} {a : Option Addr} {n : Nat} {xs : List Int} (h : IntAt w a n xs) {B : Nat} (hb : Below B w w') (hB : w.heap.size ≤ B) : IntAt w' a n xs := by
  obtain ⟨h1, h2, h3 | ⟨b, o, h3, h4⟩⟩ := h
  · exact ⟨h1, h2, .inl h3⟩
  · refine ⟨h1, h2, .inr ⟨b, o, h3, fun i hi => ?_⟩⟩
    have h5 := h4 i hi
    have h6 := World.block_lt_of_cell? w _ h5
    rw [hb.cell (show _ < B from Nat.lt_of_lt_of_le h6 hB)]
    exact h5
theorem own_intAt {w : World} {base : Nat} {e : TypeId} {g n cap : Nat} {xs : List Int} (h : w.ownsRow base e 1 (.slice (some ⟨g, 0, none⟩) n cap) n (xs.map I)) (hn : n ≤ 1099511627776) : IntAt w (some ⟨g, 0, none⟩) n xs := by
  have hl : xs.length = n := by have := h.1; simpa using this
  refine ⟨hl, hn, .inr ⟨g, 0, rfl, fun i hi => ?_⟩⟩
  rw [Nat.zero_add, h.cellAt i (by omega), List.getElem?_map, List.getElem?_eq_getElem (by omega)]
  simp [List.getD, show i < xs.length by omega]

theorem infoInt : (Try.prog.info? 3).map (fun i => (i.zero, i.size, i.bytes)) = some (some (.int .i64 0), 1, 8) := by kernel_rfl
end
section
open Go.RowKit
def Box (w : World) (b : Nat) (cs : Array Value) (T : TypeId) : Prop := w.heap[b]? = some (.cells cs T)
section
variable {w w' : World} {b : Nat} {cs : Array Value} {T : TypeId}
theorem Box.lt (h : Box w b cs T) : b < w.heap.size := (Array.getElem?_eq_some_iff.1 h).1
theorem Box.cell (h : Box w b cs T) (i : Nat) : w.cell? ⟨b, i, none⟩ = cs[i]? := by unfold Box at h; simp [World.cell?, h]
theorem Box.frozen (h : Box w b cs T) (i : Nat) : w.frozen? ⟨b, i, none⟩ = false := by unfold Box at h; simp [World.frozen?, h]
theorem Box.below (h : Box w b cs T) {B : Nat} (hb : Below B w w') (hB : b < B) : Box w' b cs T := by
  unfold Box at h ⊢
  rw [hb.block b hB]
  exact h
theorem Box.set (h : Box w b cs T) {q : Addr} (hq : b ≠ q.block) (v : Value) : Box (w.setCell q v) b cs T := by
  unfold Box at h ⊢
  rw [Below.heap_setCell _ _ _ _ hq]
  exact h
theorem Box.put (h : Box w b cs T) (i : Nat) (v : Value) : Box (w.setCell ⟨b, i, none⟩ v) b (cs.setIfInBounds i v) T := by
  unfold Box at h ⊢
  obtain ⟨hlt, h'⟩ := Array.getElem?_eq_some_iff.1 h
  show (w.heap.modify b _)[b]? = _
  rw [Array.getElem?_eq_getElem (by simpa using hlt), Array.getElem_modify_self, h']
  rfl
theorem Box.alloc (h : Box w b cs T) (o : Obj) : Box (w.alloc o) b cs T := h.below ((Below.refl w.heap.size w).alloc (Nat.le_refl _) o) h.lt
theorem box_of (w : World) (cs : Array Value) (T : TypeId) : Box (w.alloc (.cells cs T)) w.heap.size cs T := by
  show (w.heap.push _)[w.heap.size]? = _
  simp
theorem Box.drew (h : Box w b cs T) : Box w.drew b cs T := h
end
theorem size_setCell (w : World) (a : Addr) (v : Value) : (w.setCell a v).heap.size = w.heap.size := by simp [World.setCell]
theorem Box.two {w : World} {b : Nat} {T : TypeId} {x y : Value} (h : Box w b #[x, y] T) : w.cell? ⟨b, 0, none⟩ = some x ∧ w.cell? ⟨b, 1, none⟩ = some y ∧ w.frozen? ⟨b, 0, none⟩ = false ∧ w.frozen? ⟨b, 1, none⟩ = false :=
  ⟨h.cell 0, h.cell 1, h.frozen 0, h.frozen 1⟩
end
section
open Go.ChangeShapes Go.WideShapes Go.ChangeAt Go.RowKit
abbrev VaV (k n : Int) (s : ByteArray) : Value := .agg #[.int .i64 k, .int .i64 n, .string s]
def VaGood (k n : Int) (s : ByteArray) : Prop :=
  (k = 0 ∧ n = 0 ∧ s.size = 0) ∨ (k = 1 ∧ (0 ≤ n ∧ n ≤ 1) ∧ s.size = 0) ∨ (k = 2 ∧ (-1000000000000 ≤ n ∧ n ≤ 1000000000000) ∧ s.size = 0) ∨ (k = 3 ∧ n = 0 ∧ s.size ≤ 20)
instance (k n : Int) (s : ByteArray) : Decidable (VaGood k n s) := by unfold VaGood; infer_instance
def lessV (k n : Int) (s : ByteArray) (k' n' : Int) (s' : ByteArray) : Bool := if k = k' then (if n = n' then Op.bytesLess s.toList s'.toList else decide (n < n')) else decide (k < k')
def sameV (k n : Int) (s : ByteArray) (k' n' : Int) (s' : ByteArray) : Bool := decide (k = k' ∧ n = n' ∧ s = s')
theorem Box.triV {w : World} {b : Nat} {T : TypeId} {x y z : Value} (h : Box w b #[x, y, z] T) : w.cell? ⟨b, 0, none⟩ = some x ∧ w.cell? ⟨b, 1, none⟩ = some y ∧ w.cell? ⟨b, 2, none⟩ = some z := ⟨h.cell 0, h.cell 1, h.cell 2⟩
theorem str_nil {s : ByteArray} (h : s.size = 0) : s = ⟨#[]⟩ := by
  have h1 : s.data.toList = [] := List.length_eq_zero_iff.1 (by simpa using h)
  exact str_eq h1
theorem str_some {s : ByteArray} (h : ¬ s.size = 0) : s.toList.isEmpty = false := by
  simp only [ByteArray.toList_eq]
  rcases hl : s.data.toList with _ | ⟨x, r⟩
  · exfalso
    apply h
    have h1 : s.data.toList.length = 0 := by rw [hl]; rfl
    simpa using h1
  · rfl
abbrev SL (g n : Nat) : Value := .slice (some ⟨g, 0, none⟩) n n
theorem own_cellV {w : World} {base : Nat} {e : TypeId} {g n cap size j : Nat} {vs : List Value} {u : Value} (h : w.ownsRow base e size (.slice (some ⟨g, 0, none⟩) n cap) n vs) (hj : vs[j]? = some u) : w.cell? ⟨g, j, none⟩ = some u := by
  have hl : j < vs.length := (List.getElem?_eq_some_iff.1 hj).1
  rw [h.cellAt j (by rw [← h.1]; exact hl)]
  exact hj
theorem owns_heap {w w' : World} {base : Nat} {e : TypeId} {size n : Nat} {v : Value} {xs : List Value} (h : w.ownsRow base e size v n xs) (he : ∀ k, v.ownBlock = some k → w'.heap[k]? = w.heap[k]?) : w'.ownsRow base e size v n xs := by
  refine ⟨h.1, ?_⟩
  rcases h.2 with h2 | ⟨g, cap, cur, rfl, hg, hh, r⟩
  · exact .inl h2
  · exact .inr ⟨g, cap, cur, rfl, hg, by rw [he g rfl]; exact hh, r⟩
theorem owns_forms {w : World} {base : Nat} {e : TypeId} {size n : Nat} {v : Value} {xs : List Value} (h : w.ownsRow base e size v n xs) : (v = .slice none 0 0 ∧ n = 0) ∨ ∃ g cap, v = .slice (some ⟨g, 0, none⟩) n cap := by
  rcases h.2 with h2 | ⟨g, cap, cur, hv, _⟩
  · exact .inl h2
  · exact .inr ⟨g, cap, hv⟩
theorem owns_slice {w : World} {base : Nat} {e : TypeId} {size n : Nat} {v : Value} {xs : List Value} (h : w.ownsRow base e size v n xs) : ∃ a c, v = .slice a n c ∧ n ≤ c := by
  rcases h.2 with ⟨h2, h3⟩ | ⟨g, cap, cur, hv, _, _, hc, _⟩
  · exact ⟨none, 0, by rw [h2, h3], by omega⟩
  · exact ⟨_, cap, hv, hc⟩
def asc (k : Int) (n : Nat) : List Int := (List.range n).map fun (i : Nat) => k + (i : Int)
theorem asc_len (k : Int) (n : Nat) : (asc k n).length = n := by simp [asc]
def Asc (zs : List Int) (k : Int) (j : Nat) : Prop := ∀ i, i < j → zs[i]? = some (k + (i : Int))
theorem Asc.three {zs : List Int} {k q : Int} {j : Nat} (h : Asc zs k (j * 3)) (hl : j * 3 + 2 < zs.length) (hq : k + (j : Int) * 3 = q) : Asc (((zs.set (j * 3) q).set (j * 3 + 1) (q + 1)).set (j * 3 + 2) (q + 1 + 1)) k ((j + 1) * 3) := by
  intro i hi
  by_cases e2 : i = j * 3 + 2
  · subst e2
    rw [List.getElem?_set_self (by simp; omega)]
    congr 1; push_cast; omega
  rw [List.getElem?_set_ne (by omega)]
  by_cases e1 : i = j * 3 + 1
  · subst e1
    rw [List.getElem?_set_self (by simp; omega)]
    congr 1; push_cast; omega
  rw [List.getElem?_set_ne (by omega)]
  by_cases e0 : i = j * 3
  · subst e0
    rw [List.getElem?_set_self (by omega)]
    congr 1; push_cast; omega
  rw [List.getElem?_set_ne (by omega)]
  exact h i (by omega)
theorem Asc.one {zs : List Int} {k q : Int} {j : Nat} (h : Asc zs k j) (hl : j < zs.length) (hq : k + (j : Int) = q) : Asc (zs.set j q) k (j + 1) := by
  intro i hi
  by_cases e0 : i = j
  · subst e0
    rw [List.getElem?_set_self (by omega), hq]
  rw [List.getElem?_set_ne (by omega)]
  exact h i (by omega)
theorem Asc.all {zs : List Int} {k : Int} {n : Nat} (h : Asc zs k n) (hl : zs.length = n) : zs = asc k n := by
  refine List.ext_getElem? fun i => ?_
  rcases Nat.lt_or_ge i n with hi | hi
  · rw [h i hi]; simp [asc, hi]
  · rw [List.getElem?_eq_none (by omega), List.getElem?_eq_none (by rw [asc_len]; omega)]
structure OnlyV (base : Nat) (v : Value) (w w' : World) : Prop where
  bel : Below base w w'
  size : w'.heap.size = w.heap.size
  oth : ∀ k, v.ownBlock ≠ some k → w'.heap[k]? = w.heap[k]?
theorem OnlyV.refl (base : Nat) (v : Value) (w : World) : OnlyV base v w w := ⟨Below.refl _ _, rfl, fun _ _ => rfl⟩
theorem OnlyV.set {base g n cap : Nat} {w w' : World} (h : OnlyV base (.slice (some ⟨g, 0, none⟩) n cap) w w') (hb : base ≤ g) (j : Nat) (u : Value) : OnlyV base (.slice (some ⟨g, 0, none⟩) n cap) w (w'.setCell ⟨g, j, none⟩ u) :=
  ⟨h.bel.setCell hb _, by rw [size_setCell]; exact h.size, fun k hk => (Below.heap_setCell _ _ _ _ (fun e => hk (by simp [Value.ownBlock, e]))).trans (h.oth k hk)⟩
theorem own_weaken {w : World} {base base' : Nat} {e : TypeId} {size : Nat} {v : Value} {n : Nat} {xs : List Value} (h : w.ownsRow base e size v n xs) (hb : base' ≤ base) : w.ownsRow base' e size v n xs := by
  refine ⟨h.1, ?_⟩
  rcases h.2 with h2 | ⟨g, cap, cur, hv, hg, r⟩
  · exact .inl h2
  · exact .inr ⟨g, cap, cur, hv, Nat.le_trans hb hg, r⟩
theorem own_setCell_far {w : World} {base : Nat} {e : TypeId} {size : Nat} {v : Value} {n : Nat} {xs : List Value} (h : w.ownsRow base e size v n xs) {a : Addr} (ha : v.ownBlock ≠ some a.block) (u : Value) : (w.setCell a u).ownsRow base e size v n xs := by
  refine ⟨h.1, ?_⟩
  rcases h.2 with h2 | ⟨g, cap, cur, rfl, hg, hh, r⟩
  · exact .inl h2
  · exact .inr ⟨g, cap, cur, rfl, hg, by rw [Below.heap_setCell _ _ _ _ (fun e => ha (by simp [Value.ownBlock, e]))]; exact hh, r⟩
theorem IntAt.cells {w : World} {p o n : Nat} {xs : List Int} (h : IntAt w (some ⟨p, o, none⟩) n xs) : ∀ i, i < n → w.cell? ⟨p, o + i, none⟩ = some (I (xs.getD i 0)) := by
  intro i hi
  rcases h.2.2 with h0 | ⟨b, c, e, g⟩
  · omega
  · cases e
    exact g i hi
end
section
open Go.ChangeShapes Go.WideShapes Go.ChangeAt Go.RowKit Go.Joins
def TripAt (w : World) (a : Option Addr) (n : Nat) (fs : List Int) : Prop :=
  fs.length = n * 3 ∧ n ≤ 1048576 ∧ (n = 0 ∨ ∃ b o, a = some ⟨b, o, none⟩ ∧ ∀ i, i < n * 3 → w.cell? ⟨b, o + i, none⟩ = some (I (fs.getD i 0)))
theorem TripAt.below {w w' : World} {a : Option Addr} {n : Nat} {fs : List Int} (h : TripAt w a n fs) {B : Nat} (hb : Below B w w') (hB : w.heap.size ≤ B) : TripAt w' a n fs := by
  obtain ⟨h1, h2, h3 | ⟨b, o, h3, h4⟩⟩ := h
  · exact ⟨h1, h2, .inl h3⟩
  · refine ⟨h1, h2, .inr ⟨b, o, h3, fun i hi => ?_⟩⟩
    have h5 := h4 i hi
    rw [hb.cell (show b < B from Nat.lt_of_lt_of_le (World.block_lt_of_cell? w _ h5) hB)]
    exact h5
def uptoT (fs : List Int) (k n : Nat) : List Int := fs.take k ++ List.replicate (n - k) 0
def flat3 (f : Nat → Int × Int × Int) (n : Nat) : List Int := (List.range n).flatMap fun i => [(f i).1, (f i).2.1, (f i).2.2]
inductive Cel where
  | i (x : Int)
  | b (x : Bool)
  | s (x : ByteArray)
  | l (T : TypeId) (k n : Nat) (cs : List Cel)
inductive At (q : Bool) (w : World) : Value → Cel → Prop
  | i (x : Int) : At q w (.int .i64 x) (.i x)
  | b (x : Bool) : At q w (.bool x) (.b x)
  | s (x : ByteArray) : At q w (.string x) (.s x)
  | l (a : Option Addr) (T : TypeId) (k n c : Nat) (cs : List Cel) (vs : List Value) (h1 : vs.length = n * k) (h2 : cs.length = n * k) (hn : n ≤ 2097152) (hc : q = true → (a = none → c = 0) ∧ n ≤ c)
      (h3 : n = 0 ∨ ∃ b o, a = some ⟨b, o, none⟩ ∧ ∀ j, j < n * k → w.cell? ⟨b, o + j, none⟩ = vs[j]?) (h4 : ∀ (j : Nat) (v : Value) (c : Cel), vs[j]? = some v → cs[j]? = some c → At q w v c) : At q w (.slice a n c) (.l T k n cs)
def AtL (q : Bool) (w : World) (vs : List Value) (cs : List Cel) : Prop := vs.length = cs.length ∧ ∀ (j : Nat) (v : Value) (c : Cel), vs[j]? = some v → cs[j]? = some c → At q w v c
theorem At.on {q : Bool} {w w' : World} {v : Value} {c : Cel} (h : At q w v c) {B : Nat} (hb : Below B w w') (hB : w.heap.size ≤ B) : At q w' v c := by
  induction h with
  | i x => exact .i x
  | b x => exact .b x
  | s x => exact .s x
  | l a T k n c cs vs h1 h2 hn hc h3 h4 ih =>
    refine .l a T k n c cs vs h1 h2 hn hc ?_ ih
    rcases h3 with h3 | ⟨b, o, e, g⟩
    · exact .inl h3
    · refine .inr ⟨b, o, e, fun j hj => ?_⟩
      have h5 := g j hj
      have h6 : w.cell? ⟨b, o + j, none⟩ = some (vs[j]'(by omega)) := by rw [h5, List.getElem?_eq_getElem (by omega)]
      rw [hb.cell (show b < B from Nat.lt_of_lt_of_le (World.block_lt_of_cell? w _ h6) hB)]
      exact h5
theorem AtL.on {q : Bool} {w w' : World} {vs : List Value} {cs : List Cel} (h : AtL q w vs cs) {B : Nat} (hb : Below B w w') (hB : w.heap.size ≤ B) : AtL q w' vs cs :=
  ⟨h.1, fun j v c hv hc => (h.2 j v c hv hc).on hb hB⟩
theorem AtL.nil {q : Bool} {w : World} : AtL q w [] [] := ⟨rfl, fun j v c hv _ => by simp at hv⟩
theorem AtL.cons {q : Bool} {w : World} {v : Value} {c : Cel} {vs : List Value} {cs : List Cel} (h : At q w v c) (hs : AtL q w vs cs) : AtL q w (v :: vs) (c :: cs) := by
  refine ⟨by simp [hs.1], fun j v' c' hv hc => ?_⟩
  cases j with
  | zero => simp at hv hc; subst hv hc; exact h
  | succ j => simp at hv hc; exact hs.2 j v' c' hv hc
theorem AtL.head {q : Bool} {w : World} {v : Value} {c : Cel} {vs : List Value} {cs : List Cel} (h : AtL q w (v :: vs) (c :: cs)) : At q w v c := h.2 0 v c rfl rfl
theorem AtL.tail {q : Bool} {w : World} {v : Value} {c : Cel} {vs : List Value} {cs : List Cel} (h : AtL q w (v :: vs) (c :: cs)) : AtL q w vs cs :=
  ⟨by have := h.1; simpa using this, fun j v' c' hv hc => h.2 (j + 1) v' c' (by simpa using hv) (by simpa using hc)⟩

inductive Own (w : World) (base : Nat) : Value → Cel → (Nat → Prop) → Prop
  | i (x : Int) (S : Nat → Prop) (hS : ∀ k, ¬ S k) : Own w base (.int .i64 x) (.i x) S
  | b (x : Bool) (S : Nat → Prop) (hS : ∀ k, ¬ S k) : Own w base (.bool x) (.b x) S
  | s (x : ByteArray) (S : Nat → Prop) (hS : ∀ k, ¬ S k) : Own w base (.string x) (.s x) S
  | nil (T : TypeId) (k : Nat) (S : Nat → Prop) (hS : ∀ k, ¬ S k) : Own w base (.slice none 0 0) (.l T k 0 []) S
  | l (g cap : Nat) (T : TypeId) (k n : Nat) (cs : List Cel) (vs : List Value) (S : Nat → Prop) (Ss : Nat → Nat → Prop) (h1 : w.ownsRow base T k (.slice (some ⟨g, 0, none⟩) n cap) n vs) (h2 : cs.length = n * k) (hn : n ≤ 2097152)
      (h4 : ∀ (j : Nat) (v : Value) (c : Cel), vs[j]? = some v → cs[j]? = some c → Own w base v c (Ss j)) (h5 : ∀ j, ¬ Ss j g) (h6 : ∀ i j x, i ≠ j → Ss i x → ¬ Ss j x) (h7 : ∀ x, S x ↔ x = g ∨ ∃ j, j < n * k ∧ Ss j x) :
      Own w base (.slice (some ⟨g, 0, none⟩) n cap) (.l T k n cs) S
def OwnL (w : World) (base : Nat) (vs : List Value) (cs : List Cel) (S : Nat → Prop) : Prop :=
  vs.length = cs.length ∧ ∃ Ss : Nat → Nat → Prop, (∀ (j : Nat) (v : Value) (c : Cel), vs[j]? = some v → cs[j]? = some c → Own w base v c (Ss j)) ∧ (∀ i j x, i ≠ j → Ss i x → ¬ Ss j x) ∧ ∀ x, S x ↔ ∃ j, j < vs.length ∧ Ss j x
theorem Own.set {w : World} {base : Nat} {v : Value} {c : Cel} {S S' : Nat → Prop} (h : Own w base v c S) (hS : ∀ x, S x ↔ S' x) : Own w base v c S' := by
  cases h with
  | i x S h => exact .i x S' fun k hk => h k ((hS k).2 hk)
  | b x S h => exact .b x S' fun k hk => h k ((hS k).2 hk)
  | s x S h => exact .s x S' fun k hk => h k ((hS k).2 hk)
  | nil T k S h => exact .nil T k S' fun k hk => h k ((hS k).2 hk)
  | l g cap T k n cs vs S Ss h1 h2 hn h4 h5 h6 h7 => exact .l g cap T k n cs vs S' Ss h1 h2 hn h4 h5 h6 fun x => (hS x).symm.trans (h7 x)
theorem Own.lt {w : World} {base : Nat} {v : Value} {c : Cel} {S : Nat → Prop} (h : Own w base v c S) : ∀ x, S x → base ≤ x ∧ x < w.heap.size := by
  induction h with
  | i x S h => exact fun k hk => absurd hk (h k)
  | b x S h => exact fun k hk => absurd hk (h k)
  | s x S h => exact fun k hk => absurd hk (h k)
  | nil T k S h => exact fun k hk => absurd hk (h k)
  | l g cap T k n cs vs S Ss h1 h2 hn h4 h5 h6 h7 ih =>
    intro x hx
    rcases (h7 x).1 hx with rfl | ⟨j, hj, hxj⟩
    · exact h1.lt x rfl
    · have hl := h1.1
      exact ih j _ _ (List.getElem?_eq_getElem (by omega)) (List.getElem?_eq_getElem (by omega)) x hxj
theorem Own.heap {w w' : World} {base : Nat} {v : Value} {c : Cel} {S : Nat → Prop} (h : Own w base v c S) (he : ∀ x, S x → w'.heap[x]? = w.heap[x]?) : Own w' base v c S := by
  induction h with
  | i x S h => exact .i x S h
  | b x S h => exact .b x S h
  | s x S h => exact .s x S h
  | nil T k S h => exact .nil T k S h
  | l g cap T k n cs vs S Ss h1 h2 hn h4 h5 h6 h7 ih =>
    refine .l g cap T k n cs vs S Ss (owns_heap h1 fun k hk => ?_) h2 hn (fun j v c hv hc => ?_) h5 h6 h7
    · cases hk
      exact he g ((h7 g).2 (.inl rfl))
    · exact ih j v c hv hc fun x hx => he x ((h7 x).2 (.inr ⟨j, by
        have hl := h1.1
        have := (List.getElem?_eq_some_iff.1 hv).1
        omega, hx⟩))
theorem Own.on {w w' : World} {base : Nat} {v : Value} {c : Cel} {S : Nat → Prop} (h : Own w base v c S) {B : Nat} (hb : Below B w w') (hB : w.heap.size ≤ B) : Own w' base v c S :=
  h.heap fun x hx => hb.block x (by have := (h.lt x hx).2; omega)
theorem Own.weaken {w : World} {base base' : Nat} {v : Value} {c : Cel} {S : Nat → Prop} (h : Own w base v c S) (hb : base' ≤ base) : Own w base' v c S := by
  induction h with
  | i x S h => exact .i x S h
  | b x S h => exact .b x S h
  | s x S h => exact .s x S h
  | nil T k S h => exact .nil T k S h
  | l g cap T k n cs vs S Ss h1 h2 hn h4 h5 h6 h7 ih => exact .l g cap T k n cs vs S Ss (own_weaken h1 hb) h2 hn ih h5 h6 h7
theorem Own.at {w : World} {base : Nat} {v : Value} {c : Cel} {S : Nat → Prop} (h : Own w base v c S) : At true w v c := by
  induction h with
  | i x S h => exact .i x
  | b x S h => exact .b x
  | s x S h => exact .s x
  | nil T k S h => exact .l none T k 0 0 [] [] (by simp) (by simp) (by omega) (fun _ => ⟨fun _ => rfl, Nat.le_refl _⟩) (.inl rfl) (fun j v c hv _ => by simp at hv)
  | l g cap T k n cs vs S Ss h1 h2 hn h4 h5 h6 h7 ih =>
    obtain ⟨_, c', e, hcap⟩ := owns_slice h1
    cases e
    exact .l _ T k n cap cs vs h1.1 h2 hn (fun _ => ⟨(fun h => by cases h), hcap⟩) (.inr ⟨g, 0, rfl, fun j hj => by rw [Nat.zero_add]; exact h1.cellAt j hj⟩) ih
theorem Own.forms {w : World} {base : Nat} {v : Value} {T : TypeId} {k n : Nat} {cs : List Cel} {S : Nat → Prop} (h : Own w base v (.l T k n cs) S) : (v = .slice none 0 0 ∧ n = 0 ∧ cs = [] ∧ ∀ x, ¬ S x) ∨ ∃ g cap, v = .slice (some ⟨g, 0, none⟩) n cap ∧ n ≤ cap ∧ S g := by
  cases h with
  | nil T k S h => exact .inl ⟨rfl, rfl, rfl, h⟩
  | l g cap T k n cs vs S Ss h1 h2 hn h4 h5 h6 h7 =>
    obtain ⟨_, c', e, hcap⟩ := owns_slice h1
    cases e
    exact .inr ⟨g, cap, rfl, hcap, (h7 g).2 (.inl rfl)⟩
theorem Own.slice {w : World} {base : Nat} {v : Value} {T : TypeId} {k n : Nat} {cs : List Cel} {S : Nat → Prop} (h : Own w base v (.l T k n cs) S) : ∃ a c, v = .slice a n c ∧ n ≤ c := by
  rcases h.forms with ⟨rfl, rfl, -, -⟩ | ⟨g, cap, rfl, hc, -⟩
  · exact ⟨none, 0, rfl, Nat.le_refl _⟩
  · exact ⟨_, cap, rfl, hc⟩
theorem Own.cell {w : World} {base : Nat} {g n cap : Nat} {T : TypeId} {k : Nat} {cs : List Cel} {S : Nat → Prop} (h : Own w base (.slice (some ⟨g, 0, none⟩) n cap) (.l T k n cs) S) {j : Nat} {c : Cel} (hc : cs[j]? = some c) :
    ∃ v Sj, w.cell? ⟨g, j, none⟩ = some v ∧ w.frozen? ⟨g, j, none⟩ = false ∧ Own w base v c Sj ∧ (∀ x, Sj x → S x) ∧ ¬ Sj g := by
  cases h with
  | l g cap T k n cs vs S Ss h1 h2 hn h4 h5 h6 h7 =>
    have hj : j < cs.length := (List.getElem?_eq_some_iff.1 hc).1
    have hl := h1.1
    have hv : vs[j]? = some (vs[j]'(by omega)) := List.getElem?_eq_getElem (by omega)
    exact ⟨_, Ss j, own_cellV h1 hv, h1.frozenAt j, h4 j _ _ hv hc, fun x hx => (h7 x).2 (.inr ⟨j, by omega, hx⟩), h5 j⟩
theorem Own.store {w : World} {base : Nat} {g n cap : Nat} {T : TypeId} {k : Nat} {cs : List Cel} {S S' : Nat → Prop} (h : Own w base (.slice (some ⟨g, 0, none⟩) n cap) (.l T k n cs) S) {j : Nat} (hj : j < n * k) {u : Value} {c' : Cel} (hu : Own w base u c' S') (hS : ∀ x, S' x → ¬ S x) :
    ∃ S'', Own (w.setCell ⟨g, j, none⟩ u) base (.slice (some ⟨g, 0, none⟩) n cap) (.l T k n (cs.set j c')) S'' ∧ S'' g ∧ (∀ x, S'' x → S x ∨ S' x) ∧ ∀ x, S' x → S'' x := by
  cases h with
  | l g cap T k n cs vs S Ss h1 h2 hn h4 h5 h6 h7 =>
    have hl := h1.1
    have hg : S g := (h7 g).2 (.inl rfl)
    have sub : ∀ i x, i < n * k → Ss i x → S x := fun i x hi hx => (h7 x).2 (.inr ⟨i, hi, hx⟩)
    refine ⟨fun x => x = g ∨ ∃ i, i < n * k ∧ (if i = j then S' else Ss i) x, .l g cap T k n _ (vs.set j u) _ (fun i => if i = j then S' else if i < n * k then Ss i else fun _ => False) (h1.stored j u).1 (by simpa using h2) hn ?_ ?_ ?_ ?_, .inl rfl, ?_, fun x hx => .inr ⟨j, hj, by simpa using hx⟩⟩
    · intro i v c hv hc
      by_cases hij : i = j
      · subst hij
        rw [List.getElem?_set_self (by omega)] at hv
        rw [List.getElem?_set_self (by omega)] at hc
        cases hv
        cases hc
        rw [if_pos rfl]
        exact hu.heap fun x hx => Below.heap_setCell _ _ _ _ (fun e => hS x hx (by have e : x = g := e; rw [e]; exact hg))
      · rw [List.getElem?_set_ne (Ne.symm hij)] at hv hc
        have hi : i < n * k := by have := (List.getElem?_eq_some_iff.1 hv).1; omega
        rw [if_neg hij, if_pos hi]
        exact (h4 i v c hv hc).heap fun x hx => Below.heap_setCell _ _ _ _ (fun e => h5 i (by have e : x = g := e; rw [← e]; exact hx))
    · intro i
      show ¬ (if i = j then S' else if i < n * k then Ss i else fun _ => False) g
      split
      · exact fun hx => hS g hx hg
      · split
        · exact h5 i
        · exact fun h => h
    · intro a b x hab
      show (if a = j then S' else if a < n * k then Ss a else fun _ => False) x → ¬ (if b = j then S' else if b < n * k then Ss b else fun _ => False) x
      by_cases ha : a = j
      · rw [if_pos ha, if_neg (show ¬ b = j by omega)]
        intro hx
        split
        · rename_i hb
          exact fun hb' => hS x hx (sub b x hb hb')
        · exact fun h => h
      · rw [if_neg ha]
        split
        · rename_i hal
          intro hx
          by_cases hb : b = j
          · rw [if_pos hb]; exact fun hx' => hS x hx' (sub a x hal hx)
          · rw [if_neg hb]
            split
            · exact h6 a b x hab hx
            · exact fun h => h
        · exact fun h => h.elim
    · intro x
      constructor
      · rintro (rfl | ⟨i, hi, hx⟩)
        · exact .inl rfl
        · exact .inr ⟨i, hi, by by_cases e : i = j <;> simp [e, hi] at hx ⊢ <;> exact hx⟩
      · rintro (rfl | ⟨i, hi, hx⟩)
        · exact .inl rfl
        · exact .inr ⟨i, hi, by by_cases e : i = j <;> simp [e, hi] at hx ⊢ <;> exact hx⟩
    · rintro x (rfl | ⟨i, hi, hx⟩)
      · exact .inl hg
      · by_cases e : i = j
        · rw [if_pos e] at hx; exact .inr hx
        · rw [if_neg e] at hx; exact .inl (sub i x hi hx)

theorem OwnL.nil {w : World} {base : Nat} {S : Nat → Prop} (hS : ∀ x, ¬ S x) : OwnL w base [] [] S :=
  ⟨rfl, fun _ _ => False, (fun j v c hv _ => by simp at hv), (fun _ _ _ _ h => h.elim), fun x => ⟨fun h => absurd h (hS x), fun ⟨j, hj, _⟩ => by simp at hj⟩⟩
theorem OwnL.cons {w : World} {base : Nat} {v : Value} {c : Cel} {vs : List Value} {cs : List Cel} {S0 S S' : Nat → Prop} (h : Own w base v c S0) (hs : OwnL w base vs cs S) (hd : ∀ x, S0 x → ¬ S x) (hS : ∀ x, S' x ↔ S0 x ∨ S x) : OwnL w base (v :: vs) (c :: cs) S' := by
  obtain ⟨hl, Ss, h1, h2, h3⟩ := hs
  refine ⟨by simp [hl], fun j => match j with | 0 => S0 | j + 1 => fun x => j < vs.length ∧ Ss j x, ?_, ?_, ?_⟩
  · intro j v' c' hv hc
    cases j with
    | zero => simp at hv hc; subst hv hc; exact h
    | succ j =>
      simp at hv hc
      have hj := (List.getElem?_eq_some_iff.1 hv).1
      exact (h1 j v' c' hv hc).set fun x => ⟨fun hx => ⟨hj, hx⟩, fun hx => hx.2⟩
  · intro i j x hij
    match i, j with
    | 0, 0 => exact absurd rfl hij
    | 0, j + 1 => exact fun hx hx' => hd x hx ((h3 x).2 ⟨j, hx'.1, hx'.2⟩)
    | i + 1, 0 => exact fun hx hx' => hd x hx' ((h3 x).2 ⟨i, hx.1, hx.2⟩)
    | i + 1, j + 1 => exact fun hx hx' => h2 i j x (by omega) hx.2 hx'.2
  · intro x
    rw [hS x, h3 x]
    constructor
    · rintro (hx | ⟨j, hj, hx⟩)
      · exact ⟨0, by simp, hx⟩
      · exact ⟨j + 1, by simpa using hj, hj, hx⟩
    · rintro ⟨j, hj, hx⟩
      cases j with
      | zero => exact .inl hx
      | succ j => exact .inr ⟨j, hx.1, hx.2⟩
theorem OwnL.parts {w : World} {base : Nat} {v : Value} {c : Cel} {vs : List Value} {cs : List Cel} {S : Nat → Prop} (h : OwnL w base (v :: vs) (c :: cs) S) : ∃ S0 S1, Own w base v c S0 ∧ OwnL w base vs cs S1 ∧ (∀ x, S0 x → ¬ S1 x) ∧ ∀ x, S x ↔ S0 x ∨ S1 x := by
  obtain ⟨hl, Ss, h1, h2, h3⟩ := h
  refine ⟨Ss 0, fun x => ∃ j, j < vs.length ∧ Ss (j + 1) x, h1 0 v c rfl rfl, ⟨by simpa using hl, fun j => Ss (j + 1), fun j v' c' hv hc => h1 (j + 1) v' c' (by simpa using hv) (by simpa using hc), fun i j x hij => h2 _ _ x (by omega), fun x => Iff.rfl⟩, ?_, ?_⟩
  · rintro x hx ⟨j, _, hx'⟩
    exact h2 0 (j + 1) x (by omega) hx hx'
  · intro x
    rw [h3 x]
    constructor
    · rintro ⟨j, hj, hx⟩
      cases j with
      | zero => exact .inl hx
      | succ j => exact .inr ⟨j, by simpa using hj, hx⟩
    · rintro (hx | ⟨j, hj, hx⟩)
      · exact ⟨0, by simp, hx⟩
      · exact ⟨j + 1, by simpa using hj, hx⟩
theorem OwnL.heap {w w' : World} {base : Nat} {vs : List Value} {cs : List Cel} {S : Nat → Prop} (h : OwnL w base vs cs S) (he : ∀ x, S x → w'.heap[x]? = w.heap[x]?) : OwnL w' base vs cs S := by
  obtain ⟨hl, Ss, h1, h2, h3⟩ := h
  exact ⟨hl, Ss, fun j v c hv hc => (h1 j v c hv hc).heap fun x hx => he x ((h3 x).2 ⟨j, (List.getElem?_eq_some_iff.1 hv).1, hx⟩), h2, h3⟩
theorem OwnL.lt {w : World} {base : Nat} {vs : List Value} {cs : List Cel} {S : Nat → Prop} (h : OwnL w base vs cs S) : ∀ x, S x → base ≤ x ∧ x < w.heap.size := by
  obtain ⟨hl, Ss, h1, h2, h3⟩ := h
  intro x hx
  obtain ⟨j, hj, hx⟩ := (h3 x).1 hx
  exact (h1 j _ _ (List.getElem?_eq_getElem hj) (List.getElem?_eq_getElem (by omega))).lt x hx
theorem OwnL.on {w w' : World} {base : Nat} {vs : List Value} {cs : List Cel} {S : Nat → Prop} (h : OwnL w base vs cs S) {B : Nat} (hb : Below B w w') (hB : w.heap.size ≤ B) : OwnL w' base vs cs S :=
  h.heap fun x hx => hb.block x (by have := (h.lt x hx).2; omega)
theorem OwnL.weaken {w : World} {base base' : Nat} {vs : List Value} {cs : List Cel} {S : Nat → Prop} (h : OwnL w base vs cs S) (hb : base' ≤ base) : OwnL w base' vs cs S := by
  obtain ⟨hl, Ss, h1, h2, h3⟩ := h
  exact ⟨hl, Ss, fun j v c hv hc => (h1 j v c hv hc).weaken hb, h2, h3⟩
theorem OwnL.at {w : World} {base : Nat} {vs : List Value} {cs : List Cel} {S : Nat → Prop} (h : OwnL w base vs cs S) : AtL true w vs cs := by
  obtain ⟨hl, Ss, h1, h2, h3⟩ := h
  exact ⟨hl, fun j v c hv hc => (h1 j v c hv hc).at⟩
inductive Ty where
  | i
  | b
  | s
  | l (T : TypeId) (k : Nat) (fs : List Ty)
inductive Has : Cel → Ty → Prop
  | i (x : Int) : Has (.i x) .i
  | b (x : Bool) : Has (.b x) .b
  | s (x : ByteArray) : Has (.s x) .s
  | l (T : TypeId) (k n : Nat) (cs : List Cel) (fs : List Ty) (hk : fs.length = k) (h1 : cs.length = n * k) (h2 : ∀ (j : Nat) (c : Cel) (t : Ty), cs[j]? = some c → fs[j % k]? = some t → Has c t) : Has (.l T k n cs) (.l T k fs)
def HasL (cs : List Cel) (fs : List Ty) : Prop := cs.length = fs.length ∧ ∀ (j : Nat) (c : Cel) (t : Ty), cs[j]? = some c → fs[j]? = some t → Has c t
def row (cs : List Cel) (k j : Nat) : List Cel := (cs.drop (j * k)).take k
theorem rowL_len {cs : List Cel} {k n j : Nat} (h : cs.length = n * k) (hj : j < n) : (row cs k j).length = k := by
  unfold row
  rw [List.length_take, List.length_drop, h]
  have : j * k + k ≤ n * k := by rw [← Nat.succ_mul]; exact Nat.mul_le_mul_right k hj
  omega
theorem row_at {cs : List Cel} {k j i : Nat} (hi : i < k) : (row cs k j)[i]? = cs[j * k + i]? := by
  unfold row
  rw [List.getElem?_take_of_lt hi, List.getElem?_drop]
theorem Has.rowL {T : TypeId} {k n : Nat} {cs : List Cel} {fs : List Ty} (h : Has (.l T k n cs) (.l T k fs)) {j : Nat} (hj : j < n) : HasL (row cs k j) fs := by
  cases h with
  | l _ _ _ _ _ hk h1 h2 =>
    refine ⟨by rw [rowL_len h1 hj, hk], fun i c t hc ht => ?_⟩
    have hi : i < k := by have := (List.getElem?_eq_some_iff.1 ht).1; omega
    rw [row_at hi] at hc
    refine h2 (j * k + i) c t hc ?_
    rw [show (j * k + i) % k = i by rw [Nat.add_comm, Nat.add_mul_mod_self_right, Nat.mod_eq_of_lt hi]]
    exact ht
theorem HasL.nil {cs : List Cel} (h : HasL cs []) : cs = [] := List.length_eq_zero_iff.1 h.1
theorem HasL.cons {cs : List Cel} {t : Ty} {fs : List Ty} (h : HasL cs (t :: fs)) : ∃ c cs', cs = c :: cs' ∧ Has c t ∧ HasL cs' fs := by
  match cs, h with
  | [], h => have := h.1; simp at this
  | c :: cs', h => exact ⟨c, cs', rfl, h.2 0 c t rfl rfl, ⟨by have := h.1; simpa using this, fun j c' t' hc ht => h.2 (j + 1) c' t' (by simpa using hc) (by simpa using ht)⟩⟩
theorem Has.int {c : Cel} (h : Has c .i) : ∃ x, c = .i x := by cases h; exact ⟨_, rfl⟩
theorem Has.bool {c : Cel} (h : Has c .b) : ∃ x, c = .b x := by cases h; exact ⟨_, rfl⟩
theorem Has.str {c : Cel} (h : Has c .s) : ∃ x, c = .s x := by cases h; exact ⟨_, rfl⟩
theorem Has.list {c : Cel} {T : TypeId} {k : Nat} {fs : List Ty} (h : Has c (.l T k fs)) : ∃ n cs, c = .l T k n cs ∧ cs.length = n * k := by cases h; exact ⟨_, _, rfl, by assumption⟩

mutual
def Cel.cnt : Cel → Nat
  | .i _ => 1
  | .b _ => 1
  | .s _ => 1
  | .l _ _ _ cs => cntL cs
def cntL : List Cel → Nat
  | [] => 0
  | c :: cs => c.cnt + cntL cs
end
mutual
def Cel.mark (tx : Int → ByteArray) : Cel → Int → Cel
  | .i _, q => .i q
  | .b _, q => .b (q % 3 == 0)
  | .s _, q => .s (tx q)
  | .l T k n cs, q => .l T k n (markL tx cs q)
def markL (tx : Int → ByteArray) : List Cel → Int → List Cel
  | [], _ => []
  | c :: cs, q => c.mark tx q :: markL tx cs (q + (c.cnt : Int))
end
mutual
def Cel.big : Cel → Nat
  | .i _ => 0
  | .b _ => 0
  | .s x => x.size
  | .l _ _ n cs => n + bigL cs
def bigL : List Cel → Nat
  | [] => 0
  | c :: cs => c.big + bigL cs
end
theorem At.openL {q : Bool} {w : World} {v : Value} {T : TypeId} {k n : Nat} {cs : List Cel} (h : At q w v (.l T k n cs)) : ∃ (a : Option Addr) (c : Nat) (vs : List Value), v = .slice a n c ∧ vs.length = n * k ∧ cs.length = n * k ∧ n ≤ 2097152 ∧ (q = true → (a = none → c = 0) ∧ n ≤ c) ∧
    (n = 0 ∨ ∃ b o, a = some ⟨b, o, none⟩ ∧ ∀ j, j < n * k → w.cell? ⟨b, o + j, none⟩ = vs[j]?) ∧ ∀ (j : Nat) (v : Value) (c : Cel), vs[j]? = some v → cs[j]? = some c → At q w v c := by
  cases h with
  | l a T k n c cs vs h1 h2 hn hc h3 h4 => exact ⟨a, c, vs, rfl, h1, h2, hn, hc, h3, h4⟩
theorem At.int {q : Bool} {w : World} {v : Value} {x : Int} (h : At q w v (.i x)) : v = .int .i64 x := by cases h; rfl
theorem At.bool {q : Bool} {w : World} {v : Value} {x : Bool} (h : At q w v (.b x)) : v = .bool x := by cases h; rfl
theorem At.str {q : Bool} {w : World} {v : Value} {x : ByteArray} (h : At q w v (.s x)) : v = .string x := by cases h; rfl
theorem At.slice {q : Bool} {w : World} {v : Value} {T : TypeId} {k n : Nat} {cs : List Cel} (h : At q w v (.l T k n cs)) : ∃ a c, v = .slice a n c := by
  obtain ⟨a, c, _, e, _⟩ := h.openL
  exact ⟨a, c, e⟩
theorem AtL.nilE {q : Bool} {w : World} {vs : List Value} (h : AtL q w vs []) : vs = [] := List.length_eq_zero_iff.1 h.1
theorem AtL.consE {q : Bool} {w : World} {vs : List Value} {c : Cel} {cs : List Cel} (h : AtL q w vs (c :: cs)) : ∃ v vs', vs = v :: vs' ∧ At q w v c ∧ AtL q w vs' cs := by
  match vs, h with
  | [], h => have := h.1; simp at this
  | v :: vs', h => exact ⟨v, vs', rfl, h.head, h.tail⟩
theorem OwnL.nilE {w : World} {base : Nat} {vs : List Value} {S : Nat → Prop} (h : OwnL w base vs [] S) : vs = [] := List.length_eq_zero_iff.1 h.1
theorem OwnL.consE {w : World} {base : Nat} {vs : List Value} {c : Cel} {cs : List Cel} {S : Nat → Prop} (h : OwnL w base vs (c :: cs) S) : ∃ v vs', vs = v :: vs' := by
  match vs, h with
  | [], h => have := h.1; simp at this
  | v :: vs', _ => exact ⟨v, vs', rfl⟩
theorem rowVals {q : Bool} {w : World} {k n j : Nat} {cs : List Cel} {vs : List Value} (h1 : vs.length = n * k) (h2 : cs.length = n * k) (h4 : ∀ (j : Nat) (v : Value) (c : Cel), vs[j]? = some v → cs[j]? = some c → At q w v c) (hj : j < n) : AtL q w ((vs.drop (j * k)).take k) (row cs k j) := by
  have hle : j * k + k ≤ n * k := by rw [← Nat.succ_mul]; exact Nat.mul_le_mul_right k hj
  refine ⟨by rw [rowL_len h2 hj, List.length_take, List.length_drop, h1]; omega, fun i v c hv hc => ?_⟩
  have hi : i < k := by have := (List.getElem?_eq_some_iff.1 hc).1; rw [rowL_len h2 hj] at this; exact this
  rw [row_at hi] at hc
  rw [List.getElem?_take_of_lt hi, List.getElem?_drop] at hv
  exact h4 _ v c hv hc
def stores (w : World) (g p : Nat) : List Value → World
  | [] => w
  | u :: us => stores (w.setCell ⟨g, p, none⟩ u) g (p + 1) us
def over (ps : List Cel) (p : Nat) : List Cel → List Cel
  | [] => ps
  | c :: cs => over (ps.set p c) (p + 1) cs
def RetL (w : World) (cs : List Cel) (e : Ending) (w' : World) : Prop := Below w.heap.size w w' ∧ ∃ us S, e = .returned (.agg us.toArray) ∧ OwnL w' w.heap.size us cs S
def Ret (w : World) (c : Cel) (e : Ending) (w' : World) : Prop := Below w.heap.size w w' ∧ ∃ u S, e = .returned u ∧ Own w' w.heap.size u c S
theorem OwnL.app : ∀ {vs : List Value} {cs : List Cel} {w : World} {b : Nat} {vs' : List Value} {cs' : List Cel} {S S' : Nat → Prop}, OwnL w b vs cs S → OwnL w b vs' cs' S' → (∀ x, S x → ¬ S' x) → OwnL w b (vs ++ vs') (cs ++ cs') (fun x => S x ∨ S' x)
  | vs, [], w, b, vs', cs', S, S', h, h', _ => by
    obtain rfl := h.nilE
    have hn : ∀ x, ¬ S x := fun x hx => by
      obtain ⟨_, Ss, _, _, h3⟩ := h
      obtain ⟨j, hj, _⟩ := (h3 x).1 hx
      simp at hj
    obtain ⟨l, Ss, h1, h2, h3⟩ := h'
    exact ⟨l, Ss, h1, h2, fun x => ⟨fun hx => (h3 x).1 (hx.resolve_left (hn x)), fun hx => .inr ((h3 x).2 hx)⟩⟩
  | vs, c :: cs, w, b, vs', cs', S, S', h, h', hd => by
    obtain ⟨v, vs, rfl⟩ := h.consE
    obtain ⟨S0, S1, h0, h1, hd01, hS⟩ := h.parts
    exact OwnL.cons h0 (OwnL.app h1 h' fun x hx => hd x ((hS x).2 (.inr hx))) (fun x hx hx' => by
      rcases hx' with hx' | hx'
      · exact hd01 x hx hx'
      · exact hd x ((hS x).2 (.inl hx)) hx') (fun x => by rw [hS x, or_assoc])
structure Mk (w W : World) (A Z C : Array Value) (TA TO : TypeId) (R : List (List Value × List Cel × (Nat → Prop))) : Prop where
  a : Box W w.heap.size A TA
  z : Box W (w.heap.size + 1) Z TO
  c : Box W (w.heap.size + 1 + 1) C TO
  b : Below w.heap.size w W
  o : ∀ r ∈ R, OwnL W (w.heap.size + 3) r.1 r.2.1 r.2.2
  d : R.Pairwise (fun p q => ∀ x, p.2.2 x → ¬ q.2.2 x)
theorem Mk.store {w W : World} {A Z C : Array Value} {TA TO : TypeId} {R : List (List Value × List Cel × (Nat → Prop))} (h : Mk w W A Z C TA TO R) (i : Nat) (v : Value) : Mk w (W.setCell ⟨w.heap.size + 1 + 1, i, none⟩ v) A Z (C.setIfInBounds i v) TA TO R :=
  ⟨h.a.set (by simp; omega) v, h.z.set (by simp) v, h.c.put i v, h.b.setCell (by simp; omega) v, fun r hr => (h.o r hr).heap fun x hx => Below.heap_setCell _ _ _ _ (fun e => by
    have e : x = w.heap.size + 1 + 1 := e
    have := ((h.o r hr).lt x hx).1
    omega), h.d⟩
theorem Mk.call {w W W' : World} {A Z C : Array Value} {TA TO : TypeId} {R : List (List Value × List Cel × (Nat → Prop))} (h : Mk w W A Z C TA TO R) (hb : Below W.heap.size W W') {us : List Value} {cs : List Cel} {S : Nat → Prop} (o : OwnL W' W.heap.size us cs S) : Mk w W' A Z C TA TO (R ++ [(us, cs, S)]) := by
  have hc := h.c.lt
  have hs := h.b.size
  refine ⟨h.a.below hb h.a.lt, h.z.below hb h.z.lt, h.c.below hb hc, h.b.trans (hb.mono hs), fun r hr => ?_, ?_⟩
  · rcases List.mem_append.1 hr with hr | hr
    · exact (h.o r hr).on hb (Nat.le_refl _)
    · simp at hr
      subst hr
      exact o.weaken (by omega)
  · refine List.pairwise_append.2 ⟨h.d, by simp, fun r hr q hq x hx => ?_⟩
    simp at hq
    subst hq
    intro hx'
    have h1 := ((h.o r hr).lt x hx).2
    have h2 := (o.lt x hx').1
    omega
theorem owns_all {W : World} {b : Nat} : ∀ {R : List (List Value × List Cel × (Nat → Prop))}, (∀ r ∈ R, OwnL W b r.1 r.2.1 r.2.2) → R.Pairwise (fun p q => ∀ x, p.2.2 x → ¬ q.2.2 x) → OwnL W b (R.flatMap (·.1)) (R.flatMap (·.2.1)) (fun x => ∃ r ∈ R, r.2.2 x)
  | [], _, _ => OwnL.nil (fun x h => by simp at h)
  | r :: R, h, hd => by
    have hp := List.pairwise_cons.1 hd
    have h1 := OwnL.app (h r (by simp)) (owns_all (fun q hq => h q (by simp [hq])) hp.2) (fun x hx ⟨q, hq, hx'⟩ => hp.1 q hq x hx hx')
    obtain ⟨l, Ss, g1, g2, g3⟩ := h1
    refine ⟨l, Ss, g1, g2, fun x => ?_⟩
    exact Iff.trans (by simp) (g3 x)
theorem Mk.all {w W : World} {A Z C : Array Value} {TA TO : TypeId} {R : List (List Value × List Cel × (Nat → Prop))} (h : Mk w W A Z C TA TO R) : OwnL W w.heap.size (R.flatMap (·.1)) (R.flatMap (·.2.1)) (fun x => ∃ r ∈ R, r.2.2 x) := (owns_all h.o h.d).weaken (by omega)
def Yes (w : World) (e : Ending) (w' : World) : Prop := e = .returned (.bool true) ∧ Below w.heap.size w w'
structure Two (w W : World) (A B : Array Value) (T : TypeId) : Prop where
  a : Box W w.heap.size A T
  b : Box W (w.heap.size + 1) B T
  on : Below w.heap.size w W
theorem Two.call {w W W' : World} {A B : Array Value} {T : TypeId} (h : Two w W A B T) (hb : Below W.heap.size W W') : Two w W' A B T :=
  ⟨h.a.below hb h.a.lt, h.b.below hb h.b.lt, h.on.trans (hb.mono h.on.size)⟩
set_option linter.unusedSimpArgs false

def tyValue : List Ty := [(.i), (.i), (.s)]
def numC : Cel → Int
  | .i x => x
  | _ => 0
def boolC : Cel → Bool
  | .b x => x
  | _ => false
def lenC : Cel → Nat
  | .l _ _ n _ => n
  | _ => 0
def listC : Cel → List Cel
  | .l _ _ _ cs => cs
  | _ => []
def nums (cs : List Cel) : List Int := cs.map numC
def nthC (cs : List Cel) (i : Nat) : Cel := cs.getD i (.i 0)
def textC : Cel → ByteArray
  | .s x => x
  | _ => ⟨#[]⟩
end
section
open Go.ChangeShapes Go.WideShapes Go.ChangeAt Go.RowKit
abbrev Va3 := Int × Int × ByteArray
instance : Inhabited Va3 := ⟨(0, 0, ⟨#[]⟩)⟩
def VasAt (w : World) (a : Option Addr) (n : Nat) (L : List Va3) : Prop :=
  L.length = n ∧ n ≤ 2097152 ∧ (n = 0 ∨ ∃ b o, a = some ⟨b, o, none⟩ ∧ ∀ i x, L[i]? = some x → w.cell? ⟨b, o + i * 3, none⟩ = some (.int .i64 x.1) ∧ w.cell? ⟨b, o + i * 3 + 1, none⟩ = some (.int .i64 x.2.1) ∧ w.cell? ⟨b, o + i * 3 + 2, none⟩ = some (.string x.2.2))
theorem VasAt.below {w w' : World} {a : Option Addr} {n : Nat} {L : List Va3} (h : VasAt w a n L) {B : Nat} (hb : Below B w w') (hB : w.heap.size ≤ B) : VasAt w' a n L := by
  obtain ⟨h1, h2, h3 | ⟨b, o, h3, h4⟩⟩ := h
  · exact ⟨h1, h2, .inl h3⟩
  · refine ⟨h1, h2, .inr ⟨b, o, h3, fun i x hi => ?_⟩⟩
    obtain ⟨h5, h6, h7⟩ := h4 i x hi
    have hlt : b < B := Nat.lt_of_lt_of_le (World.block_lt_of_cell? w _ h5) hB
    exact ⟨(hb.cell hlt).trans h5, (hb.cell hlt).trans h6, (hb.cell hlt).trans h7⟩
def TupGood (L : List Va3) : Prop := (∀ x ∈ L, VaGood x.1 x.2.1 x.2.2) ∧ L.length ≤ 4
instance (L : List Va3) : Decidable (TupGood L) := by unfold TupGood; infer_instance
abbrev Col3 := ByteArray × Int × Bool
abbrev Idx3 := ByteArray × List Int × Bool
instance : Inhabited Col3 := ⟨(⟨#[]⟩, 0, false)⟩
instance : Inhabited Idx3 := ⟨(⟨#[]⟩, [], false)⟩
structure SchD where
  cols : List Col3
  key : List Int
  idx : List Idx3
def ColsAt (w : World) (a : Option Addr) (n : Nat) (L : List Col3) : Prop :=
  L.length = n ∧ n ≤ 2097152 ∧ (n = 0 ∨ ∃ b o, a = some ⟨b, o, none⟩ ∧ ∀ i x, L[i]? = some x → w.cell? ⟨b, o + i * 3, none⟩ = some (.string x.1) ∧ w.cell? ⟨b, o + i * 3 + 1, none⟩ = some (.int .i64 x.2.1) ∧ w.cell? ⟨b, o + i * 3 + 2, none⟩ = some (.bool x.2.2))
theorem ColsAt.below {w w' : World} {a : Option Addr} {n : Nat} {L : List Col3} (h : ColsAt w a n L) {B : Nat} (hb : Below B w w') (hB : w.heap.size ≤ B) : ColsAt w' a n L := by
  obtain ⟨h1, h2, h3 | ⟨b, o, h3, h4⟩⟩ := h
  · exact ⟨h1, h2, .inl h3⟩
  · refine ⟨h1, h2, .inr ⟨b, o, h3, fun i x hi => ?_⟩⟩
    obtain ⟨h5, h6, h7⟩ := h4 i x hi
    have hlt : b < B := Nat.lt_of_lt_of_le (World.block_lt_of_cell? w _ h5) hB
    exact ⟨(hb.cell hlt).trans h5, (hb.cell hlt).trans h6, (hb.cell hlt).trans h7⟩
def IdxAt (w : World) (a : Option Addr) (n : Nat) (L : List Idx3) : Prop :=
  L.length = n ∧ n ≤ 2097152 ∧ (n = 0 ∨ ∃ b o, a = some ⟨b, o, none⟩ ∧ ∀ i x, L[i]? = some x → w.cell? ⟨b, o + i * 3, none⟩ = some (.string x.1) ∧ (∃ ai ni ci, w.cell? ⟨b, o + i * 3 + 1, none⟩ = some (.slice ai ni ci) ∧ ni ≤ ci ∧ ni ≤ 2097152 ∧ IntAt w ai ni x.2.1) ∧ w.cell? ⟨b, o + i * 3 + 2, none⟩ = some (.bool x.2.2))
theorem IdxAt.below {w w' : World} {a : Option Addr} {n : Nat} {L : List Idx3} (h : IdxAt w a n L) {B : Nat} (hb : Below B w w') (hB : w.heap.size ≤ B) : IdxAt w' a n L := by
  obtain ⟨h1, h2, h3 | ⟨b, o, h3, h4⟩⟩ := h
  · exact ⟨h1, h2, .inl h3⟩
  · refine ⟨h1, h2, .inr ⟨b, o, h3, fun i x hi => ?_⟩⟩
    obtain ⟨h5, h6, h7⟩ := h4 i x hi
    have hlt : b < B := Nat.lt_of_lt_of_le (World.block_lt_of_cell? w _ h5) hB
    obtain ⟨ai, ni, ci, g1, g2, g3, g4⟩ := h6
    exact ⟨(hb.cell hlt).trans h5, ⟨ai, ni, ci, (hb.cell hlt).trans g1, g2, g3, g4.below hb hB⟩, (hb.cell hlt).trans h7⟩
abbrev ScV (a1 : Option Addr) (n1 c1 : Nat) (a2 : Option Addr) (n2 c2 : Nat) (a3 : Option Addr) (n3 c3 : Nat) : Value := .agg #[.slice a1 n1 c1, .slice a2 n2 c2, .slice a3 n3 c3]
structure SchAt (w : World) (a1 : Option Addr) (n1 c1 : Nat) (a2 : Option Addr) (n2 c2 : Nat) (a3 : Option Addr) (n3 c3 : Nat) (S : SchD) : Prop where
  cols : ColsAt w a1 n1 S.cols
  key : IntAt w a2 n2 S.key
  idx : IdxAt w a3 n3 S.idx
  r1 : n1 ≤ c1
  r2 : n2 ≤ c2
  r3 : n3 ≤ c3
  k2 : n2 ≤ 2097152
theorem SchAt.below {w w' : World} {a1 a2 a3 : Option Addr} {n1 c1 n2 c2 n3 c3 : Nat} {S : SchD} (h : SchAt w a1 n1 c1 a2 n2 c2 a3 n3 c3 S) {B : Nat} (hb : Below B w w') (hB : w.heap.size ≤ B) : SchAt w' a1 n1 c1 a2 n2 c2 a3 n3 c3 S :=
  ⟨h.cols.below hb hB, h.key.below hb hB, h.idx.below hb hB, h.r1, h.r2, h.r3, h.k2⟩

def lowB (b : UInt8) : Prop := 97 ≤ b.toNat ∧ b.toNat ≤ 122
instance (b : UInt8) : Decidable (lowB b) := by unfold lowB; infer_instance
def CnGood (s : ByteArray) : Prop := (∀ b ∈ s.data.toList, lowB b) ∧ 1 ≤ s.size ∧ s.size ≤ 12
instance (s : ByteArray) : Decidable (CnGood s) := by unfold CnGood; infer_instance
def PlGood (nc : Nat) (l : List Int) (most : Nat) : Prop := (∀ x ∈ l, 0 ≤ x ∧ x < (nc : Int)) ∧ l.Nodup ∧ 1 ≤ l.length ∧ l.length ≤ most
instance (nc : Nat) (l : List Int) (most : Nat) : Decidable (PlGood nc l most) := by unfold PlGood; infer_instance
def colAt : List Col3 → ByteArray → Int
  | [], _ => -1
  | x :: L, s => if x.1 = s then 0 else if colAt L s = -1 then -1 else colAt L s + 1
def IxGood (nc : Nat) (L : List Idx3) : Prop := (∀ x ∈ L, CnGood x.1 ∧ PlGood nc x.2.1 3) ∧ (L.map (·.1)).Nodup ∧ L.length ≤ 3
instance (nc : Nat) (L : List Idx3) : Decidable (IxGood nc L) := by unfold IxGood; infer_instance
def fast (L : List Col3) (x : Int) : Prop := (L.getD x.toNat default).2.2 = false
instance (L : List Col3) (x : Int) : Decidable (fast L x) := by unfold fast; infer_instance
def ScGood (S : SchD) : Prop :=
  (∀ x ∈ S.cols, CnGood x.1 ∧ 1 ≤ x.2.1 ∧ x.2.1 ≤ 3) ∧ (S.cols.map (·.1)).Nodup ∧ (1 ≤ S.cols.length ∧ S.cols.length ≤ 5) ∧ PlGood S.cols.length S.key 4 ∧ IxGood S.cols.length S.idx ∧ ∀ x ∈ S.key, fast S.cols x
instance (S : SchD) : Decidable (ScGood S) := by unfold ScGood; infer_instance
theorem col_none : ∀ (L : List Col3) (s : ByteArray), (∀ x ∈ L, ¬ x.1 = s) → colAt L s = -1
  | [], s, _ => rfl
  | x :: L, s, h => by
    rw [colAt, if_neg (h x (by simp)), if_pos (col_none L s fun y hy => h y (by simp [hy]))]
theorem col_at : ∀ (L : List Col3) (s : ByteArray) (j : Nat) (x : Col3), L[j]? = some x → x.1 = s → (∀ y ∈ L.take j, ¬ y.1 = s) → colAt L s = (j : Int)
  | [], s, j, x, h, _, _ => by simp at h
  | y :: L, s, 0, x, h, e, _ => by
    simp at h
    subst h
    rw [colAt, if_pos e]
    rfl
  | y :: L, s, j + 1, x, h, e, hn => by
    have h1 := col_at L s j x (by simpa using h) e (fun z hz => hn z (by simp [hz]))
    rw [colAt, if_neg (hn y (by simp)), h1, if_neg (by omega)]
    push_cast
    rfl
theorem col_lt : ∀ (L : List Col3) (s : ByteArray) (j : Nat), (∃ y ∈ L.take j, y.1 = s) → 0 ≤ colAt L s ∧ colAt L s < (j : Int)
  | [], s, j, ⟨y, hy, _⟩ => by simp at hy
  | x :: L, s, 0, ⟨y, hy, _⟩ => by simp at hy
  | x :: L, s, j + 1, ⟨y, hy, he⟩ => by
    rw [colAt]
    by_cases hx : x.1 = s
    · rw [if_pos hx]; omega
    · rw [if_neg hx]
      rw [List.take_succ_cons] at hy
      rcases List.mem_cons.1 hy with rfl | hy
      · exact absurd he hx
      · have h1 := col_lt L s j ⟨y, hy, he⟩
        rw [if_neg (by omega)]
        omega
theorem col_self (L : List Col3) (j : Nat) (x : Col3) (h : L[j]? = some x) : colAt L x.1 = (j : Int) ↔ ∀ y ∈ L.take j, ¬ y.1 = x.1 := by
  constructor
  · intro hc y hy he
    have h1 := col_lt L x.1 j ⟨y, hy, he⟩
    omega
  · exact fun hn => col_at L x.1 j x h rfl hn
theorem take_all {α : Type} {p : α → Prop} {L : List α} {j : Nat} {x : α} (h : ∀ y ∈ L.take j, p y) (hx : L[j]? = some x) (px : p x) : ∀ y ∈ L.take (j + 1), p y := by
  intro y hy
  rw [List.take_add_one, hx] at hy
  rcases List.mem_append.1 hy with h1 | h1
  · exact h y h1
  · simp at h1
    subst h1
    exact px
theorem take_nodup {α : Type} {L : List α} {j : Nat} {x : α} (h : (L.take j).Nodup) (hx : L[j]? = some x) (hn : ∀ y ∈ L.take j, ¬ y = x) : (L.take (j + 1)).Nodup := by
  rw [List.take_add_one, hx]
  refine List.nodup_append.2 ⟨h, by simp, ?_⟩
  intro a ha b hb
  simp at hb
  subst hb
  exact hn a ha
theorem nodup_take {α : Type} {L : List α} {j : Nat} {x : α} (h : L.Nodup) (hx : L[j]? = some x) : ∀ y ∈ L.take j, ¬ y = x := by
  intro y hy e
  have hlt := (List.getElem?_eq_some_iff.1 hx).1
  obtain ⟨i, hi, hyi⟩ := List.getElem_of_mem hy
  rw [List.length_take] at hi
  rw [List.getElem_take] at hyi
  have h1 := (List.getElem?_eq_some_iff.1 hx).2
  have h3 := List.pairwise_iff_getElem.1 h i j (by omega) hlt (by omega)
  exact h3 (by rw [hyi, h1, e])
end
section
open Go.ChangeShapes Go.WideShapes Go.ChangeAt Go.RowKit Go.Joins
set_option linter.unusedSimpArgs false

def tyCol : List Ty := [(.s), (.i), (.b)]
def tyIndex : List Ty := [(.s), (.l 3 1 [.i]), (.b)]
def tySchema : List Ty := [(.l 75 3 tyCol), (.l 3 1 [.i]), (.l 105 3 tyIndex)]
end
end Go.Proofs.Ytmgofehafjogfaa
