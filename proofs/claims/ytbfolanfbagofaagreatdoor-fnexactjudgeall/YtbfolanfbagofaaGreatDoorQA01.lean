/- Texts joined: Own, IntAt, BoxN, OpM, Trip, Quad, OwnsF, Clone, KRow, InB, Mch. -/
import Derived.WalkKit
import Derived.Test.YtbfolanfbagofaaGreatDoorRows
import Derived.ProofKit
import Derived.WalkSmall
import Derived.OpenShut
import Derived.Below
import Derived.Handy
import Derived.Lib.SmallJoins
import Derived.Deep.Slices
import Derived.Deep.SlicePairs
import Derived.Deep.Strs
import Derived.Laws.AppendOwn
import Derived.Deep.RegionLaw
import Derived.Lib.LazyBuf
set_option maxHeartbeats 200000
set_option maxRecDepth 100000
namespace Go.Proofs.YtbfolanfbagofaaGreatDoor
section
open Go.RowKit
theorem owns_below {w w' : World} {base : Nat} {e : TypeId} {size : Nat} {v : Value} {n : Nat} {xs : List Value} (h : w.ownsRow base e size v n xs) {B : Nat} (hb : Below B w w') (hB : w.heap.size ≤ B) : w'.ownsRow base e size v n xs := by
 obtain ⟨h1, h2 | ⟨g, cap, cur, h3, h4, h5, h6⟩⟩ := h
 · exact ⟨h1, .inl h2⟩
 · refine ⟨h1, .inr ⟨g, cap, cur, h3, h4, ?_, h6⟩⟩
   have := (Array.getElem?_eq_some_iff.1 h5).1
   rw [hb.block g (by omega)]
   exact h5
theorem own_cell {w : World} {base : Nat} {e : TypeId} {g n cap j : Nat} {xs : List Value} (h : w.ownsRow base e 1 (.slice (some ⟨g, 0, none⟩) n cap) n xs) (hj : j < n) : ∃ u, w.cell? ⟨g, j, none⟩ = some u := by
 have h1 := h.cellAt j (by omega)
 have h2 : j < xs.length := by rw [h.1]; omega
 exact ⟨xs[j], by rw [h1, List.getElem?_eq_getElem h2]⟩
theorem own_base {w : World} {base : Nat} {e : TypeId} {g n cap : Nat} {xs : List Value} (h : w.ownsRow base e 1 (.slice (some ⟨g, 0, none⟩) n cap) n xs) : base ≤ g ∧ g < w.heap.size := h.lt g rfl
end
section
open Go.ChangeShapes Go.WideShapes Go.ChangeAt Go.RowKit
abbrev I (x : Int) : Value := .int .i64 x
def IntAt (w : World) (a : Option Addr) (n : Nat) (xs : List Int) : Prop :=
 xs.length = n ∧ n ≤ 1099511627776 ∧ (n = 0 ∨ ∃ b o, a = some ⟨b, o, none⟩ ∧ ∀ i, i < n → w.cell? ⟨b, o + i, none⟩ = some (I (xs.getD i 0)))
theorem IntAt.below {w w' : World} {a : Option Addr} {n : Nat} {xs : List Int} (h : IntAt w a n xs) {B : Nat} (hb : Below B w w') (hB : w.heap.size ≤ B) : IntAt w' a n xs := by
 obtain ⟨h1, h2, h3 | ⟨b, o, h3, h4⟩⟩ := h
 · exact ⟨h1, h2, .inl h3⟩
 · refine ⟨h1, h2, .inr ⟨b, o, h3, fun i hi => ?_⟩⟩
   have h5 := h4 i hi
   have h6 := World.block_lt_of_cell? w _ h5
   rw [hb.cell (show _ < B from Nat.lt_of_lt_of_le h6 hB)]
   exact h5
theorem own_intAt {w : World} {base : Nat} {e : TypeId} {g n cap : Nat} {xs : List Int} (h : w.ownsRow base e 1 (.slice (some ⟨g, 0, none⟩) n cap) n (xs.map I)) (hn : n ≤ 1099511627776) : IntAt w (some ⟨g, 0, none⟩) n xs := by
 have hl : xs.length = n := by have := h.1; simpa using this
 refine ⟨hl, hn, .inr ⟨g, 0, rfl, fun i hi => ?_⟩⟩
 rw [Nat.zero_add, h.cellAt i (by omega), List.getElem?_map, List.getElem?_eq_getElem (by omega)]
 simp [List.getD, show i < xs.length by omega]
theorem take_nextI {xs ys : List Int} {k : Nat} (hx : k < xs.length) (hy : k < ys.length) (h : xs.take k = ys.take k) (e : xs.getD k 0 = ys.getD k 0) : xs.take (k + 1) = ys.take (k + 1) := by
 have e' : xs[k] = ys[k] := by simpa [List.getD, hx, hy] using e
 rw [List.take_succ_eq_append_getElem hx, List.take_succ_eq_append_getElem hy, h, e']
theorem infoInt : (Tryz.prog.info? 3).map (fun i => (i.zero, i.size, i.bytes)) = some (some (.int .i64 0), 1, 8) := by kernel_rfl
end
section
open Go.RowKit
def Box (w : World) (b : Nat) (cs : Array Value) (T : TypeId) : Prop := w.heap[b]? = some (.cells cs T)
section
variable {w w' : World} {b : Nat} {cs : Array Value} {T : TypeId}
theorem Box.lt (h : Box w b cs T) : b < w.heap.size := (Array.getElem?_eq_some_iff.1 h).1
theorem Box.cell (h : Box w b cs T) (i : Nat) : w.cell? ⟨b, i, none⟩ = cs[i]? := by unfold Box at h; simp [World.cell?, h]
theorem Box.frozen (h : Box w b cs T) (i : Nat) : w.frozen? ⟨b, i, none⟩ = false := by unfold Box at h; simp [World.frozen?, h]
theorem Box.below (h : Box w b cs T) {B : Nat} (hb : Below B w w') (hB : b < B) : Box w' b cs T := by
 unfold Box at h ⊢
 rw [hb.block b hB]
 exact h
theorem Box.set (h : Box w b cs T) {q : Addr} (hq : b ≠ q.block) (v : Value) : Box (w.setCell q v) b cs T := by
 unfold Box at h ⊢
 rw [Below.heap_setCell _ _ _ _ hq]
 exact h
theorem Box.put (h : Box w b cs T) (i : Nat) (v : Value) : Box (w.setCell ⟨b, i, none⟩ v) b (cs.setIfInBounds i v) T := by
 unfold Box at h ⊢
 obtain ⟨hlt, h'⟩ := Array.getElem?_eq_some_iff.1 h
 show (w.heap.modify b _)[b]? = _
 rw [Array.getElem?_eq_getElem (by simpa using hlt), Array.getElem_modify_self, h']
 rfl
theorem Box.alloc (h : Box w b cs T) (o : Obj) : Box (w.alloc o) b cs T := h.below ((Below.refl w.heap.size w).alloc (Nat.le_refl _) o) h.lt
theorem box_of (w : World) (cs : Array Value) (T : TypeId) : Box (w.alloc (.cells cs T)) w.heap.size cs T := by
 show (w.heap.push _)[w.heap.size]? = _
 simp
theorem Box.drew (h : Box w b cs T) : Box w.drew b cs T := h
end
theorem size_setCell (w : World) (a : Addr) (v : Value) : (w.setCell a v).heap.size = w.heap.size := by simp [World.setCell]
theorem Box.at {w : World} {b : Nat} {cs : Array Value} {T : TypeId} (h : Box w b cs T) (i : Nat) (v : Value) (hv : cs[i]? = some v) : w.cell? ⟨b, i, none⟩ = some v := (h.cell i).trans hv
end
def KeyGood (kind k : Int) : Prop := (kind ≤ 4 ∧ 0 ≤ k ∧ k ≤ 3) ∨ (kind = 6 ∧ 0 ≤ k ∧ k ≤ 2) ∨ (4 < kind ∧ kind ≠ 6 ∧ k = 0)
def ValGood (kind v : Int) : Prop := ((kind = 1 ∨ kind = 2 ∨ kind = 5 ∨ kind = 10) ∧ 1 ≤ v ∧ v ≤ 6) ∨ (¬ (kind = 1 ∨ kind = 2 ∨ kind = 5 ∨ kind = 10) ∧ v = 0)
def OpGood (kind k v : Int) : Prop := (1 ≤ kind ∧ kind ≤ 10) ∧ KeyGood kind k ∧ ValGood kind v
instance (kind k : Int) : Decidable (KeyGood kind k) := by unfold KeyGood; infer_instance
instance (kind v : Int) : Decidable (ValGood kind v) := by unfold ValGood; infer_instance
instance (kind k v : Int) : Decidable (OpGood kind k v) := by unfold OpGood; infer_instance
theorem kinds {kind : Int} (h : 1 ≤ kind ∧ kind ≤ 10) : kind = 1 ∨ kind = 2 ∨ kind = 3 ∨ kind = 4 ∨ kind = 5 ∨ kind = 6 ∨ kind = 7 ∨ kind = 8 ∨ kind = 9 ∨ kind = 10 := by omega
abbrev OpV (kind k v : Int) : Value := .agg #[.int .i64 kind, .int .i64 k, .int .i64 v]
theorem says_true {P : Prop} [Decidable P] (h : P) : Ending.returned (.bool true) = .returned (.bool (decide P)) := by rw [decide_eq_true h]
theorem says_false {P : Prop} [Decidable P] (h : ¬ P) : Ending.returned (.bool false) = .returned (.bool (decide P)) := by rw [decide_eq_false h]
theorem good_of {kind k v : Int} {P Q : Prop} (h : 1 ≤ kind ∧ kind ≤ 10) (hp : KeyGood kind k ↔ P) (hq : ValGood kind v ↔ Q) : OpGood kind k v ↔ (P ∧ Q) :=
 ⟨fun g => ⟨hp.1 g.2.1, hq.1 g.2.2⟩, fun g => ⟨h, hp.2 g.1, hq.2 g.2⟩⟩
theorem eqb (a b : Int) : (a = b ∧ (a == b) = true) ∨ (¬ a = b ∧ (a == b) = false) := by
 by_cases h : a = b
 · exact .inl ⟨h, by simp [h]⟩
 · exact .inr ⟨h, by simp [h]⟩
theorem tri (a b x : Int) (h : a ≤ b) : (a ≤ x ∧ x ≤ b) ∨ (¬ a ≤ x ∧ x ≤ b) ∨ (a ≤ x ∧ ¬ x ≤ b) := by omega
section
open Go.ChangeShapes Go.WideShapes Go.ChangeAt Go.RowKit Go.Joins
theorem below_drewN6 {B : Nat} {w w' : World} (h : Below B w w') : ∀ n, Below B w (w'.drewN n)
 | 0 => h
 | n + 1 => by
   have := (below_drewN6 h n).drew
   exact this
def TripAt (w : World) (a : Option Addr) (n : Nat) (fs : List Int) : Prop :=
 fs.length = n * 3 ∧ n ≤ 1048576 ∧ (n = 0 ∨ ∃ b o, a = some ⟨b, o, none⟩ ∧ ∀ i, i < n * 3 → w.cell? ⟨b, o + i, none⟩ = some (I (fs.getD i 0)))
theorem TripAt.below {w w' : World} {a : Option Addr} {n : Nat} {fs : List Int} (h : TripAt w a n fs) {B : Nat} (hb : Below B w w') (hB : w.heap.size ≤ B) : TripAt w' a n fs := by
 obtain ⟨h1, h2, h3 | ⟨b, o, h3, h4⟩⟩ := h
 · exact ⟨h1, h2, .inl h3⟩
 · refine ⟨h1, h2, .inr ⟨b, o, h3, fun i hi => ?_⟩⟩
   have h5 := h4 i hi
   rw [hb.cell (show b < B from Nat.lt_of_lt_of_le (World.block_lt_of_cell? w _ h5) hB)]
   exact h5
theorem own_tripAt {w : World} {base : Nat} {e : TypeId} {g n cap : Nat} {fs : List Int} (h : w.ownsRow base e 3 (.slice (some ⟨g, 0, none⟩) n cap) n (fs.map I)) (hn : n ≤ 1048576) : TripAt w (some ⟨g, 0, none⟩) n fs := by
 have hl : fs.length = n * 3 := by have := h.1; simpa using this
 refine ⟨hl, hn, .inr ⟨g, 0, rfl, fun i hi => ?_⟩⟩
 rw [Nat.zero_add, h.cellAt i (by omega), List.getElem?_map, List.getElem?_eq_getElem (by omega)]
 simp [List.getD, show i < fs.length by omega]
def uptoT (fs : List Int) (k n : Nat) : List Int := fs.take k ++ List.replicate (n - k) 0
def flat3 (f : Nat → Int × Int × Int) (n : Nat) : List Int := (List.range n).flatMap fun i => [(f i).1, (f i).2.1, (f i).2.2]
def QuadAt (w : World) (a : Option Addr) (n : Nat) (fs : List Int) : Prop :=
 fs.length = n * 4 ∧ n ≤ 1048576 ∧ (n = 0 ∨ ∃ b o, a = some ⟨b, o, none⟩ ∧ ∀ i, i < n * 4 → w.cell? ⟨b, o + i, none⟩ = some (I (fs.getD i 0)))
theorem QuadAt.below {w w' : World} {a : Option Addr} {n : Nat} {fs : List Int} (h : QuadAt w a n fs) {B : Nat} (hb : Below B w w') (hB : w.heap.size ≤ B) : QuadAt w' a n fs := by
 obtain ⟨h1, h2, h3 | ⟨b, o, h3, h4⟩⟩ := h
 · exact ⟨h1, h2, .inl h3⟩
 · refine ⟨h1, h2, .inr ⟨b, o, h3, fun i hi => ?_⟩⟩
   have h5 := h4 i hi
   rw [hb.cell (show b < B from Nat.lt_of_lt_of_le (World.block_lt_of_cell? w _ h5) hB)]
   exact h5
def flat4 (f : Nat → Int × Int × Int × Int) (n : Nat) : List Int := (List.range n).flatMap fun i => [(f i).1, (f i).2.1, (f i).2.2.1, (f i).2.2.2]
end
section
open Go.ChangeShapes Go.WideShapes Go.ChangeAt Go.RowKit
abbrev SL (g n : Nat) : Value := .slice (some ⟨g, 0, none⟩) n n
theorem own_cellV {w : World} {base : Nat} {e : TypeId} {g n cap size j : Nat} {vs : List Value} {u : Value} (h : w.ownsRow base e size (.slice (some ⟨g, 0, none⟩) n cap) n vs) (hj : vs[j]? = some u) : w.cell? ⟨g, j, none⟩ = some u := by
 have hl : j < vs.length := (List.getElem?_eq_some_iff.1 hj).1
 rw [h.cellAt j (by rw [← h.1]; exact hl)]
 exact hj
theorem owns_heap {w w' : World} {base : Nat} {e : TypeId} {size n : Nat} {v : Value} {xs : List Value} (h : w.ownsRow base e size v n xs) (he : ∀ k, v.ownBlock = some k → w'.heap[k]? = w.heap[k]?) : w'.ownsRow base e size v n xs := by
 refine ⟨h.1, ?_⟩
 rcases h.2 with h2 | ⟨g, cap, cur, rfl, hg, hh, r⟩
 · exact .inl h2
 · exact .inr ⟨g, cap, cur, rfl, hg, by rw [he g rfl]; exact hh, r⟩
theorem owns_forms {w : World} {base : Nat} {e : TypeId} {size n : Nat} {v : Value} {xs : List Value} (h : w.ownsRow base e size v n xs) : (v = .slice none 0 0 ∧ n = 0) ∨ ∃ g cap, v = .slice (some ⟨g, 0, none⟩) n cap := by
 rcases h.2 with h2 | ⟨g, cap, cur, hv, _⟩
 · exact .inl h2
 · exact .inr ⟨g, cap, hv⟩
theorem owns_slice {w : World} {base : Nat} {e : TypeId} {size n : Nat} {v : Value} {xs : List Value} (h : w.ownsRow base e size v n xs) : ∃ a c, v = .slice a n c ∧ n ≤ c := by
 rcases h.2 with ⟨h2, h3⟩ | ⟨g, cap, cur, hv, _, _, hc, _⟩
 · exact ⟨none, 0, by rw [h2, h3], by omega⟩
 · exact ⟨_, cap, hv, hc⟩
def asc (k : Int) (n : Nat) : List Int := (List.range n).map fun (i : Nat) => k + (i : Int)
theorem asc_len (k : Int) (n : Nat) : (asc k n).length = n := by simp [asc]
def Asc (zs : List Int) (k : Int) (j : Nat) : Prop := ∀ i, i < j → zs[i]? = some (k + (i : Int))
theorem Asc.three {zs : List Int} {k q : Int} {j : Nat} (h : Asc zs k (j * 3)) (hl : j * 3 + 2 < zs.length) (hq : k + (j : Int) * 3 = q) : Asc (((zs.set (j * 3) q).set (j * 3 + 1) (q + 1)).set (j * 3 + 2) (q + 1 + 1)) k ((j + 1) * 3) := by
 intro i hi
 by_cases e2 : i = j * 3 + 2
 · subst e2
   rw [List.getElem?_set_self (by simp; omega)]
   congr 1; push_cast; omega
 rw [List.getElem?_set_ne (by omega)]
 by_cases e1 : i = j * 3 + 1
 · subst e1
   rw [List.getElem?_set_self (by simp; omega)]
   congr 1; push_cast; omega
 rw [List.getElem?_set_ne (by omega)]
 by_cases e0 : i = j * 3
 · subst e0
   rw [List.getElem?_set_self (by omega)]
   congr 1; push_cast; omega
 rw [List.getElem?_set_ne (by omega)]
 exact h i (by omega)
theorem Asc.one {zs : List Int} {k q : Int} {j : Nat} (h : Asc zs k j) (hl : j < zs.length) (hq : k + (j : Int) = q) : Asc (zs.set j q) k (j + 1) := by
 intro i hi
 by_cases e0 : i = j
 · subst e0
   rw [List.getElem?_set_self (by omega), hq]
 rw [List.getElem?_set_ne (by omega)]
 exact h i (by omega)
theorem Asc.all {zs : List Int} {k : Int} {n : Nat} (h : Asc zs k n) (hl : zs.length = n) : zs = asc k n := by
 refine List.ext_getElem? fun i => ?_
 rcases Nat.lt_or_ge i n with hi | hi
 · rw [h i hi]; simp [asc, hi]
 · rw [List.getElem?_eq_none (by omega), List.getElem?_eq_none (by rw [asc_len]; omega)]
structure OnlyV (base : Nat) (v : Value) (w w' : World) : Prop where
 bel : Below base w w'
 size : w'.heap.size = w.heap.size
 oth : ∀ k, v.ownBlock ≠ some k → w'.heap[k]? = w.heap[k]?
theorem OnlyV.refl (base : Nat) (v : Value) (w : World) : OnlyV base v w w := ⟨Below.refl _ _, rfl, fun _ _ => rfl⟩
theorem OnlyV.set {base g n cap : Nat} {w w' : World} (h : OnlyV base (.slice (some ⟨g, 0, none⟩) n cap) w w') (hb : base ≤ g) (j : Nat) (u : Value) : OnlyV base (.slice (some ⟨g, 0, none⟩) n cap) w (w'.setCell ⟨g, j, none⟩ u) :=
 ⟨h.bel.setCell hb _, by rw [size_setCell]; exact h.size, fun k hk => (Below.heap_setCell _ _ _ _ (fun e => hk (by simp [Value.ownBlock, e]))).trans (h.oth k hk)⟩
theorem own_empty {w : World} {base : Nat} (hb : base ≤ w.heap.size) : (w.alloc (.cells #[] 3)).ownsRow base 3 1 (.slice (some ⟨w.heap.size, 0, none⟩) 0 0) 0 [] :=
 ⟨rfl, .inr ⟨w.heap.size, 0, #[], rfl, hb, (by show (w.heap.push _)[w.heap.size]? = _; simp), Nat.le_refl _, by unfold maxLen; omega, rfl, rfl⟩⟩
theorem own_empty_drew {w : World} {base g : Nat} (hg : w.heap.size = g) (hb : base ≤ g) : (w.alloc (.cells #[] 3)).drew.ownsRow base 3 1 (.slice (some ⟨g, 0, none⟩) 0 0) 0 [] := by
 subst hg
 exact own_empty hb
theorem own_weaken {w : World} {base base' : Nat} {e : TypeId} {size : Nat} {v : Value} {n : Nat} {xs : List Value} (h : w.ownsRow base e size v n xs) (hb : base' ≤ base) : w.ownsRow base' e size v n xs := by
 refine ⟨h.1, ?_⟩
 rcases h.2 with h2 | ⟨g, cap, cur, hv, hg, r⟩
 · exact .inl h2
 · exact .inr ⟨g, cap, cur, hv, Nat.le_trans hb hg, r⟩
theorem own_setCell_far {w : World} {base : Nat} {e : TypeId} {size : Nat} {v : Value} {n : Nat} {xs : List Value} (h : w.ownsRow base e size v n xs) {a : Addr} (ha : v.ownBlock ≠ some a.block) (u : Value) : (w.setCell a u).ownsRow base e size v n xs := by
 refine ⟨h.1, ?_⟩
 rcases h.2 with h2 | ⟨g, cap, cur, rfl, hg, hh, r⟩
 · exact .inl h2
 · exact .inr ⟨g, cap, cur, rfl, hg, by rw [Below.heap_setCell _ _ _ _ (fun e => ha (by simp [Value.ownBlock, e]))]; exact hh, r⟩
theorem own_at {w : World} {base : Nat} {e : TypeId} {v : Value} {n : Nat} {xs : List Int} (h : w.ownsRow base e 1 v n (xs.map I)) (hn : n ≤ 1099511627776) : ∃ a c, v = .slice a n c ∧ IntAt w a n xs := by
 have hl : xs.length = n := by have := h.1; simpa using this
 rcases h.2 with ⟨rfl, h0⟩ | ⟨g, cap, cur, rfl, _⟩
 · exact ⟨none, 0, by rw [h0], hl, hn, .inl h0⟩
 · exact ⟨_, cap, rfl, own_intAt h hn⟩
theorem news_len {xs : List Int} {n : Nat} (h : xs.length = n) : (xs.map I).length = n * 1 := by simp [h]
theorem news_at {w : World} {p o n : Nat} {xs : List Int} {ob : Obj} (hl : xs.length = n) (h : ∀ i, i < n → w.cell? ⟨p, o + i, none⟩ = some (I (xs.getD i 0))) :
   ∀ (j : Nat) (u : Value), (xs.map I)[j]? = some u → (w.alloc ob).cell? ((⟨p, o, none⟩ : Addr).add j) = some u := by
 intro j u hj
 have hj' : j < n := by
   rcases Nat.lt_or_ge j n with h1 | h1
   · exact h1
   · rw [List.getElem?_eq_none (by simp; omega)] at hj; cases hj
 have h1 := h j hj'
 have h2 := World.block_lt_of_cell? w _ h1
 have e : (⟨p, o, none⟩ : Addr).add j = ⟨p, o + j, none⟩ := by simp [Addr.add]
 rw [e, World.cell?_alloc_past _ _ _ (show p < w.heap.size from h2), h1]
 rw [List.getElem?_map, List.getElem?_eq_getElem (by omega)] at hj
 simpa [List.getD, show j < xs.length by omega] using hj
theorem news_at_drew {w : World} {p o n : Nat} {xs : List Int} {ob : Obj} (hl : xs.length = n) (h : ∀ i, i < n → w.cell? ⟨p, o + i, none⟩ = some (I (xs.getD i 0))) :
   ∀ (j : Nat) (u : Value), (xs.map I)[j]? = some u → (w.alloc ob).drew.cell? ((⟨p, o, none⟩ : Addr).add j) = some u := fun j u hj => news_at hl h j u hj
theorem IntAt.cells {w : World} {p o n : Nat} {xs : List Int} (h : IntAt w (some ⟨p, o, none⟩) n xs) : ∀ i, i < n → w.cell? ⟨p, o + i, none⟩ = some (I (xs.getD i 0)) := by
 intro i hi
 rcases h.2.2 with h0 | ⟨b, c, e, g⟩
 · omega
 · cases e
   exact g i hi
theorem below_appended_drew {a w1 w' : World} {B g c : Nat} {ob : Obj} (hb : Below B a w1) (hs : B ≤ w1.heap.size) (he : w1.heap.size = g) (hg : (w1.alloc ob).drew.grownBy w' (Value.slice (some ⟨g, 0, none⟩) 0 c).ownBlock) : Below B a w' :=
 (hb.alloc hs _).drew.grown hg (by simp; omega) fun k e => by cases e; exact he ▸ hs
theorem news_one {xs : List Int} : ∀ u ∈ xs.map I, u.oneCell' = true := by
 intro u hu
 simp at hu
 obtain ⟨x, _, rfl⟩ := hu
 rfl
theorem below_appended {w w1 w' : World} {ob : Obj} {c : Nat} (hb : Below w.heap.size w w1) (hs : w.heap.size ≤ w1.heap.size) (hg : (w1.alloc ob).grownBy w' (Value.slice (some ⟨w1.heap.size, 0, none⟩) 0 c).ownBlock) : Below w.heap.size w w' :=
 (hb.alloc hs _).grown hg (by simp; omega) fun k e => by cases e; exact hs
theorem step_append_own {P : Program} {ops : Array Oper} {o : Oper} {a : Act} (w : World) {K : Act → World → Prop} {Q : Exit → Act → World → Prop} {E : Prop} (hg : o.guard = none) (s x : Operand) (t : TypeId)
   (ho : o.op = .call { callee := .builtin .append, args := #[s, x], argTypes := #[t, t] })
   (base : Nat) (e : TypeId) (i : TypeInfo) (z : Value) (size bytes : Nat) (ht : P.underlying t = some (.slice e)) (hi : P.info? e = some i) (hz : i.zero = some z)
   (hsize : i.size = size) (hby : i.bytes = bytes) (hzs : z.cells.size = size) (hsz : 0 < size)
   (v : Value) (n : Nat) (xs : List Value) (hs : a.eval s = v) (hown : w.ownsRow base e size v n xs)
   (ad : Addr) (m c : Nat) (news : List Value) (hx : a.eval x = .slice (some ad) m c) (hl : news.length = m * size) (hnews : ∀ j u, news[j]? = some u → w.cell? (ad.add j) = some u) (h1 : ∀ u ∈ news, u.oneCell' = true)
   (h63 : n + m ≤ maxLen) (hbytes : (n + m) * bytes ≤ 140737488355328) (hbase : base ≤ w.heap.size)
   (h : ∀ v' w', w'.ownsRow base e size v' (n + m) (xs ++ news) → w.grownBy w' v.ownBlock → (v' = .slice none 0 0 ↔ v = .slice none 0 0 ∧ m = 0) → K (a.put o.dst v') w') :
   if Region.wanted o (yielded ops a.tmps) = true then Oper.wp P o a w K Q else E := by
 rw [if_pos (by simp [Region.wanted, hg])]
 exact wp_append_own w s x t ho base e i z size bytes ht hi hz hsize hby hzs hsz v n xs hs hown ad m c news hx hl hnews h1 h63 hbytes hbase h
end
section
open Go.ChangeShapes Go.WideShapes Go.ChangeAt Go.RowKit Go.Joins
def KAt (k : Nat) (w : World) (a : Option Addr) (n : Nat) (fs : List Int) : Prop :=
 fs.length = n * k ∧ n ≤ 2097152 ∧ (n = 0 ∨ ∃ b o, a = some ⟨b, o, none⟩ ∧ ∀ i, i < n * k → w.cell? ⟨b, o + i, none⟩ = some (I (fs.getD i 0)))
theorem KAt.below {k : Nat} {w w' : World} {a : Option Addr} {n : Nat} {fs : List Int} (h : KAt k w a n fs) {B : Nat} (hb : Below B w w') (hB : w.heap.size ≤ B) : KAt k w' a n fs := by
 obtain ⟨h1, h2, h3 | ⟨b, o, h3, h4⟩⟩ := h
 · exact ⟨h1, h2, .inl h3⟩
 · refine ⟨h1, h2, .inr ⟨b, o, h3, fun i hi => ?_⟩⟩
   have h5 := h4 i hi
   rw [hb.cell (show b < B from Nat.lt_of_lt_of_le (World.block_lt_of_cell? w _ h5) hB)]
   exact h5
theorem KAt.nilE {k : Nat} {w : World} {n : Nat} {es : List Int} (h : KAt k w none n es) : n = 0 ∧ es = [] := by
 have h0 : n = 0 := by
   rcases h.2.2 with h0 | ⟨_, _, he, _⟩
   · exact h0
   · cases he
 exact ⟨h0, List.length_eq_zero_iff.1 (by have := h.1; rw [h0] at this; simpa using this)⟩
theorem KAt.cut {k m : Nat} {w : World} {a : Option Addr} {n : Nat} {fs : List Int} (h : KAt k w a n fs) (hm : m ≤ n) : KAt k w a m (fs.take (m * k)) := by
 have hl : m * k ≤ n * k := Nat.mul_le_mul_right k hm
 refine ⟨by rw [List.length_take, h.1]; omega, Nat.le_trans hm h.2.1, ?_⟩
 rcases h.2.2 with h0 | ⟨b, o, e, g⟩
 · exact .inl (by omega)
 · refine .inr ⟨b, o, e, fun i hi => ?_⟩
   rw [g i (by omega)]
   simp [List.getD, hi]
theorem Asc.two {zs : List Int} {k q : Int} {j : Nat} (h : Asc zs k (j * 2)) (hl : j * 2 + 1 < zs.length) (hq : k + (j : Int) * 2 = q) : Asc (List.set (List.set zs (j * 2) (q)) (j * 2 + 1) (q + 1)) k ((j + 1) * 2) := by
 intro i hi
 by_cases e1 : i = j * 2 + 1
 · subst e1
   rw [List.getElem?_set_self (by (try simp only [List.length_set]); omega)]
   congr 1; push_cast; omega
 rw [List.getElem?_set_ne (by omega)]
 by_cases e0 : i = j * 2
 · subst e0
   rw [List.getElem?_set_self (by (try simp only [List.length_set]); omega)]
   congr 1; push_cast; omega
 rw [List.getElem?_set_ne (by omega)]
 exact h i (by omega)
theorem Asc.four {zs : List Int} {k q : Int} {j : Nat} (h : Asc zs k (j * 4)) (hl : j * 4 + 3 < zs.length) (hq : k + (j : Int) * 4 = q) : Asc (List.set (List.set (List.set (List.set zs (j * 4) (q)) (j * 4 + 1) (q + 1)) (j * 4 + 2) (q + 1 + 1)) (j * 4 + 3) (q + 1 + 1 + 1)) k ((j + 1) * 4) := by
 intro i hi
 by_cases e3 : i = j * 4 + 3
 · subst e3
   rw [List.getElem?_set_self (by (try simp only [List.length_set]); omega)]
   congr 1; push_cast; omega
 rw [List.getElem?_set_ne (by omega)]
 by_cases e2 : i = j * 4 + 2
 · subst e2
   rw [List.getElem?_set_self (by (try simp only [List.length_set]); omega)]
   congr 1; push_cast; omega
 rw [List.getElem?_set_ne (by omega)]
 by_cases e1 : i = j * 4 + 1
 · subst e1
   rw [List.getElem?_set_self (by (try simp only [List.length_set]); omega)]
   congr 1; push_cast; omega
 rw [List.getElem?_set_ne (by omega)]
 by_cases e0 : i = j * 4
 · subst e0
   rw [List.getElem?_set_self (by (try simp only [List.length_set]); omega)]
   congr 1; push_cast; omega
 rw [List.getElem?_set_ne (by omega)]
 exact h i (by omega)
end
section
open Go.ChangeShapes Go.WideShapes Go.ChangeAt Go.RowKit
def inB (x lo hi : Int) : Bool := decide (lo ≤ x ∧ x ≤ hi)
theorem inB_yes {x lo hi : Int} (h : lo ≤ x ∧ x ≤ hi) : inB x lo hi = true := decide_eq_true h
theorem inB_no {x lo hi : Int} (h : ¬ (lo ≤ x ∧ x ≤ hi)) : inB x lo hi = false := decide_eq_false h
theorem inB_val {x lo hi : Int} (h : inB x lo hi = true) : lo ≤ x ∧ x ≤ hi := by unfold inB at h; simpa using h
theorem l1In_g (x lo hi : Int) (w : World) : Calls Tryz.prog 39 #[.int .i64 x, .int .i64 lo, .int .i64 hi] w fun e w' => e = .returned (.bool (inB x lo hi)) ∧ w' = w := by
 by_cases h0 : lo ≤ x
 · by_cases h1 : x ≤ hi
   · rw [inB_yes ⟨h0, h1⟩]
     go_enter Tryz.func39, Tryz.ntmps39
     go_wp2
     go_ret
     exact ⟨rfl, rfl⟩
   · rw [inB_no (fun h => h1 h.2)]
     go_enter Tryz.func39, Tryz.ntmps39
     go_wp2
     go_ret
     exact ⟨rfl, rfl⟩
 · rw [inB_no (fun h => h0 h.1)]
   go_enter Tryz.func39, Tryz.ntmps39
   go_wp2
   go_ret
   exact ⟨rfl, rfl⟩
end
section
open Go.ChangeShapes Go.WideShapes Go.ChangeAt Go.RowKit Go.Joins
structure ThD where
 n0 : Nat
 fs : List Int
 pc : Int
 on : Bool
 n1 : Nat
 gs : List Int
 n2 : Nat
 hs : List Int
structure CaD where
 t : Int
 kd : Int
 k : Int
 v : Int
 st : Int
 ln : Int
 en : Int
 cd : Int
structure ThL (w : World) (a0 a1 a2 : Option Addr) (t : ThD) : Prop where
 ops : KAt 3 w a0 t.n0 t.fs
 got : KAt 2 w a1 t.n1 t.gs
 stk : KAt 4 w a2 t.n2 t.hs
theorem ThL.below {w w' : World} {a0 a1 a2 : Option Addr} {t : ThD} (h : ThL w a0 a1 a2 t) {B : Nat} (hb : Below B w w') (hB : w.heap.size ≤ B) : ThL w' a0 a1 a2 t :=
 ⟨h.ops.below hb hB, h.got.below hb hB, h.stk.below hb hB⟩
def ThC (w : World) (b p : Nat) (t : ThD) (a0 : Option Addr) (c0 : Nat) (a1 : Option Addr) (c1 : Nat) (a2 : Option Addr) (c2 : Nat) : Prop :=
 w.cell? ⟨b, p, none⟩ = some (.slice a0 t.n0 c0) ∧ w.cell? ⟨b, p + 1, none⟩ = some (I t.pc) ∧ w.cell? ⟨b, p + 2, none⟩ = some (.bool t.on) ∧ w.cell? ⟨b, p + 3, none⟩ = some (.slice a1 t.n1 c1) ∧ w.cell? ⟨b, p + 4, none⟩ = some (.slice a2 t.n2 c2)
theorem ThC.below {w w' : World} {b p : Nat} {t : ThD} {a0 a1 a2 : Option Addr} {c0 c1 c2 : Nat} (h : ThC w b p t a0 c0 a1 c1 a2 c2) {B : Nat} (hb : Below B w w') (hB : w.heap.size ≤ B) : ThC w' b p t a0 c0 a1 c1 a2 c2 := by
 have hlt : b < B := Nat.lt_of_lt_of_le (World.block_lt_of_cell? w _ h.1) hB
 obtain ⟨h0, h1, h2, h3, h4⟩ := h
 exact ⟨(hb.cell hlt).trans h0, (hb.cell hlt).trans h1, (hb.cell hlt).trans h2, (hb.cell hlt).trans h3, (hb.cell hlt).trans h4⟩
def ThsAt (w : World) (a : Option Addr) (n : Nat) (ts : Nat → ThD) : Prop :=
 n ≤ 2097152 ∧ (n = 0 ∨ ∃ b o, a = some ⟨b, o, none⟩ ∧ ∀ i, i < n → ∃ a0 c0 a1 c1 a2 c2, ThC w b (o + i * 5) (ts i) a0 c0 a1 c1 a2 c2 ∧ ThL w a0 a1 a2 (ts i) ∧ (ts i).n0 ≤ c0 ∧ (ts i).n1 ≤ c1 ∧ (ts i).n2 ≤ c2)
theorem ThsAt.below {w w' : World} {a : Option Addr} {n : Nat} {ts : Nat → ThD} (h : ThsAt w a n ts) {B : Nat} (hb : Below B w w') (hB : w.heap.size ≤ B) : ThsAt w' a n ts := by
 obtain ⟨h1, h2 | ⟨b, o, h3, h4⟩⟩ := h
 · exact ⟨h1, .inl h2⟩
 · refine ⟨h1, .inr ⟨b, o, h3, fun i hi => ?_⟩⟩
   obtain ⟨a0, c0, a1, c1, a2, c2, h5, h6, h7⟩ := h4 i hi
   exact ⟨a0, c0, a1, c1, a2, c2, h5.below hb hB, h6.below hb hB, h7⟩
def CaC (w : World) (b p : Nat) (c : CaD) (v : Value) : Prop :=
 w.cell? ⟨b, p, none⟩ = some (I c.t) ∧ w.cell? ⟨b, p + 1, none⟩ = some (I c.kd) ∧ w.cell? ⟨b, p + 2, none⟩ = some (I c.k) ∧ w.cell? ⟨b, p + 3, none⟩ = some (I c.v) ∧ w.cell? ⟨b, p + 4, none⟩ = some (I c.st) ∧ w.cell? ⟨b, p + 5, none⟩ = some (I c.ln) ∧ w.cell? ⟨b, p + 6, none⟩ = some (I c.en) ∧ w.cell? ⟨b, p + 7, none⟩ = some (I c.cd) ∧ w.cell? ⟨b, p + 8, none⟩ = some v
theorem CaC.below {w w' : World} {b p : Nat} {c : CaD} {v : Value} (h : CaC w b p c v) {B : Nat} (hb : Below B w w') (hB : w.heap.size ≤ B) : CaC w' b p c v := by
 have hlt : b < B := Nat.lt_of_lt_of_le (World.block_lt_of_cell? w _ h.1) hB
 obtain ⟨h0, h1, h2, h3, h4, h5, h6, h7, h8⟩ := h
 exact ⟨(hb.cell hlt).trans h0, (hb.cell hlt).trans h1, (hb.cell hlt).trans h2, (hb.cell hlt).trans h3, (hb.cell hlt).trans h4, (hb.cell hlt).trans h5, (hb.cell hlt).trans h6, (hb.cell hlt).trans h7, (hb.cell hlt).trans h8⟩
abbrev CaV (c : CaD) (v : Value) : Value := .agg #[.int .i64 c.t, .int .i64 c.kd, .int .i64 c.k, .int .i64 c.v, .int .i64 c.st, .int .i64 c.ln, .int .i64 c.en, .int .i64 c.cd, v]
abbrev CaA (c : CaD) (v : Value) : Array Value := #[.int .i64 c.t, .int .i64 c.kd, .int .i64 c.k, .int .i64 c.v, .int .i64 c.st, .int .i64 c.ln, .int .i64 c.en, .int .i64 c.cd, v]
def CasAt (w : World) (a : Option Addr) (n : Nat) (f : Nat → CaD) : Prop :=
 n ≤ 2097152 ∧ (n = 0 ∨ ∃ b o, a = some ⟨b, o, none⟩ ∧ ∀ i, i < n → ∃ ra rn rc, CaC w b (o + i * 9) (f i) (.slice ra rn rc))
theorem CasAt.below {w w' : World} {a : Option Addr} {n : Nat} {f : Nat → CaD} (h : CasAt w a n f) {B : Nat} (hb : Below B w w') (hB : w.heap.size ≤ B) : CasAt w' a n f := by
 obtain ⟨h1, h2 | ⟨b, o, h3, h4⟩⟩ := h
 · exact ⟨h1, .inl h2⟩
 · refine ⟨h1, .inr ⟨b, o, h3, fun i hi => ?_⟩⟩
   obtain ⟨ra, rn, rc, h5⟩ := h4 i hi
   exact ⟨ra, rn, rc, h5.below hb hB⟩
def OpAt (fs : List Int) (i : Nat) : Prop := OpGood (fs.getD (i * 3) 0) (fs.getD (i * 3 + 1) 0) (fs.getD (i * 3 + 2) 0)
instance (fs : List Int) (i : Nat) : Decidable (OpAt fs i) := by unfold OpAt; infer_instance
def GotAt (gs : List Int) (i : Nat) : Bool := inB (gs.getD (i * 2) 0) 0 19 && inB (gs.getD (i * 2 + 1) 0) 0 1000
def HelpAt (hs : List Int) (n : Nat) (i : Nat) : Bool := inB (hs.getD (i * 4) 0) 0 ((n : Int) - 1) && (inB (hs.getD (i * 4 + 1) 0) 1 1000000 && (inB (hs.getD (i * 4 + 2) 0) 0 20 && inB (hs.getD (i * 4 + 3) 0) 0 20))
structure ThGood (t : ThD) (n : Nat) : Prop where
 few : t.n0 ≤ 8
 pc : 0 ≤ t.pc ∧ t.pc ≤ t.n0
 on : t.on = true → t.pc < t.n0
 off : t.on = false → t.n1 = 0 ∧ t.n2 = 0
 got : t.n1 ≤ 12
 stk : t.n2 ≤ 2
 ops : ∀ i, i < t.n0 → OpAt t.fs i
 gots : ∀ i, i < t.n1 → GotAt t.gs i = true
 stks : ∀ i, i < t.n2 → HelpAt t.hs n i = true
def MomGood (x st tm : Int) : Bool := x == -1 || inB x st tm
def CaGood (n : Nat) (tm : Int) (c : CaD) : Bool := inB c.t 0 ((n : Int) - 1) && (decide (OpGood c.kd c.k c.v) && (inB c.st 0 tm && (MomGood c.ln c.st tm && MomGood c.en c.st tm)))
def soN (f : Nat → CaD) : Nat → Nat
 | 0 => 0
 | n + 1 => soN f n + if 0 ≤ (f n).ln then 1 else 0
theorem soN_le (f : Nat → CaD) : ∀ n, soN f n ≤ n
 | 0 => Nat.le_refl _
 | n + 1 => by have := soN_le f n; unfold soN; split <;> omega
def linAt (f : Nat → CaD) (os : List Int) (i : Nat) : Int := (f (os.getD i 0).toNat).ln
def OrdAt (f : Nat → CaD) (nc : Nat) (os : List Int) (i : Nat) : Prop :=
 inB (os.getD i 0) 0 ((nc : Int) - 1) = true ∧ 0 ≤ linAt f os i ∧ (0 < i → linAt f os (i - 1) ≤ linAt f os i) ∧ ∀ j, j < i → os.getD j 0 ≠ os.getD i 0
structure CallsGood (f : Nat → CaD) (nc : Nat) (os : List Int) (no nt : Nat) (tm : Int) : Prop where
 each : ∀ i, i < nc → CaGood nt tm (f i) = true
 ord : ∀ i, i < no → OrdAt f nc os i
 few : nc ≤ 40
 all : soN f nc = no
def callsL (f : Nat → CaD) (t : Int) : Nat → List CaD
 | 0 => []
 | n + 1 => callsL f t n ++ if (f n).t = t then [f n] else []
def TaskGood (x : ThD) (L : List CaD) : Prop :=
 if x.on = true then ∃ L' c, L = L' ++ [c] ∧ (c.kd = x.fs.getD (x.pc.toNat * 3) 0 ∧ c.k = x.fs.getD (x.pc.toNat * 3 + 1) 0 ∧ c.v = x.fs.getD (x.pc.toNat * 3 + 2) 0) ∧ c.en = -1 ∧ (L'.length : Int) = x.pc ∧ ∀ d ∈ L', 0 ≤ d.en
 else (L.length : Int) = x.pc ∧ ∀ d ∈ L, 0 ≤ d.en
def lastN (f : Nat → CaD) (t : Int) : Nat → Int
 | 0 => -1
 | n + 1 => if (f n).t = t then (n : Int) else lastN f t n
theorem lastN_lt (f : Nat → CaD) (t : Int) : ∀ n, -1 ≤ lastN f t n ∧ lastN f t n < (n : Int)
 | 0 => by unfold lastN; omega
 | n + 1 => by have := lastN_lt f t n; unfold lastN; split <;> omega
def endN (f : Nat → CaD) (t : Int) : Nat → Nat
 | 0 => 0
 | n + 1 => endN f t n + if (f n).t = t ∧ 0 ≤ (f n).en then 1 else 0
theorem endN_le (f : Nat → CaD) (t : Int) : ∀ n, endN f t n ≤ n
 | 0 => Nat.le_refl _
 | n + 1 => by have := endN_le f t n; unfold endN; split <;> omega
structure TaskSpec (f : Nat → CaD) (nc : Nat) (t : Int) (x : ThD) : Prop where
 ends : ∀ i, i < nc → (f i).t = t → 0 ≤ (f i).en ∨ (x.on = true ∧ (i : Int) = lastN f t nc)
 pc : (endN f t nc : Int) = x.pc
 last : x.on = true → 0 ≤ lastN f t nc ∧ (f (lastN f t nc).toNat).en = -1 ∧ ((f (lastN f t nc).toNat).kd = x.fs.getD (x.pc.toNat * 3) 0 ∧ (f (lastN f t nc).toNat).k = x.fs.getD (x.pc.toNat * 3 + 1) 0 ∧ (f (lastN f t nc).toNat).v = x.fs.getD (x.pc.toNat * 3 + 2) 0)
theorem callsL_mem {f : Nat → CaD} {t : Int} : ∀ {n : Nat} {d : CaD}, d ∈ callsL f t n ↔ ∃ i, i < n ∧ (f i).t = t ∧ f i = d
 | 0, d => by simp [callsL]
 | n + 1, d => by
   unfold callsL
   rw [List.mem_append, callsL_mem]
   constructor
   · rintro (⟨i, hi, h1, h2⟩ | h)
     · exact ⟨i, by omega, h1, h2⟩
     · split at h
       · rename_i ht
         exact ⟨n, by omega, ht, (List.mem_singleton.1 h).symm⟩
       · simp at h
   · rintro ⟨i, hi, h1, h2⟩
     by_cases hin : i < n
     · exact .inl ⟨i, hin, h1, h2⟩
     · obtain rfl : i = n := by omega
       exact .inr (by rw [if_pos h1, h2]; exact List.mem_singleton.2 rfl)
theorem callsL_last {f : Nat → CaD} {t : Int} : ∀ {n : Nat}, (lastN f t n = -1 ∧ callsL f t n = []) ∨ (0 ≤ lastN f t n ∧ (f (lastN f t n).toNat).t = t ∧ callsL f t n = callsL f t (lastN f t n).toNat ++ [f (lastN f t n).toNat])
 | 0 => .inl ⟨rfl, rfl⟩
 | n + 1 => by
   by_cases h : (f n).t = t
   · have e : lastN f t (n + 1) = (n : Int) := by simp [lastN, h]
     have e2 : callsL f t (n + 1) = callsL f t n ++ [f n] := by simp [callsL, h]
     rw [e, e2]
     exact .inr ⟨by omega, by simpa using h, by simp⟩
   · have e : lastN f t (n + 1) = lastN f t n := by simp [lastN, h]
     have e2 : callsL f t (n + 1) = callsL f t n := by simp [callsL, h]
     rw [e, e2]
     exact callsL_last
theorem endN_len {f : Nat → CaD} {t : Int} : ∀ {n : Nat}, (∀ i, i < n → (f i).t = t → 0 ≤ (f i).en) → endN f t n = (callsL f t n).length
 | 0, _ => rfl
 | n + 1, h => by
   unfold endN callsL
   rw [List.length_append, endN_len fun i hi => h i (by omega)]
   by_cases ht : (f n).t = t
   · simp [ht, h n (by omega) ht]
   · simp [ht]
theorem endN_top {f : Nat → CaD} {t : Int} {m : Nat} : ∀ {n : Nat}, m ≤ n → (∀ i, m ≤ i → i < n → (f i).t ≠ t ∨ (f i).en < 0) → endN f t n = endN f t m
 | 0, h, _ => by
   have e : m = 0 := by omega
   rw [e]
 | n + 1, h, g => by
   by_cases hm : m = n + 1
   · rw [hm]
   · have h1 := g n (by omega) (by omega)
     have e : endN f t (n + 1) = endN f t n := by
       rw [endN, if_neg (by omega)]
       omega
     rw [e, endN_top (by omega) fun i hi hn => g i hi (by omega)]
theorem lastN_top {f : Nat → CaD} {t : Int} : ∀ {n i : Nat}, i < n → (f i).t = t → (i : Int) ≤ lastN f t n
 | 0, i, h, _ => by omega
 | n + 1, i, h, ht => by
   unfold lastN
   split
   · omega
   · rename_i hn
     have : i ≠ n := fun e => hn (by rw [← e]; exact ht)
     exact lastN_top (by omega) ht
theorem task_iff {f : Nat → CaD} {nc : Nat} {t : Int} {x : ThD} : TaskSpec f nc t x ↔ TaskGood x (callsL f t nc) := by
 have hlast := lastN_lt f t nc
 rcases hon : x.on with _ | _
 · unfold TaskGood
   rw [hon, if_neg (by simp)]
   constructor
   · rintro ⟨h1, h2, -⟩
     have hall : ∀ i, i < nc → (f i).t = t → 0 ≤ (f i).en := fun i hi ht => by
       rcases h1 i hi ht with h | ⟨h, -⟩
       · exact h
       · rw [hon] at h; cases h
     refine ⟨by rw [← endN_len hall]; exact h2, fun d hd => ?_⟩
     obtain ⟨i, hi, ht, rfl⟩ := callsL_mem.1 hd
     exact hall i hi ht
   · rintro ⟨h1, h2⟩
     have hall : ∀ i, i < nc → (f i).t = t → 0 ≤ (f i).en := fun i hi ht => h2 _ (callsL_mem.2 ⟨i, hi, ht, rfl⟩)
     exact ⟨fun i hi ht => .inl (hall i hi ht), by rw [endN_len hall]; exact h1, fun h => by rw [hon] at h; cases h⟩
 · unfold TaskGood
   rw [hon, if_pos rfl]
   constructor
   · rintro ⟨h1, h2, h3⟩
     obtain ⟨h4, h5, h6⟩ := h3 hon
     rcases callsL_last (f := f) (t := t) (n := nc) with ⟨h, -⟩ | ⟨-, h7, h8⟩
     · omega
     have hall : ∀ i, i < (lastN f t nc).toNat → (f i).t = t → 0 ≤ (f i).en := fun i hi ht => by
       rcases h1 i (by omega) ht with h | ⟨-, h⟩
       · exact h
       · omega
     refine ⟨_, _, h8, h6, h5, ?_, fun d hd => ?_⟩
     · rw [← endN_len hall, ← h2]
       have := endN_top (f := f) (t := t) (m := (lastN f t nc).toNat) (n := nc) (by omega) fun i hi hn => by
         by_cases ht : (f i).t = t
         · have := lastN_top hn ht
           obtain rfl : i = (lastN f t nc).toNat := by omega
           exact .inr (by omega)
         · exact .inl ht
       omega
     · obtain ⟨i, hi, ht, rfl⟩ := callsL_mem.1 hd
       exact hall i hi ht
   · rintro ⟨L', c, hL, hop, hen, hlen, hall⟩
     rcases callsL_last (f := f) (t := t) (n := nc) with ⟨-, h⟩ | ⟨h6, h7, h8⟩
     · rw [h] at hL; simp at hL
     rw [h8] at hL
     obtain ⟨e1, e2⟩ := List.append_inj' hL rfl
     have e2 : f (lastN f t nc).toNat = c := by simpa using e2
     have hall' : ∀ i, i < (lastN f t nc).toNat → (f i).t = t → 0 ≤ (f i).en := fun i hi ht => hall _ (by rw [← e1]; exact callsL_mem.2 ⟨i, hi, ht, rfl⟩)
     refine ⟨fun i hi ht => ?_, ?_, fun _ => ⟨h6, by rw [e2]; exact hen, by rw [e2]; exact hop⟩⟩
     · have := lastN_top hi ht
       by_cases h : i < (lastN f t nc).toNat
       · exact .inl (hall' i h ht)
       · exact .inr ⟨hon, by omega⟩
     · rw [← hlen, ← e1, ← endN_len hall']
       have := endN_top (f := f) (t := t) (m := (lastN f t nc).toNat) (n := nc) (by omega) fun i hi hn => by
         by_cases ht : (f i).t = t
         · have := lastN_top hn ht
           obtain rfl : i = (lastN f t nc).toNat := by omega
           exact .inr (by rw [e2]; omega)
         · exact .inl ht
       omega
end
end Go.Proofs.YtbfolanfbagofaaGreatDoor
