/- Schemas as they lie in memory, and in plain words. No program. -/
import Derived.Test.YtmgofehafjogfabStr
import Derived.Test.YtmgofehafjogfabIntAt
import Derived.Test.YtmgofehafjogfabBoxN
import Derived.Test.YtmgofehafjogfabVasL
namespace Go.Proofs.Ytmgofehafjogfab
open Go.ChangeShapes Go.WideShapes Go.ChangeAt Go.RowKit

/-- A column: its name, its kind, whether it may be nothing. An index: its name, its places, whether it is of one alone. -/
abbrev Col3 := ByteArray × Int × Bool
abbrev Idx3 := ByteArray × List Int × Bool
instance : Inhabited Col3 := ⟨(⟨#[]⟩, 0, false)⟩
instance : Inhabited Idx3 := ⟨(⟨#[]⟩, [], false)⟩
structure SchD where
  cols : List Col3
  key : List Int
  idx : List Idx3
def ColsAt (w : World) (a : Option Addr) (n : Nat) (L : List Col3) : Prop :=
  L.length = n ∧ n ≤ 2097152 ∧ (n = 0 ∨ ∃ b o, a = some ⟨b, o, none⟩ ∧ ∀ i x, L[i]? = some x → w.cell? ⟨b, o + i * 3, none⟩ = some (.string x.1) ∧ w.cell? ⟨b, o + i * 3 + 1, none⟩ = some (.int .i64 x.2.1) ∧ w.cell? ⟨b, o + i * 3 + 2, none⟩ = some (.bool x.2.2))
theorem ColsAt.below {w w' : World} {a : Option Addr} {n : Nat} {L : List Col3} (h : ColsAt w a n L) {B : Nat} (hb : Below B w w') (hB : w.heap.size ≤ B) : ColsAt w' a n L := by
  obtain ⟨h1, h2, h3 | ⟨b, o, h3, h4⟩⟩ := h
  · exact ⟨h1, h2, .inl h3⟩
  · refine ⟨h1, h2, .inr ⟨b, o, h3, fun i x hi => ?_⟩⟩
    obtain ⟨h5, h6, h7⟩ := h4 i x hi
    have hlt : b < B := Nat.lt_of_lt_of_le (World.block_lt_of_cell? w _ h5) hB
    exact ⟨(hb.cell hlt).trans h5, (hb.cell hlt).trans h6, (hb.cell hlt).trans h7⟩
def IdxAt (w : World) (a : Option Addr) (n : Nat) (L : List Idx3) : Prop :=
  L.length = n ∧ n ≤ 2097152 ∧ (n = 0 ∨ ∃ b o, a = some ⟨b, o, none⟩ ∧ ∀ i x, L[i]? = some x → w.cell? ⟨b, o + i * 3, none⟩ = some (.string x.1) ∧ (∃ ai ni ci, w.cell? ⟨b, o + i * 3 + 1, none⟩ = some (.slice ai ni ci) ∧ ni ≤ ci ∧ ni ≤ 2097152 ∧ IntAt w ai ni x.2.1) ∧ w.cell? ⟨b, o + i * 3 + 2, none⟩ = some (.bool x.2.2))
theorem IdxAt.below {w w' : World} {a : Option Addr} {n : Nat} {L : List Idx3} (h : IdxAt w a n L) {B : Nat} (hb : Below B w w') (hB : w.heap.size ≤ B) : IdxAt w' a n L := by
  obtain ⟨h1, h2, h3 | ⟨b, o, h3, h4⟩⟩ := h
  · exact ⟨h1, h2, .inl h3⟩
  · refine ⟨h1, h2, .inr ⟨b, o, h3, fun i x hi => ?_⟩⟩
    obtain ⟨h5, h6, h7⟩ := h4 i x hi
    have hlt : b < B := Nat.lt_of_lt_of_le (World.block_lt_of_cell? w _ h5) hB
    obtain ⟨ai, ni, ci, g1, g2, g3, g4⟩ := h6
    exact ⟨(hb.cell hlt).trans h5, ⟨ai, ni, ci, (hb.cell hlt).trans g1, g2, g3, g4.below hb hB⟩, (hb.cell hlt).trans h7⟩
/-- A schema as it is handed over. -/
abbrev ScV (a1 : Option Addr) (n1 c1 : Nat) (a2 : Option Addr) (n2 c2 : Nat) (a3 : Option Addr) (n3 c3 : Nat) : Value := .agg #[.slice a1 n1 c1, .slice a2 n2 c2, .slice a3 n3 c3]
structure SchAt (w : World) (a1 : Option Addr) (n1 c1 : Nat) (a2 : Option Addr) (n2 c2 : Nat) (a3 : Option Addr) (n3 c3 : Nat) (S : SchD) : Prop where
  cols : ColsAt w a1 n1 S.cols
  key : IntAt w a2 n2 S.key
  idx : IdxAt w a3 n3 S.idx
  r1 : n1 ≤ c1
  r2 : n2 ≤ c2
  r3 : n3 ≤ c3
  k2 : n2 ≤ 2097152
theorem SchAt.below {w w' : World} {a1 a2 a3 : Option Addr} {n1 c1 n2 c2 n3 c3 : Nat} {S : SchD} (h : SchAt w a1 n1 c1 a2 n2 c2 a3 n3 c3 S) {B : Nat} (hb : Below B w w') (hB : w.heap.size ≤ B) : SchAt w' a1 n1 c1 a2 n2 c2 a3 n3 c3 S :=
  ⟨h.cols.below hb hB, h.key.below hb hB, h.idx.below hb hB, h.r1, h.r2, h.r3, h.k2⟩

/-- 1 to 12 bytes a to z. -/
def lowB (b : UInt8) : Prop := 97 ≤ b.toNat ∧ b.toNat ≤ 122
instance (b : UInt8) : Decidable (lowB b) := by unfold lowB; infer_instance
def CnGood (s : ByteArray) : Prop := (∀ b ∈ s.data.toList, lowB b) ∧ 1 ≤ s.size ∧ s.size ≤ 12
instance (s : ByteArray) : Decidable (CnGood s) := by unfold CnGood; infer_instance
/-- Places of columns, no two alike, at least one, at most so many. -/
def PlGood (nc : Nat) (l : List Int) (most : Nat) : Prop := (∀ x ∈ l, 0 ≤ x ∧ x < (nc : Int)) ∧ l.Nodup ∧ 1 ≤ l.length ∧ l.length ≤ most
instance (nc : Nat) (l : List Int) (most : Nat) : Decidable (PlGood nc l most) := by unfold PlGood; infer_instance
/-- The first column of that name; -1. -/
def colAt : List Col3 → ByteArray → Int
  | [], _ => -1
  | x :: L, s => if x.1 = s then 0 else if colAt L s = -1 then -1 else colAt L s + 1
def IxGood (nc : Nat) (L : List Idx3) : Prop := (∀ x ∈ L, CnGood x.1 ∧ PlGood nc x.2.1 3) ∧ (L.map (·.1)).Nodup ∧ L.length ≤ 3
instance (nc : Nat) (L : List Idx3) : Decidable (IxGood nc L) := by unfold IxGood; infer_instance
/-- A column that may not be nothing. -/
def fast (L : List Col3) (x : Int) : Prop := (L.getD x.toNat default).2.2 = false
instance (L : List Col3) (x : Int) : Decidable (fast L x) := by unfold fast; infer_instance
def ScGood (S : SchD) : Prop :=
  (∀ x ∈ S.cols, CnGood x.1 ∧ 1 ≤ x.2.1 ∧ x.2.1 ≤ 3) ∧ (S.cols.map (·.1)).Nodup ∧ (1 ≤ S.cols.length ∧ S.cols.length ≤ 5) ∧ PlGood S.cols.length S.key 4 ∧ IxGood S.cols.length S.idx ∧ ∀ x ∈ S.key, fast S.cols x
instance (S : SchD) : Decidable (ScGood S) := by unfold ScGood; infer_instance
theorem col_none : ∀ (L : List Col3) (s : ByteArray), (∀ x ∈ L, ¬ x.1 = s) → colAt L s = -1
  | [], s, _ => rfl
  | x :: L, s, h => by
    rw [colAt, if_neg (h x (by simp)), if_pos (col_none L s fun y hy => h y (by simp [hy]))]
theorem col_at : ∀ (L : List Col3) (s : ByteArray) (j : Nat) (x : Col3), L[j]? = some x → x.1 = s → (∀ y ∈ L.take j, ¬ y.1 = s) → colAt L s = (j : Int)
  | [], s, j, x, h, _, _ => by simp at h
  | y :: L, s, 0, x, h, e, _ => by
    simp at h
    subst h
    rw [colAt, if_pos e]
    rfl
  | y :: L, s, j + 1, x, h, e, hn => by
    have h1 := col_at L s j x (by simpa using h) e (fun z hz => hn z (by simp [hz]))
    rw [colAt, if_neg (hn y (by simp)), h1, if_neg (by omega)]
    push_cast
    rfl
theorem col_lt : ∀ (L : List Col3) (s : ByteArray) (j : Nat), (∃ y ∈ L.take j, y.1 = s) → 0 ≤ colAt L s ∧ colAt L s < (j : Int)
  | [], s, j, ⟨y, hy, _⟩ => by simp at hy
  | x :: L, s, 0, ⟨y, hy, _⟩ => by simp at hy
  | x :: L, s, j + 1, ⟨y, hy, he⟩ => by
    rw [colAt]
    by_cases hx : x.1 = s
    · rw [if_pos hx]; omega
    · rw [if_neg hx]
      rw [List.take_succ_cons] at hy
      rcases List.mem_cons.1 hy with rfl | hy
      · exact absurd he hx
      · have h1 := col_lt L s j ⟨y, hy, he⟩
        rw [if_neg (by omega)]
        omega
theorem col_self (L : List Col3) (j : Nat) (x : Col3) (h : L[j]? = some x) : colAt L x.1 = (j : Int) ↔ ∀ y ∈ L.take j, ¬ y.1 = x.1 := by
  constructor
  · intro hc y hy he
    have h1 := col_lt L x.1 j ⟨y, hy, he⟩
    omega
  · exact fun hn => col_at L x.1 j x h rfl hn
theorem take_all {α : Type} {p : α → Prop} {L : List α} {j : Nat} {x : α} (h : ∀ y ∈ L.take j, p y) (hx : L[j]? = some x) (px : p x) : ∀ y ∈ L.take (j + 1), p y := by
  intro y hy
  rw [List.take_add_one, hx] at hy
  rcases List.mem_append.1 hy with h1 | h1
  · exact h y h1
  · simp at h1
    subst h1
    exact px
theorem take_nodup {α : Type} {L : List α} {j : Nat} {x : α} (h : (L.take j).Nodup) (hx : L[j]? = some x) (hn : ∀ y ∈ L.take j, ¬ y = x) : (L.take (j + 1)).Nodup := by
  rw [List.take_add_one, hx]
  refine List.nodup_append.2 ⟨h, by simp, ?_⟩
  intro a ha b hb
  simp at hb
  subst hb
  exact hn a ha
theorem nodup_take {α : Type} {L : List α} {j : Nat} {x : α} (h : L.Nodup) (hx : L[j]? = some x) : ∀ y ∈ L.take j, ¬ y = x := by
  intro y hy e
  have hlt := (List.getElem?_eq_some_iff.1 hx).1
  obtain ⟨i, hi, hyi⟩ := List.getElem_of_mem hy
  rw [List.length_take] at hi
  rw [List.getElem_take] at hyi
  have h1 := (List.getElem?_eq_some_iff.1 hx).2
  have h3 := List.pairwise_iff_getElem.1 h i j (by omega) hlt (by omega)
  exact h3 (by rw [hyi, h1, e])
end Go.Proofs.Ytmgofehafjogfab
