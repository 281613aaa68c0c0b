/- Texts joined: Hold, Range3, ImplRows, SpecRows, MchG, MchC, WfD, MchB, CallT, DatT, DatU, DatV, DatE, DatG, DatS, DatP. -/
import Derived.Test.YtkbodiggdajbeaaDoorRows
import Derived.Test.YtkbodiggdajbeaaDoorCT01
import Derived.WalkKit
import Derived.ProofKit
import Derived.WalkSmall
import Derived.WalkSpells
import Derived.OpenShut
import Derived.Maps.OwnRows
import Derived.Maps.OwnSet
import Derived.Maps.RangeWalk
import Derived.Maps.Views
import Derived.Test.YtkbodiggdajbeaaDoorCT02
import Derived.Deep.RegionWith
import Derived.Deep.QuietTactic
import Derived.BigQuiet
import Derived.Test.YtkbodiggdajbeaaDoorCT04
import Derived.Deep.RegionHeld3
import Derived.Deep.Cut
import Derived.Handy
/- impl.holdersOf, walked at four numbers: a new map of its own that has, at each number but nought that is held, the keys that hold it, rising. -/
namespace Go.Proofs.YtkbodiggdajbeaaDoor
open Go.ChangeShapes Go.WideShapes Go.ChangeAt Go.RowKit Go.Maps

theorem mapLaw : Keyed Tryd.prog 3 := int_keyed Tryd.underlying3
theorem zeroInts (w : World) : (zeroValue 24).run Tryd.prog w = .ok (.slice none 0 0) w := by kernel_rfl

/-- Which of the first k places hold x. -/
def posK (xs : List Int) (k : Nat) (x : Int) : List Int := ((List.range k).filter fun i => xs.getD i 0 == x).map fun (i : Nat) => (i : Int)
theorem posK_zero (xs : List Int) (x : Int) : posK xs 0 x = [] := rfl
theorem posK_same {xs : List Int} {k : Nat} {x : Int} (h : xs.getD k 0 = x) : posK xs (k + 1) x = posK xs k x ++ [(k : Int)] := by
  simp only [posK, List.range_succ, List.filter_append, List.map_append]
  rw [List.filter_cons_of_pos (by simpa using h)]
  rfl
theorem posK_other {xs : List Int} {k : Nat} {x : Int} (h : xs.getD k 0 ≠ x) : posK xs (k + 1) x = posK xs k x := by
  simp only [posK, List.range_succ, List.filter_append, List.map_append]
  rw [List.filter_cons_of_neg (by simpa using h)]
  simp

section
variable {H : Type}
/-- What a list of keys reads as. -/
def rowOf : List Int → DataW H
  | [] => .nil
  | z :: r => .slice (lits .i64 (z :: r)) []
theorem rowOf_pos {l : List Int} (h : l ≠ []) : rowOf (H := H) l = .slice (lits .i64 l) [] := by
  cases l with
  | nil => exact absurd rfl h
  | cons z r => rfl

/-- The map D has, at each number, the keys below k that hold it. -/
def GD (xs : List Int) (k : Nat) (D : DataW H) : Prop :=
  IsMap D ∧ ∀ x : Int, Maps.has D (.int .i64 x) = decide (posK xs k x ≠ []) ∧ D.atKey (.int .i64 x) .nil = rowOf (posK xs k x)

theorem lits_inj {a b : List Int} (h : lits (H := H) .i64 a = lits .i64 b) : a = b := by
  unfold lits at h
  exact (List.map_inj_right (fun _ _ hxy => by cases hxy; rfl)).1 h

theorem GD_zero (xs : List Int) : GD (H := H) xs 0 (.map []) := ⟨⟨[], rfl⟩, fun _ => ⟨rfl, rfl⟩⟩

theorem GD_zs {xs : List Int} {k : Nat} {D : DataW H} {x : Int} {w : World} {base : Nat} {v : Value} {zs : List Int} (h : GD xs k D) (hat : D.atKey (.int .i64 x) .nil = rowDatum .i64 v zs) (hoi : w.ownsInts base 3 .i64 v zs) : zs = posK xs k x := by
  rw [(h.2 x).2] at hat
  rcases hoi.datum (H := H) with ⟨h1, h2⟩ | h1
  · rw [h1] at hat
    rw [h2]
    cases hp : posK xs k x with
    | nil => rfl
    | cons z r => rw [hp] at hat; cases hat
  · rw [h1] at hat
    cases hp : posK xs k x with
    | nil => rw [hp] at hat; cases hat
    | cons z r =>
      rw [hp] at hat
      simp only [rowOf, DataW.slice.injEq] at hat
      exact (lits_inj hat.1).symm

theorem GD_step {xs : List Int} {k : Nat} {D : DataW H} {x : Int} (h : GD xs k D) (hx : xs.getD k 0 = x) (hw : (Lit.int .i64 x).wf = true) : GD xs (k + 1) (D.put (.int .i64 x) (.slice (lits .i64 (posK xs k x ++ [(k : Int)])) [])) := by
  have hk : WideAt.IsKeyLit (.int .i64 x) := mapLaw.key (keyOf_int_mk Tryd.underlying3 hw)
  refine ⟨h.1.put _ _, fun y => ?_⟩
  by_cases hy : y = x
  · subst hy
    rw [posK_same hx, has_put_same h.1 hk, atKey_put_same h.1 hk, rowOf_pos (by simp)]
    simp
  · have hne : Lit.int .i64 y ≠ .int .i64 x := fun e => hy (by cases e; rfl)
    rw [posK_other (fun e => hy (by rw [← hx, e])), has_put_other hne, atKey_put_other hne]
    exact h.2 y

/-- .. and nothing at nought. -/
def HD (xs : List Int) (D : DataW H) : Prop :=
  ∀ x : Int, Maps.has D (.int .i64 x) = decide (x ≠ 0 ∧ posK xs 4 x ≠ []) ∧ (x ≠ 0 → ∀ zd, posK xs 4 x ≠ [] → D.atKey (.int .i64 x) zd = .slice (lits .i64 (posK xs 4 x)) [])

end

theorem groups_map {H : Type} {w : World} {P : Program} {k : TypeId} {base : Nat} {e : TypeId} {q : IntKind} {b n : Nat} {D : DataW H} (h : w.ownsGroups P k base e q b n D) : w.ownsMap P k (rowElem w base e q) b n D := by
  obtain ⟨es, clock, hb, F, hs, hD, _⟩ := h
  exact ⟨es, clock, hb, F, hs, hD⟩
theorem groups_base {H : Type} {w : World} {P : Program} {k : TypeId} {base : Nat} {e : TypeId} {q : IntKind} {b n : Nat} {D : DataW H} (h : w.ownsGroups P k base e q b n D) : b < base := by
  obtain ⟨es, clock, hb, F, hs, hD, h1, _⟩ := h
  exact h1

/-- What stands at a key that is there does not hang on what would be told if it were not. -/
theorem atKey_has {H : Type} {D : DataW H} {k : Lit} (h : Maps.has D k = true) (z z' : DataW H) : D.atKey k z = D.atKey k z' := by
  cases D <;> try (simp [Maps.has] at h; done)
  rename_i es
  simp only [Maps.has] at h
  simp only [DataW.atKey]
  obtain ⟨p, hp, hk⟩ := List.any_eq_true.1 h
  cases hf : es.find? (fun p => p.1.sameKey k) with
  | some q => rfl
  | none => exact absurd hk (by simpa using List.find?_eq_none.1 hf p hp)

/-- What the elements of the map are: lists of numbers of the call's own. -/
def RowsIn {H : Type} (R : Value → Option (DataW H × List MemPlace)) (w : World) (base : Nat) : Prop :=
  ∀ v y, R v = some y → ∃ zs, w.ownsInts base 3 .i64 v zs ∧ y.1 = rowDatum .i64 v zs

end Go.Proofs.YtkbodiggdajbeaaDoor

/- Going through the map of holdersOf: what a step hands over. -/
namespace Go.Proofs.YtkbodiggdajbeaaDoor
open Go.ChangeShapes Go.WideShapes Go.ChangeAt Go.RowKit Go.Maps

theorem row_slice {w : World} {base : Nat} {v : Value} {zs : List Int} (h : w.ownsInts base 3 .i64 v zs) : ∃ p : Option Addr × Nat × Nat, v = .slice p.1 p.2.1 p.2.2 := by
  rcases h.1.2 with ⟨rfl, _⟩ | ⟨g, cap, cur, rfl, _⟩
  · exact ⟨(none, 0, 0), rfl⟩
  · exact ⟨(some ⟨g, 0, none⟩, zs.length, cap), rfl⟩

theorem row_len {w : World} {base : Nat} {a : Option Addr} {n c : Nat} {zs : List Int} (h : w.ownsInts base 3 .i64 (.slice a n c) zs) : n = zs.length := by
  rcases h.1.2 with ⟨h1, h2⟩ | ⟨g, cap, cur, h1, _⟩
  · simp only [Value.slice.injEq] at h1
    omega
  · simp only [Value.slice.injEq] at h1
    exact h1.2.1

theorem row_intAt {w : World} {base : Nat} {a : Option Addr} {n c : Nat} {zs : List Int} (h : w.ownsInts base 3 .i64 (.slice a n c) zs) (h0 : zs ≠ []) (hn : zs.length ≤ 4) : ∃ g, a = some ⟨g, 0, none⟩ ∧ w.cell? ⟨g, 0, none⟩ = some (I (zs.getD 0 0)) ∧ g < w.heap.size ∧ base ≤ g := by
  have hl := row_len h
  have h00 : 0 < zs.length := List.length_pos_iff.2 h0
  rcases h.1.2 with ⟨h1, h2⟩ | ⟨g, cap, cur, h1, h3⟩
  · omega
  · simp only [Value.slice.injEq] at h1
    obtain ⟨rfl, rfl, rfl⟩ := h1
    have h4 := own_intAt h.1 (by omega)
    have h5 := h.1.lt g rfl
    refine ⟨g, rfl, ?_, h5.2, h5.1⟩
    rcases h4.2.2 with h6 | ⟨b, o, h6, h7⟩
    · omega
    · simp only [Option.some.injEq, Addr.mk.injEq] at h6
      obtain ⟨rfl, rfl, _⟩ := h6
      exact h7 0 h00

/-- What the keys of the map are told with. -/
theorem step_row {H : Type} {xs : List Int} {D : DataW H} {R : Value → Option (DataW H × List MemPlace)} {w0 : World} {base : Nat} {x : Int} {v : Value} {y : DataW H × List MemPlace} (hR : RowsIn R w0 base) (hD : HD xs D) (hv : R v = some y) (hat : ∀ zd, D.atKey (.int .i64 x) zd = y.1) :
    x ≠ 0 ∧ posK xs 4 x ≠ [] ∧ w0.ownsInts base 3 .i64 v (posK xs 4 x) := by
  have hh := has_true_of_atKey hat
  rw [(hD x).1] at hh
  obtain ⟨h0, hp⟩ := of_decide_eq_true hh
  obtain ⟨zs, ho, hy⟩ := hR v y hv
  have h1 := (hD x).2 h0 .nil hp
  rw [hat, hy] at h1
  refine ⟨h0, hp, ?_⟩
  rcases ho.datum (H := H) with ⟨h2, _⟩ | h2
  · rw [h2] at h1; cases h1
  · rw [h2] at h1
    simp only [DataW.slice.injEq] at h1
    rw [← lits_inj h1.1]
    exact ho

section
variable {H : Type} {P : Program} (w : World) {ops : Array Oper} {rest : List Oper} {o : Oper} {a : Act} {Q : Exit → Act → World → Prop}
/-- THE STEP of a loop over such a map. -/
theorem wpList_next_rows (hg : o.guard = none) (it : Operand) (hop : o.op = Op.next it false) (R : Value → Option (DataW H × List MemPlace)) {w0 : World} {base : Nat} (hR : RowsIn R w0 base) {xs : List Int}
    (b r n : Nat) (D : DataW H) (hD : HD xs D) (left : Lit → Bool) (cnt : Nat) (hit : a.eval it = .pointer (some ⟨r, 0, none⟩)) (h : w.ranges Tryd.prog 3 R b r n D left cnt)
    (hDone : cnt = 0 → (∀ kl, left kl = false) → wpList Tryd.prog ops Q rest (a.put o.dst (.tuple #[.bool false])) w)
    (hMore : ∀ (x : Int) (p : Option Addr) (l c : Nat) (w' : World) (cnt' : Nat), left (.int .i64 x) = true → x ≠ 0 → posK xs 4 x ≠ [] → w0.ownsInts base 3 .i64 (.slice p l c) (posK xs 4 x) → w'.ranges Tryd.prog 3 R b r n D (fun z => left z && !z.sameKey (.int .i64 x)) cnt' → cnt' < cnt →
      w.grownBy w' (some r) → w'.heap.size = w.heap.size → (Instr.entry (.pointer (some ⟨r, 0, none⟩))).run Tryd.prog w' = .ok (.tuple #[.int .i64 x, .slice p l c]) w' → wpList Tryd.prog ops Q rest (a.put o.dst (.tuple #[.bool true, .int .i64 x, .slice p l c])) w') :
    wpList Tryd.prog ops Q (o :: rest) a w :=
  wpList_next_ranges w hg it hop 3 mapLaw R (Value.int .i64) (fun p : Option Addr × Nat × Nat => Value.slice p.1 p.2.1 p.2.2) (fun key kl hkey => by obtain ⟨x, rfl, _⟩ := Maps.keyOf_int_inv Tryd.underlying3 hkey; exact ⟨x, rfl⟩)
    (fun v y hv => by obtain ⟨zs, ho, _⟩ := hR v y hv; exact row_slice ho)
    b r n D left cnt hit h hDone (fun x c kl y w' cnt' hkey hlk hv hat hrg hlt hgr hsz hen => by
      obtain ⟨x', ex, rfl, hwx⟩ := Maps.keyOf_int_inv Tryd.underlying3 hkey
      cases ex
      obtain ⟨h1, h2, h3⟩ := step_row hR hD hv hat
      exact hMore x c.1 c.2.1 c.2.2 w' cnt' hlk h1 h2 h3 hrg hlt hgr hsz hen)
end

/-- Which keys have come already: those of the map that are not to come. -/
theorem sameKey_int (x y : Int) : (Lit.int .i64 x).sameKey (.int .i64 y) = decide (x = y) := by
  by_cases h : x = y
  · subst h
    simp [Lit.sameKey]
  · rw [Maps.sameKey_ne (fun e => h (by cases e; rfl))]
    simp [h]
end Go.Proofs.YtkbodiggdajbeaaDoor

/- impl.RowsOk, walked: whether the rows can be a table. -/
namespace Go.Proofs.YtkbodiggdajbeaaDoor
open Go.ChangeShapes Go.WideShapes Go.ChangeAt Go.RowKit Go.Maps

/-- The answer e is the Boolean that says whether p. -/
def Says (e : Ending) (p : Prop) : Prop := ∃ ok : Bool, e = .returned (.bool ok) ∧ (ok = true ↔ p)
/-- What is held at x is right: it can be held, and one key at most holds it. -/
def Good (xs : List Int) (x : Int) : Prop := (1 ≤ x ∧ x ≤ 6) ∧ (posK xs 4 x).length ≤ 1
/-- The rows can be a table. -/
def OkRows (xs : List Int) (st : Int) : Prop := xs.length = 4 ∧ 0 ≤ st ∧ st ≤ 5 ∧ ∀ x, x ≠ 0 → posK xs 4 x ≠ [] → Good xs x

end Go.Proofs.YtkbodiggdajbeaaDoor

/- spec.KeyOf and spec.RowsOk, walked at any list. -/
namespace Go.Proofs.YtkbodiggdajbeaaDoor
open Go.ChangeShapes Go.WideShapes Go.ChangeAt Go.RowKit Go.Maps

/-- r is the first place of v among the first n of xs, or -1. -/
def KeyIs (xs : List Int) (n : Nat) (v r : Int) : Prop := (r = -1 ∧ ∀ i, i < n → xs.getD i 0 ≠ v) ∨ ∃ i : Nat, i < n ∧ r = (i : Int) ∧ xs.getD i 0 = v ∧ ∀ j, j < i → xs.getD j 0 ≠ v
/-- The answer is that number. -/
def KeySays (e : Ending) (xs : List Int) (n : Nat) (v : Int) : Prop := ∃ r : Int, e = .returned (.int .i64 r) ∧ KeyIs xs n v r

/-- The rows can be a table, as the specification looks at them: what each place of the first k holds is right. -/
def SpecGood (xs : List Int) (n : Nat) (i : Nat) : Prop := xs.getD i 0 = 0 ∨ ((1 ≤ xs.getD i 0 ∧ xs.getD i 0 ≤ 6) ∧ KeyIs xs n (xs.getD i 0) i)
def SpecOk (xs : List Int) (n : Nat) (st : Int) : Prop := (∀ i, i < n → SpecGood xs n i) ∧ n = 4 ∧ 0 ≤ st ∧ st ≤ 5

theorem KeyIs.one {xs : List Int} {n : Nat} {v r s : Int} (h : KeyIs xs n v r) (k : KeyIs xs n v s) : r = s := by
  rcases h with ⟨rfl, h⟩ | ⟨i, hi, rfl, h1, h2⟩ <;> rcases k with ⟨rfl, k⟩ | ⟨j, hj, rfl, k1, k2⟩
  · rfl
  · exact absurd k1 (h j hj)
  · exact absurd h1 (k i hi)
  · by_cases hij : i < j
    · exact absurd h1 (k2 i hij)
    · by_cases hji : j < i
      · exact absurd k1 (h2 j hji)
      · rw [show i = j by omega]

theorem specValOk_not {x : Int} (h : ¬ (1 ≤ x ∧ x ≤ 6)) (w : World) : Calls Tryd.prog 46 #[.int .i64 x] w fun e w' => e = .returned (.bool false) ∧ w' = w := by
  have := specValOk_any x w
  rwa [show decide (1 ≤ x ∧ x ≤ 6) = false from decide_eq_false h] at this

theorem good_next {xs : List Int} {n k : Nat} (h : ∀ j, j < k → SpecGood xs n j) (h1 : SpecGood xs n k) : ∀ j, j < k + 1 → SpecGood xs n j := fun j hj => by
  by_cases hjk : j = k
  · subst hjk
    exact h1
  · exact h j (by omega)

/-- Both look for the same. -/
theorem mem_posK {xs : List Int} {k : Nat} {x : Int} {i : Int} : i ∈ posK xs k x ↔ ∃ j : Nat, j < k ∧ xs.getD j 0 = x ∧ i = (j : Int) := by
  simp only [posK, List.mem_map, List.mem_filter, List.mem_range, beq_iff_eq]
  constructor
  · rintro ⟨j, ⟨h1, h2⟩, rfl⟩
    exact ⟨j, h1, h2, rfl⟩
  · rintro ⟨j, h1, h2, rfl⟩
    exact ⟨j, ⟨h1, h2⟩, rfl⟩
theorem one_of {l : List Int} (h : l.length ≤ 1) {a b : Int} (ha : a ∈ l) (hb : b ∈ l) : a = b := by
  match l, h with
  | [], _ => simp at ha
  | [x], _ => simp at ha hb; rw [ha, hb]
  | _ :: _ :: _, h => simp at h
theorem len_of {l : List Int} (hd : l.Nodup) {j : Int} (h : ∀ a ∈ l, a = j) : l.length ≤ 1 := by
  match l, hd with
  | [], _ => simp
  | [x], _ => simp
  | x :: y :: r, hd =>
    have h1 := h x (by simp)
    have h2 := h y (by simp)
    rw [h1, h2] at hd
    simp at hd
theorem posK_nodup (xs : List Int) (k : Nat) (x : Int) : (posK xs k x).Nodup := by
  unfold posK
  exact List.Pairwise.map _ (fun a b hab e => hab (by omega)) (List.nodup_range.filter _)

theorem ok_iff {xs : List Int} {n : Nat} {st : Int} (hl : xs.length = n) : SpecOk xs n st ↔ OkRows xs st := by
  constructor
  · rintro ⟨h, rfl, h0, h1⟩
    refine ⟨hl, h0, h1, fun x hx hp => ?_⟩
    obtain ⟨i, hi⟩ := List.exists_mem_of_ne_nil _ hp
    obtain ⟨j, hj, hjx, rfl⟩ := mem_posK.1 hi
    rcases h j hj with h2 | ⟨h2, h3⟩
    · exact absurd (hjx.symm.trans h2) hx
    rw [hjx] at h2 h3
    refine ⟨h2, len_of (posK_nodup _ _ _) (j := (j : Int)) fun a ha => ?_⟩
    obtain ⟨i, hi, hix, rfl⟩ := mem_posK.1 ha
    rcases h i hi with h4 | ⟨_, h4⟩
    · exact absurd (hix.symm.trans h4) hx
    rw [hix] at h4
    exact h4.one h3
  · rintro ⟨h4, h0, h1, h⟩
    obtain rfl : n = 4 := by omega
    refine ⟨fun i hi => ?_, rfl, h0, h1⟩
    by_cases hx : xs.getD i 0 = 0
    · exact .inl hx
    · have hm : (i : Int) ∈ posK xs 4 (xs.getD i 0) := mem_posK.2 ⟨i, hi, rfl, rfl⟩
      obtain ⟨h2, h3⟩ := h _ hx (List.ne_nil_of_mem hm)
      refine .inr ⟨h2, .inr ⟨i, hi, rfl, rfl, fun j hj e => ?_⟩⟩
      have := one_of h3 hm (mem_posK.2 ⟨j, by omega, e, rfl⟩)
      omega
end Go.Proofs.YtkbodiggdajbeaaDoor

/- A machine that can be, in plain words. -/
namespace Go.Proofs.YtkbodiggdajbeaaDoor
open Go.ChangeShapes Go.WideShapes Go.ChangeAt Go.RowKit

/-- A machine's data. -/
structure MaD where
  nw : Nat
  ws : List Int
  nd : Nat
  ds : List DK
  nt : Nat
  ts : Nat → ThD
  tm : Int
  nc : Nat
  f : Nat → CaD
  no : Nat
  os : List Int
  nh : Nat
  hs : List Int
  st : Int
/-- It lies there. -/
structure MaAt (w : World) (wa da ta ca oa ha : Option Addr) (M : MaD) : Prop where
  words : TripAt w wa M.nw M.ws
  descs : DescAt w da M.nd M.ds
  ths : ThsAt w ta M.nt M.ts
  calls : CasAt w ca M.nc M.f
  ord : IntAt w oa M.no M.os
  held : IntAt w ha M.nh M.hs
theorem MaAt.below {w w' : World} {wa da ta ca oa ha : Option Addr} {M : MaD} (h : MaAt w wa da ta ca oa ha M) {B : Nat} (hb : Below B w w') (hB : w.heap.size ≤ B) : MaAt w' wa da ta ca oa ha M :=
  ⟨h.words.below hb hB, h.descs.below hb hB, h.ths.below hb hB, h.calls.below hb hB, h.ord.below hb hB, h.held.below hb hB⟩
structure MachGood (M : MaD) : Prop where
  mem : MemGood M.ws M.nw M.ds
  many : M.nd = M.nt
  time : inB M.tm 0 100000 = true
  first : OkRows M.hs M.st
  calls : CallsGood M.f M.nc M.os M.no M.nt M.tm
  ths : ∀ i, i < M.nt → ThGood (M.ts i) M.nt ∧ TaskSpec M.f M.nc (i : Int) (M.ts i)
abbrev MaV (wa : Option Addr) (wc : Nat) (da : Option Addr) (dc : Nat) (ta : Option Addr) (tc : Nat) (ca : Option Addr) (cc : Nat) (oa : Option Addr) (oc : Nat) (ha : Option Addr) (hc : Nat) (M : MaD) : Value := .agg #[.slice wa M.nw wc, .slice da M.nd dc, .slice ta M.nt tc, .int .i64 M.tm, .slice ca M.nc cc, .slice oa M.no oc, .slice ha M.nh hc, .int .i64 M.st]
end Go.Proofs.YtkbodiggdajbeaaDoor

/- A machine's data, out of its cells. No program. -/
namespace Go.Proofs.YtkbodiggdajbeaaDoor
open Go.ChangeShapes Go.WideShapes Go.ChangeAt Go.RowKit Go.Joins

def numC : Cel → Int
  | .i x => x
  | _ => 0
def boolC : Cel → Bool
  | .b x => x
  | _ => false
def lenC : Cel → Nat
  | .l _ _ n _ => n
  | _ => 0
def listC : Cel → List Cel
  | .l _ _ _ cs => cs
  | _ => []
def nums (cs : List Cel) : List Int := cs.map numC
def nthC (cs : List Cel) (i : Nat) : Cel := cs.getD i (.i 0)
def thD (r : List Cel) : ThD := ⟨lenC (nthC r 0), nums (listC (nthC r 0)), numC (nthC r 1), boolC (nthC r 2), lenC (nthC r 3), nums (listC (nthC r 3)), lenC (nthC r 4), nums (listC (nthC r 4))⟩
def caD (r : List Cel) : CaD := ⟨numC (nthC r 0), numC (nthC r 1), numC (nthC r 2), numC (nthC r 3), numC (nthC r 4), numC (nthC r 5), numC (nthC r 6), numC (nthC r 7)⟩
def dkD (r : List Cel) : DK := ⟨numC (nthC r 0), numC (nthC r 1), lenC (nthC r 2), nums (listC (nthC r 2)), numC (nthC r 3), lenC (nthC r 4), nums (listC (nthC r 4))⟩
def maD (cs : List Cel) : MaD where
  nw := lenC (nthC cs 0)
  ws := nums (listC (nthC cs 0))
  nd := lenC (nthC cs 1)
  ds := (List.range (lenC (nthC cs 1))).map fun i => dkD (row (listC (nthC cs 1)) 5 i)
  nt := lenC (nthC cs 2)
  ts := fun i => thD (row (listC (nthC cs 2)) 5 i)
  tm := numC (nthC cs 3)
  nc := lenC (nthC cs 4)
  f := fun i => caD (row (listC (nthC cs 4)) 9 i)
  no := lenC (nthC cs 5)
  os := nums (listC (nthC cs 5))
  nh := lenC (nthC cs 6)
  hs := nums (listC (nthC cs 6))
  st := numC (nthC cs 7)

def Ty.isI : Ty → Bool
  | .i => true
  | _ => false
/-- A list of structs of numbers alone. -/
theorem at_kAt {q : Bool} {w : World} {a : Option Addr} {n c k : Nat} {T : TypeId} {cs : List Cel} {fs : List Ty} (h : At q w (.slice a n c) (.l T k n cs)) (hs : Has (.l T k n cs) (.l T k fs)) (hf : ∀ t ∈ fs, t = .i) : KAt k w a n (nums cs) := by
  obtain ⟨a', c', vs, e, h1, h2, hn, -, h3, h4⟩ := h.openL
  cases e
  refine ⟨by unfold nums; rw [List.length_map]; exact h2, hn, ?_⟩
  rcases h3 with h0 | ⟨b, o, rfl, hc⟩
  · exact .inl h0
  · refine .inr ⟨b, o, rfl, fun j hj => ?_⟩
    rw [hc j hj]
    have hv : vs[j]? = some (vs[j]'(by omega)) := List.getElem?_eq_getElem (by omega)
    have hcj : cs[j]? = some (cs[j]'(by omega)) := List.getElem?_eq_getElem (by omega)
    have hat := h4 j _ _ hv hcj
    have hx : ∃ x, cs[j]'(by omega) = .i x := by
      cases hs with
      | l _ _ _ _ _ hk hl hh =>
        have hk0 : 0 < k := Nat.pos_of_ne_zero fun e => by rw [e] at hj; simp at hj
        have hm : j % k < fs.length := by rw [hk]; exact Nat.mod_lt _ hk0
        have ht := hh j _ _ hcj (List.getElem?_eq_getElem hm)
        rw [hf _ (List.getElem_mem hm)] at ht
        exact ht.int
    obtain ⟨x, hx⟩ := hx
    rw [hx] at hat
    rw [hv, hat.int]
    have : (nums cs).getD j 0 = x := by
      unfold nums
      have hjc : j < cs.length := by omega
      simp [List.getD, hjc, hx, numC]
    rw [this]
theorem KAt.trip {w : World} {a : Option Addr} {n : Nat} {fs : List Int} (h : KAt 3 w a n fs) (hn : n ≤ 1048576) : TripAt w a n fs := ⟨h.1, hn, h.2.2⟩
theorem KAt.ints {w : World} {a : Option Addr} {n : Nat} {fs : List Int} (h : KAt 1 w a n fs) : IntAt w a n fs := by
  refine ⟨by have := h.1; omega, by have := h.2.1; omega, ?_⟩
  rcases h.2.2 with h0 | ⟨b, o, h1, h2⟩
  · exact .inl h0
  · exact .inr ⟨b, o, h1, fun i hi => h2 i (by omega)⟩
/-- A list's rows: what stands in their cells. -/
theorem at_rows {q : Bool} {w : World} {a : Option Addr} {n c k : Nat} {T : TypeId} {cs : List Cel} (h : At q w (.slice a n c) (.l T k n cs)) : n = 0 ∨ ∃ b o, a = some ⟨b, o, none⟩ ∧ ∀ i, i < n → ∃ us, AtL q w us (row cs k i) ∧ ∀ r, r < k → w.cell? ⟨b, o + i * k + r, none⟩ = us[r]? := by
  obtain ⟨a', c', vs, e, h1, h2, hn, -, h3, h4⟩ := h.openL
  cases e
  rcases h3 with h0 | ⟨b, o, rfl, hc⟩
  · exact .inl h0
  · refine .inr ⟨b, o, rfl, fun i hi => ⟨_, rowVals h1 h2 h4 hi, fun r hr => ?_⟩⟩
    have hle : i * k + k ≤ n * k := by rw [← Nat.succ_mul]; exact Nat.mul_le_mul_right k hi
    rw [List.getElem?_take_of_lt hr, List.getElem?_drop, Nat.add_assoc, hc (i * k + r) (by omega)]
theorem big_len {T : TypeId} {k n : Nat} {cs : List Cel} : n ≤ (Cel.l T k n cs).big := by simp only [Cel.big]; omega
theorem row_mem_big {cs : List Cel} {k n i : Nat} (hl : cs.length = n * k) (hi : i < n) {j : Nat} {c : Cel} (h : (row cs k i)[j]? = some c) : c.big ≤ bigL cs := by
  have hj : j < k := by have := (List.getElem?_eq_some_iff.1 h).1; rw [rowL_len hl hi] at this; exact this
  rw [row_at hj] at h
  exact big_mem h
theorem at_cap {w : World} {a : Option Addr} {n c k : Nat} {T : TypeId} {cs : List Cel} (h : At true w (.slice a n c) (.l T k n cs)) : n ≤ c := by
  obtain ⟨a', c', vs, e, h1, h2, hn, hq, h3, h4⟩ := h.openL
  cases e
  exact (hq rfl).2
theorem int_all {fs : List Ty} (h : fs.all Ty.isI = true) : ∀ t ∈ fs, t = .i := fun t ht => by
  have := (List.all_eq_true.1 h) t ht
  cases t <;> simp [Ty.isI] at this ⊢
end Go.Proofs.YtkbodiggdajbeaaDoor

/- Data that are well formed: their numbers lie in 64 bits; how long their lists are. No program. -/
namespace Go.Proofs.YtkbodiggdajbeaaDoor
open Go.ChangeShapes Go.WideShapes Go.ChangeAt Go.RowKit Go.Joins

theorem i64_zero : I64 0 := ⟨by decide, by decide⟩
theorem i64_num {c : Cel} (h : WfC c) : I64 (numC c) := by
  cases h with
  | i x h => exact bounds_i64 h
  | b x => exact i64_zero
  | s x => exact i64_zero
  | l T k n cs h => exact i64_zero
theorem i64_nums {cs : List Cel} (h : WfL cs) : In64s (nums cs) := by
  intro x hx
  unfold nums at hx
  obtain ⟨c, hc, rfl⟩ := List.mem_map.1 hx
  obtain ⟨j, hj, rfl⟩ := List.getElem_of_mem hc
  exact i64_num (h j _ (List.getElem?_eq_getElem hj))
theorem wf_list {c : Cel} (h : WfC c) : WfL (listC c) := by
  cases h with
  | i x h => exact .nil
  | b x => exact .nil
  | s x => exact .nil
  | l T k n cs h => exact h
theorem wf_nth {cs : List Cel} (h : WfL cs) (i : Nat) : WfC (nthC cs i) := by
  unfold nthC
  rcases Nat.lt_or_ge i cs.length with hi | hi
  · rw [List.getD_eq_getElem?_getD, List.getElem?_eq_getElem hi, Option.getD_some]
    exact h i _ (List.getElem?_eq_getElem hi)
  · rw [List.getD_eq_getElem?_getD, List.getElem?_eq_none hi, Option.getD_none]
    exact .i 0 (by decide)
theorem wf_row {cs : List Cel} (h : WfL cs) (k i : Nat) : WfL (row cs k i) := by
  intro j c hc
  have hj : j < k := by
    rcases Nat.lt_or_ge j k with h1 | h1
    · exact h1
    · unfold row at hc
      rw [List.getElem?_take, if_neg (by omega)] at hc
      cases hc
  rw [row_at hj] at hc
  exact h _ _ hc
theorem big_nth (cs : List Cel) (i : Nat) : (nthC cs i).big ≤ bigL cs := by
  unfold nthC
  rcases Nat.lt_or_ge i cs.length with hi | hi
  · rw [List.getD_eq_getElem?_getD, List.getElem?_eq_getElem hi, Option.getD_some]
    exact big_mem (List.getElem?_eq_getElem hi)
  · rw [List.getD_eq_getElem?_getD, List.getElem?_eq_none hi, Option.getD_none]
    simp [Cel.big]
theorem big_list (c : Cel) : bigL (listC c) ≤ c.big := by
  cases c <;> simp [listC, Cel.big, bigL]
theorem big_row (cs : List Cel) (k i : Nat) : bigL (row cs k i) ≤ bigL cs := by
  have h1 : bigL cs = bigL (cs.take (i * k)) + bigL (cs.drop (i * k)) := by rw [← bigL_append, List.take_append_drop]
  have h2 : bigL (cs.drop (i * k)) = bigL ((cs.drop (i * k)).take k) + bigL ((cs.drop (i * k)).drop k) := by rw [← bigL_append, List.take_append_drop]
  unfold row
  omega
theorem len_big (c : Cel) : lenC c ≤ c.big := by
  cases c <;> simp [lenC, Cel.big]
end Go.Proofs.YtkbodiggdajbeaaDoor

/- A machine that is read: its parts lie there. No program. -/
namespace Go.Proofs.YtkbodiggdajbeaaDoor
open Go.ChangeShapes Go.WideShapes Go.ChangeAt Go.RowKit Go.Joins

theorem i1 : ∀ t ∈ ([.i] : List Ty), t = .i := int_all rfl
theorem iOp : ∀ t ∈ tyOp, t = .i := int_all rfl
theorem iPair : ∀ t ∈ tyPair, t = .i := int_all rfl
theorem iHelp : ∀ t ∈ tyHelp, t = .i := int_all rfl
theorem iEntry : ∀ t ∈ tyEntry, t = .i := int_all rfl
theorem iWord : ∀ t ∈ tyWord, t = .i := int_all rfl
theorem at_call {w : World} {b p : Nat} {us : List Value} {r : List Cel} (h : AtL true w us r) (hs : HasL r tyCall) (hc : ∀ i, i < 9 → w.cell? ⟨b, p + i, none⟩ = us[i]?) : ∃ ra rn rc, CaC w b p (caD r) (.slice ra rn rc) := by
  obtain ⟨x0, r0, rfl, T0, hH0⟩ := hs.cons
  obtain ⟨x1, r1, rfl, T1, hH1⟩ := hH0.cons
  obtain ⟨x2, r2, rfl, T2, hH2⟩ := hH1.cons
  obtain ⟨x3, r3, rfl, T3, hH3⟩ := hH2.cons
  obtain ⟨x4, r4, rfl, T4, hH4⟩ := hH3.cons
  obtain ⟨x5, r5, rfl, T5, hH5⟩ := hH4.cons
  obtain ⟨x6, r6, rfl, T6, hH6⟩ := hH5.cons
  obtain ⟨x7, r7, rfl, T7, hH7⟩ := hH6.cons
  obtain ⟨x8, r8, rfl, T8, hH8⟩ := hH7.cons
  obtain rfl := hH8.nil
  obtain ⟨v0, vr0, rfl, A0, hA0⟩ := h.consE
  obtain ⟨v1, vr1, rfl, A1, hA1⟩ := hA0.consE
  obtain ⟨v2, vr2, rfl, A2, hA2⟩ := hA1.consE
  obtain ⟨v3, vr3, rfl, A3, hA3⟩ := hA2.consE
  obtain ⟨v4, vr4, rfl, A4, hA4⟩ := hA3.consE
  obtain ⟨v5, vr5, rfl, A5, hA5⟩ := hA4.consE
  obtain ⟨v6, vr6, rfl, A6, hA6⟩ := hA5.consE
  obtain ⟨v7, vr7, rfl, A7, hA7⟩ := hA6.consE
  obtain ⟨v8, vr8, rfl, A8, hA8⟩ := hA7.consE
  obtain rfl := hA8.nilE
  obtain ⟨y0, rfl⟩ := T0.int
  obtain ⟨y1, rfl⟩ := T1.int
  obtain ⟨y2, rfl⟩ := T2.int
  obtain ⟨y3, rfl⟩ := T3.int
  obtain ⟨y4, rfl⟩ := T4.int
  obtain ⟨y5, rfl⟩ := T5.int
  obtain ⟨y6, rfl⟩ := T6.int
  obtain ⟨y7, rfl⟩ := T7.int
  obtain ⟨n8, l8, rfl, _⟩ := T8.list
  obtain rfl := A0.int
  obtain rfl := A1.int
  obtain rfl := A2.int
  obtain rfl := A3.int
  obtain rfl := A4.int
  obtain rfl := A5.int
  obtain rfl := A6.int
  obtain rfl := A7.int
  obtain ⟨a8, c8, rfl⟩ := A8.slice
  exact ⟨a8, n8, c8, hc 0 (by omega), hc 1 (by omega), hc 2 (by omega), hc 3 (by omega), hc 4 (by omega), hc 5 (by omega), hc 6 (by omega), hc 7 (by omega), hc 8 (by omega)⟩
end Go.Proofs.YtkbodiggdajbeaaDoor

/- A call, opened out of data. -/
namespace Go.Proofs.YtkbodiggdajbeaaDoor
open Go.ChangeShapes Go.WideShapes Go.ChangeAt Go.RowKit Go.Joins

theorem callT_of {w : World} {us : List Value} {cs : List Cel} (h : AtL true w us cs) (hs : HasL cs tyCall) (hb : bigL cs ≤ 1048576) : ∃ ra rn rc, .agg us.toArray = CaV (caD cs) (.slice ra rn rc) ∧ rn ≤ 1048576 ∧ IntAt w ra rn (nums (listC (nthC cs 8))) := by
  have hbn := big_nth cs 8
  obtain ⟨x0, r0, rfl, T0, hH0⟩ := hs.cons
  obtain ⟨x1, r1, rfl, T1, hH1⟩ := hH0.cons
  obtain ⟨x2, r2, rfl, T2, hH2⟩ := hH1.cons
  obtain ⟨x3, r3, rfl, T3, hH3⟩ := hH2.cons
  obtain ⟨x4, r4, rfl, T4, hH4⟩ := hH3.cons
  obtain ⟨x5, r5, rfl, T5, hH5⟩ := hH4.cons
  obtain ⟨x6, r6, rfl, T6, hH6⟩ := hH5.cons
  obtain ⟨x7, r7, rfl, T7, hH7⟩ := hH6.cons
  obtain ⟨x8, r8, rfl, T8, hH8⟩ := hH7.cons
  obtain rfl := hH8.nil
  obtain ⟨v0, vr0, rfl, A0, hA0⟩ := h.consE
  obtain ⟨v1, vr1, rfl, A1, hA1⟩ := hA0.consE
  obtain ⟨v2, vr2, rfl, A2, hA2⟩ := hA1.consE
  obtain ⟨v3, vr3, rfl, A3, hA3⟩ := hA2.consE
  obtain ⟨v4, vr4, rfl, A4, hA4⟩ := hA3.consE
  obtain ⟨v5, vr5, rfl, A5, hA5⟩ := hA4.consE
  obtain ⟨v6, vr6, rfl, A6, hA6⟩ := hA5.consE
  obtain ⟨v7, vr7, rfl, A7, hA7⟩ := hA6.consE
  obtain ⟨v8, vr8, rfl, A8, hA8⟩ := hA7.consE
  obtain rfl := hA8.nilE
  obtain ⟨y0, rfl⟩ := T0.int
  obtain rfl := A0.int
  obtain ⟨y1, rfl⟩ := T1.int
  obtain rfl := A1.int
  obtain ⟨y2, rfl⟩ := T2.int
  obtain rfl := A2.int
  obtain ⟨y3, rfl⟩ := T3.int
  obtain rfl := A3.int
  obtain ⟨y4, rfl⟩ := T4.int
  obtain rfl := A4.int
  obtain ⟨y5, rfl⟩ := T5.int
  obtain rfl := A5.int
  obtain ⟨y6, rfl⟩ := T6.int
  obtain rfl := A6.int
  obtain ⟨y7, rfl⟩ := T7.int
  obtain rfl := A7.int
  obtain ⟨n8, l8, rfl, _⟩ := T8.list
  obtain ⟨a8, c8, rfl⟩ := A8.slice
  have hk := (at_kAt A8 T8 i1).ints
  have hl := len_big (Cel.l 3 1 n8 l8)
  refine ⟨a8, n8, c8, rfl, ?_, hk⟩
  have h1 : lenC (Cel.l 3 1 n8 l8) = n8 := rfl
  have h2 : (nthC [Cel.i y0, Cel.i y1, Cel.i y2, Cel.i y3, Cel.i y4, Cel.i y5, Cel.i y6, Cel.i y7, Cel.l 3 1 n8 l8] 8).big = (Cel.l 3 1 n8 l8).big := rfl
  omega
end Go.Proofs.YtkbodiggdajbeaaDoor

/- The laws' own functions on data. -/
namespace Go.Proofs.YtkbodiggdajbeaaDoor
open Go.ChangeShapes Go.WideShapes Go.ChangeAt Go.RowKit Go.Joins

theorem dInfoInt : (Tryd.prog.info? 3).map (fun i => (i.zero, i.size)) = some (some (.int .i64 0), 1) := by kernel_rfl
theorem dBytesInt : (Tryd.prog.info? 3).map (fun i => decide (i.bytes ≤ 1024)) = some true := by kernel_rfl
set_option maxHeartbeats 1000000 in
theorem dToIntS (v : Value) (n : Nat) (cs : List Cel) (w : World) (h : At false w v (.l 3 1 n cs)) (hs : Has (.l 3 1 n cs) (.l 3 1 [.i])) :
    Calls Tryd.prog 28 #[v] w (Ret w (.l 3 1 n cs)) := by
  obtain ⟨a, c, vs, rfl, h1, h2, hn, -, h3, h4⟩ := h.openL
  have SRC : Hid (n = 0 ∨ ∃ b o, a = some ⟨b, o, none⟩ ∧ ∀ j, j < n * 1 → w.cell? ⟨b, o + j, none⟩ = vs[j]?) := h3
  have HV : Hid (∀ j, j < n → AtL false w ((vs.drop (j * 1)).take 1) (row cs 1 j)) := fun j hj => rowVals h1 h2 h4 hj
  have HR : Hid (∀ j, j < n → HasL (row cs 1 j) [.i]) := fun j hj => hs.rowL hj
  have L2 : Hid (cs.length = n * 1) := h2
  have L1 : Hid (vs.length = n * 1) := h1
  obtain ⟨i0, hi, hz⟩ := Option.map_eq_some_iff.1 dInfoInt
  obtain ⟨i1, hi', hb1⟩ := Option.map_eq_some_iff.1 dBytesInt
  obtain rfl : i0 = i1 := Option.some.inj (hi.symm.trans hi')
  have hz0 : i0.zero = some (.int .i64 0) := congrArg Prod.fst hz
  have hz1 : i0.size = 1 := congrArg Prod.snd hz
  have hz2 : i0.bytes ≤ 1024 := of_decide_eq_true hb1
  have hby : i0.bytes * n ≤ 1024 * 2097152 := Nat.mul_le_mul hz2 hn
  clear h h1 h2 h3 h4 hs hz hb1 hi'
  go_enter Tryd.func28, Tryd.ntmps28
  go_wp2_with (at_make; refine wpList_make_full _ rfl _ _ 24 rfl w.heap.size 3 i0 (.int .i64 0) 1 Tryd.underlying24 hi hz0 hz1 .i64 .i64 _ _ n rfl rfl rfl rfl (by first | omega | (rw [Nat.mul_comm]; omega)) (by unfold maxLen; omega) (Nat.le_refl _) ?_; intro w1 own1 grow1)
  obtain ⟨ps0, lp0, O0⟩ := own_made (zv := [.int .i64 0]) (zc := [.i 0]) own1 hn rfl (fun j v hv => made_at hv (by decide)) (by
    intro i v c hv hc w'
    have hi : i < 1 := by have := (List.getElem?_eq_some_iff.1 hv).1; simpa using this
    rcases (show i = 0 by omega) with rfl <;> (simp at hv hc; subst hv hc)
    · exact .i _ _ (fun _ h => h))
  have hb1 : Below w.heap.size w w1 := (Below.refl _ _).grown grow1 (Nat.le_refl _) (fun k e => by cases e)
  clear own1 grow1
  go_loopw [4] (fun i wr => ∃ j : Nat, j ≤ n ∧ i = .int .i64 (j : Int) ∧ (∃ ps S, ps.length = n * 1 ∧ ps.take (j * 1) = cs.take (j * 1) ∧ Own wr w.heap.size (.slice (some ⟨w.heap.size, 0, none⟩) n n) (.l 3 1 n ps) S) ∧ Below w.heap.size w wr) (fun i _ => n - (intOf i).toNat)
  case atStart => exact ⟨0, Nat.zero_le _, by simp, ⟨ps0, _, lp0, by simp, O0⟩, hb1⟩
  case round =>
    obtain ⟨j, hj, rfl, ⟨ps, S, lp, tp, ho⟩, hb⟩ := hrel
    clear O0 hb1 lp0
    by_cases hlt : j < n
    · rcases SRC.out with h0 | ⟨p1, o1, rfl, g1⟩
      · omega
      have hk0 : (0 : Int) ≤ (j : Int) := by omega
      have hk1 : (j : Int) < (n : Int) := by omega
      have hA := HV.out j hlt
      have hH := HR.out j hlt
      have hcv : ∀ i, i < 1 → wr.cell? ⟨p1, o1 + (j * 1 + i), none⟩ = ((vs.drop (j * 1)).take 1)[i]? := fun i hi => by
        have hle : j * 1 + 1 ≤ n * 1 := by omega
        have h5 := g1 (j * 1 + i) (by omega)
        rw [List.getElem?_take_of_lt hi, List.getElem?_drop, ← h5]
        have h6 : w.cell? ⟨p1, o1 + (j * 1 + i), none⟩ = some (vs[j * 1 + i]'(by have := L1.out; omega)) := by rw [h5, List.getElem?_eq_getElem (by have := L1.out; omega)]
        exact hb.cell (show p1 < w.heap.size from World.block_lt_of_cell? w _ h6)
      obtain ⟨rs, hrs⟩ : ∃ rs, row cs 1 j = rs := ⟨_, rfl⟩
      obtain ⟨ws, hws⟩ : ∃ ws, (vs.drop (j * 1)).take 1 = ws := ⟨_, rfl⟩
      have HRS : Hid (row cs 1 j = rs) := hrs
      rw [hrs] at hA hH
      rw [hws] at hA hcv
      clear g1 hrs hws
      obtain ⟨c0, r0, rfl, T0, hH0⟩ := hH.cons
      obtain rfl := hH0.nil
      have HL0 : Hid (HasL [c0] [.i]) := hH
      obtain ⟨v0, vr0, rfl, A0, hA0⟩ := hA.consE
      obtain rfl := hA0.nilE
      have HA0 : Hid (AtL false w [v0] [c0]) := hA
      have e0 : wr.cell? ⟨p1, o1 + j * 1, none⟩ = some v0 := hcv 0 (by omega)
      clear hcv hA hH hA0 hH0
      have HO : Hid (Own wr w.heap.size (.slice (some ⟨w.heap.size, 0, none⟩) n n) (.l 3 1 n ps) S) := ho
      clear ho
      obtain ⟨x0, rfl⟩ := T0.int
      obtain rfl := A0.int
      obtain ⟨pv, Sj, hc, hf, -⟩ := HO.out.cell (j := j * 1) (List.getElem?_eq_getElem (by omega))
      simp only [Nat.mul_one] at e0 hc hf
      have HRS' : Hid (row cs 1 j = [.i x0]) := HRS.out
      go_wp2
      go_roundw
      case rel =>
        obtain ⟨S'', o'', -⟩ := Own.storeL (us := [.int .i64 x0]) (rs := [.i x0]) (p := j * 1) HO.out (OwnL.cons (S0 := fun _ => False) (S := fun _ => False) (S' := fun _ => False) (.i x0 _ (fun _ h => h)) (OwnL.nil (fun _ h => h)) (fun _ h => h.elim) (fun _ => by simp)) (fun _ h => h.elim) (by simp; omega)
        have hle : j * 1 + 1 ≤ n * 1 := by omega
        refine ⟨j + 1, by omega, by go_num, ⟨_, S'', ?_, ?_, by simpa [stores] using o''⟩, by simpa [stores] using stores_below (Nat.le_refl _) [.int .i64 x0] wr (j * 1) hb⟩
        · rw [over_len]; exact lp
        · have h3 := over_take [.i x0] ps (j * 1) (by simp; omega)
          rw [row_split (cs := cs), HRS'.out, ← tp, show (j + 1) * 1 = j * 1 + ([.i x0] : List Cel).length by simp]
          simpa using h3
      case measure => simp [intOf]; omega
    · obtain rfl : j = n := by omega
      have e : ps = cs := by rwa [List.take_of_length_le (by omega), List.take_of_length_le (by have := L2.out; omega)] at tp
      subst e
      go_wp2
      go_ret
      exact ⟨hb, _, S, rfl, ho⟩
theorem dInfoOp : (Tryd.prog.info? 31).map (fun i => (i.zero, i.size)) = some (some (.agg #[.int .i64 0, .int .i64 0, .int .i64 0]), 3) := by kernel_rfl
theorem dBytesOp : (Tryd.prog.info? 31).map (fun i => decide (i.bytes ≤ 1024)) = some true := by kernel_rfl
set_option maxHeartbeats 1000000 in
theorem dToOp (vs : List Value) (cs : List Cel) (w : World) (h : AtL false w vs cs) (hs : HasL cs tyOp) : Calls Tryd.prog 19 #[.agg vs.toArray] w (RetL w cs) := by
  obtain ⟨c0, r0, rfl, T0, hH0⟩ := hs.cons
  obtain ⟨c1, r1, rfl, T1, hH1⟩ := hH0.cons
  obtain ⟨c2, r2, rfl, T2, hH2⟩ := hH1.cons
  obtain rfl := hH2.nil
  obtain ⟨x0, rfl⟩ := T0.int
  obtain ⟨x1, rfl⟩ := T1.int
  obtain ⟨x2, rfl⟩ := T2.int
  obtain ⟨v0, vr0, rfl, A0, hA0⟩ := h.consE
  obtain ⟨v1, vr1, rfl, A1, hA1⟩ := hA0.consE
  obtain ⟨v2, vr2, rfl, A2, hA2⟩ := hA1.consE
  obtain rfl := hA2.nilE
  obtain rfl := A0.int
  obtain rfl := A1.int
  obtain rfl := A2.int
  obtain ⟨R, hR⟩ : ∃ R, Value.agg #[.int .i64 x0, .int .i64 x1, .int .i64 x2] = R := ⟨_, rfl⟩
  have HR : Hid (Value.agg #[.int .i64 x0, .int .i64 x1, .int .i64 x2] = R) := hR
  clear hR
  go_enter Tryd.func19, Tryd.ntmps19
  go_wp2
  (try simp only [Exit.inBlock, Exit.then])
  refine bodyPost_ret (by simp [results, Tryd.results19, go_sem]; try rfl) rfl ?_
  exact ⟨(((Below.refl _ _).alloc (Nat.le_refl _) _).alloc (by simp) _).alloc (by simp; omega) _, [.int .i64 x0, .int .i64 x1, .int .i64 x2], fun _ => False, rfl, OwnL.cons (S0 := fun _ => False) (S := fun _ => False) (.i x0 _ (fun _ h => h)) (OwnL.cons (S0 := fun _ => False) (S := fun _ => False) (.i x1 _ (fun _ h => h)) (OwnL.cons (S0 := fun _ => False) (S := fun _ => False) (.i x2 _ (fun _ h => h)) (OwnL.nil (fun _ h => h)) (fun _ h => h.elim) (fun _ => by simp)) (fun _ h => h.elim) (fun _ => by simp)) (fun _ h => h.elim) (fun _ => by simp)⟩
end Go.Proofs.YtkbodiggdajbeaaDoor

/- The laws' own functions on data. -/
namespace Go.Proofs.YtkbodiggdajbeaaDoor
open Go.ChangeShapes Go.WideShapes Go.ChangeAt Go.RowKit Go.Joins

theorem dInfoRes : (Tryd.prog.info? 32).map (fun i => (i.zero, i.size)) = some (some (.agg #[.int .i64 0, .slice none 0 0]), 2) := by kernel_rfl
theorem dBytesRes : (Tryd.prog.info? 32).map (fun i => decide (i.bytes ≤ 1024)) = some true := by kernel_rfl
set_option maxHeartbeats 2000000 in
theorem dToRes (vs : List Value) (cs : List Cel) (w : World) (h : AtL false w vs cs) (hs : HasL cs tyRes) : Calls Tryd.prog 20 #[.agg vs.toArray] w (RetL w cs) := by
  obtain ⟨c0, r0, rfl, T0, hH0⟩ := hs.cons
  obtain ⟨c1, r1, rfl, T1, hH1⟩ := hH0.cons
  obtain rfl := hH1.nil
  obtain ⟨v0, vr0, rfl, A0, hA0⟩ := h.consE
  obtain ⟨v1, vr1, rfl, A1, hA1⟩ := hA0.consE
  obtain rfl := hA1.nilE
  obtain ⟨x0, rfl⟩ := T0.int
  obtain rfl := A0.int
  have hA1' : Hid (At false w v1 c1) := A1
  obtain ⟨n1, cs1, rfl, -⟩ := T1.list
  have HT1 : Hid (Has (.l 3 1 n1 cs1) (.l 3 1 [.i])) := T1
  clear hs h hA0 hH0 hA1 hH1 T1 A1
  go_enter Tryd.func20, Tryd.ntmps20
  go_wp2_with fail
  have t0 := mk_new w #[.int .i64 x0, v1] #[.int .i64 0, .slice none 0 0] #[.int .i64 x0, .slice none 0 0] 26 32
  have m1 := (t0.num (v := .int .i64 x0) (c := .i x0) (fun _ => .i x0 _ (fun _ h => h)))
  refine (dToIntS v1 n1 cs1 _ (hA1'.out.on m1.b (Nat.le_refl _)) HT1.out).mono ?_
  rintro e w1 ⟨hb, u1, S1, rfl, ho⟩
  obtain ⟨q1, d1, rfl, -⟩ := ho.slice
  have m1' := m1.call1 hb ho
  have t1 : Hid (Mk w w1 #[.int .i64 x0, v1] #[.int .i64 0, .slice none 0 0] #[.int .i64 x0, .slice none 0 0] 26 32 _) := m1'
  have ax1_0 : w1.cell? ⟨w.heap.size, 0, none⟩ = some (.int .i64 x0) := t1.out.a.cell 0
  have cx1_0 : w1.cell? ⟨w.heap.size + 1 + 1, 0, none⟩ = some (.int .i64 x0) := t1.out.c.cell 0
  have fx1_0 : w1.frozen? ⟨w.heap.size + 1 + 1, 0, none⟩ = false := t1.out.c.frozen 0
  have ax1_1 : w1.cell? ⟨w.heap.size, 1, none⟩ = some (v1) := t1.out.a.cell 1
  have cx1_1 : w1.cell? ⟨w.heap.size + 1 + 1, 1, none⟩ = some (.slice none 0 0) := t1.out.c.cell 1
  have fx1_1 : w1.frozen? ⟨w.heap.size + 1 + 1, 1, none⟩ = false := t1.out.c.frozen 1
  have zx1_0 : w1.cell? ⟨w.heap.size + 1, 0, none⟩ = some (.int .i64 0) := t1.out.z.cell 0
  have gx1_0 : w1.frozen? ⟨w.heap.size + 1, 0, none⟩ = false := t1.out.z.frozen 0
  have zx1_1 : w1.cell? ⟨w.heap.size + 1, 1, none⟩ = some (.slice none 0 0) := t1.out.z.cell 1
  have gx1_1 : w1.frozen? ⟨w.heap.size + 1, 1, none⟩ = false := t1.out.z.frozen 1
  clear m1 m1' hb ho t0 
  go_wp2
  (try simp only [Exit.inBlock, Exit.then])
  refine bodyPost_ret (by simp [results, Tryd.results20, go_sem, zx1_0, zx1_1]; try rfl) rfl ?_
  have m := (((t1.out.store 1 ((.slice q1 n1 d1))).storeZ 0 (.int .i64 x0)).storeZ 1 ((.slice q1 n1 d1)))
  exact ⟨m.b, [.int .i64 x0, (.slice q1 n1 d1)], _, rfl, m.all⟩
theorem dInfoRows : (Tryd.prog.info? 42).map (fun i => (i.zero, i.size)) = some (some (.agg #[.slice none 0 0, .int .i64 0]), 2) := by kernel_rfl
theorem dBytesRows : (Tryd.prog.info? 42).map (fun i => decide (i.bytes ≤ 1024)) = some true := by kernel_rfl
set_option maxHeartbeats 2000000 in
theorem dToRows (vs : List Value) (cs : List Cel) (w : World) (h : AtL false w vs cs) (hs : HasL cs tyRows) : Calls Tryd.prog 12 #[.agg vs.toArray] w (RetL w cs) := by
  obtain ⟨c0, r0, rfl, T0, hH0⟩ := hs.cons
  obtain ⟨c1, r1, rfl, T1, hH1⟩ := hH0.cons
  obtain rfl := hH1.nil
  obtain ⟨v0, vr0, rfl, A0, hA0⟩ := h.consE
  obtain ⟨v1, vr1, rfl, A1, hA1⟩ := hA0.consE
  obtain rfl := hA1.nilE
  have hA0' : Hid (At false w v0 c0) := A0
  obtain ⟨x1, rfl⟩ := T1.int
  obtain rfl := A1.int
  obtain ⟨n0, cs0, rfl, -⟩ := T0.list
  have HT0 : Hid (Has (.l 3 1 n0 cs0) (.l 3 1 [.i])) := T0
  clear hs h hA0 hH0 hA1 hH1 T0 A0
  go_enter Tryd.func12, Tryd.ntmps12
  go_wp2_with fail
  have t0 := mk_new w #[v0, .int .i64 x1] #[.slice none 0 0, .int .i64 0] #[.slice none 0 0, .int .i64 0] 39 42
  have m1 := t0
  refine (dToIntS v0 n0 cs0 _ (hA0'.out.on m1.b (Nat.le_refl _)) HT0.out).mono ?_
  rintro e w1 ⟨hb, u0, S0, rfl, ho⟩
  obtain ⟨q0, d0, rfl, -⟩ := ho.slice
  have m1' := m1.call1 hb ho
  have t1 : Hid (Mk w w1 #[v0, .int .i64 x1] #[.slice none 0 0, .int .i64 0] #[.slice none 0 0, .int .i64 0] 39 42 _) := m1'
  have ax1_0 : w1.cell? ⟨w.heap.size, 0, none⟩ = some (v0) := t1.out.a.cell 0
  have cx1_0 : w1.cell? ⟨w.heap.size + 1 + 1, 0, none⟩ = some (.slice none 0 0) := t1.out.c.cell 0
  have fx1_0 : w1.frozen? ⟨w.heap.size + 1 + 1, 0, none⟩ = false := t1.out.c.frozen 0
  have ax1_1 : w1.cell? ⟨w.heap.size, 1, none⟩ = some (.int .i64 x1) := t1.out.a.cell 1
  have cx1_1 : w1.cell? ⟨w.heap.size + 1 + 1, 1, none⟩ = some (.int .i64 0) := t1.out.c.cell 1
  have fx1_1 : w1.frozen? ⟨w.heap.size + 1 + 1, 1, none⟩ = false := t1.out.c.frozen 1
  have zx1_0 : w1.cell? ⟨w.heap.size + 1, 0, none⟩ = some (.slice none 0 0) := t1.out.z.cell 0
  have gx1_0 : w1.frozen? ⟨w.heap.size + 1, 0, none⟩ = false := t1.out.z.frozen 0
  have zx1_1 : w1.cell? ⟨w.heap.size + 1, 1, none⟩ = some (.int .i64 0) := t1.out.z.cell 1
  have gx1_1 : w1.frozen? ⟨w.heap.size + 1, 1, none⟩ = false := t1.out.z.frozen 1
  clear m1 m1' hb ho t0 
  go_wp2
  (try simp only [Exit.inBlock, Exit.then])
  refine bodyPost_ret (by simp [results, Tryd.results12, go_sem, zx1_0, zx1_1]; try rfl) rfl ?_
  have m := (((((t1.out.store 0 ((.slice q0 n0 d0))).store 1 (.int .i64 x1)).num (v := .int .i64 x1) (c := .i x1) (fun _ => .i x1 _ (fun _ h => h))).storeZ 0 ((.slice q0 n0 d0))).storeZ 1 (.int .i64 x1))
  exact ⟨m.b, [(.slice q0 n0 d0), .int .i64 x1], _, rfl, m.all⟩
end Go.Proofs.YtkbodiggdajbeaaDoor

/- The laws' own functions on data. -/
namespace Go.Proofs.YtkbodiggdajbeaaDoor
open Go.ChangeShapes Go.WideShapes Go.ChangeAt Go.RowKit Go.Joins

theorem dInfoCall : (Tryd.prog.info? 34).map (fun i => (i.zero, i.size)) = some (some (.agg #[.int .i64 0, .int .i64 0, .int .i64 0, .int .i64 0, .int .i64 0, .int .i64 0, .int .i64 0, .int .i64 0, .slice none 0 0]), 9) := by kernel_rfl
theorem dBytesCall : (Tryd.prog.info? 34).map (fun i => decide (i.bytes ≤ 1024)) = some true := by kernel_rfl
set_option maxHeartbeats 2000000 in
theorem dToCall (vs : List Value) (cs : List Cel) (w : World) (h : AtL false w vs cs) (hs : HasL cs tyCall) : Calls Tryd.prog 7 #[.agg vs.toArray] w (RetL w cs) := by
  obtain ⟨c0, r0, rfl, T0, hH0⟩ := hs.cons
  obtain ⟨c1, r1, rfl, T1, hH1⟩ := hH0.cons
  obtain ⟨c2, r2, rfl, T2, hH2⟩ := hH1.cons
  obtain ⟨c3, r3, rfl, T3, hH3⟩ := hH2.cons
  obtain ⟨c4, r4, rfl, T4, hH4⟩ := hH3.cons
  obtain ⟨c5, r5, rfl, T5, hH5⟩ := hH4.cons
  obtain ⟨c6, r6, rfl, T6, hH6⟩ := hH5.cons
  obtain ⟨c7, r7, rfl, T7, hH7⟩ := hH6.cons
  obtain ⟨c8, r8, rfl, T8, hH8⟩ := hH7.cons
  obtain rfl := hH8.nil
  obtain ⟨v0, vr0, rfl, A0, hA0⟩ := h.consE
  obtain ⟨v1, vr1, rfl, A1, hA1⟩ := hA0.consE
  obtain ⟨v2, vr2, rfl, A2, hA2⟩ := hA1.consE
  obtain ⟨v3, vr3, rfl, A3, hA3⟩ := hA2.consE
  obtain ⟨v4, vr4, rfl, A4, hA4⟩ := hA3.consE
  obtain ⟨v5, vr5, rfl, A5, hA5⟩ := hA4.consE
  obtain ⟨v6, vr6, rfl, A6, hA6⟩ := hA5.consE
  obtain ⟨v7, vr7, rfl, A7, hA7⟩ := hA6.consE
  obtain ⟨v8, vr8, rfl, A8, hA8⟩ := hA7.consE
  obtain rfl := hA8.nilE
  obtain ⟨x0, rfl⟩ := T0.int
  obtain rfl := A0.int
  obtain ⟨x1, rfl⟩ := T1.int
  obtain rfl := A1.int
  obtain ⟨x2, rfl⟩ := T2.int
  obtain rfl := A2.int
  obtain ⟨x3, rfl⟩ := T3.int
  obtain rfl := A3.int
  obtain ⟨x4, rfl⟩ := T4.int
  obtain rfl := A4.int
  obtain ⟨x5, rfl⟩ := T5.int
  obtain rfl := A5.int
  obtain ⟨x6, rfl⟩ := T6.int
  obtain rfl := A6.int
  obtain ⟨x7, rfl⟩ := T7.int
  obtain rfl := A7.int
  have hA8' : Hid (At false w v8 c8) := A8
  obtain ⟨n8, cs8, rfl, -⟩ := T8.list
  have HT8 : Hid (Has (.l 3 1 n8 cs8) (.l 3 1 [.i])) := T8
  have HN1 : Hid (AtL false w [.int .i64 x1, .int .i64 x2, .int .i64 x3] [.i x1, .i x2, .i x3]) := AtL.cons (.i x1) (AtL.cons (.i x2) (AtL.cons (.i x3) (AtL.nil)))
  have HH1 : Hid (HasL [.i x1, .i x2, .i x3] tyOp) := ⟨rfl, fun j c t hc ht => by
    have hj : j < 3 := by have := (List.getElem?_eq_some_iff.1 hc).1; simpa using this
    rcases (show j = 0 ∨ j = 1 ∨ j = 2 by omega) with rfl | rfl | rfl <;> (simp [tyOp] at hc ht; subst hc ht)
    · exact .i x1
    · exact .i x2
    · exact .i x3⟩
  have HN7 : Hid (AtL false w [.int .i64 x7, v8] [.i x7, .l 3 1 n8 cs8]) := AtL.cons (.i x7) (AtL.cons (hA8'.out) (AtL.nil))
  have HH7 : Hid (HasL [.i x7, .l 3 1 n8 cs8] tyRes) := ⟨rfl, fun j c t hc ht => by
    have hj : j < 2 := by have := (List.getElem?_eq_some_iff.1 hc).1; simpa using this
    rcases (show j = 0 ∨ j = 1 by omega) with rfl | rfl <;> (simp [tyRes] at hc ht; subst hc ht)
    · exact .i x7
    · exact HT8.out⟩
  clear hs h hA0 hH0 hA1 hH1 hA2 hH2 hA3 hH3 hA4 hH4 hA5 hH5 hA6 hH6 hA7 hH7 hA8 hH8 T8 A8
  go_enter Tryd.func7, Tryd.ntmps7
  go_wp2_with fail
  have t0 := mk_new w #[.int .i64 x0, .int .i64 x1, .int .i64 x2, .int .i64 x3, .int .i64 x4, .int .i64 x5, .int .i64 x6, .int .i64 x7, v8] #[.int .i64 0, .int .i64 0, .int .i64 0, .int .i64 0, .int .i64 0, .int .i64 0, .int .i64 0, .int .i64 0, .slice none 0 0] #[.int .i64 x0, .int .i64 0, .int .i64 0, .int .i64 0, .int .i64 0, .int .i64 0, .int .i64 0, .int .i64 0, .slice none 0 0] 28 34
  have m1 := (t0.num (v := .int .i64 x0) (c := .i x0) (fun _ => .i x0 _ (fun _ h => h)))
  refine (dToOp [.int .i64 x1, .int .i64 x2, .int .i64 x3] [.i x1, .i x2, .i x3] _ (HN1.out.on m1.b (Nat.le_refl _)) HH1.out).mono ?_
  rintro e w1 ⟨hb, us, S1, rfl, ho⟩
  have hU := ho.at
  obtain ⟨u1, ur1, rfl, U1, hU1⟩ := hU.consE
  obtain ⟨u2, ur2, rfl, U2, hU2⟩ := hU1.consE
  obtain ⟨u3, ur3, rfl, U3, hU3⟩ := hU2.consE
  obtain rfl := hU3.nilE
  obtain rfl := U1.int
  obtain rfl := U2.int
  obtain rfl := U3.int
  have m1' := m1.call hb ho
  clear hU U1 hU1 U2 hU2 U3 hU3
  have t1 : Hid (Mk w w1 #[.int .i64 x0, .int .i64 x1, .int .i64 x2, .int .i64 x3, .int .i64 x4, .int .i64 x5, .int .i64 x6, .int .i64 x7, v8] #[.int .i64 0, .int .i64 0, .int .i64 0, .int .i64 0, .int .i64 0, .int .i64 0, .int .i64 0, .int .i64 0, .slice none 0 0] #[.int .i64 x0, .int .i64 0, .int .i64 0, .int .i64 0, .int .i64 0, .int .i64 0, .int .i64 0, .int .i64 0, .slice none 0 0] 28 34 _) := m1'
  have ax1_0 : w1.cell? ⟨w.heap.size, 0, none⟩ = some (.int .i64 x0) := t1.out.a.cell 0
  have cx1_0 : w1.cell? ⟨w.heap.size + 1 + 1, 0, none⟩ = some (.int .i64 x0) := t1.out.c.cell 0
  have fx1_0 : w1.frozen? ⟨w.heap.size + 1 + 1, 0, none⟩ = false := t1.out.c.frozen 0
  have ax1_1 : w1.cell? ⟨w.heap.size, 1, none⟩ = some (.int .i64 x1) := t1.out.a.cell 1
  have cx1_1 : w1.cell? ⟨w.heap.size + 1 + 1, 1, none⟩ = some (.int .i64 0) := t1.out.c.cell 1
  have fx1_1 : w1.frozen? ⟨w.heap.size + 1 + 1, 1, none⟩ = false := t1.out.c.frozen 1
  have ax1_2 : w1.cell? ⟨w.heap.size, 2, none⟩ = some (.int .i64 x2) := t1.out.a.cell 2
  have cx1_2 : w1.cell? ⟨w.heap.size + 1 + 1, 2, none⟩ = some (.int .i64 0) := t1.out.c.cell 2
  have fx1_2 : w1.frozen? ⟨w.heap.size + 1 + 1, 2, none⟩ = false := t1.out.c.frozen 2
  have ax1_3 : w1.cell? ⟨w.heap.size, 3, none⟩ = some (.int .i64 x3) := t1.out.a.cell 3
  have cx1_3 : w1.cell? ⟨w.heap.size + 1 + 1, 3, none⟩ = some (.int .i64 0) := t1.out.c.cell 3
  have fx1_3 : w1.frozen? ⟨w.heap.size + 1 + 1, 3, none⟩ = false := t1.out.c.frozen 3
  have ax1_4 : w1.cell? ⟨w.heap.size, 4, none⟩ = some (.int .i64 x4) := t1.out.a.cell 4
  have cx1_4 : w1.cell? ⟨w.heap.size + 1 + 1, 4, none⟩ = some (.int .i64 0) := t1.out.c.cell 4
  have fx1_4 : w1.frozen? ⟨w.heap.size + 1 + 1, 4, none⟩ = false := t1.out.c.frozen 4
  have ax1_5 : w1.cell? ⟨w.heap.size, 5, none⟩ = some (.int .i64 x5) := t1.out.a.cell 5
  have cx1_5 : w1.cell? ⟨w.heap.size + 1 + 1, 5, none⟩ = some (.int .i64 0) := t1.out.c.cell 5
  have fx1_5 : w1.frozen? ⟨w.heap.size + 1 + 1, 5, none⟩ = false := t1.out.c.frozen 5
  have ax1_6 : w1.cell? ⟨w.heap.size, 6, none⟩ = some (.int .i64 x6) := t1.out.a.cell 6
  have cx1_6 : w1.cell? ⟨w.heap.size + 1 + 1, 6, none⟩ = some (.int .i64 0) := t1.out.c.cell 6
  have fx1_6 : w1.frozen? ⟨w.heap.size + 1 + 1, 6, none⟩ = false := t1.out.c.frozen 6
  have ax1_7 : w1.cell? ⟨w.heap.size, 7, none⟩ = some (.int .i64 x7) := t1.out.a.cell 7
  have cx1_7 : w1.cell? ⟨w.heap.size + 1 + 1, 7, none⟩ = some (.int .i64 0) := t1.out.c.cell 7
  have fx1_7 : w1.frozen? ⟨w.heap.size + 1 + 1, 7, none⟩ = false := t1.out.c.frozen 7
  have ax1_8 : w1.cell? ⟨w.heap.size, 8, none⟩ = some (v8) := t1.out.a.cell 8
  have cx1_8 : w1.cell? ⟨w.heap.size + 1 + 1, 8, none⟩ = some (.slice none 0 0) := t1.out.c.cell 8
  have fx1_8 : w1.frozen? ⟨w.heap.size + 1 + 1, 8, none⟩ = false := t1.out.c.frozen 8
  have zx1_0 : w1.cell? ⟨w.heap.size + 1, 0, none⟩ = some (.int .i64 0) := t1.out.z.cell 0
  have gx1_0 : w1.frozen? ⟨w.heap.size + 1, 0, none⟩ = false := t1.out.z.frozen 0
  have zx1_1 : w1.cell? ⟨w.heap.size + 1, 1, none⟩ = some (.int .i64 0) := t1.out.z.cell 1
  have gx1_1 : w1.frozen? ⟨w.heap.size + 1, 1, none⟩ = false := t1.out.z.frozen 1
  have zx1_2 : w1.cell? ⟨w.heap.size + 1, 2, none⟩ = some (.int .i64 0) := t1.out.z.cell 2
  have gx1_2 : w1.frozen? ⟨w.heap.size + 1, 2, none⟩ = false := t1.out.z.frozen 2
  have zx1_3 : w1.cell? ⟨w.heap.size + 1, 3, none⟩ = some (.int .i64 0) := t1.out.z.cell 3
  have gx1_3 : w1.frozen? ⟨w.heap.size + 1, 3, none⟩ = false := t1.out.z.frozen 3
  have zx1_4 : w1.cell? ⟨w.heap.size + 1, 4, none⟩ = some (.int .i64 0) := t1.out.z.cell 4
  have gx1_4 : w1.frozen? ⟨w.heap.size + 1, 4, none⟩ = false := t1.out.z.frozen 4
  have zx1_5 : w1.cell? ⟨w.heap.size + 1, 5, none⟩ = some (.int .i64 0) := t1.out.z.cell 5
  have gx1_5 : w1.frozen? ⟨w.heap.size + 1, 5, none⟩ = false := t1.out.z.frozen 5
  have zx1_6 : w1.cell? ⟨w.heap.size + 1, 6, none⟩ = some (.int .i64 0) := t1.out.z.cell 6
  have gx1_6 : w1.frozen? ⟨w.heap.size + 1, 6, none⟩ = false := t1.out.z.frozen 6
  have zx1_7 : w1.cell? ⟨w.heap.size + 1, 7, none⟩ = some (.int .i64 0) := t1.out.z.cell 7
  have gx1_7 : w1.frozen? ⟨w.heap.size + 1, 7, none⟩ = false := t1.out.z.frozen 7
  have zx1_8 : w1.cell? ⟨w.heap.size + 1, 8, none⟩ = some (.slice none 0 0) := t1.out.z.cell 8
  have gx1_8 : w1.frozen? ⟨w.heap.size + 1, 8, none⟩ = false := t1.out.z.frozen 8
  clear m1 m1' hb ho t0 
  go_wp2_with fail
  have t1' := (((t1.out.store 1 (.int .i64 x1)).store 2 (.int .i64 x2)).store 3 (.int .i64 x3))
  have t1 : Hid (Mk w _ _ _ _ 28 34 _) := t1'
  clear t1'
  have m2 := ((((((t1.out.store 4 (.int .i64 x4)).store 5 (.int .i64 x5)).store 6 (.int .i64 x6)).num (v := .int .i64 x4) (c := .i x4) (fun _ => .i x4 _ (fun _ h => h))).num (v := .int .i64 x5) (c := .i x5) (fun _ => .i x5 _ (fun _ h => h))).num (v := .int .i64 x6) (c := .i x6) (fun _ => .i x6 _ (fun _ h => h)))
  refine (dToRes [.int .i64 x7, v8] [.i x7, .l 3 1 n8 cs8] _ (HN7.out.on m2.b (Nat.le_refl _)) HH7.out).mono ?_
  rintro e w2 ⟨hb, us, S7, rfl, ho⟩
  have hU := ho.at
  obtain ⟨u7, ur7, rfl, U7, hU7⟩ := hU.consE
  obtain ⟨u8, ur8, rfl, U8, hU8⟩ := hU7.consE
  obtain rfl := hU8.nilE
  obtain rfl := U7.int
  obtain ⟨q8, d8, rfl⟩ := U8.slice
  have m2' := m2.call hb ho
  clear hU U7 hU7 U8 hU8
  have t2 : Hid (Mk w w2 #[.int .i64 x0, .int .i64 x1, .int .i64 x2, .int .i64 x3, .int .i64 x4, .int .i64 x5, .int .i64 x6, .int .i64 x7, v8] #[.int .i64 0, .int .i64 0, .int .i64 0, .int .i64 0, .int .i64 0, .int .i64 0, .int .i64 0, .int .i64 0, .slice none 0 0] #[.int .i64 x0, (.int .i64 x1), (.int .i64 x2), (.int .i64 x3), .int .i64 x4, .int .i64 x5, .int .i64 x6, .int .i64 0, .slice none 0 0] 28 34 _) := m2'
  have ax2_0 : w2.cell? ⟨w.heap.size, 0, none⟩ = some (.int .i64 x0) := t2.out.a.cell 0
  have cx2_0 : w2.cell? ⟨w.heap.size + 1 + 1, 0, none⟩ = some (.int .i64 x0) := t2.out.c.cell 0
  have fx2_0 : w2.frozen? ⟨w.heap.size + 1 + 1, 0, none⟩ = false := t2.out.c.frozen 0
  have ax2_1 : w2.cell? ⟨w.heap.size, 1, none⟩ = some (.int .i64 x1) := t2.out.a.cell 1
  have cx2_1 : w2.cell? ⟨w.heap.size + 1 + 1, 1, none⟩ = some ((.int .i64 x1)) := t2.out.c.cell 1
  have fx2_1 : w2.frozen? ⟨w.heap.size + 1 + 1, 1, none⟩ = false := t2.out.c.frozen 1
  have ax2_2 : w2.cell? ⟨w.heap.size, 2, none⟩ = some (.int .i64 x2) := t2.out.a.cell 2
  have cx2_2 : w2.cell? ⟨w.heap.size + 1 + 1, 2, none⟩ = some ((.int .i64 x2)) := t2.out.c.cell 2
  have fx2_2 : w2.frozen? ⟨w.heap.size + 1 + 1, 2, none⟩ = false := t2.out.c.frozen 2
  have ax2_3 : w2.cell? ⟨w.heap.size, 3, none⟩ = some (.int .i64 x3) := t2.out.a.cell 3
  have cx2_3 : w2.cell? ⟨w.heap.size + 1 + 1, 3, none⟩ = some ((.int .i64 x3)) := t2.out.c.cell 3
  have fx2_3 : w2.frozen? ⟨w.heap.size + 1 + 1, 3, none⟩ = false := t2.out.c.frozen 3
  have ax2_4 : w2.cell? ⟨w.heap.size, 4, none⟩ = some (.int .i64 x4) := t2.out.a.cell 4
  have cx2_4 : w2.cell? ⟨w.heap.size + 1 + 1, 4, none⟩ = some (.int .i64 x4) := t2.out.c.cell 4
  have fx2_4 : w2.frozen? ⟨w.heap.size + 1 + 1, 4, none⟩ = false := t2.out.c.frozen 4
  have ax2_5 : w2.cell? ⟨w.heap.size, 5, none⟩ = some (.int .i64 x5) := t2.out.a.cell 5
  have cx2_5 : w2.cell? ⟨w.heap.size + 1 + 1, 5, none⟩ = some (.int .i64 x5) := t2.out.c.cell 5
  have fx2_5 : w2.frozen? ⟨w.heap.size + 1 + 1, 5, none⟩ = false := t2.out.c.frozen 5
  have ax2_6 : w2.cell? ⟨w.heap.size, 6, none⟩ = some (.int .i64 x6) := t2.out.a.cell 6
  have cx2_6 : w2.cell? ⟨w.heap.size + 1 + 1, 6, none⟩ = some (.int .i64 x6) := t2.out.c.cell 6
  have fx2_6 : w2.frozen? ⟨w.heap.size + 1 + 1, 6, none⟩ = false := t2.out.c.frozen 6
  have ax2_7 : w2.cell? ⟨w.heap.size, 7, none⟩ = some (.int .i64 x7) := t2.out.a.cell 7
  have cx2_7 : w2.cell? ⟨w.heap.size + 1 + 1, 7, none⟩ = some (.int .i64 0) := t2.out.c.cell 7
  have fx2_7 : w2.frozen? ⟨w.heap.size + 1 + 1, 7, none⟩ = false := t2.out.c.frozen 7
  have ax2_8 : w2.cell? ⟨w.heap.size, 8, none⟩ = some (v8) := t2.out.a.cell 8
  have cx2_8 : w2.cell? ⟨w.heap.size + 1 + 1, 8, none⟩ = some (.slice none 0 0) := t2.out.c.cell 8
  have fx2_8 : w2.frozen? ⟨w.heap.size + 1 + 1, 8, none⟩ = false := t2.out.c.frozen 8
  have zx2_0 : w2.cell? ⟨w.heap.size + 1, 0, none⟩ = some (.int .i64 0) := t2.out.z.cell 0
  have gx2_0 : w2.frozen? ⟨w.heap.size + 1, 0, none⟩ = false := t2.out.z.frozen 0
  have zx2_1 : w2.cell? ⟨w.heap.size + 1, 1, none⟩ = some (.int .i64 0) := t2.out.z.cell 1
  have gx2_1 : w2.frozen? ⟨w.heap.size + 1, 1, none⟩ = false := t2.out.z.frozen 1
  have zx2_2 : w2.cell? ⟨w.heap.size + 1, 2, none⟩ = some (.int .i64 0) := t2.out.z.cell 2
  have gx2_2 : w2.frozen? ⟨w.heap.size + 1, 2, none⟩ = false := t2.out.z.frozen 2
  have zx2_3 : w2.cell? ⟨w.heap.size + 1, 3, none⟩ = some (.int .i64 0) := t2.out.z.cell 3
  have gx2_3 : w2.frozen? ⟨w.heap.size + 1, 3, none⟩ = false := t2.out.z.frozen 3
  have zx2_4 : w2.cell? ⟨w.heap.size + 1, 4, none⟩ = some (.int .i64 0) := t2.out.z.cell 4
  have gx2_4 : w2.frozen? ⟨w.heap.size + 1, 4, none⟩ = false := t2.out.z.frozen 4
  have zx2_5 : w2.cell? ⟨w.heap.size + 1, 5, none⟩ = some (.int .i64 0) := t2.out.z.cell 5
  have gx2_5 : w2.frozen? ⟨w.heap.size + 1, 5, none⟩ = false := t2.out.z.frozen 5
  have zx2_6 : w2.cell? ⟨w.heap.size + 1, 6, none⟩ = some (.int .i64 0) := t2.out.z.cell 6
  have gx2_6 : w2.frozen? ⟨w.heap.size + 1, 6, none⟩ = false := t2.out.z.frozen 6
  have zx2_7 : w2.cell? ⟨w.heap.size + 1, 7, none⟩ = some (.int .i64 0) := t2.out.z.cell 7
  have gx2_7 : w2.frozen? ⟨w.heap.size + 1, 7, none⟩ = false := t2.out.z.frozen 7
  have zx2_8 : w2.cell? ⟨w.heap.size + 1, 8, none⟩ = some (.slice none 0 0) := t2.out.z.cell 8
  have gx2_8 : w2.frozen? ⟨w.heap.size + 1, 8, none⟩ = false := t2.out.z.frozen 8
  clear m2 m2' hb ho  ax1_0 cx1_0 fx1_0 zx1_0 gx1_0 ax1_1 cx1_1 fx1_1 zx1_1 gx1_1 ax1_2 cx1_2 fx1_2 zx1_2 gx1_2 ax1_3 cx1_3 fx1_3 zx1_3 gx1_3 ax1_4 cx1_4 fx1_4 zx1_4 gx1_4 ax1_5 cx1_5 fx1_5 zx1_5 gx1_5 ax1_6 cx1_6 fx1_6 zx1_6 gx1_6 ax1_7 cx1_7 fx1_7 zx1_7 gx1_7 ax1_8 cx1_8 fx1_8 zx1_8 gx1_8
  go_wp2
  (try simp only [Exit.inBlock, Exit.then])
  refine bodyPost_ret (by simp [results, Tryd.results7, go_sem, zx2_0, zx2_1, zx2_2, zx2_3, zx2_4, zx2_5, zx2_6, zx2_7, zx2_8]; try rfl) rfl ?_
  have m := (((((((((((t2.out.store 7 ((.int .i64 x7))).store 8 ((.slice q8 n8 d8))).storeZ 0 (.int .i64 x0)).storeZ 1 ((.int .i64 x1))).storeZ 2 ((.int .i64 x2))).storeZ 3 ((.int .i64 x3))).storeZ 4 (.int .i64 x4)).storeZ 5 (.int .i64 x5)).storeZ 6 (.int .i64 x6)).storeZ 7 ((.int .i64 x7))).storeZ 8 ((.slice q8 n8 d8)))
  exact ⟨m.b, [.int .i64 x0, (.int .i64 x1), (.int .i64 x2), (.int .i64 x3), .int .i64 x4, .int .i64 x5, .int .i64 x6, (.int .i64 x7), (.slice q8 n8 d8)], _, rfl, m.all⟩
end Go.Proofs.YtkbodiggdajbeaaDoor

/- The laws' own functions on data. -/
namespace Go.Proofs.YtkbodiggdajbeaaDoor
open Go.ChangeShapes Go.WideShapes Go.ChangeAt Go.RowKit Go.Joins

set_option maxHeartbeats 2000000 in
theorem dEqIntS (v u : Value) (n : Nat) (cs : List Cel) (w : World) (h : At false w v (.l 3 1 n cs)) (h' : At false w u (.l 3 1 n cs)) (hs : Has (.l 3 1 n cs) (.l 3 1 [.i])) :
    Calls Tryd.prog 30 #[v, u] w (Yes w) := by
  obtain ⟨a, c, vs, rfl, h1, h2, hn, -, h3, h4⟩ := h.openL
  have SRC : Hid (n = 0 ∨ ∃ b o, a = some ⟨b, o, none⟩ ∧ ∀ j, j < n * 1 → w.cell? ⟨b, o + j, none⟩ = vs[j]?) := h3
  have HV : Hid (∀ j, j < n → AtL false w ((vs.drop (j * 1)).take 1) (row cs 1 j)) := fun j hj => rowVals h1 h2 h4 hj
  have Lvs : Hid (vs.length = n * 1) := h1
  clear h1 h2 h3 h4 hn
  obtain ⟨a', c', us, rfl, h1, h2, hn, -, h3, h4⟩ := h'.openL
  have SRD : Hid (n = 0 ∨ ∃ b o, a' = some ⟨b, o, none⟩ ∧ ∀ j, j < n * 1 → w.cell? ⟨b, o + j, none⟩ = us[j]?) := h3
  have HU : Hid (∀ j, j < n → AtL false w ((us.drop (j * 1)).take 1) (row cs 1 j)) := fun j hj => rowVals h1 h2 h4 hj
  have Lus : Hid (us.length = n * 1) := h1
  clear h1 h2 h3 h4 
  have HR : Hid (∀ j, j < n → HasL (row cs 1 j) [.i]) := fun j hj => hs.rowL hj
  clear h h' hs
  go_enter Tryd.func30, Tryd.ntmps30
  go_wp2
  go_loopw [5] (fun i wr => ∃ j : Nat, j ≤ n ∧ i = .int .i64 j ∧ Below w.heap.size w wr) (fun i _ => n - (intOf i).toNat)
  case atStart => exact ⟨0, Nat.zero_le _, rfl, Below.refl _ _⟩
  case round =>
    obtain ⟨j, hj, rfl, hb⟩ := hrel
    by_cases hlt : j < n
    · have hk0 : (0 : Int) ≤ (j : Int) := by omega
      have hk1 : (j : Int) < (n : Int) := by omega
      have hle : j * 1 + 1 ≤ n * 1 := by omega
      have hH := HR.out j hlt
      obtain ⟨rs, hrs⟩ : ∃ rs, row cs 1 j = rs := ⟨_, rfl⟩
      rw [hrs] at hH
      rcases SRC.out with h0 | ⟨p1, o1, rfl, g1⟩
      · omega
      have hA := HV.out j hlt
      have ce : ∀ i, i < 1 → wr.cell? ⟨p1, o1 + (j * 1 + i), none⟩ = ((vs.drop (j * 1)).take 1)[i]? := fun i hi => by
        have h5 := g1 (j * 1 + i) (by omega)
        rw [List.getElem?_take_of_lt hi, List.getElem?_drop, ← h5]
        have h6 : w.cell? ⟨p1, o1 + (j * 1 + i), none⟩ = some (vs[j * 1 + i]'(by have := Lvs.out; omega)) := by rw [h5, List.getElem?_eq_getElem (by have := Lvs.out; omega)]
        exact hb.cell (show p1 < w.heap.size from World.block_lt_of_cell? w _ h6)
      obtain ⟨ws, hws⟩ : ∃ ws, (vs.drop (j * 1)).take 1 = ws := ⟨_, rfl⟩
      rw [hrs] at hA
      rw [hws] at hA ce
      clear g1 hws
      rcases SRD.out with h0 | ⟨p2, o2, rfl, g2⟩
      · omega
      have hB := HU.out j hlt
      have cf : ∀ i, i < 1 → wr.cell? ⟨p2, o2 + (j * 1 + i), none⟩ = ((us.drop (j * 1)).take 1)[i]? := fun i hi => by
        have h5 := g2 (j * 1 + i) (by omega)
        rw [List.getElem?_take_of_lt hi, List.getElem?_drop, ← h5]
        have h6 : w.cell? ⟨p2, o2 + (j * 1 + i), none⟩ = some (us[j * 1 + i]'(by have := Lus.out; omega)) := by rw [h5, List.getElem?_eq_getElem (by have := Lus.out; omega)]
        exact hb.cell (show p2 < w.heap.size from World.block_lt_of_cell? w _ h6)
      obtain ⟨ws', hws⟩ : ∃ ws, (us.drop (j * 1)).take 1 = ws := ⟨_, rfl⟩
      rw [hrs] at hB
      rw [hws] at hB cf
      clear g2 hws
      obtain ⟨c0, r0, rfl, T0, hH0⟩ := hH.cons
      obtain rfl := hH0.nil
      have HL0 : Hid (HasL [c0] [.i]) := hH
      obtain ⟨v0, vr0, rfl, A0, hA0⟩ := hA.consE
      obtain rfl := hA0.nilE
      obtain ⟨u0, ur0, rfl, B0, hB0⟩ := hB.consE
      obtain rfl := hB0.nilE
      have HA0 : Hid (AtL false w [v0] [c0]) := hA
      have HB0 : Hid (AtL false w [u0] [c0]) := hB
      have e0 : wr.cell? ⟨p1, o1 + j * 1, none⟩ = some v0 := ce 0 (by omega)
      have f0 : wr.cell? ⟨p2, o2 + j * 1, none⟩ = some u0 := cf 0 (by omega)
      obtain ⟨x0, rfl⟩ := T0.int
      obtain rfl := A0.int
      obtain rfl := B0.int
      simp only [Nat.mul_one] at e0 f0
      have ne0 : (x0 != x0) = false := by simp
      clear ce cf hrs hA0 hB0 hH0 hA hB hH T0 A0 B0
      go_wp2
      go_region
      go_wp2
      exact ⟨⟨j + 1, by omega, by go_num, hb.drew⟩, by simp [intOf]; omega⟩
    · obtain rfl : j = n := by omega
      go_wp2
      go_ret
      exact ⟨rfl, hb⟩
set_option maxHeartbeats 2000000 in
theorem dEqOp (vs us : List Value) (cs : List Cel) (w : World) (h : AtL false w vs cs) (h' : AtL false w us cs) (hs : HasL cs tyOp) : Calls Tryd.prog 24 #[.agg vs.toArray, .agg us.toArray] w (Yes w) := by
  obtain ⟨c0, r0, rfl, T0, hH0⟩ := hs.cons
  obtain ⟨c1, r1, rfl, T1, hH1⟩ := hH0.cons
  obtain ⟨c2, r2, rfl, T2, hH2⟩ := hH1.cons
  obtain rfl := hH2.nil
  obtain ⟨v0, vr0, rfl, A0, hA0⟩ := h.consE
  obtain ⟨v1, vr1, rfl, A1, hA1⟩ := hA0.consE
  obtain ⟨v2, vr2, rfl, A2, hA2⟩ := hA1.consE
  obtain rfl := hA2.nilE
  obtain ⟨u0, ur0, rfl, B0, hB0⟩ := h'.consE
  obtain ⟨u1, ur1, rfl, B1, hB1⟩ := hB0.consE
  obtain ⟨u2, ur2, rfl, B2, hB2⟩ := hB1.consE
  obtain rfl := hB2.nilE
  obtain ⟨x0, rfl⟩ := T0.int
  obtain rfl := A0.int
  obtain rfl := B0.int
  have ne0 : (x0 != x0) = false := by simp
  obtain ⟨x1, rfl⟩ := T1.int
  obtain rfl := A1.int
  obtain rfl := B1.int
  have ne1 : (x1 != x1) = false := by simp
  obtain ⟨x2, rfl⟩ := T2.int
  obtain rfl := A2.int
  obtain rfl := B2.int
  have ne2 : (x2 != x2) = false := by simp
  clear hs h h' hA0 hB0 hH0 T0 A0 B0 hA1 hB1 hH1 T1 A1 B1 hA2 hB2 hH2 T2 A2 B2
  obtain ⟨W, hW⟩ : ∃ W, (w.alloc (.cells #[.int .i64 x0, .int .i64 x1, .int .i64 x2] 31)).alloc (.cells #[.int .i64 x0, .int .i64 x1, .int .i64 x2] 31) = W := ⟨_, rfl⟩
  have t0 : Hid (Two w W #[.int .i64 x0, .int .i64 x1, .int .i64 x2] #[.int .i64 x0, .int .i64 x1, .int .i64 x2] 31) := by rw [← hW]; exact two_new w _ _ _
  have HW : Hid _ := hW
  clear hW
  go_enter Tryd.func24, Tryd.ntmps24
  go_upto_region 1 with (fail)
  rw [HW.out]
  have ax0 : W.cell? ⟨w.heap.size, 0, none⟩ = some (.int .i64 x0) := t0.out.a.cell 0
  have bx0 : W.cell? ⟨w.heap.size + 1, 0, none⟩ = some (.int .i64 x0) := t0.out.b.cell 0
  have ax1 : W.cell? ⟨w.heap.size, 1, none⟩ = some (.int .i64 x1) := t0.out.a.cell 1
  have bx1 : W.cell? ⟨w.heap.size + 1, 1, none⟩ = some (.int .i64 x1) := t0.out.b.cell 1
  have ax2 : W.cell? ⟨w.heap.size, 2, none⟩ = some (.int .i64 x2) := t0.out.a.cell 2
  have bx2 : W.cell? ⟨w.heap.size + 1, 2, none⟩ = some (.int .i64 x2) := t0.out.b.cell 2
  go_wp2
  go_ret
  exact ⟨rfl, t0.out.on⟩
set_option maxHeartbeats 2000000 in
theorem dEqRes (vs us : List Value) (cs : List Cel) (w : World) (h : AtL false w vs cs) (h' : AtL false w us cs) (hs : HasL cs tyRes) : Calls Tryd.prog 25 #[.agg vs.toArray, .agg us.toArray] w (Yes w) := by
  obtain ⟨c0, r0, rfl, T0, hH0⟩ := hs.cons
  obtain ⟨c1, r1, rfl, T1, hH1⟩ := hH0.cons
  obtain rfl := hH1.nil
  obtain ⟨v0, vr0, rfl, A0, hA0⟩ := h.consE
  obtain ⟨v1, vr1, rfl, A1, hA1⟩ := hA0.consE
  obtain rfl := hA1.nilE
  obtain ⟨u0, ur0, rfl, B0, hB0⟩ := h'.consE
  obtain ⟨u1, ur1, rfl, B1, hB1⟩ := hB0.consE
  obtain rfl := hB1.nilE
  obtain ⟨x0, rfl⟩ := T0.int
  obtain rfl := A0.int
  obtain rfl := B0.int
  have ne0 : (x0 != x0) = false := by simp
  obtain ⟨n1, cs1, rfl, -⟩ := T1.list
  have HT1 : Hid (Has (.l 3 1 n1 cs1) (.l 3 1 [.i])) := T1
  obtain ⟨p1, d1, rfl⟩ := A1.slice
  obtain ⟨q1, e1, rfl⟩ := B1.slice
  have hA1' : Hid (At false w (.slice p1 n1 d1) (.l 3 1 n1 cs1)) := A1
  have hB1' : Hid (At false w (.slice q1 n1 e1) (.l 3 1 n1 cs1)) := B1
  clear hs h h' hA0 hB0 hH0 T0 A0 B0 hA1 hB1 hH1 T1 A1 B1
  obtain ⟨W, hW⟩ : ∃ W, (w.alloc (.cells #[.int .i64 x0, .slice p1 n1 d1] 32)).alloc (.cells #[.int .i64 x0, .slice q1 n1 e1] 32) = W := ⟨_, rfl⟩
  have t0 : Hid (Two w W #[.int .i64 x0, .slice p1 n1 d1] #[.int .i64 x0, .slice q1 n1 e1] 32) := by rw [← hW]; exact two_new w _ _ _
  have HW : Hid _ := hW
  clear hW
  go_enter Tryd.func25, Tryd.ntmps25
  go_upto_region 1 with (fail)
  rw [HW.out]
  have ax0 : W.cell? ⟨w.heap.size, 0, none⟩ = some (.int .i64 x0) := t0.out.a.cell 0
  have bx0 : W.cell? ⟨w.heap.size + 1, 0, none⟩ = some (.int .i64 x0) := t0.out.b.cell 0
  have ax1 : W.cell? ⟨w.heap.size, 1, none⟩ = some (.slice p1 n1 d1) := t0.out.a.cell 1
  have bx1 : W.cell? ⟨w.heap.size + 1, 1, none⟩ = some (.slice q1 n1 e1) := t0.out.b.cell 1
  go_wp2_with fail
  refine (dEqIntS _ _ n1 cs1 _ (hA1'.out.on t0.out.on (Nat.le_refl _)) (hB1'.out.on t0.out.on (Nat.le_refl _)) HT1.out).mono ?_
  rintro e w1 ⟨rfl, hb⟩
  have t1 : Hid (Two w w1 #[.int .i64 x0, .slice p1 n1 d1] #[.int .i64 x0, .slice q1 n1 e1] 32) := t0.out.call hb
  clear hb ax0 bx0 ax1 bx1
  have ax0 : w1.cell? ⟨w.heap.size, 0, none⟩ = some (.int .i64 x0) := t1.out.a.cell 0
  have bx0 : w1.cell? ⟨w.heap.size + 1, 0, none⟩ = some (.int .i64 x0) := t1.out.b.cell 0
  have ax1 : w1.cell? ⟨w.heap.size, 1, none⟩ = some (.slice p1 n1 d1) := t1.out.a.cell 1
  have bx1 : w1.cell? ⟨w.heap.size + 1, 1, none⟩ = some (.slice q1 n1 e1) := t1.out.b.cell 1
  go_wp2
  go_ret
  exact ⟨rfl, t1.out.on⟩
set_option maxHeartbeats 2000000 in
theorem dEqRows (vs us : List Value) (cs : List Cel) (w : World) (h : AtL false w vs cs) (h' : AtL false w us cs) (hs : HasL cs tyRows) : Calls Tryd.prog 14 #[.agg vs.toArray, .agg us.toArray] w (Yes w) := by
  obtain ⟨c0, r0, rfl, T0, hH0⟩ := hs.cons
  obtain ⟨c1, r1, rfl, T1, hH1⟩ := hH0.cons
  obtain rfl := hH1.nil
  obtain ⟨v0, vr0, rfl, A0, hA0⟩ := h.consE
  obtain ⟨v1, vr1, rfl, A1, hA1⟩ := hA0.consE
  obtain rfl := hA1.nilE
  obtain ⟨u0, ur0, rfl, B0, hB0⟩ := h'.consE
  obtain ⟨u1, ur1, rfl, B1, hB1⟩ := hB0.consE
  obtain rfl := hB1.nilE
  obtain ⟨n0, cs0, rfl, -⟩ := T0.list
  have HT0 : Hid (Has (.l 3 1 n0 cs0) (.l 3 1 [.i])) := T0
  obtain ⟨p0, d0, rfl⟩ := A0.slice
  obtain ⟨q0, e0, rfl⟩ := B0.slice
  have hA0' : Hid (At false w (.slice p0 n0 d0) (.l 3 1 n0 cs0)) := A0
  have hB0' : Hid (At false w (.slice q0 n0 e0) (.l 3 1 n0 cs0)) := B0
  obtain ⟨x1, rfl⟩ := T1.int
  obtain rfl := A1.int
  obtain rfl := B1.int
  have ne1 : (x1 != x1) = false := by simp
  clear hs h h' hA0 hB0 hH0 T0 A0 B0 hA1 hB1 hH1 T1 A1 B1
  obtain ⟨W, hW⟩ : ∃ W, (w.alloc (.cells #[.slice p0 n0 d0, .int .i64 x1] 42)).alloc (.cells #[.slice q0 n0 e0, .int .i64 x1] 42) = W := ⟨_, rfl⟩
  have t0 : Hid (Two w W #[.slice p0 n0 d0, .int .i64 x1] #[.slice q0 n0 e0, .int .i64 x1] 42) := by rw [← hW]; exact two_new w _ _ _
  have HW : Hid _ := hW
  clear hW
  go_enter Tryd.func14, Tryd.ntmps14
  go_upto_region 1 with (fail)
  rw [HW.out]
  have ax0 : W.cell? ⟨w.heap.size, 0, none⟩ = some (.slice p0 n0 d0) := t0.out.a.cell 0
  have bx0 : W.cell? ⟨w.heap.size + 1, 0, none⟩ = some (.slice q0 n0 e0) := t0.out.b.cell 0
  have ax1 : W.cell? ⟨w.heap.size, 1, none⟩ = some (.int .i64 x1) := t0.out.a.cell 1
  have bx1 : W.cell? ⟨w.heap.size + 1, 1, none⟩ = some (.int .i64 x1) := t0.out.b.cell 1
  go_wp2_with fail
  refine (dEqIntS _ _ n0 cs0 _ (hA0'.out.on t0.out.on (Nat.le_refl _)) (hB0'.out.on t0.out.on (Nat.le_refl _)) HT0.out).mono ?_
  rintro e w1 ⟨rfl, hb⟩
  have t1 : Hid (Two w w1 #[.slice p0 n0 d0, .int .i64 x1] #[.slice q0 n0 e0, .int .i64 x1] 42) := t0.out.call hb
  clear hb ax0 bx0 ax1 bx1
  have ax0 : w1.cell? ⟨w.heap.size, 0, none⟩ = some (.slice p0 n0 d0) := t1.out.a.cell 0
  have bx0 : w1.cell? ⟨w.heap.size + 1, 0, none⟩ = some (.slice q0 n0 e0) := t1.out.b.cell 0
  have ax1 : w1.cell? ⟨w.heap.size, 1, none⟩ = some (.int .i64 x1) := t1.out.a.cell 1
  have bx1 : w1.cell? ⟨w.heap.size + 1, 1, none⟩ = some (.int .i64 x1) := t1.out.b.cell 1
  go_wp2
  go_ret
  exact ⟨rfl, t1.out.on⟩
end Go.Proofs.YtkbodiggdajbeaaDoor

/- The laws' own functions on data. -/
namespace Go.Proofs.YtkbodiggdajbeaaDoor
open Go.ChangeShapes Go.WideShapes Go.ChangeAt Go.RowKit Go.Joins

set_option maxHeartbeats 2000000 in
theorem dEqCall (vs us : List Value) (cs : List Cel) (w : World) (h : AtL false w vs cs) (h' : AtL false w us cs) (hs : HasL cs tyCall) : Calls Tryd.prog 9 #[.agg vs.toArray, .agg us.toArray] w (Yes w) := by
  obtain ⟨c0, r0, rfl, T0, hH0⟩ := hs.cons
  obtain ⟨c1, r1, rfl, T1, hH1⟩ := hH0.cons
  obtain ⟨c2, r2, rfl, T2, hH2⟩ := hH1.cons
  obtain ⟨c3, r3, rfl, T3, hH3⟩ := hH2.cons
  obtain ⟨c4, r4, rfl, T4, hH4⟩ := hH3.cons
  obtain ⟨c5, r5, rfl, T5, hH5⟩ := hH4.cons
  obtain ⟨c6, r6, rfl, T6, hH6⟩ := hH5.cons
  obtain ⟨c7, r7, rfl, T7, hH7⟩ := hH6.cons
  obtain ⟨c8, r8, rfl, T8, hH8⟩ := hH7.cons
  obtain rfl := hH8.nil
  obtain ⟨v0, vr0, rfl, A0, hA0⟩ := h.consE
  obtain ⟨v1, vr1, rfl, A1, hA1⟩ := hA0.consE
  obtain ⟨v2, vr2, rfl, A2, hA2⟩ := hA1.consE
  obtain ⟨v3, vr3, rfl, A3, hA3⟩ := hA2.consE
  obtain ⟨v4, vr4, rfl, A4, hA4⟩ := hA3.consE
  obtain ⟨v5, vr5, rfl, A5, hA5⟩ := hA4.consE
  obtain ⟨v6, vr6, rfl, A6, hA6⟩ := hA5.consE
  obtain ⟨v7, vr7, rfl, A7, hA7⟩ := hA6.consE
  obtain ⟨v8, vr8, rfl, A8, hA8⟩ := hA7.consE
  obtain rfl := hA8.nilE
  obtain ⟨u0, ur0, rfl, B0, hB0⟩ := h'.consE
  obtain ⟨u1, ur1, rfl, B1, hB1⟩ := hB0.consE
  obtain ⟨u2, ur2, rfl, B2, hB2⟩ := hB1.consE
  obtain ⟨u3, ur3, rfl, B3, hB3⟩ := hB2.consE
  obtain ⟨u4, ur4, rfl, B4, hB4⟩ := hB3.consE
  obtain ⟨u5, ur5, rfl, B5, hB5⟩ := hB4.consE
  obtain ⟨u6, ur6, rfl, B6, hB6⟩ := hB5.consE
  obtain ⟨u7, ur7, rfl, B7, hB7⟩ := hB6.consE
  obtain ⟨u8, ur8, rfl, B8, hB8⟩ := hB7.consE
  obtain rfl := hB8.nilE
  obtain ⟨x0, rfl⟩ := T0.int
  obtain rfl := A0.int
  obtain rfl := B0.int
  have ne0 : (x0 != x0) = false := by simp
  obtain ⟨x1, rfl⟩ := T1.int
  obtain rfl := A1.int
  obtain rfl := B1.int
  have ne1 : (x1 != x1) = false := by simp
  obtain ⟨x2, rfl⟩ := T2.int
  obtain rfl := A2.int
  obtain rfl := B2.int
  have ne2 : (x2 != x2) = false := by simp
  obtain ⟨x3, rfl⟩ := T3.int
  obtain rfl := A3.int
  obtain rfl := B3.int
  have ne3 : (x3 != x3) = false := by simp
  obtain ⟨x4, rfl⟩ := T4.int
  obtain rfl := A4.int
  obtain rfl := B4.int
  have ne4 : (x4 != x4) = false := by simp
  obtain ⟨x5, rfl⟩ := T5.int
  obtain rfl := A5.int
  obtain rfl := B5.int
  have ne5 : (x5 != x5) = false := by simp
  obtain ⟨x6, rfl⟩ := T6.int
  obtain rfl := A6.int
  obtain rfl := B6.int
  have ne6 : (x6 != x6) = false := by simp
  obtain ⟨x7, rfl⟩ := T7.int
  obtain rfl := A7.int
  obtain rfl := B7.int
  have ne7 : (x7 != x7) = false := by simp
  obtain ⟨n8, cs8, rfl, -⟩ := T8.list
  have HT8 : Hid (Has (.l 3 1 n8 cs8) (.l 3 1 [.i])) := T8
  obtain ⟨p8, d8, rfl⟩ := A8.slice
  obtain ⟨q8, e8, rfl⟩ := B8.slice
  have hA8' : Hid (At false w (.slice p8 n8 d8) (.l 3 1 n8 cs8)) := A8
  have hB8' : Hid (At false w (.slice q8 n8 e8) (.l 3 1 n8 cs8)) := B8
  have HN1 : Hid (AtL false w [.int .i64 x1, .int .i64 x2, .int .i64 x3] [.i x1, .i x2, .i x3]) := AtL.cons (.i x1) (AtL.cons (.i x2) (AtL.cons (.i x3) (AtL.nil)))
  have HH1 : Hid (HasL [.i x1, .i x2, .i x3] tyOp) := ⟨rfl, fun j c t hc ht => by
    have hj : j < 3 := by have := (List.getElem?_eq_some_iff.1 hc).1; simpa using this
    rcases (show j = 0 ∨ j = 1 ∨ j = 2 by omega) with rfl | rfl | rfl <;> (simp [tyOp] at hc ht; subst hc ht)
    · exact .i x1
    · exact .i x2
    · exact .i x3⟩
  have HN7 : Hid (AtL false w [.int .i64 x7, .slice p8 n8 d8] [.i x7, .l 3 1 n8 cs8]) := AtL.cons (.i x7) (AtL.cons (hA8'.out) (AtL.nil))
  have HH7 : Hid (HasL [.i x7, .l 3 1 n8 cs8] tyRes) := ⟨rfl, fun j c t hc ht => by
    have hj : j < 2 := by have := (List.getElem?_eq_some_iff.1 hc).1; simpa using this
    rcases (show j = 0 ∨ j = 1 by omega) with rfl | rfl <;> (simp [tyRes] at hc ht; subst hc ht)
    · exact .i x7
    · exact HT8.out⟩
  have HM1 : Hid (AtL false w [.int .i64 x1, .int .i64 x2, .int .i64 x3] [.i x1, .i x2, .i x3]) := AtL.cons (.i x1) (AtL.cons (.i x2) (AtL.cons (.i x3) (AtL.nil)))
  have HM7 : Hid (AtL false w [.int .i64 x7, .slice q8 n8 e8] [.i x7, .l 3 1 n8 cs8]) := AtL.cons (.i x7) (AtL.cons (hB8'.out) (AtL.nil))
  clear hs h h' hA0 hB0 hH0 T0 A0 B0 hA1 hB1 hH1 T1 A1 B1 hA2 hB2 hH2 T2 A2 B2 hA3 hB3 hH3 T3 A3 B3 hA4 hB4 hH4 T4 A4 B4 hA5 hB5 hH5 T5 A5 B5 hA6 hB6 hH6 T6 A6 B6 hA7 hB7 hH7 T7 A7 B7 hA8 hB8 hH8 T8 A8 B8
  obtain ⟨W, hW⟩ : ∃ W, (w.alloc (.cells #[.int .i64 x0, .int .i64 x1, .int .i64 x2, .int .i64 x3, .int .i64 x4, .int .i64 x5, .int .i64 x6, .int .i64 x7, .slice p8 n8 d8] 34)).alloc (.cells #[.int .i64 x0, .int .i64 x1, .int .i64 x2, .int .i64 x3, .int .i64 x4, .int .i64 x5, .int .i64 x6, .int .i64 x7, .slice q8 n8 e8] 34) = W := ⟨_, rfl⟩
  have t0 : Hid (Two w W #[.int .i64 x0, .int .i64 x1, .int .i64 x2, .int .i64 x3, .int .i64 x4, .int .i64 x5, .int .i64 x6, .int .i64 x7, .slice p8 n8 d8] #[.int .i64 x0, .int .i64 x1, .int .i64 x2, .int .i64 x3, .int .i64 x4, .int .i64 x5, .int .i64 x6, .int .i64 x7, .slice q8 n8 e8] 34) := by rw [← hW]; exact two_new w _ _ _
  have HW : Hid _ := hW
  clear hW
  go_enter Tryd.func9, Tryd.ntmps9
  go_upto_region 1 with (fail)
  rw [HW.out]
  have ax0 : W.cell? ⟨w.heap.size, 0, none⟩ = some (.int .i64 x0) := t0.out.a.cell 0
  have bx0 : W.cell? ⟨w.heap.size + 1, 0, none⟩ = some (.int .i64 x0) := t0.out.b.cell 0
  have ax1 : W.cell? ⟨w.heap.size, 1, none⟩ = some (.int .i64 x1) := t0.out.a.cell 1
  have bx1 : W.cell? ⟨w.heap.size + 1, 1, none⟩ = some (.int .i64 x1) := t0.out.b.cell 1
  have ax2 : W.cell? ⟨w.heap.size, 2, none⟩ = some (.int .i64 x2) := t0.out.a.cell 2
  have bx2 : W.cell? ⟨w.heap.size + 1, 2, none⟩ = some (.int .i64 x2) := t0.out.b.cell 2
  have ax3 : W.cell? ⟨w.heap.size, 3, none⟩ = some (.int .i64 x3) := t0.out.a.cell 3
  have bx3 : W.cell? ⟨w.heap.size + 1, 3, none⟩ = some (.int .i64 x3) := t0.out.b.cell 3
  have ax4 : W.cell? ⟨w.heap.size, 4, none⟩ = some (.int .i64 x4) := t0.out.a.cell 4
  have bx4 : W.cell? ⟨w.heap.size + 1, 4, none⟩ = some (.int .i64 x4) := t0.out.b.cell 4
  have ax5 : W.cell? ⟨w.heap.size, 5, none⟩ = some (.int .i64 x5) := t0.out.a.cell 5
  have bx5 : W.cell? ⟨w.heap.size + 1, 5, none⟩ = some (.int .i64 x5) := t0.out.b.cell 5
  have ax6 : W.cell? ⟨w.heap.size, 6, none⟩ = some (.int .i64 x6) := t0.out.a.cell 6
  have bx6 : W.cell? ⟨w.heap.size + 1, 6, none⟩ = some (.int .i64 x6) := t0.out.b.cell 6
  have ax7 : W.cell? ⟨w.heap.size, 7, none⟩ = some (.int .i64 x7) := t0.out.a.cell 7
  have bx7 : W.cell? ⟨w.heap.size + 1, 7, none⟩ = some (.int .i64 x7) := t0.out.b.cell 7
  have ax8 : W.cell? ⟨w.heap.size, 8, none⟩ = some (.slice p8 n8 d8) := t0.out.a.cell 8
  have bx8 : W.cell? ⟨w.heap.size + 1, 8, none⟩ = some (.slice q8 n8 e8) := t0.out.b.cell 8
  go_wp2_with fail
  refine (dEqOp [.int .i64 x1, .int .i64 x2, .int .i64 x3] [.int .i64 x1, .int .i64 x2, .int .i64 x3] [.i x1, .i x2, .i x3] _ (HN1.out.on t0.out.on (Nat.le_refl _)) (HM1.out.on t0.out.on (Nat.le_refl _)) HH1.out).mono ?_
  rintro e w1 ⟨rfl, hb⟩
  have t1 : Hid (Two w w1 #[.int .i64 x0, .int .i64 x1, .int .i64 x2, .int .i64 x3, .int .i64 x4, .int .i64 x5, .int .i64 x6, .int .i64 x7, .slice p8 n8 d8] #[.int .i64 x0, .int .i64 x1, .int .i64 x2, .int .i64 x3, .int .i64 x4, .int .i64 x5, .int .i64 x6, .int .i64 x7, .slice q8 n8 e8] 34) := t0.out.call hb
  clear hb ax0 bx0 ax1 bx1 ax2 bx2 ax3 bx3 ax4 bx4 ax5 bx5 ax6 bx6 ax7 bx7 ax8 bx8
  have ax0 : w1.cell? ⟨w.heap.size, 0, none⟩ = some (.int .i64 x0) := t1.out.a.cell 0
  have bx0 : w1.cell? ⟨w.heap.size + 1, 0, none⟩ = some (.int .i64 x0) := t1.out.b.cell 0
  have ax1 : w1.cell? ⟨w.heap.size, 1, none⟩ = some (.int .i64 x1) := t1.out.a.cell 1
  have bx1 : w1.cell? ⟨w.heap.size + 1, 1, none⟩ = some (.int .i64 x1) := t1.out.b.cell 1
  have ax2 : w1.cell? ⟨w.heap.size, 2, none⟩ = some (.int .i64 x2) := t1.out.a.cell 2
  have bx2 : w1.cell? ⟨w.heap.size + 1, 2, none⟩ = some (.int .i64 x2) := t1.out.b.cell 2
  have ax3 : w1.cell? ⟨w.heap.size, 3, none⟩ = some (.int .i64 x3) := t1.out.a.cell 3
  have bx3 : w1.cell? ⟨w.heap.size + 1, 3, none⟩ = some (.int .i64 x3) := t1.out.b.cell 3
  have ax4 : w1.cell? ⟨w.heap.size, 4, none⟩ = some (.int .i64 x4) := t1.out.a.cell 4
  have bx4 : w1.cell? ⟨w.heap.size + 1, 4, none⟩ = some (.int .i64 x4) := t1.out.b.cell 4
  have ax5 : w1.cell? ⟨w.heap.size, 5, none⟩ = some (.int .i64 x5) := t1.out.a.cell 5
  have bx5 : w1.cell? ⟨w.heap.size + 1, 5, none⟩ = some (.int .i64 x5) := t1.out.b.cell 5
  have ax6 : w1.cell? ⟨w.heap.size, 6, none⟩ = some (.int .i64 x6) := t1.out.a.cell 6
  have bx6 : w1.cell? ⟨w.heap.size + 1, 6, none⟩ = some (.int .i64 x6) := t1.out.b.cell 6
  have ax7 : w1.cell? ⟨w.heap.size, 7, none⟩ = some (.int .i64 x7) := t1.out.a.cell 7
  have bx7 : w1.cell? ⟨w.heap.size + 1, 7, none⟩ = some (.int .i64 x7) := t1.out.b.cell 7
  have ax8 : w1.cell? ⟨w.heap.size, 8, none⟩ = some (.slice p8 n8 d8) := t1.out.a.cell 8
  have bx8 : w1.cell? ⟨w.heap.size + 1, 8, none⟩ = some (.slice q8 n8 e8) := t1.out.b.cell 8
  go_wp2_with fail
  refine (dEqRes [.int .i64 x7, .slice p8 n8 d8] [.int .i64 x7, .slice q8 n8 e8] [.i x7, .l 3 1 n8 cs8] _ (HN7.out.on t1.out.on (Nat.le_refl _)) (HM7.out.on t1.out.on (Nat.le_refl _)) HH7.out).mono ?_
  rintro e w2 ⟨rfl, hb⟩
  have t2 : Hid (Two w w2 #[.int .i64 x0, .int .i64 x1, .int .i64 x2, .int .i64 x3, .int .i64 x4, .int .i64 x5, .int .i64 x6, .int .i64 x7, .slice p8 n8 d8] #[.int .i64 x0, .int .i64 x1, .int .i64 x2, .int .i64 x3, .int .i64 x4, .int .i64 x5, .int .i64 x6, .int .i64 x7, .slice q8 n8 e8] 34) := t1.out.call hb
  clear hb ax0 bx0 ax1 bx1 ax2 bx2 ax3 bx3 ax4 bx4 ax5 bx5 ax6 bx6 ax7 bx7 ax8 bx8
  have ax0 : w2.cell? ⟨w.heap.size, 0, none⟩ = some (.int .i64 x0) := t2.out.a.cell 0
  have bx0 : w2.cell? ⟨w.heap.size + 1, 0, none⟩ = some (.int .i64 x0) := t2.out.b.cell 0
  have ax1 : w2.cell? ⟨w.heap.size, 1, none⟩ = some (.int .i64 x1) := t2.out.a.cell 1
  have bx1 : w2.cell? ⟨w.heap.size + 1, 1, none⟩ = some (.int .i64 x1) := t2.out.b.cell 1
  have ax2 : w2.cell? ⟨w.heap.size, 2, none⟩ = some (.int .i64 x2) := t2.out.a.cell 2
  have bx2 : w2.cell? ⟨w.heap.size + 1, 2, none⟩ = some (.int .i64 x2) := t2.out.b.cell 2
  have ax3 : w2.cell? ⟨w.heap.size, 3, none⟩ = some (.int .i64 x3) := t2.out.a.cell 3
  have bx3 : w2.cell? ⟨w.heap.size + 1, 3, none⟩ = some (.int .i64 x3) := t2.out.b.cell 3
  have ax4 : w2.cell? ⟨w.heap.size, 4, none⟩ = some (.int .i64 x4) := t2.out.a.cell 4
  have bx4 : w2.cell? ⟨w.heap.size + 1, 4, none⟩ = some (.int .i64 x4) := t2.out.b.cell 4
  have ax5 : w2.cell? ⟨w.heap.size, 5, none⟩ = some (.int .i64 x5) := t2.out.a.cell 5
  have bx5 : w2.cell? ⟨w.heap.size + 1, 5, none⟩ = some (.int .i64 x5) := t2.out.b.cell 5
  have ax6 : w2.cell? ⟨w.heap.size, 6, none⟩ = some (.int .i64 x6) := t2.out.a.cell 6
  have bx6 : w2.cell? ⟨w.heap.size + 1, 6, none⟩ = some (.int .i64 x6) := t2.out.b.cell 6
  have ax7 : w2.cell? ⟨w.heap.size, 7, none⟩ = some (.int .i64 x7) := t2.out.a.cell 7
  have bx7 : w2.cell? ⟨w.heap.size + 1, 7, none⟩ = some (.int .i64 x7) := t2.out.b.cell 7
  have ax8 : w2.cell? ⟨w.heap.size, 8, none⟩ = some (.slice p8 n8 d8) := t2.out.a.cell 8
  have bx8 : w2.cell? ⟨w.heap.size + 1, 8, none⟩ = some (.slice q8 n8 e8) := t2.out.b.cell 8
  go_wp2
  go_ret
  exact ⟨rfl, t2.out.on⟩
end Go.Proofs.YtkbodiggdajbeaaDoor

/- The laws' own functions on data. -/
namespace Go.Proofs.YtkbodiggdajbeaaDoor
open Go.ChangeShapes Go.WideShapes Go.ChangeAt Go.RowKit Go.Joins

set_option maxHeartbeats 2000000 in
theorem dSzIntS (v : Value) (n : Nat) (cs : List Cel) (left : Int) (w : World) (h : In w v (.l 3 1 n cs)) (hs : Has (.l 3 1 n cs) (.l 3 1 [.i])) (h0 : 0 ≤ left) (h1 : left ≤ 2097152) :
    Calls Tryd.prog 26 #[v, .int .i64 left] w (Left w (n + bigL cs) left) := by
  have hz := big_flat hs (by decide)
  obtain ⟨a, c, vs, rfl, -, -, hn, -, -⟩ := h.openL
  have HZ : Hid (n + bigL cs = n) := by show _ = _; omega
  clear hs hz
  by_cases hl : (n : Int) ≤ left
  · have h2 : ¬ (left - (n : Int) < 0) := by omega
    go_enter Tryd.func26, Tryd.ntmps26
    go_wp2
    go_ret
    refine ⟨Below.refl _ _, .inl ⟨_, rfl, ?_⟩⟩
    rw [HZ.out]
    exact ⟨hl, rfl⟩
  · have h2 : left - (n : Int) < 0 := by omega
    go_enter Tryd.func26, Tryd.ntmps26
    go_wp2
    go_ret
    refine ⟨Below.refl _ _, .inr ⟨rfl, ?_⟩⟩
    rw [HZ.out]
    omega
set_option maxHeartbeats 2000000 in
theorem dSzRes (vs : List Value) (cs : List Cel) (left : Int) (w : World) (h : InL w vs cs) (hs : HasL cs tyRes) (h0 : 0 ≤ left) (h1 : left ≤ 2097152) : Calls Tryd.prog 15 #[.agg vs.toArray, .int .i64 left] w (Left w (bigL cs) left) := by
  obtain ⟨c0, r0, rfl, T0, hH0⟩ := hs.cons
  obtain ⟨c1, r1, rfl, T1, hH1⟩ := hH0.cons
  obtain rfl := hH1.nil
  obtain ⟨v0, vr0, rfl, A0, hA0⟩ := h.consE
  obtain ⟨v1, vr1, rfl, A1, hA1⟩ := hA0.consE
  obtain rfl := hA1.nilE
  obtain ⟨x0, rfl⟩ := T0.int
  obtain rfl := A0.int
  obtain ⟨n1, cs1, rfl, -⟩ := T1.list
  have HT1 : Hid (Has (.l 3 1 n1 cs1) (.l 3 1 [.i])) := T1
  have hA1' : Hid (In w v1 (.l 3 1 n1 cs1)) := A1
  clear hs h hA0 hH0 T0 A0 hA1 hH1 T1 A1
  obtain ⟨W, hW⟩ : ∃ W, w.alloc (.cells #[.int .i64 x0, v1] 26) = W := ⟨_, rfl⟩
  have t0 : Hid (One w W #[.int .i64 x0, v1] 26) := by rw [← hW]; exact one_new w _ _
  have HW : Hid _ := hW
  clear hW
  go_enter Tryd.func15, Tryd.ntmps15
  go_upto_region 1 with (fail)
  rw [HW.out]
  have ax0 : W.cell? ⟨w.heap.size, 0, none⟩ = some (.int .i64 x0) := t0.out.a.cell 0
  have ax1 : W.cell? ⟨w.heap.size, 1, none⟩ = some (v1) := t0.out.a.cell 1
  go_wp2_with fail
  refine (dSzIntS v1 n1 cs1 _ _ (hA1'.out.on t0.out.on (Nat.le_refl _)) HT1.out (by omega) (by omega)).mono ?_
  rintro e w1 ⟨hb, hc⟩
  obtain ⟨m1, hm1⟩ : ∃ m, n1 + bigL cs1 = m := ⟨_, rfl⟩
  rw [hm1] at hc
  have HM1 : Hid (n1 + bigL cs1 = m1) := hm1
  clear hm1
  have t1 : Hid (One w w1 #[.int .i64 x0, v1] 26) := t0.out.call hb
  clear hb ax0 ax1
  have ax0 : w1.cell? ⟨w.heap.size, 0, none⟩ = some (.int .i64 x0) := t1.out.a.cell 0
  have ax1 : w1.cell? ⟨w.heap.size, 1, none⟩ = some (v1) := t1.out.a.cell 1
  rcases hc with ⟨r1, rfl, hr1, hq1⟩ | ⟨rfl, hr1⟩
  rotate_left
  · go_wp2
    go_ret
    refine ⟨t1.out.on, .inr ⟨rfl, ?_⟩⟩
    have e : bigL [.i x0, .l 3 1 n1 cs1] = ((n1 + bigL cs1)) := by simp [bigL, Cel.big]; try omega
    rw [e]
    have e1 := HM1.out
    (try simp only [bigL, Cel.big] at *)
    omega
  have g1 : ¬ r1 < 0 := by omega
  go_wp2
  go_ret
  refine ⟨t1.out.on, .inl ⟨_, rfl, ?_⟩⟩
  have e : bigL [.i x0, .l 3 1 n1 cs1] = (n1 + bigL cs1) := by simp [bigL, Cel.big]; try omega
  rw [e]
  have e1 := HM1.out
  (try simp only [bigL, Cel.big] at *)
  omega
set_option maxHeartbeats 2000000 in
theorem dSzRows (vs : List Value) (cs : List Cel) (left : Int) (w : World) (h : InL w vs cs) (hs : HasL cs tyRows) (h0 : 0 ≤ left) (h1 : left ≤ 2097152) : Calls Tryd.prog 10 #[.agg vs.toArray, .int .i64 left] w (Left w (bigL cs) left) := by
  obtain ⟨c0, r0, rfl, T0, hH0⟩ := hs.cons
  obtain ⟨c1, r1, rfl, T1, hH1⟩ := hH0.cons
  obtain rfl := hH1.nil
  obtain ⟨v0, vr0, rfl, A0, hA0⟩ := h.consE
  obtain ⟨v1, vr1, rfl, A1, hA1⟩ := hA0.consE
  obtain rfl := hA1.nilE
  obtain ⟨n0, cs0, rfl, -⟩ := T0.list
  have HT0 : Hid (Has (.l 3 1 n0 cs0) (.l 3 1 [.i])) := T0
  have hA0' : Hid (In w v0 (.l 3 1 n0 cs0)) := A0
  obtain ⟨x1, rfl⟩ := T1.int
  obtain rfl := A1.int
  clear hs h hA0 hH0 T0 A0 hA1 hH1 T1 A1
  obtain ⟨W, hW⟩ : ∃ W, w.alloc (.cells #[v0, .int .i64 x1] 39) = W := ⟨_, rfl⟩
  have t0 : Hid (One w W #[v0, .int .i64 x1] 39) := by rw [← hW]; exact one_new w _ _
  have HW : Hid _ := hW
  clear hW
  go_enter Tryd.func10, Tryd.ntmps10
  go_upto_region 1 with (fail)
  rw [HW.out]
  have ax0 : W.cell? ⟨w.heap.size, 0, none⟩ = some (v0) := t0.out.a.cell 0
  have ax1 : W.cell? ⟨w.heap.size, 1, none⟩ = some (.int .i64 x1) := t0.out.a.cell 1
  go_wp2_with fail
  refine (dSzIntS v0 n0 cs0 _ _ (hA0'.out.on t0.out.on (Nat.le_refl _)) HT0.out (by omega) (by omega)).mono ?_
  rintro e w1 ⟨hb, hc⟩
  obtain ⟨m1, hm1⟩ : ∃ m, n0 + bigL cs0 = m := ⟨_, rfl⟩
  rw [hm1] at hc
  have HM1 : Hid (n0 + bigL cs0 = m1) := hm1
  clear hm1
  have t1 : Hid (One w w1 #[v0, .int .i64 x1] 39) := t0.out.call hb
  clear hb ax0 ax1
  have ax0 : w1.cell? ⟨w.heap.size, 0, none⟩ = some (v0) := t1.out.a.cell 0
  have ax1 : w1.cell? ⟨w.heap.size, 1, none⟩ = some (.int .i64 x1) := t1.out.a.cell 1
  rcases hc with ⟨r1, rfl, hr1, hq1⟩ | ⟨rfl, hr1⟩
  rotate_left
  · go_wp2
    go_ret
    refine ⟨t1.out.on, .inr ⟨rfl, ?_⟩⟩
    have e : bigL [.l 3 1 n0 cs0, .i x1] = ((n0 + bigL cs0)) := by simp [bigL, Cel.big]; try omega
    rw [e]
    have e1 := HM1.out
    (try simp only [bigL, Cel.big] at *)
    omega
  have g1 : ¬ r1 < 0 := by omega
  go_wp2
  go_ret
  refine ⟨t1.out.on, .inl ⟨_, rfl, ?_⟩⟩
  have e : bigL [.l 3 1 n0 cs0, .i x1] = (n0 + bigL cs0) := by simp [bigL, Cel.big]; try omega
  rw [e]
  have e1 := HM1.out
  (try simp only [bigL, Cel.big] at *)
  omega
set_option maxHeartbeats 2000000 in
theorem dSzCall (vs : List Value) (cs : List Cel) (left : Int) (w : World) (h : InL w vs cs) (hs : HasL cs tyCall) (h0 : 0 ≤ left) (h1 : left ≤ 2097152) : Calls Tryd.prog 5 #[.agg vs.toArray, .int .i64 left] w (Left w (bigL cs) left) := by
  obtain ⟨c0, r0, rfl, T0, hH0⟩ := hs.cons
  obtain ⟨c1, r1, rfl, T1, hH1⟩ := hH0.cons
  obtain ⟨c2, r2, rfl, T2, hH2⟩ := hH1.cons
  obtain ⟨c3, r3, rfl, T3, hH3⟩ := hH2.cons
  obtain ⟨c4, r4, rfl, T4, hH4⟩ := hH3.cons
  obtain ⟨c5, r5, rfl, T5, hH5⟩ := hH4.cons
  obtain ⟨c6, r6, rfl, T6, hH6⟩ := hH5.cons
  obtain ⟨c7, r7, rfl, T7, hH7⟩ := hH6.cons
  obtain ⟨c8, r8, rfl, T8, hH8⟩ := hH7.cons
  obtain rfl := hH8.nil
  obtain ⟨v0, vr0, rfl, A0, hA0⟩ := h.consE
  obtain ⟨v1, vr1, rfl, A1, hA1⟩ := hA0.consE
  obtain ⟨v2, vr2, rfl, A2, hA2⟩ := hA1.consE
  obtain ⟨v3, vr3, rfl, A3, hA3⟩ := hA2.consE
  obtain ⟨v4, vr4, rfl, A4, hA4⟩ := hA3.consE
  obtain ⟨v5, vr5, rfl, A5, hA5⟩ := hA4.consE
  obtain ⟨v6, vr6, rfl, A6, hA6⟩ := hA5.consE
  obtain ⟨v7, vr7, rfl, A7, hA7⟩ := hA6.consE
  obtain ⟨v8, vr8, rfl, A8, hA8⟩ := hA7.consE
  obtain rfl := hA8.nilE
  obtain ⟨x0, rfl⟩ := T0.int
  obtain rfl := A0.int
  obtain ⟨x1, rfl⟩ := T1.int
  obtain rfl := A1.int
  obtain ⟨x2, rfl⟩ := T2.int
  obtain rfl := A2.int
  obtain ⟨x3, rfl⟩ := T3.int
  obtain rfl := A3.int
  obtain ⟨x4, rfl⟩ := T4.int
  obtain rfl := A4.int
  obtain ⟨x5, rfl⟩ := T5.int
  obtain rfl := A5.int
  obtain ⟨x6, rfl⟩ := T6.int
  obtain rfl := A6.int
  obtain ⟨x7, rfl⟩ := T7.int
  obtain rfl := A7.int
  obtain ⟨n8, cs8, rfl, -⟩ := T8.list
  have HT8 : Hid (Has (.l 3 1 n8 cs8) (.l 3 1 [.i])) := T8
  have hA8' : Hid (In w v8 (.l 3 1 n8 cs8)) := A8
  have HN1 : Hid (InL w [.int .i64 x1, .int .i64 x2, .int .i64 x3] [.i x1, .i x2, .i x3]) := InL.cons (.i x1) (InL.cons (.i x2) (InL.cons (.i x3) (InL.nil)))
  have HH1 : Hid (HasL [.i x1, .i x2, .i x3] tyOp) := ⟨rfl, fun j c t hc ht => by
    have hj : j < 3 := by have := (List.getElem?_eq_some_iff.1 hc).1; simpa using this
    rcases (show j = 0 ∨ j = 1 ∨ j = 2 by omega) with rfl | rfl | rfl <;> (simp [tyOp] at hc ht; subst hc ht)
    · exact .i x1
    · exact .i x2
    · exact .i x3⟩
  have HN7 : Hid (InL w [.int .i64 x7, v8] [.i x7, .l 3 1 n8 cs8]) := InL.cons (.i x7) (InL.cons (hA8'.out) (InL.nil))
  have HH7 : Hid (HasL [.i x7, .l 3 1 n8 cs8] tyRes) := ⟨rfl, fun j c t hc ht => by
    have hj : j < 2 := by have := (List.getElem?_eq_some_iff.1 hc).1; simpa using this
    rcases (show j = 0 ∨ j = 1 by omega) with rfl | rfl <;> (simp [tyRes] at hc ht; subst hc ht)
    · exact .i x7
    · exact HT8.out⟩
  clear hs h hA0 hH0 T0 A0 hA1 hH1 T1 A1 hA2 hH2 T2 A2 hA3 hH3 T3 A3 hA4 hH4 T4 A4 hA5 hH5 T5 A5 hA6 hH6 T6 A6 hA7 hH7 T7 A7 hA8 hH8 T8 A8
  obtain ⟨W, hW⟩ : ∃ W, w.alloc (.cells #[.int .i64 x0, .int .i64 x1, .int .i64 x2, .int .i64 x3, .int .i64 x4, .int .i64 x5, .int .i64 x6, .int .i64 x7, v8] 28) = W := ⟨_, rfl⟩
  have t0 : Hid (One w W #[.int .i64 x0, .int .i64 x1, .int .i64 x2, .int .i64 x3, .int .i64 x4, .int .i64 x5, .int .i64 x6, .int .i64 x7, v8] 28) := by rw [← hW]; exact one_new w _ _
  have HW : Hid _ := hW
  clear hW
  go_enter Tryd.func5, Tryd.ntmps5
  go_upto_region 1 with (fail)
  rw [HW.out]
  have ax0 : W.cell? ⟨w.heap.size, 0, none⟩ = some (.int .i64 x0) := t0.out.a.cell 0
  have ax1 : W.cell? ⟨w.heap.size, 1, none⟩ = some (.int .i64 x1) := t0.out.a.cell 1
  have ax2 : W.cell? ⟨w.heap.size, 2, none⟩ = some (.int .i64 x2) := t0.out.a.cell 2
  have ax3 : W.cell? ⟨w.heap.size, 3, none⟩ = some (.int .i64 x3) := t0.out.a.cell 3
  have ax4 : W.cell? ⟨w.heap.size, 4, none⟩ = some (.int .i64 x4) := t0.out.a.cell 4
  have ax5 : W.cell? ⟨w.heap.size, 5, none⟩ = some (.int .i64 x5) := t0.out.a.cell 5
  have ax6 : W.cell? ⟨w.heap.size, 6, none⟩ = some (.int .i64 x6) := t0.out.a.cell 6
  have ax7 : W.cell? ⟨w.heap.size, 7, none⟩ = some (.int .i64 x7) := t0.out.a.cell 7
  have ax8 : W.cell? ⟨w.heap.size, 8, none⟩ = some (v8) := t0.out.a.cell 8
  go_wp2_with fail
  refine (dSzRes [.int .i64 x7, v8] [.i x7, .l 3 1 n8 cs8] _ _ (HN7.out.on t0.out.on (Nat.le_refl _)) HH7.out (by omega) (by omega)).mono ?_
  rintro e w1 ⟨hb, hc⟩
  obtain ⟨m1, hm1⟩ : ∃ m, bigL [.i x7, .l 3 1 n8 cs8] = m := ⟨_, rfl⟩
  rw [hm1] at hc
  have HM1 : Hid (bigL [.i x7, .l 3 1 n8 cs8] = m1) := hm1
  clear hm1
  have t1 : Hid (One w w1 #[.int .i64 x0, .int .i64 x1, .int .i64 x2, .int .i64 x3, .int .i64 x4, .int .i64 x5, .int .i64 x6, .int .i64 x7, v8] 28) := t0.out.call hb
  clear hb ax0 ax1 ax2 ax3 ax4 ax5 ax6 ax7 ax8
  have ax0 : w1.cell? ⟨w.heap.size, 0, none⟩ = some (.int .i64 x0) := t1.out.a.cell 0
  have ax1 : w1.cell? ⟨w.heap.size, 1, none⟩ = some (.int .i64 x1) := t1.out.a.cell 1
  have ax2 : w1.cell? ⟨w.heap.size, 2, none⟩ = some (.int .i64 x2) := t1.out.a.cell 2
  have ax3 : w1.cell? ⟨w.heap.size, 3, none⟩ = some (.int .i64 x3) := t1.out.a.cell 3
  have ax4 : w1.cell? ⟨w.heap.size, 4, none⟩ = some (.int .i64 x4) := t1.out.a.cell 4
  have ax5 : w1.cell? ⟨w.heap.size, 5, none⟩ = some (.int .i64 x5) := t1.out.a.cell 5
  have ax6 : w1.cell? ⟨w.heap.size, 6, none⟩ = some (.int .i64 x6) := t1.out.a.cell 6
  have ax7 : w1.cell? ⟨w.heap.size, 7, none⟩ = some (.int .i64 x7) := t1.out.a.cell 7
  have ax8 : w1.cell? ⟨w.heap.size, 8, none⟩ = some (v8) := t1.out.a.cell 8
  rcases hc with ⟨r1, rfl, hr1, hq1⟩ | ⟨rfl, hr1⟩
  rotate_left
  · go_wp2
    go_ret
    refine ⟨t1.out.on, .inr ⟨rfl, ?_⟩⟩
    have e : bigL [.i x0, .i x1, .i x2, .i x3, .i x4, .i x5, .i x6, .i x7, .l 3 1 n8 cs8] = ((n8 + bigL cs8)) := by simp [bigL, Cel.big]; try omega
    rw [e]
    have e1 := HM1.out
    (try simp only [bigL, Cel.big] at *)
    omega
  have g1 : ¬ r1 < 0 := by omega
  go_wp2
  go_ret
  refine ⟨t1.out.on, .inl ⟨_, rfl, ?_⟩⟩
  have e : bigL [.i x0, .i x1, .i x2, .i x3, .i x4, .i x5, .i x6, .i x7, .l 3 1 n8 cs8] = (n8 + bigL cs8) := by simp [bigL, Cel.big]; try omega
  rw [e]
  have e1 := HM1.out
  (try simp only [bigL, Cel.big] at *)
  omega
end Go.Proofs.YtkbodiggdajbeaaDoor

/- The laws' own functions on data. -/
namespace Go.Proofs.YtkbodiggdajbeaaDoor
open Go.ChangeShapes Go.WideShapes Go.ChangeAt Go.RowKit Go.Joins
set_option linter.unusedSimpArgs false

set_option maxRecDepth 100000 in
theorem flatOp : Flat Tryd.prog 23 tyOp := by
  refine Flat.st 23 _ [[.i], [.i], [.i]] Tryd.underlying23 rfl (by kernel_rfl) ?_ ?_
  · intro i f g hf hg
    have hi : i < 3 := by have := (List.getElem?_eq_some_iff.1 hg).1; simpa using this
    rcases (show i = 0 ∨ i = 1 ∨ i = 2 by omega) with rfl | rfl | rfl <;> (simp at hf hg; subst hf hg)
    · exact ⟨rfl, by kernel_rfl⟩
    · exact ⟨rfl, by kernel_rfl⟩
    · exact ⟨rfl, by kernel_rfl⟩
  · intro i f g hf hg
    have hi : i < 3 := by have := (List.getElem?_eq_some_iff.1 hg).1; simpa using this
    rcases (show i = 0 ∨ i = 1 ∨ i = 2 by omega) with rfl | rfl | rfl <;> (simp at hf hg; subst hf hg)
    · exact Flat.i _ Tryd.underlying3
    · exact Flat.i _ Tryd.underlying3
    · exact Flat.i _ Tryd.underlying3
set_option maxRecDepth 100000 in
theorem flatRes : Flat Tryd.prog 26 tyRes := by
  refine Flat.st 26 _ [[.i], [.l 3 1 [.i]]] Tryd.underlying26 rfl (by kernel_rfl) ?_ ?_
  · intro i f g hf hg
    have hi : i < 2 := by have := (List.getElem?_eq_some_iff.1 hg).1; simpa using this
    rcases (show i = 0 ∨ i = 1 by omega) with rfl | rfl <;> (simp at hf hg; subst hf hg)
    · exact ⟨rfl, by kernel_rfl⟩
    · exact ⟨rfl, by kernel_rfl⟩
  · intro i f g hf hg
    have hi : i < 2 := by have := (List.getElem?_eq_some_iff.1 hg).1; simpa using this
    rcases (show i = 0 ∨ i = 1 by omega) with rfl | rfl <;> (simp at hf hg; subst hf hg)
    · exact Flat.i _ Tryd.underlying3
    · exact Flat.l _ _ 3 1 _ Tryd.underlying24 rfl (by decide) (by kernel_rfl) (Flat.i _ Tryd.underlying3)
set_option maxRecDepth 100000 in
theorem flatRows : Flat Tryd.prog 39 tyRows := by
  refine Flat.st 39 _ [[.l 3 1 [.i]], [.i]] Tryd.underlying39 rfl (by kernel_rfl) ?_ ?_
  · intro i f g hf hg
    have hi : i < 2 := by have := (List.getElem?_eq_some_iff.1 hg).1; simpa using this
    rcases (show i = 0 ∨ i = 1 by omega) with rfl | rfl <;> (simp at hf hg; subst hf hg)
    · exact ⟨rfl, by kernel_rfl⟩
    · exact ⟨rfl, by kernel_rfl⟩
  · intro i f g hf hg
    have hi : i < 2 := by have := (List.getElem?_eq_some_iff.1 hg).1; simpa using this
    rcases (show i = 0 ∨ i = 1 by omega) with rfl | rfl <;> (simp at hf hg; subst hf hg)
    · exact Flat.l _ _ 3 1 _ Tryd.underlying24 rfl (by decide) (by kernel_rfl) (Flat.i _ Tryd.underlying3)
    · exact Flat.i _ Tryd.underlying3
set_option maxRecDepth 100000 in
theorem flatCall : Flat Tryd.prog 28 tyCall := by
  refine Flat.st 28 _ [[.i], tyOp, [.i], [.i], [.i], tyRes] Tryd.underlying28 rfl (by kernel_rfl) ?_ ?_
  · intro i f g hf hg
    have hi : i < 6 := by have := (List.getElem?_eq_some_iff.1 hg).1; simpa using this
    rcases (show i = 0 ∨ i = 1 ∨ i = 2 ∨ i = 3 ∨ i = 4 ∨ i = 5 by omega) with rfl | rfl | rfl | rfl | rfl | rfl <;> (simp at hf hg; subst hf hg)
    · exact ⟨rfl, by kernel_rfl⟩
    · exact ⟨rfl, by kernel_rfl⟩
    · exact ⟨rfl, by kernel_rfl⟩
    · exact ⟨rfl, by kernel_rfl⟩
    · exact ⟨rfl, by kernel_rfl⟩
    · exact ⟨rfl, by kernel_rfl⟩
  · intro i f g hf hg
    have hi : i < 6 := by have := (List.getElem?_eq_some_iff.1 hg).1; simpa using this
    rcases (show i = 0 ∨ i = 1 ∨ i = 2 ∨ i = 3 ∨ i = 4 ∨ i = 5 by omega) with rfl | rfl | rfl | rfl | rfl | rfl <;> (simp at hf hg; subst hf hg)
    · exact Flat.i _ Tryd.underlying3
    · exact flatOp
    · exact Flat.i _ Tryd.underlying3
    · exact Flat.i _ Tryd.underlying3
    · exact Flat.i _ Tryd.underlying3
    · exact flatRes
end Go.Proofs.YtkbodiggdajbeaaDoor
