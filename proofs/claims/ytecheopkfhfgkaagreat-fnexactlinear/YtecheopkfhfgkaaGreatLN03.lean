/- Texts joined: Ints, ResL, Desc, SpecEntries, SpecWord, SpecDesc, SpecMem, Hold, Range3, ValOk, ImplRows, SpecRows, MchG, MchC, MchB, ClassOf, WordsM, SpecHow. -/
import Derived.Test.YtecheopkfhfgkaaGreatRows
import Derived.Test.YtecheopkfhfgkaaGreatLN01
import Derived.WalkKit
import Derived.ProofKit
import Derived.WalkSmall
import Derived.OpenShut
import Derived.Test.YtecheopkfhfgkaaGreatLN02
import Derived.Handy
import Derived.ChangeOld
import Derived.Lib.SmallJoins
import Derived.Deep.QuietTactic
import Derived.BigQuiet
import Derived.WalkSpells
import Derived.Maps.OwnRows
import Derived.Maps.OwnSet
import Derived.Maps.RangeWalk
import Derived.Maps.Views
import Derived.Deep.RegionWith
set_option maxHeartbeats 2000000
set_option maxRecDepth 100000
namespace Go.Proofs.YtecheopkfhfgkaaGreat
section
open Go.ChangeShapes Go.WideShapes Go.ChangeAt Go.RowKit
def upto (xs : List Int) (k n : Nat) : List Int := xs.take k ++ List.replicate (n - k) 0
end
section
open Go.ChangeShapes Go.WideShapes Go.ChangeAt Go.RowKit Go.Joins

end
section
open Go.ChangeShapes Go.WideShapes Go.ChangeAt Go.RowKit
abbrev DescV (sq st : Int) (ea : Option Addr) (en ec : Nat) (cd : Int) (ra : Option Addr) (rn rc : Nat) : Value := .agg #[.int .i64 sq, .int .i64 st, .slice ea en ec, .int .i64 cd, .slice ra rn rc]
abbrev DescC (sq st : Int) (ea : Option Addr) (en ec : Nat) (cd : Int) (ra : Option Addr) (rn rc : Nat) : Array Value := #[.int .i64 sq, .int .i64 st, .slice ea en ec, .int .i64 cd, .slice ra rn rc]
theorem Box.three {w : World} {b : Nat} {T : TypeId} {x y z : Value} (h : Box w b #[x, y, z] T) :
    w.cell? ⟨b, 0, none⟩ = some x ∧ w.cell? ⟨b, 1, none⟩ = some y ∧ w.cell? ⟨b, 2, none⟩ = some z ∧ w.frozen? ⟨b, 0, none⟩ = false ∧ w.frozen? ⟨b, 1, none⟩ = false ∧ w.frozen? ⟨b, 2, none⟩ = false :=
  ⟨h.cell 0, h.cell 1, h.cell 2, h.frozen 0, h.frozen 1, h.frozen 2⟩
end
section
open Go.ChangeShapes Go.WideShapes Go.ChangeAt Go.RowKit Go.Joins
def wordOkM (n t s th : Int) : Bool := if t = 0 then (decide (s = 0) && inB n 0 1000) else (decide (n = 0) && (inB t 1 th && inB s 1 1000000))
end
section
open Go.ChangeShapes Go.WideShapes Go.ChangeAt Go.RowKit

abbrev MemV (wa : Option Addr) (m wc : Nat) (da : Option Addr) (n dc : Nat) : Value := .agg #[.slice wa m wc, .slice da n dc]
def DescGood (d : DK) : Prop := descOkM d.sq d.st d.en d.es d.cd d.rn = true
def WordGood (fs : List Int) (ds : List DK) (i : Nat) : Prop :=
  wordOkM (fs.getD (i * 3) 0) (fs.getD (i * 3 + 1) 0) (fs.getD (i * 3 + 2) 0) ds.length = true ∧
  (0 < fs.getD (i * 3 + 1) 0 → (entM (dk ds (fs.getD (i * 3 + 1) 0 - 1).toNat).es (dk ds (fs.getD (i * 3 + 1) 0 - 1).toNat).en i).2.2.2 = true ∧ (dk ds (fs.getD (i * 3 + 1) 0 - 1).toNat).sq = fs.getD (i * 3 + 2) 0)
def MemGood (fs : List Int) (m : Nat) (ds : List DK) : Prop := m = 20 ∧ (1 ≤ ds.length ∧ ds.length ≤ 4) ∧ (∀ i, i < ds.length → DescGood (dk ds i)) ∧ ∀ i, i < m → WordGood fs ds i
def CapAt (w : World) (a : Option Addr) (n : Nat) (ds : List DK) : Prop :=
  n = 0 ∨ ∃ b o, a = some ⟨b, o, none⟩ ∧ ∀ i, i < n → ∃ ea ec, w.cell? ⟨b, o + i * 5 + 2, none⟩ = some (.slice ea (dk ds i).en ec) ∧ (dk ds i).en ≤ ec
theorem CapAt.below {w w' : World} {a : Option Addr} {n : Nat} {ds : List DK} (h : CapAt w a n ds) {B : Nat} (hb : Below B w w') (hB : w.heap.size ≤ B) : CapAt w' a n ds := by
  rcases h with h | ⟨b, o, h1, h2⟩
  · exact .inl h
  · refine .inr ⟨b, o, h1, fun i hi => ?_⟩
    obtain ⟨ea, ec, h3, h4⟩ := h2 i hi
    exact ⟨ea, ec, (hb.cell (Nat.lt_of_lt_of_le (World.block_lt_of_cell? w _ h3) hB)).trans h3, h4⟩
theorem Box.two {w : World} {b : Nat} {T : TypeId} {x y : Value} (h : Box w b #[x, y] T) : w.cell? ⟨b, 0, none⟩ = some x ∧ w.cell? ⟨b, 1, none⟩ = some y ∧ w.frozen? ⟨b, 0, none⟩ = false ∧ w.frozen? ⟨b, 1, none⟩ = false :=
  ⟨h.cell 0, h.cell 1, h.frozen 0, h.frozen 1⟩
end
section
open Go.ChangeShapes Go.WideShapes Go.ChangeAt Go.RowKit Go.Maps
theorem mapLaw : Keyed Tryz.prog 3 := int_keyed Tryz.underlying3
theorem zeroInts (w : World) : (zeroValue 22).run Tryz.prog w = .ok (.slice none 0 0) w := by kernel_rfl

def posK (xs : List Int) (k : Nat) (x : Int) : List Int := ((List.range k).filter fun i => xs.getD i 0 == x).map fun (i : Nat) => (i : Int)
theorem posK_zero (xs : List Int) (x : Int) : posK xs 0 x = [] := rfl
theorem posK_same {xs : List Int} {k : Nat} {x : Int} (h : xs.getD k 0 = x) : posK xs (k + 1) x = posK xs k x ++ [(k : Int)] := by
  simp only [posK, List.range_succ, List.filter_append, List.map_append]
  rw [List.filter_cons_of_pos (by simpa using h)]
  rfl
theorem posK_other {xs : List Int} {k : Nat} {x : Int} (h : xs.getD k 0 ≠ x) : posK xs (k + 1) x = posK xs k x := by
  simp only [posK, List.range_succ, List.filter_append, List.map_append]
  rw [List.filter_cons_of_neg (by simpa using h)]
  simp

section
variable {H : Type}
def rowOf : List Int → DataW H
  | [] => .nil
  | z :: r => .slice (lits .i64 (z :: r)) []
theorem rowOf_pos {l : List Int} (h : l ≠ []) : rowOf (H := H) l = .slice (lits .i64 l) [] := by
  cases l with
  | nil => exact absurd rfl h
  | cons z r => rfl

def GD (xs : List Int) (k : Nat) (D : DataW H) : Prop :=
  IsMap D ∧ ∀ x : Int, Maps.has D (.int .i64 x) = decide (posK xs k x ≠ []) ∧ D.atKey (.int .i64 x) .nil = rowOf (posK xs k x)

theorem lits_inj {a b : List Int} (h : lits (H := H) .i64 a = lits .i64 b) : a = b := by
  unfold lits at h
  exact (List.map_inj_right (fun _ _ hxy => by cases hxy; rfl)).1 h

theorem GD_zero (xs : List Int) : GD (H := H) xs 0 (.map []) := ⟨⟨[], rfl⟩, fun _ => ⟨rfl, rfl⟩⟩

theorem GD_zs {xs : List Int} {k : Nat} {D : DataW H} {x : Int} {w : World} {base : Nat} {v : Value} {zs : List Int} (h : GD xs k D) (hat : D.atKey (.int .i64 x) .nil = rowDatum .i64 v zs) (hoi : w.ownsInts base 3 .i64 v zs) : zs = posK xs k x := by
  rw [(h.2 x).2] at hat
  rcases hoi.datum (H := H) with ⟨h1, h2⟩ | h1
  · rw [h1] at hat
    rw [h2]
    cases hp : posK xs k x with
    | nil => rfl
    | cons z r => rw [hp] at hat; cases hat
  · rw [h1] at hat
    cases hp : posK xs k x with
    | nil => rw [hp] at hat; cases hat
    | cons z r =>
      rw [hp] at hat
      simp only [rowOf, DataW.slice.injEq] at hat
      exact (lits_inj hat.1).symm

theorem GD_step {xs : List Int} {k : Nat} {D : DataW H} {x : Int} (h : GD xs k D) (hx : xs.getD k 0 = x) (hw : (Lit.int .i64 x).wf = true) : GD xs (k + 1) (D.put (.int .i64 x) (.slice (lits .i64 (posK xs k x ++ [(k : Int)])) [])) := by
  have hk : WideAt.IsKeyLit (.int .i64 x) := mapLaw.key (keyOf_int_mk Tryz.underlying3 hw)
  refine ⟨h.1.put _ _, fun y => ?_⟩
  by_cases hy : y = x
  · subst hy
    rw [posK_same hx, has_put_same h.1 hk, atKey_put_same h.1 hk, rowOf_pos (by simp)]
    simp
  · have hne : Lit.int .i64 y ≠ .int .i64 x := fun e => hy (by cases e; rfl)
    rw [posK_other (fun e => hy (by rw [← hx, e])), has_put_other hne, atKey_put_other hne]
    exact h.2 y

def HD (xs : List Int) (D : DataW H) : Prop :=
  ∀ x : Int, Maps.has D (.int .i64 x) = decide (x ≠ 0 ∧ posK xs 4 x ≠ []) ∧ (x ≠ 0 → ∀ zd, posK xs 4 x ≠ [] → D.atKey (.int .i64 x) zd = .slice (lits .i64 (posK xs 4 x)) [])

end

theorem groups_map {H : Type} {w : World} {P : Program} {k : TypeId} {base : Nat} {e : TypeId} {q : IntKind} {b n : Nat} {D : DataW H} (h : w.ownsGroups P k base e q b n D) : w.ownsMap P k (rowElem w base e q) b n D := by
  obtain ⟨es, clock, hb, F, hs, hD, _⟩ := h
  exact ⟨es, clock, hb, F, hs, hD⟩
theorem atKey_has {H : Type} {D : DataW H} {k : Lit} (h : Maps.has D k = true) (z z' : DataW H) : D.atKey k z = D.atKey k z' := by
  cases D <;> try (simp [Maps.has] at h; done)
  rename_i es
  simp only [Maps.has] at h
  simp only [DataW.atKey]
  obtain ⟨p, hp, hk⟩ := List.any_eq_true.1 h
  cases hf : es.find? (fun p => p.1.sameKey k) with
  | some q => rfl
  | none => exact absurd hk (by simpa using List.find?_eq_none.1 hf p hp)

def RowsIn {H : Type} (R : Value → Option (DataW H × List MemPlace)) (w : World) (base : Nat) : Prop :=
  ∀ v y, R v = some y → ∃ zs, w.ownsInts base 3 .i64 v zs ∧ y.1 = rowDatum .i64 v zs
theorem row_slice {w : World} {base : Nat} {v : Value} {zs : List Int} (h : w.ownsInts base 3 .i64 v zs) : ∃ p : Option Addr × Nat × Nat, v = .slice p.1 p.2.1 p.2.2 := by
  rcases h.1.2 with ⟨rfl, _⟩ | ⟨g, cap, cur, rfl, _⟩
  · exact ⟨(none, 0, 0), rfl⟩
  · exact ⟨(some ⟨g, 0, none⟩, zs.length, cap), rfl⟩

theorem row_len {w : World} {base : Nat} {a : Option Addr} {n c : Nat} {zs : List Int} (h : w.ownsInts base 3 .i64 (.slice a n c) zs) : n = zs.length := by
  rcases h.1.2 with ⟨h1, h2⟩ | ⟨g, cap, cur, h1, _⟩
  · simp only [Value.slice.injEq] at h1
    omega
  · simp only [Value.slice.injEq] at h1
    exact h1.2.1

theorem row_intAt {w : World} {base : Nat} {a : Option Addr} {n c : Nat} {zs : List Int} (h : w.ownsInts base 3 .i64 (.slice a n c) zs) (h0 : zs ≠ []) (hn : zs.length ≤ 4) : ∃ g, a = some ⟨g, 0, none⟩ ∧ w.cell? ⟨g, 0, none⟩ = some (I (zs.getD 0 0)) ∧ g < w.heap.size ∧ base ≤ g := by
  have hl := row_len h
  have h00 : 0 < zs.length := List.length_pos_iff.2 h0
  rcases h.1.2 with ⟨h1, h2⟩ | ⟨g, cap, cur, h1, h3⟩
  · omega
  · simp only [Value.slice.injEq] at h1
    obtain ⟨rfl, rfl, rfl⟩ := h1
    have h4 := own_intAt h.1 (by omega)
    have h5 := h.1.lt g rfl
    refine ⟨g, rfl, ?_, h5.2, h5.1⟩
    rcases h4.2.2 with h6 | ⟨b, o, h6, h7⟩
    · omega
    · simp only [Option.some.injEq, Addr.mk.injEq] at h6
      obtain ⟨rfl, rfl, _⟩ := h6
      exact h7 0 h00

theorem step_row {H : Type} {xs : List Int} {D : DataW H} {R : Value → Option (DataW H × List MemPlace)} {w0 : World} {base : Nat} {x : Int} {v : Value} {y : DataW H × List MemPlace} (hR : RowsIn R w0 base) (hD : HD xs D) (hv : R v = some y) (hat : ∀ zd, D.atKey (.int .i64 x) zd = y.1) :
    x ≠ 0 ∧ posK xs 4 x ≠ [] ∧ w0.ownsInts base 3 .i64 v (posK xs 4 x) := by
  have hh := has_true_of_atKey hat
  rw [(hD x).1] at hh
  obtain ⟨h0, hp⟩ := of_decide_eq_true hh
  obtain ⟨zs, ho, hy⟩ := hR v y hv
  have h1 := (hD x).2 h0 .nil hp
  rw [hat, hy] at h1
  refine ⟨h0, hp, ?_⟩
  rcases ho.datum (H := H) with ⟨h2, _⟩ | h2
  · rw [h2] at h1; cases h1
  · rw [h2] at h1
    simp only [DataW.slice.injEq] at h1
    rw [← lits_inj h1.1]
    exact ho

section
variable {H : Type} {P : Program} (w : World) {ops : Array Oper} {rest : List Oper} {o : Oper} {a : Act} {Q : Exit → Act → World → Prop}
theorem wpList_next_rows (hg : o.guard = none) (it : Operand) (hop : o.op = Op.next it false) (R : Value → Option (DataW H × List MemPlace)) {w0 : World} {base : Nat} (hR : RowsIn R w0 base) {xs : List Int}
    (b r n : Nat) (D : DataW H) (hD : HD xs D) (left : Lit → Bool) (cnt : Nat) (hit : a.eval it = .pointer (some ⟨r, 0, none⟩)) (h : w.ranges Tryz.prog 3 R b r n D left cnt)
    (hDone : cnt = 0 → (∀ kl, left kl = false) → wpList Tryz.prog ops Q rest (a.put o.dst (.tuple #[.bool false])) w)
    (hMore : ∀ (x : Int) (p : Option Addr) (l c : Nat) (w' : World) (cnt' : Nat), left (.int .i64 x) = true → x ≠ 0 → posK xs 4 x ≠ [] → w0.ownsInts base 3 .i64 (.slice p l c) (posK xs 4 x) → w'.ranges Tryz.prog 3 R b r n D (fun z => left z && !z.sameKey (.int .i64 x)) cnt' → cnt' < cnt →
      w.grownBy w' (some r) → w'.heap.size = w.heap.size → (Instr.entry (.pointer (some ⟨r, 0, none⟩))).run Tryz.prog w' = .ok (.tuple #[.int .i64 x, .slice p l c]) w' → wpList Tryz.prog ops Q rest (a.put o.dst (.tuple #[.bool true, .int .i64 x, .slice p l c])) w') :
    wpList Tryz.prog ops Q (o :: rest) a w :=
  wpList_next_ranges w hg it hop 3 mapLaw R (Value.int .i64) (fun p : Option Addr × Nat × Nat => Value.slice p.1 p.2.1 p.2.2) (fun key kl hkey => by obtain ⟨x, rfl, _⟩ := Maps.keyOf_int_inv Tryz.underlying3 hkey; exact ⟨x, rfl⟩)
    (fun v y hv => by obtain ⟨zs, ho, _⟩ := hR v y hv; exact row_slice ho)
    b r n D left cnt hit h hDone (fun x c kl y w' cnt' hkey hlk hv hat hrg hlt hgr hsz hen => by
      obtain ⟨x', ex, rfl, hwx⟩ := Maps.keyOf_int_inv Tryz.underlying3 hkey
      cases ex
      obtain ⟨h1, h2, h3⟩ := step_row hR hD hv hat
      exact hMore x c.1 c.2.1 c.2.2 w' cnt' hlk h1 h2 h3 hrg hlt hgr hsz hen)
end

theorem sameKey_int (x y : Int) : (Lit.int .i64 x).sameKey (.int .i64 y) = decide (x = y) := by
  by_cases h : x = y
  · subst h
    simp [Lit.sameKey]
  · rw [Maps.sameKey_ne (fun e => h (by cases e; rfl))]
    simp [h]
end
section
open Go.ChangeShapes Go.WideShapes Go.ChangeAt Go.RowKit
theorem specValOk_any (k : Int) (w : World) :
    Calls Tryz.prog 32 #[.int .i64 k] w fun e w' => e = .returned (.bool (decide (1 ≤ k ∧ k ≤ 6))) ∧ w' = w := by
  by_cases h0 : 1 ≤ k
  · by_cases h1 : k ≤ 6
    · rw [show decide (1 ≤ k ∧ k ≤ 6) = true from decide_eq_true ⟨h0, h1⟩]
      go_enter Tryz.func32, Tryz.ntmps32
      go_wp2
      go_ret
      exact ⟨rfl, rfl⟩
    · rw [show decide (1 ≤ k ∧ k ≤ 6) = false from decide_eq_false (fun h => h1 h.2)]
      go_enter Tryz.func32, Tryz.ntmps32
      go_wp2
      go_ret
      exact ⟨rfl, rfl⟩
  · rw [show decide (1 ≤ k ∧ k ≤ 6) = false from decide_eq_false (fun h => h0 h.1)]
    go_enter Tryz.func32, Tryz.ntmps32
    go_wp2
    go_ret
    exact ⟨rfl, rfl⟩

theorem implValOk_any (k : Int) (w : World) :
    Calls Tryz.prog 41 #[.int .i64 k] w fun e w' => e = .returned (.bool (decide (1 ≤ k ∧ k ≤ 6))) ∧ w' = w := by
  by_cases h0 : 1 ≤ k
  · by_cases h1 : k ≤ 6
    · rw [show decide (1 ≤ k ∧ k ≤ 6) = true from decide_eq_true ⟨h0, h1⟩]
      have h2 : k < 7 := by omega
      go_enter Tryz.func41, Tryz.ntmps41
      go_wp2
      go_ret
      exact ⟨rfl, rfl⟩
    · rw [show decide (1 ≤ k ∧ k ≤ 6) = false from decide_eq_false (fun h => h1 h.2)]
      have h2 : ¬ k < 7 := by omega
      go_enter Tryz.func41, Tryz.ntmps41
      go_wp2
      go_ret
      exact ⟨rfl, rfl⟩
  · rw [show decide (1 ≤ k ∧ k ≤ 6) = false from decide_eq_false (fun h => h0 h.1)]
    go_enter Tryz.func41, Tryz.ntmps41
    go_wp2
    go_ret
    exact ⟨rfl, rfl⟩
end
section
open Go.ChangeShapes Go.WideShapes Go.ChangeAt Go.RowKit Go.Maps
def Says (e : Ending) (p : Prop) : Prop := ∃ ok : Bool, e = .returned (.bool ok) ∧ (ok = true ↔ p)
def Good (xs : List Int) (x : Int) : Prop := (1 ≤ x ∧ x ≤ 6) ∧ (posK xs 4 x).length ≤ 1
def OkRows (xs : List Int) (st : Int) : Prop := xs.length = 4 ∧ 0 ≤ st ∧ st ≤ 5 ∧ ∀ x, x ≠ 0 → posK xs 4 x ≠ [] → Good xs x
def KeyIs (xs : List Int) (n : Nat) (v r : Int) : Prop := (r = -1 ∧ ∀ i, i < n → xs.getD i 0 ≠ v) ∨ ∃ i : Nat, i < n ∧ r = (i : Int) ∧ xs.getD i 0 = v ∧ ∀ j, j < i → xs.getD j 0 ≠ v
def KeySays (e : Ending) (xs : List Int) (n : Nat) (v : Int) : Prop := ∃ r : Int, e = .returned (.int .i64 r) ∧ KeyIs xs n v r

theorem specKeyOf_any (a : Option Addr) (n c : Nat) (st v : Int) (xs : List Int) (w : World) (hA : IntAt w a n xs) :
    Calls Tryz.prog 33 #[.agg #[.slice a n c, .int .i64 st], .int .i64 v] w fun e w' => KeySays e xs n v ∧ Below w.heap.size w w' := by
  have HA : Hid (IntAt w a n xs) := hA
  have hn := hA.2.1
  clear hA
  go_enter Tryz.func33, Tryz.ntmps33
  go_wp2
  go_loopw [5] (fun i wr => ∃ k : Nat, k ≤ n ∧ i = .int .i64 (k : Int) ∧ (∀ j, j < k → xs.getD j 0 ≠ v) ∧ Below (w.heap.size + 1) (w.alloc (.cells #[.slice a n c, .int .i64 st] 29)) wr) (fun i _ => n - (intOf i).toNat)
  case atStart => exact ⟨0, Nat.zero_le _, rfl, fun j hj => by omega, Below.refl _ _⟩
  case round =>
    obtain ⟨k, hk, rfl, hno, hb⟩ := hrel
    have HNO : Hid (∀ j, j < k → xs.getD j 0 ≠ v) := hno
    have hbw : Below w.heap.size w wr := ((Below.refl _ w).alloc (Nat.le_refl _) _).trans (hb.mono (Nat.le_succ _))
    have hc0 : wr.cell? ⟨w.heap.size, 0, none⟩ = some (.slice a n c) := by rw [hb.cell (by simp)]; simp
    clear hno
    by_cases hlt : k < n
    · rcases (HA.out.below hbw (Nat.le_refl _)).2.2 with h0 | ⟨p1, o1, rfl, g1⟩
      · omega
      have e1 := g1 k hlt
      obtain ⟨x, hx⟩ : ∃ x, xs.getD k 0 = x := ⟨_, rfl⟩
      rw [hx] at e1
      have HX : Hid (xs.getD k 0 = x) := hx
      clear g1 hx
      go_wp2
      · have hd : (x == v) = true := by assumption
        go_ret
        exact ⟨⟨(k : Int), rfl, .inr ⟨k, hlt, rfl, HX.out.trans (by simpa using hd), HNO.out⟩⟩, hbw⟩
      · have hd : (x == v) = false := by assumption
        refine ⟨⟨k + 1, by omega, by go_num, fun j hj => ?_, hb⟩, by simp [intOf]; omega⟩
        by_cases hjk : j = k
        · subst hjk
          rw [HX.out]
          simpa using hd
        · exact HNO.out j (by omega)
    · go_wp2
      go_ret
      exact ⟨⟨-1, rfl, .inl ⟨rfl, fun i hi => HNO.out i (by omega)⟩⟩, hbw⟩

def SpecGood (xs : List Int) (n : Nat) (i : Nat) : Prop := xs.getD i 0 = 0 ∨ ((1 ≤ xs.getD i 0 ∧ xs.getD i 0 ≤ 6) ∧ KeyIs xs n (xs.getD i 0) i)
def SpecOk (xs : List Int) (n : Nat) (st : Int) : Prop := (∀ i, i < n → SpecGood xs n i) ∧ n = 4 ∧ 0 ≤ st ∧ st ≤ 5

theorem KeyIs.one {xs : List Int} {n : Nat} {v r s : Int} (h : KeyIs xs n v r) (k : KeyIs xs n v s) : r = s := by
  rcases h with ⟨rfl, h⟩ | ⟨i, hi, rfl, h1, h2⟩ <;> rcases k with ⟨rfl, k⟩ | ⟨j, hj, rfl, k1, k2⟩
  · rfl
  · exact absurd k1 (h j hj)
  · exact absurd h1 (k i hi)
  · by_cases hij : i < j
    · exact absurd h1 (k2 i hij)
    · by_cases hji : j < i
      · exact absurd k1 (h2 j hji)
      · rw [show i = j by omega]

theorem specValOk_not {x : Int} (h : ¬ (1 ≤ x ∧ x ≤ 6)) (w : World) : Calls Tryz.prog 32 #[.int .i64 x] w fun e w' => e = .returned (.bool false) ∧ w' = w := by
  have := specValOk_any x w
  rwa [show decide (1 ≤ x ∧ x ≤ 6) = false from decide_eq_false h] at this

theorem good_next {xs : List Int} {n k : Nat} (h : ∀ j, j < k → SpecGood xs n j) (h1 : SpecGood xs n k) : ∀ j, j < k + 1 → SpecGood xs n j := fun j hj => by
  by_cases hjk : j = k
  · subst hjk
    exact h1
  · exact h j (by omega)

theorem specRowsOk_any (a : Option Addr) (n c : Nat) (st : Int) (xs : List Int) (w : World) (hA : IntAt w a n xs) :
    Calls Tryz.prog 15 #[.agg #[.slice a n c, .int .i64 st]] w fun e w' => Says e (SpecOk xs n st) ∧ Below w.heap.size w w' := by
  have HA : Hid (IntAt w a n xs) := hA
  have hn := hA.2.1
  clear hA
  go_enter Tryz.func15, Tryz.ntmps15
  go_wp2
  go_loopw [3] (fun i wr => ∃ k : Nat, k ≤ n ∧ i = .int .i64 (k : Int) ∧ (∀ j, j < k → SpecGood xs n j) ∧ Below (w.heap.size + 1) (w.alloc (.cells #[.slice a n c, .int .i64 st] 29)) wr) (fun i _ => n - (intOf i).toNat)
  case atStart => exact ⟨0, Nat.zero_le _, rfl, fun j hj => by omega, Below.refl _ _⟩
  case round =>
    obtain ⟨k, hk, rfl, hno, hb⟩ := hrel
    have HNO : Hid (∀ j, j < k → SpecGood xs n j) := hno
    have hbw : Below w.heap.size w wr := ((Below.refl _ w).alloc (Nat.le_refl _) _).trans (hb.mono (Nat.le_succ _))
    have hc0 : wr.cell? ⟨w.heap.size, 0, none⟩ = some (.slice a n c) := by rw [hb.cell (by simp)]; simp
    have hc1 : wr.cell? ⟨w.heap.size, 1, none⟩ = some (.int .i64 st) := by rw [hb.cell (by simp)]; simp
    have hs := hb.size
    clear hno
    by_cases hlt : k < n
    · have HB : Hid (IntAt wr a n xs) := HA.out.below hbw (Nat.le_refl _)
      rcases HB.out.2.2 with h0 | ⟨p1, o1, rfl, g1⟩
      · omega
      have e1 := g1 k hlt
      obtain ⟨x, hx⟩ : ∃ x, xs.getD k 0 = x := ⟨_, rfl⟩
      rw [hx] at e1
      have HX : Hid (xs.getD k 0 = x) := hx
      clear g1 hx
      by_cases hx0 : x = 0
      · subst hx0
        go_wp2
        go_quiet (fail)
        go_wp2
        exact ⟨⟨k + 1, by omega, by go_num, good_next HNO.out (.inl HX.out), below_drewN hb nq⟩, by simp [intOf]; omega⟩
      · have hx1 : (x != 0) = true := by simpa using hx0
        by_cases hv : 1 ≤ x ∧ x ≤ 6
        · have hdv : decide (1 ≤ x ∧ x ≤ 6) = true := decide_eq_true hv
          go_wp2
          go_region_with (first
            | (go_at_call 32; refine (specValOk_any x _).mono ?_; rintro e w1 ⟨rfl, rfl⟩; rw [hdv])
            | (go_at_call 33; refine (specKeyOf_any _ n c st x xs _ (HB.out.below (Below.refl _ wr).drew (Nat.le_refl _))).mono ?_; rintro e w2 ⟨⟨r, rfl, hr⟩, hb2⟩))
          all_goals
            have hb3 := hb.drew.trans (hb2.mono (show w.heap.size + 1 ≤ wr.heap.size by simpa using hs))
            have HR : Hid (KeyIs xs n x r) := hr
            clear hr
            go_wp2
            · have hd : (r != (k : Int)) = true := by assumption
              have h1 : Hid (¬ SpecOk xs n st) := fun h => by
                rcases h.1 k hlt with h2 | h2
                · exact hx0 (HX.out.symm.trans h2)
                · have h3 := h2.2
                  rw [HX.out] at h3
                  simp [HR.out.one h3] at hd
              go_ret
              exact ⟨⟨false, rfl, by simp [h1.out]⟩, ((Below.refl _ w).alloc (Nat.le_refl _) _).trans (hb3.mono (Nat.le_succ _))⟩
            · have hd : (r != (k : Int)) = false := by assumption
              have h1 : SpecGood xs n k := .inr (by
                rw [HX.out]
                have h2 : r = (k : Int) := by simpa using hd
                exact ⟨hv, h2 ▸ HR.out⟩)
              exact ⟨⟨k + 1, by omega, by go_num, good_next HNO.out h1, hb3⟩, by simp [intOf]; omega⟩
        · have hdv : decide (1 ≤ x ∧ x ≤ 6) = false := decide_eq_false hv
          have h1 : Hid (¬ SpecOk xs n st) := fun h => by
            rcases h.1 k hlt with h2 | h2
            · exact hx0 (HX.out.symm.trans h2)
            · have h3 := h2.1
              rw [HX.out] at h3
              exact hv h3
          go_wp2
          go_quiet (first | (go_at_call 32; refine Calls.quiet_of_same (specValOk_not hv _)) | fail)
          go_wp2
          go_ret
          exact ⟨⟨false, rfl, by simp [h1.out]⟩, below_drewN hbw nq⟩
    · obtain rfl : k = n := by omega
      have H0 : Hid (∀ j, j < k → SpecGood xs k j) := HNO.out
      by_cases hn4 : k = 4
      · subst hn4
        by_cases hs0 : 0 ≤ st
        · by_cases hs1 : st ≤ 5
          · go_wp2
            go_ret
            exact ⟨⟨true, rfl, by simpa using ⟨H0.out, rfl, hs0, hs1⟩⟩, hbw⟩
          · have h1 : Hid (¬ SpecOk xs 4 st) := fun h => hs1 h.2.2.2
            go_wp2
            go_ret
            exact ⟨⟨false, rfl, by simp [h1.out]⟩, hbw⟩
        · have h1 : Hid (¬ SpecOk xs 4 st) := fun h => hs0 h.2.2.1
          go_wp2
          go_ret
          exact ⟨⟨false, rfl, by simp [h1.out]⟩, hbw⟩
      · have h1 : Hid (¬ SpecOk xs k st) := fun h => hn4 h.2.1
        have h2 : ((k : Int) == 4) = false := by simp; omega
        go_wp2
        go_ret
        exact ⟨⟨false, rfl, by simp [h1.out]⟩, hbw⟩

theorem mem_posK {xs : List Int} {k : Nat} {x : Int} {i : Int} : i ∈ posK xs k x ↔ ∃ j : Nat, j < k ∧ xs.getD j 0 = x ∧ i = (j : Int) := by
  simp only [posK, List.mem_map, List.mem_filter, List.mem_range, beq_iff_eq]
  constructor
  · rintro ⟨j, ⟨h1, h2⟩, rfl⟩
    exact ⟨j, h1, h2, rfl⟩
  · rintro ⟨j, h1, h2, rfl⟩
    exact ⟨j, ⟨h1, h2⟩, rfl⟩
theorem one_of {l : List Int} (h : l.length ≤ 1) {a b : Int} (ha : a ∈ l) (hb : b ∈ l) : a = b := by
  match l, h with
  | [], _ => simp at ha
  | [x], _ => simp at ha hb; rw [ha, hb]
  | _ :: _ :: _, h => simp at h
theorem len_of {l : List Int} (hd : l.Nodup) {j : Int} (h : ∀ a ∈ l, a = j) : l.length ≤ 1 := by
  match l, hd with
  | [], _ => simp
  | [x], _ => simp
  | x :: y :: r, hd =>
    have h1 := h x (by simp)
    have h2 := h y (by simp)
    rw [h1, h2] at hd
    simp at hd
theorem posK_nodup (xs : List Int) (k : Nat) (x : Int) : (posK xs k x).Nodup := by
  unfold posK
  exact List.Pairwise.map _ (fun a b hab e => hab (by omega)) (List.nodup_range.filter _)

theorem ok_iff {xs : List Int} {n : Nat} {st : Int} (hl : xs.length = n) : SpecOk xs n st ↔ OkRows xs st := by
  constructor
  · rintro ⟨h, rfl, h0, h1⟩
    refine ⟨hl, h0, h1, fun x hx hp => ?_⟩
    obtain ⟨i, hi⟩ := List.exists_mem_of_ne_nil _ hp
    obtain ⟨j, hj, hjx, rfl⟩ := mem_posK.1 hi
    rcases h j hj with h2 | ⟨h2, h3⟩
    · exact absurd (hjx.symm.trans h2) hx
    rw [hjx] at h2 h3
    refine ⟨h2, len_of (posK_nodup _ _ _) (j := (j : Int)) fun a ha => ?_⟩
    obtain ⟨i, hi, hix, rfl⟩ := mem_posK.1 ha
    rcases h i hi with h4 | ⟨_, h4⟩
    · exact absurd (hix.symm.trans h4) hx
    rw [hix] at h4
    exact h4.one h3
  · rintro ⟨h4, h0, h1, h⟩
    obtain rfl : n = 4 := by omega
    refine ⟨fun i hi => ?_, rfl, h0, h1⟩
    by_cases hx : xs.getD i 0 = 0
    · exact .inl hx
    · have hm : (i : Int) ∈ posK xs 4 (xs.getD i 0) := mem_posK.2 ⟨i, hi, rfl, rfl⟩
      obtain ⟨h2, h3⟩ := h _ hx (List.ne_nil_of_mem hm)
      refine .inr ⟨h2, .inr ⟨i, hi, rfl, rfl, fun j hj e => ?_⟩⟩
      have := one_of h3 hm (mem_posK.2 ⟨j, by omega, e, rfl⟩)
      omega
end
section
open Go.ChangeShapes Go.WideShapes Go.ChangeAt Go.RowKit
structure MaD where
  nw : Nat
  ws : List Int
  nd : Nat
  ds : List DK
  nt : Nat
  ts : Nat → ThD
  tm : Int
  nc : Nat
  f : Nat → CaD
  no : Nat
  os : List Int
  nh : Nat
  hs : List Int
  st : Int
structure MaAt (w : World) (wa da ta ca oa ha : Option Addr) (M : MaD) : Prop where
  words : TripAt w wa M.nw M.ws
  descs : DescAt w da M.nd M.ds
  ths : ThsAt w ta M.nt M.ts
  calls : CasAt w ca M.nc M.f
  ord : IntAt w oa M.no M.os
  held : IntAt w ha M.nh M.hs
theorem MaAt.below {w w' : World} {wa da ta ca oa ha : Option Addr} {M : MaD} (h : MaAt w wa da ta ca oa ha M) {B : Nat} (hb : Below B w w') (hB : w.heap.size ≤ B) : MaAt w' wa da ta ca oa ha M :=
  ⟨h.words.below hb hB, h.descs.below hb hB, h.ths.below hb hB, h.calls.below hb hB, h.ord.below hb hB, h.held.below hb hB⟩
structure MachGood (M : MaD) : Prop where
  mem : MemGood M.ws M.nw M.ds
  many : M.nd = M.nt
  time : inB M.tm 0 100000 = true
  first : OkRows M.hs M.st
  calls : CallsGood M.f M.nc M.os M.no M.nt M.tm
  ths : ∀ i, i < M.nt → ThGood (M.ts i) M.nt ∧ TaskSpec M.f M.nc (i : Int) (M.ts i)
abbrev MaV (wa : Option Addr) (wc : Nat) (da : Option Addr) (dc : Nat) (ta : Option Addr) (tc : Nat) (ca : Option Addr) (cc : Nat) (oa : Option Addr) (oc : Nat) (ha : Option Addr) (hc : Nat) (M : MaD) : Value := .agg #[.slice wa M.nw wc, .slice da M.nd dc, .slice ta M.nt tc, .int .i64 M.tm, .slice ca M.nc cc, .slice oa M.no oc, .slice ha M.nh hc, .int .i64 M.st]
end
section
open Go.ChangeShapes Go.WideShapes Go.ChangeAt Go.RowKit Go.Joins
def numC : Cel → Int
  | .i x => x
  | _ => 0
def boolC : Cel → Bool
  | .b x => x
  | _ => false
def lenC : Cel → Nat
  | .l _ _ n _ => n
  | _ => 0
def listC : Cel → List Cel
  | .l _ _ _ cs => cs
  | _ => []
def nums (cs : List Cel) : List Int := cs.map numC
def nthC (cs : List Cel) (i : Nat) : Cel := cs.getD i (.i 0)
def thD (r : List Cel) : ThD := ⟨lenC (nthC r 0), nums (listC (nthC r 0)), numC (nthC r 1), boolC (nthC r 2), lenC (nthC r 3), nums (listC (nthC r 3)), lenC (nthC r 4), nums (listC (nthC r 4))⟩
def caD (r : List Cel) : CaD := ⟨numC (nthC r 0), numC (nthC r 1), numC (nthC r 2), numC (nthC r 3), numC (nthC r 4), numC (nthC r 5), numC (nthC r 6), numC (nthC r 7)⟩
def dkD (r : List Cel) : DK := ⟨numC (nthC r 0), numC (nthC r 1), lenC (nthC r 2), nums (listC (nthC r 2)), numC (nthC r 3), lenC (nthC r 4), nums (listC (nthC r 4))⟩
def maD (cs : List Cel) : MaD where
  nw := lenC (nthC cs 0)
  ws := nums (listC (nthC cs 0))
  nd := lenC (nthC cs 1)
  ds := (List.range (lenC (nthC cs 1))).map fun i => dkD (row (listC (nthC cs 1)) 5 i)
  nt := lenC (nthC cs 2)
  ts := fun i => thD (row (listC (nthC cs 2)) 5 i)
  tm := numC (nthC cs 3)
  nc := lenC (nthC cs 4)
  f := fun i => caD (row (listC (nthC cs 4)) 9 i)
  no := lenC (nthC cs 5)
  os := nums (listC (nthC cs 5))
  nh := lenC (nthC cs 6)
  hs := nums (listC (nthC cs 6))
  st := numC (nthC cs 7)

def Ty.isI : Ty → Bool
  | .i => true
  | _ => false
theorem at_kAt {q : Bool} {w : World} {a : Option Addr} {n c k : Nat} {T : TypeId} {cs : List Cel} {fs : List Ty} (h : At q w (.slice a n c) (.l T k n cs)) (hs : Has (.l T k n cs) (.l T k fs)) (hf : ∀ t ∈ fs, t = .i) : KAt k w a n (nums cs) := by
  obtain ⟨a', c', vs, e, h1, h2, hn, -, h3, h4⟩ := h.openL
  cases e
  refine ⟨by unfold nums; rw [List.length_map]; exact h2, hn, ?_⟩
  rcases h3 with h0 | ⟨b, o, rfl, hc⟩
  · exact .inl h0
  · refine .inr ⟨b, o, rfl, fun j hj => ?_⟩
    rw [hc j hj]
    have hv : vs[j]? = some (vs[j]'(by omega)) := List.getElem?_eq_getElem (by omega)
    have hcj : cs[j]? = some (cs[j]'(by omega)) := List.getElem?_eq_getElem (by omega)
    have hat := h4 j _ _ hv hcj
    have hx : ∃ x, cs[j]'(by omega) = .i x := by
      cases hs with
      | l _ _ _ _ _ hk hl hh =>
        have hk0 : 0 < k := Nat.pos_of_ne_zero fun e => by rw [e] at hj; simp at hj
        have hm : j % k < fs.length := by rw [hk]; exact Nat.mod_lt _ hk0
        have ht := hh j _ _ hcj (List.getElem?_eq_getElem hm)
        rw [hf _ (List.getElem_mem hm)] at ht
        exact ht.int
    obtain ⟨x, hx⟩ := hx
    rw [hx] at hat
    rw [hv, hat.int]
    have : (nums cs).getD j 0 = x := by
      unfold nums
      have hjc : j < cs.length := by omega
      simp [List.getD, hjc, hx, numC]
    rw [this]
theorem KAt.ints {w : World} {a : Option Addr} {n : Nat} {fs : List Int} (h : KAt 1 w a n fs) : IntAt w a n fs := by
  refine ⟨by have := h.1; omega, by have := h.2.1; omega, ?_⟩
  rcases h.2.2 with h0 | ⟨b, o, h1, h2⟩
  · exact .inl h0
  · exact .inr ⟨b, o, h1, fun i hi => h2 i (by omega)⟩
theorem at_rows {q : Bool} {w : World} {a : Option Addr} {n c k : Nat} {T : TypeId} {cs : List Cel} (h : At q w (.slice a n c) (.l T k n cs)) : n = 0 ∨ ∃ b o, a = some ⟨b, o, none⟩ ∧ ∀ i, i < n → ∃ us, AtL q w us (row cs k i) ∧ ∀ r, r < k → w.cell? ⟨b, o + i * k + r, none⟩ = us[r]? := by
  obtain ⟨a', c', vs, e, h1, h2, hn, -, h3, h4⟩ := h.openL
  cases e
  rcases h3 with h0 | ⟨b, o, rfl, hc⟩
  · exact .inl h0
  · refine .inr ⟨b, o, rfl, fun i hi => ⟨_, rowVals h1 h2 h4 hi, fun r hr => ?_⟩⟩
    have hle : i * k + k ≤ n * k := by rw [← Nat.succ_mul]; exact Nat.mul_le_mul_right k hi
    rw [List.getElem?_take_of_lt hr, List.getElem?_drop, Nat.add_assoc, hc (i * k + r) (by omega)]
theorem big_len {T : TypeId} {k n : Nat} {cs : List Cel} : n ≤ (Cel.l T k n cs).big := by simp only [Cel.big]; omega
theorem row_mem_big {cs : List Cel} {k n i : Nat} (hl : cs.length = n * k) (hi : i < n) {j : Nat} {c : Cel} (h : (row cs k i)[j]? = some c) : c.big ≤ bigL cs := by
  have hj : j < k := by have := (List.getElem?_eq_some_iff.1 h).1; rw [rowL_len hl hi] at this; exact this
  rw [row_at hj] at h
  exact big_mem h
theorem int_all {fs : List Ty} (h : fs.all Ty.isI = true) : ∀ t ∈ fs, t = .i := fun t ht => by
  have := (List.all_eq_true.1 h) t ht
  cases t <;> simp [Ty.isI] at this ⊢
theorem i1 : ∀ t ∈ ([.i] : List Ty), t = .i := int_all rfl
end
section
open Go.ChangeShapes Go.WideShapes Go.ChangeAt Go.RowKit
def classN (v : Int) : Int := if 1 ≤ v ∧ v ≤ 6 then v % 3 else -1

theorem specClassOf_any (k : Int) (w : World) :
    Calls Tryz.prog 91 #[.int .i64 k] w fun e w' => e = .returned (.int .i64 (classN k)) ∧ w' = w := by
  by_cases h : 1 ≤ k ∧ k ≤ 6
  · have h2 : k = 1 ∨ k = 2 ∨ k = 3 ∨ k = 4 ∨ k = 5 ∨ k = 6 := by omega
    clear h
    rcases h2 with rfl | rfl | rfl | rfl | rfl | rfl <;> (go_enter Tryz.func91, Tryz.ntmps91; go_wp2; go_ret; exact ⟨rfl, rfl⟩)
  · rw [show classN k = -1 from if_neg h]
    by_cases h0 : 1 ≤ k
    · have h1 : ¬ k ≤ 6 := by omega
      clear h
      go_enter Tryz.func91, Tryz.ntmps91
      go_wp2
      go_ret
      exact ⟨rfl, rfl⟩
    · clear h
      go_enter Tryz.func91, Tryz.ntmps91
      go_wp2
      go_ret
      exact ⟨rfl, rfl⟩

theorem implClassOf_any (k : Int) (w : World) :
    Calls Tryz.prog 89 #[.int .i64 k] w fun e w' => e = .returned (.int .i64 (classN k)) ∧ w' = w := by
  by_cases h : 1 ≤ k ∧ k ≤ 6
  · have h2 : k = 1 ∨ k = 2 ∨ k = 3 ∨ k = 4 ∨ k = 5 ∨ k = 6 := by omega
    clear h
    rcases h2 with rfl | rfl | rfl | rfl | rfl | rfl <;> (go_enter Tryz.func89, Tryz.ntmps89; go_wp2; go_ret; exact ⟨rfl, rfl⟩)
  · rw [show classN k = -1 from if_neg h]
    by_cases h0 : 1 ≤ k
    · have h1 : ¬ k ≤ 6 := by omega
      clear h
      go_enter Tryz.func89, Tryz.ntmps89
      go_wp2
      go_ret
      exact ⟨rfl, rfl⟩
    · clear h
      go_enter Tryz.func89, Tryz.ntmps89
      go_wp2
      go_ret
      exact ⟨rfl, rfl⟩
end
def ownW (y0 y1 y2 y3 v : Int) : Int := if y0 = v then 1 else if y1 = v then 2 else if y2 = v then 3 else if y3 = v then 4 else 0
def bitW (y c : Int) : Int := if (1 ≤ y ∧ y ≤ 6) ∧ classN y = c then 1 else 0
def clsW (y0 y1 y2 y3 c : Int) : Int := bitW y0 c + bitW y1 c + bitW y2 c + bitW y3 c
def viaW (y0 y1 y2 y3 st v : Int) : Int := if ownW y0 y1 y2 y3 v < st then ownW y0 y1 y2 y3 v else 0
def wordsG (y0 y1 y2 y3 c0 c1 c2 s st : Int) : List Int :=
  [y0, y1, y2, y3, ownW y0 y1 y2 y3 1, ownW y0 y1 y2 y3 2, ownW y0 y1 y2 y3 3, ownW y0 y1 y2 y3 4, ownW y0 y1 y2 y3 5, ownW y0 y1 y2 y3 6, c0, c1, c2, s,
   viaW y0 y1 y2 y3 st 1, viaW y0 y1 y2 y3 st 2, viaW y0 y1 y2 y3 st 3, viaW y0 y1 y2 y3 st 4, viaW y0 y1 y2 y3 st 5, viaW y0 y1 y2 y3 st 6]
def wordsL (y0 y1 y2 y3 st : Int) : List Int := wordsG y0 y1 y2 y3 (clsW y0 y1 y2 y3 0) (clsW y0 y1 y2 y3 1) (clsW y0 y1 y2 y3 2) st st

def stepW (L : List Int) (k : Nat) (x : Int) (st : Int) : List Int :=
  if (k : Int) + 1 < st then ((L.set k x).set (x + 3).toNat ((k : Int) + 1)).set (x + 13).toNat ((k : Int) + 1) else (L.set k x).set (x + 3).toNat ((k : Int) + 1)

theorem bitW_zero {c : Int} : bitW 0 c = 0 := by simp [bitW]
def istepW (L : List Int) (k : Nat) (x : Int) (st : Int) : List Int :=
  if (k : Int) + 1 < st then (((L.set k x).set (x + 3).toNat ((k : Int) + 1)).set (10 + x % 3).toNat (((L.set k x).set (x + 3).toNat ((k : Int) + 1)).getD (10 + x % 3).toNat 0 + 1)).set (x + 13).toNat ((k : Int) + 1)
  else ((L.set k x).set (x + 3).toNat ((k : Int) + 1)).set (10 + x % 3).toNat (((L.set k x).set (x + 3).toNat ((k : Int) + 1)).getD (10 + x % 3).toNat 0 + 1)
section
open Go.ChangeShapes Go.WideShapes Go.ChangeAt Go.RowKit
def cntK (xs : List Int) (c : Int) : Nat → Int
  | 0 => 0
  | k + 1 => cntK xs c k + bitW (xs.getD k 0) c
theorem bitW_le (y c : Int) : 0 ≤ bitW y c ∧ bitW y c ≤ 1 := by unfold bitW; split <;> omega
theorem cntK_le (xs : List Int) (c : Int) (k : Nat) : 0 ≤ cntK xs c k ∧ cntK xs c k ≤ (k : Int) := by
  induction k with
  | zero => simp [cntK]
  | succ k ih =>
    have := bitW_le (xs.getD k 0) c
    simp only [cntK]
    omega
theorem cntK_four (xs : List Int) (c : Int) : cntK xs c 4 = clsW (xs.getD 0 0) (xs.getD 1 0) (xs.getD 2 0) (xs.getD 3 0) c := by
  simp [cntK, clsW]

theorem l1Bit_any (b : Bool) (w : World) : Calls Tryz.prog 90 #[.bool b] w fun e w' => e = .returned (.int .i64 (if b then 1 else 0)) ∧ w' = w := by
  cases b
  · go_enter Tryz.func90, Tryz.ntmps90
    go_wp2
    go_ret
    exact ⟨rfl, rfl⟩
  · go_enter Tryz.func90, Tryz.ntmps90
    go_wp2
    go_ret
    exact ⟨rfl, rfl⟩

theorem specHowMany_four (a : Option Addr) (cp : Nat) (st c : Int) (xs : List Int) (w : World) (hA : IntAt w a 4 xs) :
    Calls Tryz.prog 79 #[.agg #[.slice a 4 cp, .int .i64 st], .int .i64 c] w fun e w' => e = .returned (.int .i64 (cntK xs c 4)) ∧ Below w.heap.size w w' := by
  have HA : Hid (IntAt w a 4 xs) := hA
  clear hA
  go_enter Tryz.func79, Tryz.ntmps79
  go_wp2
  go_loopw [5, 6] (fun q i wr => ∃ k : Nat, k ≤ 4 ∧ q = .int .i64 (cntK xs c k) ∧ i = .int .i64 (k : Int) ∧ Below (w.heap.size + 1) (w.alloc (.cells #[.slice a 4 cp, .int .i64 st] 29)) wr) (fun _ i _ => 4 - (intOf i).toNat)
  case atStart => exact ⟨0, Nat.zero_le _, rfl, rfl, Below.refl _ _⟩
  case round =>
    obtain ⟨k, hk, rfl, rfl, hb⟩ := hrel
    have hbw : Below w.heap.size w wr := ((Below.refl _ w).alloc (Nat.le_refl _) _).trans (hb.mono (Nat.le_succ _))
    have hc0 : wr.cell? ⟨w.heap.size, 0, none⟩ = some (.slice a 4 cp) := by rw [hb.cell (by simp)]; simp
    by_cases hlt : k < 4
    · rcases (HA.out.below hbw (Nat.le_refl _)).2.2 with h0 | ⟨p1, o1, rfl, g1⟩
      · omega
      have e1 := g1 k hlt
      obtain ⟨x, hx⟩ : ∃ x, xs.getD k 0 = x := ⟨_, rfl⟩
      rw [hx] at e1
      obtain ⟨q, hq⟩ : ∃ q, cntK xs c k = q := ⟨_, rfl⟩
      have hqb := cntK_le xs c k
      have hnext : Hid (cntK xs c (k + 1) = cntK xs c k + bitW x c) := by rw [← hx]; rfl
      rw [hq] at hqb ⊢
      have HQ : Hid (cntK xs c k = q) := hq
      clear g1 hx hq
      by_cases hv : 1 ≤ x ∧ x ≤ 6
      · by_cases hc : classN x = c
        · have hbit : Hid (bitW x c = 1) := by simp [Hid, bitW, hv, hc]
          have hcc : (classN x == c) = true := by simpa using hc
          clear hc
          go_wp2_with (first
            | (go_at_call 32; refine (specValOk_any x _).mono ?_; rintro e w1 ⟨rfl, rfl⟩; rw [show decide (1 ≤ x ∧ x ≤ 6) = true from decide_eq_true hv])
            | (go_at_call 91; refine (specClassOf_any x _).mono ?_; rintro e w1 ⟨rfl, rfl⟩)
            | (go_at_call 90; refine (l1Bit_any _ _).mono ?_; rintro e w1 ⟨rfl, rfl⟩))
          exact ⟨⟨k + 1, by omega, by rw [hnext.out, HQ.out, hbit.out], by go_num, hb⟩, by simp [intOf]; omega⟩
        · have hbit : Hid (bitW x c = 0) := by simp [Hid, bitW, hc]
          have hcc : (classN x == c) = false := by simpa using hc
          clear hc
          go_wp2_with (first
            | (go_at_call 32; refine (specValOk_any x _).mono ?_; rintro e w1 ⟨rfl, rfl⟩; rw [show decide (1 ≤ x ∧ x ≤ 6) = true from decide_eq_true hv])
            | (go_at_call 91; refine (specClassOf_any x _).mono ?_; rintro e w1 ⟨rfl, rfl⟩)
            | (go_at_call 90; refine (l1Bit_any _ _).mono ?_; rintro e w1 ⟨rfl, rfl⟩))
          exact ⟨⟨k + 1, by omega, by rw [hnext.out, HQ.out, hbit.out, Int.add_zero], by go_num, hb⟩, by simp [intOf]; omega⟩
      · have hbit : Hid (bitW x c = 0) := by simp [Hid, bitW, hv]
        go_wp2_with (first
          | (go_at_call 32; refine (specValOk_any x _).mono ?_; rintro e w1 ⟨rfl, rfl⟩; rw [show decide (1 ≤ x ∧ x ≤ 6) = false from decide_eq_false hv])
          | (go_at_call 90; refine (l1Bit_any _ _).mono ?_; rintro e w1 ⟨rfl, rfl⟩))
        exact ⟨⟨k + 1, by omega, by rw [hnext.out, HQ.out, hbit.out, Int.add_zero], by go_num, hb⟩, by simp [intOf]; omega⟩
    · obtain rfl : k = 4 := by omega
      go_wp2
      go_ret
      exact ⟨rfl, hbw⟩
end
end Go.Proofs.YtecheopkfhfgkaaGreat
