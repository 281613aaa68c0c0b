/- impl.holdersOf, walked at four numbers: a new map of its own that has, at each number but nought that is held, the keys that hold it, rising. -/
import Derived.Test.YtkifebhkgldefaaDoorRows
import Derived.Test.YtkifebhkgldefaaDoorOwn
import Derived.Test.YtkifebhkgldefaaDoorIntAt
import Derived.WalkKit
import Derived.ProofKit
import Derived.WalkSmall
import Derived.WalkSpells
import Derived.OpenShut
import Derived.Maps.OwnRows
import Derived.Maps.OwnSet
import Derived.Maps.RangeWalk
import Derived.Maps.Views
namespace Go.Proofs.YtkifebhkgldefaaDoor
open Go.ChangeShapes Go.WideShapes Go.ChangeAt Go.RowKit Go.Maps

theorem mapLaw : Keyed Tryd.prog 3 := int_keyed Tryd.underlying3
theorem zeroInts (w : World) : (zeroValue 22).run Tryd.prog w = .ok (.slice none 0 0) w := by kernel_rfl

/-- Which of the first k places hold x. -/
def posK (xs : List Int) (k : Nat) (x : Int) : List Int := ((List.range k).filter fun i => xs.getD i 0 == x).map fun (i : Nat) => (i : Int)
theorem posK_zero (xs : List Int) (x : Int) : posK xs 0 x = [] := rfl
theorem posK_same {xs : List Int} {k : Nat} {x : Int} (h : xs.getD k 0 = x) : posK xs (k + 1) x = posK xs k x ++ [(k : Int)] := by
  simp only [posK, List.range_succ, List.filter_append, List.map_append]
  rw [List.filter_cons_of_pos (by simpa using h)]
  rfl
theorem posK_other {xs : List Int} {k : Nat} {x : Int} (h : xs.getD k 0 ≠ x) : posK xs (k + 1) x = posK xs k x := by
  simp only [posK, List.range_succ, List.filter_append, List.map_append]
  rw [List.filter_cons_of_neg (by simpa using h)]
  simp

section
variable {H : Type}
/-- What a list of keys reads as. -/
def rowOf : List Int → DataW H
  | [] => .nil
  | z :: r => .slice (lits .i64 (z :: r)) []
theorem rowOf_pos {l : List Int} (h : l ≠ []) : rowOf (H := H) l = .slice (lits .i64 l) [] := by
  cases l with
  | nil => exact absurd rfl h
  | cons z r => rfl

/-- The map D has, at each number, the keys below k that hold it. -/
def GD (xs : List Int) (k : Nat) (D : DataW H) : Prop :=
  IsMap D ∧ ∀ x : Int, Maps.has D (.int .i64 x) = decide (posK xs k x ≠ []) ∧ D.atKey (.int .i64 x) .nil = rowOf (posK xs k x)

theorem lits_inj {a b : List Int} (h : lits (H := H) .i64 a = lits .i64 b) : a = b := by
  unfold lits at h
  exact (List.map_inj_right (fun _ _ hxy => by cases hxy; rfl)).1 h

theorem GD_zero (xs : List Int) : GD (H := H) xs 0 (.map []) := ⟨⟨[], rfl⟩, fun _ => ⟨rfl, rfl⟩⟩

theorem GD_zs {xs : List Int} {k : Nat} {D : DataW H} {x : Int} {w : World} {base : Nat} {v : Value} {zs : List Int} (h : GD xs k D) (hat : D.atKey (.int .i64 x) .nil = rowDatum .i64 v zs) (hoi : w.ownsInts base 3 .i64 v zs) : zs = posK xs k x := by
  rw [(h.2 x).2] at hat
  rcases hoi.datum (H := H) with ⟨h1, h2⟩ | h1
  · rw [h1] at hat
    rw [h2]
    cases hp : posK xs k x with
    | nil => rfl
    | cons z r => rw [hp] at hat; cases hat
  · rw [h1] at hat
    cases hp : posK xs k x with
    | nil => rw [hp] at hat; cases hat
    | cons z r =>
      rw [hp] at hat
      simp only [rowOf, DataW.slice.injEq] at hat
      exact (lits_inj hat.1).symm

theorem GD_step {xs : List Int} {k : Nat} {D : DataW H} {x : Int} (h : GD xs k D) (hx : xs.getD k 0 = x) (hw : (Lit.int .i64 x).wf = true) : GD xs (k + 1) (D.put (.int .i64 x) (.slice (lits .i64 (posK xs k x ++ [(k : Int)])) [])) := by
  have hk : WideAt.IsKeyLit (.int .i64 x) := mapLaw.key (keyOf_int_mk Tryd.underlying3 hw)
  refine ⟨h.1.put _ _, fun y => ?_⟩
  by_cases hy : y = x
  · subst hy
    rw [posK_same hx, has_put_same h.1 hk, atKey_put_same h.1 hk, rowOf_pos (by simp)]
    simp
  · have hne : Lit.int .i64 y ≠ .int .i64 x := fun e => hy (by cases e; rfl)
    rw [posK_other (fun e => hy (by rw [← hx, e])), has_put_other hne, atKey_put_other hne]
    exact h.2 y

/-- .. and nothing at nought. -/
def HD (xs : List Int) (D : DataW H) : Prop :=
  ∀ x : Int, Maps.has D (.int .i64 x) = decide (x ≠ 0 ∧ posK xs 4 x ≠ []) ∧ (x ≠ 0 → ∀ zd, posK xs 4 x ≠ [] → D.atKey (.int .i64 x) zd = .slice (lits .i64 (posK xs 4 x)) [])

end

theorem groups_map {H : Type} {w : World} {P : Program} {k : TypeId} {base : Nat} {e : TypeId} {q : IntKind} {b n : Nat} {D : DataW H} (h : w.ownsGroups P k base e q b n D) : w.ownsMap P k (rowElem w base e q) b n D := by
  obtain ⟨es, clock, hb, F, hs, hD, _⟩ := h
  exact ⟨es, clock, hb, F, hs, hD⟩
theorem groups_base {H : Type} {w : World} {P : Program} {k : TypeId} {base : Nat} {e : TypeId} {q : IntKind} {b n : Nat} {D : DataW H} (h : w.ownsGroups P k base e q b n D) : b < base := by
  obtain ⟨es, clock, hb, F, hs, hD, h1, _⟩ := h
  exact h1

/-- What stands at a key that is there does not hang on what would be told if it were not. -/
theorem atKey_has {H : Type} {D : DataW H} {k : Lit} (h : Maps.has D k = true) (z z' : DataW H) : D.atKey k z = D.atKey k z' := by
  cases D <;> try (simp [Maps.has] at h; done)
  rename_i es
  simp only [Maps.has] at h
  simp only [DataW.atKey]
  obtain ⟨p, hp, hk⟩ := List.any_eq_true.1 h
  cases hf : es.find? (fun p => p.1.sameKey k) with
  | some q => rfl
  | none => exact absurd hk (by simpa using List.find?_eq_none.1 hf p hp)

/-- What the elements of the map are: lists of numbers of the call's own. -/
def RowsIn {H : Type} (R : Value → Option (DataW H × List MemPlace)) (w : World) (base : Nat) : Prop :=
  ∀ v y, R v = some y → ∃ zs, w.ownsInts base 3 .i64 v zs ∧ y.1 = rowDatum .i64 v zs

set_option maxHeartbeats 1000000 in
set_option maxRecDepth 100000 in
theorem holdersOf_four (H : Type) (a : Option Addr) (st : Int) (xs : List Int) (w : World) (hA : IntAt w a 4 xs) (hi : ∀ x ∈ xs, (Lit.int .i64 x).wf = true) :
    Calls Tryd.prog 49 #[.agg #[.slice a 4 4, .int .i64 st]] w fun e w' =>
      e = .returned (.map (some (w.heap.size + 1))) ∧ Below w.heap.size w w' ∧ ∃ (R : Value → Option (DataW H × List MemPlace)) (D : DataW H), w'.ownsMap Tryd.prog 3 R (w.heap.size + 1) 4 D ∧ RowsIn R w' (w.heap.size + 2) ∧ HD xs D := by
  obtain ⟨hl, _, h0 | ⟨b, o, rfl, hc⟩⟩ := hA
  · omega
  have hmm := @run_makeMap Tryd.prog
  have HC : Hid (∀ i, i < 4 → w.cell? ⟨b, o + i, none⟩ = some (I (xs.getD i 0))) := hc
  have HI : Hid (∀ x ∈ xs, (Lit.int .i64 x).wf = true) := hi
  have HL : Hid (xs.length = 4) := hl
  have hblt : b < w.heap.size := World.block_lt_of_cell? w _ (hc 0 (by omega))
  clear hc hi hl
  obtain ⟨i0, hin, hz0, hz1, hz2⟩ := info_parts infoInt
  go_enter Tryd.func49, Tryd.ntmps49
  go_wp2
  go_loopw [15] (fun i wr => ∃ k : Nat, k ≤ 4 ∧ i = .int .i64 (k : Int) ∧ ∃ D : DataW H, wr.ownsGroups Tryd.prog 3 (w.heap.size + 2) 3 .i64 (w.heap.size + 1) k D ∧ GD xs k D ∧ Below w.heap.size w wr ∧ w.heap.size + 2 ≤ wr.heap.size)
    (fun i _ => 4 - (intOf i).toNat)
  case atStart =>
    refine ⟨0, Nat.zero_le _, rfl, .map [], ?_, GD_zero _, ((Below.refl _ _).alloc (Nat.le_refl _) _).alloc (by simp) _, by simp⟩
    have := World.ownsGroups_made (H := H) (w.alloc (Obj.cells #[Value.slice (some { block := b, off := o }) 4 4, Value.int IntKind.i64 st] 24)) Tryd.prog 3 3 .i64
    simpa using this
  case round =>
    obtain ⟨k, hk, rfl, D, hown, hgd, hnx, hws⟩ := hrel
    obtain ⟨x, hx⟩ : ∃ x, xs.getD k 0 = x := ⟨_, rfl⟩
    have HX : Hid (xs.getD k 0 = x) := hx
    have HGD : Hid (GD xs k D) := hgd
    by_cases hlt : k < 4
    · have hcx : wr.cell? ⟨b, o + k, none⟩ = some (I x) := by rw [← hx]; exact (hnx.cell (by exact hblt)).trans (HC.out k hlt)
      have hwx : (Lit.int .i64 x).wf = true := HI.out x (by
        have hk4 : k < xs.length := by have := HL.out; omega
        rw [← hx, show xs.getD k 0 = xs[k] by simp [List.getD, hk4]]
        exact List.getElem_mem _)
      have hkey := keyOf_int_mk Tryd.underlying3 hwx
      clear hx hgd
      go_wp2_with (first
        | (at_lookup; refine wpList_lookup_groups _ rfl _ _ 46 rfl 3 22 3 .i64 mapLaw Tryd.underlying46 (zeroInts _) (w.heap.size + 2) (w.heap.size + 1) k _ rfl hown (by unfold maxLen; omega) _ _ rfl hkey ?_; intro v zs hat hoi hzl hback)
        | (at_builtin; refine wpList_append_own_at _ rfl _ _ 22 rfl (w.heap.size + 2) 3 i0 (.int .i64 0) 1 8 Tryd.underlying22 hin hz0 hz1 hz2 rfl (by decide) _ _ _ rfl (hoi.1.alloc _) ⟨wr.heap.size, 0, none⟩ 1 1 [.int .i64 k] rfl rfl (cell_one_new _ _ _) (ints_oneCell .i64 [(k : Int)]) (by unfold maxLen; omega) (by omega) (by simp; omega) ?_; intro v' w1 hown' hgrow hnil hloc)
        | (at_mapUpdate; refine wpList_mapUpdate_back _ rfl _ _ _ 46 rfl hback rfl rfl rfl ((World.grownBy_alloc _ _ _).trans hgrow) (hoi.appended hown' (WalkArith.wf_i64 (by omega))) (by simp; omega) (hloc.imp id (fun h => ⟨_, h, by simp⟩)) ?_; intro w2 hown2 hgrow2)
        | go_in)
      have hall := (World.grownBy_alloc wr _ _).trans hgrow
      go_roundw
      case rel =>
        refine ⟨k + 1, by omega, by go_num, _, hown2, ?_, hnx.groups hoi hall hgrow2 hnx.size (by omega) (by omega), Nat.le_trans hws (Nat.le_trans hall.size hgrow2.size)⟩
        show GD xs (k + 1) (D.put (.int .i64 x) (rowDatum .i64 v' (zs ++ [(k : Int)])))
        rw [(hoi.appended hown' (WalkArith.wf_i64 (by omega))).datum_pos (by simp), GD_zs HGD.out hat hoi]
        exact GD_step HGD.out HX.out hwx
      case measure => simp [intOf]; omega
    · obtain rfl : k = 4 := by omega
      have hkey0 : keyOf Tryd.prog 3 (.int .i64 0) = some (.int .i64 0) := keyOf_int_mk Tryd.underlying3 (by decide)
      go_wp2_with (first
        | (at_delete; refine wpList_delete_own _ rfl _ _ 46 3 rfl 22 mapLaw Tryd.underlying46 _ (w.heap.size + 1) 4 D rfl (groups_map hown) _ _ rfl hkey0 ?_; intro w1 hown1 hturn1)
        | go_in)
      go_ret
      have hg1 := hturn1.grown
      refine ⟨rfl, hnx.grown hg1 hnx.size (fun j hj => by cases hj; omega), _, _, hown1, ?_, ?_⟩
      · intro v y hy
        obtain ⟨zs, ho, rfl⟩ := rowElem_inv hy
        refine ⟨zs, ho.kept hg1 ?_, rfl⟩
        cases hv : v.ownBlock with
        | none => exact .inl rfl
        | some g =>
          refine .inr fun e1 => ?_
          have := (ho.1.lt g hv).1
          cases e1
          omega
      · intro x
        have hg := HGD.out.2 x
        by_cases h0 : x = 0
        · subst h0
          refine ⟨by rw [has_del_same]; simp, fun h => absurd rfl h⟩
        · have hne : Lit.int .i64 x ≠ .int .i64 0 := fun e => h0 (by cases e; rfl)
          rw [has_del_other hne, hg.1]
          refine ⟨by simp [h0], fun _ zd hp => ?_⟩
          rw [atKey_del_other hne, atKey_has (by rw [hg.1]; simpa using hp) zd .nil, hg.2, rowOf_pos hp]
end Go.Proofs.YtkifebhkgldefaaDoor
