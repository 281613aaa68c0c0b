/- Texts joined: Own, IntAt, Hold, Range3, ValOk, ImplRows, SpecRows, ClassOf. -/
import Derived.WalkKit
import Derived.Test.YtfanppifelajnaaDoorRows
import Derived.ProofKit
import Derived.WalkSmall
import Derived.OpenShut
import Derived.WalkSpells
import Derived.Maps.OwnRows
import Derived.Maps.OwnSet
import Derived.Maps.RangeWalk
import Derived.Maps.Views
import Derived.Deep.RegionWith
import Derived.Deep.QuietTactic
import Derived.BigQuiet
set_option maxHeartbeats 2000000
set_option maxRecDepth 100000
namespace Go.Proofs.YtfanppifelajnaaDoor
section
open Go.RowKit
theorem owns_below {w w' : World} {base : Nat} {e : TypeId} {size : Nat} {v : Value} {n : Nat} {xs : List Value} (h : w.ownsRow base e size v n xs) {B : Nat} (hb : Below B w w') (hB : w.heap.size ≤ B) : w'.ownsRow base e size v n xs := by
 obtain ⟨h1, h2 | ⟨g, cap, cur, h3, h4, h5, h6⟩⟩ := h
 · exact ⟨h1, .inl h2⟩
 · refine ⟨h1, .inr ⟨g, cap, cur, h3, h4, ?_, h6⟩⟩
   have := (Array.getElem?_eq_some_iff.1 h5).1
   rw [hb.block g (by omega)]
   exact h5
theorem own_cell {w : World} {base : Nat} {e : TypeId} {g n cap j : Nat} {xs : List Value} (h : w.ownsRow base e 1 (.slice (some ⟨g, 0, none⟩) n cap) n xs) (hj : j < n) : ∃ u, w.cell? ⟨g, j, none⟩ = some u := by
 have h1 := h.cellAt j (by omega)
 have h2 : j < xs.length := by rw [h.1]; omega
 exact ⟨xs[j], by rw [h1, List.getElem?_eq_getElem h2]⟩
theorem own_base {w : World} {base : Nat} {e : TypeId} {g n cap : Nat} {xs : List Value} (h : w.ownsRow base e 1 (.slice (some ⟨g, 0, none⟩) n cap) n xs) : base ≤ g ∧ g < w.heap.size := h.lt g rfl
end
section
open Go.ChangeShapes Go.WideShapes Go.ChangeAt Go.RowKit
abbrev I (x : Int) : Value := .int .i64 x
def IntAt (w : World) (a : Option Addr) (n : Nat) (xs : List Int) : Prop :=
 xs.length = n ∧ n ≤ 1099511627776 ∧ (n = 0 ∨ ∃ b o, a = some ⟨b, o, none⟩ ∧ ∀ i, i < n → w.cell? ⟨b, o + i, none⟩ = some (I (xs.getD i 0)))
theorem IntAt.below {w w' : World} {a : Option Addr} {n : Nat} {xs : List Int} (h : IntAt w a n xs) {B : Nat} (hb : Below B w w') (hB : w.heap.size ≤ B) : IntAt w' a n xs := by
 obtain ⟨h1, h2, h3 | ⟨b, o, h3, h4⟩⟩ := h
 · exact ⟨h1, h2, .inl h3⟩
 · refine ⟨h1, h2, .inr ⟨b, o, h3, fun i hi => ?_⟩⟩
   have h5 := h4 i hi
   have h6 := World.block_lt_of_cell? w _ h5
   rw [hb.cell (show _ < B from Nat.lt_of_lt_of_le h6 hB)]
   exact h5
theorem own_intAt {w : World} {base : Nat} {e : TypeId} {g n cap : Nat} {xs : List Int} (h : w.ownsRow base e 1 (.slice (some ⟨g, 0, none⟩) n cap) n (xs.map I)) (hn : n ≤ 1099511627776) : IntAt w (some ⟨g, 0, none⟩) n xs := by
 have hl : xs.length = n := by have := h.1; simpa using this
 refine ⟨hl, hn, .inr ⟨g, 0, rfl, fun i hi => ?_⟩⟩
 rw [Nat.zero_add, h.cellAt i (by omega), List.getElem?_map, List.getElem?_eq_getElem (by omega)]
 simp [List.getD, show i < xs.length by omega]
theorem take_nextI {xs ys : List Int} {k : Nat} (hx : k < xs.length) (hy : k < ys.length) (h : xs.take k = ys.take k) (e : xs.getD k 0 = ys.getD k 0) : xs.take (k + 1) = ys.take (k + 1) := by
 have e' : xs[k] = ys[k] := by simpa [List.getD, hx, hy] using e
 rw [List.take_succ_eq_append_getElem hx, List.take_succ_eq_append_getElem hy, h, e']
theorem infoInt : (Tryd.prog.info? 3).map (fun i => (i.zero, i.size, i.bytes)) = some (some (.int .i64 0), 1, 8) := by kernel_rfl
end
section
open Go.ChangeShapes Go.WideShapes Go.ChangeAt Go.RowKit Go.Maps
theorem mapLaw : Keyed Tryd.prog 3 := int_keyed Tryd.underlying3
theorem zeroInts (w : World) : (zeroValue 24).run Tryd.prog w = .ok (.slice none 0 0) w := by kernel_rfl
def posK (xs : List Int) (k : Nat) (x : Int) : List Int := ((List.range k).filter fun i => xs.getD i 0 == x).map fun (i : Nat) => (i : Int)
theorem posK_zero (xs : List Int) (x : Int) : posK xs 0 x = [] := rfl
theorem posK_same {xs : List Int} {k : Nat} {x : Int} (h : xs.getD k 0 = x) : posK xs (k + 1) x = posK xs k x ++ [(k : Int)] := by
 simp only [posK, List.range_succ, List.filter_append, List.map_append]
 rw [List.filter_cons_of_pos (by simpa using h)]
 rfl
theorem posK_other {xs : List Int} {k : Nat} {x : Int} (h : xs.getD k 0 ≠ x) : posK xs (k + 1) x = posK xs k x := by
 simp only [posK, List.range_succ, List.filter_append, List.map_append]
 rw [List.filter_cons_of_neg (by simpa using h)]
 simp
section
variable {H : Type}
def rowOf : List Int → DataW H
 | [] => .nil
 | z :: r => .slice (lits .i64 (z :: r)) []
theorem rowOf_pos {l : List Int} (h : l ≠ []) : rowOf (H := H) l = .slice (lits .i64 l) [] := by
 cases l with
 | nil => exact absurd rfl h
 | cons z r => rfl
def GD (xs : List Int) (k : Nat) (D : DataW H) : Prop :=
 IsMap D ∧ ∀ x : Int, Maps.has D (.int .i64 x) = decide (posK xs k x ≠ []) ∧ D.atKey (.int .i64 x) .nil = rowOf (posK xs k x)
theorem lits_inj {a b : List Int} (h : lits (H := H) .i64 a = lits .i64 b) : a = b := by
 unfold lits at h
 exact (List.map_inj_right (fun _ _ hxy => by cases hxy; rfl)).1 h
theorem GD_zero (xs : List Int) : GD (H := H) xs 0 (.map []) := ⟨⟨[], rfl⟩, fun _ => ⟨rfl, rfl⟩⟩
theorem GD_zs {xs : List Int} {k : Nat} {D : DataW H} {x : Int} {w : World} {base : Nat} {v : Value} {zs : List Int} (h : GD xs k D) (hat : D.atKey (.int .i64 x) .nil = rowDatum .i64 v zs) (hoi : w.ownsInts base 3 .i64 v zs) : zs = posK xs k x := by
 rw [(h.2 x).2] at hat
 rcases hoi.datum (H := H) with ⟨h1, h2⟩ | h1
 · rw [h1] at hat
   rw [h2]
   cases hp : posK xs k x with
   | nil => rfl
   | cons z r => rw [hp] at hat; cases hat
 · rw [h1] at hat
   cases hp : posK xs k x with
   | nil => rw [hp] at hat; cases hat
   | cons z r =>
     rw [hp] at hat
     simp only [rowOf, DataW.slice.injEq] at hat
     exact (lits_inj hat.1).symm
theorem GD_step {xs : List Int} {k : Nat} {D : DataW H} {x : Int} (h : GD xs k D) (hx : xs.getD k 0 = x) (hw : (Lit.int .i64 x).wf = true) : GD xs (k + 1) (D.put (.int .i64 x) (.slice (lits .i64 (posK xs k x ++ [(k : Int)])) [])) := by
 have hk : WideAt.IsKeyLit (.int .i64 x) := mapLaw.key (keyOf_int_mk Tryd.underlying3 hw)
 refine ⟨h.1.put _ _, fun y => ?_⟩
 by_cases hy : y = x
 · subst hy
   rw [posK_same hx, has_put_same h.1 hk, atKey_put_same h.1 hk, rowOf_pos (by simp)]
   simp
 · have hne : Lit.int .i64 y ≠ .int .i64 x := fun e => hy (by cases e; rfl)
   rw [posK_other (fun e => hy (by rw [← hx, e])), has_put_other hne, atKey_put_other hne]
   exact h.2 y
def HD (xs : List Int) (D : DataW H) : Prop :=
 ∀ x : Int, Maps.has D (.int .i64 x) = decide (x ≠ 0 ∧ posK xs 4 x ≠ []) ∧ (x ≠ 0 → ∀ zd, posK xs 4 x ≠ [] → D.atKey (.int .i64 x) zd = .slice (lits .i64 (posK xs 4 x)) [])
end
theorem groups_map {H : Type} {w : World} {P : Program} {k : TypeId} {base : Nat} {e : TypeId} {q : IntKind} {b n : Nat} {D : DataW H} (h : w.ownsGroups P k base e q b n D) : w.ownsMap P k (rowElem w base e q) b n D := by
 obtain ⟨es, clock, hb, F, hs, hD, _⟩ := h
 exact ⟨es, clock, hb, F, hs, hD⟩
theorem atKey_has {H : Type} {D : DataW H} {k : Lit} (h : Maps.has D k = true) (z z' : DataW H) : D.atKey k z = D.atKey k z' := by
 cases D <;> try (simp [Maps.has] at h; done)
 rename_i es
 simp only [Maps.has] at h
 simp only [DataW.atKey]
 obtain ⟨p, hp, hk⟩ := List.any_eq_true.1 h
 cases hf : es.find? (fun p => p.1.sameKey k) with
 | some q => rfl
 | none => exact absurd hk (by simpa using List.find?_eq_none.1 hf p hp)
def RowsIn {H : Type} (R : Value → Option (DataW H × List MemPlace)) (w : World) (base : Nat) : Prop :=
 ∀ v y, R v = some y → ∃ zs, w.ownsInts base 3 .i64 v zs ∧ y.1 = rowDatum .i64 v zs
theorem row_slice {w : World} {base : Nat} {v : Value} {zs : List Int} (h : w.ownsInts base 3 .i64 v zs) : ∃ p : Option Addr × Nat × Nat, v = .slice p.1 p.2.1 p.2.2 := by
 rcases h.1.2 with ⟨rfl, _⟩ | ⟨g, cap, cur, rfl, _⟩
 · exact ⟨(none, 0, 0), rfl⟩
 · exact ⟨(some ⟨g, 0, none⟩, zs.length, cap), rfl⟩
theorem row_len {w : World} {base : Nat} {a : Option Addr} {n c : Nat} {zs : List Int} (h : w.ownsInts base 3 .i64 (.slice a n c) zs) : n = zs.length := by
 rcases h.1.2 with ⟨h1, h2⟩ | ⟨g, cap, cur, h1, _⟩
 · simp only [Value.slice.injEq] at h1
   omega
 · simp only [Value.slice.injEq] at h1
   exact h1.2.1
theorem row_intAt {w : World} {base : Nat} {a : Option Addr} {n c : Nat} {zs : List Int} (h : w.ownsInts base 3 .i64 (.slice a n c) zs) (h0 : zs ≠ []) (hn : zs.length ≤ 4) : ∃ g, a = some ⟨g, 0, none⟩ ∧ w.cell? ⟨g, 0, none⟩ = some (I (zs.getD 0 0)) ∧ g < w.heap.size ∧ base ≤ g := by
 have hl := row_len h
 have h00 : 0 < zs.length := List.length_pos_iff.2 h0
 rcases h.1.2 with ⟨h1, h2⟩ | ⟨g, cap, cur, h1, h3⟩
 · omega
 · simp only [Value.slice.injEq] at h1
   obtain ⟨rfl, rfl, rfl⟩ := h1
   have h4 := own_intAt h.1 (by omega)
   have h5 := h.1.lt g rfl
   refine ⟨g, rfl, ?_, h5.2, h5.1⟩
   rcases h4.2.2 with h6 | ⟨b, o, h6, h7⟩
   · omega
   · simp only [Option.some.injEq, Addr.mk.injEq] at h6
     obtain ⟨rfl, rfl, _⟩ := h6
     exact h7 0 h00
theorem step_row {H : Type} {xs : List Int} {D : DataW H} {R : Value → Option (DataW H × List MemPlace)} {w0 : World} {base : Nat} {x : Int} {v : Value} {y : DataW H × List MemPlace} (hR : RowsIn R w0 base) (hD : HD xs D) (hv : R v = some y) (hat : ∀ zd, D.atKey (.int .i64 x) zd = y.1) :
   x ≠ 0 ∧ posK xs 4 x ≠ [] ∧ w0.ownsInts base 3 .i64 v (posK xs 4 x) := by
 have hh := has_true_of_atKey hat
 rw [(hD x).1] at hh
 obtain ⟨h0, hp⟩ := of_decide_eq_true hh
 obtain ⟨zs, ho, hy⟩ := hR v y hv
 have h1 := (hD x).2 h0 .nil hp
 rw [hat, hy] at h1
 refine ⟨h0, hp, ?_⟩
 rcases ho.datum (H := H) with ⟨h2, _⟩ | h2
 · rw [h2] at h1; cases h1
 · rw [h2] at h1
   simp only [DataW.slice.injEq] at h1
   rw [← lits_inj h1.1]
   exact ho
section
variable {H : Type} {P : Program} (w : World) {ops : Array Oper} {rest : List Oper} {o : Oper} {a : Act} {Q : Exit → Act → World → Prop}
theorem wpList_next_rows (hg : o.guard = none) (it : Operand) (hop : o.op = Op.next it false) (R : Value → Option (DataW H × List MemPlace)) {w0 : World} {base : Nat} (hR : RowsIn R w0 base) {xs : List Int}
   (b r n : Nat) (D : DataW H) (hD : HD xs D) (left : Lit → Bool) (cnt : Nat) (hit : a.eval it = .pointer (some ⟨r, 0, none⟩)) (h : w.ranges Tryd.prog 3 R b r n D left cnt)
   (hDone : cnt = 0 → (∀ kl, left kl = false) → wpList Tryd.prog ops Q rest (a.put o.dst (.tuple #[.bool false])) w)
   (hMore : ∀ (x : Int) (p : Option Addr) (l c : Nat) (w' : World) (cnt' : Nat), left (.int .i64 x) = true → x ≠ 0 → posK xs 4 x ≠ [] → w0.ownsInts base 3 .i64 (.slice p l c) (posK xs 4 x) → w'.ranges Tryd.prog 3 R b r n D (fun z => left z && !z.sameKey (.int .i64 x)) cnt' → cnt' < cnt →
     w.grownBy w' (some r) → w'.heap.size = w.heap.size → (Instr.entry (.pointer (some ⟨r, 0, none⟩))).run Tryd.prog w' = .ok (.tuple #[.int .i64 x, .slice p l c]) w' → wpList Tryd.prog ops Q rest (a.put o.dst (.tuple #[.bool true, .int .i64 x, .slice p l c])) w') :
   wpList Tryd.prog ops Q (o :: rest) a w :=
 wpList_next_ranges w hg it hop 3 mapLaw R (Value.int .i64) (fun p : Option Addr × Nat × Nat => Value.slice p.1 p.2.1 p.2.2) (fun key kl hkey => by obtain ⟨x, rfl, _⟩ := Maps.keyOf_int_inv Tryd.underlying3 hkey; exact ⟨x, rfl⟩)
   (fun v y hv => by obtain ⟨zs, ho, _⟩ := hR v y hv; exact row_slice ho)
   b r n D left cnt hit h hDone (fun x c kl y w' cnt' hkey hlk hv hat hrg hlt hgr hsz hen => by
     obtain ⟨x', ex, rfl, hwx⟩ := Maps.keyOf_int_inv Tryd.underlying3 hkey
     cases ex
     obtain ⟨h1, h2, h3⟩ := step_row hR hD hv hat
     exact hMore x c.1 c.2.1 c.2.2 w' cnt' hlk h1 h2 h3 hrg hlt hgr hsz hen)
end
theorem sameKey_int (x y : Int) : (Lit.int .i64 x).sameKey (.int .i64 y) = decide (x = y) := by
 by_cases h : x = y
 · subst h
   simp [Lit.sameKey]
 · rw [Maps.sameKey_ne (fun e => h (by cases e; rfl))]
   simp [h]
end
section
open Go.ChangeShapes Go.WideShapes Go.ChangeAt Go.RowKit
theorem specValOk_any (k : Int) (w : World) :
   Calls Tryd.prog 49 #[.int .i64 k] w fun e w' => e = .returned (.bool (decide (1 ≤ k ∧ k ≤ 6))) ∧ w' = w := by
 by_cases h0 : 1 ≤ k
 · by_cases h1 : k ≤ 6
   · rw [show decide (1 ≤ k ∧ k ≤ 6) = true from decide_eq_true ⟨h0, h1⟩]
     go_enter Tryd.func49, Tryd.ntmps49
     go_wp2
     go_ret
     exact ⟨rfl, rfl⟩
   · rw [show decide (1 ≤ k ∧ k ≤ 6) = false from decide_eq_false (fun h => h1 h.2)]
     go_enter Tryd.func49, Tryd.ntmps49
     go_wp2
     go_ret
     exact ⟨rfl, rfl⟩
 · rw [show decide (1 ≤ k ∧ k ≤ 6) = false from decide_eq_false (fun h => h0 h.1)]
   go_enter Tryd.func49, Tryd.ntmps49
   go_wp2
   go_ret
   exact ⟨rfl, rfl⟩
theorem implValOk_any (k : Int) (w : World) :
   Calls Tryd.prog 42 #[.int .i64 k] w fun e w' => e = .returned (.bool (decide (1 ≤ k ∧ k ≤ 6))) ∧ w' = w := by
 by_cases h0 : 1 ≤ k
 · by_cases h1 : k ≤ 6
   · rw [show decide (1 ≤ k ∧ k ≤ 6) = true from decide_eq_true ⟨h0, h1⟩]
     have h2 : k < 7 := by omega
     go_enter Tryd.func42, Tryd.ntmps42
     go_wp2
     go_ret
     exact ⟨rfl, rfl⟩
   · rw [show decide (1 ≤ k ∧ k ≤ 6) = false from decide_eq_false (fun h => h1 h.2)]
     have h2 : ¬ k < 7 := by omega
     go_enter Tryd.func42, Tryd.ntmps42
     go_wp2
     go_ret
     exact ⟨rfl, rfl⟩
 · rw [show decide (1 ≤ k ∧ k ≤ 6) = false from decide_eq_false (fun h => h0 h.1)]
   go_enter Tryd.func42, Tryd.ntmps42
   go_wp2
   go_ret
   exact ⟨rfl, rfl⟩
end
section
open Go.ChangeShapes Go.WideShapes Go.ChangeAt Go.RowKit Go.Maps
def Says (e : Ending) (p : Prop) : Prop := ∃ ok : Bool, e = .returned (.bool ok) ∧ (ok = true ↔ p)
def Good (xs : List Int) (x : Int) : Prop := (1 ≤ x ∧ x ≤ 6) ∧ (posK xs 4 x).length ≤ 1
def OkRows (xs : List Int) (st : Int) : Prop := xs.length = 4 ∧ 0 ≤ st ∧ st ≤ 5 ∧ ∀ x, x ≠ 0 → posK xs 4 x ≠ [] → Good xs x
def KeyIs (xs : List Int) (n : Nat) (v r : Int) : Prop := (r = -1 ∧ ∀ i, i < n → xs.getD i 0 ≠ v) ∨ ∃ i : Nat, i < n ∧ r = (i : Int) ∧ xs.getD i 0 = v ∧ ∀ j, j < i → xs.getD j 0 ≠ v
def KeySays (e : Ending) (xs : List Int) (n : Nat) (v : Int) : Prop := ∃ r : Int, e = .returned (.int .i64 r) ∧ KeyIs xs n v r
theorem specKeyOf_any (a : Option Addr) (n c : Nat) (st v : Int) (xs : List Int) (w : World) (hA : IntAt w a n xs) :
   Calls Tryd.prog 54 #[.agg #[.slice a n c, .int .i64 st], .int .i64 v] w fun e w' => KeySays e xs n v ∧ Below w.heap.size w w' := by
 have HA : Hid (IntAt w a n xs) := hA
 have hn := hA.2.1
 clear hA
 go_enter Tryd.func54, Tryd.ntmps54
 go_wp2
 go_loopw [5] (fun i wr => ∃ k : Nat, k ≤ n ∧ i = .int .i64 (k : Int) ∧ (∀ j, j < k → xs.getD j 0 ≠ v) ∧ Below (w.heap.size + 1) (w.alloc (.cells #[.slice a n c, .int .i64 st] 32)) wr) (fun i _ => n - (intOf i).toNat)
 case atStart => exact ⟨0, Nat.zero_le _, rfl, fun j hj => by omega, Below.refl _ _⟩
 case round =>
   obtain ⟨k, hk, rfl, hno, hb⟩ := hrel
   have HNO : Hid (∀ j, j < k → xs.getD j 0 ≠ v) := hno
   have hbw : Below w.heap.size w wr := ((Below.refl _ w).alloc (Nat.le_refl _) _).trans (hb.mono (Nat.le_succ _))
   have hc0 : wr.cell? ⟨w.heap.size, 0, none⟩ = some (.slice a n c) := by rw [hb.cell (by simp)]; simp
   clear hno
   by_cases hlt : k < n
   · rcases (HA.out.below hbw (Nat.le_refl _)).2.2 with h0 | ⟨p1, o1, rfl, g1⟩
     · omega
     have e1 := g1 k hlt
     obtain ⟨x, hx⟩ : ∃ x, xs.getD k 0 = x := ⟨_, rfl⟩
     rw [hx] at e1
     have HX : Hid (xs.getD k 0 = x) := hx
     clear g1 hx
     go_wp2
     · have hd : (x == v) = true := by assumption
       go_ret
       exact ⟨⟨(k : Int), rfl, .inr ⟨k, hlt, rfl, HX.out.trans (by simpa using hd), HNO.out⟩⟩, hbw⟩
     · have hd : (x == v) = false := by assumption
       refine ⟨⟨k + 1, by omega, by go_num, fun j hj => ?_, hb⟩, by simp [intOf]; omega⟩
       by_cases hjk : j = k
       · subst hjk
         rw [HX.out]
         simpa using hd
       · exact HNO.out j (by omega)
   · go_wp2
     go_ret
     exact ⟨⟨-1, rfl, .inl ⟨rfl, fun i hi => HNO.out i (by omega)⟩⟩, hbw⟩
def SpecGood (xs : List Int) (n : Nat) (i : Nat) : Prop := xs.getD i 0 = 0 ∨ ((1 ≤ xs.getD i 0 ∧ xs.getD i 0 ≤ 6) ∧ KeyIs xs n (xs.getD i 0) i)
def SpecOk (xs : List Int) (n : Nat) (st : Int) : Prop := (∀ i, i < n → SpecGood xs n i) ∧ n = 4 ∧ 0 ≤ st ∧ st ≤ 5
theorem KeyIs.one {xs : List Int} {n : Nat} {v r s : Int} (h : KeyIs xs n v r) (k : KeyIs xs n v s) : r = s := by
 rcases h with ⟨rfl, h⟩ | ⟨i, hi, rfl, h1, h2⟩ <;> rcases k with ⟨rfl, k⟩ | ⟨j, hj, rfl, k1, k2⟩
 · rfl
 · exact absurd k1 (h j hj)
 · exact absurd h1 (k i hi)
 · by_cases hij : i < j
   · exact absurd h1 (k2 i hij)
   · by_cases hji : j < i
     · exact absurd k1 (h2 j hji)
     · rw [show i = j by omega]
theorem specValOk_not {x : Int} (h : ¬ (1 ≤ x ∧ x ≤ 6)) (w : World) : Calls Tryd.prog 49 #[.int .i64 x] w fun e w' => e = .returned (.bool false) ∧ w' = w := by
 have := specValOk_any x w
 rwa [show decide (1 ≤ x ∧ x ≤ 6) = false from decide_eq_false h] at this
theorem good_next {xs : List Int} {n k : Nat} (h : ∀ j, j < k → SpecGood xs n j) (h1 : SpecGood xs n k) : ∀ j, j < k + 1 → SpecGood xs n j := fun j hj => by
 by_cases hjk : j = k
 · subst hjk
   exact h1
 · exact h j (by omega)
theorem specRowsOk_any (a : Option Addr) (n c : Nat) (st : Int) (xs : List Int) (w : World) (hA : IntAt w a n xs) :
   Calls Tryd.prog 39 #[.agg #[.slice a n c, .int .i64 st]] w fun e w' => Says e (SpecOk xs n st) ∧ Below w.heap.size w w' := by
 have HA : Hid (IntAt w a n xs) := hA
 have hn := hA.2.1
 clear hA
 go_enter Tryd.func39, Tryd.ntmps39
 go_wp2
 go_loopw [3] (fun i wr => ∃ k : Nat, k ≤ n ∧ i = .int .i64 (k : Int) ∧ (∀ j, j < k → SpecGood xs n j) ∧ Below (w.heap.size + 1) (w.alloc (.cells #[.slice a n c, .int .i64 st] 32)) wr) (fun i _ => n - (intOf i).toNat)
 case atStart => exact ⟨0, Nat.zero_le _, rfl, fun j hj => by omega, Below.refl _ _⟩
 case round =>
   obtain ⟨k, hk, rfl, hno, hb⟩ := hrel
   have HNO : Hid (∀ j, j < k → SpecGood xs n j) := hno
   have hbw : Below w.heap.size w wr := ((Below.refl _ w).alloc (Nat.le_refl _) _).trans (hb.mono (Nat.le_succ _))
   have hc0 : wr.cell? ⟨w.heap.size, 0, none⟩ = some (.slice a n c) := by rw [hb.cell (by simp)]; simp
   have hc1 : wr.cell? ⟨w.heap.size, 1, none⟩ = some (.int .i64 st) := by rw [hb.cell (by simp)]; simp
   have hs := hb.size
   clear hno
   by_cases hlt : k < n
   · have HB : Hid (IntAt wr a n xs) := HA.out.below hbw (Nat.le_refl _)
     rcases HB.out.2.2 with h0 | ⟨p1, o1, rfl, g1⟩
     · omega
     have e1 := g1 k hlt
     obtain ⟨x, hx⟩ : ∃ x, xs.getD k 0 = x := ⟨_, rfl⟩
     rw [hx] at e1
     have HX : Hid (xs.getD k 0 = x) := hx
     clear g1 hx
     by_cases hx0 : x = 0
     · subst hx0
       go_wp2
       go_quiet (fail)
       go_wp2
       exact ⟨⟨k + 1, by omega, by go_num, good_next HNO.out (.inl HX.out), below_drewN hb nq⟩, by simp [intOf]; omega⟩
     · have hx1 : (x != 0) = true := by simpa using hx0
       by_cases hv : 1 ≤ x ∧ x ≤ 6
       · have hdv : decide (1 ≤ x ∧ x ≤ 6) = true := decide_eq_true hv
         go_wp2
         go_region_with (first
           | (go_at_call 49; refine (specValOk_any x _).mono ?_; rintro e w1 ⟨rfl, rfl⟩; rw [hdv])
           | (go_at_call 54; refine (specKeyOf_any _ n c st x xs _ (HB.out.below (Below.refl _ wr).drew (Nat.le_refl _))).mono ?_; rintro e w2 ⟨⟨r, rfl, hr⟩, hb2⟩))
         all_goals
           have hb3 := hb.drew.trans (hb2.mono (show w.heap.size + 1 ≤ wr.heap.size by simpa using hs))
           have HR : Hid (KeyIs xs n x r) := hr
           clear hr
           go_wp2
           · have hd : (r != (k : Int)) = true := by assumption
             have h1 : Hid (¬ SpecOk xs n st) := fun h => by
               rcases h.1 k hlt with h2 | h2
               · exact hx0 (HX.out.symm.trans h2)
               · have h3 := h2.2
                 rw [HX.out] at h3
                 simp [HR.out.one h3] at hd
             go_ret
             exact ⟨⟨false, rfl, by simp [h1.out]⟩, ((Below.refl _ w).alloc (Nat.le_refl _) _).trans (hb3.mono (Nat.le_succ _))⟩
           · have hd : (r != (k : Int)) = false := by assumption
             have h1 : SpecGood xs n k := .inr (by
               rw [HX.out]
               have h2 : r = (k : Int) := by simpa using hd
               exact ⟨hv, h2 ▸ HR.out⟩)
             exact ⟨⟨k + 1, by omega, by go_num, good_next HNO.out h1, hb3⟩, by simp [intOf]; omega⟩
       · have hdv : decide (1 ≤ x ∧ x ≤ 6) = false := decide_eq_false hv
         have h1 : Hid (¬ SpecOk xs n st) := fun h => by
           rcases h.1 k hlt with h2 | h2
           · exact hx0 (HX.out.symm.trans h2)
           · have h3 := h2.1
             rw [HX.out] at h3
             exact hv h3
         go_wp2
         go_quiet (first | (go_at_call 49; refine Calls.quiet_of_same (specValOk_not hv _)) | fail)
         go_wp2
         go_ret
         exact ⟨⟨false, rfl, by simp [h1.out]⟩, below_drewN hbw nq⟩
   · obtain rfl : k = n := by omega
     have H0 : Hid (∀ j, j < k → SpecGood xs k j) := HNO.out
     by_cases hn4 : k = 4
     · subst hn4
       by_cases hs0 : 0 ≤ st
       · by_cases hs1 : st ≤ 5
         · go_wp2
           go_ret
           exact ⟨⟨true, rfl, by simpa using ⟨H0.out, rfl, hs0, hs1⟩⟩, hbw⟩
         · have h1 : Hid (¬ SpecOk xs 4 st) := fun h => hs1 h.2.2.2
           go_wp2
           go_ret
           exact ⟨⟨false, rfl, by simp [h1.out]⟩, hbw⟩
       · have h1 : Hid (¬ SpecOk xs 4 st) := fun h => hs0 h.2.2.1
         go_wp2
         go_ret
         exact ⟨⟨false, rfl, by simp [h1.out]⟩, hbw⟩
     · have h1 : Hid (¬ SpecOk xs k st) := fun h => hn4 h.2.1
       have h2 : ((k : Int) == 4) = false := by simp; omega
       go_wp2
       go_ret
       exact ⟨⟨false, rfl, by simp [h1.out]⟩, hbw⟩
theorem mem_posK {xs : List Int} {k : Nat} {x : Int} {i : Int} : i ∈ posK xs k x ↔ ∃ j : Nat, j < k ∧ xs.getD j 0 = x ∧ i = (j : Int) := by
 simp only [posK, List.mem_map, List.mem_filter, List.mem_range, beq_iff_eq]
 constructor
 · rintro ⟨j, ⟨h1, h2⟩, rfl⟩
   exact ⟨j, h1, h2, rfl⟩
 · rintro ⟨j, h1, h2, rfl⟩
   exact ⟨j, ⟨h1, h2⟩, rfl⟩
theorem one_of {l : List Int} (h : l.length ≤ 1) {a b : Int} (ha : a ∈ l) (hb : b ∈ l) : a = b := by
 match l, h with
 | [], _ => simp at ha
 | [x], _ => simp at ha hb; rw [ha, hb]
 | _ :: _ :: _, h => simp at h
theorem len_of {l : List Int} (hd : l.Nodup) {j : Int} (h : ∀ a ∈ l, a = j) : l.length ≤ 1 := by
 match l, hd with
 | [], _ => simp
 | [x], _ => simp
 | x :: y :: r, hd =>
   have h1 := h x (by simp)
   have h2 := h y (by simp)
   rw [h1, h2] at hd
   simp at hd
theorem posK_nodup (xs : List Int) (k : Nat) (x : Int) : (posK xs k x).Nodup := by
 unfold posK
 exact List.Pairwise.map _ (fun a b hab e => hab (by omega)) (List.nodup_range.filter _)
theorem ok_iff {xs : List Int} {n : Nat} {st : Int} (hl : xs.length = n) : SpecOk xs n st ↔ OkRows xs st := by
 constructor
 · rintro ⟨h, rfl, h0, h1⟩
   refine ⟨hl, h0, h1, fun x hx hp => ?_⟩
   obtain ⟨i, hi⟩ := List.exists_mem_of_ne_nil _ hp
   obtain ⟨j, hj, hjx, rfl⟩ := mem_posK.1 hi
   rcases h j hj with h2 | ⟨h2, h3⟩
   · exact absurd (hjx.symm.trans h2) hx
   rw [hjx] at h2 h3
   refine ⟨h2, len_of (posK_nodup _ _ _) (j := (j : Int)) fun a ha => ?_⟩
   obtain ⟨i, hi, hix, rfl⟩ := mem_posK.1 ha
   rcases h i hi with h4 | ⟨_, h4⟩
   · exact absurd (hix.symm.trans h4) hx
   rw [hix] at h4
   exact h4.one h3
 · rintro ⟨h4, h0, h1, h⟩
   obtain rfl : n = 4 := by omega
   refine ⟨fun i hi => ?_, rfl, h0, h1⟩
   by_cases hx : xs.getD i 0 = 0
   · exact .inl hx
   · have hm : (i : Int) ∈ posK xs 4 (xs.getD i 0) := mem_posK.2 ⟨i, hi, rfl, rfl⟩
     obtain ⟨h2, h3⟩ := h _ hx (List.ne_nil_of_mem hm)
     refine .inr ⟨h2, .inr ⟨i, hi, rfl, rfl, fun j hj e => ?_⟩⟩
     have := one_of h3 hm (mem_posK.2 ⟨j, by omega, e, rfl⟩)
     omega
end
section
open Go.ChangeShapes Go.WideShapes Go.ChangeAt Go.RowKit
def classN (v : Int) : Int := if 1 ≤ v ∧ v ≤ 6 then v % 3 else -1
theorem specClassOf_any (k : Int) (w : World) :
   Calls Tryd.prog 60 #[.int .i64 k] w fun e w' => e = .returned (.int .i64 (classN k)) ∧ w' = w := by
 by_cases h : 1 ≤ k ∧ k ≤ 6
 · have h2 : k = 1 ∨ k = 2 ∨ k = 3 ∨ k = 4 ∨ k = 5 ∨ k = 6 := by omega
   clear h
   rcases h2 with rfl | rfl | rfl | rfl | rfl | rfl <;> (go_enter Tryd.func60, Tryd.ntmps60; go_wp2; go_ret; exact ⟨rfl, rfl⟩)
 · rw [show classN k = -1 from if_neg h]
   by_cases h0 : 1 ≤ k
   · have h1 : ¬ k ≤ 6 := by omega
     clear h
     go_enter Tryd.func60, Tryd.ntmps60
     go_wp2
     go_ret
     exact ⟨rfl, rfl⟩
   · clear h
     go_enter Tryd.func60, Tryd.ntmps60
     go_wp2
     go_ret
     exact ⟨rfl, rfl⟩
theorem implClassOf_any (k : Int) (w : World) :
   Calls Tryd.prog 47 #[.int .i64 k] w fun e w' => e = .returned (.int .i64 (classN k)) ∧ w' = w := by
 by_cases h : 1 ≤ k ∧ k ≤ 6
 · have h2 : k = 1 ∨ k = 2 ∨ k = 3 ∨ k = 4 ∨ k = 5 ∨ k = 6 := by omega
   clear h
   rcases h2 with rfl | rfl | rfl | rfl | rfl | rfl <;> (go_enter Tryd.func47, Tryd.ntmps47; go_wp2; go_ret; exact ⟨rfl, rfl⟩)
 · rw [show classN k = -1 from if_neg h]
   by_cases h0 : 1 ≤ k
   · have h1 : ¬ k ≤ 6 := by omega
     clear h
     go_enter Tryd.func47, Tryd.ntmps47
     go_wp2
     go_ret
     exact ⟨rfl, rfl⟩
   · clear h
     go_enter Tryd.func47, Tryd.ntmps47
     go_wp2
     go_ret
     exact ⟨rfl, rfl⟩
end
end Go.Proofs.YtfanppifelajnaaDoor
