/- Texts joined: SchO, Draw, OnceL, Pick. -/
import Derived.Test.YtmgofehafjogfaaSH02
import Derived.Test.YtmgofehafjogfaaSH03
import Derived.Deep.RegionHeld3
import Derived.Test.YtmgofehafjogfaaRows
import Derived.Test.YtmgofehafjogfaaSH01
import Derived.WalkKit
import Derived.ProofKit
set_option maxHeartbeats 1000000
set_option maxRecDepth 100000
namespace Go.Proofs.Ytmgofehafjogfaa
section
open Go.ChangeShapes Go.WideShapes Go.ChangeAt Go.RowKit Go.Joins
def iE (l : List Int) : List Cel := l.map Cel.i
def clE (x : Col3) : List Cel := [.s x.1, .i x.2.1, .b x.2.2]
def clsE (L : List Col3) : List Cel := L.flatMap clE
def idE (x : Idx3) : List Cel := [.s x.1, .l 3 1 x.2.1.length (iE x.2.1), .b x.2.2]
def idsE (X : List Idx3) : List Cel := X.flatMap idE
def schE (D : SchD) : List Cel := [.l 75 3 D.cols.length (clsE D.cols), .l 3 1 D.key.length (iE D.key), .l 105 3 D.idx.length (idsE D.idx)]
theorem iE_len (l : List Int) : (iE l).length = l.length := List.length_map _
theorem nums_iE (l : List Int) : nums (iE l) = l := by
  unfold nums iE
  rw [List.map_map]
  exact List.map_id l
theorem flatE_len {α : Type} {f : α → List Cel} (hf : ∀ x, (f x).length = 3) : ∀ L : List α, (L.flatMap f).length = L.length * 3
  | [] => rfl
  | x :: L => by
    rw [List.flatMap_cons, List.length_append, flatE_len hf L, hf, List.length_cons, Nat.succ_mul]
    omega
theorem flatE_row {α : Type} {f : α → List Cel} (hf : ∀ x, (f x).length = 3) : ∀ {L : List α} {i : Nat} {x : α}, L[i]? = some x → row (L.flatMap f) 3 i = f x
  | [], i, x, h => by simp at h
  | y :: L, 0, x, h => by
    simp at h
    subst h
    show ((f y ++ L.flatMap f).drop (0 * 3)).take 3 = _
    rw [Nat.zero_mul, List.drop_zero, ← hf y, List.take_left']
    rfl
  | y :: L, i + 1, x, h => by
    have h1 := flatE_row hf (L := L) (i := i) (x := x) (by simpa using h)
    rw [← h1]
    show ((f y ++ L.flatMap f).drop ((i + 1) * 3)).take 3 = ((L.flatMap f).drop (i * 3)).take 3
    rw [Nat.succ_mul, Nat.add_comm, ← List.drop_drop, ← hf y, List.drop_left']
    rfl
theorem back3 {α : Type} {f : α → List Cel} (hf : ∀ x, (f x).length = 3) (g : List Cel → α) (hg : ∀ x, g (f x) = x) (L : List α) : (List.range L.length).map (fun i => g (row (L.flatMap f) 3 i)) = L := by
  apply List.ext_getElem?
  intro i
  by_cases h : i < L.length
  · rw [List.getElem?_map, List.getElem?_range h, Option.map_some, flatE_row hf (List.getElem?_eq_getElem h), hg, List.getElem?_eq_getElem h]
  · rw [List.getElem?_eq_none (by simp; omega), List.getElem?_eq_none (by omega)]
theorem sch_back (D : SchD) : schD (schE D) = D := by
  show (⟨colsD (clsE D.cols) D.cols.length, nums (iE D.key), idxsD (idsE D.idx) D.idx.length⟩ : SchD) = D
  rw [nums_iE, show colsD (clsE D.cols) D.cols.length = D.cols from back3 (f := clE) (fun _ => rfl) colD (fun _ => rfl) D.cols, show idxsD (idsE D.idx) D.idx.length = D.idx from back3 (f := idE) (fun _ => rfl) idxD (fun x => by show (x.1, nums (iE x.2.1), x.2.2) = x; rw [nums_iE]) D.idx]
theorem has_iE (l : List Int) : Has (.l 3 1 l.length (iE l)) (.l 3 1 [.i]) := by
  refine .l _ _ _ _ _ (by decide) (by rw [iE_len, Nat.mul_one]) fun j c t hc ht => ?_
  rw [Nat.mod_one] at ht
  cases ht
  unfold iE at hc
  rw [List.getElem?_map] at hc
  obtain ⟨y, _, rfl⟩ := Option.map_eq_some_iff.1 hc
  exact .i _
theorem has_cls (L : List Col3) : Has (.l 75 3 L.length (L.flatMap clE)) (.l 75 3 tyCol) := by
  refine .l _ _ _ _ _ (by decide) (flatE_len (fun _ => rfl) L) fun j c t hc ht => ?_
  have hj : j < L.length * 3 := by have := (List.getElem?_eq_some_iff.1 hc).1; rwa [flatE_len (fun _ => rfl)] at this
  have hi : L[j / 3]? = some (L[j / 3]'(by omega)) := List.getElem?_eq_getElem (by omega)
  have hrow := flatE_row (f := clE) (fun _ => rfl) hi
  have e0 : (row (L.flatMap clE) 3 (j / 3))[j % 3]? = _ := row_at (Nat.mod_lt j (by decide))
  rw [hrow, show j / 3 * 3 + j % 3 = j by omega, hc] at e0
  rcases (show j % 3 = 0 ∨ j % 3 = 1 ∨ j % 3 = 2 by omega) with hm | hm | hm
  · rw [hm] at ht e0; cases e0; cases ht; exact .s _
  · rw [hm] at ht e0; cases e0; cases ht; exact .i _
  · rw [hm] at ht e0; cases e0; cases ht; exact .b _
theorem has_ids (L : List Idx3) : Has (.l 105 3 L.length (L.flatMap idE)) (.l 105 3 tyIndex) := by
  refine .l _ _ _ _ _ (by decide) (flatE_len (fun _ => rfl) L) fun j c t hc ht => ?_
  have hj : j < L.length * 3 := by have := (List.getElem?_eq_some_iff.1 hc).1; rwa [flatE_len (fun _ => rfl)] at this
  have hi : L[j / 3]? = some (L[j / 3]'(by omega)) := List.getElem?_eq_getElem (by omega)
  have hrow := flatE_row (f := idE) (fun _ => rfl) hi
  have e0 : (row (L.flatMap idE) 3 (j / 3))[j % 3]? = _ := row_at (Nat.mod_lt j (by decide))
  rw [hrow, show j / 3 * 3 + j % 3 = j by omega, hc] at e0
  rcases (show j % 3 = 0 ∨ j % 3 = 1 ∨ j % 3 = 2 by omega) with hm | hm | hm
  · rw [hm] at ht e0; cases e0; cases ht; exact .s _
  · rw [hm] at ht e0; cases e0; cases ht; exact has_iE _
  · rw [hm] at ht e0; cases e0; cases ht; exact .b _
theorem has_sch (D : SchD) : HasL (schE D) tySchema := by
  refine ⟨rfl, fun j c t hc ht => ?_⟩
  have hj : j < 3 := (List.getElem?_eq_some_iff.1 hc).1
  rcases (show j = 0 ∨ j = 1 ∨ j = 2 by omega) with rfl | rfl | rfl
  · cases hc; cases ht; exact has_cls _
  · cases hc; cases ht; exact has_iE _
  · cases hc; cases ht; exact has_ids _
theorem own_sch {w : World} {base : Nat} {us : List Value} {D : SchD} {T : Nat → Prop} (h : OwnL w base us (schE D) T) : ∃ a1 n1 c1 a2 n2 c2 a3 n3 c3, us = [.slice a1 n1 c1, .slice a2 n2 c2, .slice a3 n3 c3] ∧ SchAt w a1 n1 c1 a2 n2 c2 a3 n3 c3 D := by
  obtain ⟨a1, n1, c1, a2, n2, c2, a3, n3, c3, h1, h2⟩ := sch_of h.at (has_sch D)
  rw [sch_back] at h2
  exact ⟨a1, n1, c1, a2, n2, c2, a3, n3, c3, h1, h2⟩
theorem own_intsE {w : World} {base : Nat} {v : Value} {l : List Int} (h : IOwn w base v l) (hn : l.length ≤ 2097152) : Own w base v (.l 3 1 l.length (iE l)) (fun x => v.ownBlock = some x) := by
  rcases h.2 with ⟨rfl, h0⟩ | ⟨g, cap, cur, rfl, hrest⟩
  · obtain rfl : l = [] := List.length_eq_zero_iff.1 h0
    exact .nil _ 1 _ (fun k hk => by cases hk)
  · refine .l g cap _ 1 l.length _ (l.map I) _ (fun _ _ => False) h (by rw [iE_len, Nat.mul_one]) hn (fun j u d hu hd => ?_) (fun _ h => h) (fun _ _ _ _ h => h.elim) (fun x => ⟨fun e => .inl (by cases e; rfl), fun e => ?_⟩)
    · unfold iE at hd
      rw [List.getElem?_map] at hu hd
      obtain ⟨y, hy, rfl⟩ := Option.map_eq_some_iff.1 hu
      rw [hy] at hd
      cases hd
      exact .i _ _ (fun _ h => h)
    · rcases e with e | ⟨_, _, e⟩
      · rw [e]; rfl
      · exact e.elim
theorem one_int (w : World) {base g : Nat} (hg : w.heap.size = g) (hb : base ≤ g) (x : Int) : IOwn (w.alloc (.cells #[.int .i64 x] 3)) base (.slice (some ⟨g, 0, none⟩) 1 1) [x] := by
  subst hg
  exact ⟨rfl, .inr ⟨_, 1, #[.int .i64 x], rfl, hb, heap_alloc_new w _, Nat.le_refl _, by unfold maxLen; omega, rfl, rfl⟩⟩
theorem infoCo : (Try.prog.info? 75).map (fun i => (i.zero, i.size, i.bytes)) = some (some (.agg #[.string ⟨#[]⟩, .int .i64 0, .bool false]), 3, 32) := by kernel_rfl
theorem run_appCo (w : World) (T : TypeId) (base : Nat) (v : Value) (m : Nat) (cs : List Cel) (S : Nat → Prop) (hown : Own w base v (.l 75 3 m cs) S) (ad : Addr) (c : Nat) (x : Col3) (h0 : w.cell? (ad.add 0) = some (.string x.1)) (h1 : w.cell? (ad.add 1) = some (.int .i64 x.2.1)) (h2 : w.cell? (ad.add 2) = some (.bool x.2.2)) (hle : m + 1 ≤ 2097152) (hbase : base ≤ w.heap.size) :
    ∃ v' w' S', (Builtin.append_ #[24, 24] T #[v, .slice (some ad) 1 c]).run Try.prog w = .ok v' w' ∧ Own w' base v' (.l 75 3 (m + 1) (cs ++ clE x)) S' ∧ (∀ x, S' x → S x ∨ False ∨ x = w.heap.size) ∧ w.grownBy w' v.ownBlock := by
  obtain ⟨i0, hi, hz0, hz1, hz2⟩ := info_parts infoCo
  obtain ⟨vs, hrow, hgo⟩ := hown.open9
  obtain ⟨v', w', hrun, h2', h3, _, h5⟩ := run_append_own_at (P := Try.prog) (w := w) base 24 T 75 i0 _ 3 32 Try.underlying24 hi hz0 hz1 hz2 rfl (by decide) v m vs hrow ad 1 c [.string x.1, .int .i64 x.2.1, .bool x.2.2] rfl (fun j y hj => by
    match j, hj with
    | 0, hj => cases hj; exact h0
    | 1, hj => cases hj; exact h1
    | 2, hj => cases hj; exact h2
    | j + 3, hj => simp at hj) (fun y hy => by
    rcases List.mem_cons.1 hy with rfl | hy
    · rfl
    · rcases List.mem_cons.1 hy with rfl | hy
      · rfl
      · rw [List.mem_singleton.1 hy]; rfl) (by unfold maxLen; omega) (by omega) hbase
  obtain ⟨S', o', hs'⟩ := hgo v' w' [.string x.1, .int .i64 x.2.1, .bool x.2.2] (clE x) (fun x => False) (OwnL.cons (.s _ (fun _ => False) (fun _ h => h)) (OwnL.cons (.i _ (fun _ => False) (fun _ h => h)) (OwnL.cons (.b _ (fun _ => False) (fun _ h => h)) (OwnL.nil (S := fun _ => False) (fun _ h => h)) (fun _ h => h.elim) (S' := fun _ => False) (fun _ => ⟨.inl, fun h => h.elim id id⟩)) (fun _ h => h.elim) (S' := fun _ => False) (fun _ => ⟨.inl, fun h => h.elim id id⟩)) (fun _ h => h.elim) (S' := fun _ => False) (fun _ => ⟨.inl, fun h => h.elim id id⟩)) (fun _ h => h.elim) rfl hle h2' h3 h5
  exact ⟨v', w', S', hrun, o', hs', h3⟩
theorem step_appCo {ops : Array Oper} {o : Oper} {a : Act} (w : World) {K : Act → World → Prop} {Q : Exit → Act → World → Prop} {E' : Prop} (hg : o.guard = none) (s x : Operand) (ho : o.op = .call { callee := .builtin .append, args := #[s, x], argTypes := #[24, 24] }) (base : Nat) (v : Value) (m : Nat) (cs : List Cel) (S : Nat → Prop) (hs : a.eval s = v) (hown : Own w base v (.l 75 3 m cs) S) (ad : Addr) (c : Nat) (hx : a.eval x = .slice (some ad) 1 c) (x : Col3) (h0 : w.cell? (ad.add 0) = some (.string x.1)) (h1 : w.cell? (ad.add 1) = some (.int .i64 x.2.1)) (h2 : w.cell? (ad.add 2) = some (.bool x.2.2)) (hle : m + 1 ≤ 2097152) (hbase : base ≤ w.heap.size)
    (h : ∀ v' w' S', Own w' base v' (.l 75 3 (m + 1) (cs ++ clE x)) S' → (∀ x, S' x → S x ∨ False ∨ x = w.heap.size) → w.grownBy w' v.ownBlock → K (a.put o.dst v') w') : if Region.wanted o (yielded ops a.tmps) = true then Oper.wp Try.prog o a w K Q else E' := by
  rw [if_pos (by simp [Region.wanted, hg])]
  obtain ⟨v', w', S', hrun, h2', h3', h4'⟩ := run_appCo w o.type base v m cs S hown ad c x h0 h1 h2 hle hbase
  unfold Oper.wp execOp
  simp only [ho, resolve, invoke, builtin, Sem.run_bind, Sem.run_pure, Result.andThen_ok, List.map_toArray, List.map_cons, List.map_nil, hs, hx, hrun]
  exact h v' w' S' h2' h3' h4'
theorem infoIx : (Try.prog.info? 105).map (fun i => (i.zero, i.size, i.bytes)) = some (some (.agg #[.string ⟨#[]⟩, .slice none 0 0, .bool false]), 3, 48) := by kernel_rfl
theorem run_appIx (w : World) (T : TypeId) (base : Nat) (v : Value) (m : Nat) (cs : List Cel) (S : Nat → Prop) (hown : Own w base v (.l 105 3 m cs) S) (ad : Addr) (c : Nat) (s1 : ByteArray) (u : Value) (fl : Bool) (l : List Int) (Su : Nat → Prop) (h0 : w.cell? (ad.add 0) = some (.string s1)) (h1 : w.cell? (ad.add 1) = some (u)) (h2 : w.cell? (ad.add 2) = some (.bool fl)) (hu : Own w base u (.l 3 1 l.length (iE l)) Su) (hd : ∀ x, Su x → ¬ S x) (hu1 : u.oneCell' = true) (hle : m + 1 ≤ 2097152) (hbase : base ≤ w.heap.size) :
    ∃ v' w' S', (Builtin.append_ #[26, 26] T #[v, .slice (some ad) 1 c]).run Try.prog w = .ok v' w' ∧ Own w' base v' (.l 105 3 (m + 1) (cs ++ idE (s1, l, fl))) S' ∧ (∀ x, S' x → S x ∨ Su x ∨ x = w.heap.size) ∧ w.grownBy w' v.ownBlock := by
  obtain ⟨i0, hi, hz0, hz1, hz2⟩ := info_parts infoIx
  obtain ⟨vs, hrow, hgo⟩ := hown.open9
  obtain ⟨v', w', hrun, h2', h3, _, h5⟩ := run_append_own_at (P := Try.prog) (w := w) base 26 T 105 i0 _ 3 48 Try.underlying26 hi hz0 hz1 hz2 rfl (by decide) v m vs hrow ad 1 c [.string s1, u, .bool fl] rfl (fun j y hj => by
    match j, hj with
    | 0, hj => cases hj; exact h0
    | 1, hj => cases hj; exact h1
    | 2, hj => cases hj; exact h2
    | j + 3, hj => simp at hj) (fun y hy => by
    rcases List.mem_cons.1 hy with rfl | hy
    · rfl
    · rcases List.mem_cons.1 hy with rfl | hy
      · exact hu1
      · rw [List.mem_singleton.1 hy]; rfl) (by unfold maxLen; omega) (by omega) hbase
  obtain ⟨S', o', hs'⟩ := hgo v' w' [.string s1, u, .bool fl] (idE (s1, l, fl)) (fun x => Su x) (OwnL.cons (.s _ (fun _ => False) (fun _ h => h)) (OwnL.cons hu (OwnL.cons (.b _ (fun _ => False) (fun _ h => h)) (OwnL.nil (S := fun _ => False) (fun _ h => h)) (fun _ h => h.elim) (S' := fun _ => False) (fun _ => ⟨.inl, fun h => h.elim id id⟩)) (fun _ _ h => h) (S' := Su) (fun _ => ⟨.inl, fun h => h.elim id False.elim⟩)) (fun _ h => h.elim) (S' := Su) (fun _ => ⟨.inr, fun h => h.elim False.elim id⟩)) hd rfl hle h2' h3 h5
  exact ⟨v', w', S', hrun, o', hs', h3⟩
theorem list_appIx {ops : Array Oper} {rest : List Oper} {o : Oper} {a : Act} (w : World) {Q : Exit → Act → World → Prop} (hg : o.guard = none) (s x : Operand) (ho : o.op = .call { callee := .builtin .append, args := #[s, x], argTypes := #[26, 26] }) (base : Nat) (v : Value) (m : Nat) (cs : List Cel) (S : Nat → Prop) (hs : a.eval s = v) (hown : Own w base v (.l 105 3 m cs) S) (ad : Addr) (c : Nat) (hx : a.eval x = .slice (some ad) 1 c) (s1 : ByteArray) (u : Value) (fl : Bool) (l : List Int) (Su : Nat → Prop) (h0 : w.cell? (ad.add 0) = some (.string s1)) (h1 : w.cell? (ad.add 1) = some (u)) (h2 : w.cell? (ad.add 2) = some (.bool fl)) (hu : Own w base u (.l 3 1 l.length (iE l)) Su) (hd : ∀ x, Su x → ¬ S x) (hu1 : u.oneCell' = true) (hle : m + 1 ≤ 2097152) (hbase : base ≤ w.heap.size)
    (h : ∀ v' w' S', Own w' base v' (.l 105 3 (m + 1) (cs ++ idE (s1, l, fl))) S' → (∀ x, S' x → S x ∨ Su x ∨ x = w.heap.size) → w.grownBy w' v.ownBlock → wpList Try.prog ops Q rest (a.put o.dst v') w') : wpList Try.prog ops Q (o :: rest) a w := by
  refine wpList_plain hg fun K hK => ?_
  obtain ⟨v', w', S', hrun, h2', h3', h4'⟩ := run_appIx w o.type base v m cs S hown ad c s1 u fl l Su h0 h1 h2 hu hd hu1 hle hbase
  unfold Oper.wp execOp
  simp only [ho, resolve, invoke, builtin, Sem.run_bind, Sem.run_pure, Result.andThen_ok, List.map_toArray, List.map_cons, List.map_nil, hs, hx, hrun]
  exact hK _ _ (h v' w' S' h2' h3' h4')
theorem step_appIx {ops : Array Oper} {o : Oper} {a : Act} (w : World) {K : Act → World → Prop} {Q : Exit → Act → World → Prop} {E' : Prop} (hg : o.guard = none) (s x : Operand) (ho : o.op = .call { callee := .builtin .append, args := #[s, x], argTypes := #[26, 26] }) (base : Nat) (v : Value) (m : Nat) (cs : List Cel) (S : Nat → Prop) (hs : a.eval s = v) (hown : Own w base v (.l 105 3 m cs) S) (ad : Addr) (c : Nat) (hx : a.eval x = .slice (some ad) 1 c) (s1 : ByteArray) (u : Value) (fl : Bool) (l : List Int) (Su : Nat → Prop) (h0 : w.cell? (ad.add 0) = some (.string s1)) (h1 : w.cell? (ad.add 1) = some (u)) (h2 : w.cell? (ad.add 2) = some (.bool fl)) (hu : Own w base u (.l 3 1 l.length (iE l)) Su) (hd : ∀ x, Su x → ¬ S x) (hu1 : u.oneCell' = true) (hle : m + 1 ≤ 2097152) (hbase : base ≤ w.heap.size)
    (h : ∀ v' w' S', Own w' base v' (.l 105 3 (m + 1) (cs ++ idE (s1, l, fl))) S' → (∀ x, S' x → S x ∨ Su x ∨ x = w.heap.size) → w.grownBy w' v.ownBlock → K (a.put o.dst v') w') : if Region.wanted o (yielded ops a.tmps) = true then Oper.wp Try.prog o a w K Q else E' := by
  rw [if_pos (by simp [Region.wanted, hg])]
  obtain ⟨v', w', S', hrun, h2', h3', h4'⟩ := run_appIx w o.type base v m cs S hown ad c s1 u fl l Su h0 h1 h2 hu hd hu1 hle hbase
  unfold Oper.wp execOp
  simp only [ho, resolve, invoke, builtin, Sem.run_bind, Sem.run_pure, Result.andThen_ok, List.map_toArray, List.map_cons, List.map_nil, hs, hx, hrun]
  exact h v' w' S' h2' h3' h4'
theorem infoIn : (Try.prog.info? 3).map (fun i => (i.zero, i.size, i.bytes)) = some (some (.int .i64 0), 1, 8) := by kernel_rfl
theorem run_appIn (w : World) (T : TypeId) (base : Nat) (v : Value) (m : Nat) (cs : List Cel) (S : Nat → Prop) (hown : Own w base v (.l 3 1 m cs) S) (ad : Addr) (c : Nat) (y1 : Int) (h0 : w.cell? (ad.add 0) = some (.int .i64 y1)) (hle : m + 1 ≤ 2097152) (hbase : base ≤ w.heap.size) :
    ∃ v' w' S', (Builtin.append_ #[25, 25] T #[v, .slice (some ad) 1 c]).run Try.prog w = .ok v' w' ∧ Own w' base v' (.l 3 1 (m + 1) (cs ++ [.i y1])) S' ∧ (∀ x, S' x → S x ∨ False ∨ x = w.heap.size) ∧ w.grownBy w' v.ownBlock := by
  obtain ⟨i0, hi, hz0, hz1, hz2⟩ := info_parts infoIn
  obtain ⟨vs, hrow, hgo⟩ := hown.open9
  obtain ⟨v', w', hrun, h2', h3, _, h5⟩ := run_append_own_at (P := Try.prog) (w := w) base 25 T 3 i0 _ 1 8 Try.underlying25 hi hz0 hz1 hz2 rfl (by decide) v m vs hrow ad 1 c [.int .i64 y1] rfl (fun j y hj => by
    match j, hj with
    | 0, hj => cases hj; exact h0
    | j + 1, hj => simp at hj) (fun y hy => by
    rw [List.mem_singleton.1 hy]; rfl) (by unfold maxLen; omega) (by omega) hbase
  obtain ⟨S', o', hs'⟩ := hgo v' w' [.int .i64 y1] ([.i y1]) (fun x => False) (OwnL.cons (.i _ (fun _ => False) (fun _ h => h)) (OwnL.nil (S := fun _ => False) (fun _ h => h)) (fun _ h => h.elim) (S' := fun _ => False) (fun _ => ⟨.inl, fun h => h.elim id id⟩)) (fun _ h => h.elim) rfl hle h2' h3 h5
  exact ⟨v', w', S', hrun, o', hs', h3⟩
theorem step_appIn {ops : Array Oper} {o : Oper} {a : Act} (w : World) {K : Act → World → Prop} {Q : Exit → Act → World → Prop} {E' : Prop} (hg : o.guard = none) (s x : Operand) (ho : o.op = .call { callee := .builtin .append, args := #[s, x], argTypes := #[25, 25] }) (base : Nat) (v : Value) (m : Nat) (cs : List Cel) (S : Nat → Prop) (hs : a.eval s = v) (hown : Own w base v (.l 3 1 m cs) S) (ad : Addr) (c : Nat) (hx : a.eval x = .slice (some ad) 1 c) (y1 : Int) (h0 : w.cell? (ad.add 0) = some (.int .i64 y1)) (hle : m + 1 ≤ 2097152) (hbase : base ≤ w.heap.size)
    (h : ∀ v' w' S', Own w' base v' (.l 3 1 (m + 1) (cs ++ [.i y1])) S' → (∀ x, S' x → S x ∨ False ∨ x = w.heap.size) → w.grownBy w' v.ownBlock → K (a.put o.dst v') w') : if Region.wanted o (yielded ops a.tmps) = true then Oper.wp Try.prog o a w K Q else E' := by
  rw [if_pos (by simp [Region.wanted, hg])]
  obtain ⟨v', w', S', hrun, h2', h3', h4'⟩ := run_appIn w o.type base v m cs S hown ad c y1 h0 hle hbase
  unfold Oper.wp execOp
  simp only [ho, resolve, invoke, builtin, Sem.run_bind, Sem.run_pure, Result.andThen_ok, List.map_toArray, List.map_cons, List.map_nil, hs, hx, hrun]
  exact h v' w' S' h2' h3' h4'
structure Apart (b q : Nat) (T1 T2 T3 : Nat → Prop) (k : Nat) : Prop where
  ge : b ≤ k
  nq : k ≠ q
  n1 : ¬ T1 k
  n2 : ¬ T2 k
  n3 : ¬ T3 k
structure ScIn (w W0 : World) (b q p : Nat) (a : Option Addr) (n c : Nat) (L : List Col3) (xs : List Int) (X : List Idx3) (v1 v2 v3 : Value) (T1 T2 T3 : Nat → Prop) (wr : World) : Prop where
  box : Box wr q #[v1, v2, v3] 28
  cur : Cur 102 wr p a n c
  o1 : Own wr b v1 (.l 75 3 L.length (clsE L)) T1
  o2 : Own wr b v2 (.l 3 1 xs.length (iE xs)) T2
  o3 : Own wr b v3 (.l 105 3 X.length (idsE X)) T3
  d12 : ∀ x, T1 x → ¬ T2 x
  d13 : ∀ x, T1 x → ¬ T3 x
  d23 : ∀ x, T2 x → ¬ T3 x
  n1 : ∀ x, T1 x → x ≠ q
  n2 : ∀ x, T2 x → x ≠ q
  n3 : ∀ x, T3 x → x ≠ q
  far : w.grownBy wr (some p)
  rel : ∀ k, k < b → k ≠ p → k ≠ q → wr.heap[k]? = W0.heap[k]?
  hs : b ≤ wr.heap.size
  hq : w.heap.size ≤ q
  hw : w.heap.size ≤ b
  hp : p < w.heap.size
theorem ScIn.grown {w W0 : World} {b q p : Nat} {a : Option Addr} {n c : Nat} {L : List Col3} {xs : List Int} {X : List Idx3} {v1 v2 v3 : Value} {T1 T2 T3 : Nat → Prop} {z w' : World} (h : ScIn w W0 b q p a n c L xs X v1 v2 v3 T1 T2 T3 z) (hf : z.grownBy w' (some p)) (hc : Cur 102 w' p a n c) : ScIn w W0 b q p a n c L xs X v1 v2 v3 T1 T2 T3 w' := by
  have hp := h.hp
  have hw := h.hw
  have hq := h.hq
  have low : ∀ x, x < z.heap.size → x ≠ p → w'.heap[x]? = z.heap[x]? := fun x hx hne => hf.block x hx (fun e => hne (by injection e))
  have T : ∀ {v : Value} {c : Cel} {S : Nat → Prop}, Own z b v c S → Own w' b v c S := fun o => o.heap fun x hx => low x (o.lt x hx).2 (by have := (o.lt x hx).1; omega)
  exact ⟨(low q h.box.lt (by omega)).trans h.box, hc, T h.o1, T h.o2, T h.o3, h.d12, h.d13, h.d23, h.n1, h.n2, h.n3, h.far.trans hf, fun k hk h1 h2 => (low k (by have := h.hs; omega) h1).trans (h.rel k hk h1 h2), Nat.le_trans h.hs hf.size, h.hq, h.hw, h.hp⟩
theorem ScIn.below {w W0 : World} {b q p : Nat} {a : Option Addr} {n c : Nat} {L : List Col3} {xs : List Int} {X : List Idx3} {v1 v2 v3 : Value} {T1 T2 T3 : Nat → Prop} {z w' : World} (h : ScIn w W0 b q p a n c L xs X v1 v2 v3 T1 T2 T3 z) (hb : Below z.heap.size z w') : ScIn w W0 b q p a n c L xs X v1 v2 v3 T1 T2 T3 w' := h.grown (far_below hb _) (cur_below h.cur hb)
theorem ScIn.drew {w W0 : World} {b q p : Nat} {a : Option Addr} {n c : Nat} {L : List Col3} {xs : List Int} {X : List Idx3} {v1 v2 v3 : Value} {T1 T2 T3 : Nat → Prop} {z : World} (h : ScIn w W0 b q p a n c L xs X v1 v2 v3 T1 T2 T3 z) : ScIn w W0 b q p a n c L xs X v1 v2 v3 T1 T2 T3 z.drew := h.grown (far_below (Below.refl _ _).drew _) (h.cur.keep fun _ _ => rfl)
theorem ScIn.only {w W0 : World} {b q p : Nat} {a : Option Addr} {n c : Nat} {L : List Col3} {xs : List Int} {X : List Idx3} {v1 v2 v3 : Value} {T1 T2 T3 : Nat → Prop} {z w' : World} (h : ScIn w W0 b q p a n c L xs X v1 v2 v3 T1 T2 T3 z) (hO : Only p z w') (hc : Cur 102 w' p a n c) : ScIn w W0 b q p a n c L xs X v1 v2 v3 T1 T2 T3 w' := h.grown (far_only hO) hc
theorem ScIn.lib {w W0 : World} {b q p : Nat} {a : Option Addr} {n c : Nat} {L : List Col3} {xs : List Int} {X : List Idx3} {v1 v2 v3 : Value} {T1 T2 T3 : Nat → Prop} {z : World} (h : ScIn w W0 b q p a n c L xs X v1 v2 v3 T1 T2 T3 z) {k : Nat} {cs : Array Value} {T : TypeId} (hb : Box W0 k cs T) (h1 : k < b) (h2 : k ≠ p) (h3 : k ≠ q) : Box z k cs T := (h.rel k h1 h2 h3).trans hb
theorem ScIn.put1 {w W0 : World} {b q p : Nat} {a : Option Addr} {n c : Nat} {L : List Col3} {xs : List Int} {X : List Idx3} {v1 v2 v3 : Value} {T1 T2 T3 : Nat → Prop} {z : World} (h : ScIn w W0 b q p a n c L xs X v1 v2 v3 T1 T2 T3 z) {w' : World} {u : Value} {L' : List Col3} {T' : Nat → Prop} {blk : Option Nat} (hf : z.grownBy w' blk) (hblk : ∀ x, blk = some x → T1 x) (ho : Own w' b u (.l 75 3 L'.length (clsE L')) T') (hT : ∀ x, T' x → T1 x ∨ Apart b q T1 T2 T3 x) :
    ScIn w W0 b q p a n c L' xs X u v2 v3 T' T2 T3 (w'.setCell ⟨q, 0, none⟩ u) := by
  have hqs := h.box.lt
  have hsb := h.hs
  have hpb := h.hp
  have hwb := h.hw
  have hqb := h.hq
  have hge : ∀ x, T1 x → b ≤ x := fun x hx => (h.o1.lt x hx).1
  have hne : ∀ x, x ≠ q → (w'.setCell ⟨q, 0, none⟩ u).heap[x]? = w'.heap[x]? := fun x hx => Below.heap_setCell _ _ _ _ (fun e => hx e)
  have low : ∀ x, x < z.heap.size → (∀ y, blk = some y → x ≠ y) → w'.heap[x]? = z.heap[x]? := fun x hx hy => hf.block x hx (fun e => hy x e.symm rfl)
  have lowb : ∀ x, x < b → w'.heap[x]? = z.heap[x]? := fun x hx => low x (by omega) (fun y hy e => by have := hge y (hblk y hy); omega)
  have hTq : ∀ x, T' x → x ≠ q := fun x hx e => (hT x hx).elim (fun h3 => h.n1 x h3 e) (fun h3 => h3.nq e)
  have boxw : Box w' q #[v1, v2, v3] 28 := (low q hqs (fun y hy e => h.n1 y (hblk y hy) e.symm)).trans h.box
  have hold : ∀ {v : Value} {c : Cel} {S : Nat → Prop}, Own z b v c S → (∀ x, S x → ¬ T1 x) → (∀ x, S x → x ≠ q) → Own (w'.setCell ⟨q, 0, none⟩ u) b v c S := fun o hd hn => o.heap fun x hx => (hne x (hn x hx)).trans (low x (o.lt x hx).2 (fun y hy e => hd x hx (by rw [e]; exact hblk y hy)))
  have OI : Own (w'.setCell ⟨q, 0, none⟩ u) b u (.l 75 3 L'.length (clsE L')) T' := ho.heap fun x hx => hne x (hTq x hx)
  refine ⟨boxw.put 0 u, ?_, OI, (hold h.o2 (fun x h1 h2 => h.d12 x h2 h1) h.n2), (hold h.o3 (fun x h1 h2 => h.d13 x h2 h1) h.n3), (fun x h1 h2 => (hT x h1).elim (fun h3 => h.d12 x h3 h2) (fun h3 => h3.n2 h2)), (fun x h1 h2 => (hT x h1).elim (fun h3 => h.d13 x h3 h2) (fun h3 => h3.n3 h2)), h.d23, hTq, h.n2, h.n3, ?_, ?_, ?_, hqb, h.hw, h.hp⟩
  · exact h.cur.keep fun k hk => (hne k (by omega)).trans (lowb k (by omega))
  · exact far_set (w0 := w) (w := w') (row := some p) ⟨hf.os.trans h.far.os, hf.tape.trans h.far.tape, hf.output.trans h.far.output, Nat.le_trans h.far.size hf.size, fun k hk hr => (lowb k (by omega)).trans (h.far.block k hk hr)⟩ (by show w.heap.size ≤ q; omega) _
  · exact fun k hk h1 h2 => (hne k h2).trans ((lowb k hk).trans (h.rel k hk h1 h2))
  · show b ≤ (w'.setCell ⟨q, 0, none⟩ u).heap.size
    rw [show (w'.setCell ⟨q, 0, none⟩ u).heap.size = w'.heap.size by simp [World.setCell]]
    exact Nat.le_trans hsb hf.size
theorem ScIn.put2 {w W0 : World} {b q p : Nat} {a : Option Addr} {n c : Nat} {L : List Col3} {xs : List Int} {X : List Idx3} {v1 v2 v3 : Value} {T1 T2 T3 : Nat → Prop} {z : World} (h : ScIn w W0 b q p a n c L xs X v1 v2 v3 T1 T2 T3 z) {w' : World} {u : Value} {xs' : List Int} {T' : Nat → Prop} {blk : Option Nat} (hf : z.grownBy w' blk) (hblk : ∀ x, blk = some x → T2 x) (ho : Own w' b u (.l 3 1 xs'.length (iE xs')) T') (hT : ∀ x, T' x → T2 x ∨ Apart b q T1 T2 T3 x) :
    ScIn w W0 b q p a n c L xs' X v1 u v3 T1 T' T3 (w'.setCell ⟨q, 1, none⟩ u) := by
  have hqs := h.box.lt
  have hsb := h.hs
  have hpb := h.hp
  have hwb := h.hw
  have hqb := h.hq
  have hge : ∀ x, T2 x → b ≤ x := fun x hx => (h.o2.lt x hx).1
  have hne : ∀ x, x ≠ q → (w'.setCell ⟨q, 1, none⟩ u).heap[x]? = w'.heap[x]? := fun x hx => Below.heap_setCell _ _ _ _ (fun e => hx e)
  have low : ∀ x, x < z.heap.size → (∀ y, blk = some y → x ≠ y) → w'.heap[x]? = z.heap[x]? := fun x hx hy => hf.block x hx (fun e => hy x e.symm rfl)
  have lowb : ∀ x, x < b → w'.heap[x]? = z.heap[x]? := fun x hx => low x (by omega) (fun y hy e => by have := hge y (hblk y hy); omega)
  have hTq : ∀ x, T' x → x ≠ q := fun x hx e => (hT x hx).elim (fun h3 => h.n2 x h3 e) (fun h3 => h3.nq e)
  have boxw : Box w' q #[v1, v2, v3] 28 := (low q hqs (fun y hy e => h.n2 y (hblk y hy) e.symm)).trans h.box
  have hold : ∀ {v : Value} {c : Cel} {S : Nat → Prop}, Own z b v c S → (∀ x, S x → ¬ T2 x) → (∀ x, S x → x ≠ q) → Own (w'.setCell ⟨q, 1, none⟩ u) b v c S := fun o hd hn => o.heap fun x hx => (hne x (hn x hx)).trans (low x (o.lt x hx).2 (fun y hy e => hd x hx (by rw [e]; exact hblk y hy)))
  have OI : Own (w'.setCell ⟨q, 1, none⟩ u) b u (.l 3 1 xs'.length (iE xs')) T' := ho.heap fun x hx => hne x (hTq x hx)
  refine ⟨boxw.put 1 u, ?_, (hold h.o1 (fun x h1 h2 => (fun x h1 h2 => h.d12 x h2 h1) x h2 h1) h.n1), OI, (hold h.o3 (fun x h1 h2 => h.d23 x h2 h1) h.n3), (fun x h1 h2 => (fun x h1 h2 => (hT x h1).elim (fun h3 => (fun x h1 h2 => h.d12 x h2 h1) x h3 h2) (fun h3 => h3.n1 h2)) x h2 h1), h.d13, (fun x h1 h2 => (hT x h1).elim (fun h3 => h.d23 x h3 h2) (fun h3 => h3.n3 h2)), h.n1, hTq, h.n3, ?_, ?_, ?_, hqb, h.hw, h.hp⟩
  · exact h.cur.keep fun k hk => (hne k (by omega)).trans (lowb k (by omega))
  · exact far_set (w0 := w) (w := w') (row := some p) ⟨hf.os.trans h.far.os, hf.tape.trans h.far.tape, hf.output.trans h.far.output, Nat.le_trans h.far.size hf.size, fun k hk hr => (lowb k (by omega)).trans (h.far.block k hk hr)⟩ (by show w.heap.size ≤ q; omega) _
  · exact fun k hk h1 h2 => (hne k h2).trans ((lowb k hk).trans (h.rel k hk h1 h2))
  · show b ≤ (w'.setCell ⟨q, 1, none⟩ u).heap.size
    rw [show (w'.setCell ⟨q, 1, none⟩ u).heap.size = w'.heap.size by simp [World.setCell]]
    exact Nat.le_trans hsb hf.size
theorem ScIn.put3 {w W0 : World} {b q p : Nat} {a : Option Addr} {n c : Nat} {L : List Col3} {xs : List Int} {X : List Idx3} {v1 v2 v3 : Value} {T1 T2 T3 : Nat → Prop} {z : World} (h : ScIn w W0 b q p a n c L xs X v1 v2 v3 T1 T2 T3 z) {w' : World} {u : Value} {X' : List Idx3} {T' : Nat → Prop} {blk : Option Nat} (hf : z.grownBy w' blk) (hblk : ∀ x, blk = some x → T3 x) (ho : Own w' b u (.l 105 3 X'.length (idsE X')) T') (hT : ∀ x, T' x → T3 x ∨ Apart b q T1 T2 T3 x) :
    ScIn w W0 b q p a n c L xs X' v1 v2 u T1 T2 T' (w'.setCell ⟨q, 2, none⟩ u) := by
  have hqs := h.box.lt
  have hsb := h.hs
  have hpb := h.hp
  have hwb := h.hw
  have hqb := h.hq
  have hge : ∀ x, T3 x → b ≤ x := fun x hx => (h.o3.lt x hx).1
  have hne : ∀ x, x ≠ q → (w'.setCell ⟨q, 2, none⟩ u).heap[x]? = w'.heap[x]? := fun x hx => Below.heap_setCell _ _ _ _ (fun e => hx e)
  have low : ∀ x, x < z.heap.size → (∀ y, blk = some y → x ≠ y) → w'.heap[x]? = z.heap[x]? := fun x hx hy => hf.block x hx (fun e => hy x e.symm rfl)
  have lowb : ∀ x, x < b → w'.heap[x]? = z.heap[x]? := fun x hx => low x (by omega) (fun y hy e => by have := hge y (hblk y hy); omega)
  have hTq : ∀ x, T' x → x ≠ q := fun x hx e => (hT x hx).elim (fun h3 => h.n3 x h3 e) (fun h3 => h3.nq e)
  have boxw : Box w' q #[v1, v2, v3] 28 := (low q hqs (fun y hy e => h.n3 y (hblk y hy) e.symm)).trans h.box
  have hold : ∀ {v : Value} {c : Cel} {S : Nat → Prop}, Own z b v c S → (∀ x, S x → ¬ T3 x) → (∀ x, S x → x ≠ q) → Own (w'.setCell ⟨q, 2, none⟩ u) b v c S := fun o hd hn => o.heap fun x hx => (hne x (hn x hx)).trans (low x (o.lt x hx).2 (fun y hy e => hd x hx (by rw [e]; exact hblk y hy)))
  have OI : Own (w'.setCell ⟨q, 2, none⟩ u) b u (.l 105 3 X'.length (idsE X')) T' := ho.heap fun x hx => hne x (hTq x hx)
  refine ⟨boxw.put 2 u, ?_, (hold h.o1 (fun x h1 h2 => (fun x h1 h2 => h.d13 x h2 h1) x h2 h1) h.n1), (hold h.o2 (fun x h1 h2 => (fun x h1 h2 => h.d23 x h2 h1) x h2 h1) h.n2), OI, h.d12, (fun x h1 h2 => (fun x h1 h2 => (hT x h1).elim (fun h3 => (fun x h1 h2 => h.d13 x h2 h1) x h3 h2) (fun h3 => h3.n1 h2)) x h2 h1), (fun x h1 h2 => (fun x h1 h2 => (hT x h1).elim (fun h3 => (fun x h1 h2 => h.d23 x h2 h1) x h3 h2) (fun h3 => h3.n2 h2)) x h2 h1), h.n1, h.n2, hTq, ?_, ?_, ?_, hqb, h.hw, h.hp⟩
  · exact h.cur.keep fun k hk => (hne k (by omega)).trans (lowb k (by omega))
  · exact far_set (w0 := w) (w := w') (row := some p) ⟨hf.os.trans h.far.os, hf.tape.trans h.far.tape, hf.output.trans h.far.output, Nat.le_trans h.far.size hf.size, fun k hk hr => (lowb k (by omega)).trans (h.far.block k hk hr)⟩ (by show w.heap.size ≤ q; omega) _
  · exact fun k hk h1 h2 => (hne k h2).trans ((lowb k hk).trans (h.rel k hk h1 h2))
  · show b ≤ (w'.setCell ⟨q, 2, none⟩ u).heap.size
    rw [show (w'.setCell ⟨q, 2, none⟩ u).heap.size = w'.heap.size by simp [World.setCell]]
    exact Nat.le_trans hsb hf.size
theorem clsE_app (L M : List Col3) : clsE (L ++ M) = clsE L ++ clsE M := List.flatMap_append
theorem idsE_app (L M : List Idx3) : idsE (L ++ M) = idsE L ++ idsE M := List.flatMap_append
theorem iE_app (L M : List Int) : iE (L ++ M) = iE L ++ iE M := List.map_append
theorem clsE_set0 : ∀ {L : List Col3} {i : Nat} {y : Col3} (u : ByteArray), L[i]? = some y → clsE (L.set i (u, y.2)) = (clsE L).set (i * 3) (.s u)
  | [], i, y, u, h => by simp at h
  | z :: L, 0, y, u, h => by
    simp at h
    subst h
    rfl
  | z :: L, i + 1, y, u, h => by
    have h1 := clsE_set0 (L := L) (i := i) u (by simpa using h)
    show clE z ++ clsE (L.set i _) = (clE z ++ clsE L).set ((i + 1) * 3) _
    rw [h1, show (i + 1) * 3 = i * 3 + 3 by omega]
    rfl
theorem clsE_set1 : ∀ {L : List Col3} {i : Nat} {y : Col3} (u : Int), L[i]? = some y → clsE (L.set i (y.1, u, y.2.2)) = (clsE L).set (i * 3 + 1) (.i u)
  | [], i, y, u, h => by simp at h
  | z :: L, 0, y, u, h => by
    simp at h
    subst h
    rfl
  | z :: L, i + 1, y, u, h => by
    have h1 := clsE_set1 (L := L) (i := i) u (by simpa using h)
    show clE z ++ clsE (L.set i _) = (clE z ++ clsE L).set ((i + 1) * 3 + 1) _
    rw [h1, show (i + 1) * 3 + 1 = i * 3 + 1 + 3 by omega]
    rfl
theorem clsE_set2 : ∀ {L : List Col3} {i : Nat} {y : Col3} (u : Bool), L[i]? = some y → clsE (L.set i (y.1, y.2.1, u)) = (clsE L).set (i * 3 + 2) (.b u)
  | [], i, y, u, h => by simp at h
  | z :: L, 0, y, u, h => by
    simp at h
    subst h
    rfl
  | z :: L, i + 1, y, u, h => by
    have h1 := clsE_set2 (L := L) (i := i) u (by simpa using h)
    show clE z ++ clsE (L.set i _) = (clE z ++ clsE L).set ((i + 1) * 3 + 2) _
    rw [h1, show (i + 1) * 3 + 2 = i * 3 + 2 + 3 by omega]
    rfl
theorem clsE_at {L : List Col3} {i : Nat} {x : Col3} (h : L[i]? = some x) : (clsE L)[i * 3]? = some (.s x.1) ∧ (clsE L)[i * 3 + 1]? = some (.i x.2.1) ∧ (clsE L)[i * 3 + 2]? = some (.b x.2.2) := by
  have h1 := flatE_row (f := clE) (fun _ => rfl) h
  have e0 : (row (clsE L) 3 i)[0]? = _ := row_at (by decide)
  have e1 : (row (clsE L) 3 i)[1]? = _ := row_at (by decide)
  have e2 : (row (clsE L) 3 i)[2]? = _ := row_at (by decide)
  rw [show row (clsE L) 3 i = clE x from h1] at e0 e1 e2
  exact ⟨e0.symm, e1.symm, e2.symm⟩
theorem own_inT {w : World} {b : Nat} {v : Value} {T : TypeId} {k n : Nat} {cs : List Cel} {S : Nat → Prop} (h : Own w b v (.l T k n cs) S) : ∀ x, v.ownBlock = some x → S x := by
  intro x e
  rcases h.forms with ⟨h0, _⟩ | ⟨g, cap, h0, _, hg⟩
  · rw [h0] at e; cases e
  · rw [h0] at e
    have e1 : g = x := Option.some.inj e
    rw [← e1]; exact hg
theorem ScIn.boxG {w W0 : World} {b q p : Nat} {a : Option Addr} {n c : Nat} {L : List Col3} {xs : List Int} {X : List Idx3} {v1 v2 v3 : Value} {T1 T2 T3 : Nat → Prop} {z w' : World} (h : ScIn w W0 b q p a n c L xs X v1 v2 v3 T1 T2 T3 z) {blk : Option Nat} {T : Nat → Prop} (hf : z.grownBy w' blk) (hblk : ∀ x, blk = some x → T x) (hn : ∀ x, T x → x ≠ q) : Box w' q #[v1, v2, v3] 28 :=
  (hf.block q h.box.lt (fun e => hn q (hblk q e.symm) rfl)).trans h.box
theorem ScIn.turn1 {w W0 : World} {b q p : Nat} {a : Option Addr} {n c : Nat} {L : List Col3} {xs : List Int} {X : List Idx3} {v1 v2 v3 : Value} {T1 T2 T3 : Nat → Prop} {z : World} (h : ScIn w W0 b q p a n c L xs X v1 v2 v3 T1 T2 T3 z) {bb i : Nat} {u : Value} {L' : List Col3} (hb : T1 bb) (ho : Own (z.setCell ⟨bb, i, none⟩ u) b v1 (.l 75 3 L'.length (clsE L')) T1) : ScIn w W0 b q p a n c L' xs X v1 v2 v3 T1 T2 T3 (z.setCell ⟨bb, i, none⟩ u) := by
  have hne : ∀ x, x ≠ bb → (z.setCell ⟨bb, i, none⟩ u).heap[x]? = z.heap[x]? := fun x hx => Below.heap_setCell _ _ _ _ (fun e => hx e)
  have h1 := h.hp
  have h2 := h.hw
  have h3 := (h.o1.lt bb hb).1
  exact ⟨(hne q (fun e => h.n1 bb hb e.symm)).trans h.box, h.cur.keep fun k hk => hne k (by omega), ho, h.o2.heap fun x hx => hne x (fun e => h.d12 bb hb (by rw [← e]; exact hx)), h.o3.heap fun x hx => hne x (fun e => h.d13 bb hb (by rw [← e]; exact hx)), h.d12, h.d13, h.d23, h.n1, h.n2, h.n3, far_set h.far (by show w.heap.size ≤ bb; omega) _, fun k hk e1 e2 => (hne k (by omega)).trans (h.rel k hk e1 e2), by rw [show (z.setCell ⟨bb, i, none⟩ u).heap.size = z.heap.size by simp [World.setCell]]; exact h.hs, h.hq, h.hw, h.hp⟩
def ScDr (k i : Nat) (D : SchD) : Prop := (2 ≤ D.cols.length ∧ D.cols.length ≤ 4) ∧ (D.key.length ≤ k ∧ D.idx.length ≤ i) ∧ (∀ x ∈ D.cols, x.1.size ≤ 13) ∧ ∀ x ∈ D.idx, x.1.size ≤ 13 ∧ x.2.1.length ≤ 2
def DrSc (k i : Nat) (w : World) (p : Nat) (a : Option Addr) (n c : Nat) (e : Ending) (w' : World) : Prop := ∃ D us T, e = .returned (.agg us.toArray) ∧ ScDr k i D ∧ OwnL w' w.heap.size us (schE D) T ∧ Cur 102 w' p a n c ∧ w.grownBy w' (some p)
theorem ScIn.own {w W0 : World} {b q p : Nat} {a : Option Addr} {n c : Nat} {L : List Col3} {xs : List Int} {X : List Idx3} {v1 v2 v3 : Value} {T1 T2 T3 : Nat → Prop} {z : World} (h : ScIn w W0 b q p a n c L xs X v1 v2 v3 T1 T2 T3 z) : ∃ T, OwnL z b [v1, v2, v3] (schE ⟨L, xs, X⟩) T ∧ ∀ x, T x → T1 x ∨ T2 x ∨ T3 x :=
  ⟨_, OwnL.cons h.o1 (OwnL.cons h.o2 (OwnL.cons h.o3 (OwnL.nil (S := fun _ => False) (fun _ h => h)) (fun _ _ h => h) (S' := T3) (fun _ => ⟨.inl, fun h => h.elim id False.elim⟩)) h.d23 (S' := fun x => T2 x ∨ T3 x) (fun _ => Iff.rfl)) (fun x h1 h2 => h2.elim (h.d12 x h1) (h.d13 x h1)) (S' := fun x => T1 x ∨ T2 x ∨ T3 x) (fun _ => Iff.rfl), fun _ h => h⟩
theorem ScIn.out {w W0 : World} {b q p : Nat} {a : Option Addr} {n c : Nat} {L : List Col3} {xs : List Int} {X : List Idx3} {v1 v2 v3 : Value} {T1 T2 T3 : Nat → Prop} {z : World} (h : ScIn w W0 b q p a n c L xs X v1 v2 v3 T1 T2 T3 z) {g k i : Nat} (hg : w.heap.size = g) (hgb : g < b) (hd : ScDr k i ⟨L, xs, X⟩) : DrSc k i w p a n c (.returned (.agg #[v1, v2, v3])) (((z.setCell ⟨g, 0, none⟩ v1).setCell ⟨g, 1, none⟩ v2).setCell ⟨g, 2, none⟩ v3) := by
  have hne : ∀ x, x ≠ g → (((z.setCell ⟨g, 0, none⟩ v1).setCell ⟨g, 1, none⟩ v2).setCell ⟨g, 2, none⟩ v3).heap[x]? = z.heap[x]? := fun x hx => (Below.heap_setCell _ _ _ _ (fun e => hx e)).trans ((Below.heap_setCell _ _ _ _ (fun e => hx e)).trans (Below.heap_setCell _ _ _ _ (fun e => hx e)))
  have hp := h.hp
  obtain ⟨T, ho, -⟩ := h.own
  refine ⟨⟨L, xs, X⟩, [v1, v2, v3], T, rfl, hd, ?_, h.cur.keep fun k hk => hne k (by omega), far_set (far_set (far_set h.far (Nat.le_of_eq hg) _) (Nat.le_of_eq hg) _) (Nat.le_of_eq hg) _⟩
  exact (ho.heap fun x hx => hne x (fun e => by have := (ho.lt x hx).1; omega)).weaken h.hw
theorem scIn_nil {w W0 : World} {b q p : Nat} {a : Option Addr} {n c : Nat} (hb : Box W0 q #[.slice none 0 0, .slice none 0 0, .slice none 0 0] 28) (hc : Cur 102 W0 p a n c) (hf : w.grownBy W0 (some p)) (hs : W0.heap.size = b) (hq : w.heap.size ≤ q) (hp : p < w.heap.size) : ScIn w W0 b q p a n c [] [] [] (.slice none 0 0) (.slice none 0 0) (.slice none 0 0) (fun _ => False) (fun _ => False) (fun _ => False) W0 :=
  ⟨hb, hc, .nil _ 3 _ (fun _ h => h), .nil _ 1 _ (fun _ h => h), .nil _ 3 _ (fun _ h => h), fun _ h => h.elim, fun _ h => h.elim, fun _ h => h.elim, fun _ h => h.elim, fun _ h => h.elim, fun _ h => h.elim, hf, fun _ _ _ _ => rfl, Nat.le_of_eq hs.symm, hq, by have := hf.size; omega, hp⟩
theorem wpAnyH_strong {P : Program} {md : Region.Mode} {ops : Array Oper} {Q : Exit → Act → World → Prop} {S S' : World → Prop} (hS : ∀ w, S' w → S w) : ∀ (fuel : Nat) (listed : Array Bool) (a : Act) (w : World), wpAnyH P md ops Q S' fuel listed a w → wpAnyH P md ops Q S fuel listed a w
  | 0, _, _, _, h => h
  | fuel + 1, _, _, _, h => ⟨h.1, fun i hi => wpOp_mono (fun a' w' h' => ⟨hS _ h'.1, wpAnyH_strong hS fuel _ a' w' h'.2⟩) (h.2 i hi)⟩
theorem wp_cut19 {P : Program} {code : Code} {K R : Act → World → Prop} {a : Act} {w : World} {Q : Exit → Act → World → Prop} (hreg : code.wp P (Exit.then R (fun _ _ _ => False)) a w) (hrest : ∀ a' w', R a' w' → K a' w') : code.wp P (Exit.then K Q) a w := by
  refine Code.wp_mono (fun e a' w' h => ?_) hreg
  cases e with
  | normal => exact hrest _ _ h
  | _ => exact h.elim
theorem far_cell3 (z : World) (k i : Nat) (v : Value) : z.grownBy (z.setCell ⟨k, i, none⟩ v) (some k) := ⟨rfl, rfl, rfl, Nat.le_of_eq (by simp [World.setCell]), fun x _ hr => Below.heap_setCell _ _ _ _ (fun e => hr (by have e : x = k := e; rw [e]))⟩
theorem ScIn.fresh {w W0 : World} {b q p : Nat} {a : Option Addr} {n c : Nat} {L : List Col3} {xs : List Int} {X : List Idx3} {v1 v2 v3 : Value} {T1 T2 T3 : Nat → Prop} {z : World} (h : ScIn w W0 b q p a n c L xs X v1 v2 v3 T1 T2 T3 z) {k : Nat} (hk : z.heap.size ≤ k) : Apart b q T1 T2 T3 k :=
  ⟨Nat.le_trans h.hs hk, fun e => by have := h.box.lt; omega, fun e => by have := (h.o1.lt k e).2; omega, fun e => by have := (h.o2.lt k e).2; omega, fun e => by have := (h.o3.lt k e).2; omega⟩
theorem ScIn.side {w W0 : World} {b q p : Nat} {a : Option Addr} {n c : Nat} {L : List Col3} {xs : List Int} {X : List Idx3} {v1 v2 v3 : Value} {T1 T2 T3 : Nat → Prop} {z w' : World} (h : ScIn w W0 b q p a n c L xs X v1 v2 v3 T1 T2 T3 z) {blk : Option Nat} (hf : z.grownBy w' blk) (hk : ∀ k, blk = some k → Apart b q T1 T2 T3 k) : ScIn w W0 b q p a n c L xs X v1 v2 v3 T1 T2 T3 w' := by
  have h1 := h.hp
  have h2 := h.hw
  have h3 := h.hs
  have low : ∀ x, x < z.heap.size → (∀ k, blk = some k → x ≠ k) → w'.heap[x]? = z.heap[x]? := fun x hx hne => hf.block x hx (fun e => hne x e.symm rfl)
  have lowb : ∀ x, x < b → w'.heap[x]? = z.heap[x]? := fun x hx => low x (by omega) (fun k e e2 => by have := (hk k e).ge; omega)
  exact ⟨(low q h.box.lt (fun k e e2 => (hk k e).nq e2.symm)).trans h.box, h.cur.keep fun k hk => lowb k (by omega), h.o1.heap fun x hx => low x (h.o1.lt x hx).2 (fun k e e2 => (hk k e).n1 (by rw [← e2]; exact hx)), h.o2.heap fun x hx => low x (h.o2.lt x hx).2 (fun k e e2 => (hk k e).n2 (by rw [← e2]; exact hx)), h.o3.heap fun x hx => low x (h.o3.lt x hx).2 (fun k e e2 => (hk k e).n3 (by rw [← e2]; exact hx)), h.d12, h.d13, h.d23, h.n1, h.n2, h.n3, ⟨hf.os.trans h.far.os, hf.tape.trans h.far.tape, hf.output.trans h.far.output, Nat.le_trans h.far.size hf.size, fun k hk hr => (lowb k (by omega)).trans (h.far.block k hk hr)⟩, fun k e1 e2 e3 => (lowb k e1).trans (h.rel k e1 e2 e3), Nat.le_trans h3 hf.size, h.hq, h.hw, h.hp⟩
theorem box_ne {z : World} {k l : Nat} {cs ds : Array Value} {T U : TypeId} (h1 : Box z k cs T) (h2 : Box z l ds U) (hT : T ≠ U) : k ≠ l := by
  intro e
  subst e
  have h3 := h1.symm.trans h2
  exact hT (by injection h3 with h4; injection h4)
theorem own_box1 {z : World} {b g : Nat} {x : Int} (h : Box z g #[.int .i64 x] 3) (hb : b ≤ g) : IOwn z b (.slice (some ⟨g, 0, none⟩) 1 1) [x] :=
  ⟨rfl, .inr ⟨g, 1, #[.int .i64 x], rfl, hb, h, Nat.le_refl _, by unfold maxLen; omega, rfl, rfl⟩⟩
theorem boxB {w w' : World} {b : Nat} {cs : Array Value} {T : TypeId} (h : Hid (Box w b cs T)) (hb : Hid (Below w.heap.size w w')) : Hid (Box w' b cs T) := h.out.below hb.out h.out.lt
theorem boxO {w w' : World} {p b : Nat} {cs : Array Value} {T : TypeId} (h : Hid (Box w b cs T)) (hO : Only p w w') (hp : ¬ b = p) : Hid (Box w' b cs T) := h.out.only hO hp
theorem ScIn.laid {w W0 : World} {b q p : Nat} {a : Option Addr} {n c : Nat} {L : List Col3} {xs : List Int} {X : List Idx3} {v1 v2 v3 : Value} {T1 T2 T3 : Nat → Prop} {z : World} (h : ScIn w W0 b q p a n c L xs X v1 v2 v3 T1 T2 T3 z) (cs : Array Value) (T : TypeId) : ∃ g Z, Hid (z.heap.size = g) ∧ Hid (z.alloc (.cells cs T) = Z) ∧ Hid (Below z.heap.size z Z) ∧ Hid (ScIn w W0 b q p a n c L xs X v1 v2 v3 T1 T2 T3 Z) ∧ Hid (Box Z g cs T) ∧ Hid (Apart b q T1 T2 T3 g) :=
  ⟨_, _, rfl, rfl, (Below.refl _ _).alloc (Nat.le_refl _) _, h.below ((Below.refl _ _).alloc (Nat.le_refl _) _), box_of z _ _, h.fresh (Nat.le_refl _)⟩
theorem ScIn.index {w W0 : World} {b q p : Nat} {a : Option Addr} {n c : Nat} {L : List Col3} {xs : List Int} {X : List Idx3} {v1 v2 v3 : Value} {T1 T2 T3 : Nat → Prop} {z : World} (h : ScIn w W0 b q p a n c L xs X v1 v2 v3 T1 T2 T3 z) {gx gl g0 : Nat} {av : Int} {cs0 : Array Value} {T0 : TypeId} (hx : Box z gx #[.string ⟨#[]⟩, .slice none 0 0, .bool false] 105) (hl : Box z gl #[.int .i64 av] 3) (h0 : Box z g0 cs0 T0) (hT : T0 ≠ 105) (ax : Apart b q T1 T2 T3 gx) (al : Apart b q T1 T2 T3 gl) (nm : ByteArray) (bv : Bool) :
    Hid (Box (((z.setCell ⟨gx, 0, none⟩ (.string nm)).setCell ⟨gx, 1, none⟩ (.slice (some ⟨gl, 0, none⟩) 1 1)).setCell ⟨gx, 2, none⟩ (.bool bv)) g0 cs0 T0) ∧
    (Box (((z.setCell ⟨gx, 0, none⟩ (.string nm)).setCell ⟨gx, 1, none⟩ (.slice (some ⟨gl, 0, none⟩) 1 1)).setCell ⟨gx, 2, none⟩ (.bool bv)) gx #[.string nm, .slice (some ⟨gl, 0, none⟩) 1 1, .bool bv] 105 ∧ IOwn (((z.setCell ⟨gx, 0, none⟩ (.string nm)).setCell ⟨gx, 1, none⟩ (.slice (some ⟨gl, 0, none⟩) 1 1)).setCell ⟨gx, 2, none⟩ (.bool bv)) b (.slice (some ⟨gl, 0, none⟩) 1 1) [av] ∧
      ScIn w W0 b q p a n c L xs X v1 v2 v3 T1 T2 T3 (((z.setCell ⟨gx, 0, none⟩ (.string nm)).setCell ⟨gx, 1, none⟩ (.slice (some ⟨gl, 0, none⟩) 1 1)).setCell ⟨gx, 2, none⟩ (.bool bv)) ∧ Apart b q T1 T2 T3 gx ∧ Apart b q T1 T2 T3 gl ∧ gx ≠ gl) := by
  have hne : gx ≠ gl := box_ne hx hl (by decide)
  have hne' : ¬ gl = gx := fun e => hne e.symm
  have h0x : ¬ g0 = gx := box_ne h0 hx hT
  exact ⟨((h0.set (q := ⟨gx, 0, none⟩) h0x _).set (q := ⟨gx, 1, none⟩) h0x _).set (q := ⟨gx, 2, none⟩) h0x _, ((hx.put 0 (.string nm)).put 1 _).put 2 (.bool bv), own_box1 (((hl.set (q := ⟨gx, 0, none⟩) hne' _).set (q := ⟨gx, 1, none⟩) hne' _).set (q := ⟨gx, 2, none⟩) hne' _) al.ge, ((h.side (far_cell3 _ gx 0 _) (fun k e => by cases e; exact ax)).side (far_cell3 _ gx 1 _) (fun k e => by cases e; exact ax)).side (far_cell3 _ gx 2 _) (fun k e => by cases e; exact ax), ax, al, hne⟩
theorem scIn_of {w W w1 : World} {b q p : Nat} {a : Option Addr} {n c : Nat} {D : SchD} {u1 u2 u3 : Value} {T : Nat → Prop} (ho : OwnL w1 b [u1, u2, u3] (schE D) T) (hb : W.heap.size = b) (hq : w1.heap.size = q) (hc : Cur 102 w1 p a n c) (hf : W.grownBy w1 (some p)) (hw : w.grownBy W (some p)) (hp : p < w.heap.size) :
    ∃ T1 T2 T3, ScIn w W b q p a n c D.cols D.key D.idx u1 u2 u3 T1 T2 T3 (w1.alloc (.cells #[u1, u2, u3] 28)) := by
  obtain ⟨S1, R1, o1, hr1, e1, -⟩ := ho.parts
  obtain ⟨S2, R2, o2, hr2, e2, i2⟩ := hr1.parts
  obtain ⟨S3, R3, o3, -, -, i3⟩ := hr2.parts
  have hs := hf.size
  have hs0 := hw.size
  have nq : ∀ {v : Value} {c : Cel} {S : Nat → Prop}, Own w1 b v c S → ∀ x, S x → x ≠ q := fun o x hx e => by have := (o.lt x hx).2; omega
  have bl : Below w1.heap.size w1 (w1.alloc (.cells #[u1, u2, u3] 28)) := (Below.refl _ w1).alloc (Nat.le_refl _) _
  refine ⟨S1, S2, S3, ⟨by rw [← hq]; exact box_of w1 _ _, cur_below hc bl, o1.on bl (Nat.le_refl _), o2.on bl (Nat.le_refl _), o3.on bl (Nat.le_refl _), fun x h1 h2 => e1 x h1 ((i2 x).2 (.inl h2)), fun x h1 h3 => e1 x h1 ((i2 x).2 (.inr ((i3 x).2 (.inl h3)))), fun x h2 h3 => e2 x h2 ((i3 x).2 (.inl h3)), nq o1, nq o2, nq o3, far_alloc (hw.trans hf) _, fun k hk h1 _ => (bl.block k (by omega)).trans (hf.block k (by omega) (fun e => h1 (by injection e))), by rw [World.size_alloc]; omega, by omega, by omega, hp⟩⟩
end
section
open Go.ChangeShapes Go.WideShapes Go.ChangeAt Go.RowKit
theorem l1Byte_any (p : Nat) (a : Option Addr) (n c : Nat) (w : World) (hC : Cur 102 w p a n c) :
    Calls Try.prog 81 #[.pointer (some ⟨p, 0, none⟩)] w fun e w' => ∃ x : Nat, x ≤ 255 ∧ e = .returned (.int .i64 (x : Int)) ∧ Cur 102 w' p a n c ∧ Only p w w' := by
  obtain ⟨⟨i, h, hI, hi0, hi1⟩, hB, hn⟩ := hC
  obtain ⟨j, rfl⟩ : ∃ j : Nat, i = (j : Int) := ⟨i.toNat, by omega⟩
  obtain ⟨c0, c1, c2⟩ := hI.cell
  have f1 := hI.frozen 1
  have f2 := hI.frozen 2
  have HI : Hid (CurIs 102 w p a n c j h) := hI
  have HB : Hid (BytesAt w p a n) := hB
  have hand := and255
  clear hI hB
  by_cases hlt : j < n
  · rcases HB.out with h0 | ⟨b, o, rfl, hbp, hby⟩
    · omega
    obtain ⟨z, hz, e1⟩ := hby j hlt
    clear hby
    go_enter Try.func81, Try.ntmps81
    go_wp2
    go_region
    go_wp2
    go_region
    go_wp2
    go_region
    go_wp2
    go_ret
    have hO : Only p w (((w.setCell ⟨p, 2, none⟩ (.int .i64 (wrap64 (wrap64 (h * 6364136223846793005) + 1442695040888963407)))).setCell ⟨p, 1, none⟩ (.int .i64 ((j : Int) + 1))).drew.drew.drew) := (((Only.refl p w).setCell 2 _).setCell 1 _).drew.drew.drew
    exact byte_fin _ (cur_of hO HB.out ((HI.out.set2 _).set1 _) (by omega) (by omega) hn) hO
  · go_enter Try.func81, Try.ntmps81
    go_wp2
    go_region
    go_wp2
    go_region
    go_wp2
    go_ret
    have hO : Only p w ((w.setCell ⟨p, 2, none⟩ (.int .i64 (wrap64 (wrap64 (h * 6364136223846793005) + 1442695040888963407)))).drew.drew) := ((Only.refl p w).setCell 2 _).drew.drew
    exact byte_fin _ (cur_of hO HB.out (HI.out.set2 _) hi0 hi1 hn) hO

theorem l1Below_any (p : Nat) (a : Option Addr) (n c : Nat) (m : Int) (h0 : 1 ≤ m) (hm : m ≤ 256) (w : World) (hC : Cur 102 w p a n c) :
    Calls Try.prog 45 #[.pointer (some ⟨p, 0, none⟩), .int .i64 m] w fun e w' => ∃ x : Nat, (x : Int) < m ∧ e = .returned (.int .i64 (x : Int)) ∧ Cur 102 w' p a n c ∧ Only p w w' := by
  go_enter Try.func45, Try.ntmps45
  go_wp2_with (go_at_call 81; refine (l1Byte_any p a n c _ hC).mono ?_; rintro e w1 ⟨x, hx, rfl, hC1, hO1⟩)
  go_ret
  exact below_fin h0 hC1 hO1

theorem l1New_any (a : Option Addr) (n c : Nat) (w : World) (hn : n ≤ 1048576) (hB : BytesAt w w.heap.size a n) :
    Calls Try.prog 42 #[.slice a n c] w fun e w' => e = .returned (.pointer (some ⟨w.heap.size, 0, none⟩)) ∧ Cur 102 w' w.heap.size a n c ∧ Below w.heap.size w w' ∧ w'.heap.size = w.heap.size + 1 := by
  have HB : Hid (BytesAt w w.heap.size a n) := hB
  clear hB
  go_enter Try.func42, Try.ntmps42
  go_wp2
  go_loop [3, 4] (fun h i => ∃ (x : Int) (k : Nat), h = .int .i64 x ∧ i = .int .i64 (k : Int) ∧ k ≤ n) (fun _ i => n - (intOf i).toNat)
  case atStart => exact ⟨_, 0, rfl, rfl, Nat.zero_le _⟩
  case round =>
    obtain ⟨x, k, rfl, rfl, hk⟩ := hrel
    by_cases hlt : k < n
    · rcases HB.out with h0 | ⟨b, o, rfl, hbp, hby⟩
      · omega
      obtain ⟨z, hz, e1⟩ := hby k hlt
      clear hby
      by_cases h4 : k < 4000
      · go_wp2
        go_round
        case rel => exact ⟨_, k + 1, rfl, by go_num, by omega⟩
        case measure => simp [intOf]; omega
      · go_wp2
        go_ret
        exact ⟨rfl, cur_new HB.out hn, (Below.refl _ _).alloc (Nat.le_refl _) _, by simp⟩
    · go_wp2
      go_ret
      exact ⟨rfl, cur_new HB.out hn, (Below.refl _ _).alloc (Nat.le_refl _) _, by simp⟩
theorem l1Once_anyB (p : Nat) (a : Option Addr) (n c : Nat) (m : Int) (h0 : 1 ≤ m) (hm : m ≤ 256) (w : World) (hC : Cur 102 w p a n c) :
    Calls Try.prog 79 #[.pointer (some ⟨p, 0, none⟩), .int .i64 m] w fun e w' => (∃ b : Bool, e = .returned (.bool b)) ∧ Cur 102 w' p a n c ∧ Only p w w' := by
  go_enter Try.func79, Try.ntmps79
  go_wp2_with (go_at_call 45; refine (l1Below_any p a n c m h0 hm _ hC).mono ?_; rintro e w1 ⟨x, -, rfl, hC1, hO1⟩)
  go_ret
  exact ⟨⟨_, rfl⟩, hC1, hO1⟩
theorem l1PickInt_any (p : Nat) (a : Option Addr) (n c g q d : Nat) (xs : List Int) (h0 : 1 ≤ q) (hq : q ≤ 256) (w : World) (hC : Cur 102 w p a n c) (hg : g ≠ p)
    (hx : ∀ i, i < q → w.cell? ⟨g, i, none⟩ = some (.int .i64 (xs.getD i 0))) :
    Calls Try.prog 78 #[.pointer (some ⟨p, 0, none⟩), .slice (some ⟨g, 0, none⟩) q d] w fun e w' => ∃ x : Nat, x < q ∧ e = .returned (.int .i64 (xs.getD x 0)) ∧ Cur 102 w' p a n c ∧ Only p w w' := by
  have HX : Hid (∀ i, i < q → w.cell? ⟨g, i, none⟩ = some (.int .i64 (xs.getD i 0))) := hx
  clear hx
  go_enter Try.func78, Try.ntmps78
  go_wp2_with (go_at_call 45; refine (l1Below_any p a n c _ (by omega) (by omega) _ hC).mono ?_; rintro e w1 ⟨x, hx, rfl, hC1, hO1⟩; have hlt : x < q := (by omega); have e1 := (hO1.cell (o := x) hg).trans (HX.out x hlt))
  go_ret
  exact ⟨x, hlt, rfl, hC1, hO1⟩

theorem l1Pick_any (p : Nat) (a : Option Addr) (n c g q d : Nat) (xs : List (List UInt8)) (h0 : 1 ≤ q) (hq : q ≤ 256) (w : World) (hC : Cur 102 w p a n c) (hg : g ≠ p)
    (hx : ∀ i, i < q → w.cell? ⟨g, i, none⟩ = some (S (xs.getD i []))) :
    Calls Try.prog 47 #[.pointer (some ⟨p, 0, none⟩), .slice (some ⟨g, 0, none⟩) q d] w fun e w' => ∃ x : Nat, x < q ∧ e = .returned (S (xs.getD x [])) ∧ Cur 102 w' p a n c ∧ Only p w w' := by
  have HX : Hid (∀ i, i < q → w.cell? ⟨g, i, none⟩ = some (S (xs.getD i []))) := hx
  clear hx
  go_enter Try.func47, Try.ntmps47
  go_wp2_with (go_at_call 45; refine (l1Below_any p a n c _ (by omega) (by omega) _ hC).mono ?_; rintro e w1 ⟨x, hx, rfl, hC1, hO1⟩; have hlt : x < q := (by omega); have e1 := (hO1.cell (o := x) hg).trans (HX.out x hlt))
  go_ret
  exact ⟨x, hlt, rfl, hC1, hO1⟩
end
end Go.Proofs.Ytmgofehafjogfaa
