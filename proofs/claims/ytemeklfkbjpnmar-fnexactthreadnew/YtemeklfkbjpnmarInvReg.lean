/- A region that draws its order, walked by an invariant: each operation once, whatever came ahead of it; what ends the region (one operation that waits for all others) is walked once. Append at a step, and where the new list lies. No program. -/
import Derived.Test.YtemeklfkbjpnmarKRow
import Derived.Deep.RegionHeld3
import Derived.Maps.AppendAt
import Derived.Laws.AppendOwnNone
namespace Go.Proofs.Ytemeklfkbjpnmar
open Go.ChangeShapes Go.WideShapes Go.ChangeAt Go.RowKit

section
variable {P : Program} {ops : Array Oper} {Q : Exit → Act → World → Prop} {S : World → Prop} {R : Array Bool → Act → World → Prop} {z : Nat}

/-- The operations rs, each from whatever state meets R, lead to a state that meets R. -/
def StepAll (P : Program) (ops : Array Oper) (Q : Exit → Act → World → Prop) (R : Array Bool → Act → World → Prop) (rs : List Nat) : Prop :=
  ∀ i ∈ rs, ∀ l a w, R l a w → l.getD i true = false → (∀ o, ops[i]? = some o → ∀ e ∈ o.after, Region.binds .any e = true → l.getD e.on false = true) → wpOp P ops Q i (fun a' w' => R (l.setIfInBounds i true) a' w') a w
theorem StepAll.nil : StepAll P ops Q R [] := fun _ h => by cases h
theorem StepAll.skip {i : Nat} {rs : List Nat} (h : ∀ l a w, R l a w → l.getD i true = true) (hs : StepAll P ops Q R rs) : StepAll P ops Q R (i :: rs) := fun j hj => by
  rcases List.mem_cons.1 hj with rfl | hj
  · intro l a w hR hf _
    rw [h l a w hR] at hf
    cases hf
  · exact hs j hj
theorem StepAll.cons {i : Nat} {o : Oper} {rs : List Nat} (ho : ops[i]? = some o)
    (h : ∀ (K : Act → World → Prop) l a w, R l a w → l.getD i true = false → (∀ e ∈ o.after, Region.binds .any e = true → l.getD e.on false = true) → Shut (∀ a' w', R (l.setIfInBounds i true) a' w' → K a' w') →
      if Region.wanted o (yielded ops a.tmps) = true then Oper.wp P o a w K Q else K (a.put o.dst undef) w)
    (hs : StepAll P ops Q R rs) : StepAll P ops Q R (i :: rs) := fun j hj => by
  rcases List.mem_cons.1 hj with rfl | hj
  · intro l a w hR hf he
    exact wpOp_step ho fun K hK => h K l a w hR hf (he o ho) (fun a' w' h' => hK a' w' h')
  · exact hs j hj
/-- No operation waits for a later one. -/
def upward (ops : Array Oper) : Bool := (List.range ops.size).all fun i => ((ops[i]?).map (fun o => o.after.all fun e => !Region.binds .any e || decide (e.on < i))).getD true
theorem upward_at (h : upward ops = true) {i : Nat} {o : Oper} (ho : ops[i]? = some o) {e : Edge} (he : e ∈ o.after) (hb : Region.binds .any e = true) : e.on < i := by
  unfold upward at h
  have hlt : i < ops.size := (Array.getElem?_eq_some_iff.1 ho).1
  have h1 := List.all_eq_true.1 h i (List.mem_range.2 hlt)
  rw [ho] at h1
  simp only [Option.map_some, Option.getD_some, Array.all_eq_true_iff_forall_mem] at h1
  have h2 := h1 e he
  rw [hb] at h2
  simpa using h2
theorem all_listed {l : Array Bool} (hu : upward ops = true) (hr : Region.ready .any ops l = []) (hsz : l.size = ops.size) : ∀ i, i < ops.size → l.getD i false = true := by
  intro i
  induction i using Nat.strongRecOn with
  | _ i ih =>
    intro hi
    rcases hb : l.getD i false with _ | _
    · exfalso
      have hm : i ∈ Region.ready .any ops l := by
        refine mem_ready.2 ⟨?_, ops[i], Array.getElem?_eq_getElem hi, fun e he hbind => ?_⟩
        · rw [Array.getD_eq_getD_getElem?, Array.getElem?_eq_getElem (by omega)] at hb ⊢
          exact hb
        · have hlt := upward_at hu (Array.getElem?_eq_getElem hi) he hbind
          exact ih e.on hlt (by omega)
      rw [hr] at hm
      cases hm
    · rfl
/-- How many have not come up. -/
def unlisted (l : Array Bool) : Nat := l.toList.count false
theorem unlisted_set {l : Array Bool} {i : Nat} (h : l.getD i true = false) : unlisted (l.setIfInBounds i true) + 1 = unlisted l := by
  have hi : i < l.size := by
    rcases Nat.lt_or_ge i l.size with h1 | h1
    · exact h1
    · rw [Array.getD_eq_getD_getElem?, Array.getElem?_eq_none h1] at h; cases h
  have hv : l.toList[i]'(by simpa using hi) = false := by
    rw [Array.getD_eq_getD_getElem?, Array.getElem?_eq_getElem hi] at h
    simpa using h
  unfold unlisted
  rw [Array.toList_setIfInBounds, List.count_set (by simpa using hi), hv]
  have hpos : 0 < l.toList.count false := List.count_pos_iff.2 (by rw [← hv]; exact List.getElem_mem _)
  simp only [beq_self_eq_true, if_true, show ((true == false) = true) ↔ False by decide, if_false]
  omega
theorem size_set {l : Array Bool} {i : Nat} : (l.setIfInBounds i true).size = l.size := by simp
theorem getD_set_self {l : Array Bool} {i : Nat} (h : i < l.size) : (l.setIfInBounds i true).getD i false = true := by simp [Array.getD_eq_getD_getElem?, h]
theorem getD_of_true {l : Array Bool} {i : Nat} (h : i < l.size) (hb : l.getD i true = false) : l.getD i false = false := by
  rw [Array.getD_eq_getD_getElem?, Array.getElem?_eq_getElem h] at hb ⊢; exact hb

/-- Whatever has come up, what it waits for has come up. -/
def closedB (ops : Array Oper) (l : Array Bool) : Bool := (List.range ops.size).all fun i => !l.getD i false || ((ops[i]?).map (fun o => o.after.all fun e => !Region.binds .any e || l.getD e.on false)).getD true
def Closed (ops : Array Oper) (l : Array Bool) : Prop := ∀ i o, ops[i]? = some o → l.getD i false = true → ∀ e ∈ o.after, Region.binds .any e = true → l.getD e.on false = true
theorem closed_of {l : Array Bool} (h : closedB ops l = true) : Closed ops l := by
  intro i o ho hl e he hb
  unfold closedB at h
  have hlt : i < ops.size := (Array.getElem?_eq_some_iff.1 ho).1
  have h1 := List.all_eq_true.1 h i (List.mem_range.2 hlt)
  rw [ho, hl] at h1
  simp only [Bool.not_true, Bool.false_or, Option.map_some, Option.getD_some, Array.all_eq_true_iff_forall_mem] at h1
  have h2 := h1 e he
  rw [hb] at h2
  simpa using h2
theorem getD_mono {l : Array Bool} {i j : Nat} (h : l.getD j false = true) : (l.setIfInBounds i true).getD j false = true := by
  by_cases hij : i = j
  · subst hij
    have hi : i < l.size := by
      rcases Nat.lt_or_ge i l.size with h1 | h1
      · exact h1
      · rw [Array.getD_eq_getD_getElem?, Array.getElem?_eq_none h1] at h; cases h
    exact getD_set_self hi
  · rw [getD_set_ne false hij]; exact h
theorem Closed.step {l : Array Bool} {i : Nat} {o : Oper} (h : Closed ops l) (ho : ops[i]? = some o) (he : ∀ e ∈ o.after, Region.binds .any e = true → l.getD e.on false = true) : Closed ops (l.setIfInBounds i true) := by
  intro j oj hoj hl e hej hb
  by_cases hij : i = j
  · subst hij
    rw [ho] at hoj
    cases hoj
    exact getD_mono (he e hej hb)
  · rw [getD_set_ne false hij] at hl
    exact getD_mono (h j oj hoj hl e hej hb)
/-- A region that draws, whose operation z waits for all others: the others keep R, in whatever order; z ends it. -/
theorem wpAnyH_inv (hu : upward ops = true) (hS : ∀ l a w, R l a w → S w) (hz : z < ops.size)
    (hall : ∀ l o, Closed ops l → ops[z]? = some o → (∀ e ∈ o.after, Region.binds .any e = true → l.getD e.on false = true) → ∀ i, i < ops.size → i ≠ z → l.getD i false = true)
    (steps : StepAll P ops Q R ((List.range ops.size).filter (· != z)))
    (last : ∀ l a w, R l a w → (∀ i, i < ops.size → i ≠ z → l.getD i false = true) → wpOp P ops Q z (fun a' w' => S w' ∧ Q .normal a' w') a w) :
    ∀ fuel l a w, l.size = ops.size → unlisted l ≤ fuel → l.getD z true = false → closedB ops l = true → R l a w → wpAnyH P .any ops Q S fuel l a w := by
  have main : ∀ fuel l a w, l.size = ops.size → unlisted l ≤ fuel → l.getD z true = false → Closed ops l → R l a w → wpAnyH P .any ops Q S fuel l a w := by
    intro fuel
    induction fuel with
    | zero =>
      intro l a w hsz hc hzf _ hR
      have := unlisted_set hzf
      omega
    | succ fuel ih =>
      intro l a w hsz hc hzf hcl hR
      have hzd : l.getD z false = false := getD_of_true (by omega) hzf
      refine ⟨fun hr => ?_, fun i hi => ?_⟩
      · have := all_listed hu hr hsz z hz
        rw [this] at hzd; cases hzd
      · obtain ⟨hf, o, ho, he⟩ := mem_ready.1 hi
        have hlt : i < ops.size := (Array.getElem?_eq_some_iff.1 ho).1
        by_cases hiz : i = z
        · subst hiz
          have hl := hall l o hcl ho he
          refine wpOp_mono (fun a' w' h' => ⟨h'.1, wpAnyH_done ?_ h'.2 _⟩) (last l a w hR hl)
          cases hr : Region.ready .any ops (l.setIfInBounds i true) with
          | nil => rfl
          | cons x xs =>
            exfalso
            have hx : x ∈ Region.ready .any ops (l.setIfInBounds i true) := by rw [hr]; simp
            obtain ⟨hxf, ox, hox, _⟩ := mem_ready.1 hx
            have hxl : x < ops.size := (Array.getElem?_eq_some_iff.1 hox).1
            by_cases hxi : x = i
            · subst hxi
              have := getD_set_self (l := l) (i := x) (by omega)
              have h2 := getD_of_true (l := l.setIfInBounds x true) (i := x) (by simp; omega) hxf
              rw [this] at h2; cases h2
            · have h1 := hl x hxl hxi
              rw [getD_set_ne true (Ne.symm hxi)] at hxf
              have h2 := getD_of_true (l := l) (by omega) hxf
              rw [h1] at h2; cases h2
        · have hst := steps i (List.mem_filter.2 ⟨List.mem_range.2 hlt, by simpa using hiz⟩) l a w hR hf (fun o' ho' => by rw [ho] at ho'; cases ho'; exact he)
          refine wpOp_mono (fun a' w' h' => ⟨hS _ _ _ h', ih _ _ _ ?_ ?_ ?_ (hcl.step ho he) h'⟩) hst
          · rw [size_set]; exact hsz
          · have := unlisted_set hf; omega
          · rw [getD_set_ne true hiz]; exact hzf
  intro fuel l a w hsz hc hzf hcl hR
  exact main fuel l a w hsz hc hzf (closed_of hcl) hR
theorem last_step {o : Oper} (ho : ops[z]? = some o)
    (h : ∀ (K : Act → World → Prop) l a w, R l a w → (∀ i, i < ops.size → i ≠ z → l.getD i false = true) → Shut (∀ a' w', S w' → Q .normal a' w' → K a' w') → if Region.wanted o (yielded ops a.tmps) = true then Oper.wp P o a w K Q else K (a.put o.dst undef) w) :
    ∀ l a w, R l a w → (∀ i, i < ops.size → i ≠ z → l.getD i false = true) → wpOp P ops Q z (fun a' w' => S w' ∧ Q .normal a' w') a w :=
  fun l a w hR hl => wpOp_step ho fun K hK => h K l a w hR hl (fun a' w' hS hQ => hK a' w' ⟨hS, hQ⟩)
/-- j waits for i. -/
def edgeB (ops : Array Oper) (j i : Nat) : Bool := ((ops[j]?).map (fun o => o.after.any fun e => Region.binds .any e && e.on == i)).getD false
theorem edge_at {j i : Nat} (h : edgeB ops j i = true) : ∃ o, ops[j]? = some o ∧ ∃ e ∈ o.after, Region.binds .any e = true ∧ e.on = i := by
  unfold edgeB at h
  cases ho : ops[j]? with
  | none => rw [ho] at h; cases h
  | some o =>
    rw [ho] at h
    simp only [Option.map_some, Option.getD_some] at h
    obtain ⟨k, hk, he⟩ := Array.any_eq_true.1 h
    simp only [Bool.and_eq_true, beq_iff_eq] at he
    exact ⟨o, rfl, o.after[k], Array.getElem_mem _, he.1, he.2⟩
/-- All others are waited for by z, or by one that z waits for. -/
def waits (ops : Array Oper) (z : Nat) : Bool := (List.range ops.size).all fun i => i == z || edgeB ops z i || (List.range ops.size).any fun j => edgeB ops z j && edgeB ops j i
theorem waits_at (h : waits ops z = true) : ∀ l o, Closed ops l → ops[z]? = some o → (∀ e ∈ o.after, Region.binds .any e = true → l.getD e.on false = true) → ∀ i, i < ops.size → i ≠ z → l.getD i false = true := by
  intro l o hcl ho he i hi hne
  unfold waits at h
  have h1 := List.all_eq_true.1 h i (List.mem_range.2 hi)
  simp only [Bool.or_eq_true, beq_iff_eq] at h1
  have direct : ∀ j, edgeB ops z j = true → l.getD j false = true := fun j hj => by
    obtain ⟨o', ho', e, hem, hb, rfl⟩ := edge_at hj
    rw [ho] at ho'
    cases ho'
    exact he e hem hb
  rcases h1 with (h1 | h1) | h1
  · exact absurd h1 hne
  · exact direct i h1
  · obtain ⟨j, _, hj⟩ := List.any_eq_true.1 h1
    simp only [Bool.and_eq_true] at hj
    obtain ⟨o', ho', e, hem, hb, rfl⟩ := edge_at hj.2
    exact hcl j o' ho' (direct j hj.1) e hem hb
end

/-- append onto a list of the call's own, of a list that may be nil; the new list lies where the old one lay, or in a block that is new. -/
theorem wp_append_any {P : Program} {o : Oper} {a : Act} (w : World) {K : Act → World → Prop} {Q : Exit → Act → World → Prop} (s x : Operand) (t : TypeId)
    (ho : o.op = .call { callee := .builtin .append, args := #[s, x], argTypes := #[t, t] })
    (base : Nat) (e : TypeId) (i : TypeInfo) (z : Value) (size bytes : Nat) (ht : P.underlying t = some (.slice e)) (hi : P.info? e = some i) (hz : i.zero = some z)
    (hsize : i.size = size) (hby : i.bytes = bytes) (hzs : z.cells.size = size) (hsz : 0 < size)
    (v : Value) (n : Nat) (xs : List Value) (hs : a.eval s = v) (hown : w.ownsRow base e size v n xs)
    (ad : Option Addr) (m c : Nat) (fs : List Int) (hx : a.eval x = .slice ad m c) (hc : ad = none → c = 0) (hA : KAt size w ad m fs)
    (h63 : n + m ≤ maxLen) (hbytes : (n + m) * bytes ≤ 140737488355328) (hbase : base ≤ w.heap.size)
    (h : ∀ v' w', w'.ownsRow base e size v' (n + m) (xs ++ fs.map I) → w.grownBy w' v.ownBlock → (v'.ownBlock = v.ownBlock ∨ v'.ownBlock = some w.heap.size) → K (a.put o.dst v') w') :
    Oper.wp P o a w K Q := by
  cases ad with
  | none =>
    obtain ⟨rfl, rfl⟩ := hA.nilE
    obtain rfl : c = 0 := hc rfl
    have hrun := run_append_owned_none (P := P) (w := w) base t o.type e i size ht hi v n xs hown
    unfold Oper.wp
    simp [execOp, ho, resolve, invoke, builtin, hs, hx, hrun, Result.andThen]
    exact h v w (by simpa using hown) ⟨rfl, rfl, rfl, Nat.le_refl _, fun _ _ _ => rfl⟩ (.inl rfl)
  | some ad =>
    obtain ⟨v', w', hr, h2, h3, _, h5⟩ := run_append_own_at (P := P) w base t o.type e i z size bytes ht hi hz hsize hby hzs hsz v n xs hown ad m c (fs.map I) (by rw [List.length_map]; exact hA.1) hA.src newsK h63 hbytes hbase
    unfold Oper.wp execOp
    simp only [ho, resolve, invoke, builtin, Sem.run_bind, Sem.run_pure, Result.andThen_ok, List.map_toArray, List.map_cons, List.map_nil, hs, hx, hr]
    exact h v' w' h2 h3 h5
/-- As one step of a region that draws its order. -/
theorem step_append_any {P : Program} {ops : Array Oper} {o : Oper} {a : Act} (w : World) {K : Act → World → Prop} {Q : Exit → Act → World → Prop} {E : Prop} (hg : o.guard = none) (s x : Operand) (t : TypeId)
    (ho : o.op = .call { callee := .builtin .append, args := #[s, x], argTypes := #[t, t] })
    (base : Nat) (e : TypeId) (i : TypeInfo) (z : Value) (size bytes : Nat) (ht : P.underlying t = some (.slice e)) (hi : P.info? e = some i) (hz : i.zero = some z)
    (hsize : i.size = size) (hby : i.bytes = bytes) (hzs : z.cells.size = size) (hsz : 0 < size)
    (v : Value) (n : Nat) (xs : List Value) (hs : a.eval s = v) (hown : w.ownsRow base e size v n xs)
    (ad : Option Addr) (m c : Nat) (fs : List Int) (hx : a.eval x = .slice ad m c) (hc : ad = none → c = 0) (hA : KAt size w ad m fs)
    (h63 : n + m ≤ maxLen) (hbytes : (n + m) * bytes ≤ 140737488355328) (hbase : base ≤ w.heap.size)
    (h : ∀ v' w', w'.ownsRow base e size v' (n + m) (xs ++ fs.map I) → w.grownBy w' v.ownBlock → (v'.ownBlock = v.ownBlock ∨ v'.ownBlock = some w.heap.size) → K (a.put o.dst v') w') :
    if Region.wanted o (yielded ops a.tmps) = true then Oper.wp P o a w K Q else E := by
  rw [if_pos (by simp [Region.wanted, hg])]
  exact wp_append_any w s x t ho base e i z size bytes ht hi hz hsize hby hzs hsz v n xs hs hown ad m c fs hx hc hA h63 hbytes hbase h
/-- In the text's order. -/
theorem wpList_append_any {P : Program} {ops : Array Oper} {rest : List Oper} {o : Oper} {a : Act} (w : World) {Q : Exit → Act → World → Prop} (hg : o.guard = none) (s x : Operand) (t : TypeId)
    (ho : o.op = .call { callee := .builtin .append, args := #[s, x], argTypes := #[t, t] })
    (base : Nat) (e : TypeId) (i : TypeInfo) (z : Value) (size bytes : Nat) (ht : P.underlying t = some (.slice e)) (hi : P.info? e = some i) (hz : i.zero = some z)
    (hsize : i.size = size) (hby : i.bytes = bytes) (hzs : z.cells.size = size) (hsz : 0 < size)
    (v : Value) (n : Nat) (xs : List Value) (hs : a.eval s = v) (hown : w.ownsRow base e size v n xs)
    (ad : Option Addr) (m c : Nat) (fs : List Int) (hx : a.eval x = .slice ad m c) (hc : ad = none → c = 0) (hA : KAt size w ad m fs)
    (h63 : n + m ≤ maxLen) (hbytes : (n + m) * bytes ≤ 140737488355328) (hbase : base ≤ w.heap.size)
    (h : ∀ v' w', w'.ownsRow base e size v' (n + m) (xs ++ fs.map I) → w.grownBy w' v.ownBlock → (v'.ownBlock = v.ownBlock ∨ v'.ownBlock = some w.heap.size) → wpList P ops Q rest (a.put o.dst v') w') :
    wpList P ops Q (o :: rest) a w :=
  wpList_plain hg fun _ hK => wp_append_any w s x t ho base e i z size bytes ht hi hz hsize hby hzs hsz v n xs hs hown ad m c fs hx hc hA h63 hbytes hbase fun v' w' h2 h3 h4 => hK _ _ (h v' w' h2 h3 h4)
end Go.Proofs.Ytemeklfkbjpnmar
