/- Places by name: as data, in a map of the call's own, gone through. -/
import Derived.Test.YtmgofehafjogfabStr
import Derived.Test.YtmgofehafjogfabIntAt
import Derived.Test.YtmgofehafjogfabBoxN
import Derived.Below
import Derived.StringKeys
import Derived.Maps.OwnRows
import Derived.Maps.OwnSet
import Derived.Maps.RangeWalk
import Derived.Maps.Views
import Derived.Maps.GroupsBeside
namespace Go.Proofs.Ytmgofehafjogfab
open Go.ChangeShapes Go.WideShapes Go.ChangeAt Go.RowKit Go.Maps

theorem mapLawN : Keyed Try.prog 9 := string_keyed Try.underlying9
theorem zeroIntsN (w : World) : (zeroValue 23).run Try.prog w = .ok (.slice none 0 0) w := by kernel_rfl
theorem keyN {s : ByteArray} (h : s.size ≤ maxLen) : keyOf Try.prog 9 (.string s) = some (.string s.data.toList) := Go.WideMaps.keyOf_string_mk Try.underlying9 h
/-- At which of the first k places that name stands. -/
def posN (nm : List ByteArray) (k : Nat) (t : List UInt8) : List Int := ((List.range k).filter fun i => decide ((nm.getD i ⟨#[]⟩).data.toList = t)).map fun (i : Nat) => (i : Int)
theorem posN_zero (nm : List ByteArray) (t : List UInt8) : posN nm 0 t = [] := rfl
theorem posN_same {nm : List ByteArray} {k : Nat} {t : List UInt8} (h : (nm.getD k ⟨#[]⟩).data.toList = t) : posN nm (k + 1) t = posN nm k t ++ [(k : Int)] := by
  unfold posN
  rw [List.range_succ, List.filter_append, List.map_append, List.filter_cons_of_pos (by simpa using h)]
  rfl
theorem posN_other {nm : List ByteArray} {k : Nat} {t : List UInt8} (h : ¬ (nm.getD k ⟨#[]⟩).data.toList = t) : posN nm (k + 1) t = posN nm k t := by
  unfold posN
  rw [List.range_succ, List.filter_append, List.map_append, List.filter_cons_of_neg (by simpa using h)]
  simp
theorem posN_mem {nm : List ByteArray} {k : Nat} {t : List UInt8} {x : Int} : x ∈ posN nm k t ↔ ∃ i : Nat, i < k ∧ (nm.getD i ⟨#[]⟩).data.toList = t ∧ x = (i : Int) := by
  unfold posN
  rw [List.mem_map]
  constructor
  · rintro ⟨i, hi, rfl⟩
    obtain ⟨h1, h2⟩ := List.mem_filter.1 hi
    exact ⟨i, List.mem_range.1 h1, of_decide_eq_true h2, rfl⟩
  · rintro ⟨i, h1, h2, rfl⟩
    exact ⟨i, List.mem_filter.2 ⟨List.mem_range.2 h1, decide_eq_true h2⟩, rfl⟩
theorem posN_nodup (nm : List ByteArray) (k : Nat) (t : List UInt8) : (posN nm k t).Nodup := by
  unfold posN
  refine List.Pairwise.map _ (fun a b h e => h (by omega)) (List.Pairwise.filter _ List.nodup_range)
theorem posN_len (nm : List ByteArray) : ∀ (k : Nat) (t : List UInt8), (posN nm k t).length ≤ k
  | 0, t => Nat.le_refl _
  | k + 1, t => by
    have h := posN_len nm k t
    by_cases e : (nm.getD k ⟨#[]⟩).data.toList = t
    · rw [posN_same e, List.length_append]
      show _ + 1 ≤ _
      omega
    · rw [posN_other e]; omega
section
variable {H : Type}
def rowN : List Int → DataW H
  | [] => .nil
  | z :: r => .slice (lits .i64 (z :: r)) []
theorem rowN_pos {l : List Int} (h : l ≠ []) : rowN (H := H) l = .slice (lits .i64 l) [] := by
  cases l with
  | nil => exact absurd rfl h
  | cons z r => rfl
theorem litsN_inj {a b : List Int} (h : lits (H := H) .i64 a = lits .i64 b) : a = b := by
  unfold lits at h
  exact (List.map_inj_right (fun _ _ hxy => by cases hxy; rfl)).1 h
/-- The map has at each name these numbers. -/
def ND (D : DataW H) (F : List UInt8 → List Int) : Prop := IsMap D ∧ ∀ t : List UInt8, Maps.has D (.string t) = decide (F t ≠ []) ∧ D.atKey (.string t) .nil = rowN (F t)
theorem ND_zero (nm : List ByteArray) : ND (H := H) (.map []) (posN nm 0) := ⟨⟨[], rfl⟩, fun _ => ⟨rfl, rfl⟩⟩
theorem ND_zs {F : List UInt8 → List Int} {D : DataW H} {t : List UInt8} {w : World} {base : Nat} {v : Value} {zs : List Int} (h : ND D F) (hat : D.atKey (.string t) .nil = rowDatum .i64 v zs) (hoi : w.ownsInts base 3 .i64 v zs) : zs = F t := by
  rw [(h.2 t).2] at hat
  rcases hoi.datum (H := H) with ⟨h1, h2⟩ | h1
  · rw [h1] at hat
    rw [h2]
    cases hp : F t with
    | nil => rfl
    | cons z r => rw [hp] at hat; cases hat
  · rw [h1] at hat
    cases hp : F t with
    | nil => rw [hp] at hat; cases hat
    | cons z r =>
      rw [hp] at hat
      simp only [rowN, DataW.slice.injEq] at hat
      exact (litsN_inj hat.1).symm
theorem ND_step {nm : List ByteArray} {k : Nat} {D : DataW H} {s : ByteArray} (h : ND D (posN nm k)) (hs : nm.getD k ⟨#[]⟩ = s) (hz : s.size ≤ maxLen) : ND (D.put (.string s.data.toList) (.slice (lits .i64 (posN nm k s.data.toList ++ [(k : Int)])) [])) (posN nm (k + 1)) := by
  have hk : WideAt.IsKeyLit (.string s.data.toList) := mapLawN.key (keyN hz)
  refine ⟨h.1.put _ _, fun t => ?_⟩
  by_cases ht : s.data.toList = t
  · subst ht
    rw [posN_same (by rw [hs]), has_put_same h.1 hk, atKey_put_same h.1 hk, rowN_pos (by simp)]
    simp
  · have hne : Lit.string t ≠ .string s.data.toList := fun e => ht (by cases e; rfl)
    rw [posN_other (by rw [hs]; exact ht), has_put_other hne, atKey_put_other hne]
    exact h.2 t
theorem ND_del {F : List UInt8 → List Int} {D : DataW H} (h : ND D F) (s : List UInt8) : ND (D.del (.string s)) (fun t => if t = s then [] else F t) := by
  refine ⟨h.1.del _, fun t => ?_⟩
  dsimp only
  by_cases ht : t = s
  · subst ht
    rw [has_del_same, atKey_del_same]
    simp [rowN]
  · have hne : Lit.string t ≠ .string s := fun e => ht (by cases e; rfl)
    have e : (if t = s then ([] : List Int) else F t) = F t := if_neg ht
    simp only [e]
    rw [has_del_other hne, atKey_del_other hne]
    exact h.2 t
theorem ND_congr {F G : List UInt8 → List Int} {D : DataW H} (h : ND D F) (e : ∀ t, F t = G t) : ND D G := by
  rw [show G = F from funext fun t => (e t).symm]; exact h
end
theorem groupsN_map {H : Type} {w : World} {P : Program} {k : TypeId} {base : Nat} {e : TypeId} {q : IntKind} {b n : Nat} {D : DataW H} (h : w.ownsGroups P k base e q b n D) : w.ownsMap P k (rowElem w base e q) b n D := by
  obtain ⟨es, clock, hb, F, hs, hD, _⟩ := h
  exact ⟨es, clock, hb, F, hs, hD⟩
theorem groupsN_base {H : Type} {w : World} {P : Program} {k : TypeId} {base : Nat} {e : TypeId} {q : IntKind} {b n : Nat} {D : DataW H} (h : w.ownsGroups P k base e q b n D) : b < base := by
  obtain ⟨es, clock, hb, F, hs, hD, h1, _⟩ := h
  exact h1
/-- What the elements of the map are: lists of numbers of the call's own. -/
def RowsN (R : Value → Option (DataW Unit × List MemPlace)) (w : World) (base : Nat) : Prop :=
  ∀ v y, R v = some y → ∃ zs, w.ownsInts base 3 .i64 v zs ∧ y.1 = rowDatum .i64 v zs
/-- A map of the call's own that has at each name what F says. -/
def MapN (w : World) (b n base : Nat) (F : List UInt8 → List Int) : Prop :=
  ∃ (R : Value → Option (DataW Unit × List MemPlace)) (D : DataW Unit), w.ownsMap Try.prog 9 R b n D ∧ RowsN R w base ∧ b < base ∧ ND D F
theorem mapN_groups {w : World} {base b n : Nat} {D : DataW Unit} {F : List UInt8 → List Int} (h : w.ownsGroups Try.prog 9 base 3 .i64 b n D) (hD : ND D F) : MapN w b n base F :=
  ⟨_, D, groupsN_map h, fun v y hy => by obtain ⟨zs, ho, rfl⟩ := rowElem_inv hy; exact ⟨zs, ho, rfl⟩, groupsN_base h, hD⟩
theorem rowN_slice {w : World} {base : Nat} {v : Value} {zs : List Int} (h : w.ownsInts base 3 .i64 v zs) : ∃ p : Option Addr × Nat × Nat, v = .slice p.1 p.2.1 p.2.2 := by
  rcases h.1.2 with ⟨rfl, _⟩ | ⟨g, cap, cur, rfl, _⟩
  · exact ⟨(none, 0, 0), rfl⟩
  · exact ⟨(some ⟨g, 0, none⟩, zs.length, cap), rfl⟩
theorem rowN_len {w : World} {base : Nat} {a : Option Addr} {n c : Nat} {zs : List Int} (h : w.ownsInts base 3 .i64 (.slice a n c) zs) : n = zs.length := by
  rcases h.1.2 with ⟨h1, h2⟩ | ⟨g, cap, cur, h1, _⟩
  · simp only [Value.slice.injEq] at h1
    omega
  · simp only [Value.slice.injEq] at h1
    exact h1.2.1
theorem rowN_at {w : World} {base : Nat} {a : Option Addr} {n c : Nat} {zs : List Int} (h : w.ownsInts base 3 .i64 (.slice a n c) zs) (h0 : zs ≠ []) (hn : zs.length ≤ 1099511627776) : ∃ g, a = some ⟨g, 0, none⟩ ∧ IntAt w (some ⟨g, 0, none⟩) zs.length zs ∧ g < w.heap.size ∧ base ≤ g := by
  have hl := rowN_len h
  have h00 : 0 < zs.length := List.length_pos_iff.2 h0
  rcases h.1.2 with ⟨h1, h2⟩ | ⟨g, cap, cur, h1, h3⟩
  · omega
  · simp only [Value.slice.injEq] at h1
    obtain ⟨rfl, rfl, rfl⟩ := h1
    have h5 := h.1.lt g rfl
    exact ⟨g, rfl, own_intAt h.1 hn, h5.2, h5.1⟩
theorem atKeyN_has {H : Type} {D : DataW H} {k : Lit} (h : Maps.has D k = true) (z z' : DataW H) : D.atKey k z = D.atKey k z' := by
  cases D <;> try (simp [Maps.has] at h; done)
  rename_i es
  simp only [Maps.has] at h
  simp only [DataW.atKey]
  obtain ⟨p, hp, hk⟩ := List.any_eq_true.1 h
  cases hf : es.find? (fun p => p.1.sameKey k) with
  | some q => rfl
  | none => exact absurd hk (by simpa using List.find?_eq_none.1 hf p hp)
theorem stepN_row {F : List UInt8 → List Int} {D : DataW Unit} {R : Value → Option (DataW Unit × List MemPlace)} {w0 : World} {base : Nat} {t : List UInt8} {v : Value} {y : DataW Unit × List MemPlace} (hR : RowsN R w0 base) (hD : ND D F) (hv : R v = some y) (hat : ∀ zd, D.atKey (.string t) zd = y.1) :
    F t ≠ [] ∧ w0.ownsInts base 3 .i64 v (F t) := by
  have hh := has_true_of_atKey hat
  rw [(hD.2 t).1] at hh
  have hp := of_decide_eq_true hh
  obtain ⟨zs, ho, hy⟩ := hR v y hv
  have h1 := (hD.2 t).2
  rw [hat, hy] at h1
  refine ⟨hp, ?_⟩
  rcases ho.datum (H := Unit) with ⟨h2, _⟩ | h2
  · rw [h2, rowN_pos hp] at h1; cases h1
  · rw [h2, rowN_pos hp] at h1
    simp only [DataW.slice.injEq] at h1
    rw [← litsN_inj h1.1]
    exact ho
section
variable {P : Program} (w : World) {ops : Array Oper} {rest : List Oper} {o : Oper} {a : Act} {Q : Exit → Act → World → Prop}
/-- The step of a loop over such a map. -/
theorem wpList_next_names (hg : o.guard = none) (it : Operand) (hop : o.op = Op.next it false) (R : Value → Option (DataW Unit × List MemPlace)) {w0 : World} {base : Nat} (hR : RowsN R w0 base) {F : List UInt8 → List Int}
    (b r n : Nat) (D : DataW Unit) (hD : ND D F) (left : Lit → Bool) (cnt : Nat) (hit : a.eval it = .pointer (some ⟨r, 0, none⟩)) (h : w.ranges Try.prog 9 R b r n D left cnt)
    (hDone : cnt = 0 → (∀ kl, left kl = false) → wpList Try.prog ops Q rest (a.put o.dst (.tuple #[.bool false])) w)
    (hMore : ∀ (s : ByteArray) (p : Option Addr) (l c : Nat) (w' : World) (cnt' : Nat), s.size ≤ maxLen → left (.string s.data.toList) = true → F s.data.toList ≠ [] → w0.ownsInts base 3 .i64 (.slice p l c) (F s.data.toList) → w'.ranges Try.prog 9 R b r n D (fun z => left z && !z.sameKey (.string s.data.toList)) cnt' → cnt' < cnt →
      w.grownBy w' (some r) → w'.heap.size = w.heap.size → (Instr.entry (.pointer (some ⟨r, 0, none⟩))).run Try.prog w' = .ok (.tuple #[.string s, .slice p l c]) w' → wpList Try.prog ops Q rest (a.put o.dst (.tuple #[.bool true, .string s, .slice p l c])) w') :
    wpList Try.prog ops Q (o :: rest) a w :=
  wpList_next_ranges w hg it hop 9 mapLawN R Value.string (fun p : Option Addr × Nat × Nat => Value.slice p.1 p.2.1 p.2.2) (fun key kl hkey => by obtain ⟨s, rfl, _⟩ := Go.WideMaps.string_of_keyOf Try.underlying9 hkey; exact ⟨s, rfl⟩)
    (fun v y hv => by obtain ⟨zs, ho, _⟩ := hR v y hv; exact rowN_slice ho)
    b r n D left cnt hit h hDone (fun s c kl y w' cnt' hkey hlk hv hat hrg hlt hgr hsz hen => by
      obtain ⟨s', ex, rfl, hws⟩ := Go.WideMaps.string_of_keyOf Try.underlying9 hkey
      cases ex
      obtain ⟨h2, h3⟩ := stepN_row hR hD hv hat
      exact hMore s c.1 c.2.1 c.2.2 w' cnt' hws hlk h2 h3 hrg hlt hgr hsz hen)
end
theorem sameKeyN (x y : List UInt8) : (Lit.string x).sameKey (.string y) = decide (x = y) := by
  by_cases h : x = y
  · subst h
    simp [Lit.sameKey]
  · rw [Maps.sameKey_ne (fun e => h (by cases e; rfl))]
    simp [h]
theorem Below.grownN {w w' : World} (h : Below w.heap.size w w') : w.grownBy w' none := ⟨h.os, h.tape, h.output, h.size, fun i hi _ => h.block i hi⟩
/-- The look-up where the order is drawn. -/
theorem step_lookN {ops : Array Oper} {o : Oper} {a : Act} (w : World) {K : Act → World → Prop} {Q : Exit → Act → World → Prop} {E : Prop} (hg : o.guard = none) (m x : Operand) (hop : o.op = Op.lookup 66 m x false)
    (base b n : Nat) (D : DataW Unit) (hm : a.eval m = .map (some b)) (hown : w.ownsGroups Try.prog 9 base 3 .i64 b n D) (hn : n < maxLen) (s : ByteArray) (hx : a.eval x = .string s) (hs : s.size ≤ maxLen)
    (hK : ∀ v zs, D.atKey (.string s.data.toList) .nil = rowDatum .i64 v zs → w.ownsInts base 3 .i64 v zs → zs.length ≤ n → w.groupBack Try.prog 66 9 base 3 .i64 b n D (.string s) (.string s.data.toList) v → (∀ No : Nat → Prop, w.Shuns b No → ∀ g, v.ownBlock = some g → ¬ No g) → K (a.put o.dst v) w) :
    if Region.wanted o (yielded ops a.tmps) = true then Oper.wp Try.prog o a w K Q else E := by
  rw [if_pos (by simp [Region.wanted, hg])]
  obtain ⟨v, zs, hrun, hat, hoi, hzl, hback⟩ := hown.at mapLawN Try.underlying66 (zeroIntsN w) hn (keyN hs)
  have hsh : ∀ No : Nat → Prop, w.Shuns b No → ∀ g, v.ownBlock = some g → ¬ No g := by
    obtain ⟨es, clock, hb, F, _⟩ := hown
    rcases Maps.fit_look false mapLawN Try.underlying66 (zeroIntsN w) hb F (keyN hs) with ⟨hrun', _, _⟩ | ⟨e0, y, hm0, _, hrun', _, _, _⟩
    · rw [hrun] at hrun'
      obtain rfl : v = .slice none 0 0 := by simpa using hrun'
      intro _ _ g hg'
      cases hg'
    · rw [hrun] at hrun'
      obtain rfl : v = e0.val := by simpa using hrun'
      exact fun No hs g hg' => hs es clock hb e0 hm0 g hg'
  unfold Oper.wp
  simp [execOp, hop, hm, hx, hrun, Result.andThen]
  exact hK v zs hat hoi hzl hback hsh
/-- One number put behind those of the call's own, where the order is drawn. -/
theorem step_appN1 {ops : Array Oper} {o : Oper} {a : Act} (w : World) {K : Act → World → Prop} {Q : Exit → Act → World → Prop} {E : Prop} (hg : o.guard = none) (s x : Operand)
    (ho : o.op = .call { callee := .builtin .append, args := #[s, x], argTypes := #[23, 23] })
    (base : Nat) (v : Value) (zs : List Int) (hs : a.eval s = v) (hown : w.ownsInts base 3 .i64 v zs) (ad : Addr) (c : Nat) (y : Int) (hx : a.eval x = .slice (some ad) 1 c) (hc : w.cell? (ad.add 0) = some (.int .i64 y)) (hy : (Lit.int .i64 y).wf = true) (hle : zs.length ≤ 2097152) (hbase : base ≤ w.heap.size)
    (h : ∀ v' w', w'.ownsInts base 3 .i64 v' (zs ++ [y]) → w.grownBy w' v.ownBlock → (v'.ownBlock = v.ownBlock ∨ v'.ownBlock = some w.heap.size) → K (a.put o.dst v') w') :
    if Region.wanted o (yielded ops a.tmps) = true then Oper.wp Try.prog o a w K Q else E := by
  rw [if_pos (by simp [Region.wanted, hg])]
  obtain ⟨i0, hi, hz0, hz1, hz2⟩ := info_parts infoInt
  obtain ⟨v', w', hrun, h2, h3, _, h5⟩ := run_append_own_at (P := Try.prog) (w := w) base 23 o.type 3 i0 _ 1 8 Try.underlying23 hi hz0 hz1 hz2 rfl (by decide) v zs.length (zs.map (Value.int .i64)) hown.1 ad 1 c [.int .i64 y] rfl (fun j u hj => by
    match j, hj with
    | 0, hj => cases hj; exact hc
    | j + 1, hj => simp at hj) (fun u hu => by rw [List.mem_singleton.1 hu]; rfl) (by unfold maxLen; omega) (by omega) hbase
  unfold Oper.wp execOp
  simp only [ho, resolve, invoke, builtin, Sem.run_bind, Sem.run_pure, Result.andThen_ok, List.map_toArray, List.map_cons, List.map_nil, hs, hx, hrun]
  exact h v' w' (hown.appended h2 hy) h3 h5
/-- The store where the order is drawn. -/
theorem step_storeN {ops : Array Oper} {o : Oper} {a : Act} (w : World) {K : Act → World → Prop} {Q : Exit → Act → World → Prop} {E : Prop} (hg : o.guard = none) (m x v : Operand) (hop : o.op = Op.mapUpdate 66 m x v)
    {w0 : World} {base b n : Nat} {D : DataW Unit} {key : Value} {kl : Lit} {u v' : Value} {zs' : List Int}
    (hback : w0.groupBack Try.prog 66 9 base 3 .i64 b n D key kl u) (hm : a.eval m = .map (some b)) (hx : a.eval x = key) (hv : a.eval v = v')
    (hgr : w0.grownBy w u.ownBlock) (hown' : w.ownsInts base 3 .i64 v' zs') (hl' : zs'.length ≤ n + 1) (hloc : v'.ownBlock = u.ownBlock ∨ ∃ g, v'.ownBlock = some g ∧ w0.heap.size ≤ g)
    (hK : ∀ w2, w2.ownsGroups Try.prog 9 base 3 .i64 b (n + 1) (D.put kl (rowDatum .i64 v' zs')) → w.grownBy w2 (some b) → K (a.put o.dst undef) w2) :
    if Region.wanted o (yielded ops a.tmps) = true then Oper.wp Try.prog o a w K Q else E := by
  rw [if_pos (by simp [Region.wanted, hg])]
  obtain ⟨w2, hrun, r1, r2⟩ := hback w v' zs' hgr hown' hl' hloc
  unfold Oper.wp
  simp [execOp, hop, hm, hx, hv, hrun, Result.andThen]
  exact hK w2 r1 r2
end Go.Proofs.Ytmgofehafjogfab
