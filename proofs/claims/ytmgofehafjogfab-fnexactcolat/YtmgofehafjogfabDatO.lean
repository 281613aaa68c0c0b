/- Data that came in, opened by its shape. -/
import Derived.Test.YtmgofehafjogfabDatI
import Derived.Deep.Slices
namespace Go.Proofs.Ytmgofehafjogfab
open Go.ChangeShapes Go.WideShapes Go.ChangeAt Go.RowKit Go.Joins

/-- The type's cells have these shapes. -/
inductive Flat (P : Program) : TypeId → List Ty → Prop
  | i (t : TypeId) (h : P.underlying t = some (.int .i64)) : Flat P t [.i]
  | b (t : TypeId) (h : P.underlying t = some .bool) : Flat P t [.b]
  | s (t : TypeId) (h : P.underlying t = some .string) : Flat P t [.s]
  | l (t e T : TypeId) (k : Nat) (fs : List Ty) (h : P.underlying t = some (.slice e)) (hk : fs.length = k) (hk0 : 0 < k) (hc : P.cellsOf e = k) (hf : Flat P e fs) : Flat P t [.l T k fs]
  | st (t : TypeId) (Fs : Array Field) (gs : List (List Ty)) (h : P.underlying t = some (.struct Fs)) (hl : gs.length = Fs.size) (hc : P.cellsOf t = gs.flatten.length)
      (ho : ∀ (i : Nat) (f : Field) (g : List Ty), Fs[i]? = some f → gs[i]? = some g → f.offset = (gs.take i).flatten.length ∧ P.cellsOf f.type = g.length) (hf : ∀ (i : Nat) (f : Field) (g : List Ty), Fs[i]? = some f → gs[i]? = some g → Flat P f.type g) : Flat P t gs.flatten
theorem InL.app {w : World} : ∀ {vs : List Value} {cs : List Cel} {vs' : List Value} {cs' : List Cel}, InL w vs cs → InL w vs' cs' → InL w (vs ++ vs') (cs ++ cs')
  | vs, [], _, _, h, h' => by obtain rfl := h.nilE; exact h'
  | vs, c :: cs, _, _, h, h' => by
    obtain ⟨v, vs, rfl, h0, h1⟩ := h.consE
    exact InL.cons h0 (InL.app h1 h')
theorem HasL.mk {c : Cel} {t : Ty} {cs : List Cel} {fs : List Ty} (h : Has c t) (hs : HasL cs fs) : HasL (c :: cs) (t :: fs) := by
  refine ⟨by simp [hs.1], fun j c' t' hc ht => ?_⟩
  cases j with
  | zero => simp at hc ht; subst hc ht; exact h
  | succ j => simp at hc ht; exact hs.2 j c' t' hc ht
theorem HasL.none : HasL [] [] := ⟨rfl, fun j c t hc _ => by simp at hc⟩
theorem HasL.app : ∀ {cs : List Cel} {fs : List Ty} {cs' : List Cel} {fs' : List Ty}, HasL cs fs → HasL cs' fs' → HasL (cs ++ cs') (fs ++ fs')
  | cs, [], _, _, h, h' => by obtain rfl := h.nil; exact h'
  | cs, t :: fs, _, _, h, h' => by
    obtain ⟨c, cs, rfl, h0, h1⟩ := h.cons
    exact HasL.mk h0 (HasL.app h1 h')
/-- The numbers are such as an int can be. -/
inductive WfC : Cel → Prop
  | i (x : Int) (h : (Lit.int .i64 x).wf = true) : WfC (.i x)
  | b (x : Bool) : WfC (.b x)
  | s (x : ByteArray) : WfC (.s x)
  | l (T : TypeId) (k n : Nat) (cs : List Cel) (h : ∀ (j : Nat) (c : Cel), cs[j]? = some c → WfC c) : WfC (.l T k n cs)
def WfL (ds : List Cel) : Prop := ∀ (j : Nat) (c : Cel), ds[j]? = some c → WfC c
theorem WfL.nil : WfL [] := fun j c h => by simp at h
theorem WfL.cons {c : Cel} {ds : List Cel} (h : WfC c) (hs : WfL ds) : WfL (c :: ds) := fun j d hd => by
  cases j with
  | zero => simp at hd; subst hd; exact h
  | succ j => exact hs j d (by simpa using hd)
theorem WfL.app {ds es : List Cel} (h : WfL ds) (h' : WfL es) : WfL (ds ++ es) := fun j c hc => by
  by_cases hj : j < ds.length
  · rw [List.getElem?_append_left hj] at hc; exact h j c hc
  · rw [List.getElem?_append_right (by omega)] at hc; exact h' _ c hc
theorem parts_in {W : World} : ∀ (gs : List (List Ty)) (cs : List Value), cs.length = gs.flatten.length → (∀ (i : Nat) (g : List Ty), gs[i]? = some g → ∃ d, InL W ((cs.drop (gs.take i).flatten.length).take g.length) d ∧ HasL d g ∧ WfL d) → ∃ ds, InL W cs ds ∧ HasL ds gs.flatten ∧ WfL ds
  | [], cs, hl, _ => by
    obtain rfl : cs = [] := List.length_eq_zero_iff.1 (by simpa using hl)
    exact ⟨[], InL.nil, HasL.none, WfL.nil⟩
  | g :: gs, cs, hl, h => by
    simp only [List.flatten_cons, List.length_append] at hl
    obtain ⟨d, h1, h2, h3⟩ := h 0 g rfl
    obtain ⟨ds, g1, g2, g3⟩ := parts_in gs (cs.drop g.length) (by rw [List.length_drop]; omega) (fun i g' hg => by
      have := h (i + 1) g' (by simpa using hg)
      simpa [List.drop_drop] using this)
    refine ⟨d ++ ds, ?_, ?_, h3.app g3⟩
    · have := InL.app h1 g1
      simpa using this
    · simpa using HasL.app h2 g2
theorem flat_len {α : Type} {f : Nat → List α} {k : Nat} : ∀ (n : Nat), (∀ i, i < n → (f i).length = k) → ((List.range n).flatMap f).length = n * k
  | 0, _ => by simp
  | n + 1, h => by
    rw [List.range_succ, List.flatMap_append, List.length_append, flat_len n (fun i hi => h i (by omega))]
    simp [h n (by omega), Nat.succ_mul]
theorem flat_at {α : Type} {f : Nat → List α} {k : Nat} : ∀ (n : Nat), (∀ i, i < n → (f i).length = k) → ∀ i r, i < n → r < k → ((List.range n).flatMap f)[i * k + r]? = (f i)[r]?
  | 0, _, i, _, hi, _ => by omega
  | n + 1, h, i, r, hi, hr => by
    have hl := flat_len n (fun i hi => h i (by omega)) (f := f)
    rw [List.range_succ, List.flatMap_append]
    by_cases hin : i < n
    · have hle : i * k + k ≤ n * k := by rw [← Nat.succ_mul]; exact Nat.mul_le_mul_right k hin
      rw [List.getElem?_append_left (by omega)]
      exact flat_at n (fun i hi => h i (by omega)) i r hin hr
    · obtain rfl : i = n := by omega
      rw [List.getElem?_append_right (by omega), hl, Nat.add_sub_cancel_left]
      simp
theorem spot_none {w : World} {a : Addr} {v : Value} (h : w.cell? a = some v) : a.spot = none := by
  unfold World.cell? at h
  split at h
  · split at h
    · cases h
    · rename_i hs
      cases e : a.spot with
      | none => rfl
      | some x => rw [e] at hs; exact absurd rfl hs
  · cases h
theorem open_flat {H : Type} {enc : TypeId × Value → H} {P : Program} {W : World} {base : Nat} {held : Bool} {t : TypeId} {fs : List Ty} (hf : Flat P t fs) : ∀ {fuel : Nat} {cs : List Value} {x : DataW H × List MemPlace}, DataW.trod enc P W base (fun _ => true) held fuel t cs = some x → ∃ ds, InL W cs ds ∧ HasL ds fs ∧ WfL ds := by
  induction hf with
  | i t h =>
    intro fuel cs x hx
    obtain ⟨z, rfl, _, hz⟩ := DataW.trod_int h hx
    exact ⟨[.i z], InL.cons (.i z) InL.nil, HasL.mk (.i z) HasL.none, WfL.cons (.i z hz) WfL.nil⟩
  | b t h =>
    intro fuel cs x hx
    obtain ⟨z, rfl, _⟩ := DataW.trod_bool h hx
    exact ⟨[.b z], InL.cons (.b z) InL.nil, HasL.mk (.b z) HasL.none, WfL.cons (.b z) WfL.nil⟩
  | s t h =>
    intro fuel cs x hx
    obtain ⟨z, rfl, _, hz⟩ := DataW.trod_string h hx
    exact ⟨[.s z], InL.cons (.s z (by unfold maxLen at hz; omega)) InL.nil, HasL.mk (.s z) HasL.none, WfL.cons (.s z) WfL.nil⟩
  | l t e T k fs h hk hk0 hc hf ih =>
    intro fuel cs x hx
    rcases Go.Deep.open_slice h hx with ⟨rfl, _⟩ | ⟨a, len, cap, m, fu, D, Pl, rfl, hb, hl, hm, hmm, _, hx⟩
    · exact ⟨[.l T k 0 []], InL.cons (.l none T k 0 0 [] [] (by simp) (by simp) (by omega) (.inl rfl) (fun j v c hv _ => by simp at hv)) InL.nil, HasL.mk (.l T k 0 [] fs hk (by simp) (fun j c t hc _ => by simp at hc)) HasL.none, WfL.cons (.l T k 0 [] (fun j c h => by simp at h)) WfL.nil⟩
    · have hlm : len ≤ m := by rw [hmm]; split <;> omega
      have each : ∀ i, i < len → ∃ z : List Value × List Cel, z.1.length = k ∧ (∀ r, r < k → W.cell? (a.add (i * k + r)) = z.1[r]?) ∧ InL W z.1 z.2 ∧ HasL z.2 fs ∧ WfL z.2 := by
        intro i hi
        obtain ⟨cs', h1, h2⟩ := hx i (by omega)
        rw [hc] at h1
        obtain ⟨_, hlen, hcell⟩ := World.cells?_some h1
        obtain ⟨ds, g1, g2, g3⟩ := ih h2
        refine ⟨(cs', ds), hlen, fun r hr => ?_, g1, g2, g3⟩
        have := hcell r (by omega)
        rw [Go.Deep.add_add] at this
        rw [this, List.getElem?_eq_getElem (by omega)]
      obtain ⟨z, hz⟩ := Go.Deep.choose_lt each
      have l1 : ∀ i, i < len → (z i).1.length = k := fun i hi => (hz i hi).1
      have l2 : ∀ i, i < len → (z i).2.length = k := fun i hi => by rw [(hz i hi).2.2.2.1.1, hk]
      refine ⟨[.l T k len ((List.range len).flatMap fun i => (z i).2)], InL.cons (.l (some a) T k len cap _ ((List.range len).flatMap fun i => (z i).1) (flat_len len l1) (flat_len len l2) (by unfold maxLen at hm; omega) ?_ (fun j v c hv hc => ?_)) InL.nil, HasL.mk (.l T k len _ fs hk (flat_len len l2) (fun j c t hc ht => ?_)) HasL.none, WfL.cons (.l T k len _ (fun j c hc => ?_)) WfL.nil⟩
      · by_cases h0 : len = 0
        · exact .inl h0
        · have hc0 := (hz 0 (by omega)).2.1 0 (by omega)
          rw [List.getElem?_eq_getElem (by rw [l1 0 (by omega)]; omega)] at hc0
          have hs := spot_none hc0
          obtain ⟨bl, off, sp⟩ := a
          have hs : sp = none := by simpa [Addr.add] using hs
          subst hs
          refine .inr ⟨bl, off, rfl, fun j hj => ?_⟩
          have hjd : j = (j / k) * k + j % k := by rw [Nat.mul_comm]; exact (Nat.div_add_mod j k).symm
          have hd : j / k < len := Nat.div_lt_of_lt_mul (by rwa [Nat.mul_comm])
          have hm' : j % k < k := Nat.mod_lt _ (by omega)
          have := (hz (j / k) hd).2.1 (j % k) hm'
          rw [← hjd] at this
          rw [show (⟨bl, off, none⟩ : Addr).add j = ⟨bl, off + j, none⟩ by simp [Addr.add]] at this
          rw [this]
          conv => rhs; rw [hjd]
          exact (flat_at len l1 _ _ hd hm').symm
      · have hj : j < len * k := by have := (List.getElem?_eq_some_iff.1 hv).1; rwa [flat_len len l1] at this
        have hjd : j = (j / k) * k + j % k := by rw [Nat.mul_comm]; exact (Nat.div_add_mod j k).symm
        have hd : j / k < len := Nat.div_lt_of_lt_mul (by rwa [Nat.mul_comm])
        have hm' : j % k < k := Nat.mod_lt _ hk0
        rw [hjd, flat_at len l1 _ _ hd hm'] at hv
        rw [hjd, flat_at len l2 _ _ hd hm'] at hc
        exact (hz (j / k) hd).2.2.1.2 _ v c hv hc
      · have hj : j < len * k := by have := (List.getElem?_eq_some_iff.1 hc).1; rwa [flat_len len l2] at this
        have hjd : j = (j / k) * k + j % k := by rw [Nat.mul_comm]; exact (Nat.div_add_mod j k).symm
        have hd : j / k < len := Nat.div_lt_of_lt_mul (by rwa [Nat.mul_comm])
        have hm' : j % k < k := Nat.mod_lt _ hk0
        rw [hjd, flat_at len l2 _ _ hd hm'] at hc
        exact (hz (j / k) hd).2.2.2.1.2 _ c t hc ht
      · have hj : j < len * k := by have := (List.getElem?_eq_some_iff.1 hc).1; rwa [flat_len len l2] at this
        have hjd : j = (j / k) * k + j % k := by rw [Nat.mul_comm]; exact (Nat.div_add_mod j k).symm
        have hd : j / k < len := Nat.div_lt_of_lt_mul (by rwa [Nat.mul_comm])
        have hm' : j % k < k := Nat.mod_lt _ hk0
        rw [hjd, flat_at len l2 _ _ hd hm'] at hc
        exact (hz (j / k) hd).2.2.2.2 _ c hc
  | st t Fs gs h hl hc ho hf ih =>
    intro fuel cs x hx
    obtain ⟨xs, n, _, _, hlen, hxl, hxf⟩ := DataW.trod_struct h hx
    refine parts_in gs cs (by omega) fun i g hg => ?_
    have hi : i < Fs.size := by have := (List.getElem?_eq_some_iff.1 hg).1; omega
    have hF : Fs[i]? = some Fs[i] := Array.getElem?_eq_getElem hi
    have h1 := hxf i _ hF
    rw [(ho i _ g hF hg).1, (ho i _ g hF hg).2, List.getElem?_eq_getElem (by omega)] at h1
    exact ih i _ g hF hg h1
/-- A struct that came in, opened. -/
theorem open_st {H : Type} {enc : TypeId × Value → H} {P : Program} {W : World} {base b0 : Nat} {held : Bool} {t : TypeId} {Fs : Array Field} {fs : List Ty} {v : Value} {d : DataW H} {p : List MemPlace} (hu : P.underlying t = some (.struct Fs)) (hf : Flat P t fs)
    (hv : Value.okWide P W .any b0 t v) (h : DataW.Trod enc P W base (fun _ => true) held t v d p) : ∃ vs ds, v = .agg vs.toArray ∧ InL W vs ds ∧ HasL ds fs ∧ WfL ds := by
  obtain ⟨cs, rfl, _⟩ := okWide_struct hu hv
  obtain ⟨fuel, hx⟩ := h
  obtain ⟨ds, h1, h2, h3⟩ := open_flat hf hx
  exact ⟨cs.toList, ds, by simp, by simpa [Value.cells] using h1, h2, h3⟩
end Go.Proofs.Ytmgofehafjogfab
