/- Texts joined: DatO, SpecWord, SpecDesc, SpecMem, MchG, MchC, MchB, AllowM, ImplHow, AfterOk, AfterD, Jud, SpecMt, Parts, Shelf, ImplDig. -/
import Derived.Test.YtkbodiggdajbeaaGreatDoorMT05
import Derived.Deep.Slices
import Derived.Test.YtkbodiggdajbeaaGreatDoorMT02
import Derived.Test.YtkbodiggdajbeaaGreatDoorMT03
import Derived.Deep.QuietTactic
import Derived.BigQuiet
import Derived.Test.YtkbodiggdajbeaaGreatDoorMT04
import Derived.Test.YtkbodiggdajbeaaGreatDoorMT01
import Derived.Handy
import Derived.Deep.Cut
import Derived.WalkKit
import Derived.WalkSmall
import Derived.ProofKit
import Derived.Below
import Derived.Lib.Builder
import Derived.Lib.ItoaNum
import Derived.Shelf.Strings.Builder1
import Derived.Shelf.Strings.Builder2
import Derived.Shelf.Strings.OnBuilder
import Derived.Shelf.Strconv.Itoa0
import Derived.Shelf.Strconv.Itoa1
import Derived.Shelf.LaysM
import Derived.Shelf.Strconv.Itoa2
import Derived.Shelf.Strconv.Itoa3
import Derived.Test.YtkbodiggdajbeaaGreatDoorProg
import Derived.Test.YtkbodiggdajbeaaGreatDoorRows
import Derived.Lib.LaidTab
import Derived.Lib.SmallJoins
/- Data that came in, opened by its shape. -/
namespace Go.Proofs.YtkbodiggdajbeaaGreatDoor
open Go.ChangeShapes Go.WideShapes Go.ChangeAt Go.RowKit Go.Joins

/-- The type's cells have these shapes. -/
inductive Flat (P : Program) : TypeId → List Ty → Prop
  | i (t : TypeId) (h : P.underlying t = some (.int .i64)) : Flat P t [.i]
  | b (t : TypeId) (h : P.underlying t = some .bool) : Flat P t [.b]
  | s (t : TypeId) (h : P.underlying t = some .string) : Flat P t [.s]
  | l (t e T : TypeId) (k : Nat) (fs : List Ty) (h : P.underlying t = some (.slice e)) (hk : fs.length = k) (hk0 : 0 < k) (hc : P.cellsOf e = k) (hf : Flat P e fs) : Flat P t [.l T k fs]
  | st (t : TypeId) (Fs : Array Field) (gs : List (List Ty)) (h : P.underlying t = some (.struct Fs)) (hl : gs.length = Fs.size) (hc : P.cellsOf t = gs.flatten.length)
      (ho : ∀ (i : Nat) (f : Field) (g : List Ty), Fs[i]? = some f → gs[i]? = some g → f.offset = (gs.take i).flatten.length ∧ P.cellsOf f.type = g.length) (hf : ∀ (i : Nat) (f : Field) (g : List Ty), Fs[i]? = some f → gs[i]? = some g → Flat P f.type g) : Flat P t gs.flatten
theorem InL.app {w : World} : ∀ {vs : List Value} {cs : List Cel} {vs' : List Value} {cs' : List Cel}, InL w vs cs → InL w vs' cs' → InL w (vs ++ vs') (cs ++ cs')
  | vs, [], _, _, h, h' => by obtain rfl := h.nilE; exact h'
  | vs, c :: cs, _, _, h, h' => by
    obtain ⟨v, vs, rfl, h0, h1⟩ := h.consE
    exact InL.cons h0 (InL.app h1 h')
theorem HasL.mk {c : Cel} {t : Ty} {cs : List Cel} {fs : List Ty} (h : Has c t) (hs : HasL cs fs) : HasL (c :: cs) (t :: fs) := by
  refine ⟨by simp [hs.1], fun j c' t' hc ht => ?_⟩
  cases j with
  | zero => simp at hc ht; subst hc ht; exact h
  | succ j => simp at hc ht; exact hs.2 j c' t' hc ht
theorem HasL.none : HasL [] [] := ⟨rfl, fun j c t hc _ => by simp at hc⟩
theorem HasL.app : ∀ {cs : List Cel} {fs : List Ty} {cs' : List Cel} {fs' : List Ty}, HasL cs fs → HasL cs' fs' → HasL (cs ++ cs') (fs ++ fs')
  | cs, [], _, _, h, h' => by obtain rfl := h.nil; exact h'
  | cs, t :: fs, _, _, h, h' => by
    obtain ⟨c, cs, rfl, h0, h1⟩ := h.cons
    exact HasL.mk h0 (HasL.app h1 h')
/-- The numbers are such as an int can be. -/
inductive WfC : Cel → Prop
  | i (x : Int) (h : (Lit.int .i64 x).wf = true) : WfC (.i x)
  | b (x : Bool) : WfC (.b x)
  | s (x : ByteArray) : WfC (.s x)
  | l (T : TypeId) (k n : Nat) (cs : List Cel) (h : ∀ (j : Nat) (c : Cel), cs[j]? = some c → WfC c) : WfC (.l T k n cs)
def WfL (ds : List Cel) : Prop := ∀ (j : Nat) (c : Cel), ds[j]? = some c → WfC c
theorem WfL.nil : WfL [] := fun j c h => by simp at h
theorem WfL.cons {c : Cel} {ds : List Cel} (h : WfC c) (hs : WfL ds) : WfL (c :: ds) := fun j d hd => by
  cases j with
  | zero => simp at hd; subst hd; exact h
  | succ j => exact hs j d (by simpa using hd)
theorem WfL.app {ds es : List Cel} (h : WfL ds) (h' : WfL es) : WfL (ds ++ es) := fun j c hc => by
  by_cases hj : j < ds.length
  · rw [List.getElem?_append_left hj] at hc; exact h j c hc
  · rw [List.getElem?_append_right (by omega)] at hc; exact h' _ c hc
theorem parts_in {W : World} : ∀ (gs : List (List Ty)) (cs : List Value), cs.length = gs.flatten.length → (∀ (i : Nat) (g : List Ty), gs[i]? = some g → ∃ d, InL W ((cs.drop (gs.take i).flatten.length).take g.length) d ∧ HasL d g ∧ WfL d) → ∃ ds, InL W cs ds ∧ HasL ds gs.flatten ∧ WfL ds
  | [], cs, hl, _ => by
    obtain rfl : cs = [] := List.length_eq_zero_iff.1 (by simpa using hl)
    exact ⟨[], InL.nil, HasL.none, WfL.nil⟩
  | g :: gs, cs, hl, h => by
    simp only [List.flatten_cons, List.length_append] at hl
    obtain ⟨d, h1, h2, h3⟩ := h 0 g rfl
    obtain ⟨ds, g1, g2, g3⟩ := parts_in gs (cs.drop g.length) (by rw [List.length_drop]; omega) (fun i g' hg => by
      have := h (i + 1) g' (by simpa using hg)
      simpa [List.drop_drop] using this)
    refine ⟨d ++ ds, ?_, ?_, h3.app g3⟩
    · have := InL.app h1 g1
      simpa using this
    · simpa using HasL.app h2 g2
theorem flat_len {α : Type} {f : Nat → List α} {k : Nat} : ∀ (n : Nat), (∀ i, i < n → (f i).length = k) → ((List.range n).flatMap f).length = n * k
  | 0, _ => by simp
  | n + 1, h => by
    rw [List.range_succ, List.flatMap_append, List.length_append, flat_len n (fun i hi => h i (by omega))]
    simp [h n (by omega), Nat.succ_mul]
theorem flat_at {α : Type} {f : Nat → List α} {k : Nat} : ∀ (n : Nat), (∀ i, i < n → (f i).length = k) → ∀ i r, i < n → r < k → ((List.range n).flatMap f)[i * k + r]? = (f i)[r]?
  | 0, _, i, _, hi, _ => by omega
  | n + 1, h, i, r, hi, hr => by
    have hl := flat_len n (fun i hi => h i (by omega)) (f := f)
    rw [List.range_succ, List.flatMap_append]
    by_cases hin : i < n
    · have hle : i * k + k ≤ n * k := by rw [← Nat.succ_mul]; exact Nat.mul_le_mul_right k hin
      rw [List.getElem?_append_left (by omega)]
      exact flat_at n (fun i hi => h i (by omega)) i r hin hr
    · obtain rfl : i = n := by omega
      rw [List.getElem?_append_right (by omega), hl, Nat.add_sub_cancel_left]
      simp
theorem spot_none {w : World} {a : Addr} {v : Value} (h : w.cell? a = some v) : a.spot = none := by
  unfold World.cell? at h
  split at h
  · split at h
    · cases h
    · rename_i hs
      cases e : a.spot with
      | none => rfl
      | some x => rw [e] at hs; exact absurd rfl hs
  · cases h
theorem open_flat {H : Type} {enc : TypeId × Value → H} {P : Program} {W : World} {base : Nat} {held : Bool} {t : TypeId} {fs : List Ty} (hf : Flat P t fs) : ∀ {fuel : Nat} {cs : List Value} {x : DataW H × List MemPlace}, DataW.trod enc P W base (fun _ => true) held fuel t cs = some x → ∃ ds, InL W cs ds ∧ HasL ds fs ∧ WfL ds := by
  induction hf with
  | i t h =>
    intro fuel cs x hx
    obtain ⟨z, rfl, _, hz⟩ := DataW.trod_int h hx
    exact ⟨[.i z], InL.cons (.i z) InL.nil, HasL.mk (.i z) HasL.none, WfL.cons (.i z hz) WfL.nil⟩
  | b t h =>
    intro fuel cs x hx
    obtain ⟨z, rfl, _⟩ := DataW.trod_bool h hx
    exact ⟨[.b z], InL.cons (.b z) InL.nil, HasL.mk (.b z) HasL.none, WfL.cons (.b z) WfL.nil⟩
  | s t h =>
    intro fuel cs x hx
    obtain ⟨z, rfl, _, _⟩ := DataW.trod_string h hx
    exact ⟨[.s z], InL.cons (.s z) InL.nil, HasL.mk (.s z) HasL.none, WfL.cons (.s z) WfL.nil⟩
  | l t e T k fs h hk hk0 hc hf ih =>
    intro fuel cs x hx
    rcases Go.Deep.open_slice h hx with ⟨rfl, _⟩ | ⟨a, len, cap, m, fu, D, Pl, rfl, hb, hl, hm, hmm, _, hx⟩
    · exact ⟨[.l T k 0 []], InL.cons (.l none T k 0 0 [] [] (by simp) (by simp) (by omega) (.inl rfl) (fun j v c hv _ => by simp at hv)) InL.nil, HasL.mk (.l T k 0 [] fs hk (by simp) (fun j c t hc _ => by simp at hc)) HasL.none, WfL.cons (.l T k 0 [] (fun j c h => by simp at h)) WfL.nil⟩
    · have hlm : len ≤ m := by rw [hmm]; split <;> omega
      have each : ∀ i, i < len → ∃ z : List Value × List Cel, z.1.length = k ∧ (∀ r, r < k → W.cell? (a.add (i * k + r)) = z.1[r]?) ∧ InL W z.1 z.2 ∧ HasL z.2 fs ∧ WfL z.2 := by
        intro i hi
        obtain ⟨cs', h1, h2⟩ := hx i (by omega)
        rw [hc] at h1
        obtain ⟨_, hlen, hcell⟩ := World.cells?_some h1
        obtain ⟨ds, g1, g2, g3⟩ := ih h2
        refine ⟨(cs', ds), hlen, fun r hr => ?_, g1, g2, g3⟩
        have := hcell r (by omega)
        rw [Go.Deep.add_add] at this
        rw [this, List.getElem?_eq_getElem (by omega)]
      obtain ⟨z, hz⟩ := Go.Deep.choose_lt each
      have l1 : ∀ i, i < len → (z i).1.length = k := fun i hi => (hz i hi).1
      have l2 : ∀ i, i < len → (z i).2.length = k := fun i hi => by rw [(hz i hi).2.2.2.1.1, hk]
      refine ⟨[.l T k len ((List.range len).flatMap fun i => (z i).2)], InL.cons (.l (some a) T k len cap _ ((List.range len).flatMap fun i => (z i).1) (flat_len len l1) (flat_len len l2) (by unfold maxLen at hm; omega) ?_ (fun j v c hv hc => ?_)) InL.nil, HasL.mk (.l T k len _ fs hk (flat_len len l2) (fun j c t hc ht => ?_)) HasL.none, WfL.cons (.l T k len _ (fun j c hc => ?_)) WfL.nil⟩
      · by_cases h0 : len = 0
        · exact .inl h0
        · have hc0 := (hz 0 (by omega)).2.1 0 (by omega)
          rw [List.getElem?_eq_getElem (by rw [l1 0 (by omega)]; omega)] at hc0
          have hs := spot_none hc0
          obtain ⟨bl, off, sp⟩ := a
          have hs : sp = none := by simpa [Addr.add] using hs
          subst hs
          refine .inr ⟨bl, off, rfl, fun j hj => ?_⟩
          have hjd : j = (j / k) * k + j % k := by rw [Nat.mul_comm]; exact (Nat.div_add_mod j k).symm
          have hd : j / k < len := Nat.div_lt_of_lt_mul (by rwa [Nat.mul_comm])
          have hm' : j % k < k := Nat.mod_lt _ (by omega)
          have := (hz (j / k) hd).2.1 (j % k) hm'
          rw [← hjd] at this
          rw [show (⟨bl, off, none⟩ : Addr).add j = ⟨bl, off + j, none⟩ by simp [Addr.add]] at this
          rw [this]
          conv => rhs; rw [hjd]
          exact (flat_at len l1 _ _ hd hm').symm
      · have hj : j < len * k := by have := (List.getElem?_eq_some_iff.1 hv).1; rwa [flat_len len l1] at this
        have hjd : j = (j / k) * k + j % k := by rw [Nat.mul_comm]; exact (Nat.div_add_mod j k).symm
        have hd : j / k < len := Nat.div_lt_of_lt_mul (by rwa [Nat.mul_comm])
        have hm' : j % k < k := Nat.mod_lt _ hk0
        rw [hjd, flat_at len l1 _ _ hd hm'] at hv
        rw [hjd, flat_at len l2 _ _ hd hm'] at hc
        exact (hz (j / k) hd).2.2.1.2 _ v c hv hc
      · have hj : j < len * k := by have := (List.getElem?_eq_some_iff.1 hc).1; rwa [flat_len len l2] at this
        have hjd : j = (j / k) * k + j % k := by rw [Nat.mul_comm]; exact (Nat.div_add_mod j k).symm
        have hd : j / k < len := Nat.div_lt_of_lt_mul (by rwa [Nat.mul_comm])
        have hm' : j % k < k := Nat.mod_lt _ hk0
        rw [hjd, flat_at len l2 _ _ hd hm'] at hc
        exact (hz (j / k) hd).2.2.2.1.2 _ c t hc ht
      · have hj : j < len * k := by have := (List.getElem?_eq_some_iff.1 hc).1; rwa [flat_len len l2] at this
        have hjd : j = (j / k) * k + j % k := by rw [Nat.mul_comm]; exact (Nat.div_add_mod j k).symm
        have hd : j / k < len := Nat.div_lt_of_lt_mul (by rwa [Nat.mul_comm])
        have hm' : j % k < k := Nat.mod_lt _ hk0
        rw [hjd, flat_at len l2 _ _ hd hm'] at hc
        exact (hz (j / k) hd).2.2.2.2 _ c hc
  | st t Fs gs h hl hc ho hf ih =>
    intro fuel cs x hx
    obtain ⟨xs, n, _, _, hlen, hxl, hxf⟩ := DataW.trod_struct h hx
    refine parts_in gs cs (by omega) fun i g hg => ?_
    have hi : i < Fs.size := by have := (List.getElem?_eq_some_iff.1 hg).1; omega
    have hF : Fs[i]? = some Fs[i] := Array.getElem?_eq_getElem hi
    have h1 := hxf i _ hF
    rw [(ho i _ g hF hg).1, (ho i _ g hF hg).2, List.getElem?_eq_getElem (by omega)] at h1
    exact ih i _ g hF hg h1
/-- A struct that came in, opened. -/
theorem open_st {H : Type} {enc : TypeId × Value → H} {P : Program} {W : World} {base b0 : Nat} {held : Bool} {t : TypeId} {Fs : Array Field} {fs : List Ty} {v : Value} {d : DataW H} {p : List MemPlace} (hu : P.underlying t = some (.struct Fs)) (hf : Flat P t fs)
    (hv : Value.okWide P W .any b0 t v) (h : DataW.Trod enc P W base (fun _ => true) held t v d p) : ∃ vs ds, v = .agg vs.toArray ∧ InL W vs ds ∧ HasL ds fs ∧ WfL ds := by
  obtain ⟨cs, rfl, _⟩ := okWide_struct hu hv
  obtain ⟨fuel, hx⟩ := h
  obtain ⟨ds, h1, h2, h3⟩ := open_flat hf hx
  exact ⟨cs.toList, ds, by simp, by simpa [Value.cells] using h1, h2, h3⟩
end Go.Proofs.YtkbodiggdajbeaaGreatDoor

/- spec.WordOk, walked at any word and any number of threads. -/
namespace Go.Proofs.YtkbodiggdajbeaaGreatDoor
open Go.ChangeShapes Go.WideShapes Go.ChangeAt Go.RowKit Go.Joins

/-- A number from 0 to 1000, or a mark of one of so many threads. -/
def wordOkM (n t s th : Int) : Bool := if t = 0 then (decide (s = 0) && inB n 0 1000) else (decide (n = 0) && (inB t 1 th && inB s 1 1000000))
end Go.Proofs.YtkbodiggdajbeaaGreatDoor

/- spec.DescOk, walked at any Desc. -/
namespace Go.Proofs.YtkbodiggdajbeaaGreatDoor
open Go.ChangeShapes Go.WideShapes Go.ChangeAt Go.RowKit

theorem l1In_yes {x lo hi : Int} (h : inB x lo hi = true) (w : World) : Calls Tryz.prog 65 #[.int .i64 x, .int .i64 lo, .int .i64 hi] w fun e w' => e = .returned (.bool true) ∧ w' = w := by
  have := l1In_g x lo hi w
  rwa [h] at this
theorem l1In_not {x lo hi : Int} (h : inB x lo hi = false) (w : World) : Calls Tryz.prog 65 #[.int .i64 x, .int .i64 lo, .int .i64 hi] w fun e w' => e = .returned (.bool false) ∧ w' = w := by
  have := l1In_g x lo hi w
  rwa [h] at this
/-- What one round of the loop asks. -/
theorem entOk_iff2 {es : List Int} {k : Nat} : entOk es k ↔ (inB (es.getD (k * 3) 0) 0 19 = true ∧ inB (es.getD (k * 3 + 1) 0) 0 1000 = true ∧ inB (es.getD (k * 3 + 2) 0) 0 1000 = true ∧ (0 < k → es.getD ((k - 1) * 3) 0 < es.getD (k * 3) 0)) := by
  unfold inB entOk
  simp only [decide_eq_true_eq]

end Go.Proofs.YtkbodiggdajbeaaGreatDoor

/- spec.MemOk, walked at any words and Descs. -/
namespace Go.Proofs.YtkbodiggdajbeaaGreatDoor
open Go.ChangeShapes Go.WideShapes Go.ChangeAt Go.RowKit

abbrev MemV (wa : Option Addr) (m wc : Nat) (da : Option Addr) (n dc : Nat) : Value := .agg #[.slice wa m wc, .slice da n dc]
def DescGood (d : DK) : Prop := descOkM d.sq d.st d.en d.es d.cd d.rn = true
/-- A word that can be: a number, or a mark of a try that has an entry there. -/
def WordGood (fs : List Int) (ds : List DK) (i : Nat) : Prop :=
  wordOkM (fs.getD (i * 3) 0) (fs.getD (i * 3 + 1) 0) (fs.getD (i * 3 + 2) 0) ds.length = true ∧
  (0 < fs.getD (i * 3 + 1) 0 → (entM (dk ds (fs.getD (i * 3 + 1) 0 - 1).toNat).es (dk ds (fs.getD (i * 3 + 1) 0 - 1).toNat).en i).2.2.2 = true ∧ (dk ds (fs.getD (i * 3 + 1) 0 - 1).toNat).sq = fs.getD (i * 3 + 2) 0)
def MemGood (fs : List Int) (m : Nat) (ds : List DK) : Prop := m = 20 ∧ (1 ≤ ds.length ∧ ds.length ≤ 4) ∧ (∀ i, i < ds.length → DescGood (dk ds i)) ∧ ∀ i, i < m → WordGood fs ds i
/-- The lists of the Descs are as long as there is room for, at most. -/
def CapAt (w : World) (a : Option Addr) (n : Nat) (ds : List DK) : Prop :=
  n = 0 ∨ ∃ b o, a = some ⟨b, o, none⟩ ∧ ∀ i, i < n → ∃ ea ec, w.cell? ⟨b, o + i * 5 + 2, none⟩ = some (.slice ea (dk ds i).en ec) ∧ (dk ds i).en ≤ ec
theorem CapAt.below {w w' : World} {a : Option Addr} {n : Nat} {ds : List DK} (h : CapAt w a n ds) {B : Nat} (hb : Below B w w') (hB : w.heap.size ≤ B) : CapAt w' a n ds := by
  rcases h with h | ⟨b, o, h1, h2⟩
  · exact .inl h
  · refine .inr ⟨b, o, h1, fun i hi => ?_⟩
    obtain ⟨ea, ec, h3, h4⟩ := h2 i hi
    exact ⟨ea, ec, (hb.cell (Nat.lt_of_lt_of_le (World.block_lt_of_cell? w _ h3) hB)).trans h3, h4⟩
theorem below7 {B : Nat} {w w' : World} (h : Below B w w') : ∀ n, Below B w (w'.drewN n)
  | 0 => h
  | n + 1 => (below7 h n).drew
theorem wordOkM_t {n t s th : Int} (h : wordOkM n t s th = true) : 0 ≤ t ∧ (0 < t → t ≤ th) := by
  unfold wordOkM at h
  split at h
  · omega
  · simp only [Bool.and_eq_true] at h
    have := inB_val h.2.1
    omega

end Go.Proofs.YtkbodiggdajbeaaGreatDoor

/- A machine that can be, in plain words. -/
namespace Go.Proofs.YtkbodiggdajbeaaGreatDoor
open Go.ChangeShapes Go.WideShapes Go.ChangeAt Go.RowKit

/-- A machine's data. -/
structure MaD where
  nw : Nat
  ws : List Int
  nd : Nat
  ds : List DK
  nt : Nat
  ts : Nat → ThD
  tm : Int
  nc : Nat
  f : Nat → CaD
  no : Nat
  os : List Int
  nh : Nat
  hs : List Int
  st : Int
/-- It lies there. -/
structure MaAt (w : World) (wa da ta ca oa ha : Option Addr) (M : MaD) : Prop where
  words : TripAt w wa M.nw M.ws
  descs : DescAt w da M.nd M.ds
  ths : ThsAt w ta M.nt M.ts
  calls : CasAt w ca M.nc M.f
  ord : IntAt w oa M.no M.os
  held : IntAt w ha M.nh M.hs
theorem MaAt.below {w w' : World} {wa da ta ca oa ha : Option Addr} {M : MaD} (h : MaAt w wa da ta ca oa ha M) {B : Nat} (hb : Below B w w') (hB : w.heap.size ≤ B) : MaAt w' wa da ta ca oa ha M :=
  ⟨h.words.below hb hB, h.descs.below hb hB, h.ths.below hb hB, h.calls.below hb hB, h.ord.below hb hB, h.held.below hb hB⟩
structure MachGood (M : MaD) : Prop where
  mem : MemGood M.ws M.nw M.ds
  many : M.nd = M.nt
  time : inB M.tm 0 100000 = true
  first : OkRows M.hs M.st
  calls : CallsGood M.f M.nc M.os M.no M.nt M.tm
  ths : ∀ i, i < M.nt → ThGood (M.ts i) M.nt ∧ TaskSpec M.f M.nc (i : Int) (M.ts i)
abbrev MaV (wa : Option Addr) (wc : Nat) (da : Option Addr) (dc : Nat) (ta : Option Addr) (tc : Nat) (ca : Option Addr) (cc : Nat) (oa : Option Addr) (oc : Nat) (ha : Option Addr) (hc : Nat) (M : MaD) : Value := .agg #[.slice wa M.nw wc, .slice da M.nd dc, .slice ta M.nt tc, .int .i64 M.tm, .slice ca M.nc cc, .slice oa M.no oc, .slice ha M.nh hc, .int .i64 M.st]
end Go.Proofs.YtkbodiggdajbeaaGreatDoor

/- A machine's data, out of its cells. No program. -/
namespace Go.Proofs.YtkbodiggdajbeaaGreatDoor
open Go.ChangeShapes Go.WideShapes Go.ChangeAt Go.RowKit Go.Joins

def numC : Cel → Int
  | .i x => x
  | _ => 0
def boolC : Cel → Bool
  | .b x => x
  | _ => false
def lenC : Cel → Nat
  | .l _ _ n _ => n
  | _ => 0
def listC : Cel → List Cel
  | .l _ _ _ cs => cs
  | _ => []
def nums (cs : List Cel) : List Int := cs.map numC
def nthC (cs : List Cel) (i : Nat) : Cel := cs.getD i (.i 0)
def thD (r : List Cel) : ThD := ⟨lenC (nthC r 0), nums (listC (nthC r 0)), numC (nthC r 1), boolC (nthC r 2), lenC (nthC r 3), nums (listC (nthC r 3)), lenC (nthC r 4), nums (listC (nthC r 4))⟩
def caD (r : List Cel) : CaD := ⟨numC (nthC r 0), numC (nthC r 1), numC (nthC r 2), numC (nthC r 3), numC (nthC r 4), numC (nthC r 5), numC (nthC r 6), numC (nthC r 7)⟩
def dkD (r : List Cel) : DK := ⟨numC (nthC r 0), numC (nthC r 1), lenC (nthC r 2), nums (listC (nthC r 2)), numC (nthC r 3), lenC (nthC r 4), nums (listC (nthC r 4))⟩
def maD (cs : List Cel) : MaD where
  nw := lenC (nthC cs 0)
  ws := nums (listC (nthC cs 0))
  nd := lenC (nthC cs 1)
  ds := (List.range (lenC (nthC cs 1))).map fun i => dkD (row (listC (nthC cs 1)) 5 i)
  nt := lenC (nthC cs 2)
  ts := fun i => thD (row (listC (nthC cs 2)) 5 i)
  tm := numC (nthC cs 3)
  nc := lenC (nthC cs 4)
  f := fun i => caD (row (listC (nthC cs 4)) 9 i)
  no := lenC (nthC cs 5)
  os := nums (listC (nthC cs 5))
  nh := lenC (nthC cs 6)
  hs := nums (listC (nthC cs 6))
  st := numC (nthC cs 7)

def Ty.isI : Ty → Bool
  | .i => true
  | _ => false
/-- A list of structs of numbers alone. -/
theorem at_kAt {q : Bool} {w : World} {a : Option Addr} {n c k : Nat} {T : TypeId} {cs : List Cel} {fs : List Ty} (h : At q w (.slice a n c) (.l T k n cs)) (hs : Has (.l T k n cs) (.l T k fs)) (hf : ∀ t ∈ fs, t = .i) : KAt k w a n (nums cs) := by
  obtain ⟨a', c', vs, e, h1, h2, hn, -, h3, h4⟩ := h.openL
  cases e
  refine ⟨by unfold nums; rw [List.length_map]; exact h2, hn, ?_⟩
  rcases h3 with h0 | ⟨b, o, rfl, hc⟩
  · exact .inl h0
  · refine .inr ⟨b, o, rfl, fun j hj => ?_⟩
    rw [hc j hj]
    have hv : vs[j]? = some (vs[j]'(by omega)) := List.getElem?_eq_getElem (by omega)
    have hcj : cs[j]? = some (cs[j]'(by omega)) := List.getElem?_eq_getElem (by omega)
    have hat := h4 j _ _ hv hcj
    have hx : ∃ x, cs[j]'(by omega) = .i x := by
      cases hs with
      | l _ _ _ _ _ hk hl hh =>
        have hk0 : 0 < k := Nat.pos_of_ne_zero fun e => by rw [e] at hj; simp at hj
        have hm : j % k < fs.length := by rw [hk]; exact Nat.mod_lt _ hk0
        have ht := hh j _ _ hcj (List.getElem?_eq_getElem hm)
        rw [hf _ (List.getElem_mem hm)] at ht
        exact ht.int
    obtain ⟨x, hx⟩ := hx
    rw [hx] at hat
    rw [hv, hat.int]
    have : (nums cs).getD j 0 = x := by
      unfold nums
      have hjc : j < cs.length := by omega
      simp [List.getD, hjc, hx, numC]
    rw [this]
theorem KAt.trip {w : World} {a : Option Addr} {n : Nat} {fs : List Int} (h : KAt 3 w a n fs) (hn : n ≤ 1048576) : TripAt w a n fs := ⟨h.1, hn, h.2.2⟩
theorem KAt.ints {w : World} {a : Option Addr} {n : Nat} {fs : List Int} (h : KAt 1 w a n fs) : IntAt w a n fs := by
  refine ⟨by have := h.1; omega, by have := h.2.1; omega, ?_⟩
  rcases h.2.2 with h0 | ⟨b, o, h1, h2⟩
  · exact .inl h0
  · exact .inr ⟨b, o, h1, fun i hi => h2 i (by omega)⟩
/-- A list's rows: what stands in their cells. -/
theorem at_rows {q : Bool} {w : World} {a : Option Addr} {n c k : Nat} {T : TypeId} {cs : List Cel} (h : At q w (.slice a n c) (.l T k n cs)) : n = 0 ∨ ∃ b o, a = some ⟨b, o, none⟩ ∧ ∀ i, i < n → ∃ us, AtL q w us (row cs k i) ∧ ∀ r, r < k → w.cell? ⟨b, o + i * k + r, none⟩ = us[r]? := by
  obtain ⟨a', c', vs, e, h1, h2, hn, -, h3, h4⟩ := h.openL
  cases e
  rcases h3 with h0 | ⟨b, o, rfl, hc⟩
  · exact .inl h0
  · refine .inr ⟨b, o, rfl, fun i hi => ⟨_, rowVals h1 h2 h4 hi, fun r hr => ?_⟩⟩
    have hle : i * k + k ≤ n * k := by rw [← Nat.succ_mul]; exact Nat.mul_le_mul_right k hi
    rw [List.getElem?_take_of_lt hr, List.getElem?_drop, Nat.add_assoc, hc (i * k + r) (by omega)]
theorem big_len {T : TypeId} {k n : Nat} {cs : List Cel} : n ≤ (Cel.l T k n cs).big := by simp only [Cel.big]; omega
theorem row_mem_big {cs : List Cel} {k n i : Nat} (hl : cs.length = n * k) (hi : i < n) {j : Nat} {c : Cel} (h : (row cs k i)[j]? = some c) : c.big ≤ bigL cs := by
  have hj : j < k := by have := (List.getElem?_eq_some_iff.1 h).1; rw [rowL_len hl hi] at this; exact this
  rw [row_at hj] at h
  exact big_mem h
theorem at_cap {w : World} {a : Option Addr} {n c k : Nat} {T : TypeId} {cs : List Cel} (h : At true w (.slice a n c) (.l T k n cs)) : n ≤ c := by
  obtain ⟨a', c', vs, e, h1, h2, hn, hq, h3, h4⟩ := h.openL
  cases e
  exact (hq rfl).2
theorem int_all {fs : List Ty} (h : fs.all Ty.isI = true) : ∀ t ∈ fs, t = .i := fun t ht => by
  have := (List.all_eq_true.1 h) t ht
  cases t <;> simp [Ty.isI] at this ⊢
end Go.Proofs.YtkbodiggdajbeaaGreatDoor

/- A machine that is read: its parts lie there. No program. -/
namespace Go.Proofs.YtkbodiggdajbeaaGreatDoor
open Go.ChangeShapes Go.WideShapes Go.ChangeAt Go.RowKit Go.Joins

theorem i1 : ∀ t ∈ ([.i] : List Ty), t = .i := int_all rfl
theorem iOp : ∀ t ∈ tyOp, t = .i := int_all rfl
theorem iPair : ∀ t ∈ tyPair, t = .i := int_all rfl
theorem iHelp : ∀ t ∈ tyHelp, t = .i := int_all rfl
theorem iEntry : ∀ t ∈ tyEntry, t = .i := int_all rfl
theorem iWord : ∀ t ∈ tyWord, t = .i := int_all rfl
theorem at_thread {w : World} {b p : Nat} {us : List Value} {r : List Cel} (h : AtL true w us r) (hs : HasL r tyThread) (hc : ∀ i, i < 5 → w.cell? ⟨b, p + i, none⟩ = us[i]?) :
    ∃ a0 c0 a1 c1 a2 c2, ThC w b p (thD r) a0 c0 a1 c1 a2 c2 ∧ ThL w a0 a1 a2 (thD r) ∧ (thD r).n0 ≤ c0 ∧ (thD r).n1 ≤ c1 ∧ (thD r).n2 ≤ c2 := by
  obtain ⟨x0, r0, rfl, T0, hH0⟩ := hs.cons
  obtain ⟨x1, r1, rfl, T1, hH1⟩ := hH0.cons
  obtain ⟨x2, r2, rfl, T2, hH2⟩ := hH1.cons
  obtain ⟨x3, r3, rfl, T3, hH3⟩ := hH2.cons
  obtain ⟨x4, r4, rfl, T4, hH4⟩ := hH3.cons
  obtain rfl := hH4.nil
  obtain ⟨v0, vr0, rfl, A0, hA0⟩ := h.consE
  obtain ⟨v1, vr1, rfl, A1, hA1⟩ := hA0.consE
  obtain ⟨v2, vr2, rfl, A2, hA2⟩ := hA1.consE
  obtain ⟨v3, vr3, rfl, A3, hA3⟩ := hA2.consE
  obtain ⟨v4, vr4, rfl, A4, hA4⟩ := hA3.consE
  obtain rfl := hA4.nilE
  obtain ⟨n0, l0, rfl, _⟩ := T0.list
  obtain ⟨y1, rfl⟩ := T1.int
  obtain ⟨y2, rfl⟩ := T2.bool
  obtain ⟨n3, l3, rfl, _⟩ := T3.list
  obtain ⟨n4, l4, rfl, _⟩ := T4.list
  obtain rfl := A1.int
  obtain rfl := A2.bool
  obtain ⟨a0, c0, rfl⟩ := A0.slice
  obtain ⟨a3, c3, rfl⟩ := A3.slice
  obtain ⟨a4, c4, rfl⟩ := A4.slice
  exact ⟨a0, c0, a3, c3, a4, c4, ⟨hc 0 (by omega), hc 1 (by omega), hc 2 (by omega), hc 3 (by omega), hc 4 (by omega)⟩, ⟨at_kAt A0 T0 iOp, at_kAt A3 T3 iPair, at_kAt A4 T4 iHelp⟩, at_cap A0, at_cap A3, at_cap A4⟩
theorem at_call {w : World} {b p : Nat} {us : List Value} {r : List Cel} (h : AtL true w us r) (hs : HasL r tyCall) (hc : ∀ i, i < 9 → w.cell? ⟨b, p + i, none⟩ = us[i]?) : ∃ ra rn rc, CaC w b p (caD r) (.slice ra rn rc) := by
  obtain ⟨x0, r0, rfl, T0, hH0⟩ := hs.cons
  obtain ⟨x1, r1, rfl, T1, hH1⟩ := hH0.cons
  obtain ⟨x2, r2, rfl, T2, hH2⟩ := hH1.cons
  obtain ⟨x3, r3, rfl, T3, hH3⟩ := hH2.cons
  obtain ⟨x4, r4, rfl, T4, hH4⟩ := hH3.cons
  obtain ⟨x5, r5, rfl, T5, hH5⟩ := hH4.cons
  obtain ⟨x6, r6, rfl, T6, hH6⟩ := hH5.cons
  obtain ⟨x7, r7, rfl, T7, hH7⟩ := hH6.cons
  obtain ⟨x8, r8, rfl, T8, hH8⟩ := hH7.cons
  obtain rfl := hH8.nil
  obtain ⟨v0, vr0, rfl, A0, hA0⟩ := h.consE
  obtain ⟨v1, vr1, rfl, A1, hA1⟩ := hA0.consE
  obtain ⟨v2, vr2, rfl, A2, hA2⟩ := hA1.consE
  obtain ⟨v3, vr3, rfl, A3, hA3⟩ := hA2.consE
  obtain ⟨v4, vr4, rfl, A4, hA4⟩ := hA3.consE
  obtain ⟨v5, vr5, rfl, A5, hA5⟩ := hA4.consE
  obtain ⟨v6, vr6, rfl, A6, hA6⟩ := hA5.consE
  obtain ⟨v7, vr7, rfl, A7, hA7⟩ := hA6.consE
  obtain ⟨v8, vr8, rfl, A8, hA8⟩ := hA7.consE
  obtain rfl := hA8.nilE
  obtain ⟨y0, rfl⟩ := T0.int
  obtain ⟨y1, rfl⟩ := T1.int
  obtain ⟨y2, rfl⟩ := T2.int
  obtain ⟨y3, rfl⟩ := T3.int
  obtain ⟨y4, rfl⟩ := T4.int
  obtain ⟨y5, rfl⟩ := T5.int
  obtain ⟨y6, rfl⟩ := T6.int
  obtain ⟨y7, rfl⟩ := T7.int
  obtain ⟨n8, l8, rfl, _⟩ := T8.list
  obtain rfl := A0.int
  obtain rfl := A1.int
  obtain rfl := A2.int
  obtain rfl := A3.int
  obtain rfl := A4.int
  obtain rfl := A5.int
  obtain rfl := A6.int
  obtain rfl := A7.int
  obtain ⟨a8, c8, rfl⟩ := A8.slice
  exact ⟨a8, n8, c8, hc 0 (by omega), hc 1 (by omega), hc 2 (by omega), hc 3 (by omega), hc 4 (by omega), hc 5 (by omega), hc 6 (by omega), hc 7 (by omega), hc 8 (by omega)⟩
theorem at_desc {w : World} {b p : Nat} {us : List Value} {r : List Cel} (h : AtL true w us r) (hs : HasL r tyDesc) (hb : ∀ (j : Nat) (c : Cel), r[j]? = some c → c.big ≤ 1048576) (hc : ∀ i, i < 5 → w.cell? ⟨b, p + i, none⟩ = us[i]?) :
    ∃ ea ec ra rc, Five w b p (dkD r) ea ec ra rc ∧ TripAt w ea (dkD r).en (dkD r).es ∧ IntAt w ra (dkD r).rn (dkD r).rs ∧ (dkD r).en ≤ ec := by
  obtain ⟨x0, r0, rfl, T0, hH0⟩ := hs.cons
  obtain ⟨x1, r1, rfl, T1, hH1⟩ := hH0.cons
  obtain ⟨x2, r2, rfl, T2, hH2⟩ := hH1.cons
  obtain ⟨x3, r3, rfl, T3, hH3⟩ := hH2.cons
  obtain ⟨x4, r4, rfl, T4, hH4⟩ := hH3.cons
  obtain rfl := hH4.nil
  obtain ⟨v0, vr0, rfl, A0, hA0⟩ := h.consE
  obtain ⟨v1, vr1, rfl, A1, hA1⟩ := hA0.consE
  obtain ⟨v2, vr2, rfl, A2, hA2⟩ := hA1.consE
  obtain ⟨v3, vr3, rfl, A3, hA3⟩ := hA2.consE
  obtain ⟨v4, vr4, rfl, A4, hA4⟩ := hA3.consE
  obtain rfl := hA4.nilE
  obtain ⟨y0, rfl⟩ := T0.int
  obtain ⟨y1, rfl⟩ := T1.int
  obtain ⟨n2, l2, rfl, _⟩ := T2.list
  obtain ⟨y3, rfl⟩ := T3.int
  obtain ⟨n4, l4, rfl, _⟩ := T4.list
  obtain rfl := A0.int
  obtain rfl := A1.int
  obtain rfl := A3.int
  obtain ⟨a2, c2, rfl⟩ := A2.slice
  obtain ⟨a4, c4, rfl⟩ := A4.slice
  have hb2 := hb 2 _ rfl
  have := big_len (T := 139) (k := 3) (n := n2) (cs := l2)
  exact ⟨a2, c2, a4, c4, ⟨hc 0 (by omega), hc 1 (by omega), hc 2 (by omega), hc 3 (by omega), hc 4 (by omega)⟩, (at_kAt A2 T2 iEntry).trip (by omega), (at_kAt A4 T4 i1).ints, at_cap A2⟩

theorem at_machine {w : World} {us : List Value} {cs : List Cel} (h : AtL true w us cs) (hs : HasL cs tyMachine) (hb : bigL cs ≤ 1048576) :
    ∃ wa wc da dc ta tc ca cc oa oc ha hc, .agg us.toArray = MaV wa wc da dc ta tc ca cc oa oc ha hc (maD cs) ∧ MaAt w wa da ta ca oa ha (maD cs) ∧ CapAt w da (maD cs).nd (maD cs).ds ∧ (maD cs).nh ≤ hc := by
  obtain ⟨x0, r0, rfl, T0, hH0⟩ := hs.cons
  obtain ⟨x1, r1, rfl, T1, hH1⟩ := hH0.cons
  obtain ⟨x2, r2, rfl, T2, hH2⟩ := hH1.cons
  obtain ⟨x3, r3, rfl, T3, hH3⟩ := hH2.cons
  obtain ⟨x4, r4, rfl, T4, hH4⟩ := hH3.cons
  obtain ⟨x5, r5, rfl, T5, hH5⟩ := hH4.cons
  obtain ⟨x6, r6, rfl, T6, hH6⟩ := hH5.cons
  obtain ⟨x7, r7, rfl, T7, hH7⟩ := hH6.cons
  obtain rfl := hH7.nil
  obtain ⟨v0, vr0, rfl, A0, hA0⟩ := h.consE
  obtain ⟨v1, vr1, rfl, A1, hA1⟩ := hA0.consE
  obtain ⟨v2, vr2, rfl, A2, hA2⟩ := hA1.consE
  obtain ⟨v3, vr3, rfl, A3, hA3⟩ := hA2.consE
  obtain ⟨v4, vr4, rfl, A4, hA4⟩ := hA3.consE
  obtain ⟨v5, vr5, rfl, A5, hA5⟩ := hA4.consE
  obtain ⟨v6, vr6, rfl, A6, hA6⟩ := hA5.consE
  obtain ⟨v7, vr7, rfl, A7, hA7⟩ := hA6.consE
  obtain rfl := hA7.nilE
  obtain ⟨n0, l0, rfl, e0⟩ := T0.list
  obtain ⟨n1, l1, rfl, e1⟩ := T1.list
  obtain ⟨n2, l2, rfl, e2⟩ := T2.list
  obtain ⟨y3, rfl⟩ := T3.int
  obtain ⟨n4, l4, rfl, e4⟩ := T4.list
  obtain ⟨n5, l5, rfl, e5⟩ := T5.list
  obtain ⟨n6, l6, rfl, e6⟩ := T6.list
  obtain ⟨y7, rfl⟩ := T7.int
  obtain rfl := A3.int
  obtain rfl := A7.int
  obtain ⟨a0, c0, rfl⟩ := A0.slice
  obtain ⟨a1, c1, rfl⟩ := A1.slice
  obtain ⟨a2, c2, rfl⟩ := A2.slice
  obtain ⟨a4, c4, rfl⟩ := A4.slice
  obtain ⟨a5, c5, rfl⟩ := A5.slice
  obtain ⟨a6, c6, rfl⟩ := A6.slice
  have g0 := big_len (T := 134) (k := 3) (n := n0) (cs := l0)
  have g1 := big_len (T := 137) (k := 5) (n := n1) (cs := l1)
  simp only [bigL] at hb
  have hl1 : bigL l1 ≤ 1048576 := by
    have : bigL l1 ≤ (Cel.l 137 5 n1 l1).big := by simp only [Cel.big]; omega
    omega
  have N2 : n2 ≤ 2097152 := by obtain ⟨_, _, _, _, _, _, hn, _⟩ := A2.openL; exact hn
  have N4 : n4 ≤ 2097152 := by obtain ⟨_, _, _, _, _, _, hn, _⟩ := A4.openL; exact hn
  have HD : n1 = 0 ∨ ∃ b o, a1 = some ⟨b, o, none⟩ ∧ ∀ i, i < n1 → ∃ ea ec ra rc, Five w b (o + i * 5) (dkD (row l1 5 i)) ea ec ra rc ∧ TripAt w ea (dkD (row l1 5 i)).en (dkD (row l1 5 i)).es ∧ IntAt w ra (dkD (row l1 5 i)).rn (dkD (row l1 5 i)).rs ∧ (dkD (row l1 5 i)).en ≤ ec := by
    rcases at_rows A1 with h0 | ⟨b, o, rfl, hr⟩
    · exact .inl h0
    · refine .inr ⟨b, o, rfl, fun i hi => ?_⟩
      obtain ⟨us, hu, hc⟩ := hr i hi
      exact at_desc hu (T1.rowL hi) (fun j c hj => Nat.le_trans (row_mem_big e1 hi hj) hl1) hc
  have DK1 : ∀ i, i < n1 → dk ((List.range n1).map fun i => dkD (row l1 5 i)) i = dkD (row l1 5 i) := fun i hi => by
    unfold dk
    simp [List.getD, hi]
  refine ⟨a0, c0, a1, c1, a2, c2, a4, c4, a5, c5, a6, c6, rfl, ⟨(at_kAt A0 T0 iWord).trip (by show n0 ≤ _; omega), ⟨by show (List.map _ (List.range n1)).length = n1; simp, by show n1 ≤ _; omega, ?_⟩, ⟨N2, ?_⟩, ⟨N4, ?_⟩, (at_kAt A5 T5 i1).ints, (at_kAt A6 T6 i1).ints⟩, ?_, at_cap A6⟩
  · rcases HD with h0 | ⟨b, o, rfl, hr⟩
    · exact .inl h0
    · refine .inr ⟨b, o, rfl, fun i hi => ?_⟩
      obtain ⟨ea, ec, ra, rc, h5, h6, h7, _⟩ := hr i hi
      show ∃ ea ec ra rc, Five w b (o + i * 5) (dk ((List.range n1).map fun i => dkD (row l1 5 i)) i) ea ec ra rc ∧ TripAt w ea (dk ((List.range n1).map fun i => dkD (row l1 5 i)) i).en (dk ((List.range n1).map fun i => dkD (row l1 5 i)) i).es ∧ IntAt w ra (dk ((List.range n1).map fun i => dkD (row l1 5 i)) i).rn (dk ((List.range n1).map fun i => dkD (row l1 5 i)) i).rs
      rw [DK1 i hi]
      exact ⟨ea, ec, ra, rc, h5, h6, h7⟩
  · rcases at_rows A2 with h0 | ⟨b, o, rfl, hr⟩
    · exact .inl h0
    · refine .inr ⟨b, o, rfl, fun i hi => ?_⟩
      obtain ⟨us, hu, hc⟩ := hr i hi
      exact at_thread hu (T2.rowL hi) hc
  · rcases at_rows A4 with h0 | ⟨b, o, rfl, hr⟩
    · exact .inl h0
    · refine .inr ⟨b, o, rfl, fun i hi => ?_⟩
      obtain ⟨us, hu, hc⟩ := hr i hi
      exact at_call hu (T4.rowL hi) hc
  · rcases HD with h0 | ⟨b, o, rfl, hr⟩
    · exact .inl h0
    · refine .inr ⟨b, o, rfl, fun i hi => ?_⟩
      obtain ⟨ea, ec, ra, rc, h5, _, _, h8⟩ := hr i hi
      show ∃ ea ec, w.cell? ⟨b, o + i * 5 + 2, none⟩ = some (.slice ea (dk ((List.range n1).map fun i => dkD (row l1 5 i)) i).en ec) ∧ (dk ((List.range n1).map fun i => dkD (row l1 5 i)) i).en ≤ ec
      rw [DK1 i hi]
      exact ⟨ea, ec, h5.2.2.1, h8⟩
theorem forms8 {q : Bool} {w : World} {us : List Value} {cs : List Cel} (h : AtL q w us cs) (hs : HasL cs tyMachine) :
    ∃ b0 m0 k0 b1 m1 k1 b2 m2 k2 j3 b4 m4 k4 b5 m5 k5 b6 m6 k6 j7, us = [.slice b0 m0 k0, .slice b1 m1 k1, .slice b2 m2 k2, .int .i64 j3, .slice b4 m4 k4, .slice b5 m5 k5, .slice b6 m6 k6, .int .i64 j7] := by
  obtain ⟨x0, r0, rfl, T0, hH0⟩ := hs.cons
  obtain ⟨x1, r1, rfl, T1, hH1⟩ := hH0.cons
  obtain ⟨x2, r2, rfl, T2, hH2⟩ := hH1.cons
  obtain ⟨x3, r3, rfl, T3, hH3⟩ := hH2.cons
  obtain ⟨x4, r4, rfl, T4, hH4⟩ := hH3.cons
  obtain ⟨x5, r5, rfl, T5, hH5⟩ := hH4.cons
  obtain ⟨x6, r6, rfl, T6, hH6⟩ := hH5.cons
  obtain ⟨x7, r7, rfl, T7, hH7⟩ := hH6.cons
  obtain rfl := hH7.nil
  obtain ⟨v0, vr0, rfl, A0, hA0⟩ := h.consE
  obtain ⟨v1, vr1, rfl, A1, hA1⟩ := hA0.consE
  obtain ⟨v2, vr2, rfl, A2, hA2⟩ := hA1.consE
  obtain ⟨v3, vr3, rfl, A3, hA3⟩ := hA2.consE
  obtain ⟨v4, vr4, rfl, A4, hA4⟩ := hA3.consE
  obtain ⟨v5, vr5, rfl, A5, hA5⟩ := hA4.consE
  obtain ⟨v6, vr6, rfl, A6, hA6⟩ := hA5.consE
  obtain ⟨v7, vr7, rfl, A7, hA7⟩ := hA6.consE
  obtain rfl := hA7.nilE
  obtain ⟨n0, l0, rfl, e0⟩ := T0.list
  obtain ⟨n1, l1, rfl, e1⟩ := T1.list
  obtain ⟨n2, l2, rfl, e2⟩ := T2.list
  obtain ⟨y3, rfl⟩ := T3.int
  obtain ⟨n4, l4, rfl, e4⟩ := T4.list
  obtain ⟨n5, l5, rfl, e5⟩ := T5.list
  obtain ⟨n6, l6, rfl, e6⟩ := T6.list
  obtain ⟨y7, rfl⟩ := T7.int
  obtain rfl := A3.int
  obtain rfl := A7.int
  obtain ⟨a0, c0, rfl⟩ := A0.slice
  obtain ⟨a1, c1, rfl⟩ := A1.slice
  obtain ⟨a2, c2, rfl⟩ := A2.slice
  obtain ⟨a4, c4, rfl⟩ := A4.slice
  obtain ⟨a5, c5, rfl⟩ := A5.slice
  obtain ⟨a6, c6, rfl⟩ := A6.slice
  exact ⟨_, _, _, _, _, _, _, _, _, _, _, _, _, _, _, _, _, _, _, _, rfl⟩
theorem wf_held {cs : List Cel} (hw : WfL cs) (hs : HasL cs tyMachine) : ∀ x ∈ (maD cs).hs, (Lit.int .i64 x).wf = true := by
  intro x hx
  obtain ⟨x0, r0, rfl, T0, hH0⟩ := hs.cons
  obtain ⟨x1, r1, rfl, T1, hH1⟩ := hH0.cons
  obtain ⟨x2, r2, rfl, T2, hH2⟩ := hH1.cons
  obtain ⟨x3, r3, rfl, T3, hH3⟩ := hH2.cons
  obtain ⟨x4, r4, rfl, T4, hH4⟩ := hH3.cons
  obtain ⟨x5, r5, rfl, T5, hH5⟩ := hH4.cons
  obtain ⟨x6, r6, rfl, T6, hH6⟩ := hH5.cons
  obtain ⟨n6, l6, rfl, e6⟩ := T6.list
  have h6 := hw 6 _ rfl
  have hx : x ∈ nums l6 := hx
  unfold nums at hx
  obtain ⟨c, hc, rfl⟩ := List.mem_map.1 hx
  obtain ⟨j, hj, rfl⟩ := List.getElem_of_mem hc
  cases h6 with
  | l _ _ _ _ h =>
    have hcj := h j _ (List.getElem?_eq_getElem hj)
    cases T6 with
    | l _ _ _ _ _ hk hl hh =>
      have ht := hh j _ .i (List.getElem?_eq_getElem hj) (by rw [Nat.mod_one]; rfl)
      obtain ⟨y, hy⟩ := ht.int
      rw [hy] at hcj ⊢
      cases hcj with
      | i _ h => exact h
end Go.Proofs.YtkbodiggdajbeaaGreatDoor

/- What may come of an op, and what it makes of the rows, in plain words (no program). -/
namespace Go.Proofs.YtkbodiggdajbeaaGreatDoor

/-- The first key that holds v, or -1. -/
def keyN (xs : List Int) (v : Int) : Int :=
  if xs.getD 0 0 = v then 0 else if xs.getD 1 0 = v then 1 else if xs.getD 2 0 = v then 2 else if xs.getD 3 0 = v then 3 else -1
theorem keyN_is (xs : List Int) (v : Int) : KeyIs xs 4 v (keyN xs v) := by
  unfold keyN
  split
  · exact .inr ⟨0, by omega, rfl, by assumption, fun j hj => by omega⟩
  split
  · exact .inr ⟨1, by omega, rfl, by assumption, fun j hj => by obtain rfl : j = 0 := by omega
                                                                assumption⟩
  split
  · exact .inr ⟨2, by omega, rfl, by assumption, fun j hj => by rcases (show j = 0 ∨ j = 1 by omega) with rfl | rfl <;> assumption⟩
  split
  · exact .inr ⟨3, by omega, rfl, by assumption, fun j hj => by rcases (show j = 0 ∨ j = 1 ∨ j = 2 by omega) with rfl | rfl | rfl <;> assumption⟩
  · exact .inl ⟨rfl, fun j hj => by rcases (show j = 0 ∨ j = 1 ∨ j = 2 ∨ j = 3 by omega) with rfl | rfl | rfl | rfl <;> assumption⟩
theorem KeyIs.keyN {xs : List Int} {v r : Int} (h : KeyIs xs 4 v r) : r = keyN xs v := h.one (keyN_is xs v)
theorem keyN_le (xs : List Int) (v : Int) : -1 ≤ keyN xs v ∧ keyN xs v ≤ 3 := by unfold Go.Proofs.YtkbodiggdajbeaaGreatDoor.keyN; repeat (first | split | omega)

/-- What key k holds. -/
abbrev atK (xs : List Int) (k : Int) : Int := xs.getD k.toNat 0
/-- A result other than RsDone may come. -/
def FailsM (xs : List Int) (st kind k v code : Int) : Prop :=
  (code = 1 ∧ kind = 1 ∧ atK xs k ≠ 0) ∨ (code = 2 ∧ (kind = 1 ∨ kind = 2) ∧ 0 ≤ keyN xs v)
  ∨ (code = 3 ∧ (((kind = 2 ∨ kind = 3 ∨ kind = 4) ∧ atK xs k = 0) ∨ (kind = 5 ∧ keyN xs v < 0) ∨ (kind = 10 ∧ st = 5 ∧ keyN xs v < 0)))
  ∨ (code = 4 ∧ ((kind = 8 ∧ st ≠ 0) ∨ (kind = 9 ∧ (st = 0 ∨ st = 5)) ∨ (kind = 10 ∧ st ≠ 5)))
/-- RsDone may come. -/
def DoneM (xs : List Int) (st kind k v : Int) : Prop :=
  (kind = 1 ∧ atK xs k = 0 ∧ keyN xs v < 0) ∨ (kind = 2 ∧ atK xs k ≠ 0 ∧ (keyN xs v < 0 ∨ keyN xs v = k)) ∨ (kind = 3 ∧ atK xs k ≠ 0) ∨ (kind = 4 ∧ atK xs k ≠ 0)
  ∨ (kind = 5 ∧ 0 ≤ keyN xs v) ∨ kind = 6 ∨ kind = 7 ∨ (kind = 8 ∧ st = 0) ∨ (kind = 9 ∧ 1 ≤ st ∧ st ≤ 4) ∨ (kind = 10 ∧ st = 5 ∧ 0 ≤ keyN xs v)
/-- The list that comes with RsDone. -/
def listM (xs : List Int) (kind k v : Int) : List Int :=
  if kind = 4 then [atK xs k] else if kind = 5 ∨ kind = 10 then [keyN xs v] else if kind = 6 then [cntK xs k 4] else if kind = 7 then xs else []
/-- s may come of o there. -/
def AllowM (xs : List Int) (st kind k v code : Int) (ys : List Int) : Prop :=
  OkRows xs st ∧ OpGood kind k v ∧ ((code ≠ 0 ∧ ys = [] ∧ FailsM xs st kind k v code) ∨ (code = 0 ∧ DoneM xs st kind k v ∧ listM xs kind k v = ys))
/-- What comes of it: the list zs, and how far the other way is made. -/
def AfterM (xs : List Int) (st kind k v code : Int) (ys zs : List Int) (st' : Int) : Prop :=
  (AllowM xs st kind k v code ys ∧ code = 0 ∧ (((kind = 1 ∨ kind = 2) ∧ zs = xs.set k.toNat v ∧ st' = st) ∨ (kind = 3 ∧ zs = xs.set k.toNat 0 ∧ st' = st)
    ∨ ((kind = 8 ∨ kind = 9) ∧ zs = xs ∧ st' = st + 1) ∨ ((4 ≤ kind ∧ kind ≤ 7 ∨ kind = 10) ∧ zs = xs ∧ st' = st)))
  ∨ (¬ (AllowM xs st kind k v code ys ∧ code = 0) ∧ zs = xs ∧ st' = st)
theorem AfterM.one {xs : List Int} {st kind k v code : Int} {ys zs zs2 : List Int} {s1 s2 : Int} (h : AfterM xs st kind k v code ys zs s1) (g : AfterM xs st kind k v code ys zs2 s2) : zs = zs2 ∧ s1 = s2 := by
  rcases h with ⟨ha, hc, h⟩ | ⟨hn, h1, h2⟩
  · rcases g with ⟨_, _, g⟩ | ⟨gn, _⟩
    · rcases h with ⟨h0, rfl, rfl⟩ | ⟨h0, rfl, rfl⟩ | ⟨h0, rfl, rfl⟩ | ⟨h0, rfl, rfl⟩ <;> rcases g with ⟨g0, rfl, rfl⟩ | ⟨g0, rfl, rfl⟩ | ⟨g0, rfl, rfl⟩ | ⟨g0, rfl, rfl⟩ <;> first | exact ⟨rfl, rfl⟩ | (exfalso; omega)
    · exact absurd ⟨ha, hc⟩ gn
  · rcases g with ⟨ga, gc, _⟩ | ⟨_, g1, g2⟩
    · exact absurd ⟨ga, gc⟩ hn
    · exact ⟨h1.trans g1.symm, h2.trans g2.symm⟩
instance (xs : List Int) (st kind k v code : Int) : Decidable (FailsM xs st kind k v code) := by unfold FailsM; infer_instance
instance (xs : List Int) (st kind k v : Int) : Decidable (DoneM xs st kind k v) := by unfold DoneM; infer_instance
end Go.Proofs.YtkbodiggdajbeaaGreatDoor

/- impl.KeyOf and impl.HowMany, walked at four numbers. -/
namespace Go.Proofs.YtkbodiggdajbeaaGreatDoor
open Go.ChangeShapes Go.WideShapes Go.ChangeAt Go.RowKit Go.Maps

theorem posK_four (xs : List Int) (v : Int) : posK xs 4 v = (if xs.getD 0 0 = v then [0] else []) ++ (if xs.getD 1 0 = v then [1] else []) ++ (if xs.getD 2 0 = v then [2] else []) ++ (if xs.getD 3 0 = v then [3] else []) := by
  have h : ∀ k : Nat, posK xs (k + 1) v = posK xs k v ++ (if xs.getD k 0 = v then [(k : Int)] else []) := fun k => by
    split
    · exact posK_same (by assumption)
    · rw [posK_other (by assumption), List.append_nil]
  rw [h 3, h 2, h 1, h 0, posK_zero]
  rfl
theorem posK_len (xs : List Int) (v : Int) : ((posK xs 4 v).length : Int) = (if xs.getD 0 0 = v then 1 else 0) + (if xs.getD 1 0 = v then 1 else 0) + (if xs.getD 2 0 = v then 1 else 0) + (if xs.getD 3 0 = v then 1 else 0) := by
  rw [posK_four]
  split <;> split <;> split <;> split <;> rfl
theorem posK_le (xs : List Int) (v : Int) : (posK xs 4 v).length ≤ 4 := by
  rw [posK_four]
  split <;> split <;> split <;> split <;> decide
theorem keyN_none {xs : List Int} {v : Int} (h : posK xs 4 v = []) : keyN xs v = -1 := by
  rw [posK_four] at h
  unfold keyN
  split <;> (try split) <;> (try split) <;> (try split) <;> simp_all
theorem keyN_some {xs : List Int} {v : Int} (h : posK xs 4 v ≠ []) : (posK xs 4 v).getD 0 0 = keyN xs v := by
  rw [posK_four] at h ⊢
  unfold keyN
  split <;> (try split) <;> (try split) <;> (try split) <;> simp_all

/-- What is told of those that have come. -/
def mkH (left : Lit → Bool) (x : Int) : Int := if left (.int .i64 x) = true then 0 else x
/-- How many of those that have come are of the class c. -/
def cntH (xs : List Int) (left : Lit → Bool) (c : Int) : Int := bitW (mkH left (xs.getD 0 0)) c + bitW (mkH left (xs.getD 1 0)) c + bitW (mkH left (xs.getD 2 0)) c + bitW (mkH left (xs.getD 3 0)) c
theorem cntH_le (xs : List Int) (left : Lit → Bool) (c : Int) : 0 ≤ cntH xs left c ∧ cntH xs left c ≤ 4 := by
  unfold cntH
  have h0 := bitW_le (mkH left (xs.getD 0 0)) c
  have h1 := bitW_le (mkH left (xs.getD 1 0)) c
  have h2 := bitW_le (mkH left (xs.getD 2 0)) c
  have h3 := bitW_le (mkH left (xs.getD 3 0)) c
  omega
theorem bitW_mkH {left : Lit → Bool} {x : Int} (y c : Int) (hl : left (.int .i64 x) = true) :
    bitW (mkH (fun z => left z && !z.sameKey (.int .i64 x)) y) c = bitW (mkH left y) c + (if y = x then bitW x c else 0) := by
  unfold mkH
  by_cases h : y = x
  · subst h
    simp [sameKey_int, hl, bitW_zero]
  · simp [sameKey_int, h]
theorem cntH_step {xs : List Int} {left : Lit → Bool} {x : Int} (c : Int) (hl : left (.int .i64 x) = true) :
    cntH xs (fun z => left z && !z.sameKey (.int .i64 x)) c = cntH xs left c + (if bitW x c = 1 then ((posK xs 4 x).length : Int) else 0) := by
  have hb := bitW_le x c
  unfold cntH
  rw [bitW_mkH _ c hl, bitW_mkH _ c hl, bitW_mkH _ c hl, bitW_mkH _ c hl, posK_len]
  by_cases h : bitW x c = 1
  · rw [h, if_pos rfl]
    omega
  · have h0 : bitW x c = 0 := by omega
    rw [h0]
    simp
theorem cntH_none {xs : List Int} {left : Lit → Bool} (c : Int) (h : ∀ i, i < 4 → xs.getD i 0 ≠ 0 → left (.int .i64 (xs.getD i 0)) = true) : cntH xs left c = 0 := by
  have h1 : ∀ i, i < 4 → bitW (mkH left (xs.getD i 0)) c = 0 := fun i hi => by
    unfold mkH
    split
    · exact bitW_zero
    · by_cases h0 : xs.getD i 0 = 0
      · rw [h0]; exact bitW_zero
      · exact absurd (h i hi h0) (by assumption)
  unfold cntH
  rw [h1 0 (by omega), h1 1 (by omega), h1 2 (by omega), h1 3 (by omega)]
  rfl
theorem cntH_all {xs : List Int} {left : Lit → Bool} (c : Int) (h : ∀ z, left z = false) : cntH xs left c = cntK xs c 4 := by
  have h1 : ∀ y, mkH left y = y := fun y => by unfold mkH; rw [h]; rfl
  unfold cntH
  rw [h1, h1, h1, h1, cntK_four]
  rfl

end Go.Proofs.YtkbodiggdajbeaaGreatDoor

/- What comes of what is allowed is right (no program). -/
namespace Go.Proofs.YtkbodiggdajbeaaGreatDoor

theorem four_of {xs : List Int} (h : xs.length = 4) : ∃ y0 y1 y2 y3, xs = [y0, y1, y2, y3] := by
  match xs, h with
  | [y0, y1, y2, y3], _ => exact ⟨y0, y1, y2, y3, rfl⟩
/-- What is held is right, and no two keys hold the same. -/
def OkFour (y0 y1 y2 y3 : Int) : Prop :=
  (y0 = 0 ∨ (1 ≤ y0 ∧ y0 ≤ 6)) ∧ (y1 = 0 ∨ (1 ≤ y1 ∧ y1 ≤ 6)) ∧ (y2 = 0 ∨ (1 ≤ y2 ∧ y2 ≤ 6)) ∧ (y3 = 0 ∨ (1 ≤ y3 ∧ y3 ≤ 6))
  ∧ (y0 = 0 ∨ (y0 ≠ y1 ∧ y0 ≠ y2 ∧ y0 ≠ y3)) ∧ (y1 = 0 ∨ (y1 ≠ y2 ∧ y1 ≠ y3)) ∧ (y2 = 0 ∨ y2 ≠ y3)
theorem good_len {xs : List Int} {x : Int} (h : Good xs x) : (1 ≤ x ∧ x ≤ 6) ∧ (if xs.getD 0 0 = x then 1 else 0) + (if xs.getD 1 0 = x then 1 else 0) + (if xs.getD 2 0 = x then 1 else 0) + (if xs.getD 3 0 = x then 1 else 0) ≤ (1 : Int) := by
  have h2 := h.2
  rw [← posK_len]
  exact ⟨h.1, by omega⟩
theorem posK_ne {xs : List Int} {x : Int} (h : xs.getD 0 0 = x ∨ xs.getD 1 0 = x ∨ xs.getD 2 0 = x ∨ xs.getD 3 0 = x) : posK xs 4 x ≠ [] := by
  intro e
  have hl := posK_len xs x
  rw [e] at hl
  simp only [List.length_nil] at hl
  rcases h with h | h | h | h <;> simp only [h, if_true] at hl <;> (repeat' split at hl) <;> omega
theorem okFour_iff (y0 y1 y2 y3 st : Int) : OkRows [y0, y1, y2, y3] st ↔ ((0 ≤ st ∧ st ≤ 5) ∧ OkFour y0 y1 y2 y3) := by
  constructor
  · rintro ⟨_, h0, h1, h⟩
    refine ⟨⟨h0, h1⟩, ?_⟩
    have g : ∀ x, x ≠ 0 → (y0 = x ∨ y1 = x ∨ y2 = x ∨ y3 = x) → (1 ≤ x ∧ x ≤ 6) ∧ (if y0 = x then 1 else 0) + (if y1 = x then 1 else 0) + (if y2 = x then 1 else 0) + (if y3 = x then 1 else 0) ≤ (1 : Int) := fun x hx hh => good_len (h x hx (posK_ne (by simpa using hh)))
    have g0 := g y0
    have g1 := g y1
    have g2 := g y2
    have g3 := g y3
    unfold OkFour
    clear g h
    simp only [true_or, or_true, if_true, forall_const] at g0 g1 g2 g3
    refine ⟨?_, ?_, ?_, ?_, ?_, ?_, ?_⟩
    · rcases Decidable.em (y0 = 0) with e | e
      · exact .inl e
      · exact .inr (g0 e).1
    · rcases Decidable.em (y1 = 0) with e | e
      · exact .inl e
      · exact .inr (g1 e).1
    · rcases Decidable.em (y2 = 0) with e | e
      · exact .inl e
      · exact .inr (g2 e).1
    · rcases Decidable.em (y3 = 0) with e | e
      · exact .inl e
      · exact .inr (g3 e).1
    · rcases Decidable.em (y0 = 0) with e | e
      · exact .inl e
      · have q := (g0 e).2
        refine .inr ⟨?_, ?_, ?_⟩ <;> (intro e2; simp only [← e2, if_true] at q; (repeat' split at q) <;> omega)
    · rcases Decidable.em (y1 = 0) with e | e
      · exact .inl e
      · have q := (g1 e).2
        refine .inr ⟨?_, ?_⟩ <;> (intro e2; simp only [← e2, if_true] at q; (repeat' split at q) <;> omega)
    · rcases Decidable.em (y2 = 0) with e | e
      · exact .inl e
      · have q := (g2 e).2
        refine .inr ?_
        intro e2; simp only [← e2, if_true] at q; (repeat' split at q) <;> omega
  · rintro ⟨⟨h0, h1⟩, h⟩
    refine ⟨rfl, h0, h1, fun x hx hp => ?_⟩
    unfold OkFour at h
    have hmem : y0 = x ∨ y1 = x ∨ y2 = x ∨ y3 = x := by
      rcases Decidable.em (y0 = x ∨ y1 = x ∨ y2 = x ∨ y3 = x) with e | e
      · exact e
      · exfalso
        apply hp
        rw [posK_four]
        simp only [not_or] at e
        simp [e]
    refine ⟨by omega, ?_⟩
    have hl := posK_len [y0, y1, y2, y3] x
    simp only [List.getD_cons_zero, List.getD_cons_succ] at hl
    have : ((posK [y0, y1, y2, y3] 4 x).length : Int) ≤ 1 := by
      rw [hl]
      (repeat' split) <;> omega
    omega

theorem keyN_lt {y0 y1 y2 y3 v : Int} (h : keyN [y0, y1, y2, y3] v < 0) : y0 ≠ v ∧ y1 ≠ v ∧ y2 ≠ v ∧ y3 ≠ v := by
  unfold keyN at h
  simp only [List.getD_cons_zero, List.getD_cons_succ] at h
  (repeat' split at h) <;> first | omega | (refine ⟨?_, ?_, ?_, ?_⟩ <;> assumption)
theorem keyN_eq {y0 y1 y2 y3 v k : Int} (h : keyN [y0, y1, y2, y3] v = k) (hk : 0 ≤ k) : (k = 0 ∧ y0 = v) ∨ (k = 1 ∧ y1 = v) ∨ (k = 2 ∧ y2 = v) ∨ (k = 3 ∧ y3 = v) := by
  unfold keyN at h
  simp only [List.getD_cons_zero, List.getD_cons_succ] at h
  (repeat' split at h) <;> omega

set_option maxHeartbeats 1000000 in
theorem after_ok {xs : List Int} {st kind k v : Int} {ys zs : List Int} {st' : Int} (hA : AllowM xs st kind k v 0 ys) (h : AfterM xs st kind k v 0 ys zs st') : OkRows zs st' := by
  rcases h with ⟨_, _, h⟩ | ⟨h, _⟩
  case inr => exact absurd ⟨hA, rfl⟩ h
  obtain ⟨hok, hop, hA⟩ := hA
  rcases hA with ⟨h0, _⟩ | ⟨_, hD, _⟩
  · exact absurd rfl h0
  obtain ⟨y0, y1, y2, y3, rfl⟩ := four_of hok.1
  have hf := (okFour_iff y0 y1 y2 y3 st).1 hok
  obtain ⟨hk, hkey, hval⟩ := hop
  unfold KeyGood at hkey
  unfold ValGood at hval
  unfold DoneM atK at hD
  rcases h with ⟨hkd, rfl, rfl⟩ | ⟨hkd, rfl, rfl⟩ | ⟨hkd, rfl, rfl⟩ | ⟨hkd, rfl, rfl⟩
  · have hk4 : 0 ≤ k ∧ k ≤ 3 := by omega
    have hv : 1 ≤ v ∧ v ≤ 6 := by omega
    have hcase : (keyN [y0, y1, y2, y3] v < 0) ∨ keyN [y0, y1, y2, y3] v = k := by omega
    have hne : (k = 0 ∨ y0 ≠ v) ∧ (k = 1 ∨ y1 ≠ v) ∧ (k = 2 ∨ y2 ≠ v) ∧ (k = 3 ∨ y3 ≠ v) := by
      rcases hcase with h1 | h1
      · have := keyN_lt h1; omega
      · have e := keyN_eq h1 hk4.1
        obtain ⟨_, hf2⟩ := hf
        unfold OkFour at hf2
        omega
    clear hD hcase hkey hval hk hkd hok
    obtain ⟨hst, hf⟩ := hf
    unfold OkFour at hf
    rcases (show k = 0 ∨ k = 1 ∨ k = 2 ∨ k = 3 by omega) with rfl | rfl | rfl | rfl
    · show OkRows [v, y1, y2, y3] _
      rw [okFour_iff]
      refine ⟨hst, ?_⟩
      have n : y1 ≠ v ∧ y2 ≠ v ∧ y3 ≠ v := by omega
      clear hne
      unfold OkFour
      refine ⟨?_, ?_, ?_, ?_, ?_, ?_, ?_⟩ <;> omega
    · show OkRows [y0, v, y2, y3] _
      rw [okFour_iff]
      refine ⟨hst, ?_⟩
      have n : y0 ≠ v ∧ y2 ≠ v ∧ y3 ≠ v := by omega
      clear hne
      unfold OkFour
      refine ⟨?_, ?_, ?_, ?_, ?_, ?_, ?_⟩ <;> omega
    · show OkRows [y0, y1, v, y3] _
      rw [okFour_iff]
      refine ⟨hst, ?_⟩
      have n : y0 ≠ v ∧ y1 ≠ v ∧ y3 ≠ v := by omega
      clear hne
      unfold OkFour
      refine ⟨?_, ?_, ?_, ?_, ?_, ?_, ?_⟩ <;> omega
    · show OkRows [y0, y1, y2, v] _
      rw [okFour_iff]
      refine ⟨hst, ?_⟩
      have n : y0 ≠ v ∧ y1 ≠ v ∧ y2 ≠ v := by omega
      clear hne
      unfold OkFour
      refine ⟨?_, ?_, ?_, ?_, ?_, ?_, ?_⟩ <;> omega
  · have hk4 : 0 ≤ k ∧ k ≤ 3 := by omega
    clear hD hkey hval hk hkd hok
    obtain ⟨hst, hf⟩ := hf
    unfold OkFour at hf
    rcases (show k = 0 ∨ k = 1 ∨ k = 2 ∨ k = 3 by omega) with rfl | rfl | rfl | rfl
    · show OkRows [0, y1, y2, y3] _
      rw [okFour_iff]
      refine ⟨hst, ?_⟩
      unfold OkFour
      refine ⟨?_, ?_, ?_, ?_, ?_, ?_, ?_⟩ <;> omega
    · show OkRows [y0, 0, y2, y3] _
      rw [okFour_iff]
      refine ⟨hst, ?_⟩
      unfold OkFour
      refine ⟨?_, ?_, ?_, ?_, ?_, ?_, ?_⟩ <;> omega
    · show OkRows [y0, y1, 0, y3] _
      rw [okFour_iff]
      refine ⟨hst, ?_⟩
      unfold OkFour
      refine ⟨?_, ?_, ?_, ?_, ?_, ?_, ?_⟩ <;> omega
    · show OkRows [y0, y1, y2, 0] _
      rw [okFour_iff]
      refine ⟨hst, ?_⟩
      unfold OkFour
      refine ⟨?_, ?_, ?_, ?_, ?_, ?_, ?_⟩ <;> omega
  · rw [okFour_iff]
    refine ⟨?_, hf.2⟩
    omega
  · exact hok
end Go.Proofs.YtkbodiggdajbeaaGreatDoor

/- What is said of results and of rows behind them (no program). -/
namespace Go.Proofs.YtkbodiggdajbeaaGreatDoor
open Go.ChangeShapes Go.WideShapes Go.ChangeAt Go.RowKit

theorem codes (code : Int) : code = 1 ∨ code = 2 ∨ code = 3 ∨ code = 4 ∨ ((code == 1) = false ∧ (code == 2) = false ∧ (code == 3) = false ∧ (code == 4) = false) := by
  simp only [beq_eq_false_iff_ne, ne_eq]; omega
theorem says_iff {b : Bool} {P : Prop} [Decidable P] (h : b = true ↔ P) : Ending.returned (.bool b) = .returned (.bool (decide P)) := by
  rw [show b = decide P by cases b <;> simp at h ⊢ <;> exact h]
/-- The answer: that list, and whether it may come. -/
def DoneSays (e : Ending) (w' : World) (zs : List Int) (b : Bool) : Prop := ∃ (a' : Option Addr) (c' : Nat), e = .returned (.tuple #[.slice a' zs.length c', .bool b]) ∧ IntAt w' a' zs.length zs

theorem neb (a b : Int) : (a = b ∧ (a != b) = false) ∨ (¬ a = b ∧ (a != b) = true) := by
  by_cases h : a = b
  · exact .inl ⟨h, by simp [h]⟩
  · exact .inr ⟨h, by simp [h]⟩
theorem says_two {x y : Value} {b : Bool} {P : Prop} [Decidable P] (hx : x = y) (h : b = true ↔ P) : Ending.returned (.tuple #[x, .bool b]) = .returned (.tuple #[y, .bool (decide P)]) := by
  rw [hx, show b = decide P by cases b <;> simp at h ⊢ <;> exact h]
/-- What stands in memory of the three arguments, while nothing is written there. -/
def Args (w : World) (ra oa sa : Array Value) (wr : World) : Prop :=
  (∀ i u, ra[i]? = some u → wr.cell? ⟨w.heap.size, i, none⟩ = some u) ∧ (∀ i u, oa[i]? = some u → wr.cell? ⟨w.heap.size + 1, i, none⟩ = some u) ∧ (∀ i u, sa[i]? = some u → wr.cell? ⟨w.heap.size + 1 + 1, i, none⟩ = some u)
theorem args_at (w : World) (ra oa sa : Array Value) (T1 T2 T3 : TypeId) (wr : World) (h : Below (w.heap.size + 1 + 1 + 1) (((w.alloc (.cells ra T1)).alloc (.cells oa T2)).alloc (.cells sa T3)) wr) : Args w ra oa sa wr := by
  refine ⟨fun i u hu => ?_, fun i u hu => ?_, fun i u hu => ?_⟩
  · rw [h.cell (show w.heap.size < w.heap.size + 1 + 1 + 1 by omega), World.cell?_alloc_past _ _ _ (by simp; omega), World.cell?_alloc_past _ _ _ (by simp), World.cell?_alloc_at _ _ _ _ rfl]
    exact hu
  · rw [h.cell (show w.heap.size + 1 < w.heap.size + 1 + 1 + 1 by omega), World.cell?_alloc_past _ _ _ (by simp), World.cell?_alloc_at _ _ _ _ (by simp)]
    exact hu
  · rw [h.cell (show w.heap.size + 1 + 1 < w.heap.size + 1 + 1 + 1 by omega), World.cell?_alloc_at _ _ _ _ (by simp)]
    exact hu
/-- What stands in memory of the three arguments and of the answer's own place, while nothing is written there. -/
def Four (w : World) (ra oa sa va : Array Value) (wr : World) : Prop :=
  (∀ i u, ra[i]? = some u → wr.cell? ⟨w.heap.size, i, none⟩ = some u) ∧ (∀ i u, oa[i]? = some u → wr.cell? ⟨w.heap.size + 1, i, none⟩ = some u) ∧ (∀ i u, sa[i]? = some u → wr.cell? ⟨w.heap.size + 1 + 1, i, none⟩ = some u)
    ∧ (∀ i u, va[i]? = some u → wr.cell? ⟨w.heap.size + 1 + 1 + 1, i, none⟩ = some u) ∧ (∀ i, wr.frozen? ⟨w.heap.size + 1 + 1 + 1, i, none⟩ = false)
theorem four_at (w : World) (ra oa sa va : Array Value) (T1 T2 T3 T4 : TypeId) (wr : World) (h : Below (w.heap.size + 1 + 1 + 1 + 1) ((((w.alloc (.cells ra T1)).alloc (.cells oa T2)).alloc (.cells sa T3)).alloc (.cells va T4)) wr) : Four w ra oa sa va wr := by
  refine ⟨fun i u hu => ?_, fun i u hu => ?_, fun i u hu => ?_, fun i u hu => ?_, fun i => ?_⟩
  · rw [h.cell (show w.heap.size < w.heap.size + 1 + 1 + 1 + 1 by omega), World.cell?_alloc_past _ _ _ (by simp; omega), World.cell?_alloc_past _ _ _ (by simp; omega), World.cell?_alloc_past _ _ _ (by simp), World.cell?_alloc_at _ _ _ _ rfl]
    exact hu
  · rw [h.cell (show w.heap.size + 1 < w.heap.size + 1 + 1 + 1 + 1 by omega), World.cell?_alloc_past _ _ _ (by simp; try omega), World.cell?_alloc_past _ _ _ (by simp), World.cell?_alloc_at _ _ _ _ (by simp)]
    exact hu
  · rw [h.cell (show w.heap.size + 1 + 1 < w.heap.size + 1 + 1 + 1 + 1 by omega), World.cell?_alloc_past _ _ _ (by simp), World.cell?_alloc_at _ _ _ _ (by simp)]
    exact hu
  · rw [h.cell (show w.heap.size + 1 + 1 + 1 < w.heap.size + 1 + 1 + 1 + 1 by omega), World.cell?_alloc_at _ _ _ _ (by simp)]
    exact hu
  · rw [h.frozen (show w.heap.size + 1 + 1 + 1 < w.heap.size + 1 + 1 + 1 + 1 by omega)]
    simp [World.frozen?_alloc_at]

/-- The answer: new rows, as they are behind it. -/
def AfterSays (e : Ending) (w w' : World) (n : Nat) (A : List Int → Int → Prop) : Prop :=
  ∃ (zs : List Int) (st' : Int) (a' : Option Addr) (c' : Nat), e = .returned (.agg #[.slice a' n c', .int .i64 st']) ∧ A zs st' ∧ w'.ownsRow w.heap.size 3 1 (.slice a' n c') n (zs.map I)
end Go.Proofs.YtkbodiggdajbeaaGreatDoor

/- Chapter 11, in plain words: what the calls of a machine make of its rows, one behind the other; when they were. No program. -/
namespace Go.Proofs.YtkbodiggdajbeaaGreatDoor
open Go.ChangeShapes Go.WideShapes Go.ChangeAt Go.RowKit Go.Joins

/-- What came of a call: its list. -/
def resD (r : List Cel) : List Int := nums (listC (nthC r 8))
def rsD (cs : List Cel) : Nat → List Int := fun i => resD (row (listC (nthC cs 4)) 9 i)
/-- n calls lie there, and what came of them. -/
def CasR (w : World) (a : Option Addr) (n : Nat) (f : Nat → CaD) (rs : Nat → List Int) : Prop :=
  n = 0 ∨ ∃ b o, a = some ⟨b, o, none⟩ ∧ ∀ i, i < n → ∃ ra rn rc, CaC w b (o + i * 9) (f i) (.slice ra rn rc) ∧ IntAt w ra rn (rs i)
theorem CasR.below {w w' : World} {a : Option Addr} {n : Nat} {f : Nat → CaD} {rs : Nat → List Int} (h : CasR w a n f rs) {B : Nat} (hb : Below B w w') (hB : w.heap.size ≤ B) : CasR w' a n f rs := by
  obtain h2 | ⟨b, o, h3, h4⟩ := h
  · exact .inl h2
  · refine .inr ⟨b, o, h3, fun i hi => ?_⟩
    obtain ⟨ra, rn, rc, h5, h6⟩ := h4 i hi
    exact ⟨ra, rn, rc, h5.below hb hB, h6.below hb hB⟩
theorem at_call_r {w : World} {b p : Nat} {us : List Value} {r : List Cel} (h : AtL true w us r) (hs : HasL r tyCall) (hc : ∀ i, i < 9 → w.cell? ⟨b, p + i, none⟩ = us[i]?) : ∃ ra rn rc, CaC w b p (caD r) (.slice ra rn rc) ∧ IntAt w ra rn (resD r) := by
  obtain ⟨x0, r0, rfl, T0, hH0⟩ := hs.cons
  obtain ⟨x1, r1, rfl, T1, hH1⟩ := hH0.cons
  obtain ⟨x2, r2, rfl, T2, hH2⟩ := hH1.cons
  obtain ⟨x3, r3, rfl, T3, hH3⟩ := hH2.cons
  obtain ⟨x4, r4, rfl, T4, hH4⟩ := hH3.cons
  obtain ⟨x5, r5, rfl, T5, hH5⟩ := hH4.cons
  obtain ⟨x6, r6, rfl, T6, hH6⟩ := hH5.cons
  obtain ⟨x7, r7, rfl, T7, hH7⟩ := hH6.cons
  obtain ⟨x8, r8, rfl, T8, hH8⟩ := hH7.cons
  obtain rfl := hH8.nil
  obtain ⟨v0, vr0, rfl, A0, hA0⟩ := h.consE
  obtain ⟨v1, vr1, rfl, A1, hA1⟩ := hA0.consE
  obtain ⟨v2, vr2, rfl, A2, hA2⟩ := hA1.consE
  obtain ⟨v3, vr3, rfl, A3, hA3⟩ := hA2.consE
  obtain ⟨v4, vr4, rfl, A4, hA4⟩ := hA3.consE
  obtain ⟨v5, vr5, rfl, A5, hA5⟩ := hA4.consE
  obtain ⟨v6, vr6, rfl, A6, hA6⟩ := hA5.consE
  obtain ⟨v7, vr7, rfl, A7, hA7⟩ := hA6.consE
  obtain ⟨v8, vr8, rfl, A8, hA8⟩ := hA7.consE
  obtain rfl := hA8.nilE
  obtain ⟨y0, rfl⟩ := T0.int
  obtain ⟨y1, rfl⟩ := T1.int
  obtain ⟨y2, rfl⟩ := T2.int
  obtain ⟨y3, rfl⟩ := T3.int
  obtain ⟨y4, rfl⟩ := T4.int
  obtain ⟨y5, rfl⟩ := T5.int
  obtain ⟨y6, rfl⟩ := T6.int
  obtain ⟨y7, rfl⟩ := T7.int
  obtain ⟨n8, l8, rfl, _⟩ := T8.list
  obtain rfl := A0.int
  obtain rfl := A1.int
  obtain rfl := A2.int
  obtain rfl := A3.int
  obtain rfl := A4.int
  obtain rfl := A5.int
  obtain rfl := A6.int
  obtain rfl := A7.int
  obtain ⟨a8, c8, rfl⟩ := A8.slice
  exact ⟨a8, n8, c8, ⟨hc 0 (by omega), hc 1 (by omega), hc 2 (by omega), hc 3 (by omega), hc 4 (by omega), hc 5 (by omega), hc 6 (by omega), hc 7 (by omega), hc 8 (by omega)⟩, (at_kAt A8 T8 i1).ints⟩
theorem at_machine_r {w : World} {us : List Value} {cs : List Cel} (h : AtL true w us cs) (hs : HasL cs tyMachine) (hb : bigL cs ≤ 1048576) :
    ∃ wa wc da dc ta tc ca cc oa oc ha hc, .agg us.toArray = MaV wa wc da dc ta tc ca cc oa oc ha hc (maD cs) ∧ MaAt w wa da ta ca oa ha (maD cs) ∧ CapAt w da (maD cs).nd (maD cs).ds ∧ (maD cs).nh ≤ hc ∧ CasR w ca (maD cs).nc (maD cs).f (rsD cs) := by
  obtain ⟨wa, wc, da, dc, ta, tc, ca, cc, oa, oc, ha, hc, e, hM, hC, hh⟩ := at_machine h hs hb
  refine ⟨wa, wc, da, dc, ta, tc, ca, cc, oa, oc, ha, hc, e, hM, hC, hh, ?_⟩
  clear hM hC hh
  obtain ⟨x0, r0, rfl, T0, hH0⟩ := hs.cons
  obtain ⟨x1, r1, rfl, T1, hH1⟩ := hH0.cons
  obtain ⟨x2, r2, rfl, T2, hH2⟩ := hH1.cons
  obtain ⟨x3, r3, rfl, T3, hH3⟩ := hH2.cons
  obtain ⟨x4, r4, rfl, T4, hH4⟩ := hH3.cons
  obtain ⟨x5, r5, rfl, T5, hH5⟩ := hH4.cons
  obtain ⟨x6, r6, rfl, T6, hH6⟩ := hH5.cons
  obtain ⟨x7, r7, rfl, T7, hH7⟩ := hH6.cons
  obtain rfl := hH7.nil
  obtain ⟨v0, vr0, rfl, A0, hA0⟩ := h.consE
  obtain ⟨v1, vr1, rfl, A1, hA1⟩ := hA0.consE
  obtain ⟨v2, vr2, rfl, A2, hA2⟩ := hA1.consE
  obtain ⟨v3, vr3, rfl, A3, hA3⟩ := hA2.consE
  obtain ⟨v4, vr4, rfl, A4, hA4⟩ := hA3.consE
  obtain ⟨v5, vr5, rfl, A5, hA5⟩ := hA4.consE
  obtain ⟨v6, vr6, rfl, A6, hA6⟩ := hA5.consE
  obtain ⟨v7, vr7, rfl, A7, hA7⟩ := hA6.consE
  obtain rfl := hA7.nilE
  obtain ⟨n4, l4, rfl, e4⟩ := T4.list
  have hv : v4 = .slice ca n4 cc := by
    have := congrArg (fun v => match v with | Value.agg a => a.getD 4 undef | _ => undef) e
    exact this
  subst hv
  show n4 = 0 ∨ ∃ b o, ca = some ⟨b, o, none⟩ ∧ ∀ i, i < n4 → ∃ ra rn rc, CaC w b (o + i * 9) (caD (row l4 9 i)) (.slice ra rn rc) ∧ IntAt w ra rn (resD (row l4 9 i))
  rcases at_rows A4 with h0 | ⟨b, o, rfl, hr⟩
  · exact .inl h0
  · refine .inr ⟨b, o, rfl, fun i hi => ?_⟩
    obtain ⟨us, hu, hc⟩ := hr i hi
    exact at_call_r hu (T4.rowL hi) hc

/-- The call that stands i-th in the order. -/
def calN (M : MaD) (i : Nat) : Nat := (M.os.getD i 0).toNat
def AlwJ (M : MaD) (rs : Nat → List Int) (i : Nat) (xs : List Int) (st : Int) : Prop := AllowM xs st (M.f (calN M i)).kd (M.f (calN M i)).k (M.f (calN M i)).v (M.f (calN M i)).cd (rs (calN M i))
/-- The rows behind the first calls of the order. -/
def ReplM (M : MaD) (rs : Nat → List Int) : Nat → List Int → Int → Prop
  | 0, xs, st => xs = M.hs ∧ st = M.st
  | i + 1, xs, st => ∃ xs0 st0, ReplM M rs i xs0 st0 ∧ AfterM xs0 st0 (M.f (calN M i)).kd (M.f (calN M i)).k (M.f (calN M i)).v (M.f (calN M i)).cd (rs (calN M i)) xs st
theorem ReplM.one {M : MaD} {rs : Nat → List Int} : ∀ {i : Nat} {xs ys : List Int} {s t : Int}, ReplM M rs i xs s → ReplM M rs i ys t → xs = ys ∧ s = t
  | 0, _, _, _, _, h, g => ⟨h.1.trans g.1.symm, h.2.trans g.2.symm⟩
  | i + 1, _, _, _, _, h, g => by
    obtain ⟨x0, s0, h0, h1⟩ := h
    obtain ⟨y0, t0, g0, g1⟩ := g
    obtain ⟨rfl, rfl⟩ := ReplM.one h0 g0
    exact h1.one g1
/-- Each of the first n was allowed. -/
def SoM (M : MaD) (rs : Nat → List Int) (n : Nat) : Prop := ∀ i, i < n → ∀ xs st, ReplM M rs i xs st → AlwJ M rs i xs st
theorem SoM.succ {M : MaD} {rs : Nat → List Int} {n : Nat} {xs : List Int} {st : Int} (h : ReplM M rs n xs st) : SoM M rs (n + 1) ↔ SoM M rs n ∧ AlwJ M rs n xs st := by
  constructor
  · intro g
    exact ⟨fun i hi => g i (by omega), g n (by omega) _ _ h⟩
  · rintro ⟨g1, g2⟩ i hi ys t hy
    by_cases hn : i < n
    · exact g1 i hn ys t hy
    · obtain rfl : i = n := by omega
      obtain ⟨rfl, rfl⟩ := hy.one h
      exact g2
theorem after_rows {xs : List Int} {st kind k v code : Int} {ys zs : List Int} {st' : Int} (ho : OkRows xs st) (h : AfterM xs st kind k v code ys zs st') : OkRows zs st' := by
  by_cases hA : AllowM xs st kind k v code ys ∧ code = 0
  · obtain ⟨hA, rfl⟩ := hA
    exact after_ok hA h
  · rcases h with ⟨h1, h2, _⟩ | ⟨_, rfl, rfl⟩
    · exact absurd ⟨h1, h2⟩ hA
    · exact ho
theorem ReplM.ok {M : MaD} {rs : Nat → List Int} (ho : OkRows M.hs M.st) : ∀ {i : Nat} {xs : List Int} {st : Int}, ReplM M rs i xs st → OkRows xs st
  | 0, _, _, h => by obtain ⟨rfl, rfl⟩ := h; exact ho
  | i + 1, _, _, h => by
    obtain ⟨x0, s0, h0, h1⟩ := h
    exact after_rows (ReplM.ok ho h0) h1
/-- Replay is true. -/
def JSo (M : MaD) (rs : Nat → List Int) : Prop := MachGood M ∧ SoM M rs M.no
end Go.Proofs.YtkbodiggdajbeaaGreatDoor

/- spec.MachineText, walked. -/
namespace Go.Proofs.YtkbodiggdajbeaaGreatDoor
open Go.ChangeShapes Go.WideShapes Go.ChangeAt Go.RowKit Go.Lib

def wordsMt (M : MaD) : List Int := meanM M.ws M.nw M.ds
def machB (M : MaD) (rs : Nat → List Int) : List UInt8 := rowsB (inX (wordsMt M)) (inS (wordsMt M)) ++ 10 :: callsB M.f rs M.nc
/-- The rows that words tell can be written. -/
def RowsWf (ws : List Int) : Prop := In64s (inX ws) ∧ I64 (inS ws)
theorem inX_le (ws : List Int) : (inX ws).length ≤ 4 := by have := inX_len (ws := ws); omega
set_option maxHeartbeats 4000000 in
set_option maxRecDepth 100000 in
theorem specMachineText_any (wa : Option Addr) (wc : Nat) (da : Option Addr) (dc : Nat) (ta : Option Addr) (tc : Nat) (ca : Option Addr) (cc : Nat) (oa : Option Addr) (oc : Nat) (ha : Option Addr) (hc : Nat) (M : MaD) (rs : Nat → List Int) (w : World) (h : MaAt w wa da ta ca oa ha M) (hr : CasR w ca M.nc M.f rs)
    (hw : RowsWf (wordsMt M)) (hf : CallsWf M.nc M.f rs) :
    Calls Tryz.prog 5 #[MaV wa wc da dc ta tc ca cc oa oc ha hc M] w fun e w' => TextSays e (machB M rs) ∧ Below w.heap.size w w' := by
  have HCR : Hid (CasR w ca M.nc M.f rs) := hr
  have HWD : Hid (TripAt w wa M.nw M.ws ∧ DescAt w da M.nd M.ds) := ⟨h.words, h.descs⟩
  have hncb := h.calls.1
  obtain ⟨WS, hWS⟩ : ∃ WS, wordsMt M = WS := ⟨_, rfl⟩
  have HWS : Hid (meanM M.ws M.nw M.ds = WS) := hWS
  have HMB : Hid (machB M rs = rowsB (inX WS) (inS WS) ++ 10 :: callsB M.f rs M.nc) := by show _ = _; unfold machB; rw [hWS]
  have HRW : Hid (RowsWf WS) := by rw [← hWS]; exact hw
  have HF : Hid (CallsWf M.nc M.f rs) := hf
  have HML : Hid ((meanM M.ws M.nw M.ds).length = M.nw) := meanM_len M.ws M.nw M.ds
  obtain ⟨TX, hTX⟩ : ∃ TX, machB M rs = TX := ⟨_, rfl⟩
  rw [hTX] at HMB ⊢
  clear hTX hWS hw hf h hr
  obtain ⟨nw, ws, nd, ds, nt, ts, tm, nc, f, no, os, nh, hs, st⟩ := M
  dsimp only at HCR HWD HWS HMB HF hncb HML
  show Calls Tryz.prog 5 #[.agg #[.slice wa nw wc, .slice da nd dc, .slice ta nt tc, .int .i64 tm, .slice ca nc cc, .slice oa no oc, .slice ha nh hc, .int .i64 st]] w fun e w' => TextSays e TX ∧ Below w.heap.size w w'
  obtain ⟨sz, hsz⟩ : ∃ sz, w.heap.size = sz := ⟨_, rfl⟩
  obtain ⟨W, hW⟩ : ∃ W, w.alloc (.cells #[.slice wa nw wc, .slice da nd dc, .slice ta nt tc, .int .i64 tm, .slice ca nc cc, .slice oa no oc, .slice ha nh hc, .int .i64 st] 43) = W := ⟨_, rfl⟩
  have BM : Hid (Box W sz #[.slice wa nw wc, .slice da nd dc, .slice ta nt tc, .int .i64 tm, .slice ca nc cc, .slice oa no oc, .slice ha nh hc, .int .i64 st] 43) := by rw [← hW, ← hsz]; exact box_of w _ _
  have HB0 : Hid (Below sz w W) := by rw [← hW, ← hsz]; exact (Below.refl _ w).alloc (Nat.le_refl _) _
  have HW : Hid (w.alloc (.cells #[.slice wa nw wc, .slice da nd dc, .slice ta nt tc, .int .i64 tm, .slice ca nc cc, .slice oa no oc, .slice ha nh hc, .int .i64 st] 43) = W) := hW
  have HSZ : Hid (w.heap.size = sz) := hsz
  have HLE : Hid (w.heap.size ≤ sz) := by show _ ≤ _; omega
  rw [show (fun e w' => TextSays e TX ∧ Below w.heap.size w w') = (fun e w' => TextSays e TX ∧ Below sz w w') by rw [hsz]]
  clear hW hsz
  obtain ⟨z0, z1, z2, z3, z4, z5, z6, z7⟩ := eight_of BM.out
  go_enter Tryz.func5, Tryz.ntmps5
  go_upto_region 1 with (fail)
  rw [HW.out]
  (try rw [HSZ.out])
  go_wp2_with fail
  refine (specMeaning_any wa nw wc ws da nd dc ds W (HWD.out.1.below HB0.out HLE.out) (HWD.out.2.below HB0.out HLE.out)).mono ?_
  rintro e w1 ⟨v1, rfl, ho1, hb1⟩
  obtain ⟨a1, c1, rfl, hc1⟩ := owns_slice ho1
  have hI1 : IntAt w1 a1 nw WS := by
    rw [HWS.out] at ho1
    have hlen : nw ≤ 1099511627776 := by have := HWD.out.1.2.1; omega
    obtain ⟨a', c', e1, h1⟩ := own_at ho1 hlen
    cases e1
    exact h1
  have HB1 : Hid (Below sz w w1) := HB0.out.trans (hb1.mono (by have := BM.out.lt; omega))
  have BM1 : Hid (Box w1 sz #[.slice wa nw wc, .slice da nd dc, .slice ta nt tc, .int .i64 tm, .slice ca nc cc, .slice oa no oc, .slice ha nh hc, .int .i64 st] 43) := BM.out.below hb1 BM.out.lt
  clear ho1 hb1 z0 z1 z2 z3 z4 z5 z6 z7
  go_wp2_with fail
  refine (specRowsIn_any a1 nw c1 WS w1 hI1 hc1).mono ?_
  rintro e w2 ⟨hsay, hb2⟩
  obtain ⟨a2, c2, rfl, hc2, hI2⟩ := hsay.at
  have HB2 : Hid (Below sz w w2) := HB1.out.trans (hb2.mono (by have := BM1.out.lt; omega))
  have BM2 : Hid (Box w2 sz #[.slice wa nw wc, .slice da nd dc, .slice ta nt tc, .int .i64 tm, .slice ca nc cc, .slice oa no oc, .slice ha nh hc, .int .i64 st] 43) := BM1.out.below hb2 BM1.out.lt
  clear hb2 hsay hI1
  go_wp2_with fail
  refine (specRowsText_any a2 (inX WS).length c2 (inS WS) (inX WS) w2 hI2 HRW.out.1 HRW.out.2 (by have := inX_le WS; omega)).mono ?_
  rintro e w3 ⟨⟨s3, rfl, hs3⟩, hb3⟩
  have HS3 : Hid (s3.data.toList = rowsB (inX WS) (inS WS)) := hs3
  have hz3 : s3.size ≤ 110 := by
    have h1 := rowsB_le HRW.out.1 HRW.out.2
    have h2 := inX_le WS
    rw [szS s3 hs3]
    omega
  have HB3 : Hid (Below sz w w3) := HB2.out.trans (hb3.mono (by have := BM2.out.lt; omega))
  have BM3 : Hid (Box w3 sz #[.slice wa nw wc, .slice da nd dc, .slice ta nt tc, .int .i64 tm, .slice ca nc cc, .slice oa no oc, .slice ha nh hc, .int .i64 st] 43) := BM2.out.below hb3 BM2.out.lt
  have hc0 : s3.size + 1 ≤ 9223372036854775807 := by omega
  have hd0 : ¬ (9223372036854775807 < s3.size + 1) := by omega
  clear hb3 hs3 hI2
  go_wp2
  go_loopw [3, 4] (fun out i wr => ∃ (j : Nat) (s : ByteArray), j ≤ nc ∧ out = .string s ∧ i = .int .i64 (j : Int) ∧ s.data.toList = rowsB (inX WS) (inS WS) ++ 10 :: callsB f rs j ∧ Below sz w wr ∧ Box wr sz #[.slice wa nw wc, .slice da nd dc, .slice ta nt tc, .int .i64 tm, .slice ca nc cc, .slice oa no oc, .slice ha nh hc, .int .i64 st] 43) (fun _ i _ => nc - (RowKit.intOf i).toNat)
  case atStart => exact ⟨0, _, Nat.zero_le _, rfl, rfl, by simp [HS3.out, callsB], HB3.out, BM3.out⟩
  case round =>
    clear hz3 hc0 hd0
    obtain ⟨j, s, hj, rfl, rfl, hs, hb, hbx⟩ := hrel
    have HSS : Hid (s.data.toList = rowsB (inX WS) (inS WS) ++ 10 :: callsB f rs j) := hs
    have HB : Hid (Below sz w wr) := hb
    have BMR : Hid (Box wr sz #[.slice wa nw wc, .slice da nd dc, .slice ta nt tc, .int .i64 tm, .slice ca nc cc, .slice oa no oc, .slice ha nh hc, .int .i64 st] 43) := hbx
    have hsz2 : s.size ≤ 111 + nc * 23068722 := by
      have h1 := rowsB_le HRW.out.1 HRW.out.2
      have h2 := inX_le WS
      have h3 := callsB_le (n := j) (f := f) (rs := rs) fun i hi => HF.out i (by omega)
      have h4 : j * 23068722 ≤ nc * 23068722 := Nat.mul_le_mul_right _ hj
      rw [szS s hs, List.length_append, List.length_cons]
      omega
    obtain ⟨z0, z1, z2, z3, z4, z5, z6, z7⟩ := eight_of hbx
    clear hs hb hbx
    by_cases hlt : j < nc
    · rcases HCR.out.below HB.out HLE.out with h0 | ⟨p1, o1, rfl, g2⟩
      · omega
      obtain ⟨ra, rn, rc, ⟨e0, e1, e2, e3, e4, e5, e6, e7, e8⟩, hres⟩ := g2 j hlt
      obtain ⟨L, hL⟩ : ∃ L, rs j = L := ⟨_, rfl⟩
      obtain ⟨C, hC⟩ : ∃ C, f j = C := ⟨_, rfl⟩
      obtain ⟨hw1, hw2, hw3⟩ := HF.out j hlt
      have HNX : Hid (callsB f rs (j + 1) = callsB f rs j ++ (callB C L ++ [10])) := by show _ = _; rw [callsB, hC, hL]
      rw [hL] at hres hw2 hw3
      rw [hC] at e0 e1 e2 e3 e4 e5 e6 e7 hw1
      have hlc := callB_le hw1 hw2 hw3
      have hrn : rn ≤ 1048576 := by have := hres.1; omega
      obtain ⟨x0, x1, x2, x3, x4, x5, x6, x7⟩ := C
      dsimp only at e0 e1 e2 e3 e4 e5 e6 e7
      clear g2 hC hL
      go_wp2_with fail
      refine (specCallText_any ⟨x0, x1, x2, x3, x4, x5, x6, x7⟩ ra rn rc L wr hres hw2 hw1 hrn).mono ?_
      rintro e w4 ⟨⟨s4, rfl, hs4⟩, hb4⟩
      have HS4 : Hid (s4.data.toList = callB ⟨x0, x1, x2, x3, x4, x5, x6, x7⟩ L) := hs4
      have hz4 : s4.size ≤ 23068721 := by rw [szS s4 hs4]; exact hlc
      have HB4 : Hid (Below sz w w4) := HB.out.trans (hb4.mono (by have := BMR.out.lt; omega))
      have BM4 : Hid (Box w4 sz _ _) := BMR.out.below hb4 BMR.out.lt
      have hc1 : s.size + s4.size ≤ 9223372036854775807 := by omega
      have hd1 : ¬ (9223372036854775807 < s.size + s4.size) := by omega
      have hc2 : s.size + s4.size + 1 ≤ 9223372036854775807 := by omega
      have hd2 : ¬ (9223372036854775807 < s.size + s4.size + 1) := by omega
      clear hs4 hb4 e0 e1 e2 e3 e4 e5 e6 e7 e8 hres hw1 hw2 hw3 z0 z1 z2 z3 z4 z5 z6 z7
      go_wp2
      refine ⟨⟨j + 1, _, by omega, rfl, by go_num, ?_, HB4.out, BM4.out⟩, by simp [RowKit.intOf]; omega⟩
      rw [HNX.out]
      simp [HSS.out, HS4.out]
    · obtain rfl : j = nc := by omega
      go_wp2
      go_ret
      exact ⟨⟨s, rfl, HSS.out.trans HMB.out.symm⟩, HB.out⟩
end Go.Proofs.YtkbodiggdajbeaaGreatDoor

/- Parts of what is shown, as data: numbers, pieces, lines; a list of them as it lies in memory. -/
namespace Go.Proofs.YtkbodiggdajbeaaGreatDoor
open Go.ChangeShapes Go.WideShapes Go.ChangeAt Go.RowKit
open Go.Lib (itoa IsBuilder BuilderAt byteCells strCells byteCells_length strCells_eq byteCells_append fresh_isBuilder)

inductive Pt where
  | num (n : Int)
  | pc (s : ByteArray)
  | ln (s : ByteArray)
/-- A part as the program has it. -/
def ptV : Pt → Value
  | .num n => .iface 105 (.int .i64 n)
  | .pc s => .iface 104 (.string s)
  | .ln s => .iface 67 (.string s)
/-- What a part tells. -/
def ptB : Pt → List UInt8
  | .num n => itoa n
  | .pc s => s.data.toList
  | .ln s => s.data.toList ++ [10]
def PtOk : Pt → Prop
  | .num n => -9223372036854775808 ≤ n ∧ n ≤ 9223372036854775807
  | _ => True
def shownB (ps : List Pt) : List UInt8 := ps.flatMap ptB
theorem shown_succ {ps : List Pt} {j : Nat} {x : Pt} (h : ps[j]? = some x) : shownB (ps.take (j + 1)) = shownB (ps.take j) ++ ptB x := by
  have hj : j < ps.length := (List.getElem?_eq_some_iff.1 h).1
  have hx : ps[j] = x := (List.getElem?_eq_some_iff.1 h).2
  unfold shownB
  rw [List.take_succ_eq_append_getElem hj, List.flatMap_append, hx]
  simp
theorem shown_le (ps : List Pt) (j : Nat) : (shownB (ps.take j)).length ≤ (shownB ps).length := by
  have h : shownB ps = shownB (ps.take j) ++ shownB (ps.drop j) := by
    unfold shownB
    rw [← List.flatMap_append, List.take_append_drop]
  rw [h, List.length_append]
  omega
/-- n parts lie there. -/
def PtsAt (w : World) (a : Option Addr) (n : Nat) (ps : List Pt) : Prop :=
  ps.length = n ∧ (n = 0 ∨ ∃ b o, a = some ⟨b, o, none⟩ ∧ ∀ i x, ps[i]? = some x → w.cell? ⟨b, o + i, none⟩ = some (ptV x))
theorem PtsAt.below {w w' : World} {a : Option Addr} {n : Nat} {ps : List Pt} (h : PtsAt w a n ps) {B : Nat} (hb : Below B w w') (hB : w.heap.size ≤ B) : PtsAt w' a n ps := by
  obtain ⟨h1, h2 | ⟨b, o, h3, h4⟩⟩ := h
  · exact ⟨h1, .inl h2⟩
  · refine ⟨h1, .inr ⟨b, o, h3, fun i x hi => ?_⟩⟩
    have h5 := h4 i x hi
    rw [hb.cell (show b < B from Nat.lt_of_lt_of_le (World.block_lt_of_cell? w _ h5) hB)]
    exact h5
theorem Box.pts {w : World} {b : Nat} {T : TypeId} {ps : List Pt} (h : Box w b (ps.map ptV).toArray T) : PtsAt w (some ⟨b, 0, none⟩) ps.length ps := by
  refine ⟨rfl, .inr ⟨b, 0, rfl, fun i x hi => ?_⟩⟩
  rw [Nat.zero_add, h.cell i]
  simp [hi]
theorem own_pts {w : World} {base : Nat} {e : TypeId} {v : Value} {n : Nat} {ps : List Pt} (h : w.ownsRow base e 1 v n (ps.map ptV)) (hn : ps.length = n) : ∃ a c, v = .slice a n c ∧ n ≤ c ∧ PtsAt w a n ps := by
  obtain ⟨a, c, rfl, hc⟩ := owns_slice h
  rcases owns_forms h with ⟨h2, h3⟩ | ⟨g, cap, hv⟩
  · exact ⟨a, c, rfl, hc, hn, .inl (by omega)⟩
  · cases hv
    refine ⟨_, _, rfl, hc, hn, .inr ⟨g, 0, rfl, fun i x hi => ?_⟩⟩
    have hlt : i < ps.length := (List.getElem?_eq_some_iff.1 hi).1
    rw [Nat.zero_add, h.cellAt i (by omega), List.getElem?_map, hi]
    rfl
end Go.Proofs.YtkbodiggdajbeaaGreatDoor

/- Contracts of the library's functions, proved once by the kit over any program, laid at this translation: strconv_Itoa, strings_Join, Builder_String_any. -/
namespace Go.Proofs
open Go.Shelf
def Tryz.lays169_ren : Go.Shelf.Ren := ⟨fun | 169 => 55 | n => n, fun | 70 => 107 | 9 => 9 | 0 => 0 | 72 => 110 | 37 => 108 | 127 => 165 | 3 => 3 | 5 => 5 | n => n, fun | n => n⟩
theorem Tryz.lays169 : Go.Proofs.Lays.n169 Tryz.prog Tryz.lays169_ren := {
  mixed := by kernel_rfl
  f169 := Tryz.func55.trans (congrArg some (by kernel_rfl))
  t0 := Tryz.underlying0
  a0 := Tryz.isAgg0
  z0 := Tryz.sizeOf0
  v0 := Tryz.zeroValue0
  t3 := Tryz.underlying3
  a3 := Tryz.isAgg3
  z3 := Tryz.sizeOf3
  v3 := Tryz.zeroValue3
  t9 := Tryz.underlying9
  a9 := Tryz.isAgg9
  z9 := Tryz.sizeOf9
  v9 := Tryz.zeroValue9
  t37 := Tryz.underlying108
  a37 := Tryz.isAgg108
  z37 := Tryz.sizeOf108
  v37 := Tryz.zeroValue108
  t70 := Tryz.underlying107
  a70 := Tryz.isAgg107
  z70 := Tryz.sizeOf107
  v70 := Tryz.zeroValue107
  t72 := Tryz.underlying110
  a72 := Tryz.isAgg110
  z72 := Tryz.sizeOf110
  v72 := Tryz.zeroValue110
  t127 := Tryz.underlying165
  a127 := Tryz.isAgg165
  z127 := Tryz.sizeOf165
  v127 := Tryz.zeroValue165 }
theorem Tryz.Builder_Extra_169 : Builder.Extra Tryz.prog Tryz.lays169_ren := {
  sizeBuilder := by kernel_rfl
  liesBuilder := by kernel_rfl
  t5 := Tryz.underlying5
  a5 := Tryz.isAgg5
  z5 := Tryz.sizeOf5
  v5 := Tryz.zeroValue5
  infoByte := by kernel_rfl
  cellsByte := by kernel_rfl
  sizeByte := by kernel_rfl
  neB5 := by decide }
open Go.RowKit in
/-- (*strings.Builder).String: "String returns the accumulated string.": WHATEVER THE BUILDER HOLDS. (LAID: no walk: one application.) -/
theorem Tryz.Builder_String_any (B b : Nat) (l : List UInt8) (w : World) (h : Lib.IsBuilder 110 5 B b (Lib.byteCells l) w) (hBw : B ≤ w.heap.size) :
    Calls Tryz.prog 55 #[.pointer (some ⟨b, 0, none⟩)] w fun e w' => e = .returned (.string ⟨l.toArray⟩) ∧ Below B w w' := Any.Builder_String_any Tryz.lays169 Tryz.Builder_Extra_169 B b l w h hBw
def Tryz.lays156_ren : Go.Shelf.Ren := ⟨fun | 156 => 84 | 165 => 106 | 166 => 53 | 169 => 55 | 240 => 89 | 241 => 116 | 276 => 108 | 277 => 119 | n => n, fun | 31 => 143 | 9 => 9 | 3 => 3 | 4 => 4 | 0 => 0 | 20 => 20 | 72 => 110 | 76 => 115 | 70 => 107 | 37 => 108 | 75 => 114 | 127 => 165 | 164 => 193 | 5 => 5 | 80 => 117 | n => n, fun | n => n⟩
theorem Tryz.lays156 : Go.Proofs.Lays.n156 Tryz.prog Tryz.lays156_ren := {
  mixed := by kernel_rfl
  f156 := Tryz.func84.trans (congrArg some (by kernel_rfl))
  f165 := Tryz.func106.trans (congrArg some (by kernel_rfl))
  f166 := Tryz.func53.trans (congrArg some (by kernel_rfl))
  f169 := Tryz.func55.trans (congrArg some (by kernel_rfl))
  f240 := Tryz.func89.trans (congrArg some (by kernel_rfl))
  f241 := Tryz.func116.trans (congrArg some (by kernel_rfl))
  f276 := Tryz.func108.trans (congrArg some (by kernel_rfl))
  f277 := Tryz.func119.trans (congrArg some (by kernel_rfl))
  t0 := Tryz.underlying0
  a0 := Tryz.isAgg0
  z0 := Tryz.sizeOf0
  v0 := Tryz.zeroValue0
  t3 := Tryz.underlying3
  a3 := Tryz.isAgg3
  z3 := Tryz.sizeOf3
  v3 := Tryz.zeroValue3
  t4 := Tryz.underlying4
  a4 := Tryz.isAgg4
  z4 := Tryz.sizeOf4
  v4 := Tryz.zeroValue4
  t9 := Tryz.underlying9
  a9 := Tryz.isAgg9
  z9 := Tryz.sizeOf9
  v9 := Tryz.zeroValue9
  t20 := Tryz.underlying20
  a20 := Tryz.isAgg20
  z20 := Tryz.sizeOf20
  v20 := Tryz.zeroValue20
  t31 := Tryz.underlying143
  a31 := Tryz.isAgg143
  z31 := Tryz.sizeOf143
  v31 := Tryz.zeroValue143
  t37 := Tryz.underlying108
  a37 := Tryz.isAgg108
  z37 := Tryz.sizeOf108
  v37 := Tryz.zeroValue108
  t70 := Tryz.underlying107
  a70 := Tryz.isAgg107
  z70 := Tryz.sizeOf107
  v70 := Tryz.zeroValue107
  t72 := Tryz.underlying110
  a72 := Tryz.isAgg110
  z72 := Tryz.sizeOf110
  v72 := Tryz.zeroValue110
  t75 := Tryz.underlying114
  a75 := Tryz.isAgg114
  z75 := Tryz.sizeOf114
  v75 := Tryz.zeroValue114
  t76 := Tryz.underlying115
  a76 := Tryz.isAgg115
  z76 := Tryz.sizeOf115
  v76 := Tryz.zeroValue115
  t127 := Tryz.underlying165
  a127 := Tryz.isAgg165
  z127 := Tryz.sizeOf165
  v127 := Tryz.zeroValue165
  t164 := Tryz.underlying193
  a164 := Tryz.isAgg193
  z164 := Tryz.sizeOf193
  v164 := Tryz.zeroValue193 }
theorem Tryz.Builder_Extra_156 : Builder.Extra Tryz.prog Tryz.lays156_ren := {
  sizeBuilder := by kernel_rfl
  liesBuilder := by kernel_rfl
  t5 := Tryz.underlying5
  a5 := Tryz.isAgg5
  z5 := Tryz.sizeOf5
  v5 := Tryz.zeroValue5
  infoByte := by kernel_rfl
  cellsByte := by kernel_rfl
  sizeByte := by kernel_rfl
  neB5 := by decide }
open Go.RowKit in
/-- strings.Join: "Join concatenates the elements of its first argument to create a single string. The separator string sep is placed between elements in the resulting string.": HOWEVER MANY ELEMENTS. Below the heap's end the world is as it was. (LAID: no walk: one application.) -/
theorem Tryz.strings_Join (bk o c : Nat) (xs : List ByteArray) (sep : ByteArray) (w : World) (hcells : ∀ (j : Nat) x, xs[j]? = some x → w.cell? ⟨bk, o + j, none⟩ = some (.string x)) (hbk : bk < w.heap.size) (hN : xs.length ≤ 140737488355328) (hcap : xs.length ≤ c) (hlen : (Lib.join (xs.map (·.data.toList)) sep.data.toList).length ≤ 140737488355328) :
    Calls Tryz.prog 84 #[.slice (some ⟨bk, o, none⟩) xs.length c, .string sep] w fun e w' => e = .returned (.string ⟨(Lib.join (xs.map (·.data.toList)) sep.data.toList).toArray⟩) ∧ Below w.heap.size w w' := Any.strings_Join Tryz.lays156 Tryz.Builder_Extra_156 bk o c xs sep w hcells hbk hN hcap hlen
def Tryz.laysM171_ren : Go.Shelf.Ren := ⟨fun | 171 => 105 | 243 => 115 | 246 => 118 | 283 => 120 | 284 => 121 | 285 => 122 | 286 => 123 | 129 => 125 | 317 => 124 | 318 => 126 | 319 => 127 | 320 => 128 | 337 => 129 | 338 => 130 | n => n, fun | 3 => 3 | 9 => 9 | 2 => 2 | 4 => 4 | 171 => 216 | 0 => 0 | 53 => 217 | 37 => 108 | 5 => 5 | 173 => 220 | 212 => 224 | 51 => 225 | 20 => 20 | 213 => 226 | 46 => 227 | 232 => 230 | 233 => 231 | n => n, fun | 17 => 4 | 18 => 5 | 19 => 6 | n => n⟩
theorem Tryz.laysM171 : Go.Proofs.LaysM.n171 Tryz.prog Tryz.laysM171_ren := {
  mixed := by kernel_rfl
  f129 := Tryz.func125.trans (congrArg some (by kernel_rfl))
  f171 := Tryz.func105.trans (congrArg some (by kernel_rfl))
  f243 := Tryz.func115.trans (congrArg some (by kernel_rfl))
  f246 := Tryz.func118.trans (congrArg some (by kernel_rfl))
  f283 := Tryz.func120.trans (congrArg some (by kernel_rfl))
  f284 := Tryz.func121.trans (congrArg some (by kernel_rfl))
  f285 := Tryz.func122.trans (congrArg some (by kernel_rfl))
  f286 := Tryz.func123.trans (congrArg some (by kernel_rfl))
  f317 := Tryz.func124.trans (congrArg some (by kernel_rfl))
  f318 := Tryz.func126.trans (congrArg some (by kernel_rfl))
  f319 := Tryz.func127.trans (congrArg some (by kernel_rfl))
  f320 := Tryz.func128.trans (congrArg some (by kernel_rfl))
  f337 := Tryz.func129.trans (congrArg some (by kernel_rfl))
  f338 := Tryz.func130.trans (congrArg some (by kernel_rfl))
  t0 := Tryz.underlying0
  a0 := Tryz.isAgg0
  z0 := Tryz.sizeOf0
  v0 := Tryz.zeroValue0
  t2 := Tryz.underlying2
  a2 := Tryz.isAgg2
  z2 := Tryz.sizeOf2
  v2 := Tryz.zeroValue2
  t3 := Tryz.underlying3
  a3 := Tryz.isAgg3
  z3 := Tryz.sizeOf3
  v3 := Tryz.zeroValue3
  t4 := Tryz.underlying4
  a4 := Tryz.isAgg4
  z4 := Tryz.sizeOf4
  v4 := Tryz.zeroValue4
  t5 := Tryz.underlying5
  a5 := Tryz.isAgg5
  z5 := Tryz.sizeOf5
  v5 := Tryz.zeroValue5
  t9 := Tryz.underlying9
  a9 := Tryz.isAgg9
  z9 := Tryz.sizeOf9
  v9 := Tryz.zeroValue9
  t20 := Tryz.underlying20
  a20 := Tryz.isAgg20
  z20 := Tryz.sizeOf20
  v20 := Tryz.zeroValue20
  t37 := Tryz.underlying108
  a37 := Tryz.isAgg108
  z37 := Tryz.sizeOf108
  v37 := Tryz.zeroValue108
  t46 := Tryz.underlying227
  a46 := Tryz.isAgg227
  z46 := Tryz.sizeOf227
  v46 := Tryz.zeroValue227
  t51 := Tryz.underlying225
  a51 := Tryz.isAgg225
  z51 := Tryz.sizeOf225
  v51 := Tryz.zeroValue225
  t53 := Tryz.underlying217
  a53 := Tryz.isAgg217
  z53 := Tryz.sizeOf217
  v53 := Tryz.zeroValue217
  t171 := Tryz.underlying216
  a171 := Tryz.isAgg216
  z171 := Tryz.sizeOf216
  v171 := Tryz.zeroValue216
  t173 := Tryz.underlying220
  a173 := Tryz.isAgg220
  z173 := Tryz.sizeOf220
  v173 := Tryz.zeroValue220
  t212 := Tryz.underlying224
  a212 := Tryz.isAgg224
  z212 := Tryz.sizeOf224
  v212 := Tryz.zeroValue224
  t213 := Tryz.underlying226
  a213 := Tryz.isAgg226
  z213 := Tryz.sizeOf226
  t232 := Tryz.underlying230
  a232 := Tryz.isAgg230
  z232 := Tryz.sizeOf230
  v232 := Tryz.zeroValue230
  t233 := Tryz.underlying231
  a233 := Tryz.isAgg231
  z233 := Tryz.sizeOf231
  v233 := Tryz.zeroValue231
  g17 := by kernel_rfl
  g18 := by kernel_rfl
  g19 := by kernel_rfl
  i0 := by kernel_rfl
  i2 := by kernel_rfl
  i3 := by kernel_rfl
  i4 := by kernel_rfl
  i5 := by kernel_rfl
  i9 := by kernel_rfl
  i20 := by kernel_rfl
  i37 := by kernel_rfl
  i46 := by kernel_rfl
  i51 := by kernel_rfl
  i53 := by kernel_rfl
  i171 := by kernel_rfl
  i173 := by kernel_rfl
  i212 := by kernel_rfl
  i232 := by kernel_rfl
  i233 := by kernel_rfl
  m17 := by kernel_rfl
  m18 := by kernel_rfl
  m19 := by kernel_rfl }
open Go.RowKit Go.Sort Go.Lib in
/-- strconv.Itoa: "Itoa is equivalent to FormatInt(int64(i), 10).": i's DECIMAL NUMERAL ('Lib.itoa': a '-' where i is negative, then the digits), FOR EVERY int. The world behind the call: the world before it, new blocks behind the heap (the library's 'var a [24]byte'), draws. (LAID: no walk: one application.) -/
theorem Tryz.strconv_Itoa (n : Int) (h0 : -9223372036854775808 ≤ n) (h1 : n ≤ 9223372036854775807) (w : World) (htab : Lib.TabIs Tryz.prog w "internal/strconv.uint64pow10" .u64 Lib.pow10Tab) :
    Calls Tryz.prog 105 #[.int .i64 n] w fun e w' => e = .returned (.string ⟨(Lib.itoa n).toArray⟩) ∧ ∃ k os, w' = grow (w.drewN k) os := Any.strconv_Itoa Tryz.laysM171 n h0 h1 w htab
end Go.Proofs

/- The program's Digits, walked by the library's contract of strconv.Itoa: it hands back the decimal numeral of its argument; and what the listed table of powers of ten is. -/
namespace Go.Proofs.YtkbodiggdajbeaaGreatDoor
open Go.ChangeShapes Go.WideShapes Go.ChangeAt Go.RowKit

theorem grow_below (w : World) (k : Nat) (os : Array Obj) : Below w.heap.size w (Sort.grow (w.drewN k) os) := by
  refine ⟨rfl, rfl, rfl, ?_, fun i hi => ?_⟩
  · show w.heap.size ≤ (w.heap ++ os).size
    simp
  · show (w.heap ++ os)[i]? = _
    rw [Array.getElem?_append_left hi]

/-- The program's Digits. -/
theorem implDigits_any (n : Int) (h0 : -9223372036854775808 ≤ n) (h1 : n ≤ 9223372036854775807) (w : World) (htab : Lib.TabIs Tryz.prog w "internal/strconv.uint64pow10" .u64 Lib.pow10Tab) :
    Calls Tryz.prog 83 #[.int .i64 n] w fun e w' => e = .returned (.string ⟨(Lib.itoa n).toArray⟩) ∧ Below w.heap.size w w' := by
  go_enter Tryz.func83, Tryz.ntmps83
  go_wp2_with (go_at_call 105; refine (Tryz.strconv_Itoa n h0 h1 _ htab).mono ?_; rintro e w' ⟨rfl, k, os, rfl⟩)
  go_ret
  exact ⟨rfl, grow_below _ _ _⟩

theorem gTab : Tryz.prog.globalNamed "internal/strconv.uint64pow10" = some 4 := by kernel_rfl
theorem tTab : (Tryz.prog.globals[4]?).map (·.type) = some 224 := by kernel_rfl
theorem cTab : Tryz.prog.cellsOf 224 = 20 := by kernel_rfl
theorem cU64 : Tryz.prog.cellsOf 217 = 1 := by kernel_rfl
theorem tab_is : (Rows.laid_internal_strconv_uint64pow10 : DataW Unit) = Lib.tabData .u64 Lib.pow10Tab := by kernel_rfl
end Go.Proofs.YtkbodiggdajbeaaGreatDoor
