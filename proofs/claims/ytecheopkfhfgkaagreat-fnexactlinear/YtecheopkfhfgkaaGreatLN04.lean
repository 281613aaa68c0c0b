/- Texts joined: AllowM, ImplHow, AfterOk, KeyOk, SpecOp, AfterD, Jud, DatA, ToldM, JudL. -/
import Derived.Test.YtecheopkfhfgkaaGreatLN02
import Derived.Test.YtecheopkfhfgkaaGreatLN03
import Derived.Test.YtecheopkfhfgkaaGreatRows
import Derived.WalkKit
import Derived.ProofKit
import Derived.Test.YtecheopkfhfgkaaGreatLN01
import Derived.Handy
set_option maxHeartbeats 2000000
set_option maxRecDepth 100000
namespace Go.Proofs.YtecheopkfhfgkaaGreat
def keyN (xs : List Int) (v : Int) : Int :=
  if xs.getD 0 0 = v then 0 else if xs.getD 1 0 = v then 1 else if xs.getD 2 0 = v then 2 else if xs.getD 3 0 = v then 3 else -1
theorem keyN_is (xs : List Int) (v : Int) : KeyIs xs 4 v (keyN xs v) := by
  unfold keyN
  split
  · exact .inr ⟨0, by omega, rfl, by assumption, fun j hj => by omega⟩
  split
  · exact .inr ⟨1, by omega, rfl, by assumption, fun j hj => by obtain rfl : j = 0 := by omega
                                                                assumption⟩
  split
  · exact .inr ⟨2, by omega, rfl, by assumption, fun j hj => by rcases (show j = 0 ∨ j = 1 by omega) with rfl | rfl <;> assumption⟩
  split
  · exact .inr ⟨3, by omega, rfl, by assumption, fun j hj => by rcases (show j = 0 ∨ j = 1 ∨ j = 2 by omega) with rfl | rfl | rfl <;> assumption⟩
  · exact .inl ⟨rfl, fun j hj => by rcases (show j = 0 ∨ j = 1 ∨ j = 2 ∨ j = 3 by omega) with rfl | rfl | rfl | rfl <;> assumption⟩
theorem KeyIs.keyN {xs : List Int} {v r : Int} (h : KeyIs xs 4 v r) : r = keyN xs v := h.one (keyN_is xs v)
theorem keyN_le (xs : List Int) (v : Int) : -1 ≤ keyN xs v ∧ keyN xs v ≤ 3 := by unfold Go.Proofs.YtecheopkfhfgkaaGreat.keyN; repeat (first | split | omega)

abbrev atK (xs : List Int) (k : Int) : Int := xs.getD k.toNat 0
def FailsM (xs : List Int) (st kind k v code : Int) : Prop :=
  (code = 1 ∧ kind = 1 ∧ atK xs k ≠ 0) ∨ (code = 2 ∧ (kind = 1 ∨ kind = 2) ∧ 0 ≤ keyN xs v)
  ∨ (code = 3 ∧ (((kind = 2 ∨ kind = 3 ∨ kind = 4) ∧ atK xs k = 0) ∨ (kind = 5 ∧ keyN xs v < 0) ∨ (kind = 10 ∧ st = 5 ∧ keyN xs v < 0)))
  ∨ (code = 4 ∧ ((kind = 8 ∧ st ≠ 0) ∨ (kind = 9 ∧ (st = 0 ∨ st = 5)) ∨ (kind = 10 ∧ st ≠ 5)))
def DoneM (xs : List Int) (st kind k v : Int) : Prop :=
  (kind = 1 ∧ atK xs k = 0 ∧ keyN xs v < 0) ∨ (kind = 2 ∧ atK xs k ≠ 0 ∧ (keyN xs v < 0 ∨ keyN xs v = k)) ∨ (kind = 3 ∧ atK xs k ≠ 0) ∨ (kind = 4 ∧ atK xs k ≠ 0)
  ∨ (kind = 5 ∧ 0 ≤ keyN xs v) ∨ kind = 6 ∨ kind = 7 ∨ (kind = 8 ∧ st = 0) ∨ (kind = 9 ∧ 1 ≤ st ∧ st ≤ 4) ∨ (kind = 10 ∧ st = 5 ∧ 0 ≤ keyN xs v)
def listM (xs : List Int) (kind k v : Int) : List Int :=
  if kind = 4 then [atK xs k] else if kind = 5 ∨ kind = 10 then [keyN xs v] else if kind = 6 then [cntK xs k 4] else if kind = 7 then xs else []
def AllowM (xs : List Int) (st kind k v code : Int) (ys : List Int) : Prop :=
  OkRows xs st ∧ OpGood kind k v ∧ ((code ≠ 0 ∧ ys = [] ∧ FailsM xs st kind k v code) ∨ (code = 0 ∧ DoneM xs st kind k v ∧ listM xs kind k v = ys))
def AfterM (xs : List Int) (st kind k v code : Int) (ys zs : List Int) (st' : Int) : Prop :=
  (AllowM xs st kind k v code ys ∧ code = 0 ∧ (((kind = 1 ∨ kind = 2) ∧ zs = xs.set k.toNat v ∧ st' = st) ∨ (kind = 3 ∧ zs = xs.set k.toNat 0 ∧ st' = st)
    ∨ ((kind = 8 ∨ kind = 9) ∧ zs = xs ∧ st' = st + 1) ∨ ((4 ≤ kind ∧ kind ≤ 7 ∨ kind = 10) ∧ zs = xs ∧ st' = st)))
  ∨ (¬ (AllowM xs st kind k v code ys ∧ code = 0) ∧ zs = xs ∧ st' = st)
theorem AfterM.one {xs : List Int} {st kind k v code : Int} {ys zs zs2 : List Int} {s1 s2 : Int} (h : AfterM xs st kind k v code ys zs s1) (g : AfterM xs st kind k v code ys zs2 s2) : zs = zs2 ∧ s1 = s2 := by
  rcases h with ⟨ha, hc, h⟩ | ⟨hn, h1, h2⟩
  · rcases g with ⟨_, _, g⟩ | ⟨gn, _⟩
    · rcases h with ⟨h0, rfl, rfl⟩ | ⟨h0, rfl, rfl⟩ | ⟨h0, rfl, rfl⟩ | ⟨h0, rfl, rfl⟩ <;> rcases g with ⟨g0, rfl, rfl⟩ | ⟨g0, rfl, rfl⟩ | ⟨g0, rfl, rfl⟩ | ⟨g0, rfl, rfl⟩ <;> first | exact ⟨rfl, rfl⟩ | (exfalso; omega)
    · exact absurd ⟨ha, hc⟩ gn
  · rcases g with ⟨ga, gc, _⟩ | ⟨_, g1, g2⟩
    · exact absurd ⟨ga, gc⟩ hn
    · exact ⟨h1.trans g1.symm, h2.trans g2.symm⟩
instance (xs : List Int) (st kind k v code : Int) : Decidable (FailsM xs st kind k v code) := by unfold FailsM; infer_instance
instance (xs : List Int) (st kind k v : Int) : Decidable (DoneM xs st kind k v) := by unfold DoneM; infer_instance
section
open Go.ChangeShapes Go.WideShapes Go.ChangeAt Go.RowKit Go.Maps
theorem look_row {H : Type} {w : World} {base b n : Nat} {D : DataW H} {R : Value → Option (DataW H × List MemPlace)} {xs : List Int} (h : w.ownsMap Tryz.prog 3 R b n D) (hR : RowsIn R w base) (hD : HD xs D) (v : Int) (h0 : v ≠ 0) (hw : (Lit.int .i64 v).wf = true) :
    ∃ (p : Option Addr) (l c : Nat), (Instr.lookup 79 (.map (some b)) (.int .i64 v) false).run Tryz.prog w = .ok (.slice p l c) w ∧ ((posK xs 4 v = [] ∧ l = 0) ∨ (posK xs 4 v ≠ [] ∧ w.ownsInts base 3 .i64 (.slice p l c) (posK xs 4 v))) := by
  obtain ⟨es, clock, hb, F, _, rfl⟩ := h
  have hkey : keyOf Tryz.prog 3 (.int .i64 v) = some (.int .i64 v) := keyOf_int_mk Tryz.underlying3 hw
  rcases Maps.fit_look false mapLaw Tryz.underlying79 (zeroInts w) hb F hkey with ⟨hrun, _, hat⟩ | ⟨e0, y, _, _, hrun, hRv, hat, _⟩
  · refine ⟨none, 0, 0, hrun, .inl ⟨?_, rfl⟩⟩
    have h1 := Maps.has_false_of_atKey hat
    rw [(hD v).1] at h1
    have h2 := of_decide_eq_false h1
    by_cases hp : posK xs 4 v = []
    · exact hp
    · exact absurd ⟨h0, hp⟩ h2
  · obtain ⟨_, hp, ho⟩ := step_row hR hD hRv hat
    obtain ⟨⟨p, l, c⟩, e1⟩ := row_slice ho
    rw [e1] at ho hrun
    exact ⟨p, l, c, hrun, .inr ⟨hp, ho⟩⟩

theorem posK_four (xs : List Int) (v : Int) : posK xs 4 v = (if xs.getD 0 0 = v then [0] else []) ++ (if xs.getD 1 0 = v then [1] else []) ++ (if xs.getD 2 0 = v then [2] else []) ++ (if xs.getD 3 0 = v then [3] else []) := by
  have h : ∀ k : Nat, posK xs (k + 1) v = posK xs k v ++ (if xs.getD k 0 = v then [(k : Int)] else []) := fun k => by
    split
    · exact posK_same (by assumption)
    · rw [posK_other (by assumption), List.append_nil]
  rw [h 3, h 2, h 1, h 0, posK_zero]
  rfl
theorem posK_len (xs : List Int) (v : Int) : ((posK xs 4 v).length : Int) = (if xs.getD 0 0 = v then 1 else 0) + (if xs.getD 1 0 = v then 1 else 0) + (if xs.getD 2 0 = v then 1 else 0) + (if xs.getD 3 0 = v then 1 else 0) := by
  rw [posK_four]
  split <;> split <;> split <;> split <;> rfl
theorem posK_le (xs : List Int) (v : Int) : (posK xs 4 v).length ≤ 4 := by
  rw [posK_four]
  split <;> split <;> split <;> split <;> decide
theorem keyN_none {xs : List Int} {v : Int} (h : posK xs 4 v = []) : keyN xs v = -1 := by
  rw [posK_four] at h
  unfold keyN
  split <;> (try split) <;> (try split) <;> (try split) <;> simp_all
theorem keyN_some {xs : List Int} {v : Int} (h : posK xs 4 v ≠ []) : (posK xs 4 v).getD 0 0 = keyN xs v := by
  rw [posK_four] at h ⊢
  unfold keyN
  split <;> (try split) <;> (try split) <;> (try split) <;> simp_all

def mkH (left : Lit → Bool) (x : Int) : Int := if left (.int .i64 x) = true then 0 else x
def cntH (xs : List Int) (left : Lit → Bool) (c : Int) : Int := bitW (mkH left (xs.getD 0 0)) c + bitW (mkH left (xs.getD 1 0)) c + bitW (mkH left (xs.getD 2 0)) c + bitW (mkH left (xs.getD 3 0)) c
theorem cntH_le (xs : List Int) (left : Lit → Bool) (c : Int) : 0 ≤ cntH xs left c ∧ cntH xs left c ≤ 4 := by
  unfold cntH
  have h0 := bitW_le (mkH left (xs.getD 0 0)) c
  have h1 := bitW_le (mkH left (xs.getD 1 0)) c
  have h2 := bitW_le (mkH left (xs.getD 2 0)) c
  have h3 := bitW_le (mkH left (xs.getD 3 0)) c
  omega
theorem bitW_mkH {left : Lit → Bool} {x : Int} (y c : Int) (hl : left (.int .i64 x) = true) :
    bitW (mkH (fun z => left z && !z.sameKey (.int .i64 x)) y) c = bitW (mkH left y) c + (if y = x then bitW x c else 0) := by
  unfold mkH
  by_cases h : y = x
  · subst h
    simp [sameKey_int, hl, bitW_zero]
  · simp [sameKey_int, h]
theorem cntH_step {xs : List Int} {left : Lit → Bool} {x : Int} (c : Int) (hl : left (.int .i64 x) = true) :
    cntH xs (fun z => left z && !z.sameKey (.int .i64 x)) c = cntH xs left c + (if bitW x c = 1 then ((posK xs 4 x).length : Int) else 0) := by
  have hb := bitW_le x c
  unfold cntH
  rw [bitW_mkH _ c hl, bitW_mkH _ c hl, bitW_mkH _ c hl, bitW_mkH _ c hl, posK_len]
  by_cases h : bitW x c = 1
  · rw [h, if_pos rfl]
    omega
  · have h0 : bitW x c = 0 := by omega
    rw [h0]
    simp
theorem cntH_none {xs : List Int} {left : Lit → Bool} (c : Int) (h : ∀ i, i < 4 → xs.getD i 0 ≠ 0 → left (.int .i64 (xs.getD i 0)) = true) : cntH xs left c = 0 := by
  have h1 : ∀ i, i < 4 → bitW (mkH left (xs.getD i 0)) c = 0 := fun i hi => by
    unfold mkH
    split
    · exact bitW_zero
    · by_cases h0 : xs.getD i 0 = 0
      · rw [h0]; exact bitW_zero
      · exact absurd (h i hi h0) (by assumption)
  unfold cntH
  rw [h1 0 (by omega), h1 1 (by omega), h1 2 (by omega), h1 3 (by omega)]
  rfl
theorem cntH_all {xs : List Int} {left : Lit → Bool} (c : Int) (h : ∀ z, left z = false) : cntH xs left c = cntK xs c 4 := by
  have h1 : ∀ y, mkH left y = y := fun y => by unfold mkH; rw [h]; rfl
  unfold cntH
  rw [h1, h1, h1, h1, cntK_four]
  rfl
end
theorem four_of {xs : List Int} (h : xs.length = 4) : ∃ y0 y1 y2 y3, xs = [y0, y1, y2, y3] := by
  match xs, h with
  | [y0, y1, y2, y3], _ => exact ⟨y0, y1, y2, y3, rfl⟩
def OkFour (y0 y1 y2 y3 : Int) : Prop :=
  (y0 = 0 ∨ (1 ≤ y0 ∧ y0 ≤ 6)) ∧ (y1 = 0 ∨ (1 ≤ y1 ∧ y1 ≤ 6)) ∧ (y2 = 0 ∨ (1 ≤ y2 ∧ y2 ≤ 6)) ∧ (y3 = 0 ∨ (1 ≤ y3 ∧ y3 ≤ 6))
  ∧ (y0 = 0 ∨ (y0 ≠ y1 ∧ y0 ≠ y2 ∧ y0 ≠ y3)) ∧ (y1 = 0 ∨ (y1 ≠ y2 ∧ y1 ≠ y3)) ∧ (y2 = 0 ∨ y2 ≠ y3)
theorem good_len {xs : List Int} {x : Int} (h : Good xs x) : (1 ≤ x ∧ x ≤ 6) ∧ (if xs.getD 0 0 = x then 1 else 0) + (if xs.getD 1 0 = x then 1 else 0) + (if xs.getD 2 0 = x then 1 else 0) + (if xs.getD 3 0 = x then 1 else 0) ≤ (1 : Int) := by
  have h2 := h.2
  rw [← posK_len]
  exact ⟨h.1, by omega⟩
theorem posK_ne {xs : List Int} {x : Int} (h : xs.getD 0 0 = x ∨ xs.getD 1 0 = x ∨ xs.getD 2 0 = x ∨ xs.getD 3 0 = x) : posK xs 4 x ≠ [] := by
  intro e
  have hl := posK_len xs x
  rw [e] at hl
  simp only [List.length_nil] at hl
  rcases h with h | h | h | h <;> simp only [h, if_true] at hl <;> (repeat' split at hl) <;> omega
theorem okFour_iff (y0 y1 y2 y3 st : Int) : OkRows [y0, y1, y2, y3] st ↔ ((0 ≤ st ∧ st ≤ 5) ∧ OkFour y0 y1 y2 y3) := by
  constructor
  · rintro ⟨_, h0, h1, h⟩
    refine ⟨⟨h0, h1⟩, ?_⟩
    have g : ∀ x, x ≠ 0 → (y0 = x ∨ y1 = x ∨ y2 = x ∨ y3 = x) → (1 ≤ x ∧ x ≤ 6) ∧ (if y0 = x then 1 else 0) + (if y1 = x then 1 else 0) + (if y2 = x then 1 else 0) + (if y3 = x then 1 else 0) ≤ (1 : Int) := fun x hx hh => good_len (h x hx (posK_ne (by simpa using hh)))
    have g0 := g y0
    have g1 := g y1
    have g2 := g y2
    have g3 := g y3
    unfold OkFour
    clear g h
    simp only [true_or, or_true, if_true, forall_const] at g0 g1 g2 g3
    refine ⟨?_, ?_, ?_, ?_, ?_, ?_, ?_⟩
    · rcases Decidable.em (y0 = 0) with e | e
      · exact .inl e
      · exact .inr (g0 e).1
    · rcases Decidable.em (y1 = 0) with e | e
      · exact .inl e
      · exact .inr (g1 e).1
    · rcases Decidable.em (y2 = 0) with e | e
      · exact .inl e
      · exact .inr (g2 e).1
    · rcases Decidable.em (y3 = 0) with e | e
      · exact .inl e
      · exact .inr (g3 e).1
    · rcases Decidable.em (y0 = 0) with e | e
      · exact .inl e
      · have q := (g0 e).2
        refine .inr ⟨?_, ?_, ?_⟩ <;> (intro e2; simp only [← e2, if_true] at q; (repeat' split at q) <;> omega)
    · rcases Decidable.em (y1 = 0) with e | e
      · exact .inl e
      · have q := (g1 e).2
        refine .inr ⟨?_, ?_⟩ <;> (intro e2; simp only [← e2, if_true] at q; (repeat' split at q) <;> omega)
    · rcases Decidable.em (y2 = 0) with e | e
      · exact .inl e
      · have q := (g2 e).2
        refine .inr ?_
        intro e2; simp only [← e2, if_true] at q; (repeat' split at q) <;> omega
  · rintro ⟨⟨h0, h1⟩, h⟩
    refine ⟨rfl, h0, h1, fun x hx hp => ?_⟩
    unfold OkFour at h
    have hmem : y0 = x ∨ y1 = x ∨ y2 = x ∨ y3 = x := by
      rcases Decidable.em (y0 = x ∨ y1 = x ∨ y2 = x ∨ y3 = x) with e | e
      · exact e
      · exfalso
        apply hp
        rw [posK_four]
        simp only [not_or] at e
        simp [e]
    refine ⟨by omega, ?_⟩
    have hl := posK_len [y0, y1, y2, y3] x
    simp only [List.getD_cons_zero, List.getD_cons_succ] at hl
    have : ((posK [y0, y1, y2, y3] 4 x).length : Int) ≤ 1 := by
      rw [hl]
      (repeat' split) <;> omega
    omega

theorem keyN_lt {y0 y1 y2 y3 v : Int} (h : keyN [y0, y1, y2, y3] v < 0) : y0 ≠ v ∧ y1 ≠ v ∧ y2 ≠ v ∧ y3 ≠ v := by
  unfold keyN at h
  simp only [List.getD_cons_zero, List.getD_cons_succ] at h
  (repeat' split at h) <;> first | omega | (refine ⟨?_, ?_, ?_, ?_⟩ <;> assumption)
theorem keyN_eq {y0 y1 y2 y3 v k : Int} (h : keyN [y0, y1, y2, y3] v = k) (hk : 0 ≤ k) : (k = 0 ∧ y0 = v) ∨ (k = 1 ∧ y1 = v) ∨ (k = 2 ∧ y2 = v) ∨ (k = 3 ∧ y3 = v) := by
  unfold keyN at h
  simp only [List.getD_cons_zero, List.getD_cons_succ] at h
  (repeat' split at h) <;> omega

theorem after_ok {xs : List Int} {st kind k v : Int} {ys zs : List Int} {st' : Int} (hA : AllowM xs st kind k v 0 ys) (h : AfterM xs st kind k v 0 ys zs st') : OkRows zs st' := by
  rcases h with ⟨_, _, h⟩ | ⟨h, _⟩
  case inr => exact absurd ⟨hA, rfl⟩ h
  obtain ⟨hok, hop, hA⟩ := hA
  rcases hA with ⟨h0, _⟩ | ⟨_, hD, _⟩
  · exact absurd rfl h0
  obtain ⟨y0, y1, y2, y3, rfl⟩ := four_of hok.1
  have hf := (okFour_iff y0 y1 y2 y3 st).1 hok
  obtain ⟨hk, hkey, hval⟩ := hop
  unfold KeyGood at hkey
  unfold ValGood at hval
  unfold DoneM atK at hD
  rcases h with ⟨hkd, rfl, rfl⟩ | ⟨hkd, rfl, rfl⟩ | ⟨hkd, rfl, rfl⟩ | ⟨hkd, rfl, rfl⟩
  · have hk4 : 0 ≤ k ∧ k ≤ 3 := by omega
    have hv : 1 ≤ v ∧ v ≤ 6 := by omega
    have hcase : (keyN [y0, y1, y2, y3] v < 0) ∨ keyN [y0, y1, y2, y3] v = k := by omega
    have hne : (k = 0 ∨ y0 ≠ v) ∧ (k = 1 ∨ y1 ≠ v) ∧ (k = 2 ∨ y2 ≠ v) ∧ (k = 3 ∨ y3 ≠ v) := by
      rcases hcase with h1 | h1
      · have := keyN_lt h1; omega
      · have e := keyN_eq h1 hk4.1
        obtain ⟨_, hf2⟩ := hf
        unfold OkFour at hf2
        omega
    clear hD hcase hkey hval hk hkd hok
    obtain ⟨hst, hf⟩ := hf
    unfold OkFour at hf
    rcases (show k = 0 ∨ k = 1 ∨ k = 2 ∨ k = 3 by omega) with rfl | rfl | rfl | rfl
    · show OkRows [v, y1, y2, y3] _
      rw [okFour_iff]
      refine ⟨hst, ?_⟩
      have n : y1 ≠ v ∧ y2 ≠ v ∧ y3 ≠ v := by omega
      clear hne
      unfold OkFour
      refine ⟨?_, ?_, ?_, ?_, ?_, ?_, ?_⟩ <;> omega
    · show OkRows [y0, v, y2, y3] _
      rw [okFour_iff]
      refine ⟨hst, ?_⟩
      have n : y0 ≠ v ∧ y2 ≠ v ∧ y3 ≠ v := by omega
      clear hne
      unfold OkFour
      refine ⟨?_, ?_, ?_, ?_, ?_, ?_, ?_⟩ <;> omega
    · show OkRows [y0, y1, v, y3] _
      rw [okFour_iff]
      refine ⟨hst, ?_⟩
      have n : y0 ≠ v ∧ y1 ≠ v ∧ y3 ≠ v := by omega
      clear hne
      unfold OkFour
      refine ⟨?_, ?_, ?_, ?_, ?_, ?_, ?_⟩ <;> omega
    · show OkRows [y0, y1, y2, v] _
      rw [okFour_iff]
      refine ⟨hst, ?_⟩
      have n : y0 ≠ v ∧ y1 ≠ v ∧ y2 ≠ v := by omega
      clear hne
      unfold OkFour
      refine ⟨?_, ?_, ?_, ?_, ?_, ?_, ?_⟩ <;> omega
  · have hk4 : 0 ≤ k ∧ k ≤ 3 := by omega
    clear hD hkey hval hk hkd hok
    obtain ⟨hst, hf⟩ := hf
    unfold OkFour at hf
    rcases (show k = 0 ∨ k = 1 ∨ k = 2 ∨ k = 3 by omega) with rfl | rfl | rfl | rfl
    · show OkRows [0, y1, y2, y3] _
      rw [okFour_iff]
      refine ⟨hst, ?_⟩
      unfold OkFour
      refine ⟨?_, ?_, ?_, ?_, ?_, ?_, ?_⟩ <;> omega
    · show OkRows [y0, 0, y2, y3] _
      rw [okFour_iff]
      refine ⟨hst, ?_⟩
      unfold OkFour
      refine ⟨?_, ?_, ?_, ?_, ?_, ?_, ?_⟩ <;> omega
    · show OkRows [y0, y1, 0, y3] _
      rw [okFour_iff]
      refine ⟨hst, ?_⟩
      unfold OkFour
      refine ⟨?_, ?_, ?_, ?_, ?_, ?_, ?_⟩ <;> omega
    · show OkRows [y0, y1, y2, 0] _
      rw [okFour_iff]
      refine ⟨hst, ?_⟩
      unfold OkFour
      refine ⟨?_, ?_, ?_, ?_, ?_, ?_, ?_⟩ <;> omega
  · rw [okFour_iff]
    refine ⟨?_, hf.2⟩
    omega
  · exact hok
section
open Go.ChangeShapes Go.WideShapes Go.ChangeAt Go.RowKit

theorem specOpOk_1 (k v : Int) (w : World) :
    Calls Tryz.prog 61 #[OpV 1 k v] w fun e w' => e = .returned (.bool (decide ((0 ≤ k ∧ k ≤ 3) ∧ (1 ≤ v ∧ v ≤ 6)))) ∧ Below w.heap.size w w' := by
  obtain ⟨B, hB⟩ : ∃ B, decide ((0 ≤ k ∧ k ≤ 3) ∧ (1 ≤ v ∧ v ≤ 6)) = B := ⟨_, rfl⟩
  rw [hB]
  have HB : Hid (decide ((0 ≤ k ∧ k ≤ 3) ∧ (1 ≤ v ∧ v ≤ 6)) = B) := hB
  clear hB
  rcases tri 0 3 k (by decide) with ⟨h0, h1⟩ | ⟨h0, h1⟩ | ⟨h0, h1⟩ <;> rcases tri 1 6 v (by decide) with ⟨g0, g1⟩ | ⟨g0, g1⟩ | ⟨g0, g1⟩
  all_goals
    go_enter Tryz.func61, Tryz.ntmps61
    go_wp2
    go_ret
    refine ⟨?_, (Below.refl _ _).alloc (Nat.le_refl _) _⟩
    rw [← HB.out]
    first
      | exact says_true (by omega)
      | exact says_false (by omega)

theorem specOpOk_2 (k v : Int) (w : World) :
    Calls Tryz.prog 61 #[OpV 2 k v] w fun e w' => e = .returned (.bool (decide ((0 ≤ k ∧ k ≤ 3) ∧ (1 ≤ v ∧ v ≤ 6)))) ∧ Below w.heap.size w w' := by
  obtain ⟨B, hB⟩ : ∃ B, decide ((0 ≤ k ∧ k ≤ 3) ∧ (1 ≤ v ∧ v ≤ 6)) = B := ⟨_, rfl⟩
  rw [hB]
  have HB : Hid (decide ((0 ≤ k ∧ k ≤ 3) ∧ (1 ≤ v ∧ v ≤ 6)) = B) := hB
  clear hB
  rcases tri 0 3 k (by decide) with ⟨h0, h1⟩ | ⟨h0, h1⟩ | ⟨h0, h1⟩ <;> rcases tri 1 6 v (by decide) with ⟨g0, g1⟩ | ⟨g0, g1⟩ | ⟨g0, g1⟩
  all_goals
    go_enter Tryz.func61, Tryz.ntmps61
    go_wp2
    go_ret
    refine ⟨?_, (Below.refl _ _).alloc (Nat.le_refl _) _⟩
    rw [← HB.out]
    first
      | exact says_true (by omega)
      | exact says_false (by omega)

theorem specOpOk_3 (k v : Int) (w : World) :
    Calls Tryz.prog 61 #[OpV 3 k v] w fun e w' => e = .returned (.bool (decide ((0 ≤ k ∧ k ≤ 3) ∧ (v = 0)))) ∧ Below w.heap.size w w' := by
  obtain ⟨B, hB⟩ : ∃ B, decide ((0 ≤ k ∧ k ≤ 3) ∧ (v = 0)) = B := ⟨_, rfl⟩
  rw [hB]
  have HB : Hid (decide ((0 ≤ k ∧ k ≤ 3) ∧ (v = 0)) = B) := hB
  clear hB
  rcases tri 0 3 k (by decide) with ⟨h0, h1⟩ | ⟨h0, h1⟩ | ⟨h0, h1⟩ <;> rcases eqb v 0 with ⟨g0, g1⟩ | ⟨g0, g1⟩
  all_goals
    go_enter Tryz.func61, Tryz.ntmps61
    go_wp2
    go_ret
    refine ⟨?_, (Below.refl _ _).alloc (Nat.le_refl _) _⟩
    rw [← HB.out]
    first
      | exact says_true (by omega)
      | exact says_false (by omega)

theorem specOpOk_4 (k v : Int) (w : World) :
    Calls Tryz.prog 61 #[OpV 4 k v] w fun e w' => e = .returned (.bool (decide ((0 ≤ k ∧ k ≤ 3) ∧ (v = 0)))) ∧ Below w.heap.size w w' := by
  obtain ⟨B, hB⟩ : ∃ B, decide ((0 ≤ k ∧ k ≤ 3) ∧ (v = 0)) = B := ⟨_, rfl⟩
  rw [hB]
  have HB : Hid (decide ((0 ≤ k ∧ k ≤ 3) ∧ (v = 0)) = B) := hB
  clear hB
  rcases tri 0 3 k (by decide) with ⟨h0, h1⟩ | ⟨h0, h1⟩ | ⟨h0, h1⟩ <;> rcases eqb v 0 with ⟨g0, g1⟩ | ⟨g0, g1⟩
  all_goals
    go_enter Tryz.func61, Tryz.ntmps61
    go_wp2
    go_ret
    refine ⟨?_, (Below.refl _ _).alloc (Nat.le_refl _) _⟩
    rw [← HB.out]
    first
      | exact says_true (by omega)
      | exact says_false (by omega)

theorem specOpOk_5 (k v : Int) (w : World) :
    Calls Tryz.prog 61 #[OpV 5 k v] w fun e w' => e = .returned (.bool (decide ((k = 0) ∧ (1 ≤ v ∧ v ≤ 6)))) ∧ Below w.heap.size w w' := by
  obtain ⟨B, hB⟩ : ∃ B, decide ((k = 0) ∧ (1 ≤ v ∧ v ≤ 6)) = B := ⟨_, rfl⟩
  rw [hB]
  have HB : Hid (decide ((k = 0) ∧ (1 ≤ v ∧ v ≤ 6)) = B) := hB
  clear hB
  rcases eqb k 0 with ⟨h0, h1⟩ | ⟨h0, h1⟩ <;> rcases tri 1 6 v (by decide) with ⟨g0, g1⟩ | ⟨g0, g1⟩ | ⟨g0, g1⟩
  all_goals
    go_enter Tryz.func61, Tryz.ntmps61
    go_wp2
    go_ret
    refine ⟨?_, (Below.refl _ _).alloc (Nat.le_refl _) _⟩
    rw [← HB.out]
    first
      | exact says_true (by omega)
      | exact says_false (by omega)

theorem specOpOk_6 (k v : Int) (w : World) :
    Calls Tryz.prog 61 #[OpV 6 k v] w fun e w' => e = .returned (.bool (decide ((0 ≤ k ∧ k ≤ 2) ∧ (v = 0)))) ∧ Below w.heap.size w w' := by
  obtain ⟨B, hB⟩ : ∃ B, decide ((0 ≤ k ∧ k ≤ 2) ∧ (v = 0)) = B := ⟨_, rfl⟩
  rw [hB]
  have HB : Hid (decide ((0 ≤ k ∧ k ≤ 2) ∧ (v = 0)) = B) := hB
  clear hB
  rcases tri 0 2 k (by decide) with ⟨h0, h1⟩ | ⟨h0, h1⟩ | ⟨h0, h1⟩ <;> rcases eqb v 0 with ⟨g0, g1⟩ | ⟨g0, g1⟩
  all_goals
    go_enter Tryz.func61, Tryz.ntmps61
    go_wp2
    go_ret
    refine ⟨?_, (Below.refl _ _).alloc (Nat.le_refl _) _⟩
    rw [← HB.out]
    first
      | exact says_true (by omega)
      | exact says_false (by omega)

theorem specOpOk_7 (k v : Int) (w : World) :
    Calls Tryz.prog 61 #[OpV 7 k v] w fun e w' => e = .returned (.bool (decide ((k = 0) ∧ (v = 0)))) ∧ Below w.heap.size w w' := by
  obtain ⟨B, hB⟩ : ∃ B, decide ((k = 0) ∧ (v = 0)) = B := ⟨_, rfl⟩
  rw [hB]
  have HB : Hid (decide ((k = 0) ∧ (v = 0)) = B) := hB
  clear hB
  rcases eqb k 0 with ⟨h0, h1⟩ | ⟨h0, h1⟩ <;> rcases eqb v 0 with ⟨g0, g1⟩ | ⟨g0, g1⟩
  all_goals
    go_enter Tryz.func61, Tryz.ntmps61
    go_wp2
    go_ret
    refine ⟨?_, (Below.refl _ _).alloc (Nat.le_refl _) _⟩
    rw [← HB.out]
    first
      | exact says_true (by omega)
      | exact says_false (by omega)

theorem specOpOk_8 (k v : Int) (w : World) :
    Calls Tryz.prog 61 #[OpV 8 k v] w fun e w' => e = .returned (.bool (decide ((k = 0) ∧ (v = 0)))) ∧ Below w.heap.size w w' := by
  obtain ⟨B, hB⟩ : ∃ B, decide ((k = 0) ∧ (v = 0)) = B := ⟨_, rfl⟩
  rw [hB]
  have HB : Hid (decide ((k = 0) ∧ (v = 0)) = B) := hB
  clear hB
  rcases eqb k 0 with ⟨h0, h1⟩ | ⟨h0, h1⟩ <;> rcases eqb v 0 with ⟨g0, g1⟩ | ⟨g0, g1⟩
  all_goals
    go_enter Tryz.func61, Tryz.ntmps61
    go_wp2
    go_ret
    refine ⟨?_, (Below.refl _ _).alloc (Nat.le_refl _) _⟩
    rw [← HB.out]
    first
      | exact says_true (by omega)
      | exact says_false (by omega)

theorem specOpOk_9 (k v : Int) (w : World) :
    Calls Tryz.prog 61 #[OpV 9 k v] w fun e w' => e = .returned (.bool (decide ((k = 0) ∧ (v = 0)))) ∧ Below w.heap.size w w' := by
  obtain ⟨B, hB⟩ : ∃ B, decide ((k = 0) ∧ (v = 0)) = B := ⟨_, rfl⟩
  rw [hB]
  have HB : Hid (decide ((k = 0) ∧ (v = 0)) = B) := hB
  clear hB
  rcases eqb k 0 with ⟨h0, h1⟩ | ⟨h0, h1⟩ <;> rcases eqb v 0 with ⟨g0, g1⟩ | ⟨g0, g1⟩
  all_goals
    go_enter Tryz.func61, Tryz.ntmps61
    go_wp2
    go_ret
    refine ⟨?_, (Below.refl _ _).alloc (Nat.le_refl _) _⟩
    rw [← HB.out]
    first
      | exact says_true (by omega)
      | exact says_false (by omega)

theorem specOpOk_10 (k v : Int) (w : World) :
    Calls Tryz.prog 61 #[OpV 10 k v] w fun e w' => e = .returned (.bool (decide ((k = 0) ∧ (1 ≤ v ∧ v ≤ 6)))) ∧ Below w.heap.size w w' := by
  obtain ⟨B, hB⟩ : ∃ B, decide ((k = 0) ∧ (1 ≤ v ∧ v ≤ 6)) = B := ⟨_, rfl⟩
  rw [hB]
  have HB : Hid (decide ((k = 0) ∧ (1 ≤ v ∧ v ≤ 6)) = B) := hB
  clear hB
  rcases eqb k 0 with ⟨h0, h1⟩ | ⟨h0, h1⟩ <;> rcases tri 1 6 v (by decide) with ⟨g0, g1⟩ | ⟨g0, g1⟩ | ⟨g0, g1⟩
  all_goals
    go_enter Tryz.func61, Tryz.ntmps61
    go_wp2
    go_ret
    refine ⟨?_, (Below.refl _ _).alloc (Nat.le_refl _) _⟩
    rw [← HB.out]
    first
      | exact says_true (by omega)
      | exact says_false (by omega)

theorem specOpOk_any (kind k v : Int) (w : World) :
    Calls Tryz.prog 61 #[OpV kind k v] w fun e w' => e = .returned (.bool (decide (OpGood kind k v))) ∧ Below w.heap.size w w' := by
  by_cases hk : 1 ≤ kind ∧ kind ≤ 10
  · have hd : ∀ (P : Prop) [Decidable P], (OpGood kind k v ↔ P) → decide (OpGood kind k v) = decide P := fun P _ h => decide_eq_decide.2 h
    rcases kinds hk with rfl | rfl | rfl | rfl | rfl | rfl | rfl | rfl | rfl | rfl
    · rw [hd _ (good_of hk (P := 0 ≤ k ∧ k ≤ 3) (Q := 1 ≤ v ∧ v ≤ 6) (by unfold KeyGood; omega) (by unfold ValGood; omega))]
      exact specOpOk_1 k v w
    · rw [hd _ (good_of hk (P := 0 ≤ k ∧ k ≤ 3) (Q := 1 ≤ v ∧ v ≤ 6) (by unfold KeyGood; omega) (by unfold ValGood; omega))]
      exact specOpOk_2 k v w
    · rw [hd _ (good_of hk (P := 0 ≤ k ∧ k ≤ 3) (Q := v = 0) (by unfold KeyGood; omega) (by unfold ValGood; omega))]
      exact specOpOk_3 k v w
    · rw [hd _ (good_of hk (P := 0 ≤ k ∧ k ≤ 3) (Q := v = 0) (by unfold KeyGood; omega) (by unfold ValGood; omega))]
      exact specOpOk_4 k v w
    · rw [hd _ (good_of hk (P := k = 0) (Q := 1 ≤ v ∧ v ≤ 6) (by unfold KeyGood; omega) (by unfold ValGood; omega))]
      exact specOpOk_5 k v w
    · rw [hd _ (good_of hk (P := 0 ≤ k ∧ k ≤ 2) (Q := v = 0) (by unfold KeyGood; omega) (by unfold ValGood; omega))]
      exact specOpOk_6 k v w
    · rw [hd _ (good_of hk (P := k = 0) (Q := v = 0) (by unfold KeyGood; omega) (by unfold ValGood; omega))]
      exact specOpOk_7 k v w
    · rw [hd _ (good_of hk (P := k = 0) (Q := v = 0) (by unfold KeyGood; omega) (by unfold ValGood; omega))]
      exact specOpOk_8 k v w
    · rw [hd _ (good_of hk (P := k = 0) (Q := v = 0) (by unfold KeyGood; omega) (by unfold ValGood; omega))]
      exact specOpOk_9 k v w
    · rw [hd _ (good_of hk (P := k = 0) (Q := 1 ≤ v ∧ v ≤ 6) (by unfold KeyGood; omega) (by unfold ValGood; omega))]
      exact specOpOk_10 k v w
  · rw [show decide (OpGood kind k v) = false from decide_eq_false (fun h => hk h.1)]
    by_cases h0 : 1 ≤ kind
    · have h1 : ¬ kind ≤ 10 := fun h => hk ⟨h0, h⟩
      clear hk
      go_enter Tryz.func61, Tryz.ntmps61
      go_wp2
      go_ret
      exact ⟨rfl, (Below.refl _ _).alloc (Nat.le_refl _) _⟩
    · clear hk
      go_enter Tryz.func61, Tryz.ntmps61
      go_wp2
      go_ret
      exact ⟨rfl, (Below.refl _ _).alloc (Nat.le_refl _) _⟩
theorem codes (code : Int) : code = 1 ∨ code = 2 ∨ code = 3 ∨ code = 4 ∨ ((code == 1) = false ∧ (code == 2) = false ∧ (code == 3) = false ∧ (code == 4) = false) := by
  simp only [beq_eq_false_iff_ne, ne_eq]; omega
theorem says_iff {b : Bool} {P : Prop} [Decidable P] (h : b = true ↔ P) : Ending.returned (.bool b) = .returned (.bool (decide P)) := by
  rw [show b = decide P by cases b <;> simp at h ⊢ <;> exact h]
def DoneSays (e : Ending) (w' : World) (zs : List Int) (b : Bool) : Prop := ∃ (a' : Option Addr) (c' : Nat), e = .returned (.tuple #[.slice a' zs.length c', .bool b]) ∧ IntAt w' a' zs.length zs

theorem neb (a b : Int) : (a = b ∧ (a != b) = false) ∨ (¬ a = b ∧ (a != b) = true) := by
  by_cases h : a = b
  · exact .inl ⟨h, by simp [h]⟩
  · exact .inr ⟨h, by simp [h]⟩
theorem says_two {x y : Value} {b : Bool} {P : Prop} [Decidable P] (hx : x = y) (h : b = true ↔ P) : Ending.returned (.tuple #[x, .bool b]) = .returned (.tuple #[y, .bool (decide P)]) := by
  rw [hx, show b = decide P by cases b <;> simp at h ⊢ <;> exact h]
def Args (w : World) (ra oa sa : Array Value) (wr : World) : Prop :=
  (∀ i u, ra[i]? = some u → wr.cell? ⟨w.heap.size, i, none⟩ = some u) ∧ (∀ i u, oa[i]? = some u → wr.cell? ⟨w.heap.size + 1, i, none⟩ = some u) ∧ (∀ i u, sa[i]? = some u → wr.cell? ⟨w.heap.size + 1 + 1, i, none⟩ = some u)
theorem args_at (w : World) (ra oa sa : Array Value) (T1 T2 T3 : TypeId) (wr : World) (h : Below (w.heap.size + 1 + 1 + 1) (((w.alloc (.cells ra T1)).alloc (.cells oa T2)).alloc (.cells sa T3)) wr) : Args w ra oa sa wr := by
  refine ⟨fun i u hu => ?_, fun i u hu => ?_, fun i u hu => ?_⟩
  · rw [h.cell (show w.heap.size < w.heap.size + 1 + 1 + 1 by omega), World.cell?_alloc_past _ _ _ (by simp; omega), World.cell?_alloc_past _ _ _ (by simp), World.cell?_alloc_at _ _ _ _ rfl]
    exact hu
  · rw [h.cell (show w.heap.size + 1 < w.heap.size + 1 + 1 + 1 by omega), World.cell?_alloc_past _ _ _ (by simp), World.cell?_alloc_at _ _ _ _ (by simp)]
    exact hu
  · rw [h.cell (show w.heap.size + 1 + 1 < w.heap.size + 1 + 1 + 1 by omega), World.cell?_alloc_at _ _ _ _ (by simp)]
    exact hu
def Four (w : World) (ra oa sa va : Array Value) (wr : World) : Prop :=
  (∀ i u, ra[i]? = some u → wr.cell? ⟨w.heap.size, i, none⟩ = some u) ∧ (∀ i u, oa[i]? = some u → wr.cell? ⟨w.heap.size + 1, i, none⟩ = some u) ∧ (∀ i u, sa[i]? = some u → wr.cell? ⟨w.heap.size + 1 + 1, i, none⟩ = some u)
    ∧ (∀ i u, va[i]? = some u → wr.cell? ⟨w.heap.size + 1 + 1 + 1, i, none⟩ = some u) ∧ (∀ i, wr.frozen? ⟨w.heap.size + 1 + 1 + 1, i, none⟩ = false)
theorem four_at (w : World) (ra oa sa va : Array Value) (T1 T2 T3 T4 : TypeId) (wr : World) (h : Below (w.heap.size + 1 + 1 + 1 + 1) ((((w.alloc (.cells ra T1)).alloc (.cells oa T2)).alloc (.cells sa T3)).alloc (.cells va T4)) wr) : Four w ra oa sa va wr := by
  refine ⟨fun i u hu => ?_, fun i u hu => ?_, fun i u hu => ?_, fun i u hu => ?_, fun i => ?_⟩
  · rw [h.cell (show w.heap.size < w.heap.size + 1 + 1 + 1 + 1 by omega), World.cell?_alloc_past _ _ _ (by simp; omega), World.cell?_alloc_past _ _ _ (by simp; omega), World.cell?_alloc_past _ _ _ (by simp), World.cell?_alloc_at _ _ _ _ rfl]
    exact hu
  · rw [h.cell (show w.heap.size + 1 < w.heap.size + 1 + 1 + 1 + 1 by omega), World.cell?_alloc_past _ _ _ (by simp; try omega), World.cell?_alloc_past _ _ _ (by simp), World.cell?_alloc_at _ _ _ _ (by simp)]
    exact hu
  · rw [h.cell (show w.heap.size + 1 + 1 < w.heap.size + 1 + 1 + 1 + 1 by omega), World.cell?_alloc_past _ _ _ (by simp), World.cell?_alloc_at _ _ _ _ (by simp)]
    exact hu
  · rw [h.cell (show w.heap.size + 1 + 1 + 1 < w.heap.size + 1 + 1 + 1 + 1 by omega), World.cell?_alloc_at _ _ _ _ (by simp)]
    exact hu
  · rw [h.frozen (show w.heap.size + 1 + 1 + 1 < w.heap.size + 1 + 1 + 1 + 1 by omega)]
    simp [World.frozen?_alloc_at]

def AfterSays (e : Ending) (w w' : World) (n : Nat) (A : List Int → Int → Prop) : Prop :=
  ∃ (zs : List Int) (st' : Int) (a' : Option Addr) (c' : Nat), e = .returned (.agg #[.slice a' n c', .int .i64 st']) ∧ A zs st' ∧ w'.ownsRow w.heap.size 3 1 (.slice a' n c') n (zs.map I)
end
section
open Go.ChangeShapes Go.WideShapes Go.ChangeAt Go.RowKit Go.Joins
def resD (r : List Cel) : List Int := nums (listC (nthC r 8))
def rsD (cs : List Cel) : Nat → List Int := fun i => resD (row (listC (nthC cs 4)) 9 i)
def CasR (w : World) (a : Option Addr) (n : Nat) (f : Nat → CaD) (rs : Nat → List Int) : Prop :=
  n = 0 ∨ ∃ b o, a = some ⟨b, o, none⟩ ∧ ∀ i, i < n → ∃ ra rn rc, CaC w b (o + i * 9) (f i) (.slice ra rn rc) ∧ IntAt w ra rn (rs i)
theorem CasR.below {w w' : World} {a : Option Addr} {n : Nat} {f : Nat → CaD} {rs : Nat → List Int} (h : CasR w a n f rs) {B : Nat} (hb : Below B w w') (hB : w.heap.size ≤ B) : CasR w' a n f rs := by
  obtain h2 | ⟨b, o, h3, h4⟩ := h
  · exact .inl h2
  · refine .inr ⟨b, o, h3, fun i hi => ?_⟩
    obtain ⟨ra, rn, rc, h5, h6⟩ := h4 i hi
    exact ⟨ra, rn, rc, h5.below hb hB, h6.below hb hB⟩
theorem at_call_r {w : World} {b p : Nat} {us : List Value} {r : List Cel} (h : AtL true w us r) (hs : HasL r tyCall) (hc : ∀ i, i < 9 → w.cell? ⟨b, p + i, none⟩ = us[i]?) : ∃ ra rn rc, CaC w b p (caD r) (.slice ra rn rc) ∧ IntAt w ra rn (resD r) := by
  obtain ⟨x0, r0, rfl, T0, hH0⟩ := hs.cons
  obtain ⟨x1, r1, rfl, T1, hH1⟩ := hH0.cons
  obtain ⟨x2, r2, rfl, T2, hH2⟩ := hH1.cons
  obtain ⟨x3, r3, rfl, T3, hH3⟩ := hH2.cons
  obtain ⟨x4, r4, rfl, T4, hH4⟩ := hH3.cons
  obtain ⟨x5, r5, rfl, T5, hH5⟩ := hH4.cons
  obtain ⟨x6, r6, rfl, T6, hH6⟩ := hH5.cons
  obtain ⟨x7, r7, rfl, T7, hH7⟩ := hH6.cons
  obtain ⟨x8, r8, rfl, T8, hH8⟩ := hH7.cons
  obtain rfl := hH8.nil
  obtain ⟨v0, vr0, rfl, A0, hA0⟩ := h.consE
  obtain ⟨v1, vr1, rfl, A1, hA1⟩ := hA0.consE
  obtain ⟨v2, vr2, rfl, A2, hA2⟩ := hA1.consE
  obtain ⟨v3, vr3, rfl, A3, hA3⟩ := hA2.consE
  obtain ⟨v4, vr4, rfl, A4, hA4⟩ := hA3.consE
  obtain ⟨v5, vr5, rfl, A5, hA5⟩ := hA4.consE
  obtain ⟨v6, vr6, rfl, A6, hA6⟩ := hA5.consE
  obtain ⟨v7, vr7, rfl, A7, hA7⟩ := hA6.consE
  obtain ⟨v8, vr8, rfl, A8, hA8⟩ := hA7.consE
  obtain rfl := hA8.nilE
  obtain ⟨y0, rfl⟩ := T0.int
  obtain ⟨y1, rfl⟩ := T1.int
  obtain ⟨y2, rfl⟩ := T2.int
  obtain ⟨y3, rfl⟩ := T3.int
  obtain ⟨y4, rfl⟩ := T4.int
  obtain ⟨y5, rfl⟩ := T5.int
  obtain ⟨y6, rfl⟩ := T6.int
  obtain ⟨y7, rfl⟩ := T7.int
  obtain ⟨n8, l8, rfl, _⟩ := T8.list
  obtain rfl := A0.int
  obtain rfl := A1.int
  obtain rfl := A2.int
  obtain rfl := A3.int
  obtain rfl := A4.int
  obtain rfl := A5.int
  obtain rfl := A6.int
  obtain rfl := A7.int
  obtain ⟨a8, c8, rfl⟩ := A8.slice
  exact ⟨a8, n8, c8, ⟨hc 0 (by omega), hc 1 (by omega), hc 2 (by omega), hc 3 (by omega), hc 4 (by omega), hc 5 (by omega), hc 6 (by omega), hc 7 (by omega), hc 8 (by omega)⟩, (at_kAt A8 T8 i1).ints⟩
def calN (M : MaD) (i : Nat) : Nat := (M.os.getD i 0).toNat
def AlwJ (M : MaD) (rs : Nat → List Int) (i : Nat) (xs : List Int) (st : Int) : Prop := AllowM xs st (M.f (calN M i)).kd (M.f (calN M i)).k (M.f (calN M i)).v (M.f (calN M i)).cd (rs (calN M i))
def ReplM (M : MaD) (rs : Nat → List Int) : Nat → List Int → Int → Prop
  | 0, xs, st => xs = M.hs ∧ st = M.st
  | i + 1, xs, st => ∃ xs0 st0, ReplM M rs i xs0 st0 ∧ AfterM xs0 st0 (M.f (calN M i)).kd (M.f (calN M i)).k (M.f (calN M i)).v (M.f (calN M i)).cd (rs (calN M i)) xs st
theorem ReplM.one {M : MaD} {rs : Nat → List Int} : ∀ {i : Nat} {xs ys : List Int} {s t : Int}, ReplM M rs i xs s → ReplM M rs i ys t → xs = ys ∧ s = t
  | 0, _, _, _, _, h, g => ⟨h.1.trans g.1.symm, h.2.trans g.2.symm⟩
  | i + 1, _, _, _, _, h, g => by
    obtain ⟨x0, s0, h0, h1⟩ := h
    obtain ⟨y0, t0, g0, g1⟩ := g
    obtain ⟨rfl, rfl⟩ := ReplM.one h0 g0
    exact h1.one g1
def SoM (M : MaD) (rs : Nat → List Int) (n : Nat) : Prop := ∀ i, i < n → ∀ xs st, ReplM M rs i xs st → AlwJ M rs i xs st
theorem SoM.succ {M : MaD} {rs : Nat → List Int} {n : Nat} {xs : List Int} {st : Int} (h : ReplM M rs n xs st) : SoM M rs (n + 1) ↔ SoM M rs n ∧ AlwJ M rs n xs st := by
  constructor
  · intro g
    exact ⟨fun i hi => g i (by omega), g n (by omega) _ _ h⟩
  · rintro ⟨g1, g2⟩ i hi ys t hy
    by_cases hn : i < n
    · exact g1 i hn ys t hy
    · obtain rfl : i = n := by omega
      obtain ⟨rfl, rfl⟩ := hy.one h
      exact g2
theorem after_rows {xs : List Int} {st kind k v code : Int} {ys zs : List Int} {st' : Int} (ho : OkRows xs st) (h : AfterM xs st kind k v code ys zs st') : OkRows zs st' := by
  by_cases hA : AllowM xs st kind k v code ys ∧ code = 0
  · obtain ⟨hA, rfl⟩ := hA
    exact after_ok hA h
  · rcases h with ⟨h1, h2, _⟩ | ⟨_, rfl, rfl⟩
    · exact absurd ⟨h1, h2⟩ hA
    · exact ho
theorem ReplM.ok {M : MaD} {rs : Nat → List Int} (ho : OkRows M.hs M.st) : ∀ {i : Nat} {xs : List Int} {st : Int}, ReplM M rs i xs st → OkRows xs st
  | 0, _, _, h => by obtain ⟨rfl, rfl⟩ := h; exact ho
  | i + 1, _, _, h => by
    obtain ⟨x0, s0, h0, h1⟩ := h
    exact after_rows (ReplM.ok ho h0) h1
def JSo (M : MaD) (rs : Nat → List Int) : Prop := MachGood M ∧ SoM M rs M.no
theorem Own.open9 {w : World} {base : Nat} {v : Value} {T : TypeId} {k n : Nat} {cs : List Cel} {S : Nat → Prop} (h : Own w base v (.l T k n cs) S) : ∃ vs, w.ownsRow base T k v n vs ∧
    ∀ (v' : Value) (w' : World) (us : List Value) (rs : List Cel) (S' : Nat → Prop), OwnL w base us rs S' → (∀ x, S' x → ¬ S x) → rs.length = k → n + 1 ≤ 2097152 → w'.ownsRow base T k v' (n + 1) (vs ++ us) → w.grownBy w' v.ownBlock → (v'.ownBlock = v.ownBlock ∨ v'.ownBlock = some w.heap.size) →
      ∃ S'', Own w' base v' (.l T k (n + 1) (cs ++ rs)) S'' ∧ ∀ x, S'' x → S x ∨ S' x ∨ x = w.heap.size := by
  have key : ∃ (vs : List Value) (Ss : Nat → Nat → Prop), w.ownsRow base T k v n vs ∧ cs.length = n * k ∧ (∀ (j : Nat) (u : Value) (c : Cel), vs[j]? = some u → cs[j]? = some c → Own w base u c (Ss j)) ∧ (∀ j x, j < n * k → Ss j x → S x) ∧ (∀ j g, v.ownBlock = some g → ¬ Ss j g) ∧ (∀ g, v.ownBlock = some g → S g) ∧ ∀ i j x, i ≠ j → Ss i x → ¬ Ss j x := by
    cases h with
    | nil T k S hS => exact ⟨[], fun _ _ => False, World.ownsRow_nil _ _ _ _, by simp, (fun j u c hu _ => by simp at hu), (fun j x hj => by simp at hj), (fun j g e => by cases e), (fun g e => by cases e), fun _ _ _ _ h => h.elim⟩
    | l g cap T k n cs vs S Ss h1 h2 hn h4 h5 h6 h7 =>
      exact ⟨vs, Ss, h1, h2, h4, fun j x hj hx => (h7 x).2 (.inr ⟨j, hj, hx⟩), fun j g' e => by have e2 : g = g' := Option.some.inj e; rw [← e2]; exact h5 j, fun g' e => by have e2 : g = g' := Option.some.inj e; rw [← e2]; exact (h7 g).2 (.inl rfl), h6⟩
  obtain ⟨vs, Ss, h1, h2, h4, hsub, h5, hg, h6⟩ := key
  have hlv := h1.1
  refine ⟨vs, h1, fun v' w' us rs S' hu hd hk hn hrow hgrow hwhere => ?_⟩
  obtain ⟨hul, Us, u1, u2, u3⟩ := hu
  have hus : us.length = k := by omega
  have hlt : ∀ x, S x → x < w.heap.size := fun x hx => (h.lt x hx).2
  have hlt' : ∀ x, S' x → x < w.heap.size := fun x hx => by
    obtain ⟨j, hj, hx⟩ := (u3 x).1 hx
    exact ((u1 j _ _ (List.getElem?_eq_getElem hj) (List.getElem?_eq_getElem (by omega))).lt x hx).2
  have keepS : ∀ j x, j < n * k → Ss j x → w'.heap[x]? = w.heap[x]? := fun j x hj hx => hgrow.block x (hlt x (hsub j x hj hx)) (fun e => h5 j x e.symm hx)
  have keepU : ∀ j x, j < us.length → Us j x → w'.heap[x]? = w.heap[x]? := fun j x hj hx => hgrow.block x (hlt' x ((u3 x).2 ⟨j, hj, hx⟩)) (fun e => hd x ((u3 x).2 ⟨j, hj, hx⟩) (hg x e.symm))
  rcases owns_forms hrow with ⟨-, h0⟩ | ⟨g, cap, rfl⟩
  · omega
  have hgg : v.ownBlock = some g ∨ g = w.heap.size := by
    rcases hwhere with e | e
    · exact .inl (by rw [← e]; rfl)
    · exact .inr (Option.some.inj e)
  have hnS : ∀ j, j < n * k → ¬ Ss j g := fun j hj hx => by
    rcases hgg with e | e
    · exact h5 j g e hx
    · have := hlt g (hsub j g hj hx); omega
  have hnU : ∀ j, j < us.length → ¬ Us j g := fun j hj hx => by
    have hs' : S' g := (u3 g).2 ⟨j, hj, hx⟩
    rcases hgg with e | e
    · exact hd g hs' (hg g e)
    · have := hlt' g hs'; omega
  refine ⟨fun x => x = g ∨ ∃ j, j < (n + 1) * k ∧ (if j < n * k then Ss j else Us (j - n * k)) x, .l g cap T k (n + 1) (cs ++ rs) (vs ++ us) _ (fun j => if j < n * k then Ss j else if j < (n + 1) * k then Us (j - n * k) else fun _ => False) hrow (by rw [List.length_append, h2, hk, Nat.succ_mul]) hn ?_ ?_ ?_ ?_, ?_⟩
  · intro j u c hu hc
    by_cases hj : j < n * k
    · rw [List.getElem?_append_left (by omega)] at hu
      rw [List.getElem?_append_left (by omega)] at hc
      rw [if_pos hj]
      exact (h4 j u c hu hc).heap fun x hx => keepS j x hj hx
    · rw [List.getElem?_append_right (by omega), hlv] at hu
      rw [List.getElem?_append_right (by omega), h2] at hc
      have hjj : j - n * k < us.length := (List.getElem?_eq_some_iff.1 hu).1
      rw [if_neg hj, if_pos (by rw [Nat.succ_mul]; omega)]
      exact (u1 _ u c hu hc).heap fun x hx => keepU _ x hjj hx
  · intro j
    show ¬ (if j < n * k then Ss j else if j < (n + 1) * k then Us (j - n * k) else fun _ => False) g
    split
    · rename_i hj; exact hnS j hj
    · split
      · rename_i hj hj'; exact hnU _ (by rw [Nat.succ_mul] at hj'; omega)
      · exact fun h => h
  · intro i j x hij
    show (if i < n * k then Ss i else if i < (n + 1) * k then Us (i - n * k) else fun _ => False) x → ¬ (if j < n * k then Ss j else if j < (n + 1) * k then Us (j - n * k) else fun _ => False) x
    by_cases hi : i < n * k
    · rw [if_pos hi]
      intro hx
      by_cases hj : j < n * k
      · rw [if_pos hj]; exact h6 i j x hij hx
      · rw [if_neg hj]
        split
        · rename_i hj'
          exact fun hx' => hd x ((u3 x).2 ⟨_, by rw [Nat.succ_mul] at hj'; omega, hx'⟩) (hsub i x hi hx)
        · exact fun h => h
    · rw [if_neg hi]
      split
      · rename_i hi'
        intro hx
        by_cases hj : j < n * k
        · rw [if_pos hj]
          exact fun hx' => hd x ((u3 x).2 ⟨_, by rw [Nat.succ_mul] at hi'; omega, hx⟩) (hsub j x hj hx')
        · rw [if_neg hj]
          split
          · exact u2 _ _ x (by omega) hx
          · exact fun h => h
      · exact fun h => h.elim
  · intro x
    constructor
    · rintro (rfl | ⟨j, hj, hx⟩)
      · exact .inl rfl
      · refine .inr ⟨j, hj, ?_⟩
        by_cases hj2 : j < n * k
        · rw [if_pos hj2] at hx ⊢; exact hx
        · rw [if_neg hj2] at hx ⊢; rw [if_pos hj]; exact hx
    · rintro (rfl | ⟨j, hj, hx⟩)
      · exact .inl rfl
      · refine .inr ⟨j, hj, ?_⟩
        by_cases hj2 : j < n * k
        · rw [if_pos hj2] at hx ⊢; exact hx
        · rw [if_neg hj2, if_pos hj] at hx; rw [if_neg hj2]; exact hx
  · rintro x (rfl | ⟨j, hj, hx⟩)
    · rcases hgg with e | e
      · exact .inl (hg x e)
      · exact .inr (.inr e)
    · by_cases hj2 : j < n * k
      · rw [if_pos hj2] at hx; exact .inl (hsub j x hj2 hx)
      · rw [if_neg hj2] at hx; exact .inr (.inl ((u3 x).2 ⟨_, by rw [Nat.succ_mul] at hj; omega, hx⟩))
abbrev CaR : Type := CaD × List Int
def ToldQ (d : CaD) : Bool := decide (0 ≤ d.en) || decide (0 ≤ d.ln)
def toldL (f : Nat → CaD) (rs : Nat → List Int) : Nat → List CaR
  | 0 => []
  | n + 1 => toldL f rs n ++ (if ToldQ (f n) = true then [(f n, rs n)] else [])
theorem toldL_yes {f : Nat → CaD} {rs : Nat → List Int} {n : Nat} (h : ToldQ (f n) = true) : toldL f rs (n + 1) = toldL f rs n ++ [(f n, rs n)] := by rw [toldL, if_pos h]
theorem toldL_no {f : Nat → CaD} {rs : Nat → List Int} {n : Nat} (h : ToldQ (f n) = false) : toldL f rs (n + 1) = toldL f rs n := by rw [toldL, if_neg (by rw [h]; simp), List.append_nil]
theorem toldL_len (f : Nat → CaD) (rs : Nat → List Int) : ∀ n, (toldL f rs n).length ≤ n
  | 0 => Nat.le_refl _
  | n + 1 => by
    have := toldL_len f rs n
    rw [toldL, List.length_append]
    split <;> simp <;> omega
def caCel (p : CaR) : List Cel := [.i p.1.t, .i p.1.kd, .i p.1.k, .i p.1.v, .i p.1.st, .i p.1.ln, .i p.1.en, .i p.1.cd, .l 3 1 p.2.length (p.2.map .i)]
def toldC (L : List CaR) : List Cel := L.flatMap caCel
def CasN (w : World) (a : Option Addr) (n : Nat) (f : Nat → CaD) (rs : Nat → List Int) : Prop :=
  n = 0 ∨ ∃ b o, a = some ⟨b, o, none⟩ ∧ ∀ i, i < n → ∃ ra rn rc, CaC w b (o + i * 9) (f i) (.slice ra rn rc) ∧ IntAt w ra rn (rs i) ∧ (ra = none → rc = 0) ∧ rn ≤ 1048576
theorem CasN.below {w w' : World} {a : Option Addr} {n : Nat} {f : Nat → CaD} {rs : Nat → List Int} (h : CasN w a n f rs) {B : Nat} (hb : Below B w w') (hB : w.heap.size ≤ B) : CasN w' a n f rs := by
  obtain h2 | ⟨b, o, h3, h4⟩ := h
  · exact .inl h2
  · refine .inr ⟨b, o, h3, fun i hi => ?_⟩
    obtain ⟨ra, rn, rc, h5, h6, h7⟩ := h4 i hi
    exact ⟨ra, rn, rc, h5.below hb hB, h6.below hb hB, h7⟩
theorem CasN.r {w : World} {a : Option Addr} {n : Nat} {f : Nat → CaD} {rs : Nat → List Int} (h : CasN w a n f rs) : CasR w a n f rs := by
  obtain h2 | ⟨b, o, h3, h4⟩ := h
  · exact .inl h2
  · refine .inr ⟨b, o, h3, fun i hi => ?_⟩
    obtain ⟨ra, rn, rc, h5, h6, _⟩ := h4 i hi
    exact ⟨ra, rn, rc, h5, h6⟩
structure ToldAt (w : World) (base : Nat) (v : Value) (L : List CaR) : Prop where
  ex : ∃ S, Own w base v (.l 52 9 L.length (toldC L)) S
theorem ToldAt.on {w w' : World} {base : Nat} {v : Value} {L : List CaR} (h : ToldAt w base v L) {B : Nat} (hb : Below B w w') (hB : w.heap.size ≤ B) : ToldAt w' base v L := by
  obtain ⟨S, h⟩ := h.ex
  exact ⟨S, h.on hb hB⟩
theorem ToldAt.weaken {w : World} {base base' : Nat} {v : Value} {L : List CaR} (h : ToldAt w base v L) (hb : base' ≤ base) : ToldAt w base' v L := by
  obtain ⟨S, h⟩ := h.ex
  exact ⟨S, h.weaken hb⟩
theorem told_none {w : World} {base : Nat} (h : (w.alloc (.cells #[] 52)).ownsRow base 52 9 (.slice (some ⟨w.heap.size, 0, none⟩) 0 0) 0 []) : ToldAt (w.alloc (.cells #[] 52)) base (.slice (some ⟨w.heap.size, 0, none⟩) 0 0) [] :=
  ⟨fun x => x = w.heap.size, .l _ 0 _ 9 0 [] [] _ (fun _ _ => False) h (by simp) (by omega) (fun j u c hu => by simp at hu) (fun _ h => h) (fun _ _ _ _ h => h.elim) (fun x => by simp)⟩
theorem own_nums {w : World} {base n : Nat} {v : Value} {fs : List Int} (h : w.ownsRow base 3 1 v n (fs.map I)) (hn : n ≤ 2097152) : Own w base v (.l 3 1 n (fs.map .i)) (fun x => v.ownBlock = some x) := by
  have hl := h.1
  rcases owns_forms h with ⟨rfl, rfl⟩ | ⟨g, cap, rfl⟩
  · have : fs = [] := by simpa using hl
    subst this
    exact .nil _ _ _ (fun k e => by cases e)
  · refine .l g cap _ 1 n _ (fs.map I) _ (fun _ _ => False) h (by simpa using hl) hn (fun j u c hu hc => ?_) (fun _ h => h) (fun _ _ _ _ h => h.elim) (fun x => ?_)
    · simp only [List.getElem?_map, Option.map_eq_some_iff] at hu hc
      obtain ⟨a, ha, rfl⟩ := hu
      obtain ⟨a', ha', rfl⟩ := hc
      rw [ha] at ha'
      cases ha'
      exact .i _ _ (fun _ h => h)
    · constructor
      · intro e; exact .inl (Option.some.inj e).symm
      · rintro (rfl | ⟨_, _, h⟩)
        · rfl
        · exact h.elim
def callV (d : CaD) (u : Value) : List Value := [I d.t, I d.kd, I d.k, I d.v, I d.st, I d.ln, I d.en, I d.cd, u]
theorem ownL_int {w : World} {base : Nat} {vs : List Value} {cs : List Cel} {S : Nat → Prop} (x : Int) (h : OwnL w base vs cs S) : OwnL w base (I x :: vs) (.i x :: cs) S :=
  OwnL.cons (S0 := fun _ => False) (.i x _ (fun _ h => h)) h (fun _ h => h.elim) (fun x => by simp)
theorem ownL_call {w : World} {base : Nat} (p : CaR) {u : Value} {S : Nat → Prop} (h : Own w base u (.l 3 1 p.2.length (p.2.map .i)) S) : OwnL w base (callV p.1 u) (caCel p) S :=
  ownL_int _ (ownL_int _ (ownL_int _ (ownL_int _ (ownL_int _ (ownL_int _ (ownL_int _ (ownL_int _ (OwnL.cons (S := fun _ => False) h (OwnL.nil (fun _ h => h)) (fun _ _ h => h) (fun x => by simp)))))))))
theorem ToldAt.app {w W : World} {base B : Nat} {v : Value} {L : List CaR} (h : ToldAt w base v L) (hL : L.length ≤ 1048576) (hb : Below B w W) (hB : w.heap.size ≤ B) (hbB : base ≤ B) : ∃ vs, W.ownsRow base 52 9 v L.length vs ∧
    ∀ (v' u : Value) (w' : World) (p : CaR), W.ownsRow B 3 1 u p.2.length (p.2.map I) → p.2.length ≤ 1048576 → w'.ownsRow base 52 9 v' (L.length + 1) (vs ++ callV p.1 u) → W.grownBy w' v.ownBlock → (v'.ownBlock = v.ownBlock ∨ v'.ownBlock = some W.heap.size) → ToldAt w' base v' (L ++ [p]) := by
  obtain ⟨S, ho⟩ := h.ex
  have hlt := ho.lt
  obtain ⟨vs, h2, back⟩ := (ho.on hb hB).open9
  refine ⟨vs, h2, fun v' u w' p hu hp hv hg ha => ?_⟩
  have hlu := hu.lt
  obtain ⟨S'', o, _⟩ := back v' w' (callV p.1 u) (caCel p) (fun x => u.ownBlock = some x) (ownL_call p ((own_nums hu (by omega)).weaken hbB)) (fun x hx hs => by
    have h3 := (hlt x hs).2
    have h4 := (hlu x hx).1
    omega) rfl (by omega) hv hg ha
  refine ⟨S'', ?_⟩
  have e1 : (L ++ [p]).length = L.length + 1 := by simp
  have e2 : toldC (L ++ [p]) = toldC L ++ caCel p := by unfold toldC; rw [List.flatMap_append]; simp
  rw [e1, e2]
  exact o
def AheadM (a b : CaD) : Bool := decide (0 ≤ a.en) && decide (a.en < b.st)
def FreeM (f : Nat → CaD) (m : Nat) (u : Nat → Bool) (k : Nat) : Prop := ∀ i, i < m → i ≠ k → u i = false → AheadM (f i) (f k) = false
def takeM (u : Nat → Bool) (k : Nat) : Nat → Bool := fun i => u i || decide (i = k)
def NextL (f : Nat → CaD) (rs : Nat → List Int) (m : Nat) (u : Nat → Bool) (xs : List Int) (st : Int) (k : Nat) : Prop := u k = false ∧ FreeM f m u k ∧ AllowM xs st (f k).kd (f k).k (f k).v (f k).cd (rs k)
def GoM (f : Nat → CaD) (rs : Nat → List Int) (m : Nat) : Nat → (Nat → Bool) → List Int → Int → Prop
  | 0, _, _, _ => True
  | l + 1, u, xs, st => ∃ k, k < m ∧ NextL f rs m u xs st k ∧ ∃ ys s, AfterM xs st (f k).kd (f k).k (f k).v (f k).cd (rs k) ys s ∧ GoM f rs m l (takeM u k) ys s
def ByM (f : Nat → CaD) (rs : Nat → List Int) (m l : Nat) (u : Nat → Bool) (xs : List Int) (st : Int) (k : Nat) : Prop := NextL f rs m u xs st k ∧ ∃ ys s, AfterM xs st (f k).kd (f k).k (f k).v (f k).cd (rs k) ys s ∧ GoM f rs m l (takeM u k) ys s
theorem GoM.by_ {f : Nat → CaD} {rs : Nat → List Int} {m l : Nat} {u : Nat → Bool} {xs : List Int} {st : Int} : GoM f rs m (l + 1) u xs st ↔ ∃ k, k < m ∧ ByM f rs m l u xs st k := Iff.rfl
structure But (g : Nat) (w w' : World) : Prop where
  blw : Below g w w'
  rest : ∀ x, x < w.heap.size → x ≠ g → w'.heap[x]? = w.heap[x]?
theorem But.refl (g : Nat) (w : World) : But g w w := ⟨Below.refl _ _, fun _ _ _ => rfl⟩
theorem But.trans {g : Nat} {w w1 w2 : World} (h : But g w w1) (k : But g w1 w2) : But g w w2 := ⟨h.blw.trans k.blw, fun x hx hg => (k.rest x (Nat.lt_of_lt_of_le hx h.blw.size) hg).trans (h.rest x hx hg)⟩
theorem But.of {g : Nat} {w w' : World} (h : Below w.heap.size w w') (hg : g ≤ w.heap.size) : But g w w' := ⟨h.mono hg, fun x hx _ => h.block x hx⟩
theorem But.put {g : Nat} {w w' : World} (h : But g w w') (i : Nat) (v : Value) : But g w (w'.setCell ⟨g, i, none⟩ v) := by
  refine ⟨h.blw.setCell (Nat.le_refl _) v, fun x hx hg => ?_⟩
  rw [← h.rest x hx hg]
  show (w'.heap.modify g _)[x]? = _
  rw [Array.getElem?_modify, if_neg (fun e => hg e.symm)]
theorem But.box {g b : Nat} {w w' : World} {cs : Array Value} {T : TypeId} (h : But g w w') (hB : Box w b cs T) (hb : b ≠ g) : Box w' b cs T := (h.rest b hB.lt hb).trans hB
theorem But.ints {g p o n : Nat} {w w' : World} {xs : List Int} (h : But g w w') (hI : IntAt w (some ⟨p, o, none⟩) n xs) (hp : p ≠ g) : IntAt w' (some ⟨p, o, none⟩) n xs := by
  obtain ⟨h1, h2, h3 | ⟨b, q, e, h4⟩⟩ := hI
  · exact ⟨h1, h2, .inl h3⟩
  · cases e
    refine ⟨h1, h2, .inr ⟨p, o, rfl, fun i hi => ?_⟩⟩
    rw [World.cell?_of_block (w := w) (h.rest p (World.block_lt_of_cell? w _ (h4 i hi)) hp)]
    exact h4 i hi
def UsedAt (w : World) (g m : Nat) (u : Nat → Bool) : Prop := ∃ A : Array Value, Box w g A 4 ∧ A.size = m ∧ ∀ j, j < m → A[j]? = some (.bool (u j))
theorem UsedAt.lt {w : World} {g m : Nat} {u : Nat → Bool} (h : UsedAt w g m u) : g < w.heap.size := let ⟨_, h, _⟩ := h; h.lt
theorem UsedAt.at_ {w : World} {g m : Nat} {u : Nat → Bool} (h : UsedAt w g m u) {j : Nat} (hj : j < m) : w.cell? ⟨g, j, none⟩ = some (.bool (u j)) := let ⟨_, h, _, h2⟩ := h; (h.cell j).trans (h2 j hj)
theorem UsedAt.fr {w : World} {g m : Nat} {u : Nat → Bool} (h : UsedAt w g m u) (j : Nat) : w.frozen? ⟨g, j, none⟩ = false := let ⟨_, h, _⟩ := h; h.frozen j
theorem UsedAt.below {w w' : World} {g m : Nat} {u : Nat → Bool} (h : UsedAt w g m u) {B : Nat} (hb : Below B w w') (hB : w.heap.size ≤ B) : UsedAt w' g m u := let ⟨A, h, h2⟩ := h; ⟨A, h.below hb (Nat.lt_of_lt_of_le h.lt hB), h2⟩
theorem UsedAt.put {w : World} {g m k : Nat} {u v : Nat → Bool} {b : Bool} (h : UsedAt w g m u) (hk : k < m) (hb : v k = b) (hv : ∀ i, i ≠ k → v i = u i) : UsedAt (w.setCell ⟨g, k, none⟩ (.bool b)) g m v := by
  obtain ⟨A, h, h1, h2⟩ := h
  refine ⟨_, h.put k (.bool b), by simpa using h1, fun j hj => ?_⟩
  by_cases e : k = j
  · subst e
    rw [Array.getElem?_setIfInBounds_self_of_lt (by omega), hb]
  · rw [Array.getElem?_setIfInBounds_ne e, h2 j hj, hv j (fun h => e h.symm)]
theorem UsedAt.take {w : World} {g m k : Nat} {u : Nat → Bool} (h : UsedAt w g m u) (hk : k < m) : UsedAt (w.setCell ⟨g, k, none⟩ (.bool true)) g m (takeM u k) := h.put hk (by simp [takeM]) (fun i hi => by simp [takeM, hi])
theorem UsedAt.back {w : World} {g m k : Nat} {u : Nat → Bool} (h : UsedAt w g m (takeM u k)) (hk : k < m) (hu : u k = false) : UsedAt (w.setCell ⟨g, k, none⟩ (.bool false)) g m u := h.put hk hu (fun i hi => by simp [takeM, hi])
end
end Go.Proofs.YtecheopkfhfgkaaGreat
