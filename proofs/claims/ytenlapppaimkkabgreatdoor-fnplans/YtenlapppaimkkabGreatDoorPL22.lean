/- Texts joined: AfterOk. -/
import Derived.Test.YtenlapppaimkkabGreatDoorPL21
set_option maxHeartbeats 1000000
set_option maxRecDepth 100000
namespace Go.Proofs.YtenlapppaimkkabGreatDoor
theorem four_of {xs : List Int} (h : xs.length = 4) : ∃ y0 y1 y2 y3, xs = [y0, y1, y2, y3] := by
  match xs, h with
  | [y0, y1, y2, y3], _ => exact ⟨y0, y1, y2, y3, rfl⟩
def OkFour (y0 y1 y2 y3 : Int) : Prop :=
  (y0 = 0 ∨ (1 ≤ y0 ∧ y0 ≤ 6)) ∧ (y1 = 0 ∨ (1 ≤ y1 ∧ y1 ≤ 6)) ∧ (y2 = 0 ∨ (1 ≤ y2 ∧ y2 ≤ 6)) ∧ (y3 = 0 ∨ (1 ≤ y3 ∧ y3 ≤ 6))
  ∧ (y0 = 0 ∨ (y0 ≠ y1 ∧ y0 ≠ y2 ∧ y0 ≠ y3)) ∧ (y1 = 0 ∨ (y1 ≠ y2 ∧ y1 ≠ y3)) ∧ (y2 = 0 ∨ y2 ≠ y3)
theorem good_len {xs : List Int} {x : Int} (h : Good xs x) : (1 ≤ x ∧ x ≤ 6) ∧ (if xs.getD 0 0 = x then 1 else 0) + (if xs.getD 1 0 = x then 1 else 0) + (if xs.getD 2 0 = x then 1 else 0) + (if xs.getD 3 0 = x then 1 else 0) ≤ (1 : Int) := by
  have h2 := h.2
  rw [← posK_len]
  exact ⟨h.1, by omega⟩
theorem posK_ne {xs : List Int} {x : Int} (h : xs.getD 0 0 = x ∨ xs.getD 1 0 = x ∨ xs.getD 2 0 = x ∨ xs.getD 3 0 = x) : posK xs 4 x ≠ [] := by
  intro e
  have hl := posK_len xs x
  rw [e] at hl
  simp only [List.length_nil] at hl
  rcases h with h | h | h | h <;> simp only [h, if_true] at hl <;> (repeat' split at hl) <;> omega
theorem okFour_iff (y0 y1 y2 y3 st : Int) : OkRows [y0, y1, y2, y3] st ↔ ((0 ≤ st ∧ st ≤ 5) ∧ OkFour y0 y1 y2 y3) := by
  constructor
  · rintro ⟨_, h0, h1, h⟩
    refine ⟨⟨h0, h1⟩, ?_⟩
    have g : ∀ x, x ≠ 0 → (y0 = x ∨ y1 = x ∨ y2 = x ∨ y3 = x) → (1 ≤ x ∧ x ≤ 6) ∧ (if y0 = x then 1 else 0) + (if y1 = x then 1 else 0) + (if y2 = x then 1 else 0) + (if y3 = x then 1 else 0) ≤ (1 : Int) := fun x hx hh => good_len (h x hx (posK_ne (by simpa using hh)))
    have g0 := g y0
    have g1 := g y1
    have g2 := g y2
    have g3 := g y3
    unfold OkFour
    clear g h
    simp only [true_or, or_true, if_true, forall_const] at g0 g1 g2 g3
    refine ⟨?_, ?_, ?_, ?_, ?_, ?_, ?_⟩
    · rcases Decidable.em (y0 = 0) with e | e
      · exact .inl e
      · exact .inr (g0 e).1
    · rcases Decidable.em (y1 = 0) with e | e
      · exact .inl e
      · exact .inr (g1 e).1
    · rcases Decidable.em (y2 = 0) with e | e
      · exact .inl e
      · exact .inr (g2 e).1
    · rcases Decidable.em (y3 = 0) with e | e
      · exact .inl e
      · exact .inr (g3 e).1
    · rcases Decidable.em (y0 = 0) with e | e
      · exact .inl e
      · have q := (g0 e).2
        refine .inr ⟨?_, ?_, ?_⟩ <;> (intro e2; simp only [← e2, if_true] at q; (repeat' split at q) <;> omega)
    · rcases Decidable.em (y1 = 0) with e | e
      · exact .inl e
      · have q := (g1 e).2
        refine .inr ⟨?_, ?_⟩ <;> (intro e2; simp only [← e2, if_true] at q; (repeat' split at q) <;> omega)
    · rcases Decidable.em (y2 = 0) with e | e
      · exact .inl e
      · have q := (g2 e).2
        refine .inr ?_
        intro e2; simp only [← e2, if_true] at q; (repeat' split at q) <;> omega
  · rintro ⟨⟨h0, h1⟩, h⟩
    refine ⟨rfl, h0, h1, fun x hx hp => ?_⟩
    unfold OkFour at h
    have hmem : y0 = x ∨ y1 = x ∨ y2 = x ∨ y3 = x := by
      rcases Decidable.em (y0 = x ∨ y1 = x ∨ y2 = x ∨ y3 = x) with e | e
      · exact e
      · exfalso
        apply hp
        rw [posK_four]
        simp only [not_or] at e
        simp [e]
    refine ⟨by omega, ?_⟩
    have hl := posK_len [y0, y1, y2, y3] x
    simp only [List.getD_cons_zero, List.getD_cons_succ] at hl
    have : ((posK [y0, y1, y2, y3] 4 x).length : Int) ≤ 1 := by
      rw [hl]
      (repeat' split) <;> omega
    omega

theorem keyN_lt {y0 y1 y2 y3 v : Int} (h : keyN [y0, y1, y2, y3] v < 0) : y0 ≠ v ∧ y1 ≠ v ∧ y2 ≠ v ∧ y3 ≠ v := by
  unfold keyN at h
  simp only [List.getD_cons_zero, List.getD_cons_succ] at h
  (repeat' split at h) <;> first | omega | (refine ⟨?_, ?_, ?_, ?_⟩ <;> assumption)
theorem keyN_eq {y0 y1 y2 y3 v k : Int} (h : keyN [y0, y1, y2, y3] v = k) (hk : 0 ≤ k) : (k = 0 ∧ y0 = v) ∨ (k = 1 ∧ y1 = v) ∨ (k = 2 ∧ y2 = v) ∨ (k = 3 ∧ y3 = v) := by
  unfold keyN at h
  simp only [List.getD_cons_zero, List.getD_cons_succ] at h
  (repeat' split at h) <;> omega

theorem after_ok {xs : List Int} {st kind k v : Int} {ys zs : List Int} {st' : Int} (hA : AllowM xs st kind k v 0 ys) (h : AfterM xs st kind k v 0 ys zs st') : OkRows zs st' := by
  rcases h with ⟨_, _, h⟩ | ⟨h, _⟩
  case inr => exact absurd ⟨hA, rfl⟩ h
  obtain ⟨hok, hop, hA⟩ := hA
  rcases hA with ⟨h0, _⟩ | ⟨_, hD, _⟩
  · exact absurd rfl h0
  obtain ⟨y0, y1, y2, y3, rfl⟩ := four_of hok.1
  have hf := (okFour_iff y0 y1 y2 y3 st).1 hok
  obtain ⟨hk, hkey, hval⟩ := hop
  unfold KeyGood at hkey
  unfold ValGood at hval
  unfold DoneM atK at hD
  rcases h with ⟨hkd, rfl, rfl⟩ | ⟨hkd, rfl, rfl⟩ | ⟨hkd, rfl, rfl⟩ | ⟨hkd, rfl, rfl⟩
  · have hk4 : 0 ≤ k ∧ k ≤ 3 := by omega
    have hv : 1 ≤ v ∧ v ≤ 6 := by omega
    have hcase : (keyN [y0, y1, y2, y3] v < 0) ∨ keyN [y0, y1, y2, y3] v = k := by omega
    have hne : (k = 0 ∨ y0 ≠ v) ∧ (k = 1 ∨ y1 ≠ v) ∧ (k = 2 ∨ y2 ≠ v) ∧ (k = 3 ∨ y3 ≠ v) := by
      rcases hcase with h1 | h1
      · have := keyN_lt h1; omega
      · have e := keyN_eq h1 hk4.1
        obtain ⟨_, hf2⟩ := hf
        unfold OkFour at hf2
        omega
    clear hD hcase hkey hval hk hkd hok
    obtain ⟨hst, hf⟩ := hf
    unfold OkFour at hf
    rcases (show k = 0 ∨ k = 1 ∨ k = 2 ∨ k = 3 by omega) with rfl | rfl | rfl | rfl
    · show OkRows [v, y1, y2, y3] _
      rw [okFour_iff]
      refine ⟨hst, ?_⟩
      have n : y1 ≠ v ∧ y2 ≠ v ∧ y3 ≠ v := by omega
      clear hne
      unfold OkFour
      refine ⟨?_, ?_, ?_, ?_, ?_, ?_, ?_⟩ <;> omega
    · show OkRows [y0, v, y2, y3] _
      rw [okFour_iff]
      refine ⟨hst, ?_⟩
      have n : y0 ≠ v ∧ y2 ≠ v ∧ y3 ≠ v := by omega
      clear hne
      unfold OkFour
      refine ⟨?_, ?_, ?_, ?_, ?_, ?_, ?_⟩ <;> omega
    · show OkRows [y0, y1, v, y3] _
      rw [okFour_iff]
      refine ⟨hst, ?_⟩
      have n : y0 ≠ v ∧ y1 ≠ v ∧ y3 ≠ v := by omega
      clear hne
      unfold OkFour
      refine ⟨?_, ?_, ?_, ?_, ?_, ?_, ?_⟩ <;> omega
    · show OkRows [y0, y1, y2, v] _
      rw [okFour_iff]
      refine ⟨hst, ?_⟩
      have n : y0 ≠ v ∧ y1 ≠ v ∧ y2 ≠ v := by omega
      clear hne
      unfold OkFour
      refine ⟨?_, ?_, ?_, ?_, ?_, ?_, ?_⟩ <;> omega
  · have hk4 : 0 ≤ k ∧ k ≤ 3 := by omega
    clear hD hkey hval hk hkd hok
    obtain ⟨hst, hf⟩ := hf
    unfold OkFour at hf
    rcases (show k = 0 ∨ k = 1 ∨ k = 2 ∨ k = 3 by omega) with rfl | rfl | rfl | rfl
    · show OkRows [0, y1, y2, y3] _
      rw [okFour_iff]
      refine ⟨hst, ?_⟩
      unfold OkFour
      refine ⟨?_, ?_, ?_, ?_, ?_, ?_, ?_⟩ <;> omega
    · show OkRows [y0, 0, y2, y3] _
      rw [okFour_iff]
      refine ⟨hst, ?_⟩
      unfold OkFour
      refine ⟨?_, ?_, ?_, ?_, ?_, ?_, ?_⟩ <;> omega
    · show OkRows [y0, y1, 0, y3] _
      rw [okFour_iff]
      refine ⟨hst, ?_⟩
      unfold OkFour
      refine ⟨?_, ?_, ?_, ?_, ?_, ?_, ?_⟩ <;> omega
    · show OkRows [y0, y1, y2, 0] _
      rw [okFour_iff]
      refine ⟨hst, ?_⟩
      unfold OkFour
      refine ⟨?_, ?_, ?_, ?_, ?_, ?_, ?_⟩ <;> omega
  · rw [okFour_iff]
    refine ⟨?_, hf.2⟩
    omega
  · exact hok
end Go.Proofs.YtenlapppaimkkabGreatDoor
