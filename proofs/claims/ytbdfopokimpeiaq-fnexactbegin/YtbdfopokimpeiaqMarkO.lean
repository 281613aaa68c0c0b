/- The laws' own marking of words, entries and numbers, with what is laid. -/
import Derived.Test.YtbdfopokimpeiaqMemO
namespace Go.Proofs.Ytbdfopokimpeiaq
open Go.ChangeShapes Go.WideShapes Go.ChangeAt Go.RowKit Go.Joins

/-- Numbers that ascend from k on. -/
def asc (k : Int) (n : Nat) : List Int := (List.range n).map fun (i : Nat) => k + (i : Int)
theorem asc_len (k : Int) (n : Nat) : (asc k n).length = n := by simp [asc]
theorem asc_at {k : Int} {n i : Nat} (h : i < n) : (asc k n).getD i 0 = k + (i : Int) := by simp [asc, List.getD, h]
def Asc (zs : List Int) (k : Int) (j : Nat) : Prop := ∀ i, i < j → zs[i]? = some (k + (i : Int))
theorem Asc.three {zs : List Int} {k q : Int} {j : Nat} (h : Asc zs k (j * 3)) (hl : j * 3 + 2 < zs.length) (hq : k + (j : Int) * 3 = q) : Asc (((zs.set (j * 3) q).set (j * 3 + 1) (q + 1)).set (j * 3 + 2) (q + 1 + 1)) k ((j + 1) * 3) := by
  intro i hi
  by_cases e2 : i = j * 3 + 2
  · subst e2
    rw [List.getElem?_set_self (by simp; omega)]
    congr 1; push_cast; omega
  rw [List.getElem?_set_ne (by omega)]
  by_cases e1 : i = j * 3 + 1
  · subst e1
    rw [List.getElem?_set_self (by simp; omega)]
    congr 1; push_cast; omega
  rw [List.getElem?_set_ne (by omega)]
  by_cases e0 : i = j * 3
  · subst e0
    rw [List.getElem?_set_self (by omega)]
    congr 1; push_cast; omega
  rw [List.getElem?_set_ne (by omega)]
  exact h i (by omega)
theorem Asc.one {zs : List Int} {k q : Int} {j : Nat} (h : Asc zs k j) (hl : j < zs.length) (hq : k + (j : Int) = q) : Asc (zs.set j q) k (j + 1) := by
  intro i hi
  by_cases e0 : i = j
  · subst e0
    rw [List.getElem?_set_self (by omega), hq]
  rw [List.getElem?_set_ne (by omega)]
  exact h i (by omega)
theorem Asc.all {zs : List Int} {k : Int} {n : Nat} (h : Asc zs k n) (hl : zs.length = n) : zs = asc k n := by
  refine List.ext_getElem? fun i => ?_
  rcases Nat.lt_or_ge i n with hi | hi
  · rw [h i hi]; simp [asc, hi]
  · rw [List.getElem?_eq_none (by omega), List.getElem?_eq_none (by rw [asc_len]; omega)]
/-- Only the block of this list has changed, and nothing was made. -/
structure OnlyV (base : Nat) (v : Value) (w w' : World) : Prop where
  bel : Below base w w'
  size : w'.heap.size = w.heap.size
  oth : ∀ k, v.ownBlock ≠ some k → w'.heap[k]? = w.heap[k]?
theorem OnlyV.refl (base : Nat) (v : Value) (w : World) : OnlyV base v w w := ⟨Below.refl _ _, rfl, fun _ _ => rfl⟩
theorem OnlyV.set {base g n cap : Nat} {w w' : World} (h : OnlyV base (.slice (some ⟨g, 0, none⟩) n cap) w w') (hb : base ≤ g) (j : Nat) (u : Value) : OnlyV base (.slice (some ⟨g, 0, none⟩) n cap) w (w'.setCell ⟨g, j, none⟩ u) :=
  ⟨h.bel.setCell hb _, by rw [size_setCell]; exact h.size, fun k hk => (Below.heap_setCell _ _ _ _ (fun e => hk (by simp [Value.ownBlock, e]))).trans (h.oth k hk)⟩
set_option maxHeartbeats 1000000 in
theorem markWordS_o (base : Nat) (v : Value) (n : Nat) (k0 : Int) (zs0 : List Int) (w : World) (hn : n ≤ 1048576) (hk0 : 0 ≤ k0) (hk1 : k0 ≤ 4611686018427387904) (hown : w.ownsRow base 80 3 v n (zs0.map I)) :
    Calls Try.prog 19 #[v, .int .i64 k0] w fun e w' => e = .returned (.int .i64 (k0 + (n : Int) * 3)) ∧ w'.ownsRow base 80 3 v n ((asc k0 (n * 3)).map I) ∧ OnlyV base v w w' := by
  rcases owns_forms hown with ⟨rfl, rfl⟩ | ⟨g, cap, rfl⟩
  · have HO : Hid (w.ownsRow base 80 3 (.slice none 0 0) 0 (zs0.map I)) := hown
    clear hown
    go_enter Try.func19, Try.ntmps19
    go_wp2
    go_loopw [1, 5] (fun q i wr => q = .int .i64 k0 ∧ i = .int .i64 0 ∧ wr = w) (fun _ i _ => 0)
    case atStart => exact ⟨rfl, rfl, rfl⟩
    case round =>
      obtain ⟨rfl, rfl, rfl⟩ := hrel
      go_wp2
      go_ret
      exact ⟨by simp, by have h := HO.out; rw [show zs0 = [] by have := h.1; simpa using this] at h; simpa [asc] using h, OnlyV.refl _ _ _⟩
  have hbg : base ≤ g := (hown.lt g rfl).1
  have hl0 : zs0.length = n * 3 := by have := hown.1; simpa using this
  go_enter Try.func19, Try.ntmps19
  go_wp2
  go_loopw [1, 5] (fun q i wr => ∃ j : Nat, j ≤ n ∧ q = .int .i64 (k0 + (j : Int) * 3) ∧ i = .int .i64 (j : Int) ∧ (∃ zs : List Int, zs.length = n * 3 ∧ Asc zs k0 (j * 3) ∧ wr.ownsRow base 80 3 (.slice (some ⟨g, 0, none⟩) n cap) n (zs.map I)) ∧ OnlyV base (.slice (some ⟨g, 0, none⟩) n cap) w wr) (fun _ i _ => n - (intOf i).toNat)
  case atStart => exact ⟨0, Nat.zero_le _, by simp, rfl, ⟨zs0, hl0, fun i hi => by omega, hown⟩, OnlyV.refl _ _ _⟩
  case round =>
    obtain ⟨j, hj, rfl, rfl, ⟨zs, hlz, hasc, ho⟩, hob⟩ := hrel
    have HOB : Hid (OnlyV base (.slice (some ⟨g, 0, none⟩) n cap) w wr) := hob
    clear hown hob hl0
    by_cases hlt : j < n
    · have hj0 : (0 : Int) ≤ (j : Int) := by omega
      have hj1 : (j : Int) < (n : Int) := by omega
      have z0 := ho.frozenAt (j * 3)
      have z1 := ho.frozenAt (j * 3 + 1)
      have z2 := ho.frozenAt (j * 3 + 2)
      have hl : (zs.map I).length = n * 3 := ho.1
      obtain ⟨u0, hu0⟩ : ∃ u, wr.cell? ⟨g, j * 3, none⟩ = some u := ⟨_, own_cellV ho (List.getElem?_eq_getElem (by omega))⟩
      obtain ⟨u1, hu1⟩ : ∃ u, wr.cell? ⟨g, j * 3 + 1, none⟩ = some u := ⟨_, own_cellV ho (List.getElem?_eq_getElem (by omega))⟩
      obtain ⟨u2, hu2⟩ : ∃ u, wr.cell? ⟨g, j * 3 + 2, none⟩ = some u := ⟨_, own_cellV ho (List.getElem?_eq_getElem (by omega))⟩
      obtain ⟨q, hq⟩ : ∃ q : Int, k0 + (j : Int) * 3 = q := ⟨_, rfl⟩
      have HQ : Hid (k0 + (j : Int) * 3 = q) := hq
      have hq0 : 0 ≤ q := by omega
      have hq1 : q ≤ 4611686021573115904 := by omega
      have HO3 : Hid ((((wr.setCell ⟨g, j * 3, none⟩ (I q)).setCell ⟨g, j * 3 + 1, none⟩ (I (q + 1))).setCell ⟨g, j * 3 + 2, none⟩ (I (q + 1 + 1))).ownsRow base 80 3 (.slice (some ⟨g, 0, none⟩) n cap) n ((((zs.set (j * 3) q).set (j * 3 + 1) (q + 1)).set (j * 3 + 2) (q + 1 + 1)).map I)) := by
        have h1 := (((ho.stored (j * 3) (I q)).1.stored (j * 3 + 1) (I (q + 1))).1.stored (j * 3 + 2) (I (q + 1 + 1))).1
        rw [← List.map_set, ← List.map_set, ← List.map_set] at h1
        exact h1
      have HA3 : Hid (Asc (((zs.set (j * 3) q).set (j * 3 + 1) (q + 1)).set (j * 3 + 2) (q + 1 + 1)) k0 ((j + 1) * 3)) := hasc.three (by omega) hq
      rw [hq]
      clear ho hq hl hasc
      go_wp2
      go_roundw
      case rel => exact ⟨j + 1, by omega, by have := HQ.out; congr 1; push_cast; omega, by go_num, ⟨_, by simpa using hlz, HA3.out, HO3.out⟩, ((HOB.out.set hbg _ _).set hbg _ _).set hbg _ _⟩
      case measure => simp [intOf]; omega
    · obtain rfl : j = n := by omega
      have hz : zs = asc k0 (j * 3) := hasc.all hlz
      subst hz
      go_wp2
      go_ret
      exact ⟨rfl, ho, HOB.out⟩
set_option maxHeartbeats 1000000 in
theorem markEntryS_o (base : Nat) (v : Value) (n : Nat) (k0 : Int) (zs0 : List Int) (w : World) (hn : n ≤ 1048576) (hk0 : 0 ≤ k0) (hk1 : k0 ≤ 4611686018427387904) (hown : w.ownsRow base 84 3 v n (zs0.map I)) :
    Calls Try.prog 42 #[v, .int .i64 k0] w fun e w' => e = .returned (.int .i64 (k0 + (n : Int) * 3)) ∧ w'.ownsRow base 84 3 v n ((asc k0 (n * 3)).map I) ∧ OnlyV base v w w' := by
  rcases owns_forms hown with ⟨rfl, rfl⟩ | ⟨g, cap, rfl⟩
  · have HO : Hid (w.ownsRow base 84 3 (.slice none 0 0) 0 (zs0.map I)) := hown
    clear hown
    go_enter Try.func42, Try.ntmps42
    go_wp2
    go_loopw [1, 5] (fun q i wr => q = .int .i64 k0 ∧ i = .int .i64 0 ∧ wr = w) (fun _ i _ => 0)
    case atStart => exact ⟨rfl, rfl, rfl⟩
    case round =>
      obtain ⟨rfl, rfl, rfl⟩ := hrel
      go_wp2
      go_ret
      exact ⟨by simp, by have h := HO.out; rw [show zs0 = [] by have := h.1; simpa using this] at h; simpa [asc] using h, OnlyV.refl _ _ _⟩
  have hbg : base ≤ g := (hown.lt g rfl).1
  have hl0 : zs0.length = n * 3 := by have := hown.1; simpa using this
  go_enter Try.func42, Try.ntmps42
  go_wp2
  go_loopw [1, 5] (fun q i wr => ∃ j : Nat, j ≤ n ∧ q = .int .i64 (k0 + (j : Int) * 3) ∧ i = .int .i64 (j : Int) ∧ (∃ zs : List Int, zs.length = n * 3 ∧ Asc zs k0 (j * 3) ∧ wr.ownsRow base 84 3 (.slice (some ⟨g, 0, none⟩) n cap) n (zs.map I)) ∧ OnlyV base (.slice (some ⟨g, 0, none⟩) n cap) w wr) (fun _ i _ => n - (intOf i).toNat)
  case atStart => exact ⟨0, Nat.zero_le _, by simp, rfl, ⟨zs0, hl0, fun i hi => by omega, hown⟩, OnlyV.refl _ _ _⟩
  case round =>
    obtain ⟨j, hj, rfl, rfl, ⟨zs, hlz, hasc, ho⟩, hob⟩ := hrel
    have HOB : Hid (OnlyV base (.slice (some ⟨g, 0, none⟩) n cap) w wr) := hob
    clear hown hob hl0
    by_cases hlt : j < n
    · have hj0 : (0 : Int) ≤ (j : Int) := by omega
      have hj1 : (j : Int) < (n : Int) := by omega
      have z0 := ho.frozenAt (j * 3)
      have z1 := ho.frozenAt (j * 3 + 1)
      have z2 := ho.frozenAt (j * 3 + 2)
      have hl : (zs.map I).length = n * 3 := ho.1
      obtain ⟨u0, hu0⟩ : ∃ u, wr.cell? ⟨g, j * 3, none⟩ = some u := ⟨_, own_cellV ho (List.getElem?_eq_getElem (by omega))⟩
      obtain ⟨u1, hu1⟩ : ∃ u, wr.cell? ⟨g, j * 3 + 1, none⟩ = some u := ⟨_, own_cellV ho (List.getElem?_eq_getElem (by omega))⟩
      obtain ⟨u2, hu2⟩ : ∃ u, wr.cell? ⟨g, j * 3 + 2, none⟩ = some u := ⟨_, own_cellV ho (List.getElem?_eq_getElem (by omega))⟩
      obtain ⟨q, hq⟩ : ∃ q : Int, k0 + (j : Int) * 3 = q := ⟨_, rfl⟩
      have HQ : Hid (k0 + (j : Int) * 3 = q) := hq
      have hq0 : 0 ≤ q := by omega
      have hq1 : q ≤ 4611686021573115904 := by omega
      have HO3 : Hid ((((wr.setCell ⟨g, j * 3, none⟩ (I q)).setCell ⟨g, j * 3 + 1, none⟩ (I (q + 1))).setCell ⟨g, j * 3 + 2, none⟩ (I (q + 1 + 1))).ownsRow base 84 3 (.slice (some ⟨g, 0, none⟩) n cap) n ((((zs.set (j * 3) q).set (j * 3 + 1) (q + 1)).set (j * 3 + 2) (q + 1 + 1)).map I)) := by
        have h1 := (((ho.stored (j * 3) (I q)).1.stored (j * 3 + 1) (I (q + 1))).1.stored (j * 3 + 2) (I (q + 1 + 1))).1
        rw [← List.map_set, ← List.map_set, ← List.map_set] at h1
        exact h1
      have HA3 : Hid (Asc (((zs.set (j * 3) q).set (j * 3 + 1) (q + 1)).set (j * 3 + 2) (q + 1 + 1)) k0 ((j + 1) * 3)) := hasc.three (by omega) hq
      rw [hq]
      clear ho hq hl hasc
      go_wp2
      go_roundw
      case rel => exact ⟨j + 1, by omega, by have := HQ.out; congr 1; push_cast; omega, by go_num, ⟨_, by simpa using hlz, HA3.out, HO3.out⟩, ((HOB.out.set hbg _ _).set hbg _ _).set hbg _ _⟩
      case measure => simp [intOf]; omega
    · obtain rfl : j = n := by omega
      have hz : zs = asc k0 (j * 3) := hasc.all hlz
      subst hz
      go_wp2
      go_ret
      exact ⟨rfl, ho, HOB.out⟩
set_option maxHeartbeats 1000000 in
theorem markIntS_o (base : Nat) (v : Value) (n : Nat) (k0 : Int) (zs0 : List Int) (w : World) (hn : n ≤ 1048576) (hk0 : 0 ≤ k0) (hk1 : k0 ≤ 4611686018427387904) (hown : w.ownsRow base 3 1 v n (zs0.map I)) :
    Calls Try.prog 21 #[v, .int .i64 k0] w fun e w' => e = .returned (.int .i64 (k0 + (n : Int))) ∧ w'.ownsRow base 3 1 v n ((asc k0 n).map I) ∧ OnlyV base v w w' := by
  rcases owns_forms hown with ⟨rfl, rfl⟩ | ⟨g, cap, rfl⟩
  · have HO : Hid (w.ownsRow base 3 1 (.slice none 0 0) 0 (zs0.map I)) := hown
    clear hown
    go_enter Try.func21, Try.ntmps21
    go_wp2
    go_loopw [1, 5] (fun q i wr => q = .int .i64 k0 ∧ i = .int .i64 0 ∧ wr = w) (fun _ i _ => 0)
    case atStart => exact ⟨rfl, rfl, rfl⟩
    case round =>
      obtain ⟨rfl, rfl, rfl⟩ := hrel
      go_wp2
      go_ret
      exact ⟨by simp, by have h := HO.out; rw [show zs0 = [] by have := h.1; simpa using this] at h; simpa [asc] using h, OnlyV.refl _ _ _⟩
  have hbg : base ≤ g := (hown.lt g rfl).1
  have hl0 : zs0.length = n := by have := hown.1; simpa using this
  go_enter Try.func21, Try.ntmps21
  go_wp2
  go_loopw [1, 5] (fun q i wr => ∃ j : Nat, j ≤ n ∧ q = .int .i64 (k0 + (j : Int)) ∧ i = .int .i64 (j : Int) ∧ (∃ zs : List Int, zs.length = n ∧ Asc zs k0 j ∧ wr.ownsRow base 3 1 (.slice (some ⟨g, 0, none⟩) n cap) n (zs.map I)) ∧ OnlyV base (.slice (some ⟨g, 0, none⟩) n cap) w wr) (fun _ i _ => n - (intOf i).toNat)
  case atStart => exact ⟨0, Nat.zero_le _, by simp, rfl, ⟨zs0, hl0, fun i hi => by omega, hown⟩, OnlyV.refl _ _ _⟩
  case round =>
    obtain ⟨j, hj, rfl, rfl, ⟨zs, hlz, hasc, ho⟩, hob⟩ := hrel
    have HOB : Hid (OnlyV base (.slice (some ⟨g, 0, none⟩) n cap) w wr) := hob
    clear hown hob hl0
    by_cases hlt : j < n
    · have hf1 := ho.frozenAt j
      obtain ⟨u, hc1⟩ := own_cell ho hlt
      have ho1 := ho.stored j (I (k0 + (j : Int)))
      rw [← List.map_set] at ho1
      have HO1 : Hid ((wr.setCell ⟨g, j, none⟩ (I (k0 + (j : Int)))).ownsRow base 3 1 (.slice (some ⟨g, 0, none⟩) n cap) n ((zs.set j (k0 + (j : Int))).map I)) := ho1.1
      have HA1 : Hid (Asc (zs.set j (k0 + (j : Int))) k0 (j + 1)) := hasc.one (by omega) rfl
      clear ho ho1 hasc
      go_wp2
      go_roundw
      case rel => exact ⟨j + 1, by omega, by go_num, by go_num, ⟨_, by simpa using hlz, HA1.out, HO1.out⟩, HOB.out.set hbg _ _⟩
      case measure => simp [intOf]; omega
    · obtain rfl : j = n := by omega
      have hz : zs = asc k0 j := hasc.all hlz
      subst hz
      go_wp2
      go_ret
      exact ⟨rfl, ho, HOB.out⟩
end Go.Proofs.Ytbdfopokimpeiaq
