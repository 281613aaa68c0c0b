/- impl.cutAt (slices.IndexFunc with its function literal), walked. -/
import Derived.Test.YtbdfopokimpeiaqEntriesM
import Derived.Test.YtbdfopokimpeiaqEnt1
namespace Go.Proofs.Ytbdfopokimpeiaq
open Go.ChangeShapes Go.WideShapes Go.ChangeAt Go.RowKit

set_option maxHeartbeats 1000000 in
set_option maxRecDepth 100000 in
theorem atClos_any (b : Nat) (x y z at_ : Int) (w : World) (hb : b < w.heap.size) (h1 : w.cell? ⟨b, 0, none⟩ = some (.int .i64 at_)) :
    Calls Try.prog 98 #[EntryV x y z, .pointer (some ⟨b, 0, none⟩)] w fun e w' => e = .returned (.bool (x == at_)) ∧ Below w.heap.size w w' := by
  go_enter Try.func98, Try.ntmps98
  go_wp2
  go_ret
  exact ⟨rfl, (Below.refl _ w).alloc (Nat.le_refl _) _⟩
/-- The function that cutAt makes: whether an entry is at the place that lies at b. -/
abbrev AtClos (b : Nat) : Value := .func (.func 98) #[] #[.pointer (some ⟨b, 0, none⟩)]
set_option maxHeartbeats 1000000 in
set_option maxRecDepth 100000 in
theorem indexAt_any (b : Nat) (at_ : Int) (a : Option Addr) (n c : Nat) (es : List Int) (w : World) (h : TripAt w a n es) (hb : b < w.heap.size) (h1 : w.cell? ⟨b, 0, none⟩ = some (.int .i64 at_)) :
    Calls Try.prog 97 #[.slice a n c, AtClos b] w fun e w' => e = .returned (.int .i64 (if idxE es n at_ < n then (idxE es n at_ : Int) else -1)) ∧ Below w.heap.size w w' := by
  have H : Hid (TripAt w a n es) := h
  have H1 : Hid (w.cell? ⟨b, 0, none⟩ = some (.int .i64 at_)) := h1
  have hn := h.2.1
  obtain ⟨r, hr⟩ : ∃ r : Int, (if idxE es n at_ < n then (idxE es n at_ : Int) else -1) = r := ⟨_, rfl⟩
  rw [hr]
  have HR : Hid ((if idxE es n at_ < n then (idxE es n at_ : Int) else -1) = r) := hr
  clear h h1 hr
  go_enter Try.func97, Try.ntmps97
  go_wp2
  go_loopw [8] (fun i wr => ∃ k : Nat, k ≤ n ∧ i = .int .i64 k ∧ (∀ i, i < k → es.getD (i * 3) 0 ≠ at_) ∧ Below w.heap.size w wr) (fun i _ => n - (intOf i).toNat)
  case atStart => exact ⟨0, Nat.zero_le _, rfl, fun i hi => by omega, Below.refl _ _⟩
  case round =>
    obtain ⟨k, hk, rfl, hno, hbr⟩ := hrel
    have HNO : Hid (∀ i, i < k → es.getD (i * 3) 0 ≠ at_) := hno
    clear hno
    by_cases hlt : k < n
    · rcases (H.out.below hbr (Nat.le_refl _)).2.2 with h0 | ⟨p1, o1, rfl, g1⟩
      · omega
      have hk0 : (0 : Int) ≤ (k : Int) := by omega
      have hk1 : (k : Int) < (n : Int) := by omega
      have e1 := g1 (k * 3) (by omega)
      have e2 := g1 (k * 3 + 1) (by omega)
      have e3 := g1 (k * 3 + 2) (by omega)
      obtain ⟨x, hx⟩ : ∃ x, es.getD (k * 3) 0 = x := ⟨_, rfl⟩
      obtain ⟨y, hy⟩ : ∃ y, es.getD (k * 3 + 1) 0 = y := ⟨_, rfl⟩
      obtain ⟨z, hz⟩ : ∃ z, es.getD (k * 3 + 2) 0 = z := ⟨_, rfl⟩
      have HX : Hid (es.getD (k * 3) 0 = x) := hx
      rw [hx] at e1
      rw [hy, ← Nat.add_assoc] at e2
      rw [hz, ← Nat.add_assoc] at e3
      clear g1 hx hy hz
      go_wp2_with fail
      have hlb : b < wr.heap.size := Nat.lt_of_lt_of_le hb hbr.size
      refine (atClos_any b x y z at_ _ hlb ((hbr.cell (show b < w.heap.size from hb)).trans H1.out)).mono ?_
      rintro e w1 ⟨rfl, hb1⟩
      have hb2 := hbr.trans (hb1.mono hbr.size)
      clear hb1 e1 e2 e3
      by_cases hxa : x = at_
      · rw [show (x == at_) = true by simpa using hxa]
        have HV : Hid ((k : Int) = r) := by
          show _ = _
          rw [← HR.out, idxE_eq (Nat.le_of_lt hlt) HNO.out fun _ => HX.out.trans hxa, if_pos hlt]
        clear hxa
        go_wp2
        go_ret
        exact ⟨by rw [← HV.out]; rfl, hb2⟩
      · rw [show (x == at_) = false by simpa using hxa]
        have HN : Hid (∀ i, i < k + 1 → es.getD (i * 3) 0 ≠ at_) := fun i hi => by
          by_cases e : i = k
          · rw [e, HX.out]; exact hxa
          · exact HNO.out i (by omega)
        clear hxa
        go_wp2
        exact ⟨⟨k + 1, by omega, by go_num, HN.out, hb2⟩, by simp [intOf]; omega⟩
    · obtain rfl : k = n := by omega
      have HV : Hid ((-1 : Int) = r) := by show _ = _; rw [← HR.out, idxE_eq (Nat.le_refl _) HNO.out fun h => by omega, if_neg (by omega)]
      go_wp2
      go_ret
      exact ⟨by rw [← HV.out]; rfl, hbr⟩
theorem idxE_le (es : List Int) (n : Nat) (at_ : Int) : idxE es n at_ ≤ n := by
  have : ∀ f k, idxF es at_ f k ≤ k + f := by
    intro f
    induction f with
    | zero => intro k; exact Nat.le_refl _
    | succ f ih => intro k; unfold idxF; split
                   · omega
                   · have := ih (k + 1); omega
  have h := this n 0
  unfold idxE
  omega
set_option maxHeartbeats 1000000 in
theorem cutAt_none (at_ : Int) (a : Option Addr) (n c : Nat) (es : List Int) (w : World) (h : TripAt w a n es) (hk : ¬ idxE es n at_ < n) :
    Calls Try.prog 77 #[.slice a n c, .int .i64 at_] w fun e w' => e = .returned (.slice none 0 0) ∧ Below w.heap.size w w' := by
  have H : Hid (TripAt w a n es) := h
  have hb0 : Below w.heap.size w (w.alloc (.cells #[.int .i64 at_] 3)) := (Below.refl _ w).alloc (Nat.le_refl _) _
  have HB0 : Hid _ := hb0
  have HK : Hid (¬ idxE es n at_ < n) := hk
  clear h hb0 hk
  go_enter Try.func77, Try.ntmps77
  go_wp2_with fail
  refine (indexAt_any _ at_ a n c es _ (H.out.below HB0.out (Nat.le_refl _)) (by simp) (by simp)).mono ?_
  rintro e w1 ⟨rfl, hb1⟩
  rw [if_neg HK.out]
  have hb : Below w.heap.size w w1 := HB0.out.trans (hb1.mono (by simp))
  clear hb1
  go_wp2
  go_ret
  exact ⟨rfl, hb⟩
set_option maxHeartbeats 1000000 in
theorem cutAt_some (at_ : Int) (b o : Nat) (n c k : Nat) (es : List Int) (w : World) (h : TripAt w (some ⟨b, o, none⟩) n es) (hc : n ≤ c) (hk : idxE es n at_ = k) (hlt : k < n) :
    Calls Try.prog 77 #[.slice (some ⟨b, o, none⟩) n c, .int .i64 at_] w fun e w' => e = .returned (.slice (some ⟨b, o + k * 3, none⟩) 1 1) ∧ Below w.heap.size w w' := by
  have H : Hid (TripAt w (some ⟨b, o, none⟩) n es) := h
  have hn := h.2.1
  have hb0 : Below w.heap.size w (w.alloc (.cells #[.int .i64 at_] 3)) := (Below.refl _ w).alloc (Nat.le_refl _) _
  have HB0 : Hid _ := hb0
  have HK : Hid (idxE es n at_ = k) := hk
  clear h hb0 hk
  go_enter Try.func77, Try.ntmps77
  go_wp2_with fail
  refine (indexAt_any _ at_ _ n c es _ (H.out.below HB0.out (Nat.le_refl _)) (by simp) (by simp)).mono ?_
  rintro e w1 ⟨rfl, hb1⟩
  rw [HK.out, if_pos hlt]
  have hb : Below w.heap.size w w1 := HB0.out.trans (hb1.mono (by simp))
  have k0 : (0 : Int) ≤ (k : Int) := by omega
  have k1 : ¬ (k : Int) < 0 := by omega
  have k2 : (k : Int) + 1 ≤ (c : Int) := by omega
  have k3 : (k : Int) < (c : Int) := by omega
  clear hb1
  go_wp2
  go_ret
  refine ⟨?_, hb⟩
  rfl
end Go.Proofs.Ytbdfopokimpeiaq
