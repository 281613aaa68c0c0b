/- impl.hasMarkOf (slices.ContainsFunc over words, with its function literal), walked. -/
import Derived.Test.YtbdfopokimpeiaqIsMark
import Derived.Test.YtbdfopokimpeiaqTrip
namespace Go.Proofs.Ytbdfopokimpeiaq
open Go.ChangeShapes Go.WideShapes Go.ChangeAt Go.RowKit

/-- A mark of thread t. -/
def isT (t y : Int) : Bool := y != 0 && IntKind.i64.wrap (y - 1) == t
/-- The function that hasMarkOf makes. -/
abbrev TClos (b : Nat) : Value := .func (.func 95) #[] #[.pointer (some ⟨b, 0, none⟩)]
set_option maxHeartbeats 1000000 in
set_option maxRecDepth 100000 in
theorem tClos_any (b : Nat) (x y z t : Int) (w : World) (hb : b < w.heap.size) (h1 : w.cell? ⟨b, 0, none⟩ = some (.int .i64 t)) :
    Calls Try.prog 95 #[WordV x y z, .pointer (some ⟨b, 0, none⟩)] w fun e w' => e = .returned (.bool (isT t y)) ∧ Below w.heap.size w w' := by
  obtain ⟨W, hW⟩ : ∃ W, w.alloc (.cells #[.int .i64 x, .int .i64 y, .int .i64 z] 80) = W := ⟨_, rfl⟩
  have hb0 : Below w.heap.size w W := by rw [← hW]; exact (Below.refl _ w).alloc (Nat.le_refl _) _
  have HB0 : Hid (Below w.heap.size w W) := hb0
  have BX : Hid (W.cell? ⟨w.heap.size, 1, none⟩ = some (.int .i64 y) ∧ w.heap.size < W.heap.size) := by rw [← hW]; exact ⟨by simp, by simp⟩
  have BT : Hid (W.cell? ⟨b, 0, none⟩ = some (.int .i64 t)) := (hb0.cell (show b < w.heap.size from hb)).trans h1
  have HW : Hid (w.alloc (.cells #[.int .i64 x, .int .i64 y, .int .i64 z] 80) = W) := hW
  obtain ⟨v, hv⟩ : ∃ v, IntKind.i64.wrap (y - 1) = v := ⟨_, rfl⟩
  unfold isT
  clear hW hb0 h1
  go_enter Try.func95, Try.ntmps95
  go_wp2_with fail
  rw [HW.out]
  refine (isMark_any x y z _).mono ?_
  rintro e w1 ⟨rfl, hb1⟩
  have c1 : w1.cell? ⟨w.heap.size, 1, none⟩ = some (.int .i64 y) := (hb1.cell BX.out.2).trans BX.out.1
  have c2 : w1.cell? ⟨b, 0, none⟩ = some (.int .i64 t) := (hb1.cell (show b < W.heap.size from World.block_lt_of_cell? W _ BT.out)).trans BT.out
  have HB1 : Hid (Below w.heap.size w w1) := HB0.out.trans (hb1.mono HB0.out.size)
  clear hb1
  rcases hy : (y != 0) with _ | _
  · go_wp2
    go_ret
    exact ⟨by rw [hy]; rfl, HB1.out⟩
  · go_wp2
    go_ret
    exact ⟨by rw [hy, hv]; rfl, HB1.out⟩
set_option maxHeartbeats 1000000 in
set_option maxRecDepth 100000 in
theorem indexT_any (b : Nat) (t : Int) (a : Option Addr) (m c : Nat) (fs : List Int) (w : World) (h : TripAt w a m fs) (hb : b < w.heap.size) (h1 : w.cell? ⟨b, 0, none⟩ = some (.int .i64 t)) :
    Calls Try.prog 102 #[.slice a m c, TClos b] w fun e w' => ∃ r : Int, (e = .returned (.int .i64 r) ∧ (0 ≤ r ↔ ∃ i, i < m ∧ isT t (fs.getD (i * 3 + 1) 0) = true)) ∧ Below w.heap.size w w' := by
  have H : Hid (TripAt w a m fs) := h
  have hm := h.2.1
  clear h
  go_enter Try.func102, Try.ntmps102
  go_wp2
  go_loopw [8] (fun i wr => ∃ k : Nat, k ≤ m ∧ i = .int .i64 k ∧ (∀ i, i < k → ¬ isT t (fs.getD (i * 3 + 1) 0) = true) ∧ Below w.heap.size w wr) (fun i _ => m - (intOf i).toNat)
  case atStart => exact ⟨0, Nat.zero_le _, rfl, fun i hi => by omega, Below.refl _ _⟩
  case round =>
    obtain ⟨k, hk, rfl, hno, hbr⟩ := hrel
    have HNO : Hid (∀ i, i < k → ¬ isT t (fs.getD (i * 3 + 1) 0) = true) := hno
    clear hno
    by_cases hlt : k < m
    · rcases (H.out.below hbr (Nat.le_refl _)).2.2 with h0 | ⟨p1, o1, rfl, g1⟩
      · omega
      have hk0 : (0 : Int) ≤ (k : Int) := by omega
      have hk1 : (k : Int) < (m : Int) := by omega
      have e1 := g1 (k * 3) (by omega)
      have e2 := g1 (k * 3 + 1) (by omega)
      have e3 := g1 (k * 3 + 2) (by omega)
      obtain ⟨x, hx⟩ : ∃ x, fs.getD (k * 3) 0 = x := ⟨_, rfl⟩
      obtain ⟨y, hy⟩ : ∃ y, fs.getD (k * 3 + 1) 0 = y := ⟨_, rfl⟩
      obtain ⟨z, hz⟩ : ∃ z, fs.getD (k * 3 + 2) 0 = z := ⟨_, rfl⟩
      have HY : Hid (fs.getD (k * 3 + 1) 0 = y) := hy
      rw [hx] at e1
      rw [hy, ← Nat.add_assoc] at e2
      rw [hz, ← Nat.add_assoc] at e3
      clear g1 hx hy hz
      go_wp2_with fail
      refine (tClos_any b x y z t _ (Nat.lt_of_lt_of_le hb hbr.size) ((hbr.cell (show b < w.heap.size from hb)).trans h1)).mono ?_
      rintro e w1 ⟨rfl, hb1⟩
      have hb2 := hbr.trans (hb1.mono hbr.size)
      clear hb1 e1 e2 e3
      rcases hp : isT t y with _ | _
      · have HN : Hid (∀ i, i < k + 1 → ¬ isT t (fs.getD (i * 3 + 1) 0) = true) := fun i hi => by
          by_cases e : i = k
          · rw [e, HY.out, hp]; simp
          · exact HNO.out i (by omega)
        clear hp
        go_wp2
        exact ⟨⟨k + 1, by omega, by go_num, HN.out, hb2⟩, by simp [intOf]; omega⟩
      · have HV : Hid (∃ i, i < m ∧ isT t (fs.getD (i * 3 + 1) 0) = true) := ⟨k, hlt, by rw [HY.out]; exact hp⟩
        clear hp
        go_wp2
        go_ret
        exact ⟨k, ⟨rfl, fun _ => HV.out, fun _ => by omega⟩, hb2⟩
    · obtain rfl : k = m := by omega
      have HV : Hid (¬ ∃ i, i < k ∧ isT t (fs.getD (i * 3 + 1) 0) = true) := fun ⟨i, h1, h2⟩ => HNO.out i h1 h2
      go_wp2
      go_ret
      exact ⟨-1, ⟨rfl, fun h => absurd h (by omega), fun h => absurd h HV.out⟩, hbr⟩
set_option maxHeartbeats 1000000 in
theorem containsT_any (b : Nat) (t : Int) (a : Option Addr) (m c : Nat) (fs : List Int) (w : World) (h : TripAt w a m fs) (hb : b < w.heap.size) (h1 : w.cell? ⟨b, 0, none⟩ = some (.int .i64 t)) :
    Calls Try.prog 94 #[.slice a m c, TClos b] w fun e w' => ∃ ok : Bool, (e = .returned (.bool ok) ∧ (ok = true ↔ ∃ i, i < m ∧ isT t (fs.getD (i * 3 + 1) 0) = true)) ∧ Below w.heap.size w w' := by
  have HC : Hid (Calls Try.prog 102 #[.slice a m c, TClos b] w fun e w' => ∃ r : Int, (e = .returned (.int .i64 r) ∧ (0 ≤ r ↔ ∃ i, i < m ∧ isT t (fs.getD (i * 3 + 1) 0) = true)) ∧ Below w.heap.size w w') := indexT_any b t a m c fs w h hb h1
  clear h hb h1
  go_enter Try.func94, Try.ntmps94
  go_wp2_with fail
  refine HC.out.mono ?_
  rintro e w1 ⟨r, ⟨rfl, hr⟩, hb1⟩
  have HR : Hid _ := hr
  clear hr HC
  go_wp2
  go_ret
  exact ⟨decide (0 ≤ r), ⟨rfl, by rw [decide_eq_true_iff]; exact HR.out⟩, hb1⟩

theorem hasMarkOf_any (a : Option Addr) (m c : Nat) (fs : List Int) (t : Int) (w : World) (h : TripAt w a m fs) :
    Calls Try.prog 73 #[.slice a m c, .int .i64 t] w fun e w' => ∃ ok : Bool, (e = .returned (.bool ok) ∧ (ok = true ↔ ∃ i, i < m ∧ isT t (fs.getD (i * 3 + 1) 0) = true)) ∧ Below w.heap.size w w' := by
  have hb0 : Below w.heap.size w (w.alloc (.cells #[.int .i64 t] 3)) := (Below.refl _ w).alloc (Nat.le_refl _) _
  have HC : Hid (TripAt (w.alloc (.cells #[.int .i64 t] 3)) a m fs) := h.below hb0 (Nat.le_refl _)
  have HB0 : Hid (Below w.heap.size w (w.alloc (.cells #[.int .i64 t] 3))) := hb0
  clear h hb0
  go_enter Try.func73, Try.ntmps73
  go_wp2_with fail
  refine (containsT_any w.heap.size t a m c fs _ HC.out (by simp) (by simp)).mono ?_
  rintro e w1 ⟨ok, ⟨rfl, hok⟩, hb1⟩
  have HOK : Hid _ := hok
  clear hok HC
  go_wp2
  go_ret
  exact ⟨ok, ⟨rfl, HOK.out⟩, HB0.out.trans (hb1.mono HB0.out.size)⟩
end Go.Proofs.Ytbdfopokimpeiaq
