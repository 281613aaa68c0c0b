/- spec.ProgText and spec.ResText, walked. -/
import Derived.Test.YtkelhndijgakdaaDoorSpecTx
import Derived.Test.YtkelhndijgakdaaDoorKRow
import Derived.Test.YtkelhndijgakdaaDoorResV
namespace Go.Proofs.YtkelhndijgakdaaDoor
open Go.ChangeShapes Go.WideShapes Go.ChangeAt Go.RowKit Go.Lib

theorem opB_len (a b c : Int) : (opB a b c).length ≤ 9 := by
  unfold opB
  split
  · rename_i h
    obtain ⟨_, ⟨b0, b6⟩, ⟨c0, c6⟩, _, _⟩ := good_small h
    have h1 := name_len a
    have h2 := itoa_one b0 b6
    have h3 := itoa_one c0 c6
    unfold tailB
    rw [List.length_append, List.length_append]
    split <;> split <;> simp <;> omega
  · decide
/-- The texts of the first k ops of a list. -/
def opsT (fs : List Int) (k : Nat) : List (List UInt8) := (List.range k).map fun i => opB (fs.getD (i * 3) 0) (fs.getD (i * 3 + 1) 0) (fs.getD (i * 3 + 2) 0)
theorem opsT_succ (fs : List Int) (k : Nat) : opsT fs (k + 1) = opsT fs k ++ [opB (fs.getD (k * 3) 0) (fs.getD (k * 3 + 1) 0) (fs.getD (k * 3 + 2) 0)] := by simp [opsT, List.range_succ]
theorem opsT_len (fs : List Int) (k : Nat) : (opsT fs k).length = k := by simp [opsT]
/-- The text of these. -/
def progT (fs : List Int) (k : Nat) : List UInt8 := join (opsT fs k) [59]
theorem progT_one (fs : List Int) : progT fs 1 = opB (fs.getD (0 * 3) 0) (fs.getD (0 * 3 + 1) 0) (fs.getD (0 * 3 + 2) 0) := by
  show join [_] [59] = _
  exact join_one _ _
theorem progT_succ (fs : List Int) {k : Nat} (h : 0 < k) : progT fs (k + 1) = progT fs k ++ [59] ++ opB (fs.getD (k * 3) 0) (fs.getD (k * 3 + 1) 0) (fs.getD (k * 3 + 2) 0) := by
  unfold progT
  rw [opsT_succ, join_snoc _ _ _ (fun e => by have := opsT_len fs k; rw [e] at this; simp at this; omega)]
theorem progT_len (fs : List Int) : ∀ k, (progT fs k).length ≤ 10 * k
  | 0 => by simp [progT, opsT, join_nil]
  | 1 => by rw [progT_one]; have := opB_len (fs.getD (0 * 3) 0) (fs.getD (0 * 3 + 1) 0) (fs.getD (0 * 3 + 2) 0); omega
  | k + 2 => by
    rw [progT_succ fs (by omega), List.length_append, List.length_append]
    have h1 := progT_len fs (k + 1)
    have h2 := opB_len (fs.getD ((k + 1) * 3) 0) (fs.getD ((k + 1) * 3 + 1) 0) (fs.getD ((k + 1) * 3 + 2) 0)
    simp only [List.length_cons, List.length_nil]
    omega
set_option maxHeartbeats 2000000 in
set_option maxRecDepth 100000 in
theorem specProgText_any (a : Option Addr) (n c : Nat) (fs : List Int) (w : World) (h : KAt 3 w a n fs) :
    Calls Tryd.prog 10 #[.slice a n c] w fun e w' => TextSays e (progT fs n) ∧ Below w.heap.size w w' := by
  have HH : Hid (KAt 3 w a n fs) := h
  have hn : n ≤ 2097152 := h.2.1
  clear h
  go_enter Tryd.func10, Tryd.ntmps10
  go_wp2
  go_loopw [3, 4] (fun out i wr => ∃ (k : Nat) (s : ByteArray), k ≤ n ∧ i = .int .i64 (k : Int) ∧ out = .string s ∧ s.data.toList = progT fs k ∧ Below w.heap.size w wr) (fun _ i _ => n - (intOf i).toNat)
  case atStart => exact ⟨0, _, Nat.zero_le _, rfl, rfl, rfl, Below.refl _ _⟩
  case round =>
    obtain ⟨k, s, hk, rfl, rfl, hs, hb⟩ := hrel
    have hsz : s.size ≤ 10 * k := by
      have h1 := progT_len fs k
      rw [← hs] at h1
      simpa using h1
    have HS : Hid (s.data.toList = progT fs k) := hs
    have HB : Hid (Below w.heap.size w wr) := hb
    by_cases hlt : k < n
    · rcases (HH.out.below hb (Nat.le_refl _)).2.2 with h0 | ⟨p1, o1, rfl, g1⟩
      · omega
      have e0 := g1 (k * 3) (by omega)
      have e1 := g1 (k * 3 + 1) (by omega)
      have e2 := g1 (k * 3 + 2) (by omega)
      obtain ⟨x0, hx0⟩ : ∃ x, fs.getD (k * 3) 0 = x := ⟨_, rfl⟩
      obtain ⟨x1, hx1⟩ : ∃ x, fs.getD (k * 3 + 1) 0 = x := ⟨_, rfl⟩
      obtain ⟨x2, hx2⟩ : ∃ x, fs.getD (k * 3 + 2) 0 = x := ⟨_, rfl⟩
      rw [hx0] at e0
      rw [hx1, ← Nat.add_assoc] at e1
      rw [hx2, ← Nat.add_assoc] at e2
      have HX : Hid (fs.getD (k * 3) 0 = x0 ∧ fs.getD (k * 3 + 1) 0 = x1 ∧ fs.getD (k * 3 + 2) 0 = x2) := ⟨hx0, hx1, hx2⟩
      clear g1 hx0 hx1 hx2 hs hb
      by_cases hz : k = 0
      · subst hz
        rw [Nat.zero_mul, Nat.add_zero] at e0 e1 e2
        go_wp2_with fail
        refine (specOpText_any x0 x1 x2 _).mono ?_
        rintro e w1 ⟨⟨s1, rfl, hs1⟩, hb1⟩
        have hz1 : s1.size ≤ 9 := by
          have h1 := opB_len x0 x1 x2
          rw [← hs1] at h1
          simpa using h1
        have HS1 : Hid (s1.data.toList = opB x0 x1 x2) := hs1
        have HB1 : Hid (Below w.heap.size w w1) := HB.out.trans (hb1.mono HB.out.size)
        clear hs1 hb1
        go_wp2
        go_roundw
        case rel => exact ⟨1, _, by omega, by go_num, rfl, by rw [app_str, HS.out, HS1.out, progT_one, HX.out.1, HX.out.2.1, HX.out.2.2]; rfl, HB1.out⟩
        case measure => simp [intOf]; omega
      · have hk0 : (0 : Int) < (k : Int) := by omega
        go_wp2_with fail
        refine (specOpText_any x0 x1 x2 _).mono ?_
        rintro e w1 ⟨⟨s1, rfl, hs1⟩, hb1⟩
        have hz1 : s1.size ≤ 9 := by
          have h1 := opB_len x0 x1 x2
          rw [← hs1] at h1
          simpa using h1
        have HS1 : Hid (s1.data.toList = opB x0 x1 x2) := hs1
        have HB1 : Hid (Below w.heap.size w w1) := HB.out.trans (hb1.mono HB.out.size)
        clear hs1 hb1
        go_wp2
        exact ⟨⟨k + 1, _, by omega, by go_num, rfl, by rw [app_str, app_str, HS.out, HS1.out, progT_succ fs (by omega), HX.out.1, HX.out.2.1, HX.out.2.2], HB1.out⟩, by simp [intOf]; omega⟩
    · obtain rfl : k = n := by omega
      go_wp2
      go_ret
      exact ⟨⟨s, rfl, HS.out⟩, HB.out⟩
end Go.Proofs.YtkelhndijgakdaaDoor
