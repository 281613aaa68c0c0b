/- impl.Quiet, walked at any Mem. -/
import Derived.Test.YtbdfopokimpeiarImplMem
import Derived.Test.YtbdfopokimpeiarFindW
import Derived.Test.YtbdfopokimpeiarSpecQuiet
namespace Go.Proofs.Ytbdfopokimpeiar
open Go.ChangeShapes Go.WideShapes Go.ChangeAt Go.RowKit

/-- In a memory that can be met a mark is what is not a number. -/
theorem marked_iff {fs : List Int} {m : Nat} {ds : List DK} (h : MemGood fs m ds) : (∃ i, i < m ∧ ((fs.getD (i * 3 + 1) 0) != 0) = true) ↔ Marked fs m (-1) := by
  constructor
  · rintro ⟨i, hi, h0⟩
    have h1 := (wordOkM_t (h.2.2.2 i hi).1).1
    have h2 : fs.getD (i * 3 + 1) 0 ≠ 0 := by simpa using h0
    exact ⟨i, hi, by omega, .inl (by omega)⟩
  · rintro ⟨i, hi, h0, _⟩
    exact ⟨i, hi, by simp only [bne_iff_ne, ne_eq]; omega⟩
set_option maxHeartbeats 1000000 in
theorem implQuiet_any (wa : Option Addr) (m wc : Nat) (fs : List Int) (da : Option Addr) (n dc : Nat) (ds : List DK) (w : World) (h1 : TripAt w wa m fs) (h2 : DescAt w da n ds) (h3 : CapAt w da n ds) :
    Calls Try.prog 7 #[MemV wa m wc da n dc] w fun e w' => ∃ ok, (e = .returned (.bool ok) ∧ (ok = true ↔ QuietM fs m ds)) ∧ Below w.heap.size w w' := by
  obtain ⟨W, hW⟩ : ∃ W, w.alloc (.cells #[.slice wa m wc, .slice da n dc] 31) = W := ⟨_, rfl⟩
  have hb0 : Below w.heap.size w W := by rw [← hW]; exact (Below.refl _ w).alloc (Nat.le_refl _) _
  have BX : Hid (Box W w.heap.size #[.slice wa m wc, .slice da n dc] 31) := by rw [← hW]; exact box_of w _ _
  have H1 : Hid (TripAt W wa m fs) := h1.below hb0 (Nat.le_refl _)
  have H2 : Hid (DescAt W da n ds) := h2.below hb0 (Nat.le_refl _)
  have H3 : Hid (CapAt W da n ds) := h3.below hb0 (Nat.le_refl _)
  have HB0 : Hid (Below w.heap.size w W) := hb0
  have HW : Hid (w.alloc (.cells #[.slice wa m wc, .slice da n dc] 31) = W) := hW
  clear h1 h2 h3 hW hb0
  go_enter Try.func7, Try.ntmps7
  go_wp2_with fail
  rw [HW.out]
  refine (implMemOk_any wa m wc fs da n dc ds _ H1.out H2.out H3.out).mono ?_
  rintro e w1 ⟨ok, ⟨rfl, hok⟩, hb1⟩
  have HB1 : Hid (Below w.heap.size w w1) := HB0.out.trans (hb1.mono HB0.out.size)
  rcases ok with _ | _
  · have HNO : Hid (¬ QuietM fs m ds) := fun h => by have := hok.2 h.1; cases this
    clear hok hb1
    go_wp2
    go_ret
    exact ⟨false, ⟨rfl, by simp [HNO.out]⟩, HB1.out⟩
  · have HG : Hid (MemGood fs m ds) := hok.1 rfl
    have BR : Hid (Box w1 w.heap.size #[.slice wa m wc, .slice da n dc] 31) := BX.out.below hb1 BX.out.lt
    obtain ⟨c0, c1, _, _⟩ := BR.out.two
    have T1 : Hid (TripAt w1 wa m fs) := H1.out.below hb1 (Nat.le_refl _)
    clear hok hb1
    go_wp2_with fail
    refine (containsW_any wa m wc fs _ T1.out).mono ?_
    rintro e w2 ⟨mk, ⟨rfl, hmk⟩, hb2⟩
    have HB2 : Hid (Below w.heap.size w w2) := HB1.out.trans (hb2.mono HB1.out.size)
    have hmk' := hmk.trans (marked_iff HG.out)
    rcases mk with _ | _
    · have HY : Hid (QuietM fs m ds) := ⟨HG.out, fun h => by have := hmk'.2 h; cases this⟩
      clear hmk hb2 hmk'
      go_wp2
      go_ret
      exact ⟨true, ⟨rfl, by simp [HY.out]⟩, HB2.out⟩
    · have HNO : Hid (¬ QuietM fs m ds) := fun h => h.2 (hmk'.1 rfl)
      clear hmk hb2 hmk'
      go_wp2
      go_ret
      exact ⟨false, ⟨rfl, by simp [HNO.out]⟩, HB2.out⟩
end Go.Proofs.Ytbdfopokimpeiar
