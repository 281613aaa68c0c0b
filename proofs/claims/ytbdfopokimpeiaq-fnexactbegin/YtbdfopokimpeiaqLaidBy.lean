/- impl.laidBy, walked. -/
import Derived.Test.YtbdfopokimpeiaqImplEntries
import Derived.Test.YtbdfopokimpeiaqWrd1
namespace Go.Proofs.Ytbdfopokimpeiaq
open Go.ChangeShapes Go.WideShapes Go.ChangeAt Go.RowKit

set_option maxHeartbeats 1000000 in
theorem laidBy_any (sq st : Int) (ea : Option Addr) (en ec : Nat) (es : List Int) (cd : Int) (ra : Option Addr) (rn rc : Nat) (x t s at_ : Int) (w : World) (h1 : TripAt w ea en es) (hc : en ≤ ec) :
    Calls Try.prog 59 #[DescV sq st ea en ec cd ra rn rc, WordV x t s, .int .i64 at_] w fun e w' => e = .returned (.bool ((entM es en at_).2.2.2 && sq == s)) ∧ Below w.heap.size w w' := by
  obtain ⟨W, hW⟩ : ∃ W, ((w.alloc (.cells (DescC sq st ea en ec cd ra rn rc) 82)).alloc (.cells #[.int .i64 x, .int .i64 t, .int .i64 s] 80)) = W := ⟨_, rfl⟩
  have hb1 : Below w.heap.size w (w.alloc (.cells (DescC sq st ea en ec cd ra rn rc) 82)) := (Below.refl _ w).alloc (Nat.le_refl _) _
  have hb2 : Below (w.alloc (.cells (DescC sq st ea en ec cd ra rn rc) 82)).heap.size (w.alloc (.cells (DescC sq st ea en ec cd ra rn rc) 82)) W := by rw [← hW]; exact (Below.refl _ _).alloc (Nat.le_refl _) _
  have hb0 : Below w.heap.size w W := hb1.trans (hb2.mono hb1.size)
  have BD : Hid (Box W w.heap.size (DescC sq st ea en ec cd ra rn rc) 82) := (box_of w _ _).below hb2 (by simp)
  have BW : Hid (Box W (w.heap.size + 1) #[.int .i64 x, .int .i64 t, .int .i64 s] 80) := by
    have := box_of (w.alloc (.cells (DescC sq st ea en ec cd ra rn rc) 82)) #[.int .i64 x, .int .i64 t, .int .i64 s] 80
    rw [hW] at this
    show Box _ _ _ _
    simpa using this
  have H1 : Hid (TripAt W ea en es) := h1.below hb0 (Nat.le_refl _)
  have HB0 : Hid (Below w.heap.size w W) := hb0
  have HW : Hid (((w.alloc (.cells (DescC sq st ea en ec cd ra rn rc) 82)).alloc (.cells #[.int .i64 x, .int .i64 t, .int .i64 s] 80)) = W) := hW
  obtain ⟨r, hr⟩ : ∃ r, entM es en at_ = r := ⟨_, rfl⟩
  have HR : Hid (entM es en at_ = r) := hr
  rw [hr]
  obtain ⟨r0, r1, r2, r3⟩ := r
  clear h1 hW hb0 hb1 hb2 hr
  go_enter Try.func59, Try.ntmps59
  go_wp2_with fail
  rw [HW.out]
  refine (implEntries_any sq st ea en ec es cd ra rn rc at_ _ H1.out hc).mono ?_
  rintro e w1 ⟨rfl, hb1⟩
  rw [HR.out]
  dsimp only
  have HB1 : Hid (Below w.heap.size w w1) := HB0.out.trans (hb1.mono HB0.out.size)
  have HB2 : Hid (Below w.heap.size w (w1.alloc (.cells #[.int .i64 r0, .int .i64 r1, .int .i64 r2] 84))) := HB1.out.alloc HB1.out.size _
  have d0 := (BD.out.below hb1 BD.out.lt).cell 0
  obtain ⟨_, _, x2, _, _, _⟩ := (BW.out.below hb1 BW.out.lt).three
  have l1 := (BD.out.below hb1 BD.out.lt).lt
  have l2 := (BW.out.below hb1 BW.out.lt).lt
  simp only [DescC, List.getElem?_toArray, List.getElem?_cons_zero] at d0
  clear hb1 BD BW H1 HB0 HW HR
  rcases r3 with _ | _
  · go_wp2
    go_ret
    exact ⟨rfl, HB2.out⟩
  · go_wp2
    go_ret
    exact ⟨by simp, HB2.out⟩
end Go.Proofs.Ytbdfopokimpeiaq
