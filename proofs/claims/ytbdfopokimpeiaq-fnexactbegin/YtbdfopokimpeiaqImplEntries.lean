/- impl.Entries, walked. -/
import Derived.Test.YtbdfopokimpeiaqSpecEntries
import Derived.Test.YtbdfopokimpeiaqCutAt
namespace Go.Proofs.Ytbdfopokimpeiaq
open Go.ChangeShapes Go.WideShapes Go.ChangeAt Go.RowKit

set_option maxHeartbeats 1000000 in
theorem implEntries_any (sq st : Int) (ea : Option Addr) (en ec : Nat) (es : List Int) (cd : Int) (ra : Option Addr) (rn rc : Nat) (at_ : Int) (w : World) (h1 : TripAt w ea en es) (hc : en ≤ ec) :
    Calls Try.prog 80 #[DescV sq st ea en ec cd ra rn rc, .int .i64 at_] w fun e w' => e = .returned (.tuple #[EntryV (entM es en at_).1 (entM es en at_).2.1 (entM es en at_).2.2.1, .bool (entM es en at_).2.2.2]) ∧ Below w.heap.size w w' := by
  have H1 : Hid (TripAt w ea en es) := h1
  have hn := h1.2.1
  obtain ⟨r, hr⟩ : ∃ r, entM es en at_ = r := ⟨_, rfl⟩
  rw [hr]
  have HR : Hid (entM es en at_ = r) := hr
  have HB0 : Hid (Below w.heap.size w ((w.alloc (.cells (DescC sq st ea en ec cd ra rn rc) 82)).alloc (.cells #[.int .i64 0, .int .i64 0, .int .i64 0] 84))) := ((Below.refl _ w).alloc (Nat.le_refl _) _).alloc (by simp) _
  have B1 : Hid (Box ((w.alloc (.cells (DescC sq st ea en ec cd ra rn rc) 82)).alloc (.cells #[.int .i64 0, .int .i64 0, .int .i64 0] 84)) (w.heap.size + 1) #[.int .i64 0, .int .i64 0, .int .i64 0] 84) := by
    have := box_of (w.alloc (.cells (DescC sq st ea en ec cd ra rn rc) 82)) #[.int .i64 0, .int .i64 0, .int .i64 0] 84
    simp at this
    exact this
  clear h1 hr
  by_cases hk : idxE es en at_ < en
  · rcases H1.out.2.2 with h0 | ⟨p1, o1, rfl, g0⟩
    · omega
    obtain ⟨k, hK⟩ : ∃ k, idxE es en at_ = k := ⟨_, rfl⟩
    have HK : Hid (idxE es en at_ = k) := hK
    have HV : Hid (r = (es.getD (k * 3) 0, es.getD (k * 3 + 1) 0, es.getD (k * 3 + 2) 0, true)) := by show _ = _; rw [← HR.out, entM_yes hK (hK ▸ hk)]
    have hlt : k < en := hK ▸ hk
    clear hk hK g0
    go_enter Try.func80, Try.ntmps80
    go_wp2_with fail
    refine (cutAt_some at_ p1 o1 en ec k es _ (H1.out.below HB0.out (Nat.le_refl _)) hc HK.out hlt).mono ?_
    rintro e w1 ⟨rfl, hb1⟩
    have hb : Below w.heap.size w w1 := HB0.out.trans (hb1.mono (by simp; omega))
    have B1' : Hid (Box w1 (w.heap.size + 1) #[.int .i64 0, .int .i64 0, .int .i64 0] 84) := B1.out.below hb1 (by simp)
    obtain ⟨y0, y1, y2, f0, f1, f2⟩ := B1'.out.three
    rcases (H1.out.below hb (Nat.le_refl _)).2.2 with h0 | ⟨p1', o1', e0, g1⟩
    · omega
    cases e0
    have e1 := g1 (k * 3) (by omega)
    have e2 := g1 (k * 3 + 1) (by omega)
    have e3 := g1 (k * 3 + 2) (by omega)
    obtain ⟨x, hx⟩ : ∃ x, es.getD (k * 3) 0 = x := ⟨_, rfl⟩
    obtain ⟨y, hy⟩ : ∃ y, es.getD (k * 3 + 1) 0 = y := ⟨_, rfl⟩
    obtain ⟨z, hz⟩ : ∃ z, es.getD (k * 3 + 2) 0 = z := ⟨_, rfl⟩
    rw [hx, hy, hz] at HV
    rw [hx] at e1
    rw [hy, ← Nat.add_assoc] at e2
    rw [hz, ← Nat.add_assoc] at e3
    clear g1 hx hy hz hb1
    go_wp2
    (try simp only [Exit.inBlock, Exit.then])
    refine bodyPost_ret (v := .tuple #[EntryV x y z, .bool true]) (by simp [results, Try.results80, go_sem, y0, y1, y2]; try rfl) rfl ?_
    exact ⟨by rw [HV.out], ((hb.setCell (by simp) _).setCell (by simp) _).setCell (by simp) _⟩
  · have HK : Hid (¬ idxE es en at_ < en) := hk
    have HV : Hid (r = (0, 0, 0, false)) := by show _ = _; rw [← HR.out]; unfold entM; rw [if_neg hk]
    clear hk
    go_enter Try.func80, Try.ntmps80
    go_wp2_with fail
    refine (cutAt_none at_ ea en ec es _ (H1.out.below HB0.out (Nat.le_refl _)) HK.out).mono ?_
    rintro e w1 ⟨rfl, hb1⟩
    have hb : Below w.heap.size w w1 := HB0.out.trans (hb1.mono (by simp; omega))
    have B1' : Hid (Box w1 (w.heap.size + 1) #[.int .i64 0, .int .i64 0, .int .i64 0] 84) := B1.out.below hb1 (by simp)
    obtain ⟨y0, y1, y2, f0, f1, f2⟩ := B1'.out.three
    clear hb1
    go_wp2
    (try simp only [Exit.inBlock, Exit.then])
    refine bodyPost_ret (v := .tuple #[EntryV 0 0 0, .bool false]) (by simp [results, Try.results80, go_sem, y0, y1, y2]; try rfl) rfl ?_
    refine ⟨by rw [HV.out], ?_⟩
    first
      | exact ((hb.setCell (by simp) _).setCell (by simp) _).setCell (by simp) _
      | exact hb
end Go.Proofs.Ytbdfopokimpeiaq
