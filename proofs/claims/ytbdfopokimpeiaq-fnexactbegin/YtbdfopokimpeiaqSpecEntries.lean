/- spec.Entries, walked at any Desc and any place. -/
import Derived.Test.YtbdfopokimpeiaqEntriesM
import Derived.Test.YtbdfopokimpeiaqDesc
namespace Go.Proofs.Ytbdfopokimpeiaq
open Go.ChangeShapes Go.WideShapes Go.ChangeAt Go.RowKit

theorem Box.three {w : World} {b : Nat} {T : TypeId} {x y z : Value} (h : Box w b #[x, y, z] T) :
    w.cell? ⟨b, 0, none⟩ = some x ∧ w.cell? ⟨b, 1, none⟩ = some y ∧ w.cell? ⟨b, 2, none⟩ = some z ∧ w.frozen? ⟨b, 0, none⟩ = false ∧ w.frozen? ⟨b, 1, none⟩ = false ∧ w.frozen? ⟨b, 2, none⟩ = false :=
  ⟨h.cell 0, h.cell 1, h.cell 2, h.frozen 0, h.frozen 1, h.frozen 2⟩
set_option maxHeartbeats 1000000 in
theorem specEntries_any (sq st : Int) (ea : Option Addr) (en ec : Nat) (es : List Int) (cd : Int) (ra : Option Addr) (rn rc : Nat) (at_ : Int) (w : World) (h1 : TripAt w ea en es) :
    Calls Try.prog 46 #[DescV sq st ea en ec cd ra rn rc, .int .i64 at_] w fun e w' => e = .returned (.tuple #[EntryV (entM es en at_).1 (entM es en at_).2.1 (entM es en at_).2.2.1, .bool (entM es en at_).2.2.2]) ∧ Below w.heap.size w w' := by
  have H1 : Hid (TripAt w ea en es) := h1
  have hn := h1.2.1
  obtain ⟨r, hr⟩ : ∃ r, entM es en at_ = r := ⟨_, rfl⟩
  rw [hr]
  have HR : Hid (entM es en at_ = r) := hr
  have HB0 : Hid (Below w.heap.size w ((w.alloc (.cells (DescC sq st ea en ec cd ra rn rc) 82)).alloc (.cells #[.int .i64 0, .int .i64 0, .int .i64 0] 84))) := ((Below.refl _ w).alloc (Nat.le_refl _) _).alloc (by simp) _
  have B1 : Hid (Box ((w.alloc (.cells (DescC sq st ea en ec cd ra rn rc) 82)).alloc (.cells #[.int .i64 0, .int .i64 0, .int .i64 0] 84)) (w.heap.size + 1) #[.int .i64 0, .int .i64 0, .int .i64 0] 84) := by
    have := box_of (w.alloc (.cells (DescC sq st ea en ec cd ra rn rc) 82)) #[.int .i64 0, .int .i64 0, .int .i64 0] 84
    simp at this
    exact this
  clear h1 hr
  go_enter Try.func46, Try.ntmps46
  go_wp2
  go_loopw [6] (fun i wr => ∃ k : Nat, k ≤ en ∧ i = .int .i64 (k : Int) ∧ (∀ i, i < k → es.getD (i * 3) 0 ≠ at_) ∧ Box wr w.heap.size (DescC sq st ea en ec cd ra rn rc) 82 ∧ Box wr (w.heap.size + 1) #[.int .i64 0, .int .i64 0, .int .i64 0] 84 ∧ Below w.heap.size w wr) (fun i _ => en - (intOf i).toNat)
  case atStart => exact ⟨0, Nat.zero_le _, rfl, fun i hi => by omega, (box_of w _ _).alloc _, B1.out, HB0.out⟩
  case round =>
    obtain ⟨k, hk, rfl, hno, hbox, hbox2, hb⟩ := hrel
    have HNO : Hid (∀ i, i < k → es.getD (i * 3) 0 ≠ at_) := hno
    have HBX : Hid (Box wr w.heap.size (DescC sq st ea en ec cd ra rn rc) 82 ∧ Box wr (w.heap.size + 1) #[.int .i64 0, .int .i64 0, .int .i64 0] 84) := ⟨hbox, hbox2⟩
    obtain ⟨_, _, x2, _, _, _, _, _, _, _⟩ := hbox.desc
    obtain ⟨y0, y1, y2, f0, f1, f2⟩ := hbox2.three
    clear hno hbox hbox2 B1 HB0
    by_cases hlt : k < en
    · rcases (H1.out.below hb (Nat.le_refl _)).2.2 with h0 | ⟨p1, o1, rfl, g1⟩
      · omega
      have hk0 : (0 : Int) ≤ (k : Int) := by omega
      have hk1 : (k : Int) < (en : Int) := by omega
      have e1 := g1 (k * 3) (by omega)
      have e2 := g1 (k * 3 + 1) (by omega)
      have e3 := g1 (k * 3 + 2) (by omega)
      obtain ⟨x, hx⟩ : ∃ x, es.getD (k * 3) 0 = x := ⟨_, rfl⟩
      obtain ⟨y, hy⟩ : ∃ y, es.getD (k * 3 + 1) 0 = y := ⟨_, rfl⟩
      obtain ⟨z, hz⟩ : ∃ z, es.getD (k * 3 + 2) 0 = z := ⟨_, rfl⟩
      have HX : Hid (es.getD (k * 3) 0 = x ∧ es.getD (k * 3 + 1) 0 = y ∧ es.getD (k * 3 + 2) 0 = z) := ⟨hx, hy, hz⟩
      rw [hx] at e1
      rw [hy, ← Nat.add_assoc] at e2
      rw [hz, ← Nat.add_assoc] at e3
      clear g1 hx hy hz
      by_cases hxa : x = at_
      · have hxb : (x == at_) = true := by simpa using hxa
        have HV : Hid (r = (x, y, z, true)) := by
          show _ = _
          obtain ⟨q1, q2, q3⟩ := HX.out
          rw [← HR.out, entM_yes (idxE_eq (Nat.le_of_lt hlt) HNO.out fun _ => q1.trans hxa) hlt, q1, q2, q3]
        clear hxa
        go_wp2
        (try simp only [Exit.inBlock, Exit.then])
        refine bodyPost_ret (v := .tuple #[EntryV x y z, .bool true]) (by simp [results, Try.results46, go_sem, y0, y1, y2]; try rfl) rfl ?_
        refine ⟨by rw [HV.out], ((hb.setCell (by simp) _).setCell (by simp) _).setCell (by simp) _⟩
      · have hxb : (x == at_) = false := by simpa using hxa
        have HN : Hid (∀ i, i < k + 1 → es.getD (i * 3) 0 ≠ at_) := fun i hi => by
          by_cases e : i = k
          · rw [e, HX.out.1]; exact hxa
          · exact HNO.out i (by omega)
        clear hxa
        go_wp2
        exact ⟨⟨k + 1, by omega, by go_num, HN.out, HBX.out.1, HBX.out.2, hb⟩, by simp [intOf]; omega⟩
    · obtain rfl : k = en := by omega
      have HV : Hid (r = (0, 0, 0, false)) := by show _ = _; rw [← HR.out, entM_no (idxE_eq (Nat.le_refl _) HNO.out fun h => by omega)]
      go_wp2
      (try simp only [Exit.inBlock, Exit.then])
      refine bodyPost_ret (v := .tuple #[EntryV 0 0 0, .bool false]) (by simp [results, Try.results46, go_sem, y0, y1, y2]; try rfl) rfl ?_
      refine ⟨by rw [HV.out], ?_⟩
      first
        | exact ((hb.setCell (by simp) _).setCell (by simp) _).setCell (by simp) _
        | exact hb
end Go.Proofs.Ytbdfopokimpeiaq
