/- Descs: as values; the laws' own functions on one. -/
import Derived.Test.YtbdfopokimpeiaqBoxN
import Derived.Test.YtbdfopokimpeiaqEnts
import Derived.Test.YtbdfopokimpeiaqResL
namespace Go.Proofs.Ytbdfopokimpeiaq
open Go.ChangeShapes Go.WideShapes Go.ChangeAt Go.RowKit

/-- A Desc as a value: Seq, Status, List, Res's code and list. -/
abbrev DescV (sq st : Int) (ea : Option Addr) (en ec : Nat) (cd : Int) (ra : Option Addr) (rn rc : Nat) : Value := .agg #[.int .i64 sq, .int .i64 st, .slice ea en ec, .int .i64 cd, .slice ra rn rc]
abbrev DescC (sq st : Int) (ea : Option Addr) (en ec : Nat) (cd : Int) (ra : Option Addr) (rn rc : Nat) : Array Value := #[.int .i64 sq, .int .i64 st, .slice ea en ec, .int .i64 cd, .slice ra rn rc]
theorem Box.desc {w : World} {b : Nat} {T : TypeId} {sq st cd : Int} {ea ra : Option Addr} {en ec rn rc : Nat} (h : Box w b (DescC sq st ea en ec cd ra rn rc) T) :
    w.cell? ⟨b, 0, none⟩ = some (.int .i64 sq) ∧ w.cell? ⟨b, 1, none⟩ = some (.int .i64 st) ∧ w.cell? ⟨b, 2, none⟩ = some (.slice ea en ec) ∧ w.cell? ⟨b, 3, none⟩ = some (.int .i64 cd) ∧ w.cell? ⟨b, 4, none⟩ = some (.slice ra rn rc) ∧
    w.frozen? ⟨b, 0, none⟩ = false ∧ w.frozen? ⟨b, 1, none⟩ = false ∧ w.frozen? ⟨b, 2, none⟩ = false ∧ w.frozen? ⟨b, 3, none⟩ = false ∧ w.frozen? ⟨b, 4, none⟩ = false :=
  ⟨h.cell 0, h.cell 1, h.cell 2, h.cell 3, h.cell 4, h.frozen 0, h.frozen 1, h.frozen 2, h.frozen 3, h.frozen 4⟩

set_option maxHeartbeats 1000000 in
theorem toDesc_any (sq st : Int) (ea : Option Addr) (en ec : Nat) (es : List Int) (cd : Int) (ra : Option Addr) (rn rc : Nat) (rs : List Int) (w : World) (h1 : TripAt w ea en es) (h2 : IntAt w ra rn rs) :
    Calls Try.prog 48 #[DescV sq st ea en ec cd ra rn rc] w fun e w' => ∃ g h : Nat, e = .returned (DescV sq st (some ⟨g, 0, none⟩) en en cd (some ⟨h, 0, none⟩) rn rn) ∧ w.heap.size ≤ g ∧ g < h ∧
      w'.ownsRow g 84 3 (.slice (some ⟨g, 0, none⟩) en en) en (es.map I) ∧ w'.ownsRow h 3 1 (.slice (some ⟨h, 0, none⟩) rn rn) rn (rs.map I) ∧ Below w.heap.size w w' := by
  have H1 : Hid (TripAt w ea en es) := h1
  have H2 : Hid (IntAt w ra rn rs) := h2
  clear h1 h2
  go_enter Try.func48, Try.ntmps48
  go_wp2_with fail
  have hb0 : Below w.heap.size w (((w.alloc (.cells (DescC sq st ea en ec cd ra rn rc) 77)).alloc (.cells (DescC 0 0 none 0 0 0 none 0 0) 82)).alloc (.cells (DescC sq st none 0 0 0 none 0 0) 82)) :=
    (((Below.refl _ w).alloc (Nat.le_refl _) _).alloc (by simp) _).alloc (by simp; omega) _
  have HB0 : Hid _ := hb0
  refine (toEntryS_any ea en ec es _ (H1.out.below hb0 (Nat.le_refl _))).mono ?_
  rintro e w1 ⟨rfl, own1, hb1⟩
  have B0 : Hid (Box w1 w.heap.size (DescC sq st ea en ec cd ra rn rc) 77) := (((box_of w _ _).alloc _).alloc _).below hb1 (by simp; omega)
  have B1 : Hid (Box w1 (w.heap.size + 1) (DescC 0 0 none 0 0 0 none 0 0) 82) := by
    have := ((box_of (w.alloc (.cells (DescC sq st ea en ec cd ra rn rc) 77)) (DescC 0 0 none 0 0 0 none 0 0) 82).alloc (.cells (DescC sq st none 0 0 0 none 0 0) 82)).below hb1 (by simp)
    simp at this
    exact this
  have B2 : Hid (Box w1 (w.heap.size + 1 + 1) (DescC sq st none 0 0 0 none 0 0) 82) := by
    have := (box_of ((w.alloc (.cells (DescC sq st ea en ec cd ra rn rc) 77)).alloc (.cells (DescC 0 0 none 0 0 0 none 0 0) 82)) (DescC sq st none 0 0 0 none 0 0) 82).below hb1 (by simp)
    simp at this
    exact this
  simp only [World.size_alloc] at own1 hb1
  have hs1 : w.heap.size + 1 + 1 + 1 ≤ w1.heap.size := by simpa using hb1.size
  have HBW : Hid (Below w.heap.size w w1) := HB0.out.trans (hb1.mono (by omega))
  have O1 : Hid (w1.ownsRow (w.heap.size + 1 + 1 + 1) 84 3 (.slice (some ⟨w.heap.size + 1 + 1 + 1, 0, none⟩) en en) en (es.map I)) := own1
  have hlt1 : w.heap.size + 1 + 1 + 1 < w1.heap.size := (own1.lt (w.heap.size + 1 + 1 + 1) rfl).2
  obtain ⟨x0, x1, x2, x3, x4, _, _, _, _, _⟩ := B0.out.desc
  obtain ⟨_, _, y2, _, _, _, _, z2, _, _⟩ := B2.out.desc
  clear hb0 hb1 own1 HB0
  go_wp2_with fail
  have hbw2 : Below w.heap.size w (w1.setCell ⟨w.heap.size + 1 + 1, 2, none⟩ (.slice (some ⟨w.heap.size + 1 + 1 + 1, 0, none⟩) en en)) := HBW.out.setCell (by simp; omega) _
  have HBW2 : Hid _ := hbw2
  refine (toRes_g ra rn rc cd rs _ (H2.out.below hbw2 (Nat.le_refl _))).mono ?_
  rintro e w2 ⟨h, rfl, hh, own2, hb2⟩
  have B0' : Hid (Box w2 w.heap.size (DescC sq st ea en ec cd ra rn rc) 77) := (B0.out.set (by simp; omega) _).below hb2 (by rw [size_setCell]; omega)
  have B1' : Hid (Box w2 (w.heap.size + 1) (DescC 0 0 none 0 0 0 none 0 0) 82) := (B1.out.set (by simp) _).below hb2 (by rw [size_setCell]; omega)
  have B2' : Hid (Box w2 (w.heap.size + 1 + 1) (DescC sq st (some ⟨w.heap.size + 1 + 1 + 1, 0, none⟩) en en 0 none 0 0) 82) := (B2.out.put 2 _).below hb2 (by rw [size_setCell]; omega)
  have O1' : Hid (w2.ownsRow (w.heap.size + 1 + 1 + 1) 84 3 (.slice (some ⟨w.heap.size + 1 + 1 + 1, 0, none⟩) en en) en (es.map I)) := owns_below (ownsRow_setCell_below O1.out (by simp) _) hb2 (Nat.le_refl _)
  have O2' : Hid (w2.ownsRow h 3 1 (.slice (some ⟨h, 0, none⟩) rn rn) rn (rs.map I)) := own2
  have HBW3 : Hid (Below w.heap.size w w2) := HBW2.out.trans (hb2.mono (by rw [size_setCell]; omega))
  have hh' : w.heap.size + 1 + 1 + 1 < h := by rw [size_setCell] at hh; omega
  obtain ⟨_, _, _, _, _, f0, f1, f2, f3, f4⟩ := B1'.out.desc
  obtain ⟨u0, u1, u2, u3, u4, _, _, _, _, _⟩ := B1'.out.desc
  obtain ⟨v0, v1, v2, v3, v4, _, _, _, s3, s4⟩ := B2'.out.desc
  clear hb2 own2 hbw2 hh x0 x1 x2 x3 x4 y2 z2 B0 B1 B2 O1
  go_wp2
  (try simp only [Exit.inBlock, Exit.then])
  refine bodyPost_ret (by simp [results, Try.results48, go_sem, u0, u1, u2, u3, u4]; try rfl) rfl ?_
  refine ⟨w.heap.size + 1 + 1 + 1, h, rfl, by omega, hh', ?_, ?_, ?_⟩
  · exact ownsRow_setCell_below (ownsRow_setCell_below (ownsRow_setCell_below (ownsRow_setCell_below (ownsRow_setCell_below (ownsRow_setCell_below (ownsRow_setCell_below O1'.out (by simp) _) (by simp) _) (by simp) _) (by simp) _) (by simp) _) (by simp) _) (by simp) _
  · exact ownsRow_setCell_below (ownsRow_setCell_below (ownsRow_setCell_below (ownsRow_setCell_below (ownsRow_setCell_below (ownsRow_setCell_below (ownsRow_setCell_below O2'.out (by simp; omega) _) (by simp; omega) _) (by simp; omega) _) (by simp; omega) _) (by simp; omega) _) (by simp; omega) _) (by simp; omega) _
  · exact ((((((HBW3.out.setCell (by simp; omega) _).setCell (by simp; omega) _).setCell (by simp) _).setCell (by simp) _).setCell (by simp) _).setCell (by simp) _).setCell (by simp) _

set_option maxHeartbeats 400000 in
theorem szDesc_fits (sq st cd left : Int) (ea ra : Option Addr) (en ec rn rc : Nat) (w : World) (h0 : 0 ≤ left) (h1 : left ≤ 1048576) (hn : (en : Int) + (rn : Int) ≤ left) :
    Calls Try.prog 44 #[DescV sq st ea en ec cd ra rn rc, .int .i64 left] w fun e w' => e = .returned (.int .i64 (left - (en : Int) - (rn : Int))) ∧ Below w.heap.size w w' := by
  have h2 : ¬ (left - (en : Int) < 0) := by omega
  have h3 : ¬ (left - (en : Int) - (rn : Int) < 0) := by omega
  go_enter Try.func44, Try.ntmps44
  go_wp2_with fail
  refine (szEntryS_fits ea en ec left _ h0 h1 (by omega)).mono ?_
  rintro e w1 ⟨rfl, rfl⟩
  go_wp2_with fail
  refine (szRes_fits ra rn rc cd (left - en) _ (by omega) (by omega) (by omega)).mono ?_
  rintro e w2 ⟨rfl, hb2⟩
  have hb : Below w.heap.size w w2 := ((Below.refl _ w).alloc (Nat.le_refl _) _).trans (hb2.mono (by simp))
  clear hb2
  go_wp2
  go_ret
  exact ⟨rfl, hb⟩
set_option maxHeartbeats 400000 in
theorem szDesc_big (sq st cd left : Int) (ea ra : Option Addr) (en ec rn rc : Nat) (w : World) (h0 : 0 ≤ left) (h1 : left ≤ 1048576) (hn : ¬ (en : Int) + (rn : Int) ≤ left) (he : en ≤ 9223372036854775807) (hr : rn ≤ 9223372036854775807) :
    Calls Try.prog 44 #[DescV sq st ea en ec cd ra rn rc, .int .i64 left] w fun e w' => e = .returned (.int .i64 (-1)) ∧ Below w.heap.size w w' := by
  by_cases hE : (en : Int) ≤ left
  · have h2 : ¬ (left - (en : Int) < 0) := by omega
    go_enter Try.func44, Try.ntmps44
    go_wp2_with fail
    refine (szEntryS_fits ea en ec left _ h0 h1 (by omega)).mono ?_
    rintro e w1 ⟨rfl, rfl⟩
    go_wp2_with fail
    refine (szRes_big ra rn rc cd (left - en) _ (by omega) (by omega) (by omega) hr).mono ?_
    rintro e w2 ⟨rfl, hb2⟩
    have hb : Below w.heap.size w w2 := ((Below.refl _ w).alloc (Nat.le_refl _) _).trans (hb2.mono (by simp))
    clear hb2
    go_wp2
    go_ret
    exact ⟨rfl, hb⟩
  · go_enter Try.func44, Try.ntmps44
    go_wp2_with fail
    refine (szEntryS_big ea en ec left _ h0 h1 (by omega) he).mono ?_
    rintro e w1 ⟨rfl, rfl⟩
    go_wp2
    go_ret
    exact ⟨rfl, (Below.refl _ w).alloc (Nat.le_refl _) _⟩
set_option maxHeartbeats 1000000 in
theorem eqDesc_same (sq st cd : Int) (ea ea' ra ra' : Option Addr) (en en' ec ec' rn rn' rc rc' : Nat) (es rs : List Int) (w : World) (h1 : TripAt w ea en es) (h2 : TripAt w ea' en' es) (h3 : IntAt w ra rn rs) (h4 : IntAt w ra' rn' rs) :
    Calls Try.prog 53 #[DescV sq st ea en ec cd ra rn rc, DescV sq st ea' en' ec' cd ra' rn' rc'] w fun e w' => e = .returned (.bool true) ∧ Below w.heap.size w w' := by
  have H1 : Hid (TripAt w ea en es ∧ TripAt w ea' en' es ∧ IntAt w ra rn rs ∧ IntAt w ra' rn' rs) := ⟨h1, h2, h3, h4⟩
  clear h1 h2 h3 h4
  have hb0 : Below w.heap.size w ((w.alloc (.cells (DescC sq st ea en ec cd ra rn rc) 82)).alloc (.cells (DescC sq st ea' en' ec' cd ra' rn' rc') 82)) := ((Below.refl _ w).alloc (Nat.le_refl _) _).alloc (by simp) _
  have HB0 : Hid _ := hb0
  clear hb0
  go_enter Try.func53, Try.ntmps53
  go_wp2_with fail
  refine (eqEntryS_any ea ea' en en' ec ec' es es _ (H1.out.1.below HB0.out (Nat.le_refl _)) (H1.out.2.1.below HB0.out (Nat.le_refl _))).mono ?_
  rintro e w1 ⟨rfl, hb1⟩
  rw [show decide (es = es) = true from decide_eq_true rfl]
  have B0 : Hid (Box w1 w.heap.size (DescC sq st ea en ec cd ra rn rc) 82) := ((box_of w _ _).alloc _).below hb1 (by simp; omega)
  have B1 : Hid (Box w1 (w.heap.size + 1) (DescC sq st ea' en' ec' cd ra' rn' rc') 82) := by
    have := (box_of (w.alloc (.cells (DescC sq st ea en ec cd ra rn rc) 82)) (DescC sq st ea' en' ec' cd ra' rn' rc') 82).below hb1 (by simp)
    simp at this
    exact this
  have HB1 : Hid (Below w.heap.size w w1) := HB0.out.trans (hb1.mono (by simp; omega))
  obtain ⟨_, _, _, x3, x4, _, _, _, _, _⟩ := B0.out.desc
  obtain ⟨_, _, _, y3, y4, _, _, _, _, _⟩ := B1.out.desc
  clear hb1 HB0
  go_wp2_with fail
  refine (eqRes_same ra ra' rn rn' rc rc' cd rs _ (H1.out.2.2.1.below HB1.out (Nat.le_refl _)) (H1.out.2.2.2.below HB1.out (Nat.le_refl _))).mono ?_
  rintro e w2 ⟨rfl, hb2⟩
  have HB2 : Hid (Below w.heap.size w w2) := HB1.out.trans (hb2.mono HB1.out.size)
  clear hb2
  go_wp2
  go_ret
  exact ⟨rfl, HB2.out⟩
end Go.Proofs.Ytbdfopokimpeiaq
