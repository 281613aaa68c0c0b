/- The law's own functions on a Mem: szMem, toMem, eqMem; a Mem that came in, opened. -/
import Derived.Test.YtbdfopokimpeiaqDescs2
import Derived.Test.YtbdfopokimpeiaqOpenW
import Derived.Test.YtbdfopokimpeiaqSpecMem
import Derived.Lib.SmallJoins
namespace Go.Proofs.Ytbdfopokimpeiaq
open Go.ChangeShapes Go.WideShapes Go.ChangeAt Go.RowKit Go.Joins

theorem Own5.set {w : World} {g : Nat} {vs : List Value} {d : DK} {i p q : Nat} (h : Own5 w g vs d i p q) {a : Addr} (ha : a.block < g) (u : Value) : Own5 (w.setCell a u) g vs d i p q :=
  ⟨h.at5, h.gp, h.pq, ownsRow_setCell_below h.ents (Nat.lt_trans ha h.gp) u, ownsRow_setCell_below h.ints (Nat.lt_trans ha (Nat.lt_trans h.gp h.pq)) u⟩
theorem DescOwn.set {w : World} {g n k : Nat} {ds : List DK} (h : DescOwn w g n ds k) {a : Addr} (ha : a.block < g) (u : Value) : DescOwn (w.setCell a u) g n ds k := by
  obtain ⟨vs, P, Q, h1, h2⟩ := h
  exact ⟨vs, P, Q, ownsRow_setCell_below h1 ha u, fun i hi => ⟨(h2 i hi).1.set ha u, (h2 i hi).2⟩⟩
theorem DescOwn.caps {w : World} {g n : Nat} {ds : List DK} (h : DescOwn w g n ds n) : CapAt w (some ⟨g, 0, none⟩) n ds := by
  obtain ⟨vs, P, Q, h1, h2⟩ := h
  refine .inr ⟨g, 0, rfl, fun i hi => ?_⟩
  obtain ⟨⟨⟨_, _, a2, _, _⟩, _, _, _, _⟩, _⟩ := h2 i hi
  exact ⟨_, _, by rw [Nat.zero_add]; exact own_cellV h1 a2, Nat.le_refl _⟩
theorem DescPre.below {w w' : World} {a : Option Addr} {n : Nat} {ds : List DK} (h : DescPre w a n ds) {B : Nat} (hb : Below B w w') (hB : w.heap.size ≤ B) : DescPre w' a n ds := by
  obtain ⟨q0, q1, q2 | ⟨b, o, q3, q4⟩⟩ := h
  · exact ⟨q0, q1, .inl q2⟩
  · refine ⟨q0, q1, .inr ⟨b, o, q3, fun i hi => ?_⟩⟩
    obtain ⟨ea, ec, ra, rc, z5, z6, z7, z8, z9⟩ := q4 i hi
    exact ⟨ea, ec, ra, rc, z5.below hb hB, z6, z7, fun hh => (z8 hh).below hb hB, fun hh => (z9 hh).below hb hB⟩

set_option maxHeartbeats 1000000 in
theorem szMem_any (wa : Option Addr) (m wc : Nat) (fs : List Int) (da : Option Addr) (n dc : Nat) (ds : List DK) (left : Int) (w : World) (hm : m ≤ 9223372036854775807) (hn : n ≤ 9223372036854775807) (hA : m ≤ 1048576 → TripAt w wa m fs) (hD : n ≤ 1048576 → DescPre w da n ds) (h0 : 0 ≤ left) (h1 : left ≤ 1048576) :
    Calls Try.prog 23 #[MemV wa m wc da n dc, .int .i64 left] w fun e w' => Below w.heap.size w w' ∧ ((e = .returned (.int .i64 (-1))) ∨ ∃ r : Int, e = .returned (.int .i64 r) ∧ 0 ≤ r ∧ r ≤ 1048576 ∧ TripAt w wa m fs ∧ DescAt w da n ds ∧ ∀ i, i < n → (dk ds i).en ≤ 1048576 ∧ (dk ds i).rn ≤ 1048576) := by
  obtain ⟨W, hW⟩ : ∃ W, w.alloc (.cells #[.slice wa m wc, .slice da n dc] 42) = W := ⟨_, rfl⟩
  have hb0 : Below w.heap.size w W := by rw [← hW]; exact (Below.refl _ w).alloc (Nat.le_refl _) _
  have HB0 : Hid (Below w.heap.size w W) := hb0
  have HW : Hid (w.alloc (.cells #[.slice wa m wc, .slice da n dc] 42) = W) := hW
  have BX : Hid (Box W w.heap.size #[.slice wa m wc, .slice da n dc] 42) := by rw [← hW]; exact box_of w _ _
  have HA : Hid (m ≤ 1048576 → TripAt w wa m fs) := hA
  have HD : Hid (n ≤ 1048576 → DescPre w da n ds) := hD
  clear hA hD hW hb0
  by_cases hfit : (m : Int) ≤ left
  case neg =>
    go_enter Try.func23, Try.ntmps23
    go_wp2_with fail
    refine (szWordS_big wa m wc left _ h0 h1 (by omega) hm).mono ?_
    rintro e w1 ⟨rfl, rfl⟩
    go_wp2
    go_ret
    exact ⟨by rw [HW.out]; exact HB0.out, .inl rfl⟩
  have hl : ¬ (left - (m : Int) < 0) := by omega
  go_enter Try.func23, Try.ntmps23
  go_wp2_with fail
  refine (szWordS_fits wa m wc left _ h0 h1 hfit).mono ?_
  rintro e w1 ⟨rfl, hw1⟩
  obtain rfl : W = w1 := by rw [hw1]; exact HW.out.symm
  obtain ⟨c0, c1, _, _⟩ := BX.out.two
  clear hw1
  go_wp2_with fail
  refine (szDescS_any da n dc ds (left - m) _ (fun h => (HD.out h).below HB0.out (Nat.le_refl _)) hn (by omega) (by omega)).mono ?_
  rintro e w2 ⟨hb2, hc⟩
  have HB2 : Hid (Below w.heap.size w w2) := HB0.out.trans (hb2.mono HB0.out.size)
  rcases hc with rfl | ⟨r, rfl, hr0, hr1, hr2, hAt, hsz⟩
  · clear hb2
    go_wp2
    go_ret
    exact ⟨HB2.out, .inl rfl⟩
  · have hr3 : ¬ r < 0 := by omega
    have HSZ : Hid (∀ i, i < n → (dk ds i).en ≤ 1048576 ∧ (dk ds i).rn ≤ 1048576) := hsz
    have hn2 := hAt.2.1
    clear hb2 hAt hsz
    go_wp2
    go_ret
    exact ⟨HB2.out, .inr ⟨r, rfl, hr0, hr1, HA.out (by omega), (HD.out hn2).at HSZ.out, HSZ.out⟩⟩

set_option maxHeartbeats 1000000 in
theorem toMem_any (wa : Option Addr) (m wc : Nat) (fs : List Int) (da : Option Addr) (n dc : Nat) (ds : List DK) (w : World) (h1 : TripAt w wa m fs) (h2 : DescAt w da n ds) :
    Calls Try.prog 25 #[MemV wa m wc da n dc] w fun e w' => ∃ g h : Nat, e = .returned (MemV (some ⟨g, 0, none⟩) m m (some ⟨h, 0, none⟩) n n) ∧ w.heap.size ≤ g ∧ g < h ∧
      w'.ownsRow g 80 3 (SL g m) m (fs.map I) ∧ DescOwn w' h n ds n ∧ Below w.heap.size w w' := by
  have H1 : Hid (TripAt w wa m fs) := h1
  have H2 : Hid (DescAt w da n ds) := h2
  clear h1 h2
  go_enter Try.func25, Try.ntmps25
  go_wp2_with fail
  have hb0 : Below w.heap.size w (((w.alloc (.cells #[.slice wa m wc, .slice da n dc] 42)).alloc (.cells #[.slice none 0 0, .slice none 0 0] 46)).alloc (.cells #[.slice none 0 0, .slice none 0 0] 46)) :=
    (((Below.refl _ w).alloc (Nat.le_refl _) _).alloc (by simp) _).alloc (by simp; omega) _
  have HB0 : Hid _ := hb0
  refine (toWordS_any wa m wc fs _ (H1.out.below hb0 (Nat.le_refl _))).mono ?_
  rintro e w1 ⟨rfl, own1, hb1⟩
  have B0 : Hid (Box w1 w.heap.size #[.slice wa m wc, .slice da n dc] 42) := (((box_of w _ _).alloc _).alloc _).below hb1 (by simp; omega)
  have B1 : Hid (Box w1 (w.heap.size + 1) #[.slice none 0 0, .slice none 0 0] 46) := by
    have := ((box_of (w.alloc (.cells #[.slice wa m wc, .slice da n dc] 42)) #[.slice none 0 0, .slice none 0 0] 46).alloc (.cells #[.slice none 0 0, .slice none 0 0] 46)).below hb1 (by simp)
    simp at this
    exact this
  have B2 : Hid (Box w1 (w.heap.size + 1 + 1) #[.slice none 0 0, .slice none 0 0] 46) := by
    have := (box_of ((w.alloc (.cells #[.slice wa m wc, .slice da n dc] 42)).alloc (.cells #[.slice none 0 0, .slice none 0 0] 46)) #[.slice none 0 0, .slice none 0 0] 46).below hb1 (by simp)
    simp at this
    exact this
  simp only [World.size_alloc] at own1 hb1
  have hs1 : w.heap.size + 1 + 1 + 1 ≤ w1.heap.size := by simpa using hb1.size
  have HBW : Hid (Below w.heap.size w w1) := HB0.out.trans (hb1.mono (by omega))
  have O1 : Hid (w1.ownsRow (w.heap.size + 1 + 1 + 1) 80 3 (SL (w.heap.size + 1 + 1 + 1) m) m (fs.map I)) := own1
  have hlt1 : w.heap.size + 1 + 1 + 1 < w1.heap.size := (own1.lt (w.heap.size + 1 + 1 + 1) rfl).2
  obtain ⟨x0, x1, _, _⟩ := B0.out.two
  obtain ⟨y0, y1, z0, z1⟩ := B2.out.two
  clear hb0 hb1 own1 HB0
  go_wp2_with fail
  have hbw2 : Below w.heap.size w (w1.setCell ⟨w.heap.size + 1 + 1, 0, none⟩ (SL (w.heap.size + 1 + 1 + 1) m)) := HBW.out.setCell (by simp; omega) _
  have HBW2 : Hid _ := hbw2
  refine (toDescS_any da n dc ds _ (H2.out.below hbw2 (Nat.le_refl _))).mono ?_
  rintro e w2 ⟨rfl, own2, hb2⟩
  have B1' : Hid (Box w2 (w.heap.size + 1) #[.slice none 0 0, .slice none 0 0] 46) := (B1.out.set (by simp) _).below hb2 (by rw [size_setCell]; omega)
  have B2' : Hid (Box w2 (w.heap.size + 1 + 1) #[SL (w.heap.size + 1 + 1 + 1) m, .slice none 0 0] 46) := (B2.out.put 0 _).below hb2 (by rw [size_setCell]; omega)
  have O1' : Hid (w2.ownsRow (w.heap.size + 1 + 1 + 1) 80 3 (SL (w.heap.size + 1 + 1 + 1) m) m (fs.map I)) := owns_below (ownsRow_setCell_below O1.out (by simp) _) hb2 (Nat.le_refl _)
  rw [size_setCell] at own2 ⊢
  have O2' : Hid (DescOwn w2 w1.heap.size n ds n) := own2
  have HBW3 : Hid (Below w.heap.size w w2) := HBW2.out.trans (hb2.mono (by rw [size_setCell]; omega))
  have hs2 : w1.heap.size ≤ w2.heap.size := by have := hb2.size; rwa [size_setCell] at this
  obtain ⟨u0, u1, f0, f1⟩ := B1'.out.two
  obtain ⟨v0, v1, s0, s1⟩ := B2'.out.two
  clear hb2 own2 hbw2 x0 x1 y0 y1 z0 z1 B0 B1 B2 O1
  go_wp2
  (try simp only [Exit.inBlock, Exit.then])
  refine bodyPost_ret (by simp [results, Try.results25, go_sem, u0, u1]; try rfl) rfl ?_
  refine ⟨w.heap.size + 1 + 1 + 1, w1.heap.size, rfl, by omega, hlt1, ?_, ?_, ?_⟩
  · exact ownsRow_setCell_below (ownsRow_setCell_below (ownsRow_setCell_below O1'.out (by simp) _) (by simp) _) (by simp) _
  · exact ((O2'.out.set (by simp; omega) _).set (by simp; omega) _).set (by simp; omega) _
  · exact ((HBW3.out.setCell (by simp; omega) _).setCell (by simp) _).setCell (by simp) _
set_option maxHeartbeats 1000000 in
theorem eqMem_same (a1 a2 d1 d2 : Option Addr) (m n c1 c2 e1 e2 : Nat) (fs : List Int) (ds : List DK) (w : World) (h1 : TripAt w a1 m fs) (h2 : TripAt w a2 m fs) (h3 : DescAt w d1 n ds) (h4 : DescAt w d2 n ds) :
    Calls Try.prog 27 #[MemV a1 m c1 d1 n e1, MemV a2 m c2 d2 n e2] w fun e w' => e = .returned (.bool true) ∧ Below w.heap.size w w' := by
  have H1 : Hid (TripAt w a1 m fs) := h1
  have H2 : Hid (TripAt w a2 m fs) := h2
  have H3 : Hid (DescAt w d1 n ds) := h3
  have H4 : Hid (DescAt w d2 n ds) := h4
  clear h1 h2 h3 h4
  go_enter Try.func27, Try.ntmps27
  go_wp2_with fail
  obtain ⟨W, hW⟩ : ∃ W, (w.alloc (.cells #[.slice a1 m c1, .slice d1 n e1] 46)).alloc (.cells #[.slice a2 m c2, .slice d2 n e2] 46) = W := ⟨_, rfl⟩
  have hb0 : Below w.heap.size w W := by rw [← hW]; exact ((Below.refl _ w).alloc (Nat.le_refl _) _).alloc (by simp) _
  have R1 : Hid (Box W w.heap.size #[.slice a1 m c1, .slice d1 n e1] 46) := by rw [← hW]; exact (box_of w _ _).alloc _
  have R2 : Hid (Box W (w.heap.size + 1) #[.slice a2 m c2, .slice d2 n e2] 46) := by
    have := box_of (w.alloc (.cells #[.slice a1 m c1, .slice d1 n e1] 46)) #[.slice a2 m c2, .slice d2 n e2] 46
    rw [hW] at this
    simp at this
    exact this
  rw [hW]
  clear hW
  refine (eqWordS_any a1 a2 m m c1 c2 fs fs _ (H1.out.below hb0 (Nat.le_refl _)) (H2.out.below hb0 (Nat.le_refl _))).mono ?_
  rintro e w1 ⟨rfl, hb1⟩
  rw [show decide (fs = fs) = true from decide_eq_true rfl]
  have HB : Hid (Below w.heap.size w w1) := hb0.trans (hb1.mono hb0.size)
  obtain ⟨x0, x1, _, _⟩ := (R1.out.below hb1 R1.out.lt).two
  obtain ⟨y0, y1, _, _⟩ := (R2.out.below hb1 R2.out.lt).two
  clear hb0 hb1
  go_wp2_with fail
  refine (eqDescS_same d1 d2 n e1 e2 ds _ (H3.out.below HB.out (Nat.le_refl _)) (H4.out.below HB.out (Nat.le_refl _))).mono ?_
  rintro e w2 ⟨rfl, hb2⟩
  have hall : Below w.heap.size w w2 := HB.out.trans (hb2.mono HB.out.size)
  clear hb2
  go_wp2
  go_ret
  exact ⟨rfl, hall⟩
theorem cellsLMem : Try.prog.cellsOf 42 = 2 := by kernel_rfl
set_option maxRecDepth 100000 in
/-- A Mem that came in, opened. -/
theorem open_mem {H : Type} {enc : TypeId × Value → H} {W : World} {base b0 : Nat} {held : Bool} {v : Value} {d : DataW H} {p : List MemPlace}
    (hv : Value.okWide Try.prog W .any b0 42 v) (h : DataW.Trod enc Try.prog W base (fun _ => true) held 42 v d p) :
    ∃ (wa : Option Addr) (m wc : Nat) (fs : List Int) (da : Option Addr) (n dc : Nat) (ds : List DK), v = MemV wa m wc da n dc ∧ m ≤ 9223372036854775807 ∧ n ≤ 9223372036854775807 ∧ (m ≤ 1048576 → TripAt W wa m fs) ∧ (n ≤ 1048576 → DescPre W da n ds) := by
  obtain ⟨v0, v1, y0, y1, k, rfl, rfl, rfl, h0, h1⟩ := open_agg2 Try.underlying42 (by kernel_rfl) cellsLMem hv h
  obtain ⟨wa, m, wc, fs, rfl, hm, _, hA⟩ := open_trips Try.underlying22 Try.underlying88 (by kernel_rfl) rfl rfl rfl (by kernel_rfl) (by kernel_rfl) (by kernel_rfl) Try.underlying3 Try.underlying3 Try.underlying3 h0
  obtain ⟨da, n, dc, ds, rfl, hn, hD⟩ := open_descs h1
  exact ⟨wa, m, wc, fs, da, n, dc, ds, rfl, hm, hn, hA, hD⟩
end Go.Proofs.Ytbdfopokimpeiaq
