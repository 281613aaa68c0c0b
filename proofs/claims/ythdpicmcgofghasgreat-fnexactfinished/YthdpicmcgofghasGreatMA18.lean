/- Texts joined: SpecMem, Hold. -/
import Derived.Test.YthdpicmcgofghasGreatMA16
import Derived.Test.YthdpicmcgofghasGreatMA17
import Derived.Test.YthdpicmcgofghasGreatMA13
import Derived.Test.YthdpicmcgofghasGreatRows
import Derived.Test.YthdpicmcgofghasGreatMA01
import Derived.WalkKit
import Derived.ProofKit
import Derived.WalkSmall
import Derived.WalkSpells
import Derived.OpenShut
import Derived.Maps.OwnRows
import Derived.Maps.OwnSet
import Derived.Maps.RangeWalk
import Derived.Maps.Views
/- spec.MemOk, walked at any words and Descs. -/
namespace Go.Proofs.YthdpicmcgofghasGreat
open Go.ChangeShapes Go.WideShapes Go.ChangeAt Go.RowKit

abbrev MemV (wa : Option Addr) (m wc : Nat) (da : Option Addr) (n dc : Nat) : Value := .agg #[.slice wa m wc, .slice da n dc]
def DescGood (d : DK) : Prop := descOkM d.sq d.st d.en d.es d.cd d.rn = true
/-- A word that can be: a number, or a mark of a try that has an entry there. -/
def WordGood (fs : List Int) (ds : List DK) (i : Nat) : Prop :=
  wordOkM (fs.getD (i * 3) 0) (fs.getD (i * 3 + 1) 0) (fs.getD (i * 3 + 2) 0) ds.length = true ∧
  (0 < fs.getD (i * 3 + 1) 0 → (entM (dk ds (fs.getD (i * 3 + 1) 0 - 1).toNat).es (dk ds (fs.getD (i * 3 + 1) 0 - 1).toNat).en i).2.2.2 = true ∧ (dk ds (fs.getD (i * 3 + 1) 0 - 1).toNat).sq = fs.getD (i * 3 + 2) 0)
def MemGood (fs : List Int) (m : Nat) (ds : List DK) : Prop := m = 20 ∧ (1 ≤ ds.length ∧ ds.length ≤ 4) ∧ (∀ i, i < ds.length → DescGood (dk ds i)) ∧ ∀ i, i < m → WordGood fs ds i
/-- The lists of the Descs are as long as there is room for, at most. -/
def CapAt (w : World) (a : Option Addr) (n : Nat) (ds : List DK) : Prop :=
  n = 0 ∨ ∃ b o, a = some ⟨b, o, none⟩ ∧ ∀ i, i < n → ∃ ea ec, w.cell? ⟨b, o + i * 5 + 2, none⟩ = some (.slice ea (dk ds i).en ec) ∧ (dk ds i).en ≤ ec
theorem CapAt.below {w w' : World} {a : Option Addr} {n : Nat} {ds : List DK} (h : CapAt w a n ds) {B : Nat} (hb : Below B w w') (hB : w.heap.size ≤ B) : CapAt w' a n ds := by
  rcases h with h | ⟨b, o, h1, h2⟩
  · exact .inl h
  · refine .inr ⟨b, o, h1, fun i hi => ?_⟩
    obtain ⟨ea, ec, h3, h4⟩ := h2 i hi
    exact ⟨ea, ec, (hb.cell (Nat.lt_of_lt_of_le (World.block_lt_of_cell? w _ h3) hB)).trans h3, h4⟩
theorem Box.two {w : World} {b : Nat} {T : TypeId} {x y : Value} (h : Box w b #[x, y] T) : w.cell? ⟨b, 0, none⟩ = some x ∧ w.cell? ⟨b, 1, none⟩ = some y ∧ w.frozen? ⟨b, 0, none⟩ = false ∧ w.frozen? ⟨b, 1, none⟩ = false :=
  ⟨h.cell 0, h.cell 1, h.frozen 0, h.frozen 1⟩
theorem below7 {B : Nat} {w w' : World} (h : Below B w w') : ∀ n, Below B w (w'.drewN n)
  | 0 => h
  | n + 1 => (below7 h n).drew
theorem wordOkM_t {n t s th : Int} (h : wordOkM n t s th = true) : 0 ≤ t ∧ (0 < t → t ≤ th) := by
  unfold wordOkM at h
  split at h
  · omega
  · simp only [Bool.and_eq_true] at h
    have := inB_val h.2.1
    omega

set_option maxHeartbeats 4000000 in
theorem specMemOk_any (wa : Option Addr) (m wc : Nat) (fs : List Int) (da : Option Addr) (n dc : Nat) (ds : List DK) (w : World) (h1 : TripAt w wa m fs) (h2 : DescAt w da n ds) :
    Calls Tryz.prog 17 #[MemV wa m wc da n dc] w fun e w' => ∃ ok, (e = .returned (.bool ok) ∧ (ok = true ↔ MemGood fs m ds)) ∧ Below w.heap.size w w' := by
  have hm := h1.2.1
  have hn := h2.2.1
  have HL : Hid (ds.length = n) := h2.1
  obtain ⟨W, hW⟩ : ∃ W, w.alloc (.cells #[.slice wa m wc, .slice da n dc] 38) = W := ⟨_, rfl⟩
  have hb0 : Below w.heap.size w W := by rw [← hW]; exact (Below.refl _ w).alloc (Nat.le_refl _) _
  have BX : Hid (Box W w.heap.size #[.slice wa m wc, .slice da n dc] 38) := by rw [← hW]; exact box_of w _ _
  have H1 : Hid (TripAt W wa m fs) := h1.below hb0 (Nat.le_refl _)
  have H2 : Hid (DescAt W da n ds) := h2.below hb0 (Nat.le_refl _)
  have HB0 : Hid (Below w.heap.size w W) := hb0
  have HW : Hid (w.alloc (.cells #[.slice wa m wc, .slice da n dc] 38) = W) := hW
  clear h1 h2 hW hb0
  by_cases hm20 : m = 20
  case neg =>
    have hne : ((m : Int) != 20) = true := by simp; omega
    have HNO : Hid (¬ MemGood fs m ds) := fun h => hm20 h.1
    clear hm20
    go_enter Tryz.func17, Tryz.ntmps17
    go_wp2
    go_ret
    exact ⟨false, ⟨rfl, by simp [HNO.out]⟩, by rw [HW.out]; exact HB0.out⟩
  subst hm20
  rcases hI : inB (n : Int) 1 4 with _ | _
  · have HI : Hid (inB (n : Int) 1 4 = false) := hI
    have HNO : Hid (¬ MemGood fs 20 ds) := fun h => by
      have h2 := h.2.1
      rw [HL.out] at h2
      rw [inB_yes (by omega)] at hI
      cases hI
    clear hI
    go_enter Tryz.func17, Tryz.ntmps17
    go_wp2_with fail
    refine (l1In_g _ 1 4 _).mono ?_
    rintro e w1 ⟨rfl, rfl⟩
    rw [HI.out]
    go_wp2
    go_ret
    exact ⟨false, ⟨rfl, by simp [HNO.out]⟩, by rw [HW.out]; exact HB0.out⟩
  have hn4 := inB_val hI
  have HI : Hid (inB (n : Int) 1 4 = true) := hI
  clear hI
  go_enter Tryz.func17, Tryz.ntmps17
  go_wp2_with fail
  refine (l1In_g _ 1 4 _).mono ?_
  rintro e w1 ⟨rfl, hw1⟩
  rw [HI.out]
  obtain rfl : W = w1 := by rw [hw1]; exact HW.out.symm
  clear hw1
  go_wp2
  go_loopw [3] (fun i wr => ∃ k : Nat, k ≤ n ∧ i = .int .i64 (k : Int) ∧ (∀ i, i < k → DescGood (dk ds i)) ∧ Below W.heap.size W wr) (fun i _ => n - (intOf i).toNat)
  case atStart => exact ⟨0, Nat.zero_le _, rfl, fun i h => by omega, Below.refl _ _⟩
  case round =>
    obtain ⟨k, hk, rfl, hall, hb⟩ := hrel
    have HALL : Hid (∀ i, i < k → DescGood (dk ds i)) := hall
    have HB : Hid (Below W.heap.size W wr) := hb
    have BR : Hid (Box wr w.heap.size #[.slice wa 20 wc, .slice da n dc] 38) := BX.out.below hb BX.out.lt
    have c0 := BR.out.cell 0
    have c1 := BR.out.cell 1
    simp only [List.getElem?_toArray, List.getElem?_cons_zero, List.getElem?_cons_succ] at c0 c1
    clear hall hb
    by_cases hlt : k < n
    · have hk0 : (0 : Int) ≤ (k : Int) := by omega
      have hk1 : (k : Int) < (n : Int) := by omega
      rcases (H2.out.below HB.out (Nat.le_refl _)).2.2 with h0 | ⟨q1, o2, rfl, g2⟩
      · omega
      obtain ⟨ea, ec, ra, rc, h5, h6, h7⟩ := g2 k hlt
      obtain ⟨f0, f1, f2, f3, f4⟩ := h5
      have H6 : Hid (TripAt wr ea (dk ds k).en (dk ds k).es) := h6
      obtain ⟨D, hD⟩ : ∃ D, dk ds k = D := ⟨_, rfl⟩
      have HD : Hid (dk ds k = D) := hD
      rw [hD] at H6 f0 f1 f2 f3 f4
      obtain ⟨dsq, dst, den, des, dcd, drn, drs⟩ := D
      dsimp only at H6 f0 f1 f2 f3 f4
      clear g2 h6 h7 hD
      go_wp2_with fail
      refine (specDescOk_any dsq dst ea den ec des dcd ra drn rc _ H6.out).mono ?_
      rintro e w2 ⟨rfl, hb2⟩
      have HB2 : Hid (Below W.heap.size W w2) := HB.out.trans (hb2.mono HB.out.size)
      clear hb2 c0 c1 f0 f1 f2 f3 f4
      rcases hok : descOkM dsq dst den des dcd drn with _ | _
      · have HNO : Hid (¬ MemGood fs 20 ds) := fun h => by
          have h3 := h.2.2.1 k (by rw [HL.out]; exact hlt)
          rw [HD.out] at h3
          unfold DescGood at h3
          rw [hok] at h3
          cases h3
        clear hok
        go_wp2
        go_ret
        exact ⟨false, ⟨rfl, by simp [HNO.out]⟩, HB0.out.trans (HB2.out.mono HB0.out.size)⟩
      · have HOK : Hid (DescGood (dk ds k)) := by show DescGood _; rw [HD.out]; exact hok
        clear hok
        go_wp2
        exact ⟨⟨k + 1, by omega, by go_num, fun i hi => by
          by_cases e : i = k
          · rw [e]; exact HOK.out
          · exact HALL.out i (by omega), HB2.out⟩, by simp [intOf]; omega⟩
    · obtain rfl : k = n := by omega
      have HDS : Hid (∀ i, i < ds.length → DescGood (dk ds i)) := by show ∀ i, _; rw [HL.out]; exact HALL.out
      clear HALL
      go_wp2
      go_loopw [4] (fun i wr => ∃ k : Nat, k ≤ 20 ∧ i = .int .i64 (k : Int) ∧ (∀ i, i < k → WordGood fs ds i) ∧ Below W.heap.size W wr) (fun i _ => 20 - (intOf i).toNat)
      case atStart => exact ⟨0, Nat.zero_le _, rfl, fun i h => by omega, HB.out⟩
      case round =>
        obtain ⟨i, hi, rfl, hall, hb⟩ := hrel
        clear BR c0 c1 HB
        have HALL : Hid (∀ j, j < i → WordGood fs ds j) := hall
        have HB : Hid (Below W.heap.size W wr) := hb
        have BR : Hid (Box wr w.heap.size #[.slice wa 20 wc, .slice da k dc] 38) := BX.out.below hb BX.out.lt
        have c0 := BR.out.cell 0
        have c1 := BR.out.cell 1
        simp only [List.getElem?_toArray, List.getElem?_cons_zero, List.getElem?_cons_succ] at c0 c1
        have l0 := BR.out.lt
        clear hall hb
        by_cases hli : i < 20
        · have hi0 : (0 : Int) ≤ (i : Int) := by omega
          have hi1 : (i : Int) < 20 := by omega
          rcases (H1.out.below HB.out (Nat.le_refl _)).2.2 with h0 | ⟨p1, o1, rfl, g1⟩
          · omega
          have e1 := g1 (i * 3) (by omega)
          have e2 := g1 (i * 3 + 1) (by omega)
          have e3 := g1 (i * 3 + 2) (by omega)
          have HWG : Hid (WordGood fs ds i ↔ (wordOkM (fs.getD (i * 3) 0) (fs.getD (i * 3 + 1) 0) (fs.getD (i * 3 + 2) 0) k = true ∧ (0 < fs.getD (i * 3 + 1) 0 → (entM (dk ds (fs.getD (i * 3 + 1) 0 - 1).toNat).es (dk ds (fs.getD (i * 3 + 1) 0 - 1).toNat).en i).2.2.2 = true ∧ (dk ds (fs.getD (i * 3 + 1) 0 - 1).toNat).sq = fs.getD (i * 3 + 2) 0))) := by
            show _ ↔ _
            unfold WordGood
            rw [HL.out]
          obtain ⟨x, hx⟩ : ∃ x, fs.getD (i * 3) 0 = x := ⟨_, rfl⟩
          obtain ⟨t, ht⟩ : ∃ y, fs.getD (i * 3 + 1) 0 = y := ⟨_, rfl⟩
          obtain ⟨s, hs⟩ : ∃ z, fs.getD (i * 3 + 2) 0 = z := ⟨_, rfl⟩
          rw [hx, ht, hs] at HWG
          rw [hx] at e1
          rw [ht, ← Nat.add_assoc] at e2
          rw [hs, ← Nat.add_assoc] at e3
          have HNG : Hid (¬ WordGood fs ds i → ¬ MemGood fs 20 ds) := fun h g => h (g.2.2.2 i hli)
          have HYG : Hid (WordGood fs ds i → ∀ j, j < i + 1 → WordGood fs ds j) := fun h j hj => by
            by_cases e : j = i
            · rw [e]; exact h
            · exact HALL.out j (by omega)
          clear g1 hx ht hs
          go_wp2_with fail
          refine (specWordOk_any x t s (k : Int) _).mono ?_
          rintro e w3 ⟨rfl, hb3⟩
          have hbx : Below wr.heap.size wr (wr.alloc (.cells #[.int .i64 x, .int .i64 t, .int .i64 s] 95)) := (Below.refl _ _).alloc (Nat.le_refl _) _
          have hb23 : Below wr.heap.size wr w3 := hbx.trans (hb3.mono hbx.size)
          have HB3 : Hid (Below W.heap.size W w3) := HB.out.trans (hb23.mono HB.out.size)
          have X3 : Hid (Box w3 wr.heap.size #[.int .i64 x, .int .i64 t, .int .i64 s] 95) := (box_of wr _ _).below hb3 (by simp)
          have B3 : Hid (Box w3 w.heap.size #[.slice (some ⟨p1, o1, none⟩) 20 wc, .slice da k dc] 38) := BR.out.below hb23 BR.out.lt
          obtain ⟨x0, x1, x2, _, _, _⟩ := X3.out.three
          obtain ⟨b3, hb3e⟩ : ∃ b3, wr.heap.size = b3 := ⟨_, rfl⟩
          rw [hb3e] at x0 x1 x2 X3 ⊢
          clear hb3 hbx hb23 e1 e2 e3 c0 c1 l0 hb3e BR
          rcases hok : wordOkM x t s (k : Int) with _ | _
          · have HNO : Hid (¬ MemGood fs 20 ds) := HNG.out (fun h => by
              have := (HWG.out.1 h).1
              rw [hok] at this
              cases this)
            clear hok HNG HYG
            go_wp2
            go_ret
            exact ⟨false, ⟨rfl, by simp [HNO.out]⟩, HB0.out.trans (HB3.out.mono HB0.out.size)⟩
          have HOK : Hid (wordOkM x t s (k : Int) = true) := hok
          have htv := wordOkM_t hok
          clear hok
          by_cases ht : 0 < t
          case neg =>
            have ht' : decide (0 < t) = false := by simpa using ht
            have HG : Hid (WordGood fs ds i) := HWG.out.2 ⟨HOK.out, fun h => absurd h ht⟩
            clear ht
            go_wp2
            exact ⟨⟨i + 1, by omega, by go_num, HYG.out HG.out, HB3.out⟩, by simp [intOf]; omega⟩
          obtain ⟨j, rfl⟩ : ∃ j : Nat, t = (j : Int) + 1 := ⟨(t - 1).toNat, by omega⟩
          have hj0 : (0 : Int) ≤ (j : Int) := by omega
          have hj1 : (j : Int) < (k : Int) := by have := htv.2 ht; omega
          rcases (H2.out.below HB3.out (Nat.le_refl _)).2.2 with h0 | ⟨q1, o2, rfl, g2⟩
          · omega
          obtain ⟨ea, ec, ra, rc, h5, h6, h7⟩ := g2 j (by omega)
          obtain ⟨f0, f1, f2, f3, f4⟩ := h5
          have H6 : Hid (TripAt w3 ea (dk ds j).en (dk ds j).es) := h6
          have H5 : Hid (Five w3 q1 (o2 + j * 5) (dk ds j) ea ec ra rc) := ⟨f0, f1, f2, f3, f4⟩
          have HWG2 : Hid (WordGood fs ds i ↔ ((entM (dk ds j).es (dk ds j).en i).2.2.2 = true ∧ (dk ds j).sq = s)) := by
            show _ ↔ _
            rw [HWG.out, show ((j : Int) + 1 - 1).toNat = j by omega]
            exact ⟨fun h => h.2 ht, fun h => ⟨HOK.out, fun _ => h⟩⟩
          obtain ⟨D, hD⟩ : ∃ D, dk ds j = D := ⟨_, rfl⟩
          rw [hD] at HWG2 H6 H5 f0 f1 f2 f3 f4
          obtain ⟨r, hr⟩ : ∃ r, entM D.es D.en i = r := ⟨_, rfl⟩
          rw [hr] at HWG2
          have HR : Hid (entM D.es D.en i = r) := hr
          obtain ⟨r0, r1, r2, r3⟩ := r
          obtain ⟨dsq, dst, den, des, dcd, drn, drs⟩ := D
          dsimp only at HWG2 H6 f0 f1 f2 f3 f4 HR
          have c0 := B3.out.cell 0
          have c1 := B3.out.cell 1
          simp only [List.getElem?_toArray, List.getElem?_cons_zero, List.getElem?_cons_succ] at c0 c1
          clear g2 h6 h7 hD hr HWG
          go_wp2_with fail
          refine (specEntries_any dsq dst ea den ec des dcd ra drn rc i _ H6.out).mono ?_
          rintro e w4 ⟨rfl, hb4⟩
          rw [HR.out]
          dsimp only
          have HB4 : Hid (Below W.heap.size W w4) := HB3.out.trans (hb4.mono HB3.out.size)
          obtain ⟨x0', x1', x2', _, _, _⟩ := (X3.out.below hb4 X3.out.lt).three
          have c0' := (B3.out.below hb4 B3.out.lt).cell 0
          have c1' := (B3.out.below hb4 B3.out.lt).cell 1
          simp only [List.getElem?_toArray, List.getElem?_cons_zero, List.getElem?_cons_succ] at c0' c1'
          obtain ⟨y0, y1, y2, y3, y4⟩ := H5.out.below hb4 (Nat.le_refl _)
          dsimp only at y0 y1 y2 y3 y4
          have l1 : b3 < w4.heap.size := (X3.out.below hb4 X3.out.lt).lt
          have l2 : w.heap.size < w4.heap.size := (B3.out.below hb4 B3.out.lt).lt
          have l3 : q1 < w4.heap.size := World.block_lt_of_cell? w4 _ y0
          have HB5 : Hid (Below W.heap.size W (w4.alloc (.cells #[.int .i64 r0, .int .i64 r1, .int .i64 r2] 98))) := HB4.out.alloc HB4.out.size _
          clear hb4 x0 x1 x2 c0 c1 f0 f1 f2 f3 f4
          rcases r3 with _ | _
          · have HNO : Hid (¬ MemGood fs 20 ds) := HNG.out (fun h => by have := (HWG2.out.1 h).1; cases this)
            clear HNG HYG HWG2
            go_wp2
            go_quiet (fail)
            go_wp2
            go_ret
            exact ⟨false, ⟨rfl, by simp [HNO.out]⟩, below7 (HB0.out.trans (HB5.out.mono HB0.out.size)) nq⟩
          · by_cases hsq : dsq = s
            · have hsq' : (dsq != s) = false := by simp [hsq]
              have HG : Hid (WordGood fs ds i) := HWG2.out.2 ⟨rfl, hsq⟩
              clear hsq HNG HWG2
              go_wp2
              go_quiet (fail)
              go_wp2
              exact ⟨⟨i + 1, by omega, by go_num, HYG.out HG.out, below7 HB5.out nq⟩, by simp [intOf]; omega⟩
            · have hsq' : (dsq != s) = true := by simp [hsq]
              have HNO : Hid (¬ MemGood fs 20 ds) := HNG.out (fun h => hsq (HWG2.out.1 h).2)
              clear hsq HNG HYG HWG2
              go_wp2
              go_quiet (fail)
              go_wp2
              go_ret
              exact ⟨false, ⟨rfl, by simp [HNO.out]⟩, below7 (HB0.out.trans (HB5.out.mono HB0.out.size)) nq⟩
        · obtain rfl : i = 20 := by omega
          have HG : Hid (MemGood fs 20 ds) := ⟨rfl, by rw [HL.out]; omega, HDS.out, HALL.out⟩
          go_wp2
          go_ret
          exact ⟨true, ⟨rfl, by simp [HG.out]⟩, HB0.out.trans (HB.out.mono HB0.out.size)⟩
end Go.Proofs.YthdpicmcgofghasGreat

/- impl.holdersOf, walked at four numbers: a new map of its own that has, at each number but nought that is held, the keys that hold it, rising. -/
namespace Go.Proofs.YthdpicmcgofghasGreat
open Go.ChangeShapes Go.WideShapes Go.ChangeAt Go.RowKit Go.Maps

theorem mapLaw : Keyed Tryz.prog 3 := int_keyed Tryz.underlying3
theorem zeroInts (w : World) : (zeroValue 28).run Tryz.prog w = .ok (.slice none 0 0) w := by kernel_rfl

/-- Which of the first k places hold x. -/
def posK (xs : List Int) (k : Nat) (x : Int) : List Int := ((List.range k).filter fun i => xs.getD i 0 == x).map fun (i : Nat) => (i : Int)
theorem posK_zero (xs : List Int) (x : Int) : posK xs 0 x = [] := rfl
theorem posK_same {xs : List Int} {k : Nat} {x : Int} (h : xs.getD k 0 = x) : posK xs (k + 1) x = posK xs k x ++ [(k : Int)] := by
  simp only [posK, List.range_succ, List.filter_append, List.map_append]
  rw [List.filter_cons_of_pos (by simpa using h)]
  rfl
theorem posK_other {xs : List Int} {k : Nat} {x : Int} (h : xs.getD k 0 ≠ x) : posK xs (k + 1) x = posK xs k x := by
  simp only [posK, List.range_succ, List.filter_append, List.map_append]
  rw [List.filter_cons_of_neg (by simpa using h)]
  simp

section
variable {H : Type}
/-- What a list of keys reads as. -/
def rowOf : List Int → DataW H
  | [] => .nil
  | z :: r => .slice (lits .i64 (z :: r)) []
theorem rowOf_pos {l : List Int} (h : l ≠ []) : rowOf (H := H) l = .slice (lits .i64 l) [] := by
  cases l with
  | nil => exact absurd rfl h
  | cons z r => rfl

/-- The map D has, at each number, the keys below k that hold it. -/
def GD (xs : List Int) (k : Nat) (D : DataW H) : Prop :=
  IsMap D ∧ ∀ x : Int, Maps.has D (.int .i64 x) = decide (posK xs k x ≠ []) ∧ D.atKey (.int .i64 x) .nil = rowOf (posK xs k x)

theorem lits_inj {a b : List Int} (h : lits (H := H) .i64 a = lits .i64 b) : a = b := by
  unfold lits at h
  exact (List.map_inj_right (fun _ _ hxy => by cases hxy; rfl)).1 h

theorem GD_zero (xs : List Int) : GD (H := H) xs 0 (.map []) := ⟨⟨[], rfl⟩, fun _ => ⟨rfl, rfl⟩⟩

theorem GD_zs {xs : List Int} {k : Nat} {D : DataW H} {x : Int} {w : World} {base : Nat} {v : Value} {zs : List Int} (h : GD xs k D) (hat : D.atKey (.int .i64 x) .nil = rowDatum .i64 v zs) (hoi : w.ownsInts base 3 .i64 v zs) : zs = posK xs k x := by
  rw [(h.2 x).2] at hat
  rcases hoi.datum (H := H) with ⟨h1, h2⟩ | h1
  · rw [h1] at hat
    rw [h2]
    cases hp : posK xs k x with
    | nil => rfl
    | cons z r => rw [hp] at hat; cases hat
  · rw [h1] at hat
    cases hp : posK xs k x with
    | nil => rw [hp] at hat; cases hat
    | cons z r =>
      rw [hp] at hat
      simp only [rowOf, DataW.slice.injEq] at hat
      exact (lits_inj hat.1).symm

theorem GD_step {xs : List Int} {k : Nat} {D : DataW H} {x : Int} (h : GD xs k D) (hx : xs.getD k 0 = x) (hw : (Lit.int .i64 x).wf = true) : GD xs (k + 1) (D.put (.int .i64 x) (.slice (lits .i64 (posK xs k x ++ [(k : Int)])) [])) := by
  have hk : WideAt.IsKeyLit (.int .i64 x) := mapLaw.key (keyOf_int_mk Tryz.underlying3 hw)
  refine ⟨h.1.put _ _, fun y => ?_⟩
  by_cases hy : y = x
  · subst hy
    rw [posK_same hx, has_put_same h.1 hk, atKey_put_same h.1 hk, rowOf_pos (by simp)]
    simp
  · have hne : Lit.int .i64 y ≠ .int .i64 x := fun e => hy (by cases e; rfl)
    rw [posK_other (fun e => hy (by rw [← hx, e])), has_put_other hne, atKey_put_other hne]
    exact h.2 y

/-- .. and nothing at nought. -/
def HD (xs : List Int) (D : DataW H) : Prop :=
  ∀ x : Int, Maps.has D (.int .i64 x) = decide (x ≠ 0 ∧ posK xs 4 x ≠ []) ∧ (x ≠ 0 → ∀ zd, posK xs 4 x ≠ [] → D.atKey (.int .i64 x) zd = .slice (lits .i64 (posK xs 4 x)) [])

end

theorem groups_map {H : Type} {w : World} {P : Program} {k : TypeId} {base : Nat} {e : TypeId} {q : IntKind} {b n : Nat} {D : DataW H} (h : w.ownsGroups P k base e q b n D) : w.ownsMap P k (rowElem w base e q) b n D := by
  obtain ⟨es, clock, hb, F, hs, hD, _⟩ := h
  exact ⟨es, clock, hb, F, hs, hD⟩
theorem groups_base {H : Type} {w : World} {P : Program} {k : TypeId} {base : Nat} {e : TypeId} {q : IntKind} {b n : Nat} {D : DataW H} (h : w.ownsGroups P k base e q b n D) : b < base := by
  obtain ⟨es, clock, hb, F, hs, hD, h1, _⟩ := h
  exact h1

/-- What stands at a key that is there does not hang on what would be told if it were not. -/
theorem atKey_has {H : Type} {D : DataW H} {k : Lit} (h : Maps.has D k = true) (z z' : DataW H) : D.atKey k z = D.atKey k z' := by
  cases D <;> try (simp [Maps.has] at h; done)
  rename_i es
  simp only [Maps.has] at h
  simp only [DataW.atKey]
  obtain ⟨p, hp, hk⟩ := List.any_eq_true.1 h
  cases hf : es.find? (fun p => p.1.sameKey k) with
  | some q => rfl
  | none => exact absurd hk (by simpa using List.find?_eq_none.1 hf p hp)

/-- What the elements of the map are: lists of numbers of the call's own. -/
def RowsIn {H : Type} (R : Value → Option (DataW H × List MemPlace)) (w : World) (base : Nat) : Prop :=
  ∀ v y, R v = some y → ∃ zs, w.ownsInts base 3 .i64 v zs ∧ y.1 = rowDatum .i64 v zs

set_option maxHeartbeats 1000000 in
set_option maxRecDepth 100000 in
theorem holdersOf_four (H : Type) (a : Option Addr) (st : Int) (xs : List Int) (w : World) (hA : IntAt w a 4 xs) (hi : ∀ x ∈ xs, (Lit.int .i64 x).wf = true) :
    Calls Tryz.prog 71 #[.agg #[.slice a 4 4, .int .i64 st]] w fun e w' =>
      e = .returned (.map (some (w.heap.size + 1))) ∧ Below w.heap.size w w' ∧ ∃ (R : Value → Option (DataW H × List MemPlace)) (D : DataW H), w'.ownsMap Tryz.prog 3 R (w.heap.size + 1) 4 D ∧ RowsIn R w' (w.heap.size + 2) ∧ HD xs D := by
  obtain ⟨hl, _, h0 | ⟨b, o, rfl, hc⟩⟩ := hA
  · omega
  have hmm := @run_makeMap Tryz.prog
  have HC : Hid (∀ i, i < 4 → w.cell? ⟨b, o + i, none⟩ = some (I (xs.getD i 0))) := hc
  have HI : Hid (∀ x ∈ xs, (Lit.int .i64 x).wf = true) := hi
  have HL : Hid (xs.length = 4) := hl
  have hblt : b < w.heap.size := World.block_lt_of_cell? w _ (hc 0 (by omega))
  clear hc hi hl
  obtain ⟨i0, hin, hz0, hz1, hz2⟩ := info_parts infoInt
  go_enter Tryz.func71, Tryz.ntmps71
  go_wp2
  go_loopw [15] (fun i wr => ∃ k : Nat, k ≤ 4 ∧ i = .int .i64 (k : Int) ∧ ∃ D : DataW H, wr.ownsGroups Tryz.prog 3 (w.heap.size + 2) 3 .i64 (w.heap.size + 1) k D ∧ GD xs k D ∧ Below w.heap.size w wr ∧ w.heap.size + 2 ≤ wr.heap.size)
    (fun i _ => 4 - (intOf i).toNat)
  case atStart =>
    refine ⟨0, Nat.zero_le _, rfl, .map [], ?_, GD_zero _, ((Below.refl _ _).alloc (Nat.le_refl _) _).alloc (by simp) _, by simp⟩
    have := World.ownsGroups_made (H := H) (w.alloc (Obj.cells #[Value.slice (some { block := b, off := o }) 4 4, Value.int IntKind.i64 st] 41)) Tryz.prog 3 3 .i64
    simpa using this
  case round =>
    obtain ⟨k, hk, rfl, D, hown, hgd, hnx, hws⟩ := hrel
    obtain ⟨x, hx⟩ : ∃ x, xs.getD k 0 = x := ⟨_, rfl⟩
    have HX : Hid (xs.getD k 0 = x) := hx
    have HGD : Hid (GD xs k D) := hgd
    by_cases hlt : k < 4
    · have hcx : wr.cell? ⟨b, o + k, none⟩ = some (I x) := by rw [← hx]; exact (hnx.cell (by exact hblt)).trans (HC.out k hlt)
      have hwx : (Lit.int .i64 x).wf = true := HI.out x (by
        have hk4 : k < xs.length := by have := HL.out; omega
        rw [← hx, show xs.getD k 0 = xs[k] by simp [List.getD, hk4]]
        exact List.getElem_mem _)
      have hkey := keyOf_int_mk Tryz.underlying3 hwx
      clear hx hgd
      go_wp2_with (first
        | (at_lookup; refine wpList_lookup_groups _ rfl _ _ 124 rfl 3 28 3 .i64 mapLaw Tryz.underlying124 (zeroInts _) (w.heap.size + 2) (w.heap.size + 1) k _ rfl hown (by unfold maxLen; omega) _ _ rfl hkey ?_; intro v zs hat hoi hzl hback)
        | (at_builtin; refine wpList_append_own_at _ rfl _ _ 28 rfl (w.heap.size + 2) 3 i0 (.int .i64 0) 1 8 Tryz.underlying28 hin hz0 hz1 hz2 rfl (by decide) _ _ _ rfl (hoi.1.alloc _) ⟨wr.heap.size, 0, none⟩ 1 1 [.int .i64 k] rfl rfl (cell_one_new _ _ _) (ints_oneCell .i64 [(k : Int)]) (by unfold maxLen; omega) (by omega) (by simp; omega) ?_; intro v' w1 hown' hgrow hnil hloc)
        | (at_mapUpdate; refine wpList_mapUpdate_back _ rfl _ _ _ 124 rfl hback rfl rfl rfl ((World.grownBy_alloc _ _ _).trans hgrow) (hoi.appended hown' (WalkArith.wf_i64 (by omega))) (by simp; omega) (hloc.imp id (fun h => ⟨_, h, by simp⟩)) ?_; intro w2 hown2 hgrow2)
        | go_in)
      have hall := (World.grownBy_alloc wr _ _).trans hgrow
      go_roundw
      case rel =>
        refine ⟨k + 1, by omega, by go_num, _, hown2, ?_, hnx.groups hoi hall hgrow2 hnx.size (by omega) (by omega), Nat.le_trans hws (Nat.le_trans hall.size hgrow2.size)⟩
        show GD xs (k + 1) (D.put (.int .i64 x) (rowDatum .i64 v' (zs ++ [(k : Int)])))
        rw [(hoi.appended hown' (WalkArith.wf_i64 (by omega))).datum_pos (by simp), GD_zs HGD.out hat hoi]
        exact GD_step HGD.out HX.out hwx
      case measure => simp [intOf]; omega
    · obtain rfl : k = 4 := by omega
      have hkey0 : keyOf Tryz.prog 3 (.int .i64 0) = some (.int .i64 0) := keyOf_int_mk Tryz.underlying3 (by decide)
      go_wp2_with (first
        | (at_delete; refine wpList_delete_own _ rfl _ _ 124 3 rfl 28 mapLaw Tryz.underlying124 _ (w.heap.size + 1) 4 D rfl (groups_map hown) _ _ rfl hkey0 ?_; intro w1 hown1 hturn1)
        | go_in)
      go_ret
      have hg1 := hturn1.grown
      refine ⟨rfl, hnx.grown hg1 hnx.size (fun j hj => by cases hj; omega), _, _, hown1, ?_, ?_⟩
      · intro v y hy
        obtain ⟨zs, ho, rfl⟩ := rowElem_inv hy
        refine ⟨zs, ho.kept hg1 ?_, rfl⟩
        cases hv : v.ownBlock with
        | none => exact .inl rfl
        | some g =>
          refine .inr fun e1 => ?_
          have := (ho.1.lt g hv).1
          cases e1
          omega
      · intro x
        have hg := HGD.out.2 x
        by_cases h0 : x = 0
        · subst h0
          refine ⟨by rw [has_del_same]; simp, fun h => absurd rfl h⟩
        · have hne : Lit.int .i64 x ≠ .int .i64 0 := fun e => h0 (by cases e; rfl)
          rw [has_del_other hne, hg.1]
          refine ⟨by simp [h0], fun _ zd hp => ?_⟩
          rw [atKey_del_other hne, atKey_has (by rw [hg.1]; simpa using hp) zd .nil, hg.2, rowOf_pos hp]
end Go.Proofs.YthdpicmcgofghasGreat
