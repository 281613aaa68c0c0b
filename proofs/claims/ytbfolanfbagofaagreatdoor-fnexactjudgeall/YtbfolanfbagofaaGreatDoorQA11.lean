/- Texts joined: SpecMem, Hold, Range3, ImplRows. -/
import Derived.Test.YtbfolanfbagofaaGreatDoorQA10
import Derived.Test.YtbfolanfbagofaaGreatDoorQA08
import Derived.Test.YtbfolanfbagofaaGreatDoorRows
import Derived.Test.YtbfolanfbagofaaGreatDoorQA01
import Derived.WalkKit
import Derived.ProofKit
import Derived.WalkSmall
import Derived.WalkSpells
import Derived.OpenShut
import Derived.Maps.OwnRows
import Derived.Maps.OwnSet
import Derived.Maps.RangeWalk
import Derived.Maps.Views
import Derived.Test.YtbfolanfbagofaaGreatDoorQA02
set_option maxHeartbeats 4000000
set_option maxRecDepth 100000
namespace Go.Proofs.YtbfolanfbagofaaGreatDoor
section
open Go.ChangeShapes Go.WideShapes Go.ChangeAt Go.RowKit
abbrev MemV (wa : Option Addr) (m wc : Nat) (da : Option Addr) (n dc : Nat) : Value := .agg #[.slice wa m wc, .slice da n dc]
def DescGood (d : DK) : Prop := descOkM d.sq d.st d.en d.es d.cd d.rn = true
def WordGood (fs : List Int) (ds : List DK) (i : Nat) : Prop :=
 wordOkM (fs.getD (i * 3) 0) (fs.getD (i * 3 + 1) 0) (fs.getD (i * 3 + 2) 0) ds.length = true ∧
 (0 < fs.getD (i * 3 + 1) 0 → (entM (dk ds (fs.getD (i * 3 + 1) 0 - 1).toNat).es (dk ds (fs.getD (i * 3 + 1) 0 - 1).toNat).en i).2.2.2 = true ∧ (dk ds (fs.getD (i * 3 + 1) 0 - 1).toNat).sq = fs.getD (i * 3 + 2) 0)
def MemGood (fs : List Int) (m : Nat) (ds : List DK) : Prop := m = 20 ∧ (1 ≤ ds.length ∧ ds.length ≤ 4) ∧ (∀ i, i < ds.length → DescGood (dk ds i)) ∧ ∀ i, i < m → WordGood fs ds i
def CapAt (w : World) (a : Option Addr) (n : Nat) (ds : List DK) : Prop :=
 n = 0 ∨ ∃ b o, a = some ⟨b, o, none⟩ ∧ ∀ i, i < n → ∃ ea ec, w.cell? ⟨b, o + i * 5 + 2, none⟩ = some (.slice ea (dk ds i).en ec) ∧ (dk ds i).en ≤ ec
theorem CapAt.below {w w' : World} {a : Option Addr} {n : Nat} {ds : List DK} (h : CapAt w a n ds) {B : Nat} (hb : Below B w w') (hB : w.heap.size ≤ B) : CapAt w' a n ds := by
 rcases h with h | ⟨b, o, h1, h2⟩
 · exact .inl h
 · refine .inr ⟨b, o, h1, fun i hi => ?_⟩
   obtain ⟨ea, ec, h3, h4⟩ := h2 i hi
   exact ⟨ea, ec, (hb.cell (Nat.lt_of_lt_of_le (World.block_lt_of_cell? w _ h3) hB)).trans h3, h4⟩
theorem Box.two {w : World} {b : Nat} {T : TypeId} {x y : Value} (h : Box w b #[x, y] T) : w.cell? ⟨b, 0, none⟩ = some x ∧ w.cell? ⟨b, 1, none⟩ = some y ∧ w.frozen? ⟨b, 0, none⟩ = false ∧ w.frozen? ⟨b, 1, none⟩ = false :=
 ⟨h.cell 0, h.cell 1, h.frozen 0, h.frozen 1⟩
theorem below7 {B : Nat} {w w' : World} (h : Below B w w') : ∀ n, Below B w (w'.drewN n)
 | 0 => h
 | n + 1 => (below7 h n).drew
theorem wordOkM_t {n t s th : Int} (h : wordOkM n t s th = true) : 0 ≤ t ∧ (0 < t → t ≤ th) := by
 unfold wordOkM at h
 split at h
 · omega
 · simp only [Bool.and_eq_true] at h
   have := inB_val h.2.1
   omega
theorem specMemOk_any (wa : Option Addr) (m wc : Nat) (fs : List Int) (da : Option Addr) (n dc : Nat) (ds : List DK) (w : World) (h1 : TripAt w wa m fs) (h2 : DescAt w da n ds) :
   Calls Tryz.prog 63 #[MemV wa m wc da n dc] w fun e w' => ∃ ok, (e = .returned (.bool ok) ∧ (ok = true ↔ MemGood fs m ds)) ∧ Below w.heap.size w w' := by
 have hm := h1.2.1
 have hn := h2.2.1
 have HL : Hid (ds.length = n) := h2.1
 obtain ⟨W, hW⟩ : ∃ W, w.alloc (.cells #[.slice wa m wc, .slice da n dc] 38) = W := ⟨_, rfl⟩
 have hb0 : Below w.heap.size w W := by rw [← hW]; exact (Below.refl _ w).alloc (Nat.le_refl _) _
 have BX : Hid (Box W w.heap.size #[.slice wa m wc, .slice da n dc] 38) := by rw [← hW]; exact box_of w _ _
 have H1 : Hid (TripAt W wa m fs) := h1.below hb0 (Nat.le_refl _)
 have H2 : Hid (DescAt W da n ds) := h2.below hb0 (Nat.le_refl _)
 have HB0 : Hid (Below w.heap.size w W) := hb0
 have HW : Hid (w.alloc (.cells #[.slice wa m wc, .slice da n dc] 38) = W) := hW
 clear h1 h2 hW hb0
 by_cases hm20 : m = 20
 case neg =>
   have hne : ((m : Int) != 20) = true := by simp; omega
   have HNO : Hid (¬ MemGood fs m ds) := fun h => hm20 h.1
   clear hm20
   go_enter Tryz.func63, Tryz.ntmps63
   go_wp2
   go_ret
   exact ⟨false, ⟨rfl, by simp [HNO.out]⟩, by rw [HW.out]; exact HB0.out⟩
 subst hm20
 rcases hI : inB (n : Int) 1 4 with _ | _
 · have HI : Hid (inB (n : Int) 1 4 = false) := hI
   have HNO : Hid (¬ MemGood fs 20 ds) := fun h => by
     have h2 := h.2.1
     rw [HL.out] at h2
     rw [inB_yes (by omega)] at hI
     cases hI
   clear hI
   go_enter Tryz.func63, Tryz.ntmps63
   go_wp2_with fail
   refine (l1In_g _ 1 4 _).mono ?_
   rintro e w1 ⟨rfl, rfl⟩
   rw [HI.out]
   go_wp2
   go_ret
   exact ⟨false, ⟨rfl, by simp [HNO.out]⟩, by rw [HW.out]; exact HB0.out⟩
 have hn4 := inB_val hI
 have HI : Hid (inB (n : Int) 1 4 = true) := hI
 clear hI
 go_enter Tryz.func63, Tryz.ntmps63
 go_wp2_with fail
 refine (l1In_g _ 1 4 _).mono ?_
 rintro e w1 ⟨rfl, hw1⟩
 rw [HI.out]
 obtain rfl : W = w1 := by rw [hw1]; exact HW.out.symm
 clear hw1
 go_wp2
 go_loopw [3] (fun i wr => ∃ k : Nat, k ≤ n ∧ i = .int .i64 (k : Int) ∧ (∀ i, i < k → DescGood (dk ds i)) ∧ Below W.heap.size W wr) (fun i _ => n - (intOf i).toNat)
 case atStart => exact ⟨0, Nat.zero_le _, rfl, fun i h => by omega, Below.refl _ _⟩
 case round =>
   obtain ⟨k, hk, rfl, hall, hb⟩ := hrel
   have HALL : Hid (∀ i, i < k → DescGood (dk ds i)) := hall
   have HB : Hid (Below W.heap.size W wr) := hb
   have BR : Hid (Box wr w.heap.size #[.slice wa 20 wc, .slice da n dc] 38) := BX.out.below hb BX.out.lt
   have c0 := BR.out.cell 0
   have c1 := BR.out.cell 1
   simp only [List.getElem?_toArray, List.getElem?_cons_zero, List.getElem?_cons_succ] at c0 c1
   clear hall hb
   by_cases hlt : k < n
   · have hk0 : (0 : Int) ≤ (k : Int) := by omega
     have hk1 : (k : Int) < (n : Int) := by omega
     rcases (H2.out.below HB.out (Nat.le_refl _)).2.2 with h0 | ⟨q1, o2, rfl, g2⟩
     · omega
     obtain ⟨ea, ec, ra, rc, h5, h6, h7⟩ := g2 k hlt
     obtain ⟨f0, f1, f2, f3, f4⟩ := h5
     have H6 : Hid (TripAt wr ea (dk ds k).en (dk ds k).es) := h6
     obtain ⟨D, hD⟩ : ∃ D, dk ds k = D := ⟨_, rfl⟩
     have HD : Hid (dk ds k = D) := hD
     rw [hD] at H6 f0 f1 f2 f3 f4
     obtain ⟨dsq, dst, den, des, dcd, drn, drs⟩ := D
     dsimp only at H6 f0 f1 f2 f3 f4
     clear g2 h6 h7 hD
     go_wp2_with fail
     refine (specDescOk_any dsq dst ea den ec des dcd ra drn rc _ H6.out).mono ?_
     rintro e w2 ⟨rfl, hb2⟩
     have HB2 : Hid (Below W.heap.size W w2) := HB.out.trans (hb2.mono HB.out.size)
     clear hb2 c0 c1 f0 f1 f2 f3 f4
     rcases hok : descOkM dsq dst den des dcd drn with _ | _
     · have HNO : Hid (¬ MemGood fs 20 ds) := fun h => by
         have h3 := h.2.2.1 k (by rw [HL.out]; exact hlt)
         rw [HD.out] at h3
         unfold DescGood at h3
         rw [hok] at h3
         cases h3
       clear hok
       go_wp2
       go_ret
       exact ⟨false, ⟨rfl, by simp [HNO.out]⟩, HB0.out.trans (HB2.out.mono HB0.out.size)⟩
     · have HOK : Hid (DescGood (dk ds k)) := by show DescGood _; rw [HD.out]; exact hok
       clear hok
       go_wp2
       exact ⟨⟨k + 1, by omega, by go_num, fun i hi => by
         by_cases e : i = k
         · rw [e]; exact HOK.out
         · exact HALL.out i (by omega), HB2.out⟩, by simp [intOf]; omega⟩
   · obtain rfl : k = n := by omega
     have HDS : Hid (∀ i, i < ds.length → DescGood (dk ds i)) := by show ∀ i, _; rw [HL.out]; exact HALL.out
     clear HALL
     go_wp2
     go_loopw [4] (fun i wr => ∃ k : Nat, k ≤ 20 ∧ i = .int .i64 (k : Int) ∧ (∀ i, i < k → WordGood fs ds i) ∧ Below W.heap.size W wr) (fun i _ => 20 - (intOf i).toNat)
     case atStart => exact ⟨0, Nat.zero_le _, rfl, fun i h => by omega, HB.out⟩
     case round =>
       obtain ⟨i, hi, rfl, hall, hb⟩ := hrel
       clear BR c0 c1 HB
       have HALL : Hid (∀ j, j < i → WordGood fs ds j) := hall
       have HB : Hid (Below W.heap.size W wr) := hb
       have BR : Hid (Box wr w.heap.size #[.slice wa 20 wc, .slice da k dc] 38) := BX.out.below hb BX.out.lt
       have c0 := BR.out.cell 0
       have c1 := BR.out.cell 1
       simp only [List.getElem?_toArray, List.getElem?_cons_zero, List.getElem?_cons_succ] at c0 c1
       have l0 := BR.out.lt
       clear hall hb
       by_cases hli : i < 20
       · have hi0 : (0 : Int) ≤ (i : Int) := by omega
         have hi1 : (i : Int) < 20 := by omega
         rcases (H1.out.below HB.out (Nat.le_refl _)).2.2 with h0 | ⟨p1, o1, rfl, g1⟩
         · omega
         have e1 := g1 (i * 3) (by omega)
         have e2 := g1 (i * 3 + 1) (by omega)
         have e3 := g1 (i * 3 + 2) (by omega)
         have HWG : Hid (WordGood fs ds i ↔ (wordOkM (fs.getD (i * 3) 0) (fs.getD (i * 3 + 1) 0) (fs.getD (i * 3 + 2) 0) k = true ∧ (0 < fs.getD (i * 3 + 1) 0 → (entM (dk ds (fs.getD (i * 3 + 1) 0 - 1).toNat).es (dk ds (fs.getD (i * 3 + 1) 0 - 1).toNat).en i).2.2.2 = true ∧ (dk ds (fs.getD (i * 3 + 1) 0 - 1).toNat).sq = fs.getD (i * 3 + 2) 0))) := by
           show _ ↔ _
           unfold WordGood
           rw [HL.out]
         obtain ⟨x, hx⟩ : ∃ x, fs.getD (i * 3) 0 = x := ⟨_, rfl⟩
         obtain ⟨t, ht⟩ : ∃ y, fs.getD (i * 3 + 1) 0 = y := ⟨_, rfl⟩
         obtain ⟨s, hs⟩ : ∃ z, fs.getD (i * 3 + 2) 0 = z := ⟨_, rfl⟩
         rw [hx, ht, hs] at HWG
         rw [hx] at e1
         rw [ht, ← Nat.add_assoc] at e2
         rw [hs, ← Nat.add_assoc] at e3
         have HNG : Hid (¬ WordGood fs ds i → ¬ MemGood fs 20 ds) := fun h g => h (g.2.2.2 i hli)
         have HYG : Hid (WordGood fs ds i → ∀ j, j < i + 1 → WordGood fs ds j) := fun h j hj => by
           by_cases e : j = i
           · rw [e]; exact h
           · exact HALL.out j (by omega)
         clear g1 hx ht hs
         go_wp2_with fail
         refine (specWordOk_any x t s (k : Int) _).mono ?_
         rintro e w3 ⟨rfl, hb3⟩
         have hbx : Below wr.heap.size wr (wr.alloc (.cells #[.int .i64 x, .int .i64 t, .int .i64 s] 125)) := (Below.refl _ _).alloc (Nat.le_refl _) _
         have hb23 : Below wr.heap.size wr w3 := hbx.trans (hb3.mono hbx.size)
         have HB3 : Hid (Below W.heap.size W w3) := HB.out.trans (hb23.mono HB.out.size)
         have X3 : Hid (Box w3 wr.heap.size #[.int .i64 x, .int .i64 t, .int .i64 s] 125) := (box_of wr _ _).below hb3 (by simp)
         have B3 : Hid (Box w3 w.heap.size #[.slice (some ⟨p1, o1, none⟩) 20 wc, .slice da k dc] 38) := BR.out.below hb23 BR.out.lt
         obtain ⟨x0, x1, x2, _, _, _⟩ := X3.out.three
         obtain ⟨b3, hb3e⟩ : ∃ b3, wr.heap.size = b3 := ⟨_, rfl⟩
         rw [hb3e] at x0 x1 x2 X3 ⊢
         clear hb3 hbx hb23 e1 e2 e3 c0 c1 l0 hb3e BR
         rcases hok : wordOkM x t s (k : Int) with _ | _
         · have HNO : Hid (¬ MemGood fs 20 ds) := HNG.out (fun h => by
             have := (HWG.out.1 h).1
             rw [hok] at this
             cases this)
           clear hok HNG HYG
           go_wp2
           go_ret
           exact ⟨false, ⟨rfl, by simp [HNO.out]⟩, HB0.out.trans (HB3.out.mono HB0.out.size)⟩
         have HOK : Hid (wordOkM x t s (k : Int) = true) := hok
         have htv := wordOkM_t hok
         clear hok
         by_cases ht : 0 < t
         case neg =>
           have ht' : decide (0 < t) = false := by simpa using ht
           have HG : Hid (WordGood fs ds i) := HWG.out.2 ⟨HOK.out, fun h => absurd h ht⟩
           clear ht
           go_wp2
           exact ⟨⟨i + 1, by omega, by go_num, HYG.out HG.out, HB3.out⟩, by simp [intOf]; omega⟩
         obtain ⟨j, rfl⟩ : ∃ j : Nat, t = (j : Int) + 1 := ⟨(t - 1).toNat, by omega⟩
         have hj0 : (0 : Int) ≤ (j : Int) := by omega
         have hj1 : (j : Int) < (k : Int) := by have := htv.2 ht; omega
         rcases (H2.out.below HB3.out (Nat.le_refl _)).2.2 with h0 | ⟨q1, o2, rfl, g2⟩
         · omega
         obtain ⟨ea, ec, ra, rc, h5, h6, h7⟩ := g2 j (by omega)
         obtain ⟨f0, f1, f2, f3, f4⟩ := h5
         have H6 : Hid (TripAt w3 ea (dk ds j).en (dk ds j).es) := h6
         have H5 : Hid (Five w3 q1 (o2 + j * 5) (dk ds j) ea ec ra rc) := ⟨f0, f1, f2, f3, f4⟩
         have HWG2 : Hid (WordGood fs ds i ↔ ((entM (dk ds j).es (dk ds j).en i).2.2.2 = true ∧ (dk ds j).sq = s)) := by
           show _ ↔ _
           rw [HWG.out, show ((j : Int) + 1 - 1).toNat = j by omega]
           exact ⟨fun h => h.2 ht, fun h => ⟨HOK.out, fun _ => h⟩⟩
         obtain ⟨D, hD⟩ : ∃ D, dk ds j = D := ⟨_, rfl⟩
         rw [hD] at HWG2 H6 H5 f0 f1 f2 f3 f4
         obtain ⟨r, hr⟩ : ∃ r, entM D.es D.en i = r := ⟨_, rfl⟩
         rw [hr] at HWG2
         have HR : Hid (entM D.es D.en i = r) := hr
         obtain ⟨r0, r1, r2, r3⟩ := r
         obtain ⟨dsq, dst, den, des, dcd, drn, drs⟩ := D
         dsimp only at HWG2 H6 f0 f1 f2 f3 f4 HR
         have c0 := B3.out.cell 0
         have c1 := B3.out.cell 1
         simp only [List.getElem?_toArray, List.getElem?_cons_zero, List.getElem?_cons_succ] at c0 c1
         clear g2 h6 h7 hD hr HWG
         go_wp2_with fail
         refine (specEntries_any dsq dst ea den ec des dcd ra drn rc i _ H6.out).mono ?_
         rintro e w4 ⟨rfl, hb4⟩
         rw [HR.out]
         dsimp only
         have HB4 : Hid (Below W.heap.size W w4) := HB3.out.trans (hb4.mono HB3.out.size)
         obtain ⟨x0', x1', x2', _, _, _⟩ := (X3.out.below hb4 X3.out.lt).three
         have c0' := (B3.out.below hb4 B3.out.lt).cell 0
         have c1' := (B3.out.below hb4 B3.out.lt).cell 1
         simp only [List.getElem?_toArray, List.getElem?_cons_zero, List.getElem?_cons_succ] at c0' c1'
         obtain ⟨y0, y1, y2, y3, y4⟩ := H5.out.below hb4 (Nat.le_refl _)
         dsimp only at y0 y1 y2 y3 y4
         have l1 : b3 < w4.heap.size := (X3.out.below hb4 X3.out.lt).lt
         have l2 : w.heap.size < w4.heap.size := (B3.out.below hb4 B3.out.lt).lt
         have l3 : q1 < w4.heap.size := World.block_lt_of_cell? w4 _ y0
         have HB5 : Hid (Below W.heap.size W (w4.alloc (.cells #[.int .i64 r0, .int .i64 r1, .int .i64 r2] 161))) := HB4.out.alloc HB4.out.size _
         clear hb4 x0 x1 x2 c0 c1 f0 f1 f2 f3 f4
         rcases r3 with _ | _
         · have HNO : Hid (¬ MemGood fs 20 ds) := HNG.out (fun h => by have := (HWG2.out.1 h).1; cases this)
           clear HNG HYG HWG2
           go_wp2
           go_quiet (fail)
           go_wp2
           go_ret
           exact ⟨false, ⟨rfl, by simp [HNO.out]⟩, below7 (HB0.out.trans (HB5.out.mono HB0.out.size)) nq⟩
         · by_cases hsq : dsq = s
           · have hsq' : (dsq != s) = false := by simp [hsq]
             have HG : Hid (WordGood fs ds i) := HWG2.out.2 ⟨rfl, hsq⟩
             clear hsq HNG HWG2
             go_wp2
             go_quiet (fail)
             go_wp2
             exact ⟨⟨i + 1, by omega, by go_num, HYG.out HG.out, below7 HB5.out nq⟩, by simp [intOf]; omega⟩
           · have hsq' : (dsq != s) = true := by simp [hsq]
             have HNO : Hid (¬ MemGood fs 20 ds) := HNG.out (fun h => hsq (HWG2.out.1 h).2)
             clear hsq HNG HYG HWG2
             go_wp2
             go_quiet (fail)
             go_wp2
             go_ret
             exact ⟨false, ⟨rfl, by simp [HNO.out]⟩, below7 (HB0.out.trans (HB5.out.mono HB0.out.size)) nq⟩
       · obtain rfl : i = 20 := by omega
         have HG : Hid (MemGood fs 20 ds) := ⟨rfl, by rw [HL.out]; omega, HDS.out, HALL.out⟩
         go_wp2
         go_ret
         exact ⟨true, ⟨rfl, by simp [HG.out]⟩, HB0.out.trans (HB.out.mono HB0.out.size)⟩
end
section
open Go.ChangeShapes Go.WideShapes Go.ChangeAt Go.RowKit Go.Maps
theorem mapLaw : Keyed Tryz.prog 3 := int_keyed Tryz.underlying3
theorem zeroInts (w : World) : (zeroValue 28).run Tryz.prog w = .ok (.slice none 0 0) w := by kernel_rfl
def posK (xs : List Int) (k : Nat) (x : Int) : List Int := ((List.range k).filter fun i => xs.getD i 0 == x).map fun (i : Nat) => (i : Int)
theorem posK_zero (xs : List Int) (x : Int) : posK xs 0 x = [] := rfl
theorem posK_same {xs : List Int} {k : Nat} {x : Int} (h : xs.getD k 0 = x) : posK xs (k + 1) x = posK xs k x ++ [(k : Int)] := by
 simp only [posK, List.range_succ, List.filter_append, List.map_append]
 rw [List.filter_cons_of_pos (by simpa using h)]
 rfl
theorem posK_other {xs : List Int} {k : Nat} {x : Int} (h : xs.getD k 0 ≠ x) : posK xs (k + 1) x = posK xs k x := by
 simp only [posK, List.range_succ, List.filter_append, List.map_append]
 rw [List.filter_cons_of_neg (by simpa using h)]
 simp
section
variable {H : Type}
def rowOf : List Int → DataW H
 | [] => .nil
 | z :: r => .slice (lits .i64 (z :: r)) []
theorem rowOf_pos {l : List Int} (h : l ≠ []) : rowOf (H := H) l = .slice (lits .i64 l) [] := by
 cases l with
 | nil => exact absurd rfl h
 | cons z r => rfl
def GD (xs : List Int) (k : Nat) (D : DataW H) : Prop :=
 IsMap D ∧ ∀ x : Int, Maps.has D (.int .i64 x) = decide (posK xs k x ≠ []) ∧ D.atKey (.int .i64 x) .nil = rowOf (posK xs k x)
theorem lits_inj {a b : List Int} (h : lits (H := H) .i64 a = lits .i64 b) : a = b := by
 unfold lits at h
 exact (List.map_inj_right (fun _ _ hxy => by cases hxy; rfl)).1 h
theorem GD_zero (xs : List Int) : GD (H := H) xs 0 (.map []) := ⟨⟨[], rfl⟩, fun _ => ⟨rfl, rfl⟩⟩
theorem GD_zs {xs : List Int} {k : Nat} {D : DataW H} {x : Int} {w : World} {base : Nat} {v : Value} {zs : List Int} (h : GD xs k D) (hat : D.atKey (.int .i64 x) .nil = rowDatum .i64 v zs) (hoi : w.ownsInts base 3 .i64 v zs) : zs = posK xs k x := by
 rw [(h.2 x).2] at hat
 rcases hoi.datum (H := H) with ⟨h1, h2⟩ | h1
 · rw [h1] at hat
   rw [h2]
   cases hp : posK xs k x with
   | nil => rfl
   | cons z r => rw [hp] at hat; cases hat
 · rw [h1] at hat
   cases hp : posK xs k x with
   | nil => rw [hp] at hat; cases hat
   | cons z r =>
     rw [hp] at hat
     simp only [rowOf, DataW.slice.injEq] at hat
     exact (lits_inj hat.1).symm
theorem GD_step {xs : List Int} {k : Nat} {D : DataW H} {x : Int} (h : GD xs k D) (hx : xs.getD k 0 = x) (hw : (Lit.int .i64 x).wf = true) : GD xs (k + 1) (D.put (.int .i64 x) (.slice (lits .i64 (posK xs k x ++ [(k : Int)])) [])) := by
 have hk : WideAt.IsKeyLit (.int .i64 x) := mapLaw.key (keyOf_int_mk Tryz.underlying3 hw)
 refine ⟨h.1.put _ _, fun y => ?_⟩
 by_cases hy : y = x
 · subst hy
   rw [posK_same hx, has_put_same h.1 hk, atKey_put_same h.1 hk, rowOf_pos (by simp)]
   simp
 · have hne : Lit.int .i64 y ≠ .int .i64 x := fun e => hy (by cases e; rfl)
   rw [posK_other (fun e => hy (by rw [← hx, e])), has_put_other hne, atKey_put_other hne]
   exact h.2 y
def HD (xs : List Int) (D : DataW H) : Prop :=
 ∀ x : Int, Maps.has D (.int .i64 x) = decide (x ≠ 0 ∧ posK xs 4 x ≠ []) ∧ (x ≠ 0 → ∀ zd, posK xs 4 x ≠ [] → D.atKey (.int .i64 x) zd = .slice (lits .i64 (posK xs 4 x)) [])
end
theorem groups_map {H : Type} {w : World} {P : Program} {k : TypeId} {base : Nat} {e : TypeId} {q : IntKind} {b n : Nat} {D : DataW H} (h : w.ownsGroups P k base e q b n D) : w.ownsMap P k (rowElem w base e q) b n D := by
 obtain ⟨es, clock, hb, F, hs, hD, _⟩ := h
 exact ⟨es, clock, hb, F, hs, hD⟩
theorem atKey_has {H : Type} {D : DataW H} {k : Lit} (h : Maps.has D k = true) (z z' : DataW H) : D.atKey k z = D.atKey k z' := by
 cases D <;> try (simp [Maps.has] at h; done)
 rename_i es
 simp only [Maps.has] at h
 simp only [DataW.atKey]
 obtain ⟨p, hp, hk⟩ := List.any_eq_true.1 h
 cases hf : es.find? (fun p => p.1.sameKey k) with
 | some q => rfl
 | none => exact absurd hk (by simpa using List.find?_eq_none.1 hf p hp)
def RowsIn {H : Type} (R : Value → Option (DataW H × List MemPlace)) (w : World) (base : Nat) : Prop :=
 ∀ v y, R v = some y → ∃ zs, w.ownsInts base 3 .i64 v zs ∧ y.1 = rowDatum .i64 v zs
theorem row_slice {w : World} {base : Nat} {v : Value} {zs : List Int} (h : w.ownsInts base 3 .i64 v zs) : ∃ p : Option Addr × Nat × Nat, v = .slice p.1 p.2.1 p.2.2 := by
 rcases h.1.2 with ⟨rfl, _⟩ | ⟨g, cap, cur, rfl, _⟩
 · exact ⟨(none, 0, 0), rfl⟩
 · exact ⟨(some ⟨g, 0, none⟩, zs.length, cap), rfl⟩
theorem row_len {w : World} {base : Nat} {a : Option Addr} {n c : Nat} {zs : List Int} (h : w.ownsInts base 3 .i64 (.slice a n c) zs) : n = zs.length := by
 rcases h.1.2 with ⟨h1, h2⟩ | ⟨g, cap, cur, h1, _⟩
 · simp only [Value.slice.injEq] at h1
   omega
 · simp only [Value.slice.injEq] at h1
   exact h1.2.1
theorem row_intAt {w : World} {base : Nat} {a : Option Addr} {n c : Nat} {zs : List Int} (h : w.ownsInts base 3 .i64 (.slice a n c) zs) (h0 : zs ≠ []) (hn : zs.length ≤ 4) : ∃ g, a = some ⟨g, 0, none⟩ ∧ w.cell? ⟨g, 0, none⟩ = some (I (zs.getD 0 0)) ∧ g < w.heap.size ∧ base ≤ g := by
 have hl := row_len h
 have h00 : 0 < zs.length := List.length_pos_iff.2 h0
 rcases h.1.2 with ⟨h1, h2⟩ | ⟨g, cap, cur, h1, h3⟩
 · omega
 · simp only [Value.slice.injEq] at h1
   obtain ⟨rfl, rfl, rfl⟩ := h1
   have h4 := own_intAt h.1 (by omega)
   have h5 := h.1.lt g rfl
   refine ⟨g, rfl, ?_, h5.2, h5.1⟩
   rcases h4.2.2 with h6 | ⟨b, o, h6, h7⟩
   · omega
   · simp only [Option.some.injEq, Addr.mk.injEq] at h6
     obtain ⟨rfl, rfl, _⟩ := h6
     exact h7 0 h00
theorem step_row {H : Type} {xs : List Int} {D : DataW H} {R : Value → Option (DataW H × List MemPlace)} {w0 : World} {base : Nat} {x : Int} {v : Value} {y : DataW H × List MemPlace} (hR : RowsIn R w0 base) (hD : HD xs D) (hv : R v = some y) (hat : ∀ zd, D.atKey (.int .i64 x) zd = y.1) :
   x ≠ 0 ∧ posK xs 4 x ≠ [] ∧ w0.ownsInts base 3 .i64 v (posK xs 4 x) := by
 have hh := has_true_of_atKey hat
 rw [(hD x).1] at hh
 obtain ⟨h0, hp⟩ := of_decide_eq_true hh
 obtain ⟨zs, ho, hy⟩ := hR v y hv
 have h1 := (hD x).2 h0 .nil hp
 rw [hat, hy] at h1
 refine ⟨h0, hp, ?_⟩
 rcases ho.datum (H := H) with ⟨h2, _⟩ | h2
 · rw [h2] at h1; cases h1
 · rw [h2] at h1
   simp only [DataW.slice.injEq] at h1
   rw [← lits_inj h1.1]
   exact ho
section
variable {H : Type} {P : Program} (w : World) {ops : Array Oper} {rest : List Oper} {o : Oper} {a : Act} {Q : Exit → Act → World → Prop}
theorem wpList_next_rows (hg : o.guard = none) (it : Operand) (hop : o.op = Op.next it false) (R : Value → Option (DataW H × List MemPlace)) {w0 : World} {base : Nat} (hR : RowsIn R w0 base) {xs : List Int}
   (b r n : Nat) (D : DataW H) (hD : HD xs D) (left : Lit → Bool) (cnt : Nat) (hit : a.eval it = .pointer (some ⟨r, 0, none⟩)) (h : w.ranges Tryz.prog 3 R b r n D left cnt)
   (hDone : cnt = 0 → (∀ kl, left kl = false) → wpList Tryz.prog ops Q rest (a.put o.dst (.tuple #[.bool false])) w)
   (hMore : ∀ (x : Int) (p : Option Addr) (l c : Nat) (w' : World) (cnt' : Nat), left (.int .i64 x) = true → x ≠ 0 → posK xs 4 x ≠ [] → w0.ownsInts base 3 .i64 (.slice p l c) (posK xs 4 x) → w'.ranges Tryz.prog 3 R b r n D (fun z => left z && !z.sameKey (.int .i64 x)) cnt' → cnt' < cnt →
     w.grownBy w' (some r) → w'.heap.size = w.heap.size → (Instr.entry (.pointer (some ⟨r, 0, none⟩))).run Tryz.prog w' = .ok (.tuple #[.int .i64 x, .slice p l c]) w' → wpList Tryz.prog ops Q rest (a.put o.dst (.tuple #[.bool true, .int .i64 x, .slice p l c])) w') :
   wpList Tryz.prog ops Q (o :: rest) a w :=
 wpList_next_ranges w hg it hop 3 mapLaw R (Value.int .i64) (fun p : Option Addr × Nat × Nat => Value.slice p.1 p.2.1 p.2.2) (fun key kl hkey => by obtain ⟨x, rfl, _⟩ := Maps.keyOf_int_inv Tryz.underlying3 hkey; exact ⟨x, rfl⟩)
   (fun v y hv => by obtain ⟨zs, ho, _⟩ := hR v y hv; exact row_slice ho)
   b r n D left cnt hit h hDone (fun x c kl y w' cnt' hkey hlk hv hat hrg hlt hgr hsz hen => by
     obtain ⟨x', ex, rfl, hwx⟩ := Maps.keyOf_int_inv Tryz.underlying3 hkey
     cases ex
     obtain ⟨h1, h2, h3⟩ := step_row hR hD hv hat
     exact hMore x c.1 c.2.1 c.2.2 w' cnt' hlk h1 h2 h3 hrg hlt hgr hsz hen)
end
theorem sameKey_int (x y : Int) : (Lit.int .i64 x).sameKey (.int .i64 y) = decide (x = y) := by
 by_cases h : x = y
 · subst h
   simp [Lit.sameKey]
 · rw [Maps.sameKey_ne (fun e => h (by cases e; rfl))]
   simp [h]
def Says (e : Ending) (p : Prop) : Prop := ∃ ok : Bool, e = .returned (.bool ok) ∧ (ok = true ↔ p)
def Good (xs : List Int) (x : Int) : Prop := (1 ≤ x ∧ x ≤ 6) ∧ (posK xs 4 x).length ≤ 1
def OkRows (xs : List Int) (st : Int) : Prop := xs.length = 4 ∧ 0 ≤ st ∧ st ≤ 5 ∧ ∀ x, x ≠ 0 → posK xs 4 x ≠ [] → Good xs x
end
end Go.Proofs.YtbfolanfbagofaaGreatDoor
