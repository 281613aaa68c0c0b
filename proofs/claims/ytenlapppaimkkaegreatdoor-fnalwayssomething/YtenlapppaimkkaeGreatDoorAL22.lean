/- Texts joined: ImplCom, EqualI, Finds, ImplAllow, ImplTurn, ImplAfter, AfterDone. -/
import Derived.Test.YtenlapppaimkkaeGreatDoorAL20
import Derived.Test.YtenlapppaimkkaeGreatDoorAL21
import Derived.Test.YtenlapppaimkkaeGreatDoorAL01
import Derived.Handy
import Derived.Test.YtenlapppaimkkaeGreatDoorAL14
import Derived.Test.YtenlapppaimkkaeGreatDoorAL15
/- impl.comingsOf at any op that fits. -/
namespace Go.Proofs.YtenlapppaimkkaeGreatDoor
open Go.ChangeShapes Go.WideShapes Go.ChangeAt Go.RowKit Go.Maps

theorem atK_nat (xs : List Int) (j : Nat) : atK xs (j : Int) = xs.getD j 0 := by simp [atK]
theorem comAny_1 (p o : Nat) (st : Int) (xs : List Int) (w : World) (hA : IntAt w (some ⟨p, o, none⟩) 4 xs) (hi : ∀ x ∈ xs, (Lit.int .i64 x).wf = true) (k : Int) (hk : 0 ≤ k ∧ k ≤ 3) (v : Int) (hv : 1 ≤ v ∧ v ≤ 6) :
    Calls Tryz.prog 36 #[.agg #[.slice (some ⟨p, o, none⟩) 4 4, .int .i64 st], DeedV 1 k v] w fun e w' => ComSays e w w' (comLL xs st 1 k v) ∧ Below w.heap.size w w' := by
  obtain ⟨j, rfl⟩ : ∃ j : Nat, k = j := ⟨k.toNat, by omega⟩
  have hj : j < 4 := by omega
  rw [show DeedV 1 (j : Int) v = .iface 91 (OpV 1 (j : Int) v) from rfl]
  by_cases h0 : xs.getD j 0 = 0
  · rcases (show keyN xs v < 0 ∨ 0 ≤ keyN xs v by omega) with hq | hq
    · rw [show comLL xs st 1 (j : Int) v = [(0, [])] by rw [comLL, if_pos rfl, atK_nat, if_pos h0, if_pos hq]]
      exact com_1_00 p o j st _ xs w hA hi hj rfl v _ hv rfl h0 hq
    · rw [show comLL xs st 1 (j : Int) v = [(2, [])] by rw [comLL, if_pos rfl, atK_nat, if_pos h0, if_neg (by omega)]]
      exact com_1_01 p o j st _ xs w hA hi hj rfl v _ hv rfl h0 hq
  · rcases (show keyN xs v < 0 ∨ 0 ≤ keyN xs v by omega) with hq | hq
    · rw [show comLL xs st 1 (j : Int) v = [(1, [])] by rw [comLL, if_pos rfl, atK_nat, if_neg h0, if_pos hq]]
      exact com_1_10 p o j st _ xs w hA hi hj rfl v _ hv rfl h0 hq
    · rw [show comLL xs st 1 (j : Int) v = [(1, []), (2, [])] by rw [comLL, if_pos rfl, atK_nat, if_neg h0, if_neg (by omega)]]
      exact com_1_11 p o j st _ xs w hA hi hj rfl v _ hv rfl h0 hq
theorem comAny_2 (p o : Nat) (st : Int) (xs : List Int) (w : World) (hA : IntAt w (some ⟨p, o, none⟩) 4 xs) (hi : ∀ x ∈ xs, (Lit.int .i64 x).wf = true) (k : Int) (hk : 0 ≤ k ∧ k ≤ 3) (v : Int) (hv : 1 ≤ v ∧ v ≤ 6) :
    Calls Tryz.prog 36 #[.agg #[.slice (some ⟨p, o, none⟩) 4 4, .int .i64 st], DeedV 2 k v] w fun e w' => ComSays e w w' (comLL xs st 2 k v) ∧ Below w.heap.size w w' := by
  obtain ⟨j, rfl⟩ : ∃ j : Nat, k = j := ⟨k.toNat, by omega⟩
  have hj : j < 4 := by omega
  rw [show DeedV 2 (j : Int) v = .iface 92 (OpV 2 (j : Int) v) from rfl]
  by_cases h0 : xs.getD j 0 = 0
  · rcases (show keyN xs v < 0 ∨ 0 ≤ keyN xs v by omega) with hq | hq
    · rw [show comLL xs st 2 (j : Int) v = [(3, [])] by rw [comLL, if_neg (by omega), if_pos rfl, atK_nat, if_pos h0, if_pos hq]]
      exact com_2_00 p o j st _ xs w hA hi hj rfl v _ hv rfl h0 hq
    · rw [show comLL xs st 2 (j : Int) v = [(3, []), (2, [])] by rw [comLL, if_neg (by omega), if_pos rfl, atK_nat, if_pos h0, if_neg (by omega)]]
      exact com_2_01 p o j st _ xs w hA hi hj rfl v _ hv rfl h0 hq
  · rcases (show keyN xs v < 0 ∨ 0 ≤ keyN xs v by omega) with hq | hq
    · rw [show comLL xs st 2 (j : Int) v = [(0, [])] by rw [comLL, if_neg (by omega), if_pos rfl, atK_nat, if_neg h0, if_pos hq]]
      exact com_2_10 p o j st _ xs w hA hi hj rfl v _ hv rfl h0 hq
    · by_cases he : keyN xs v = (j : Int)
      · rw [show comLL xs st 2 (j : Int) v = [(2, []), (0, [])] by rw [comLL, if_neg (by omega), if_pos rfl, atK_nat, if_neg h0, if_neg (by omega), if_pos he]]
        exact com_2_11 p o j st _ xs w hA hi hj rfl v _ hv rfl h0 hq he
      · rw [show comLL xs st 2 (j : Int) v = [(2, [])] by rw [comLL, if_neg (by omega), if_pos rfl, atK_nat, if_neg h0, if_neg (by omega), if_neg he]]
        exact com_2_12 p o j st _ xs w hA hi hj rfl v _ hv rfl h0 hq he
theorem comAny_3 (p o : Nat) (st : Int) (xs : List Int) (w : World) (hA : IntAt w (some ⟨p, o, none⟩) 4 xs) (hi : ∀ x ∈ xs, (Lit.int .i64 x).wf = true) (k : Int) (hk : 0 ≤ k ∧ k ≤ 3) :
    Calls Tryz.prog 36 #[.agg #[.slice (some ⟨p, o, none⟩) 4 4, .int .i64 st], DeedV 3 k 0] w fun e w' => ComSays e w w' (comLL xs st 3 k 0) ∧ Below w.heap.size w w' := by
  obtain ⟨j, rfl⟩ : ∃ j : Nat, k = j := ⟨k.toNat, by omega⟩
  have hj : j < 4 := by omega
  rw [show DeedV 3 (j : Int) 0 = .iface 93 (OpV 3 (j : Int) 0) from rfl]
  by_cases h0 : xs.getD j 0 = 0
  · rw [show comLL xs st 3 (j : Int) 0 = [(3, [])] by rw [comLL, if_neg (by omega), if_neg (by omega), if_pos rfl, atK_nat, if_pos h0]]
    exact com_3_0 p o j st _ xs w hA hi hj rfl h0
  · rw [show comLL xs st 3 (j : Int) 0 = [(0, [])] by rw [comLL, if_neg (by omega), if_neg (by omega), if_pos rfl, atK_nat, if_neg h0]]
    exact com_3_1 p o j st _ xs w hA hi hj rfl h0
theorem comAny_4 (p o : Nat) (st : Int) (xs : List Int) (w : World) (hA : IntAt w (some ⟨p, o, none⟩) 4 xs) (hi : ∀ x ∈ xs, (Lit.int .i64 x).wf = true) (k : Int) (hk : 0 ≤ k ∧ k ≤ 3) :
    Calls Tryz.prog 36 #[.agg #[.slice (some ⟨p, o, none⟩) 4 4, .int .i64 st], DeedV 4 k 0] w fun e w' => ComSays e w w' (comLL xs st 4 k 0) ∧ Below w.heap.size w w' := by
  obtain ⟨j, rfl⟩ : ∃ j : Nat, k = j := ⟨k.toNat, by omega⟩
  have hj : j < 4 := by omega
  rw [show DeedV 4 (j : Int) 0 = .iface 94 (OpV 4 (j : Int) 0) from rfl]
  by_cases h0 : xs.getD j 0 = 0
  · rw [show comLL xs st 4 (j : Int) 0 = [(3, [])] by rw [comLL, if_neg (by omega), if_neg (by omega), if_neg (by omega), if_pos rfl, atK_nat, if_pos h0]]
    exact com_4_0 p o j st _ xs w hA hi hj rfl h0
  · rw [show comLL xs st 4 (j : Int) 0 = [(0, [xs.getD j 0])] by rw [comLL, if_neg (by omega), if_neg (by omega), if_neg (by omega), if_pos rfl, atK_nat, if_neg h0]]
    exact com_4_1 p o j st _ xs w hA hi hj rfl h0
theorem comAny_5 (p o : Nat) (st : Int) (xs : List Int) (w : World) (hA : IntAt w (some ⟨p, o, none⟩) 4 xs) (hi : ∀ x ∈ xs, (Lit.int .i64 x).wf = true) (v : Int) (hv : 1 ≤ v ∧ v ≤ 6) :
    Calls Tryz.prog 36 #[.agg #[.slice (some ⟨p, o, none⟩) 4 4, .int .i64 st], DeedV 5 0 v] w fun e w' => ComSays e w w' (comLL xs st 5 0 v) ∧ Below w.heap.size w w' := by
  have hj : (0 : Nat) < 4 := by omega
  rw [show DeedV 5 0 v = .iface 95 (OpV 5 0 v) from rfl]
  rcases (show keyN xs v < 0 ∨ 0 ≤ keyN xs v by omega) with hq | hq
  · rw [show comLL xs st 5 0 v = [(3, [])] by rw [comLL, if_neg (by omega), if_neg (by omega), if_neg (by omega), if_neg (by omega), if_pos rfl, if_pos hq]]
    exact com_5_0 p o 0 st _ xs w hA hi hj rfl v _ hv rfl hq
  · rw [show comLL xs st 5 0 v = [(0, [keyN xs v])] by rw [comLL, if_neg (by omega), if_neg (by omega), if_neg (by omega), if_neg (by omega), if_pos rfl, if_neg (by omega)]]
    exact com_5_1 p o 0 st _ xs w hA hi hj rfl v _ hv rfl hq
theorem comAny_6 (p o : Nat) (st : Int) (xs : List Int) (w : World) (hA : IntAt w (some ⟨p, o, none⟩) 4 xs) (hi : ∀ x ∈ xs, (Lit.int .i64 x).wf = true) (c : Int) :
    Calls Tryz.prog 36 #[.agg #[.slice (some ⟨p, o, none⟩) 4 4, .int .i64 st], DeedV 6 c 0] w fun e w' => ComSays e w w' (comLL xs st 6 c 0) ∧ Below w.heap.size w w' := by
  have hj : (0 : Nat) < 4 := by omega
  rw [show DeedV 6 c 0 = .iface 96 (OpV 6 c 0) from rfl]
  rw [show comLL xs st 6 c 0 = [(0, [cntK xs c 4])] by rw [comLL, if_neg (by omega), if_neg (by omega), if_neg (by omega), if_neg (by omega), if_neg (by omega), if_pos rfl]]
  exact com_6 p o 0 st _ xs w hA hi hj rfl c
theorem comAny_7 (p o : Nat) (st : Int) (xs : List Int) (w : World) (hA : IntAt w (some ⟨p, o, none⟩) 4 xs) (hi : ∀ x ∈ xs, (Lit.int .i64 x).wf = true) :
    Calls Tryz.prog 36 #[.agg #[.slice (some ⟨p, o, none⟩) 4 4, .int .i64 st], DeedV 7 0 0] w fun e w' => ComSays e w w' (comLL xs st 7 0 0) ∧ Below w.heap.size w w' := by
  have hj : (0 : Nat) < 4 := by omega
  rw [show DeedV 7 0 0 = .iface 97 (OpV 7 0 0) from rfl]
  rw [show comLL xs st 7 0 0 = [(0, xs)] by rw [comLL, if_neg (by omega), if_neg (by omega), if_neg (by omega), if_neg (by omega), if_neg (by omega), if_neg (by omega), if_pos rfl]]
  exact com_7 p o 0 st _ xs w hA hi hj rfl
theorem comAny_8 (p o : Nat) (st : Int) (xs : List Int) (w : World) (hA : IntAt w (some ⟨p, o, none⟩) 4 xs) (hi : ∀ x ∈ xs, (Lit.int .i64 x).wf = true) :
    Calls Tryz.prog 36 #[.agg #[.slice (some ⟨p, o, none⟩) 4 4, .int .i64 st], DeedV 8 0 0] w fun e w' => ComSays e w w' (comLL xs st 8 0 0) ∧ Below w.heap.size w w' := by
  have hj : (0 : Nat) < 4 := by omega
  rw [show DeedV 8 0 0 = .iface 98 (OpV 8 0 0) from rfl]
  by_cases h0 : st = 0
  · rw [show comLL xs st 8 0 0 = [(0, [])] by rw [comLL, if_neg (by omega), if_neg (by omega), if_neg (by omega), if_neg (by omega), if_neg (by omega), if_neg (by omega), if_neg (by omega), if_pos rfl, if_pos h0]]
    exact com_8_0 p o 0 st _ xs w hA hi hj rfl h0
  · rw [show comLL xs st 8 0 0 = [(4, [])] by rw [comLL, if_neg (by omega), if_neg (by omega), if_neg (by omega), if_neg (by omega), if_neg (by omega), if_neg (by omega), if_neg (by omega), if_pos rfl, if_neg h0]]
    exact com_8_1 p o 0 st _ xs w hA hi hj rfl h0
theorem comAny_9 (p o : Nat) (st : Int) (xs : List Int) (w : World) (hA : IntAt w (some ⟨p, o, none⟩) 4 xs) (hi : ∀ x ∈ xs, (Lit.int .i64 x).wf = true) :
    Calls Tryz.prog 36 #[.agg #[.slice (some ⟨p, o, none⟩) 4 4, .int .i64 st], DeedV 9 0 0] w fun e w' => ComSays e w w' (comLL xs st 9 0 0) ∧ Below w.heap.size w w' := by
  have hj : (0 : Nat) < 4 := by omega
  rw [show DeedV 9 0 0 = .iface 99 (OpV 9 0 0) from rfl]
  by_cases h0 : st = 0
  · rw [show comLL xs st 9 0 0 = [(4, [])] by rw [comLL, if_neg (by omega), if_neg (by omega), if_neg (by omega), if_neg (by omega), if_neg (by omega), if_neg (by omega), if_neg (by omega), if_neg (by omega), if_pos rfl, if_pos h0]]
    exact com_9_0 p o 0 st _ xs w hA hi hj rfl h0
  · by_cases h5 : st = 5
    · rw [show comLL xs st 9 0 0 = [(4, [])] by rw [comLL, if_neg (by omega), if_neg (by omega), if_neg (by omega), if_neg (by omega), if_neg (by omega), if_neg (by omega), if_neg (by omega), if_neg (by omega), if_pos rfl, if_neg h0, if_pos h5]]
      exact com_9_5 p o 0 st _ xs w hA hi hj rfl h0 h5
    · rw [show comLL xs st 9 0 0 = [(0, [])] by rw [comLL, if_neg (by omega), if_neg (by omega), if_neg (by omega), if_neg (by omega), if_neg (by omega), if_neg (by omega), if_neg (by omega), if_neg (by omega), if_pos rfl, if_neg h0, if_neg h5]]
      exact com_9_1 p o 0 st _ xs w hA hi hj rfl h0 h5
theorem comAny_10 (p o : Nat) (st : Int) (xs : List Int) (w : World) (hA : IntAt w (some ⟨p, o, none⟩) 4 xs) (hi : ∀ x ∈ xs, (Lit.int .i64 x).wf = true) (v : Int) (hv : 1 ≤ v ∧ v ≤ 6) :
    Calls Tryz.prog 36 #[.agg #[.slice (some ⟨p, o, none⟩) 4 4, .int .i64 st], DeedV 10 0 v] w fun e w' => ComSays e w w' (comLL xs st 10 0 v) ∧ Below w.heap.size w w' := by
  have hj : (0 : Nat) < 4 := by omega
  rw [show DeedV 10 0 v = .iface 100 (OpV 10 0 v) from rfl]
  by_cases h5 : st = 5
  · rcases (show keyN xs v < 0 ∨ 0 ≤ keyN xs v by omega) with hq | hq
    · rw [show comLL xs st 10 0 v = [(3, [])] by rw [comLL, if_neg (by omega), if_neg (by omega), if_neg (by omega), if_neg (by omega), if_neg (by omega), if_neg (by omega), if_neg (by omega), if_neg (by omega), if_neg (by omega), if_pos h5, if_pos hq]]
      exact com_10_0 p o 0 st _ xs w hA hi hj rfl v _ hv rfl h5 hq
    · rw [show comLL xs st 10 0 v = [(0, [keyN xs v])] by rw [comLL, if_neg (by omega), if_neg (by omega), if_neg (by omega), if_neg (by omega), if_neg (by omega), if_neg (by omega), if_neg (by omega), if_neg (by omega), if_neg (by omega), if_pos h5, if_neg (by omega)]]
      exact com_10_1 p o 0 st _ xs w hA hi hj rfl v _ hv rfl h5 hq
  · rw [show comLL xs st 10 0 v = [(4, [])] by rw [comLL, if_neg (by omega), if_neg (by omega), if_neg (by omega), if_neg (by omega), if_neg (by omega), if_neg (by omega), if_neg (by omega), if_neg (by omega), if_neg (by omega), if_neg h5]]
    rcases (show keyN xs v < 0 ∨ 0 ≤ keyN xs v by omega) with hq | hq
    · exact com_10_n p o 0 st _ xs w hA hi hj rfl v _ hv rfl h5 hq
    · exact com_10_m p o 0 st _ xs w hA hi hj rfl v _ hv rfl h5 hq

theorem comAny (p o : Nat) (st kind k v : Int) (xs : List Int) (w : World) (hA : IntAt w (some ⟨p, o, none⟩) 4 xs) (hi : ∀ x ∈ xs, (Lit.int .i64 x).wf = true) (hop : OpGood kind k v) :
    Calls Tryz.prog 36 #[.agg #[.slice (some ⟨p, o, none⟩) 4 4, .int .i64 st], DeedV kind k v] w fun e w' => ComSays e w w' (comLL xs st kind k v) ∧ Below w.heap.size w w' := by
  obtain ⟨hk, hkey, hval⟩ := hop
  unfold KeyGood at hkey
  unfold ValGood at hval
  rcases kinds hk with rfl | rfl | rfl | rfl | rfl | rfl | rfl | rfl | rfl | rfl
  · exact comAny_1 p o st xs w hA hi k (by omega) v (by omega)
  · exact comAny_2 p o st xs w hA hi k (by omega) v (by omega)
  · obtain rfl : v = 0 := by omega
    exact comAny_3 p o st xs w hA hi k (by omega)
  · obtain rfl : v = 0 := by omega
    exact comAny_4 p o st xs w hA hi k (by omega)
  · obtain rfl : k = 0 := by omega
    exact comAny_5 p o st xs w hA hi v (by omega)
  · obtain rfl : v = 0 := by omega
    exact comAny_6 p o st xs w hA hi k
  · obtain rfl : v = 0 := by omega
    obtain rfl : k = 0 := by omega
    exact comAny_7 p o st xs w hA hi
  · obtain rfl : v = 0 := by omega
    obtain rfl : k = 0 := by omega
    exact comAny_8 p o st xs w hA hi
  · obtain rfl : v = 0 := by omega
    obtain rfl : k = 0 := by omega
    exact comAny_9 p o st xs w hA hi
  · obtain rfl : k = 0 := by omega
    exact comAny_10 p o st xs w hA hi v (by omega)
theorem com_mem (xs : List Int) (st kind k v code : Int) (ys : List Int) (hst : 0 ≤ st ∧ st ≤ 5) (hk : 1 ≤ kind ∧ kind ≤ 10) :
    (code, ys) ∈ comLL xs st kind k v ↔ ((code ≠ 0 ∧ ys = [] ∧ FailsM xs st kind k v code) ∨ (code = 0 ∧ DoneM xs st kind k v ∧ listM xs kind k v = ys)) := by
  rcases kinds hk with rfl | rfl | rfl | rfl | rfl | rfl | rfl | rfl | rfl | rfl
  · exact com_mem_1 xs st k v code ys hst
  · exact com_mem_2 xs st k v code ys hst
  · exact com_mem_3 xs st k v code ys hst
  · exact com_mem_4 xs st k v code ys hst
  · exact com_mem_5 xs st k v code ys hst
  · exact com_mem_6 xs st k v code ys hst
  · exact com_mem_7 xs st k v code ys hst
  · exact com_mem_8 xs st k v code ys hst
  · exact com_mem_9 xs st k v code ys hst
  · exact com_mem_10 xs st k v code ys hst
end Go.Proofs.YtenlapppaimkkaeGreatDoor

/- slices.Equal at ints and impl.ResSame, walked at any lists. -/
namespace Go.Proofs.YtenlapppaimkkaeGreatDoor
open Go.ChangeShapes Go.WideShapes Go.ChangeAt Go.RowKit

set_option maxHeartbeats 1000000 in
theorem equalI_any (a1 a2 : Option Addr) (n1 n2 c1 c2 : Nat) (xs ys : List Int) (w : World) (h1 : IntAt w a1 n1 xs) (h2 : IntAt w a2 n2 ys) :
    Calls Tryz.prog 75 #[.slice a1 n1 c1, .slice a2 n2 c2] w fun e w' => e = .returned (.bool (decide (xs = ys))) ∧ Below w.heap.size w w' := by
  have H1 : Hid (IntAt w a1 n1 xs) := h1
  have H2 : Hid (IntAt w a2 n2 ys) := h2
  have L1 : Hid (xs.length = n1) := h1.1
  have L2 : Hid (ys.length = n2) := h2.1
  have b1 := h1.2.1
  have b2 := h2.2.1
  obtain ⟨B, hB⟩ : ∃ B, decide (xs = ys) = B := ⟨_, rfl⟩
  rw [hB]
  have HB : Hid (decide (xs = ys) = B) := hB
  clear h1 h2 hB
  by_cases hn : n1 = n2
  · subst hn
    go_enter Tryz.func75, Tryz.ntmps75
    go_wp2
    go_loopw [13] (fun i wr => ∃ k : Nat, k ≤ n1 ∧ i = .int .i64 k ∧ xs.take k = ys.take k ∧ Below w.heap.size w wr) (fun i _ => n1 - (intOf i).toNat)
    case atStart => exact ⟨0, Nat.zero_le _, rfl, rfl, Below.refl _ _⟩
    case round =>
      obtain ⟨k, hk1, rfl, ht, hb⟩ := hrel
      have HT : Hid (xs.take k = ys.take k) := ht
      clear ht
      by_cases hlt1 : k < n1
      · rcases (H1.out.below hb (Nat.le_refl _)).2.2 with h | ⟨p1, o1, rfl, g1⟩
        · omega
        rcases (H2.out.below hb (Nat.le_refl _)).2.2 with h | ⟨p2, o2, rfl, g2⟩
        · omega
        obtain ⟨x, hx⟩ : ∃ x, xs.getD k 0 = x := ⟨_, rfl⟩
        obtain ⟨y, hy⟩ : ∃ y, ys.getD k 0 = y := ⟨_, rfl⟩
        have e1 := g1 k hlt1
        have e2 := g2 k hlt1
        rw [hx] at e1
        rw [hy] at e2
        have HX : Hid (xs.getD k 0 = x) := hx
        have HY : Hid (ys.getD k 0 = y) := hy
        clear g1 g2 hx hy
        go_wp2
        go_region
        go_wp2
        · have hd : (x != y) = true := by assumption
          go_ret
          refine ⟨?_, hb.drew⟩
          have e : xs ≠ ys := fun e => by rw [← HX.out, ← HY.out, e] at hd; simp at hd
          rw [← HB.out]
          simp [e]
        · have hd : (x != y) = false := by assumption
          have l1 := L1.out
          have l2 := L2.out
          exact ⟨⟨k + 1, by omega, by go_num, take_nextI (by omega) (by omega) HT.out (by rw [HX.out, HY.out]; simpa using hd), hb.drew⟩, by simp [intOf]; omega⟩
      · obtain rfl : k = n1 := by omega
        go_wp2
        go_ret
        refine ⟨?_, hb⟩
        have l1 := L1.out
        have l2 := L2.out
        have e : xs = ys := by
          have e0 := HT.out
          rwa [List.take_of_length_le (by omega), List.take_of_length_le (by omega)] at e0
        rw [← HB.out]
        simp [e]
  · have hne : ((n1 : Int) != (n2 : Int)) = true := by simp; omega
    have hxy : xs ≠ ys := fun e => by have l1 := L1.out; have l2 := L2.out; rw [e] at l1; omega
    have HX : Hid (xs ≠ ys) := hxy
    clear hxy
    go_enter Tryz.func75, Tryz.ntmps75
    go_wp2
    go_ret
    refine ⟨?_, Below.refl _ _⟩
    rw [← HB.out]
    simp [HX.out]

set_option maxHeartbeats 1000000 in
theorem implResSame_any (a1 a2 : Option Addr) (n1 n2 c1 c2 : Nat) (k1 k2 : Int) (xs ys : List Int) (w : World) (h1 : IntAt w a1 n1 xs) (h2 : IntAt w a2 n2 ys) :
    Calls Tryz.prog 38 #[ResV k1 a1 n1 c1, ResV k2 a2 n2 c2] w fun e w' => e = .returned (.bool (decide (k1 = k2 ∧ xs = ys))) ∧ Below w.heap.size w w' := by
  have H1 : Hid (IntAt w a1 n1 xs) := h1
  have H2 : Hid (IntAt w a2 n2 ys) := h2
  obtain ⟨B, hB⟩ : ∃ B, decide (k1 = k2 ∧ xs = ys) = B := ⟨_, rfl⟩
  rw [hB]
  have HB : Hid (decide (k1 = k2 ∧ xs = ys) = B) := hB
  clear h1 h2 hB
  by_cases hk : k1 = k2
  · subst hk
    go_enter Tryz.func38, Tryz.ntmps38
    go_wp2_with fail
    have hb0 : Below w.heap.size w ((w.alloc (.cells #[.int .i64 k1, .slice a1 n1 c1] 33)).alloc (.cells #[.int .i64 k1, .slice a2 n2 c2] 33)) := ((Below.refl _ w).alloc (Nat.le_refl _) _).alloc (by simp) _
    refine (equalI_any a1 a2 n1 n2 c1 c2 xs ys _ (H1.out.below hb0 (Nat.le_refl _)) (H2.out.below hb0 (Nat.le_refl _))).mono ?_
    rintro e w1 ⟨rfl, hb1⟩
    have hb2 := hb0.trans (hb1.mono (by simp; omega))
    clear hb0 hb1
    by_cases hx : xs = ys
    · rw [show decide (xs = ys) = true from decide_eq_true hx]
      have HX : Hid (xs = ys) := hx
      clear hx
      go_wp2
      go_ret
      exact ⟨by rw [← HB.out]; simp [HX.out], hb2⟩
    · rw [show decide (xs = ys) = false from decide_eq_false hx]
      have HX : Hid (¬ xs = ys) := hx
      clear hx
      go_wp2
      go_ret
      exact ⟨by rw [← HB.out]; simp [HX.out], hb2⟩
  · have hk' : (k1 == k2) = false := by simpa using hk
    have HK : Hid (¬ k1 = k2) := hk
    clear hk
    go_enter Tryz.func38, Tryz.ntmps38
    go_wp2
    go_ret
    refine ⟨?_, ((Below.refl _ _).alloc (Nat.le_refl _) _).alloc (by simp) _⟩
    rw [← HB.out]
    simp [HK.out]
end Go.Proofs.YtenlapppaimkkaeGreatDoor

/- slices.ContainsFunc over what may come, with the function that Allowed makes, walked. -/
namespace Go.Proofs.YtenlapppaimkkaeGreatDoor
open Go.ChangeShapes Go.WideShapes Go.ChangeAt Go.RowKit

set_option maxHeartbeats 1000000 in
set_option maxRecDepth 100000 in
theorem clos_any (b : Nat) (code code2 : Int) (a a2 : Option Addr) (n n2 c c2 : Nat) (xs ys : List Int) (w : World) (hb : b < w.heap.size) (h1 : w.cell? ⟨b, 0, none⟩ = some (.int .i64 code2)) (h2 : w.cell? ⟨b, 1, none⟩ = some (.slice a2 n2 c2)) (hx : IntAt w a n xs) (hy : IntAt w a2 n2 ys) :
    Calls Tryz.prog 37 #[ResV code a n c, .pointer (some ⟨b, 0, none⟩)] w fun e w' => e = .returned (.bool (decide (code = code2 ∧ xs = ys))) ∧ Below w.heap.size w w' := by
  have HX : Hid (IntAt w a n xs) := hx
  have HY : Hid (IntAt w a2 n2 ys) := hy
  obtain ⟨B, hB⟩ : ∃ B, decide (code = code2 ∧ xs = ys) = B := ⟨_, rfl⟩
  have HB : Hid (decide (code = code2 ∧ xs = ys) = B) := hB
  rw [hB]
  clear hx hy hB
  go_enter Tryz.func37, Tryz.ntmps37
  go_wp2_with fail
  have hb0 : Below w.heap.size w (w.alloc (.cells #[.int .i64 code, .slice a n c] 33)) := (Below.refl _ w).alloc (Nat.le_refl _) _
  refine (implResSame_any a a2 n n2 c c2 code code2 xs ys _ (HX.out.below hb0 (Nat.le_refl _)) (HY.out.below hb0 (Nat.le_refl _))).mono ?_
  rintro e w1 ⟨rfl, hb1⟩
  have hb2 := hb0.trans (hb1.mono (by simp))
  rw [HB.out]
  clear hb0 hb1
  go_wp2
  go_ret
  exact ⟨rfl, hb2⟩

theorem cellsC_at {L : List (Int × Value)} {k : Nat} {r : Int × Value} (h : L[k]? = some r) : (cellsC L)[k * 2]? = some (.int .i64 r.1) ∧ (cellsC L)[k * 2 + 1]? = some r.2 := by
  induction L generalizing k with
  | nil => simp at h
  | cons x L ih =>
    cases k with
    | zero => simp only [List.getElem?_cons_zero, Option.some.injEq] at h; subst h; simp [cellsC]
    | succ k =>
      have h' : L[k]? = some r := by simpa using h
      have := ih h'
      simp only [cellsC, List.flatMap_cons, List.cons_append, List.nil_append] at this ⊢
      rw [show (k + 1) * 2 = k * 2 + 1 + 1 by omega, List.getElem?_cons_succ, List.getElem?_cons_succ, List.getElem?_cons_succ, List.getElem?_cons_succ]
      exact this
theorem com_cells {w : World} {base : Nat} {v : Value} {L : List (Int × Value)} (h : ComAt w base v L) {k : Nat} {r : Int × Value} (hr : L[k]? = some r) :
    ∃ g cap, v = .slice (some ⟨g, 0, none⟩) L.length cap ∧ g < w.heap.size ∧ w.cell? ⟨g, k * 2, none⟩ = some (.int .i64 r.1) ∧ w.cell? ⟨g, k * 2 + 1, none⟩ = some r.2 := by
  have hk : k < L.length := (List.getElem?_eq_some_iff.1 hr).1
  rcases h.2 with ⟨_, h0⟩ | ⟨g, cap, cur, rfl, _, hg, hcap, _, hsz, ht⟩
  · omega
  have hlt : g < w.heap.size := (Array.getElem?_eq_some_iff.1 hg).1
  obtain ⟨c0, c1⟩ := cellsC_at hr
  rw [← ht] at c0 c1
  have e0 : cur[k * 2]? = some (.int .i64 r.1) := by
    rw [List.getElem?_take] at c0
    split at c0
    · simpa using c0
    · cases c0
  have e1 : cur[k * 2 + 1]? = some r.2 := by
    rw [List.getElem?_take] at c1
    split at c1
    · simpa using c1
    · cases c1
  exact ⟨g, cap, rfl, hlt, by simp [World.cell?, hg, e0], by simp [World.cell?, hg, e1]⟩
theorem TellsAs.len {w : World} : ∀ {L : List (Int × Value)} {LL : List (Int × List Int)}, TellsAs w L LL → L.length = LL.length
  | [], [], _ => rfl
  | _ :: _, _ :: _, h => by simp [TellsAs.len h.2]
  | [], _ :: _, h => h.elim
  | _ :: _, [], h => h.elim
theorem TellsAs.at {w : World} : ∀ {L : List (Int × Value)} {LL : List (Int × List Int)}, TellsAs w L LL → ∀ {k : Nat} {q : Int × List Int}, LL[k]? = some q → ∃ a n c, L[k]? = some (q.1, .slice a n c) ∧ IntAt w a n q.2
  | [], [], _, k, q, h => by simp at h
  | r :: _, _ :: _, h, 0, q, hq => by
    simp only [List.getElem?_cons_zero, Option.some.injEq] at hq
    subst hq
    obtain ⟨⟨h1, a, n, c, h2, h3⟩, _⟩ := h
    exact ⟨a, n, c, by simp only [List.getElem?_cons_zero, Option.some.injEq]; rw [← h1, ← h2], h3⟩
  | _ :: _, _ :: _, h, k + 1, q, hq => by
    simp only [List.getElem?_cons_succ] at hq ⊢
    exact TellsAs.at h.2 hq
  | [], _ :: _, h, _, _, _ => h.elim
  | _ :: _, [], h, _, _, _ => h.elim

/-- The function that Allowed makes: it says whether what it is given is what lies at b. -/
abbrev Clos (b : Nat) : Value := .func (.func 37) #[] #[.pointer (some ⟨b, 0, none⟩)]

theorem com_slice {w : World} {base : Nat} {v : Value} {L : List (Int × Value)} (h : ComAt w base v L) : ∃ a c, v = .slice a L.length c := by
  rcases h.2 with ⟨rfl, h0⟩ | ⟨g, cap, cur, rfl, _⟩
  · exact ⟨none, 0, by rw [h0]⟩
  · exact ⟨_, cap, rfl⟩
theorem no_more {α : Type} {LL : List α} {k : Nat} {q y : α} (h : y ∉ LL.take k) (hq : LL[k]? = some q) (hne : q ≠ y) : y ∉ LL.take (k + 1) := by
  rw [List.take_add_one, hq]
  simp only [Option.toList_some, List.mem_append, List.mem_singleton, not_or]
  exact ⟨h, fun e => hne e.symm⟩

set_option maxHeartbeats 1000000 in
set_option maxRecDepth 100000 in
theorem indexFunc_any (base b : Nat) (code : Int) (a2 : Option Addr) (n2 c2 : Nat) (ys : List Int) (vv : Value) (L : List (Int × Value)) (LL : List (Int × List Int)) (w : World) (hL : L.length ≤ 4) (hc : ComAt w base vv L) (ht : TellsAs w L LL)
    (hb : b < w.heap.size) (h1 : w.cell? ⟨b, 0, none⟩ = some (.int .i64 code)) (h2 : w.cell? ⟨b, 1, none⟩ = some (.slice a2 n2 c2)) (hy : IntAt w a2 n2 ys) :
    Calls Tryz.prog 73 #[vv, Clos b] w fun e w' => ∃ r : Int, e = .returned (.int .i64 r) ∧ (0 ≤ r ↔ (code, ys) ∈ LL) ∧ Below w.heap.size w w' := by
  have HC : Hid (ComAt w base vv L) := hc
  have HT : Hid (TellsAs w L LL) := ht
  have H1 : Hid (w.cell? ⟨b, 0, none⟩ = some (.int .i64 code)) := h1
  have H2 : Hid (w.cell? ⟨b, 1, none⟩ = some (.slice a2 n2 c2)) := h2
  have HY : Hid (IntAt w a2 n2 ys) := hy
  have HLL : Hid (L.length = LL.length) := ht.len
  obtain ⟨av, cv, rfl⟩ := com_slice hc
  obtain ⟨n, hn⟩ : ∃ n, L.length = n := ⟨_, rfl⟩
  rw [hn] at hL HLL
  have HN : Hid (L.length = n) := hn
  rw [hn]
  clear hc ht h1 h2 hy hn
  go_enter Tryz.func73, Tryz.ntmps73
  go_wp2
  go_loopw [8] (fun i wr => ∃ k : Nat, k ≤ n ∧ i = .int .i64 k ∧ (code, ys) ∉ LL.take k ∧ Below w.heap.size w wr) (fun i _ => n - (intOf i).toNat)
  case atStart => exact ⟨0, Nat.zero_le _, rfl, by simp, Below.refl _ _⟩
  case round =>
    obtain ⟨k, hk, rfl, hno, hbr⟩ := hrel
    have HNO : Hid ((code, ys) ∉ LL.take k) := hno
    clear hno
    by_cases hlt : k < n
    · obtain ⟨q, hq⟩ : ∃ q, LL[k]? = some q := ⟨_, List.getElem?_eq_getElem (by rw [← HLL.out]; exact hlt)⟩
      obtain ⟨a, m, c, hLk, hat⟩ := HT.out.at hq
      obtain ⟨g, cap, e, hg, g0, g1⟩ := com_cells HC.out hLk
      cases e
      have e0 : _ = _ := (hbr.cell (show g < w.heap.size from hg)).trans g0
      have e1 : _ = _ := (hbr.cell (show g < w.heap.size from hg)).trans g1
      have hk0 : (0 : Int) ≤ (k : Int) := by omega
      have hk1 : (k : Int) < (n : Int) := by omega
      have HAT : Hid (IntAt w a m q.2) := hat
      have HQ : Hid (LL[k]? = some q) := hq
      clear g0 g1 hat hq hLk
      go_wp2_with fail
      have hlb : b < wr.heap.size := Nat.lt_of_lt_of_le hb hbr.size
      refine (clos_any b q.1 code a a2 m n2 c c2 q.2 ys _ hlb ((hbr.cell (show b < w.heap.size from hb)).trans H1.out) ((hbr.cell (show b < w.heap.size from hb)).trans H2.out) (HAT.out.below hbr (Nat.le_refl _)) (HY.out.below hbr (Nat.le_refl _))).mono ?_
      rintro e w1 ⟨rfl, hb1⟩
      have hb2 := hbr.trans (hb1.mono hbr.size)
      clear hb1 e0 e1
      by_cases hh : q.1 = code ∧ q.2 = ys
      · rw [show decide (q.1 = code ∧ q.2 = ys) = true from decide_eq_true hh]
        have HH : Hid ((code, ys) ∈ LL) := by
          have e : q = (code, ys) := by rw [← hh.1, ← hh.2]
          rw [← e]
          exact List.mem_of_getElem? HQ.out
        clear hh
        go_wp2
        go_ret
        exact ⟨_, rfl, ⟨fun _ => HH.out, fun _ => hk0⟩, hb2⟩
      · rw [show decide (q.1 = code ∧ q.2 = ys) = false from decide_eq_false hh]
        have HH : Hid (q ≠ (code, ys)) := fun e => hh (by rw [e]; exact ⟨rfl, rfl⟩)
        clear hh
        go_wp2
        exact ⟨⟨k + 1, by omega, by go_num, no_more HNO.out HQ.out HH.out, hb2⟩, by simp [intOf]; omega⟩
    · obtain rfl : k = n := by omega
      go_wp2
      go_ret
      refine ⟨_, rfl, ?_, hbr⟩
      have h := HNO.out
      rw [HLL.out, List.take_length] at h
      simp [h]

set_option maxHeartbeats 1000000 in
set_option maxRecDepth 100000 in
theorem containsFunc_any (base b : Nat) (code : Int) (a2 : Option Addr) (n2 c2 : Nat) (ys : List Int) (vv : Value) (L : List (Int × Value)) (LL : List (Int × List Int)) (w : World) (hL : L.length ≤ 4) (hc : ComAt w base vv L) (ht : TellsAs w L LL)
    (hb : b < w.heap.size) (h1 : w.cell? ⟨b, 0, none⟩ = some (.int .i64 code)) (h2 : w.cell? ⟨b, 1, none⟩ = some (.slice a2 n2 c2)) (hy : IntAt w a2 n2 ys) :
    Calls Tryz.prog 35 #[vv, Clos b] w fun e w' => e = .returned (.bool (decide ((code, ys) ∈ LL))) ∧ Below w.heap.size w w' := by
  have HI : Hid (Calls Tryz.prog 73 #[vv, Clos b] w fun e w' => ∃ r : Int, e = .returned (.int .i64 r) ∧ (0 ≤ r ↔ (code, ys) ∈ LL) ∧ Below w.heap.size w w') := indexFunc_any base b code a2 n2 c2 ys vv L LL w hL hc ht hb h1 h2 hy
  obtain ⟨B, hB⟩ : ∃ B, decide ((code, ys) ∈ LL) = B := ⟨_, rfl⟩
  have HB : Hid (decide ((code, ys) ∈ LL) = B) := hB
  rw [hB]
  obtain ⟨av, cv, rfl⟩ := com_slice hc
  clear hc ht h1 h2 hy hB hL
  go_enter Tryz.func35, Tryz.ntmps35
  go_wp2_with fail
  refine HI.out.mono ?_
  rintro e w1 ⟨r, rfl, hr, hb1⟩
  have HR : Hid (0 ≤ r ↔ (code, ys) ∈ LL) := hr
  clear hr
  go_wp2
  go_ret
  refine ⟨?_, hb1⟩
  rw [← HB.out, decide_eq_decide.2 HR.out.symm]
  rfl
end Go.Proofs.YtenlapppaimkkaeGreatDoor

/- impl.Allowed, walked. -/
namespace Go.Proofs.YtenlapppaimkkaeGreatDoor
open Go.ChangeShapes Go.WideShapes Go.ChangeAt Go.RowKit Go.Maps

/-- The boxes of the three arguments. -/
theorem allow_boxes {w W0 w' : World} {a1 a2 : Option Addr} {n1 c1 n2 c2 : Nat} {st kind k v code : Int} (hW : W0 = ((w.alloc (.cells #[.slice a1 n1 c1, .int .i64 st] 26)).alloc (.cells #[.int .i64 kind, .int .i64 k, .int .i64 v] 28)).alloc (.cells #[.int .i64 code, .slice a2 n2 c2] 33))
    (hb : Below (w.heap.size + 1 + 1 + 1) W0 w') :
    (w'.cell? ⟨w.heap.size, 0, none⟩ = some (.slice a1 n1 c1) ∧ w'.cell? ⟨w.heap.size, 1, none⟩ = some (.int .i64 st) ∧ w'.cell? ⟨w.heap.size + 1, 0, none⟩ = some (.int .i64 kind) ∧ w'.cell? ⟨w.heap.size + 1, 1, none⟩ = some (.int .i64 k) ∧ w'.cell? ⟨w.heap.size + 1, 2, none⟩ = some (.int .i64 v) ∧ w'.cell? ⟨w.heap.size + 1 + 1, 0, none⟩ = some (.int .i64 code) ∧ w'.cell? ⟨w.heap.size + 1 + 1, 1, none⟩ = some (.slice a2 n2 c2)) ∧ Below w.heap.size w w' := by
  subst hW
  have h := args_at w _ _ _ _ _ _ w' hb
  exact ⟨⟨h.1 0 _ rfl, h.1 1 _ rfl, h.2.1 0 _ rfl, h.2.1 1 _ rfl, h.2.1 2 _ rfl, h.2.2 0 _ rfl, h.2.2 1 _ rfl⟩, ((((Below.refl _ w).alloc (Nat.le_refl _) _).alloc (by simp) _).alloc (by simp; omega) _).trans (hb.mono (by omega))⟩

set_option maxHeartbeats 1000000 in
/-- RowsOk at a list of any room: its room matters where it has four alone. -/
theorem implRowsOk_cap (a : Option Addr) (n cp : Nat) (st : Int) (xs : List Int) (w : World) (hA : IntAt w a n xs) (hi : ∀ x ∈ xs, (Lit.int .i64 x).wf = true) (hcp : n = 4 → cp = 4) :
    Calls Tryz.prog 34 #[.agg #[.slice a n cp, .int .i64 st]] w fun e w' => Says e (OkRows xs st) ∧ Below w.heap.size w w' := by
  by_cases hn : n = 4
  · obtain rfl : cp = n := by rw [hn]; exact hcp hn
    exact implRowsOk_any a cp st xs w hA hi
  · have hb := hA.2.1
    have h1 : Hid (¬ OkRows xs st) := fun h => hn (hA.1.symm.trans h.1)
    have hne : ((n : Int) != 4) = true := by simp; omega
    clear hA hi hcp
    go_enter Tryz.func34, Tryz.ntmps34
    go_wp2
    go_ret
    exact ⟨⟨false, rfl, by simp [h1.out]⟩, (Below.refl _ _).alloc (Nat.le_refl _) _⟩

set_option maxHeartbeats 1000000 in
set_option maxRecDepth 100000 in
theorem implAllowed_cap (p o n1 cp n2 c2 : Nat) (a2 : Option Addr) (st kind k v code : Int) (xs ys : List Int) (w : World) (hcp : n1 = 4 → cp = 4) (hA : IntAt w (some ⟨p, o, none⟩) n1 xs) (hB : IntAt w a2 n2 ys) (hi : ∀ x ∈ xs, (Lit.int .i64 x).wf = true) :
    Calls Tryz.prog 8 #[.agg #[.slice (some ⟨p, o, none⟩) n1 cp, .int .i64 st], OpV kind k v, ResV code a2 n2 c2] w fun e w' => Says e (AllowM xs st kind k v code ys) ∧ Below w.heap.size w w' := by
  have HA : Hid (IntAt w (some ⟨p, o, none⟩) n1 xs) := hA
  have HY : Hid (IntAt w a2 n2 ys) := hB
  have HI : Hid (∀ x ∈ xs, (Lit.int .i64 x).wf = true) := hi
  clear hA hB hi
  obtain ⟨W0, hW0⟩ : ∃ W0, W0 = ((w.alloc (.cells #[.slice (some ⟨p, o, none⟩) n1 cp, .int .i64 st] 26)).alloc (.cells #[.int .i64 kind, .int .i64 k, .int .i64 v] 28)).alloc (.cells #[.int .i64 code, .slice a2 n2 c2] 33) := ⟨_, rfl⟩
  have hs0 : W0.heap.size = w.heap.size + 1 + 1 + 1 := by rw [hW0]; simp
  have HBX : Hid (∀ w', Below (w.heap.size + 1 + 1 + 1) W0 w' → (w'.cell? ⟨w.heap.size, 0, none⟩ = some (.slice (some ⟨p, o, none⟩) n1 cp) ∧ w'.cell? ⟨w.heap.size, 1, none⟩ = some (.int .i64 st) ∧ w'.cell? ⟨w.heap.size + 1, 0, none⟩ = some (.int .i64 kind) ∧ w'.cell? ⟨w.heap.size + 1, 1, none⟩ = some (.int .i64 k) ∧ w'.cell? ⟨w.heap.size + 1, 2, none⟩ = some (.int .i64 v) ∧ w'.cell? ⟨w.heap.size + 1 + 1, 0, none⟩ = some (.int .i64 code) ∧ w'.cell? ⟨w.heap.size + 1 + 1, 1, none⟩ = some (.slice a2 n2 c2)) ∧ Below w.heap.size w w') := fun w' hb => allow_boxes hW0 hb
  go_enter Tryz.func8, Tryz.ntmps8
  go_wp2_with fail
  rw [← hW0]
  clear hW0
  have hb0 : Below (w.heap.size + 1 + 1 + 1) W0 W0 := Below.refl _ _
  refine (implRowsOk_cap _ n1 cp st xs _ (HA.out.below (HBX.out _ hb0).2 (Nat.le_refl _)) HI.out hcp).mono ?_
  rintro e w1 ⟨⟨ok, rfl, hok⟩, hb1⟩
  have hb1 : Below (w.heap.size + 1 + 1 + 1) W0 w1 := hb0.trans (hb1.mono (by omega))
  have hs1 : w.heap.size + 1 + 1 + 1 ≤ w1.heap.size := by have h := hb1.size; omega
  obtain ⟨⟨d0, d1, d2, d3, d4, d5, d6⟩, bw1⟩ := HBX.out _ hb1
  cases ok with
  | false =>
    have HN : Hid (¬ OkRows xs st) := fun h => by cases hok.2 h
    clear hok
    go_wp2
    go_ret
    exact ⟨⟨false, rfl, by simp [AllowM, HN.out]⟩, bw1⟩
  | true =>
    have HO : Hid (OkRows xs st) := hok.1 rfl
    clear hok hb0
    obtain rfl : n1 = 4 := by rw [← HA.out.1]; exact HO.out.1
    obtain rfl : cp = 4 := hcp rfl
    clear hcp
    go_wp2_with fail
    refine (implOpOk_any kind k v _).mono ?_
    rintro e w2 ⟨rfl, hb2⟩
    have hb2 : Below (w.heap.size + 1 + 1 + 1) W0 w2 := hb1.trans (hb2.mono (by omega))
    have hs2 : w.heap.size + 1 + 1 + 1 ≤ w2.heap.size := by have h := hb2.size; omega
    clear d0 d1 d2 d3 d4 d5 d6 bw1 hb1 hs1
    obtain ⟨⟨d0, d1, d2, d3, d4, d5, d6⟩, bw2⟩ := HBX.out _ hb2
    by_cases hop : OpGood kind k v
    · rw [show decide (OpGood kind k v) = true from decide_eq_true hop]
      have HP : Hid (OpGood kind k v) := hop
      clear hop
      go_wp2_with fail
      go_region_held3 (fun w' => w'.cell? ⟨w.heap.size, 0, none⟩ = some (.slice (some ⟨p, o, none⟩) 4 4) ∧ w'.cell? ⟨w.heap.size, 1, none⟩ = some (.int .i64 st) ∧ w'.cell? ⟨w.heap.size + 1, 0, none⟩ = some (.int .i64 kind) ∧ w'.cell? ⟨w.heap.size + 1, 1, none⟩ = some (.int .i64 k) ∧ w'.cell? ⟨w.heap.size + 1, 2, none⟩ = some (.int .i64 v) ∧ w'.cell? ⟨w.heap.size + 1 + 1, 0, none⟩ = some (.int .i64 code) ∧ w'.cell? ⟨w.heap.size + 1 + 1, 1, none⟩ = some (.slice a2 n2 c2))
        (first | (exact (HBX.out _ hb5).1) | (exact (HBX.out _ hb4).1) | (exact (HBX.out _ hb3).1) | (exact (HBX.out _ hb2.drew).1) | (exact (HBX.out _ hb2).1) | go_keep)
        (first
        | (go_at_call 19
           refine (implDeedOf_any kind k v _).mono ?_
           rintro e w3 ⟨rfl, hb3⟩
           have hb3 : Below (w.heap.size + 1 + 1 + 1) W0 w3 := hb2.drew.trans (hb3.mono (by simp; omega))
           have hs3 : w.heap.size + 1 + 1 + 1 ≤ w3.heap.size := by have h := hb3.size; omega)
        | (go_at_call 36
           refine (comAny p o st kind k v xs _ (HA.out.below (HBX.out _ hb3).2 (Nat.le_refl _)) HI.out HP.out).mono ?_
           rintro e w4 ⟨⟨vv, L, rfl, hc4, ht4⟩, hb4⟩
           have hb4 : Below (w.heap.size + 1 + 1 + 1) W0 w4 := hb3.trans (hb4.mono (by omega))
           have hs4 : w.heap.size + 1 + 1 + 1 ≤ w4.heap.size := by have h := hb4.size; omega)
        | (go_at_call 35
           refine (containsFunc_any _ (w.heap.size + 1 + 1) code a2 n2 c2 ys vv L _ _ (by rw [ht4.len]; exact comLL_len _ _ _ _ _) hc4 ht4 (by omega) (HBX.out _ hb4).1.2.2.2.2.2.1 (HBX.out _ hb4).1.2.2.2.2.2.2 (HY.out.below (HBX.out _ hb4).2 (Nat.le_refl _))).mono ?_
           rintro e w5 ⟨rfl, hb5⟩
           have hb5 : Below (w.heap.size + 1 + 1 + 1) W0 w5 := hb4.trans (hb5.mono (by omega))))
      all_goals
        go_wp2
        go_ret
        refine ⟨⟨_, rfl, ?_⟩, (HBX.out _ hb5).2⟩
        rw [decide_eq_true_iff, com_mem xs st kind k v code ys ⟨HO.out.2.1, HO.out.2.2.1⟩ HP.out.1]
        exact ⟨fun h => ⟨HO.out, HP.out, h⟩, fun h => h.2.2⟩
    · rw [show decide (OpGood kind k v) = false from decide_eq_false hop]
      have HP : Hid (¬ OpGood kind k v) := hop
      clear hop
      go_wp2
      go_ret
      exact ⟨⟨false, rfl, by simp [AllowM, HP.out]⟩, bw2⟩
theorem implAllowed_any (p o n1 n2 c2 : Nat) (a2 : Option Addr) (st kind k v code : Int) (xs ys : List Int) (w : World) (hA : IntAt w (some ⟨p, o, none⟩) n1 xs) (hB : IntAt w a2 n2 ys) (hi : ∀ x ∈ xs, (Lit.int .i64 x).wf = true) :
    Calls Tryz.prog 8 #[.agg #[.slice (some ⟨p, o, none⟩) n1 n1, .int .i64 st], OpV kind k v, ResV code a2 n2 c2] w fun e w' => Says e (AllowM xs st kind k v code ys) ∧ Below w.heap.size w w' :=
  implAllowed_cap p o n1 n1 n2 c2 a2 st kind k v code xs ys w id hA hB hi
end Go.Proofs.YtenlapppaimkkaeGreatDoor

/- impl.turn, walked. -/
namespace Go.Proofs.YtenlapppaimkkaeGreatDoor
open Go.ChangeShapes Go.WideShapes Go.ChangeAt Go.RowKit

set_option maxHeartbeats 2000000 in
set_option maxRecDepth 100000 in
theorem turn_4 (base g c : Nat) (st : Int) (xs : List Int) (w : World) (hown : w.ownsRow base 3 1 (.slice (some ⟨g, 0, none⟩) 4 c) 4 (xs.map I)) (hb : base ≤ w.heap.size) (k v : Int) :
    Calls Tryz.prog 39 #[.agg #[.slice (some ⟨g, 0, none⟩) 4 c, .int .i64 st], .iface 94 (OpV 4 (k) (v))] w fun e w' => e = .returned (.agg #[.slice (some ⟨g, 0, none⟩) 4 c, .int .i64 st]) ∧ w'.ownsRow base 3 1 (.slice (some ⟨g, 0, none⟩) 4 c) 4 ((xs).map I) ∧ Below base w w' := by
  have hgl : g < w.heap.size := (hown.lt g rfl).2
  have hgb : base ≤ g := (hown.lt g rfl).1
  have OWN : Hid (w.ownsRow base 3 1 (.slice (some ⟨g, 0, none⟩) 4 c) 4 (xs.map I)) := hown
  clear hown
  have t1 : ∀ w : World, (Instr.typeAssert (.iface 94 (OpV 4 (k) (v))) 53 91 true).run Tryz.prog w = .ok (.tuple #[OpV 0 0 0, .bool false]) w := fun _ => by kernel_rfl
  have t2 : ∀ w : World, (Instr.typeAssert (.iface 94 (OpV 4 (k) (v))) 53 92 true).run Tryz.prog w = .ok (.tuple #[OpV 0 0 0, .bool false]) w := fun _ => by kernel_rfl
  have t3 : ∀ w : World, (Instr.typeAssert (.iface 94 (OpV 4 (k) (v))) 53 93 true).run Tryz.prog w = .ok (.tuple #[OpV 0 0 0, .bool false]) w := fun _ => by kernel_rfl
  have t8 : ∀ w : World, (Instr.typeAssert (.iface 94 (OpV 4 (k) (v))) 53 98 true).run Tryz.prog w = .ok (.tuple #[OpV 0 0 0, .bool false]) w := fun _ => by kernel_rfl
  have t9 : ∀ w : World, (Instr.typeAssert (.iface 94 (OpV 4 (k) (v))) 53 99 true).run Tryz.prog w = .ok (.tuple #[OpV 0 0 0, .bool false]) w := fun _ => by kernel_rfl
  go_enter Tryz.func39, Tryz.ntmps39
  go_wp2
  (try simp only [Exit.inBlock, Exit.then])
  refine bodyPost_ret (by simp [results, Tryz.results39, go_sem]; try rfl) rfl ?_
  exact ⟨rfl, (OWN.out.alloc _).alloc _, ((Below.refl base w).alloc hb _).alloc (by simp; omega) _⟩

set_option maxHeartbeats 2000000 in
set_option maxRecDepth 100000 in
theorem turn_5 (base g c : Nat) (st : Int) (xs : List Int) (w : World) (hown : w.ownsRow base 3 1 (.slice (some ⟨g, 0, none⟩) 4 c) 4 (xs.map I)) (hb : base ≤ w.heap.size) (k v : Int) :
    Calls Tryz.prog 39 #[.agg #[.slice (some ⟨g, 0, none⟩) 4 c, .int .i64 st], .iface 95 (OpV 5 (k) (v))] w fun e w' => e = .returned (.agg #[.slice (some ⟨g, 0, none⟩) 4 c, .int .i64 st]) ∧ w'.ownsRow base 3 1 (.slice (some ⟨g, 0, none⟩) 4 c) 4 ((xs).map I) ∧ Below base w w' := by
  have hgl : g < w.heap.size := (hown.lt g rfl).2
  have hgb : base ≤ g := (hown.lt g rfl).1
  have OWN : Hid (w.ownsRow base 3 1 (.slice (some ⟨g, 0, none⟩) 4 c) 4 (xs.map I)) := hown
  clear hown
  have t1 : ∀ w : World, (Instr.typeAssert (.iface 95 (OpV 5 (k) (v))) 53 91 true).run Tryz.prog w = .ok (.tuple #[OpV 0 0 0, .bool false]) w := fun _ => by kernel_rfl
  have t2 : ∀ w : World, (Instr.typeAssert (.iface 95 (OpV 5 (k) (v))) 53 92 true).run Tryz.prog w = .ok (.tuple #[OpV 0 0 0, .bool false]) w := fun _ => by kernel_rfl
  have t3 : ∀ w : World, (Instr.typeAssert (.iface 95 (OpV 5 (k) (v))) 53 93 true).run Tryz.prog w = .ok (.tuple #[OpV 0 0 0, .bool false]) w := fun _ => by kernel_rfl
  have t8 : ∀ w : World, (Instr.typeAssert (.iface 95 (OpV 5 (k) (v))) 53 98 true).run Tryz.prog w = .ok (.tuple #[OpV 0 0 0, .bool false]) w := fun _ => by kernel_rfl
  have t9 : ∀ w : World, (Instr.typeAssert (.iface 95 (OpV 5 (k) (v))) 53 99 true).run Tryz.prog w = .ok (.tuple #[OpV 0 0 0, .bool false]) w := fun _ => by kernel_rfl
  go_enter Tryz.func39, Tryz.ntmps39
  go_wp2
  (try simp only [Exit.inBlock, Exit.then])
  refine bodyPost_ret (by simp [results, Tryz.results39, go_sem]; try rfl) rfl ?_
  exact ⟨rfl, (OWN.out.alloc _).alloc _, ((Below.refl base w).alloc hb _).alloc (by simp; omega) _⟩

set_option maxHeartbeats 2000000 in
set_option maxRecDepth 100000 in
theorem turn_6 (base g c : Nat) (st : Int) (xs : List Int) (w : World) (hown : w.ownsRow base 3 1 (.slice (some ⟨g, 0, none⟩) 4 c) 4 (xs.map I)) (hb : base ≤ w.heap.size) (k v : Int) :
    Calls Tryz.prog 39 #[.agg #[.slice (some ⟨g, 0, none⟩) 4 c, .int .i64 st], .iface 96 (OpV 6 (k) (v))] w fun e w' => e = .returned (.agg #[.slice (some ⟨g, 0, none⟩) 4 c, .int .i64 st]) ∧ w'.ownsRow base 3 1 (.slice (some ⟨g, 0, none⟩) 4 c) 4 ((xs).map I) ∧ Below base w w' := by
  have hgl : g < w.heap.size := (hown.lt g rfl).2
  have hgb : base ≤ g := (hown.lt g rfl).1
  have OWN : Hid (w.ownsRow base 3 1 (.slice (some ⟨g, 0, none⟩) 4 c) 4 (xs.map I)) := hown
  clear hown
  have t1 : ∀ w : World, (Instr.typeAssert (.iface 96 (OpV 6 (k) (v))) 53 91 true).run Tryz.prog w = .ok (.tuple #[OpV 0 0 0, .bool false]) w := fun _ => by kernel_rfl
  have t2 : ∀ w : World, (Instr.typeAssert (.iface 96 (OpV 6 (k) (v))) 53 92 true).run Tryz.prog w = .ok (.tuple #[OpV 0 0 0, .bool false]) w := fun _ => by kernel_rfl
  have t3 : ∀ w : World, (Instr.typeAssert (.iface 96 (OpV 6 (k) (v))) 53 93 true).run Tryz.prog w = .ok (.tuple #[OpV 0 0 0, .bool false]) w := fun _ => by kernel_rfl
  have t8 : ∀ w : World, (Instr.typeAssert (.iface 96 (OpV 6 (k) (v))) 53 98 true).run Tryz.prog w = .ok (.tuple #[OpV 0 0 0, .bool false]) w := fun _ => by kernel_rfl
  have t9 : ∀ w : World, (Instr.typeAssert (.iface 96 (OpV 6 (k) (v))) 53 99 true).run Tryz.prog w = .ok (.tuple #[OpV 0 0 0, .bool false]) w := fun _ => by kernel_rfl
  go_enter Tryz.func39, Tryz.ntmps39
  go_wp2
  (try simp only [Exit.inBlock, Exit.then])
  refine bodyPost_ret (by simp [results, Tryz.results39, go_sem]; try rfl) rfl ?_
  exact ⟨rfl, (OWN.out.alloc _).alloc _, ((Below.refl base w).alloc hb _).alloc (by simp; omega) _⟩

set_option maxHeartbeats 2000000 in
set_option maxRecDepth 100000 in
theorem turn_7 (base g c : Nat) (st : Int) (xs : List Int) (w : World) (hown : w.ownsRow base 3 1 (.slice (some ⟨g, 0, none⟩) 4 c) 4 (xs.map I)) (hb : base ≤ w.heap.size) (k v : Int) :
    Calls Tryz.prog 39 #[.agg #[.slice (some ⟨g, 0, none⟩) 4 c, .int .i64 st], .iface 97 (OpV 7 (k) (v))] w fun e w' => e = .returned (.agg #[.slice (some ⟨g, 0, none⟩) 4 c, .int .i64 st]) ∧ w'.ownsRow base 3 1 (.slice (some ⟨g, 0, none⟩) 4 c) 4 ((xs).map I) ∧ Below base w w' := by
  have hgl : g < w.heap.size := (hown.lt g rfl).2
  have hgb : base ≤ g := (hown.lt g rfl).1
  have OWN : Hid (w.ownsRow base 3 1 (.slice (some ⟨g, 0, none⟩) 4 c) 4 (xs.map I)) := hown
  clear hown
  have t1 : ∀ w : World, (Instr.typeAssert (.iface 97 (OpV 7 (k) (v))) 53 91 true).run Tryz.prog w = .ok (.tuple #[OpV 0 0 0, .bool false]) w := fun _ => by kernel_rfl
  have t2 : ∀ w : World, (Instr.typeAssert (.iface 97 (OpV 7 (k) (v))) 53 92 true).run Tryz.prog w = .ok (.tuple #[OpV 0 0 0, .bool false]) w := fun _ => by kernel_rfl
  have t3 : ∀ w : World, (Instr.typeAssert (.iface 97 (OpV 7 (k) (v))) 53 93 true).run Tryz.prog w = .ok (.tuple #[OpV 0 0 0, .bool false]) w := fun _ => by kernel_rfl
  have t8 : ∀ w : World, (Instr.typeAssert (.iface 97 (OpV 7 (k) (v))) 53 98 true).run Tryz.prog w = .ok (.tuple #[OpV 0 0 0, .bool false]) w := fun _ => by kernel_rfl
  have t9 : ∀ w : World, (Instr.typeAssert (.iface 97 (OpV 7 (k) (v))) 53 99 true).run Tryz.prog w = .ok (.tuple #[OpV 0 0 0, .bool false]) w := fun _ => by kernel_rfl
  go_enter Tryz.func39, Tryz.ntmps39
  go_wp2
  (try simp only [Exit.inBlock, Exit.then])
  refine bodyPost_ret (by simp [results, Tryz.results39, go_sem]; try rfl) rfl ?_
  exact ⟨rfl, (OWN.out.alloc _).alloc _, ((Below.refl base w).alloc hb _).alloc (by simp; omega) _⟩

set_option maxHeartbeats 2000000 in
set_option maxRecDepth 100000 in
theorem turn_10 (base g c : Nat) (st : Int) (xs : List Int) (w : World) (hown : w.ownsRow base 3 1 (.slice (some ⟨g, 0, none⟩) 4 c) 4 (xs.map I)) (hb : base ≤ w.heap.size) (k v : Int) :
    Calls Tryz.prog 39 #[.agg #[.slice (some ⟨g, 0, none⟩) 4 c, .int .i64 st], .iface 100 (OpV 10 (k) (v))] w fun e w' => e = .returned (.agg #[.slice (some ⟨g, 0, none⟩) 4 c, .int .i64 st]) ∧ w'.ownsRow base 3 1 (.slice (some ⟨g, 0, none⟩) 4 c) 4 ((xs).map I) ∧ Below base w w' := by
  have hgl : g < w.heap.size := (hown.lt g rfl).2
  have hgb : base ≤ g := (hown.lt g rfl).1
  have OWN : Hid (w.ownsRow base 3 1 (.slice (some ⟨g, 0, none⟩) 4 c) 4 (xs.map I)) := hown
  clear hown
  have t1 : ∀ w : World, (Instr.typeAssert (.iface 100 (OpV 10 (k) (v))) 53 91 true).run Tryz.prog w = .ok (.tuple #[OpV 0 0 0, .bool false]) w := fun _ => by kernel_rfl
  have t2 : ∀ w : World, (Instr.typeAssert (.iface 100 (OpV 10 (k) (v))) 53 92 true).run Tryz.prog w = .ok (.tuple #[OpV 0 0 0, .bool false]) w := fun _ => by kernel_rfl
  have t3 : ∀ w : World, (Instr.typeAssert (.iface 100 (OpV 10 (k) (v))) 53 93 true).run Tryz.prog w = .ok (.tuple #[OpV 0 0 0, .bool false]) w := fun _ => by kernel_rfl
  have t8 : ∀ w : World, (Instr.typeAssert (.iface 100 (OpV 10 (k) (v))) 53 98 true).run Tryz.prog w = .ok (.tuple #[OpV 0 0 0, .bool false]) w := fun _ => by kernel_rfl
  have t9 : ∀ w : World, (Instr.typeAssert (.iface 100 (OpV 10 (k) (v))) 53 99 true).run Tryz.prog w = .ok (.tuple #[OpV 0 0 0, .bool false]) w := fun _ => by kernel_rfl
  go_enter Tryz.func39, Tryz.ntmps39
  go_wp2
  (try simp only [Exit.inBlock, Exit.then])
  refine bodyPost_ret (by simp [results, Tryz.results39, go_sem]; try rfl) rfl ?_
  exact ⟨rfl, (OWN.out.alloc _).alloc _, ((Below.refl base w).alloc hb _).alloc (by simp; omega) _⟩

set_option maxHeartbeats 2000000 in
set_option maxRecDepth 100000 in
theorem turn_8 (base g c : Nat) (st : Int) (xs : List Int) (w : World) (hown : w.ownsRow base 3 1 (.slice (some ⟨g, 0, none⟩) 4 c) 4 (xs.map I)) (hb : base ≤ w.heap.size) (k v : Int) (hst : 0 ≤ st ∧ st ≤ 5) :
    Calls Tryz.prog 39 #[.agg #[.slice (some ⟨g, 0, none⟩) 4 c, .int .i64 st], .iface 98 (OpV 8 (k) (v))] w fun e w' => e = .returned (.agg #[.slice (some ⟨g, 0, none⟩) 4 c, .int .i64 (st + 1)]) ∧ w'.ownsRow base 3 1 (.slice (some ⟨g, 0, none⟩) 4 c) 4 ((xs).map I) ∧ Below base w w' := by
  have hgl : g < w.heap.size := (hown.lt g rfl).2
  have hgb : base ≤ g := (hown.lt g rfl).1
  have OWN : Hid (w.ownsRow base 3 1 (.slice (some ⟨g, 0, none⟩) 4 c) 4 (xs.map I)) := hown
  clear hown
  have t1 : ∀ w : World, (Instr.typeAssert (.iface 98 (OpV 8 (k) (v))) 53 91 true).run Tryz.prog w = .ok (.tuple #[OpV 0 0 0, .bool false]) w := fun _ => by kernel_rfl
  have t2 : ∀ w : World, (Instr.typeAssert (.iface 98 (OpV 8 (k) (v))) 53 92 true).run Tryz.prog w = .ok (.tuple #[OpV 0 0 0, .bool false]) w := fun _ => by kernel_rfl
  have t3 : ∀ w : World, (Instr.typeAssert (.iface 98 (OpV 8 (k) (v))) 53 93 true).run Tryz.prog w = .ok (.tuple #[OpV 0 0 0, .bool false]) w := fun _ => by kernel_rfl
  have t8 : ∀ w : World, (Instr.typeAssert (.iface 98 (OpV 8 (k) (v))) 53 98 true).run Tryz.prog w = .ok (.tuple #[OpV 8 (k) (v), .bool true]) w := fun _ => by kernel_rfl
  have t9 : ∀ w : World, (Instr.typeAssert (.iface 98 (OpV 8 (k) (v))) 53 99 true).run Tryz.prog w = .ok (.tuple #[OpV 0 0 0, .bool false]) w := fun _ => by kernel_rfl
  go_enter Tryz.func39, Tryz.ntmps39
  have hst0 := hst.1
  have hst1 := hst.2
  go_wp2
  (try simp only [Exit.inBlock, Exit.then])
  refine bodyPost_ret (by simp [results, Tryz.results39, go_sem]; try rfl) rfl ?_
  exact ⟨rfl, (OWN.out.alloc _).alloc _, ((Below.refl base w).alloc hb _).alloc (by simp; omega) _⟩

set_option maxHeartbeats 2000000 in
set_option maxRecDepth 100000 in
theorem turn_9 (base g c : Nat) (st : Int) (xs : List Int) (w : World) (hown : w.ownsRow base 3 1 (.slice (some ⟨g, 0, none⟩) 4 c) 4 (xs.map I)) (hb : base ≤ w.heap.size) (k v : Int) (hst : 0 ≤ st ∧ st ≤ 5) :
    Calls Tryz.prog 39 #[.agg #[.slice (some ⟨g, 0, none⟩) 4 c, .int .i64 st], .iface 99 (OpV 9 (k) (v))] w fun e w' => e = .returned (.agg #[.slice (some ⟨g, 0, none⟩) 4 c, .int .i64 (st + 1)]) ∧ w'.ownsRow base 3 1 (.slice (some ⟨g, 0, none⟩) 4 c) 4 ((xs).map I) ∧ Below base w w' := by
  have hgl : g < w.heap.size := (hown.lt g rfl).2
  have hgb : base ≤ g := (hown.lt g rfl).1
  have OWN : Hid (w.ownsRow base 3 1 (.slice (some ⟨g, 0, none⟩) 4 c) 4 (xs.map I)) := hown
  clear hown
  have t1 : ∀ w : World, (Instr.typeAssert (.iface 99 (OpV 9 (k) (v))) 53 91 true).run Tryz.prog w = .ok (.tuple #[OpV 0 0 0, .bool false]) w := fun _ => by kernel_rfl
  have t2 : ∀ w : World, (Instr.typeAssert (.iface 99 (OpV 9 (k) (v))) 53 92 true).run Tryz.prog w = .ok (.tuple #[OpV 0 0 0, .bool false]) w := fun _ => by kernel_rfl
  have t3 : ∀ w : World, (Instr.typeAssert (.iface 99 (OpV 9 (k) (v))) 53 93 true).run Tryz.prog w = .ok (.tuple #[OpV 0 0 0, .bool false]) w := fun _ => by kernel_rfl
  have t8 : ∀ w : World, (Instr.typeAssert (.iface 99 (OpV 9 (k) (v))) 53 98 true).run Tryz.prog w = .ok (.tuple #[OpV 0 0 0, .bool false]) w := fun _ => by kernel_rfl
  have t9 : ∀ w : World, (Instr.typeAssert (.iface 99 (OpV 9 (k) (v))) 53 99 true).run Tryz.prog w = .ok (.tuple #[OpV 9 (k) (v), .bool true]) w := fun _ => by kernel_rfl
  go_enter Tryz.func39, Tryz.ntmps39
  have hst0 := hst.1
  have hst1 := hst.2
  go_wp2
  (try simp only [Exit.inBlock, Exit.then])
  refine bodyPost_ret (by simp [results, Tryz.results39, go_sem]; try rfl) rfl ?_
  exact ⟨rfl, (OWN.out.alloc _).alloc _, ((Below.refl base w).alloc hb _).alloc (by simp; omega) _⟩

set_option maxHeartbeats 2000000 in
set_option maxRecDepth 100000 in
theorem turn_1 (base g c : Nat) (st : Int) (xs : List Int) (w : World) (hown : w.ownsRow base 3 1 (.slice (some ⟨g, 0, none⟩) 4 c) 4 (xs.map I)) (hb : base ≤ w.heap.size) (m : Nat) (v : Int) (hm : m < 4) :
    Calls Tryz.prog 39 #[.agg #[.slice (some ⟨g, 0, none⟩) 4 c, .int .i64 st], .iface 91 (OpV 1 ((m : Int)) (v))] w fun e w' => e = .returned (.agg #[.slice (some ⟨g, 0, none⟩) 4 c, .int .i64 st]) ∧ w'.ownsRow base 3 1 (.slice (some ⟨g, 0, none⟩) 4 c) 4 ((xs.set m v).map I) ∧ Below base w w' := by
  have hgl : g < w.heap.size := (hown.lt g rfl).2
  have hgb : base ≤ g := (hown.lt g rfl).1
  have OWN : Hid (w.ownsRow base 3 1 (.slice (some ⟨g, 0, none⟩) 4 c) 4 (xs.map I)) := hown
  clear hown
  have t1 : ∀ w : World, (Instr.typeAssert (.iface 91 (OpV 1 ((m : Int)) (v))) 53 91 true).run Tryz.prog w = .ok (.tuple #[OpV 1 ((m : Int)) (v), .bool true]) w := fun _ => by kernel_rfl
  go_enter Tryz.func39, Tryz.ntmps39
  have hm0 : (0 : Int) ≤ (m : Int) := by omega
  have hm1 : (m : Int) < 4 := by omega
  obtain ⟨u0, hu⟩ := own_cell OWN.out hm
  have hu3 : (((w.alloc (.cells #[.slice (some ⟨g, 0, none⟩) 4 c, .int .i64 st] 26)).alloc (.cells #[.slice none 0 0, .int .i64 0] 26)).alloc (.cells #[.int .i64 1, .int .i64 m, .int .i64 v] 91)).cell? ⟨g, m, none⟩ = some u0 := by rw [World.cell?_alloc_past _ _ _ (by simp; omega), World.cell?_alloc_past _ _ _ (by simp; omega), World.cell?_alloc_past _ _ _ hgl, hu]
  have hz3 : (((w.alloc (.cells #[.slice (some ⟨g, 0, none⟩) 4 c, .int .i64 st] 26)).alloc (.cells #[.slice none 0 0, .int .i64 0] 26)).alloc (.cells #[.int .i64 1, .int .i64 m, .int .i64 v] 91)).frozen? ⟨g, m, none⟩ = false := (((OWN.out.alloc _).alloc _).alloc _).frozenAt m
  have HST : Hid (((((w.alloc (.cells #[.slice (some ⟨g, 0, none⟩) 4 c, .int .i64 st] 26)).alloc (.cells #[.slice none 0 0, .int .i64 0] 26)).alloc (.cells #[.int .i64 1, .int .i64 m, .int .i64 v] 91)).setCell ⟨g, m, none⟩ (I v)).ownsRow base 3 1 (.slice (some ⟨g, 0, none⟩) 4 c) 4 ((xs.set m v).map I)) := by
    rw [List.map_set]
    exact ((((OWN.out.alloc _).alloc _).alloc _).stored m (I v)).1
  go_wp2
  (try simp only [Exit.inBlock, Exit.then])
  refine bodyPost_ret (by simp [results, Tryz.results39, go_sem]; try rfl) rfl ?_
  exact ⟨rfl, own_setCell_far (own_setCell_far HST.out (by simp [Value.ownBlock]; omega) _) (by simp [Value.ownBlock]; omega) _, ((((((Below.refl base w).alloc hb _).alloc (by simp; omega) _).alloc (by simp; omega) _).setCell hgb _).setCell (by simp; omega) _).setCell (by simp; omega) _⟩

set_option maxHeartbeats 2000000 in
set_option maxRecDepth 100000 in
theorem turn_2 (base g c : Nat) (st : Int) (xs : List Int) (w : World) (hown : w.ownsRow base 3 1 (.slice (some ⟨g, 0, none⟩) 4 c) 4 (xs.map I)) (hb : base ≤ w.heap.size) (m : Nat) (v : Int) (hm : m < 4) :
    Calls Tryz.prog 39 #[.agg #[.slice (some ⟨g, 0, none⟩) 4 c, .int .i64 st], .iface 92 (OpV 2 ((m : Int)) (v))] w fun e w' => e = .returned (.agg #[.slice (some ⟨g, 0, none⟩) 4 c, .int .i64 st]) ∧ w'.ownsRow base 3 1 (.slice (some ⟨g, 0, none⟩) 4 c) 4 ((xs.set m v).map I) ∧ Below base w w' := by
  have hgl : g < w.heap.size := (hown.lt g rfl).2
  have hgb : base ≤ g := (hown.lt g rfl).1
  have OWN : Hid (w.ownsRow base 3 1 (.slice (some ⟨g, 0, none⟩) 4 c) 4 (xs.map I)) := hown
  clear hown
  have t1 : ∀ w : World, (Instr.typeAssert (.iface 92 (OpV 2 ((m : Int)) (v))) 53 91 true).run Tryz.prog w = .ok (.tuple #[OpV 0 0 0, .bool false]) w := fun _ => by kernel_rfl
  have t2 : ∀ w : World, (Instr.typeAssert (.iface 92 (OpV 2 ((m : Int)) (v))) 53 92 true).run Tryz.prog w = .ok (.tuple #[OpV 2 ((m : Int)) (v), .bool true]) w := fun _ => by kernel_rfl
  go_enter Tryz.func39, Tryz.ntmps39
  have hm0 : (0 : Int) ≤ (m : Int) := by omega
  have hm1 : (m : Int) < 4 := by omega
  obtain ⟨u0, hu⟩ := own_cell OWN.out hm
  have hu3 : (((w.alloc (.cells #[.slice (some ⟨g, 0, none⟩) 4 c, .int .i64 st] 26)).alloc (.cells #[.slice none 0 0, .int .i64 0] 26)).alloc (.cells #[.int .i64 2, .int .i64 m, .int .i64 v] 92)).cell? ⟨g, m, none⟩ = some u0 := by rw [World.cell?_alloc_past _ _ _ (by simp; omega), World.cell?_alloc_past _ _ _ (by simp; omega), World.cell?_alloc_past _ _ _ hgl, hu]
  have hz3 : (((w.alloc (.cells #[.slice (some ⟨g, 0, none⟩) 4 c, .int .i64 st] 26)).alloc (.cells #[.slice none 0 0, .int .i64 0] 26)).alloc (.cells #[.int .i64 2, .int .i64 m, .int .i64 v] 92)).frozen? ⟨g, m, none⟩ = false := (((OWN.out.alloc _).alloc _).alloc _).frozenAt m
  have HST : Hid (((((w.alloc (.cells #[.slice (some ⟨g, 0, none⟩) 4 c, .int .i64 st] 26)).alloc (.cells #[.slice none 0 0, .int .i64 0] 26)).alloc (.cells #[.int .i64 2, .int .i64 m, .int .i64 v] 92)).setCell ⟨g, m, none⟩ (I v)).ownsRow base 3 1 (.slice (some ⟨g, 0, none⟩) 4 c) 4 ((xs.set m v).map I)) := by
    rw [List.map_set]
    exact ((((OWN.out.alloc _).alloc _).alloc _).stored m (I v)).1
  go_wp2
  (try simp only [Exit.inBlock, Exit.then])
  refine bodyPost_ret (by simp [results, Tryz.results39, go_sem]; try rfl) rfl ?_
  exact ⟨rfl, own_setCell_far (own_setCell_far HST.out (by simp [Value.ownBlock]; omega) _) (by simp [Value.ownBlock]; omega) _, ((((((Below.refl base w).alloc hb _).alloc (by simp; omega) _).alloc (by simp; omega) _).setCell hgb _).setCell (by simp; omega) _).setCell (by simp; omega) _⟩

set_option maxHeartbeats 2000000 in
set_option maxRecDepth 100000 in
theorem turn_3 (base g c : Nat) (st : Int) (xs : List Int) (w : World) (hown : w.ownsRow base 3 1 (.slice (some ⟨g, 0, none⟩) 4 c) 4 (xs.map I)) (hb : base ≤ w.heap.size) (m : Nat) (v : Int) (hm : m < 4) :
    Calls Tryz.prog 39 #[.agg #[.slice (some ⟨g, 0, none⟩) 4 c, .int .i64 st], .iface 93 (OpV 3 ((m : Int)) (v))] w fun e w' => e = .returned (.agg #[.slice (some ⟨g, 0, none⟩) 4 c, .int .i64 st]) ∧ w'.ownsRow base 3 1 (.slice (some ⟨g, 0, none⟩) 4 c) 4 ((xs.set m 0).map I) ∧ Below base w w' := by
  have hgl : g < w.heap.size := (hown.lt g rfl).2
  have hgb : base ≤ g := (hown.lt g rfl).1
  have OWN : Hid (w.ownsRow base 3 1 (.slice (some ⟨g, 0, none⟩) 4 c) 4 (xs.map I)) := hown
  clear hown
  have t1 : ∀ w : World, (Instr.typeAssert (.iface 93 (OpV 3 ((m : Int)) (v))) 53 91 true).run Tryz.prog w = .ok (.tuple #[OpV 0 0 0, .bool false]) w := fun _ => by kernel_rfl
  have t2 : ∀ w : World, (Instr.typeAssert (.iface 93 (OpV 3 ((m : Int)) (v))) 53 92 true).run Tryz.prog w = .ok (.tuple #[OpV 0 0 0, .bool false]) w := fun _ => by kernel_rfl
  have t3 : ∀ w : World, (Instr.typeAssert (.iface 93 (OpV 3 ((m : Int)) (v))) 53 93 true).run Tryz.prog w = .ok (.tuple #[OpV 3 ((m : Int)) (v), .bool true]) w := fun _ => by kernel_rfl
  go_enter Tryz.func39, Tryz.ntmps39
  have hm0 : (0 : Int) ≤ (m : Int) := by omega
  have hm1 : (m : Int) < 4 := by omega
  obtain ⟨u0, hu⟩ := own_cell OWN.out hm
  have hu3 : (((w.alloc (.cells #[.slice (some ⟨g, 0, none⟩) 4 c, .int .i64 st] 26)).alloc (.cells #[.slice none 0 0, .int .i64 0] 26)).alloc (.cells #[.int .i64 3, .int .i64 m, .int .i64 v] 93)).cell? ⟨g, m, none⟩ = some u0 := by rw [World.cell?_alloc_past _ _ _ (by simp; omega), World.cell?_alloc_past _ _ _ (by simp; omega), World.cell?_alloc_past _ _ _ hgl, hu]
  have hz3 : (((w.alloc (.cells #[.slice (some ⟨g, 0, none⟩) 4 c, .int .i64 st] 26)).alloc (.cells #[.slice none 0 0, .int .i64 0] 26)).alloc (.cells #[.int .i64 3, .int .i64 m, .int .i64 v] 93)).frozen? ⟨g, m, none⟩ = false := (((OWN.out.alloc _).alloc _).alloc _).frozenAt m
  have HST : Hid (((((w.alloc (.cells #[.slice (some ⟨g, 0, none⟩) 4 c, .int .i64 st] 26)).alloc (.cells #[.slice none 0 0, .int .i64 0] 26)).alloc (.cells #[.int .i64 3, .int .i64 m, .int .i64 v] 93)).setCell ⟨g, m, none⟩ (I 0)).ownsRow base 3 1 (.slice (some ⟨g, 0, none⟩) 4 c) 4 ((xs.set m 0).map I)) := by
    rw [List.map_set]
    exact ((((OWN.out.alloc _).alloc _).alloc _).stored m (I 0)).1
  go_wp2
  (try simp only [Exit.inBlock, Exit.then])
  refine bodyPost_ret (by simp [results, Tryz.results39, go_sem]; try rfl) rfl ?_
  exact ⟨rfl, own_setCell_far (own_setCell_far HST.out (by simp [Value.ownBlock]; omega) _) (by simp [Value.ownBlock]; omega) _, ((((((Below.refl base w).alloc hb _).alloc (by simp; omega) _).alloc (by simp; omega) _).setCell hgb _).setCell (by simp; omega) _).setCell (by simp; omega) _⟩

/-- What is made of the rows where an op is done. -/
def TurnM (xs : List Int) (st kind k v : Int) (zs : List Int) (st' : Int) : Prop :=
  ((kind = 1 ∨ kind = 2) ∧ zs = xs.set k.toNat v ∧ st' = st) ∨ (kind = 3 ∧ zs = xs.set k.toNat 0 ∧ st' = st) ∨ ((kind = 8 ∨ kind = 9) ∧ zs = xs ∧ st' = st + 1) ∨ ((4 ≤ kind ∧ kind ≤ 7 ∨ kind = 10) ∧ zs = xs ∧ st' = st)
theorem turn_any (base g c : Nat) (st kind k v : Int) (xs : List Int) (w : World) (hown : w.ownsRow base 3 1 (.slice (some ⟨g, 0, none⟩) 4 c) 4 (xs.map I)) (hb : base ≤ w.heap.size) (hop : OpGood kind k v) (hst : 0 ≤ st ∧ st ≤ 5) :
    Calls Tryz.prog 39 #[.agg #[.slice (some ⟨g, 0, none⟩) 4 c, .int .i64 st], DeedV kind k v] w fun e w' => ∃ zs st', e = .returned (.agg #[.slice (some ⟨g, 0, none⟩) 4 c, .int .i64 st']) ∧ TurnM xs st kind k v zs st' ∧ w'.ownsRow base 3 1 (.slice (some ⟨g, 0, none⟩) 4 c) 4 (zs.map I) ∧ Below base w w' := by
  obtain ⟨hk, hkey, _⟩ := hop
  unfold KeyGood at hkey
  rcases kinds hk with rfl | rfl | rfl | rfl | rfl | rfl | rfl | rfl | rfl | rfl
  · obtain ⟨m, rfl⟩ : ∃ m : Nat, k = m := ⟨k.toNat, by omega⟩
    refine (turn_1 base g c st xs w hown hb m v (by omega)).mono ?_
    rintro e w' ⟨rfl, ho, hbl⟩
    exact ⟨xs.set m v, st, rfl, .inl ⟨.inl rfl, by simp, rfl⟩, ho, hbl⟩
  · obtain ⟨m, rfl⟩ : ∃ m : Nat, k = m := ⟨k.toNat, by omega⟩
    refine (turn_2 base g c st xs w hown hb m v (by omega)).mono ?_
    rintro e w' ⟨rfl, ho, hbl⟩
    exact ⟨xs.set m v, st, rfl, .inl ⟨.inr rfl, by simp, rfl⟩, ho, hbl⟩
  · obtain ⟨m, rfl⟩ : ∃ m : Nat, k = m := ⟨k.toNat, by omega⟩
    refine (turn_3 base g c st xs w hown hb m v (by omega)).mono ?_
    rintro e w' ⟨rfl, ho, hbl⟩
    exact ⟨xs.set m 0, st, rfl, .inr (.inl ⟨rfl, by simp, rfl⟩), ho, hbl⟩
  · refine (turn_4 base g c st xs w hown hb k v).mono ?_
    rintro e w' ⟨rfl, ho, hbl⟩
    exact ⟨xs, st, rfl, .inr (.inr (.inr ⟨by omega, rfl, rfl⟩)), ho, hbl⟩
  · refine (turn_5 base g c st xs w hown hb k v).mono ?_
    rintro e w' ⟨rfl, ho, hbl⟩
    exact ⟨xs, st, rfl, .inr (.inr (.inr ⟨by omega, rfl, rfl⟩)), ho, hbl⟩
  · refine (turn_6 base g c st xs w hown hb k v).mono ?_
    rintro e w' ⟨rfl, ho, hbl⟩
    exact ⟨xs, st, rfl, .inr (.inr (.inr ⟨by omega, rfl, rfl⟩)), ho, hbl⟩
  · refine (turn_7 base g c st xs w hown hb k v).mono ?_
    rintro e w' ⟨rfl, ho, hbl⟩
    exact ⟨xs, st, rfl, .inr (.inr (.inr ⟨by omega, rfl, rfl⟩)), ho, hbl⟩
  · refine (turn_8 base g c st xs w hown hb k v hst).mono ?_
    rintro e w' ⟨rfl, ho, hbl⟩
    exact ⟨xs, st + 1, rfl, .inr (.inr (.inl ⟨by omega, rfl, rfl⟩)), ho, hbl⟩
  · refine (turn_9 base g c st xs w hown hb k v hst).mono ?_
    rintro e w' ⟨rfl, ho, hbl⟩
    exact ⟨xs, st + 1, rfl, .inr (.inr (.inl ⟨by omega, rfl, rfl⟩)), ho, hbl⟩
  · refine (turn_10 base g c st xs w hown hb k v).mono ?_
    rintro e w' ⟨rfl, ho, hbl⟩
    exact ⟨xs, st, rfl, .inr (.inr (.inr ⟨by omega, rfl, rfl⟩)), ho, hbl⟩
end Go.Proofs.YtenlapppaimkkaeGreatDoor

/- impl.After, walked. -/
namespace Go.Proofs.YtenlapppaimkkaeGreatDoor
open Go.ChangeShapes Go.WideShapes Go.ChangeAt Go.RowKit

/-- A box for rows, still empty. -/
def Box0 (w : World) (b : Nat) : Prop := w.heap[b]? = some (.cells #[.slice none 0 0, .int .i64 0] 26)
theorem Box0.facts {w : World} {b : Nat} (h : Box0 w b) : w.cell? ⟨b, 0, none⟩ = some (.slice none 0 0) ∧ w.cell? ⟨b, 1, none⟩ = some (.int .i64 0) ∧ w.frozen? ⟨b, 0, none⟩ = false ∧ w.frozen? ⟨b, 1, none⟩ = false ∧ b < w.heap.size := by
  unfold Box0 at h
  exact ⟨by simp [World.cell?, h], by simp [World.cell?, h], by simp [World.frozen?, h], by simp [World.frozen?, h], (Array.getElem?_eq_some_iff.1 h).1⟩
theorem box_first {W w' : World} {b : Nat} {ob : Obj} (hb : W.heap.size = b) (hg : ((W.alloc (.cells #[.slice none 0 0, .int .i64 0] 26)).alloc ob).drew.grownBy w' (some (b + 1))) : Box0 w' b := by
  subst hb
  unfold Box0
  rw [hg.block W.heap.size (by simp; omega) (by simp)]
  show ((W.heap.push _).push _)[W.heap.size]? = _
  rw [Array.getElem?_push_lt (by simp), Array.getElem_push_eq]
theorem box_second {W w' : World} {b : Nat} {ob : Obj} (hb : W.heap.size = b) (hg : ((W.alloc ob).alloc (.cells #[.slice none 0 0, .int .i64 0] 26)).drew.grownBy w' (some b)) : Box0 w' (b + 1) := by
  subst hb
  unfold Box0
  rw [hg.block (W.heap.size + 1) (by simp) (by simp)]
  show ((W.heap.push ob).push _)[W.heap.size + 1]? = _
  rw [show W.heap.size + 1 = (W.heap.push ob).size by simp, Array.getElem?_push_size]
theorem Box0.apart {w : World} {b base n : Nat} {v : Value} {xs : List Value} (h : Box0 w b) (ho : w.ownsRow base 3 1 v n xs) : v.ownBlock ≠ some b := by
  intro e
  rcases ho.2 with ⟨rfl, _⟩ | ⟨g, cap, cur, rfl, _, hg, _⟩
  · simp [Value.ownBlock] at e
  · have e' : g = b := by simpa [Value.ownBlock] using e
    subst e'
    unfold Box0 at h
    rw [hg] at h
    simp at h
theorem stored_box {w : World} {b : Nat} {u0 u1 : Value} (h0 : w.cell? ⟨b, 0, none⟩ = some u0) (h1 : w.cell? ⟨b, 1, none⟩ = some u1) (x y : Value) :
    ((w.setCell ⟨b, 0, none⟩ x).setCell ⟨b, 1, none⟩ y).cell? ⟨b, 0, none⟩ = some x ∧ ((w.setCell ⟨b, 0, none⟩ x).setCell ⟨b, 1, none⟩ y).cell? ⟨b, 1, none⟩ = some y := by
  refine ⟨?_, ?_⟩
  · rw [World.cell?_setCell_other _ _ _ _ (fun e => by cases e), World.cell?_setCell_same _ _ _ h0]
  · refine World.cell?_setCell_same _ _ _ (u := u1) ?_
    rw [World.cell?_setCell_other _ _ _ _ (fun e => by cases e)]
    exact h1
theorem own_empty_at {w : World} {base g : Nat} (hg : w.heap.size = g) (hb : base ≤ g) : (w.alloc (.cells #[] 3)).ownsRow base 3 1 (.slice (some ⟨g, 0, none⟩) 0 0) 0 [] := by
  subst hg
  exact own_empty hb
theorem own_empty_box_drew {w : World} {base g : Nat} {ob : Obj} (hg : w.heap.size = g) (hb : base ≤ g) : ((w.alloc (.cells #[] 3)).alloc ob).drew.ownsRow base 3 1 (.slice (some ⟨g, 0, none⟩) 0 0) 0 [] := (own_empty_at hg hb).alloc ob
theorem news_of {w : World} {p o n : Nat} {xs : List Int} (h : IntAt w (some ⟨p, o, none⟩) n xs) : ∀ (j : Nat) (u : Value), (xs.map I)[j]? = some u → w.cell? ((⟨p, o, none⟩ : Addr).add j) = some u := by
  intro j u hj
  have hl := h.1
  have hj' : j < n := by
    rcases Nat.lt_or_ge j n with h1 | h1
    · exact h1
    · rw [List.getElem?_eq_none (by simp; omega)] at hj; cases hj
  have e : (⟨p, o, none⟩ : Addr).add j = ⟨p, o + j, none⟩ := by simp [Addr.add]
  rw [e, h.cells j hj']
  rw [List.getElem?_map, List.getElem?_eq_getElem (by omega)] at hj
  simpa [List.getD, show j < xs.length by omega] using hj

set_option maxHeartbeats 4000000 in
set_option maxRecDepth 100000 in
theorem implAfter_cap (a2 : Option Addr) (p o n cp n2 c2 : Nat) (st kind k v code : Int) (xs ys : List Int) (w : World) (hcp : n = 4 → cp = 4) (hA : IntAt w (some ⟨p, o, none⟩) n xs) (h2 : IntAt w a2 n2 ys) (hi : ∀ x ∈ xs, (Lit.int .i64 x).wf = true) :
    Calls Tryz.prog 9 #[.agg #[.slice (some ⟨p, o, none⟩) n cp, .int .i64 st], OpV kind k v, ResV code a2 n2 c2] w fun e w' => AfterSays e w w' n (AfterM xs st kind k v code ys) ∧ Below w.heap.size w w' := by
  obtain ⟨i0, hi0, hz0, hz1, hz2⟩ := info_parts infoInt
  have HA : Hid (IntAt w (some ⟨p, o, none⟩) n xs) := hA
  have HL : Hid (xs.length = n) := hA.1
  have hn := hA.2.1
  have H2 : Hid (IntAt w a2 n2 ys) := h2
  have HI : Hid (∀ x ∈ xs, (Lit.int .i64 x).wf = true) := hi
  clear hA h2 hi
  obtain ⟨W4, hW4⟩ : ∃ W4, W4 = ((((w.alloc (.cells #[.slice (some ⟨p, o, none⟩) n cp, .int .i64 st] 26)).alloc (.cells #[.int .i64 kind, .int .i64 k, .int .i64 v] 28)).alloc (.cells #[.int .i64 code, .slice a2 n2 c2] 33)).alloc (.cells #[.slice none 0 0, .int .i64 0] 26)) := ⟨_, rfl⟩
  have hs4 : W4.heap.size = w.heap.size + 1 + 1 + 1 + 1 := by rw [hW4]; simp
  have HC : Hid (∀ wr, Below (w.heap.size + 1 + 1 + 1 + 1) W4 wr → Four w #[.slice (some ⟨p, o, none⟩) n cp, .int .i64 st] #[.int .i64 kind, .int .i64 k, .int .i64 v] #[.int .i64 code, .slice a2 n2 c2] #[.slice none 0 0, .int .i64 0] wr ∧ Below w.heap.size w wr) := fun wr hb => by
    rw [hW4] at hb
    exact ⟨four_at w _ _ _ _ _ _ _ _ wr hb, (((((Below.refl _ w).alloc (Nat.le_refl _) _).alloc (by simp) _).alloc (by simp; omega) _).alloc (by simp; omega) _).trans (hb.mono (by omega))⟩
  have HBX : Hid (∀ wr, Below (w.heap.size + 1 + 1 + 1 + 1) W4 wr → wr.cell? ⟨w.heap.size, 0, none⟩ = some (.slice (some ⟨p, o, none⟩) n cp) ∧ wr.cell? ⟨w.heap.size, 1, none⟩ = some (.int .i64 st)) := fun wr hb => ⟨(HC.out wr hb).1.1 0 _ rfl, (HC.out wr hb).1.1 1 _ rfl⟩
  go_enter Tryz.func9, Tryz.ntmps9
  go_wp2_with fail
  rw [← hW4]
  clear hW4
  have hb4 : Below (w.heap.size + 1 + 1 + 1 + 1) W4 W4 := Below.refl _ _
  refine Code.wp_mono (Q := Exit.then (fun a' w' => ∃ (b e : Nat) (a9 : Option Addr) (c9 : Nat), a' = ⟨List.toArray (Value.agg #[Value.slice (some ⟨p, o, none⟩) n cp, Value.int IntKind.i64 st] :: OpV kind k v :: ResV code a2 n2 c2 :: Value.pointer (some ⟨w.heap.size, 0, none⟩) :: Value.pointer (some ⟨w.heap.size + 1, 0, none⟩) :: Value.pointer (some ⟨w.heap.size + 1 + 1, 0, none⟩) :: Value.pointer (some ⟨w.heap.size + 1 + 1 + 1, 0, none⟩) :: Value.pointer (some ⟨b, 0, none⟩) :: Value.slice (some ⟨e, 0, none⟩) 0 0 :: Value.pointer (some ⟨w.heap.size, 0, none⟩) :: Value.slice (some ⟨p, o, none⟩) n cp :: Value.slice a9 n c9 :: Value.pointer (some ⟨w.heap.size, 1, none⟩) :: Value.int IntKind.i64 st :: Value.agg #[Value.slice a9 n c9, Value.int IntKind.i64 st] :: undef :: undef :: undef :: undef :: undef :: undef :: undef :: undef :: undef :: undef :: undef :: undef :: undef :: undef :: undef :: []), []⟩ ∧ w'.cell? ⟨b, 0, none⟩ = some (.slice a9 n c9) ∧ w'.cell? ⟨b, 1, none⟩ = some (.int .i64 st) ∧ b < w'.heap.size ∧ (w.heap.size + 1 + 1 + 1 + 1) ≤ b ∧ w'.ownsRow (w.heap.size + 1 + 1 + 1 + 1) 3 1 (.slice a9 n c9) n (xs.map I) ∧ Below (w.heap.size + 1 + 1 + 1 + 1) W4 w') (fun _ _ _ => False)) ?rest ?reg
  case reg =>
    go_region_held3 (fun w' => w'.cell? ⟨w.heap.size, 0, none⟩ = some (.slice (some ⟨p, o, none⟩) n cp) ∧ w'.cell? ⟨w.heap.size, 1, none⟩ = some (.int .i64 st))
      (first | (exact HBX.out _ hb9) | (exact HBX.out _ (hb9.alloc (by omega) _)) | (exact HBX.out _ (hb9.setCell bge _)) | (exact HBX.out _ ((hb9.setCell bge _).setCell bge _)) | (exact HBX.out _ hb4.drew) | (exact HBX.out _ (hb4.alloc (by omega) _).drew) | (exact HBX.out _ ((hb4.alloc (by omega) _).alloc (by simp; omega) _).drew) | go_keep)
      (first
      | (refine step_append_own _ (by rfl) _ _ 24 (by rfl) (w.heap.size + 1 + 1 + 1 + 1) 3 i0 (.int .i64 0) 1 8 Tryz.underlying24 hi0 hz0 hz1 hz2 (by rfl) (by decide) _ 0 [] (by rfl) (by first | exact own_empty_drew (by simp [hs4]) (by omega) | exact own_empty_box_drew hs4 (by omega)) ⟨p, o, none⟩ n cp (xs.map I) (by rfl) (news_len HL.out) (news_of (HA.out.below (HC.out _ (by first | exact (hb4.alloc (by omega) _).drew | exact ((hb4.alloc (by omega) _).alloc (by simp; omega) _).drew)).2 (Nat.le_refl _))) news_one (by unfold maxLen; omega) (by omega) (by simp [hs4]) ?_
         intro v' w9 hown hgrow _
         have hown2 : w9.ownsRow (w.heap.size + 1 + 1 + 1 + 1) 3 1 v' n (xs.map I) := by simpa using hown
         obtain ⟨a9, c9, rfl, hat⟩ := own_at hown2 hn
         have hb9 : Below (w.heap.size + 1 + 1 + 1 + 1) W4 w9 := (show Below (w.heap.size + 1 + 1 + 1 + 1) W4 _ by first | exact (hb4.alloc (by omega) _).drew | exact ((hb4.alloc (by omega) _).alloc (by simp; omega) _).drew).grown hgrow (by simp [hs4]) (fun k e => by cases e; first | exact Nat.le_refl _ | exact Nat.le_succ _)
         have hs9 : w.heap.size + 1 + 1 + 1 + 1 ≤ w9.heap.size := by have h := hb9.size; omega
         first
           | (have hx := box_first hs4 hgrow
              have hne := hx.apart hown2
              obtain ⟨k0, k1, z0, z1, kl⟩ := hx.facts
              have bge : (w.heap.size + 1 + 1 + 1 + 1) ≤ w.heap.size + 1 + 1 + 1 + 1 := Nat.le_refl _)
           | (have hx := box_second hs4 hgrow
              have hne := hx.apart hown2
              obtain ⟨k0, k1, z0, z1, kl⟩ := hx.facts
              have bge : (w.heap.size + 1 + 1 + 1 + 1) ≤ w.heap.size + 1 + 1 + 1 + 1 + 1 := by omega)
           | skip))
    all_goals first
      | exact ⟨_, _, a9, c9, rfl, by simp, by simp, by simp, hs9, hown2.alloc _, hb9.alloc hs9 _⟩
      | exact ⟨_, _, a9, c9, rfl, (stored_box k0 k1 _ _).1, (stored_box k0 k1 _ _).2, by simpa [World.setCell] using kl, bge, own_setCell_far (own_setCell_far hown2 hne _) hne _, (hb9.setCell bge _).setCell bge _⟩
  case rest =>
    intro ex a' w9 h
    cases ex
    case normal =>
      obtain ⟨b, e, a9, c9, rfl, k0, k1, kl, bge, own9, hb9⟩ := h
      have hs9 : (w.heap.size + 1 + 1 + 1 + 1) ≤ w9.heap.size := by have h := hb9.size; omega
      have HB9 : Hid (Below (w.heap.size + 1 + 1 + 1 + 1) W4 w9) := hb9
      have OWN9 : Hid (w9.ownsRow (w.heap.size + 1 + 1 + 1 + 1) 3 1 (.slice a9 n c9) n (xs.map I)) := own9
      have c0 := (HC.out _ hb9).1.1 0 _ rfl
      have c1 := (HC.out _ hb9).1.1 1 _ rfl
      have d0 := (HC.out _ hb9).1.2.1 0 _ rfl
      have d1 := (HC.out _ hb9).1.2.1 1 _ rfl
      have d2 := (HC.out _ hb9).1.2.1 2 _ rfl
      have f0 := (HC.out _ hb9).1.2.2.1 0 _ rfl
      have f1 := (HC.out _ hb9).1.2.2.1 1 _ rfl
      have v0 := (HC.out _ hb9).1.2.2.2.1 0 _ rfl
      have v1 := (HC.out _ hb9).1.2.2.2.1 1 _ rfl
      have y0 := (HC.out _ hb9).1.2.2.2.2 0
      have y1 := (HC.out _ hb9).1.2.2.2.2 1
      clear own9 hb4 hi0 hz0 hz1 hz2
      by_cases hc : code = 0
      · subst hc
        go_wp2_with fail
        refine (implAllowed_cap p o n cp n2 c2 a2 st kind k v 0 xs ys _ hcp (HA.out.below (HC.out _ HB9.out).2 (Nat.le_refl _)) (H2.out.below (HC.out _ HB9.out).2 (Nat.le_refl _)) HI.out).mono ?_
        rintro e' w10 ⟨⟨ok, rfl, hok⟩, hb10⟩
        have HOK : Hid (ok = true ↔ AllowM xs st kind k v 0 ys) := hok
        have OWN10 : Hid (w10.ownsRow (w.heap.size + 1 + 1 + 1 + 1) 3 1 (.slice a9 n c9) n (xs.map I)) := owns_below OWN9.out hb10 (Nat.le_refl _)
        have k0 : w10.cell? ⟨b, 0, none⟩ = some (.slice a9 n c9) := (hb10.cell (show b < _ from kl)).trans k0
        have k1 : w10.cell? ⟨b, 1, none⟩ = some (.int .i64 st) := (hb10.cell (show b < _ from kl)).trans k1
        have hbA : Below (w.heap.size + 1 + 1 + 1 + 1) W4 w10 := HB9.out.trans (hb10.mono hs9)
        have hs10 : (w.heap.size + 1 + 1 + 1 + 1) ≤ w10.heap.size := by have h := hbA.size; omega
        have HB10 : Hid (Below (w.heap.size + 1 + 1 + 1 + 1) W4 w10) := hbA
        have hbl10 : b < w10.heap.size := Nat.lt_of_lt_of_le kl hb10.size
        clear c0 c1 d0 d1 d2 f0 f1 v0 v1 y0 y1 hb9
        have c0 := (HC.out _ hbA).1.1 0 _ rfl
        have c1 := (HC.out _ hbA).1.1 1 _ rfl
        have d0 := (HC.out _ hbA).1.2.1 0 _ rfl
        have d1 := (HC.out _ hbA).1.2.1 1 _ rfl
        have d2 := (HC.out _ hbA).1.2.1 2 _ rfl
        have v0 := (HC.out _ hbA).1.2.2.2.1 0 _ rfl
        have v1 := (HC.out _ hbA).1.2.2.2.1 1 _ rfl
        have y0 := (HC.out _ hbA).1.2.2.2.2 0
        have y1 := (HC.out _ hbA).1.2.2.2.2 1
        clear hok hb10 hbA
        cases ok
        · have HM : Hid (AfterM xs st kind k v 0 ys xs st) := .inr ⟨fun h => (by have := HOK.out.2 h.1; cases this), rfl, rfl⟩
          go_wp2
          (try simp only [Exit.inBlock, Exit.then])
          refine bodyPost_ret (by simp [results, Tryz.results9, go_sem, v0, v1]; try rfl) rfl ?_
          exact ⟨⟨xs, st, a9, c9, rfl, HM.out, own_weaken (ownsRow_setCell_below (ownsRow_setCell_below OWN10.out (by simp) _) (by simp) _) (by omega)⟩, (((HC.out _ HB10.out).2).setCell (by simp; omega) _).setCell (by simp; omega) _⟩
        · have hal := HOK.out.1 rfl
          obtain rfl : n = 4 := by rw [← HL.out]; exact hal.1.1
          have HAL : Hid (AllowM xs st kind k v 0 ys) := hal
          clear hal HOK
          obtain ⟨g, rfl⟩ : ∃ g, a9 = some ⟨g, 0, none⟩ := by
            rcases OWN10.out.2 with ⟨_, h0⟩ | ⟨g, cap, cur, hv, _⟩
            · omega
            · simp only [Value.slice.injEq] at hv
              exact ⟨g, hv.1⟩
          go_wp2_with fail
          go_region_with (first
            | (go_at_call 19
               refine (implDeedOf_any kind k v _).mono ?_
               rintro e11 w11 ⟨rfl, hb11⟩
               have k0 : w11.cell? ⟨b, 0, none⟩ = some (.slice (some ⟨g, 0, none⟩) 4 c9) := (hb11.cell (show b < _ by simpa using hbl10)).trans (by simpa using k0)
               have k1 : w11.cell? ⟨b, 1, none⟩ = some (.int .i64 st) := (hb11.cell (show b < _ by simpa using hbl10)).trans (by simpa using k1)
               have HB11 : Hid (Below (w.heap.size + 1 + 1 + 1 + 1) W4 w11) := HB10.out.drew.trans (hb11.mono (by simpa using hs10))
               have OWN11 : Hid (w11.ownsRow (w.heap.size + 1 + 1 + 1 + 1) 3 1 (.slice (some ⟨g, 0, none⟩) 4 c9) 4 (xs.map I)) := owns_below (w := w10.drew) OWN10.out hb11 (Nat.le_refl _)
               have hs11 : (w.heap.size + 1 + 1 + 1 + 1) ≤ w11.heap.size := by have h := HB11.out.size; omega
               clear hb11)
            | (go_at_call 39
               refine (turn_any (w.heap.size + 1 + 1 + 1 + 1) g c9 st kind k v xs _ OWN11.out hs11 HAL.out.2.1 ⟨HAL.out.1.2.1, HAL.out.1.2.2.1⟩).mono ?_
               rintro e12 w12 ⟨zs, st', rfl, hT, own12, hb12⟩
               have HT : Hid (TurnM xs st kind k v zs st') := hT
               have OWN12 : Hid (w12.ownsRow (w.heap.size + 1 + 1 + 1 + 1) 3 1 (.slice (some ⟨g, 0, none⟩) 4 c9) 4 (zs.map I)) := own12
               have hbB : Below (w.heap.size + 1 + 1 + 1 + 1) W4 w12 := HB11.out.trans hb12
               have HB12 : Hid (Below (w.heap.size + 1 + 1 + 1 + 1) W4 w12) := hbB
               have v0 := (HC.out _ hbB).1.2.2.2.1 0 _ rfl
               have v1 := (HC.out _ hbB).1.2.2.2.1 1 _ rfl
               have y0 := (HC.out _ hbB).1.2.2.2.2 0
               have y1 := (HC.out _ hbB).1.2.2.2.2 1
               have hs12 : (w.heap.size + 1 + 1 + 1 + 1) ≤ w12.heap.size := by have h := hbB.size; omega
               clear own12 hb12 hbB hT))
          all_goals
            go_wp2
            (try simp only [Exit.inBlock, Exit.then])
            refine bodyPost_ret (by simp [results, Tryz.results9, go_sem, v0, v1]; try rfl) rfl ?_
            exact ⟨⟨zs, st', some ⟨g, 0, none⟩, c9, rfl, .inl ⟨HAL.out, rfl, HT.out⟩, own_weaken (ownsRow_setCell_below (ownsRow_setCell_below OWN12.out (by simp) _) (by simp) _) (by omega)⟩, (((HC.out _ HB12.out).2).setCell (by simp; omega) _).setCell (by simp; omega) _⟩
      · have hc' : (code != 0) = true := by simpa using hc
        have HM : Hid (AfterM xs st kind k v code ys xs st) := .inr ⟨fun h => hc h.2, rfl, rfl⟩
        clear hc
        go_wp2
        (try simp only [Exit.inBlock, Exit.then])
        refine bodyPost_ret (by simp [results, Tryz.results9, go_sem, v0, v1]; try rfl) rfl ?_
        exact ⟨⟨xs, st, a9, c9, rfl, HM.out, own_weaken (ownsRow_setCell_below (ownsRow_setCell_below OWN9.out (by simp) _) (by simp) _) (by omega)⟩, (((HC.out _ HB9.out).2).setCell (by simp; omega) _).setCell (by simp; omega) _⟩
    all_goals exact h.elim
theorem implAfter_any (a2 : Option Addr) (p o n n2 c2 : Nat) (st kind k v code : Int) (xs ys : List Int) (w : World) (hA : IntAt w (some ⟨p, o, none⟩) n xs) (h2 : IntAt w a2 n2 ys) (hi : ∀ x ∈ xs, (Lit.int .i64 x).wf = true) :
    Calls Tryz.prog 9 #[.agg #[.slice (some ⟨p, o, none⟩) n n, .int .i64 st], OpV kind k v, ResV code a2 n2 c2] w fun e w' => AfterSays e w w' n (AfterM xs st kind k v code ys) ∧ Below w.heap.size w w' :=
  implAfter_cap a2 p o n n n2 c2 st kind k v code xs ys w id hA h2 hi
end Go.Proofs.YtenlapppaimkkaeGreatDoor

/- What comes of what is done, and of what is not (no program). -/
namespace Go.Proofs.YtenlapppaimkkaeGreatDoor
theorem not_done_same {xs : List Int} {st kind k v code : Int} {ys zs : List Int} {st' : Int} (h : AfterM xs st kind k v code ys zs st') (hc : code ≠ 0) : zs = xs ∧ st' = st := by
  rcases h with ⟨_, h2, _⟩ | ⟨_, h⟩
  · exact absurd h2 hc
  · exact h
theorem done_is {xs : List Int} {st kind k v code : Int} {ys zs : List Int} {st' : Int} (h : AfterM xs st kind k v code ys zs st') (ha : AllowM xs st kind k v code ys) (hc : code = 0) :
    ((kind = 1 ∨ kind = 2) ∧ zs = xs.set k.toNat v ∧ st' = st) ∨ (kind = 3 ∧ zs = xs.set k.toNat 0 ∧ st' = st) ∨ ((kind = 8 ∨ kind = 9) ∧ zs = xs ∧ st' = st + 1) ∨ ((4 ≤ kind ∧ kind ≤ 7 ∨ kind = 10) ∧ zs = xs ∧ st' = st) := by
  rcases h with ⟨_, _, h3⟩ | ⟨h, _⟩
  · exact h3
  · exact absurd ⟨ha, hc⟩ h
end Go.Proofs.YtenlapppaimkkaeGreatDoor
