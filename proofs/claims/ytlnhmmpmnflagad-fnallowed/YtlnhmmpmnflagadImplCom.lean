/- impl.comingsOf at any op that fits. -/
import Derived.Test.YtlnhmmpmnflagadImplCom1
import Derived.Test.YtlnhmmpmnflagadImplCom2
import Derived.Test.YtlnhmmpmnflagadImplCom3
import Derived.Test.YtlnhmmpmnflagadImplCom4
import Derived.Test.YtlnhmmpmnflagadImplCom5
import Derived.Test.YtlnhmmpmnflagadImplCom6
import Derived.Test.YtlnhmmpmnflagadImplCom7
import Derived.Test.YtlnhmmpmnflagadComLL
namespace Go.Proofs.Ytlnhmmpmnflagad
open Go.ChangeShapes Go.WideShapes Go.ChangeAt Go.RowKit Go.Maps

theorem atK_nat (xs : List Int) (j : Nat) : atK xs (j : Int) = xs.getD j 0 := by simp [atK]
theorem comAny_1 (p o : Nat) (st : Int) (xs : List Int) (w : World) (hA : IntAt w (some ⟨p, o, none⟩) 4 xs) (hi : ∀ x ∈ xs, (Lit.int .i64 x).wf = true) (k : Int) (hk : 0 ≤ k ∧ k ≤ 3) (v : Int) (hv : 1 ≤ v ∧ v ≤ 6) :
    Calls Try.prog 23 #[.agg #[.slice (some ⟨p, o, none⟩) 4 4, .int .i64 st], DeedV 1 k v] w fun e w' => ComSays e w w' (comLL xs st 1 k v) ∧ Below w.heap.size w w' := by
  obtain ⟨j, rfl⟩ : ∃ j : Nat, k = j := ⟨k.toNat, by omega⟩
  have hj : j < 4 := by omega
  rw [show DeedV 1 (j : Int) v = .iface 71 (OpV 1 (j : Int) v) from rfl]
  by_cases h0 : xs.getD j 0 = 0
  · rcases (show keyN xs v < 0 ∨ 0 ≤ keyN xs v by omega) with hq | hq
    · rw [show comLL xs st 1 (j : Int) v = [(0, [])] by rw [comLL, if_pos rfl, atK_nat, if_pos h0, if_pos hq]]
      exact com_1_00 p o j st _ xs w hA hi hj rfl v _ hv rfl h0 hq
    · rw [show comLL xs st 1 (j : Int) v = [(2, [])] by rw [comLL, if_pos rfl, atK_nat, if_pos h0, if_neg (by omega)]]
      exact com_1_01 p o j st _ xs w hA hi hj rfl v _ hv rfl h0 hq
  · rcases (show keyN xs v < 0 ∨ 0 ≤ keyN xs v by omega) with hq | hq
    · rw [show comLL xs st 1 (j : Int) v = [(1, [])] by rw [comLL, if_pos rfl, atK_nat, if_neg h0, if_pos hq]]
      exact com_1_10 p o j st _ xs w hA hi hj rfl v _ hv rfl h0 hq
    · rw [show comLL xs st 1 (j : Int) v = [(1, []), (2, [])] by rw [comLL, if_pos rfl, atK_nat, if_neg h0, if_neg (by omega)]]
      exact com_1_11 p o j st _ xs w hA hi hj rfl v _ hv rfl h0 hq
theorem comAny_2 (p o : Nat) (st : Int) (xs : List Int) (w : World) (hA : IntAt w (some ⟨p, o, none⟩) 4 xs) (hi : ∀ x ∈ xs, (Lit.int .i64 x).wf = true) (k : Int) (hk : 0 ≤ k ∧ k ≤ 3) (v : Int) (hv : 1 ≤ v ∧ v ≤ 6) :
    Calls Try.prog 23 #[.agg #[.slice (some ⟨p, o, none⟩) 4 4, .int .i64 st], DeedV 2 k v] w fun e w' => ComSays e w w' (comLL xs st 2 k v) ∧ Below w.heap.size w w' := by
  obtain ⟨j, rfl⟩ : ∃ j : Nat, k = j := ⟨k.toNat, by omega⟩
  have hj : j < 4 := by omega
  rw [show DeedV 2 (j : Int) v = .iface 74 (OpV 2 (j : Int) v) from rfl]
  by_cases h0 : xs.getD j 0 = 0
  · rcases (show keyN xs v < 0 ∨ 0 ≤ keyN xs v by omega) with hq | hq
    · rw [show comLL xs st 2 (j : Int) v = [(3, [])] by rw [comLL, if_neg (by omega), if_pos rfl, atK_nat, if_pos h0, if_pos hq]]
      exact com_2_00 p o j st _ xs w hA hi hj rfl v _ hv rfl h0 hq
    · rw [show comLL xs st 2 (j : Int) v = [(3, []), (2, [])] by rw [comLL, if_neg (by omega), if_pos rfl, atK_nat, if_pos h0, if_neg (by omega)]]
      exact com_2_01 p o j st _ xs w hA hi hj rfl v _ hv rfl h0 hq
  · rcases (show keyN xs v < 0 ∨ 0 ≤ keyN xs v by omega) with hq | hq
    · rw [show comLL xs st 2 (j : Int) v = [(0, [])] by rw [comLL, if_neg (by omega), if_pos rfl, atK_nat, if_neg h0, if_pos hq]]
      exact com_2_10 p o j st _ xs w hA hi hj rfl v _ hv rfl h0 hq
    · by_cases he : keyN xs v = (j : Int)
      · rw [show comLL xs st 2 (j : Int) v = [(2, []), (0, [])] by rw [comLL, if_neg (by omega), if_pos rfl, atK_nat, if_neg h0, if_neg (by omega), if_pos he]]
        exact com_2_11 p o j st _ xs w hA hi hj rfl v _ hv rfl h0 hq he
      · rw [show comLL xs st 2 (j : Int) v = [(2, [])] by rw [comLL, if_neg (by omega), if_pos rfl, atK_nat, if_neg h0, if_neg (by omega), if_neg he]]
        exact com_2_12 p o j st _ xs w hA hi hj rfl v _ hv rfl h0 hq he
theorem comAny_3 (p o : Nat) (st : Int) (xs : List Int) (w : World) (hA : IntAt w (some ⟨p, o, none⟩) 4 xs) (hi : ∀ x ∈ xs, (Lit.int .i64 x).wf = true) (k : Int) (hk : 0 ≤ k ∧ k ≤ 3) :
    Calls Try.prog 23 #[.agg #[.slice (some ⟨p, o, none⟩) 4 4, .int .i64 st], DeedV 3 k 0] w fun e w' => ComSays e w w' (comLL xs st 3 k 0) ∧ Below w.heap.size w w' := by
  obtain ⟨j, rfl⟩ : ∃ j : Nat, k = j := ⟨k.toNat, by omega⟩
  have hj : j < 4 := by omega
  rw [show DeedV 3 (j : Int) 0 = .iface 75 (OpV 3 (j : Int) 0) from rfl]
  by_cases h0 : xs.getD j 0 = 0
  · rw [show comLL xs st 3 (j : Int) 0 = [(3, [])] by rw [comLL, if_neg (by omega), if_neg (by omega), if_pos rfl, atK_nat, if_pos h0]]
    exact com_3_0 p o j st _ xs w hA hi hj rfl h0
  · rw [show comLL xs st 3 (j : Int) 0 = [(0, [])] by rw [comLL, if_neg (by omega), if_neg (by omega), if_pos rfl, atK_nat, if_neg h0]]
    exact com_3_1 p o j st _ xs w hA hi hj rfl h0
theorem comAny_4 (p o : Nat) (st : Int) (xs : List Int) (w : World) (hA : IntAt w (some ⟨p, o, none⟩) 4 xs) (hi : ∀ x ∈ xs, (Lit.int .i64 x).wf = true) (k : Int) (hk : 0 ≤ k ∧ k ≤ 3) :
    Calls Try.prog 23 #[.agg #[.slice (some ⟨p, o, none⟩) 4 4, .int .i64 st], DeedV 4 k 0] w fun e w' => ComSays e w w' (comLL xs st 4 k 0) ∧ Below w.heap.size w w' := by
  obtain ⟨j, rfl⟩ : ∃ j : Nat, k = j := ⟨k.toNat, by omega⟩
  have hj : j < 4 := by omega
  rw [show DeedV 4 (j : Int) 0 = .iface 76 (OpV 4 (j : Int) 0) from rfl]
  by_cases h0 : xs.getD j 0 = 0
  · rw [show comLL xs st 4 (j : Int) 0 = [(3, [])] by rw [comLL, if_neg (by omega), if_neg (by omega), if_neg (by omega), if_pos rfl, atK_nat, if_pos h0]]
    exact com_4_0 p o j st _ xs w hA hi hj rfl h0
  · rw [show comLL xs st 4 (j : Int) 0 = [(0, [xs.getD j 0])] by rw [comLL, if_neg (by omega), if_neg (by omega), if_neg (by omega), if_pos rfl, atK_nat, if_neg h0]]
    exact com_4_1 p o j st _ xs w hA hi hj rfl h0
theorem comAny_5 (p o : Nat) (st : Int) (xs : List Int) (w : World) (hA : IntAt w (some ⟨p, o, none⟩) 4 xs) (hi : ∀ x ∈ xs, (Lit.int .i64 x).wf = true) (v : Int) (hv : 1 ≤ v ∧ v ≤ 6) :
    Calls Try.prog 23 #[.agg #[.slice (some ⟨p, o, none⟩) 4 4, .int .i64 st], DeedV 5 0 v] w fun e w' => ComSays e w w' (comLL xs st 5 0 v) ∧ Below w.heap.size w w' := by
  have hj : (0 : Nat) < 4 := by omega
  rw [show DeedV 5 0 v = .iface 77 (OpV 5 0 v) from rfl]
  rcases (show keyN xs v < 0 ∨ 0 ≤ keyN xs v by omega) with hq | hq
  · rw [show comLL xs st 5 0 v = [(3, [])] by rw [comLL, if_neg (by omega), if_neg (by omega), if_neg (by omega), if_neg (by omega), if_pos rfl, if_pos hq]]
    exact com_5_0 p o 0 st _ xs w hA hi hj rfl v _ hv rfl hq
  · rw [show comLL xs st 5 0 v = [(0, [keyN xs v])] by rw [comLL, if_neg (by omega), if_neg (by omega), if_neg (by omega), if_neg (by omega), if_pos rfl, if_neg (by omega)]]
    exact com_5_1 p o 0 st _ xs w hA hi hj rfl v _ hv rfl hq
theorem comAny_6 (p o : Nat) (st : Int) (xs : List Int) (w : World) (hA : IntAt w (some ⟨p, o, none⟩) 4 xs) (hi : ∀ x ∈ xs, (Lit.int .i64 x).wf = true) (c : Int) :
    Calls Try.prog 23 #[.agg #[.slice (some ⟨p, o, none⟩) 4 4, .int .i64 st], DeedV 6 c 0] w fun e w' => ComSays e w w' (comLL xs st 6 c 0) ∧ Below w.heap.size w w' := by
  have hj : (0 : Nat) < 4 := by omega
  rw [show DeedV 6 c 0 = .iface 78 (OpV 6 c 0) from rfl]
  rw [show comLL xs st 6 c 0 = [(0, [cntK xs c 4])] by rw [comLL, if_neg (by omega), if_neg (by omega), if_neg (by omega), if_neg (by omega), if_neg (by omega), if_pos rfl]]
  exact com_6 p o 0 st _ xs w hA hi hj rfl c
theorem comAny_7 (p o : Nat) (st : Int) (xs : List Int) (w : World) (hA : IntAt w (some ⟨p, o, none⟩) 4 xs) (hi : ∀ x ∈ xs, (Lit.int .i64 x).wf = true) :
    Calls Try.prog 23 #[.agg #[.slice (some ⟨p, o, none⟩) 4 4, .int .i64 st], DeedV 7 0 0] w fun e w' => ComSays e w w' (comLL xs st 7 0 0) ∧ Below w.heap.size w w' := by
  have hj : (0 : Nat) < 4 := by omega
  rw [show DeedV 7 0 0 = .iface 79 (OpV 7 0 0) from rfl]
  rw [show comLL xs st 7 0 0 = [(0, xs)] by rw [comLL, if_neg (by omega), if_neg (by omega), if_neg (by omega), if_neg (by omega), if_neg (by omega), if_neg (by omega), if_pos rfl]]
  exact com_7 p o 0 st _ xs w hA hi hj rfl
theorem comAny_8 (p o : Nat) (st : Int) (xs : List Int) (w : World) (hA : IntAt w (some ⟨p, o, none⟩) 4 xs) (hi : ∀ x ∈ xs, (Lit.int .i64 x).wf = true) :
    Calls Try.prog 23 #[.agg #[.slice (some ⟨p, o, none⟩) 4 4, .int .i64 st], DeedV 8 0 0] w fun e w' => ComSays e w w' (comLL xs st 8 0 0) ∧ Below w.heap.size w w' := by
  have hj : (0 : Nat) < 4 := by omega
  rw [show DeedV 8 0 0 = .iface 80 (OpV 8 0 0) from rfl]
  by_cases h0 : st = 0
  · rw [show comLL xs st 8 0 0 = [(0, [])] by rw [comLL, if_neg (by omega), if_neg (by omega), if_neg (by omega), if_neg (by omega), if_neg (by omega), if_neg (by omega), if_neg (by omega), if_pos rfl, if_pos h0]]
    exact com_8_0 p o 0 st _ xs w hA hi hj rfl h0
  · rw [show comLL xs st 8 0 0 = [(4, [])] by rw [comLL, if_neg (by omega), if_neg (by omega), if_neg (by omega), if_neg (by omega), if_neg (by omega), if_neg (by omega), if_neg (by omega), if_pos rfl, if_neg h0]]
    exact com_8_1 p o 0 st _ xs w hA hi hj rfl h0
theorem comAny_9 (p o : Nat) (st : Int) (xs : List Int) (w : World) (hA : IntAt w (some ⟨p, o, none⟩) 4 xs) (hi : ∀ x ∈ xs, (Lit.int .i64 x).wf = true) :
    Calls Try.prog 23 #[.agg #[.slice (some ⟨p, o, none⟩) 4 4, .int .i64 st], DeedV 9 0 0] w fun e w' => ComSays e w w' (comLL xs st 9 0 0) ∧ Below w.heap.size w w' := by
  have hj : (0 : Nat) < 4 := by omega
  rw [show DeedV 9 0 0 = .iface 81 (OpV 9 0 0) from rfl]
  by_cases h0 : st = 0
  · rw [show comLL xs st 9 0 0 = [(4, [])] by rw [comLL, if_neg (by omega), if_neg (by omega), if_neg (by omega), if_neg (by omega), if_neg (by omega), if_neg (by omega), if_neg (by omega), if_neg (by omega), if_pos rfl, if_pos h0]]
    exact com_9_0 p o 0 st _ xs w hA hi hj rfl h0
  · by_cases h5 : st = 5
    · rw [show comLL xs st 9 0 0 = [(4, [])] by rw [comLL, if_neg (by omega), if_neg (by omega), if_neg (by omega), if_neg (by omega), if_neg (by omega), if_neg (by omega), if_neg (by omega), if_neg (by omega), if_pos rfl, if_neg h0, if_pos h5]]
      exact com_9_5 p o 0 st _ xs w hA hi hj rfl h0 h5
    · rw [show comLL xs st 9 0 0 = [(0, [])] by rw [comLL, if_neg (by omega), if_neg (by omega), if_neg (by omega), if_neg (by omega), if_neg (by omega), if_neg (by omega), if_neg (by omega), if_neg (by omega), if_pos rfl, if_neg h0, if_neg h5]]
      exact com_9_1 p o 0 st _ xs w hA hi hj rfl h0 h5
theorem comAny_10 (p o : Nat) (st : Int) (xs : List Int) (w : World) (hA : IntAt w (some ⟨p, o, none⟩) 4 xs) (hi : ∀ x ∈ xs, (Lit.int .i64 x).wf = true) (v : Int) (hv : 1 ≤ v ∧ v ≤ 6) :
    Calls Try.prog 23 #[.agg #[.slice (some ⟨p, o, none⟩) 4 4, .int .i64 st], DeedV 10 0 v] w fun e w' => ComSays e w w' (comLL xs st 10 0 v) ∧ Below w.heap.size w w' := by
  have hj : (0 : Nat) < 4 := by omega
  rw [show DeedV 10 0 v = .iface 82 (OpV 10 0 v) from rfl]
  by_cases h5 : st = 5
  · rcases (show keyN xs v < 0 ∨ 0 ≤ keyN xs v by omega) with hq | hq
    · rw [show comLL xs st 10 0 v = [(3, [])] by rw [comLL, if_neg (by omega), if_neg (by omega), if_neg (by omega), if_neg (by omega), if_neg (by omega), if_neg (by omega), if_neg (by omega), if_neg (by omega), if_neg (by omega), if_pos h5, if_pos hq]]
      exact com_10_0 p o 0 st _ xs w hA hi hj rfl v _ hv rfl h5 hq
    · rw [show comLL xs st 10 0 v = [(0, [keyN xs v])] by rw [comLL, if_neg (by omega), if_neg (by omega), if_neg (by omega), if_neg (by omega), if_neg (by omega), if_neg (by omega), if_neg (by omega), if_neg (by omega), if_neg (by omega), if_pos h5, if_neg (by omega)]]
      exact com_10_1 p o 0 st _ xs w hA hi hj rfl v _ hv rfl h5 hq
  · rw [show comLL xs st 10 0 v = [(4, [])] by rw [comLL, if_neg (by omega), if_neg (by omega), if_neg (by omega), if_neg (by omega), if_neg (by omega), if_neg (by omega), if_neg (by omega), if_neg (by omega), if_neg (by omega), if_neg h5]]
    rcases (show keyN xs v < 0 ∨ 0 ≤ keyN xs v by omega) with hq | hq
    · exact com_10_n p o 0 st _ xs w hA hi hj rfl v _ hv rfl h5 hq
    · exact com_10_m p o 0 st _ xs w hA hi hj rfl v _ hv rfl h5 hq

theorem comAny (p o : Nat) (st kind k v : Int) (xs : List Int) (w : World) (hA : IntAt w (some ⟨p, o, none⟩) 4 xs) (hi : ∀ x ∈ xs, (Lit.int .i64 x).wf = true) (hop : OpGood kind k v) :
    Calls Try.prog 23 #[.agg #[.slice (some ⟨p, o, none⟩) 4 4, .int .i64 st], DeedV kind k v] w fun e w' => ComSays e w w' (comLL xs st kind k v) ∧ Below w.heap.size w w' := by
  obtain ⟨hk, hkey, hval⟩ := hop
  unfold KeyGood at hkey
  unfold ValGood at hval
  rcases kinds hk with rfl | rfl | rfl | rfl | rfl | rfl | rfl | rfl | rfl | rfl
  · exact comAny_1 p o st xs w hA hi k (by omega) v (by omega)
  · exact comAny_2 p o st xs w hA hi k (by omega) v (by omega)
  · obtain rfl : v = 0 := by omega
    exact comAny_3 p o st xs w hA hi k (by omega)
  · obtain rfl : v = 0 := by omega
    exact comAny_4 p o st xs w hA hi k (by omega)
  · obtain rfl : k = 0 := by omega
    exact comAny_5 p o st xs w hA hi v (by omega)
  · obtain rfl : v = 0 := by omega
    exact comAny_6 p o st xs w hA hi k
  · obtain rfl : v = 0 := by omega
    obtain rfl : k = 0 := by omega
    exact comAny_7 p o st xs w hA hi
  · obtain rfl : v = 0 := by omega
    obtain rfl : k = 0 := by omega
    exact comAny_8 p o st xs w hA hi
  · obtain rfl : v = 0 := by omega
    obtain rfl : k = 0 := by omega
    exact comAny_9 p o st xs w hA hi
  · obtain rfl : k = 0 := by omega
    exact comAny_10 p o st xs w hA hi v (by omega)
theorem com_mem (xs : List Int) (st kind k v code : Int) (ys : List Int) (hst : 0 ≤ st ∧ st ≤ 5) (hk : 1 ≤ kind ∧ kind ≤ 10) :
    (code, ys) ∈ comLL xs st kind k v ↔ ((code ≠ 0 ∧ ys = [] ∧ FailsM xs st kind k v code) ∨ (code = 0 ∧ DoneM xs st kind k v ∧ listM xs kind k v = ys)) := by
  rcases kinds hk with rfl | rfl | rfl | rfl | rfl | rfl | rfl | rfl | rfl | rfl
  · exact com_mem_1 xs st k v code ys hst
  · exact com_mem_2 xs st k v code ys hst
  · exact com_mem_3 xs st k v code ys hst
  · exact com_mem_4 xs st k v code ys hst
  · exact com_mem_5 xs st k v code ys hst
  · exact com_mem_6 xs st k v code ys hst
  · exact com_mem_7 xs st k v code ys hst
  · exact com_mem_8 xs st k v code ys hst
  · exact com_mem_9 xs st k v code ys hst
  · exact com_mem_10 xs st k v code ys hst
end Go.Proofs.Ytlnhmmpmnflagad
