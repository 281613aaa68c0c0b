/- Texts joined: ComR, AllowR, AfterR, OpenDesc, Descs, Descs2, OpenW, LawMem, MemO. -/
import Derived.Test.YtbfolanfbagofaaGreatDoorQA26
import Derived.Test.YtbfolanfbagofaaGreatDoorQA27
import Derived.Test.YtbfolanfbagofaaGreatDoorQA28
import Derived.Test.YtbfolanfbagofaaGreatDoorQA29
import Derived.Test.YtbfolanfbagofaaGreatDoorQA15
import Derived.Test.YtbfolanfbagofaaGreatDoorQA08
import Derived.OpenShut
import Derived.ChangeOld
import Derived.Test.YtbfolanfbagofaaGreatDoorQA10
import Derived.Deep.RegionHeld3
import Derived.Test.YtbfolanfbagofaaGreatDoorQA01
import Derived.Test.YtbfolanfbagofaaGreatDoorQA11
import Derived.Lib.SmallJoins
set_option maxHeartbeats 4000000
set_option maxRecDepth 100000
namespace Go.Proofs.YtbfolanfbagofaaGreatDoor
section
open Go.ChangeShapes Go.WideShapes Go.ChangeAt Go.RowKit Go.Maps
theorem comAnyR_1 (p o cp : Nat) (hcp : 4 ≤ cp) (st : Int) (xs : List Int) (w : World) (hA : IntAt w (some ⟨p, o, none⟩) 4 xs) (hi : ∀ x ∈ xs, (Lit.int .i64 x).wf = true) (k : Int) (hk : 0 ≤ k ∧ k ≤ 3) (v : Int) (hv : 1 ≤ v ∧ v ≤ 6) :
   Calls Tryz.prog 133 #[.agg #[.slice (some ⟨p, o, none⟩) 4 cp, .int .i64 st], DeedV 1 k v] w fun e w' => ComSays e w w' (comLL xs st 1 k v) ∧ Below w.heap.size w w' := by
 obtain ⟨j, rfl⟩ : ∃ j : Nat, k = j := ⟨k.toNat, by omega⟩
 have hj : j < 4 := by omega
 rw [show DeedV 1 (j : Int) v = .iface 221 (OpV 1 (j : Int) v) from rfl]
 by_cases h0 : xs.getD j 0 = 0
 · rcases (show keyN xs v < 0 ∨ 0 ≤ keyN xs v by omega) with hq | hq
   · rw [show comLL xs st 1 (j : Int) v = [(0, [])] by rw [comLL, if_pos rfl, atK_nat, if_pos h0, if_pos hq]]
     exact comR_1_00 p o cp hcp j st _ xs w hA hi hj rfl v _ hv rfl h0 hq
   · rw [show comLL xs st 1 (j : Int) v = [(2, [])] by rw [comLL, if_pos rfl, atK_nat, if_pos h0, if_neg (by omega)]]
     exact comR_1_01 p o cp hcp j st _ xs w hA hi hj rfl v _ hv rfl h0 hq
 · rcases (show keyN xs v < 0 ∨ 0 ≤ keyN xs v by omega) with hq | hq
   · rw [show comLL xs st 1 (j : Int) v = [(1, [])] by rw [comLL, if_pos rfl, atK_nat, if_neg h0, if_pos hq]]
     exact comR_1_10 p o cp hcp j st _ xs w hA hi hj rfl v _ hv rfl h0 hq
   · rw [show comLL xs st 1 (j : Int) v = [(1, []), (2, [])] by rw [comLL, if_pos rfl, atK_nat, if_neg h0, if_neg (by omega)]]
     exact comR_1_11 p o cp hcp j st _ xs w hA hi hj rfl v _ hv rfl h0 hq
theorem comAnyR_2 (p o cp : Nat) (hcp : 4 ≤ cp) (st : Int) (xs : List Int) (w : World) (hA : IntAt w (some ⟨p, o, none⟩) 4 xs) (hi : ∀ x ∈ xs, (Lit.int .i64 x).wf = true) (k : Int) (hk : 0 ≤ k ∧ k ≤ 3) (v : Int) (hv : 1 ≤ v ∧ v ≤ 6) :
   Calls Tryz.prog 133 #[.agg #[.slice (some ⟨p, o, none⟩) 4 cp, .int .i64 st], DeedV 2 k v] w fun e w' => ComSays e w w' (comLL xs st 2 k v) ∧ Below w.heap.size w w' := by
 obtain ⟨j, rfl⟩ : ∃ j : Nat, k = j := ⟨k.toNat, by omega⟩
 have hj : j < 4 := by omega
 rw [show DeedV 2 (j : Int) v = .iface 223 (OpV 2 (j : Int) v) from rfl]
 by_cases h0 : xs.getD j 0 = 0
 · rcases (show keyN xs v < 0 ∨ 0 ≤ keyN xs v by omega) with hq | hq
   · rw [show comLL xs st 2 (j : Int) v = [(3, [])] by rw [comLL, if_neg (by omega), if_pos rfl, atK_nat, if_pos h0, if_pos hq]]
     exact comR_2_00 p o cp hcp j st _ xs w hA hi hj rfl v _ hv rfl h0 hq
   · rw [show comLL xs st 2 (j : Int) v = [(3, []), (2, [])] by rw [comLL, if_neg (by omega), if_pos rfl, atK_nat, if_pos h0, if_neg (by omega)]]
     exact comR_2_01 p o cp hcp j st _ xs w hA hi hj rfl v _ hv rfl h0 hq
 · rcases (show keyN xs v < 0 ∨ 0 ≤ keyN xs v by omega) with hq | hq
   · rw [show comLL xs st 2 (j : Int) v = [(0, [])] by rw [comLL, if_neg (by omega), if_pos rfl, atK_nat, if_neg h0, if_pos hq]]
     exact comR_2_10 p o cp hcp j st _ xs w hA hi hj rfl v _ hv rfl h0 hq
   · by_cases he : keyN xs v = (j : Int)
     · rw [show comLL xs st 2 (j : Int) v = [(2, []), (0, [])] by rw [comLL, if_neg (by omega), if_pos rfl, atK_nat, if_neg h0, if_neg (by omega), if_pos he]]
       exact comR_2_11 p o cp hcp j st _ xs w hA hi hj rfl v _ hv rfl h0 hq he
     · rw [show comLL xs st 2 (j : Int) v = [(2, [])] by rw [comLL, if_neg (by omega), if_pos rfl, atK_nat, if_neg h0, if_neg (by omega), if_neg he]]
       exact comR_2_12 p o cp hcp j st _ xs w hA hi hj rfl v _ hv rfl h0 hq he
theorem comAnyR_3 (p o cp : Nat) (hcp : 4 ≤ cp) (st : Int) (xs : List Int) (w : World) (hA : IntAt w (some ⟨p, o, none⟩) 4 xs) (hi : ∀ x ∈ xs, (Lit.int .i64 x).wf = true) (k : Int) (hk : 0 ≤ k ∧ k ≤ 3) :
   Calls Tryz.prog 133 #[.agg #[.slice (some ⟨p, o, none⟩) 4 cp, .int .i64 st], DeedV 3 k 0] w fun e w' => ComSays e w w' (comLL xs st 3 k 0) ∧ Below w.heap.size w w' := by
 obtain ⟨j, rfl⟩ : ∃ j : Nat, k = j := ⟨k.toNat, by omega⟩
 have hj : j < 4 := by omega
 rw [show DeedV 3 (j : Int) 0 = .iface 224 (OpV 3 (j : Int) 0) from rfl]
 by_cases h0 : xs.getD j 0 = 0
 · rw [show comLL xs st 3 (j : Int) 0 = [(3, [])] by rw [comLL, if_neg (by omega), if_neg (by omega), if_pos rfl, atK_nat, if_pos h0]]
   exact comR_3_0 p o cp hcp j st _ xs w hA hi hj rfl h0
 · rw [show comLL xs st 3 (j : Int) 0 = [(0, [])] by rw [comLL, if_neg (by omega), if_neg (by omega), if_pos rfl, atK_nat, if_neg h0]]
   exact comR_3_1 p o cp hcp j st _ xs w hA hi hj rfl h0
theorem comAnyR_4 (p o cp : Nat) (hcp : 4 ≤ cp) (st : Int) (xs : List Int) (w : World) (hA : IntAt w (some ⟨p, o, none⟩) 4 xs) (hi : ∀ x ∈ xs, (Lit.int .i64 x).wf = true) (k : Int) (hk : 0 ≤ k ∧ k ≤ 3) :
   Calls Tryz.prog 133 #[.agg #[.slice (some ⟨p, o, none⟩) 4 cp, .int .i64 st], DeedV 4 k 0] w fun e w' => ComSays e w w' (comLL xs st 4 k 0) ∧ Below w.heap.size w w' := by
 obtain ⟨j, rfl⟩ : ∃ j : Nat, k = j := ⟨k.toNat, by omega⟩
 have hj : j < 4 := by omega
 rw [show DeedV 4 (j : Int) 0 = .iface 225 (OpV 4 (j : Int) 0) from rfl]
 by_cases h0 : xs.getD j 0 = 0
 · rw [show comLL xs st 4 (j : Int) 0 = [(3, [])] by rw [comLL, if_neg (by omega), if_neg (by omega), if_neg (by omega), if_pos rfl, atK_nat, if_pos h0]]
   exact comR_4_0 p o cp hcp j st _ xs w hA hi hj rfl h0
 · rw [show comLL xs st 4 (j : Int) 0 = [(0, [xs.getD j 0])] by rw [comLL, if_neg (by omega), if_neg (by omega), if_neg (by omega), if_pos rfl, atK_nat, if_neg h0]]
   exact comR_4_1 p o cp hcp j st _ xs w hA hi hj rfl h0
theorem comAnyR_5 (p o cp : Nat) (hcp : 4 ≤ cp) (st : Int) (xs : List Int) (w : World) (hA : IntAt w (some ⟨p, o, none⟩) 4 xs) (hi : ∀ x ∈ xs, (Lit.int .i64 x).wf = true) (v : Int) (hv : 1 ≤ v ∧ v ≤ 6) :
   Calls Tryz.prog 133 #[.agg #[.slice (some ⟨p, o, none⟩) 4 cp, .int .i64 st], DeedV 5 0 v] w fun e w' => ComSays e w w' (comLL xs st 5 0 v) ∧ Below w.heap.size w w' := by
 have hj : (0 : Nat) < 4 := by omega
 rw [show DeedV 5 0 v = .iface 226 (OpV 5 0 v) from rfl]
 rcases (show keyN xs v < 0 ∨ 0 ≤ keyN xs v by omega) with hq | hq
 · rw [show comLL xs st 5 0 v = [(3, [])] by rw [comLL, if_neg (by omega), if_neg (by omega), if_neg (by omega), if_neg (by omega), if_pos rfl, if_pos hq]]
   exact comR_5_0 p o cp hcp 0 st _ xs w hA hi hj rfl v _ hv rfl hq
 · rw [show comLL xs st 5 0 v = [(0, [keyN xs v])] by rw [comLL, if_neg (by omega), if_neg (by omega), if_neg (by omega), if_neg (by omega), if_pos rfl, if_neg (by omega)]]
   exact comR_5_1 p o cp hcp 0 st _ xs w hA hi hj rfl v _ hv rfl hq
theorem comAnyR_6 (p o cp : Nat) (hcp : 4 ≤ cp) (st : Int) (xs : List Int) (w : World) (hA : IntAt w (some ⟨p, o, none⟩) 4 xs) (hi : ∀ x ∈ xs, (Lit.int .i64 x).wf = true) (c : Int) :
   Calls Tryz.prog 133 #[.agg #[.slice (some ⟨p, o, none⟩) 4 cp, .int .i64 st], DeedV 6 c 0] w fun e w' => ComSays e w w' (comLL xs st 6 c 0) ∧ Below w.heap.size w w' := by
 have hj : (0 : Nat) < 4 := by omega
 rw [show DeedV 6 c 0 = .iface 227 (OpV 6 c 0) from rfl]
 rw [show comLL xs st 6 c 0 = [(0, [cntK xs c 4])] by rw [comLL, if_neg (by omega), if_neg (by omega), if_neg (by omega), if_neg (by omega), if_neg (by omega), if_pos rfl]]
 exact comR_6 p o cp hcp 0 st _ xs w hA hi hj rfl c
theorem comAnyR_7 (p o cp : Nat) (hcp : 4 ≤ cp) (st : Int) (xs : List Int) (w : World) (hA : IntAt w (some ⟨p, o, none⟩) 4 xs) (hi : ∀ x ∈ xs, (Lit.int .i64 x).wf = true) :
   Calls Tryz.prog 133 #[.agg #[.slice (some ⟨p, o, none⟩) 4 cp, .int .i64 st], DeedV 7 0 0] w fun e w' => ComSays e w w' (comLL xs st 7 0 0) ∧ Below w.heap.size w w' := by
 have hj : (0 : Nat) < 4 := by omega
 rw [show DeedV 7 0 0 = .iface 228 (OpV 7 0 0) from rfl]
 rw [show comLL xs st 7 0 0 = [(0, xs)] by rw [comLL, if_neg (by omega), if_neg (by omega), if_neg (by omega), if_neg (by omega), if_neg (by omega), if_neg (by omega), if_pos rfl]]
 exact comR_7 p o cp hcp 0 st _ xs w hA hi hj rfl
theorem comAnyR_8 (p o cp : Nat) (hcp : 4 ≤ cp) (st : Int) (xs : List Int) (w : World) (hA : IntAt w (some ⟨p, o, none⟩) 4 xs) (hi : ∀ x ∈ xs, (Lit.int .i64 x).wf = true) :
   Calls Tryz.prog 133 #[.agg #[.slice (some ⟨p, o, none⟩) 4 cp, .int .i64 st], DeedV 8 0 0] w fun e w' => ComSays e w w' (comLL xs st 8 0 0) ∧ Below w.heap.size w w' := by
 have hj : (0 : Nat) < 4 := by omega
 rw [show DeedV 8 0 0 = .iface 229 (OpV 8 0 0) from rfl]
 by_cases h0 : st = 0
 · rw [show comLL xs st 8 0 0 = [(0, [])] by rw [comLL, if_neg (by omega), if_neg (by omega), if_neg (by omega), if_neg (by omega), if_neg (by omega), if_neg (by omega), if_neg (by omega), if_pos rfl, if_pos h0]]
   exact comR_8_0 p o cp hcp 0 st _ xs w hA hi hj rfl h0
 · rw [show comLL xs st 8 0 0 = [(4, [])] by rw [comLL, if_neg (by omega), if_neg (by omega), if_neg (by omega), if_neg (by omega), if_neg (by omega), if_neg (by omega), if_neg (by omega), if_pos rfl, if_neg h0]]
   exact comR_8_1 p o cp hcp 0 st _ xs w hA hi hj rfl h0
theorem comAnyR_9 (p o cp : Nat) (hcp : 4 ≤ cp) (st : Int) (xs : List Int) (w : World) (hA : IntAt w (some ⟨p, o, none⟩) 4 xs) (hi : ∀ x ∈ xs, (Lit.int .i64 x).wf = true) :
   Calls Tryz.prog 133 #[.agg #[.slice (some ⟨p, o, none⟩) 4 cp, .int .i64 st], DeedV 9 0 0] w fun e w' => ComSays e w w' (comLL xs st 9 0 0) ∧ Below w.heap.size w w' := by
 have hj : (0 : Nat) < 4 := by omega
 rw [show DeedV 9 0 0 = .iface 230 (OpV 9 0 0) from rfl]
 by_cases h0 : st = 0
 · rw [show comLL xs st 9 0 0 = [(4, [])] by rw [comLL, if_neg (by omega), if_neg (by omega), if_neg (by omega), if_neg (by omega), if_neg (by omega), if_neg (by omega), if_neg (by omega), if_neg (by omega), if_pos rfl, if_pos h0]]
   exact comR_9_0 p o cp hcp 0 st _ xs w hA hi hj rfl h0
 · by_cases h5 : st = 5
   · rw [show comLL xs st 9 0 0 = [(4, [])] by rw [comLL, if_neg (by omega), if_neg (by omega), if_neg (by omega), if_neg (by omega), if_neg (by omega), if_neg (by omega), if_neg (by omega), if_neg (by omega), if_pos rfl, if_neg h0, if_pos h5]]
     exact comR_9_5 p o cp hcp 0 st _ xs w hA hi hj rfl h0 h5
   · rw [show comLL xs st 9 0 0 = [(0, [])] by rw [comLL, if_neg (by omega), if_neg (by omega), if_neg (by omega), if_neg (by omega), if_neg (by omega), if_neg (by omega), if_neg (by omega), if_neg (by omega), if_pos rfl, if_neg h0, if_neg h5]]
     exact comR_9_1 p o cp hcp 0 st _ xs w hA hi hj rfl h0 h5
theorem comAnyR_10 (p o cp : Nat) (hcp : 4 ≤ cp) (st : Int) (xs : List Int) (w : World) (hA : IntAt w (some ⟨p, o, none⟩) 4 xs) (hi : ∀ x ∈ xs, (Lit.int .i64 x).wf = true) (v : Int) (hv : 1 ≤ v ∧ v ≤ 6) :
   Calls Tryz.prog 133 #[.agg #[.slice (some ⟨p, o, none⟩) 4 cp, .int .i64 st], DeedV 10 0 v] w fun e w' => ComSays e w w' (comLL xs st 10 0 v) ∧ Below w.heap.size w w' := by
 have hj : (0 : Nat) < 4 := by omega
 rw [show DeedV 10 0 v = .iface 231 (OpV 10 0 v) from rfl]
 by_cases h5 : st = 5
 · rcases (show keyN xs v < 0 ∨ 0 ≤ keyN xs v by omega) with hq | hq
   · rw [show comLL xs st 10 0 v = [(3, [])] by rw [comLL, if_neg (by omega), if_neg (by omega), if_neg (by omega), if_neg (by omega), if_neg (by omega), if_neg (by omega), if_neg (by omega), if_neg (by omega), if_neg (by omega), if_pos h5, if_pos hq]]
     exact comR_10_0 p o cp hcp 0 st _ xs w hA hi hj rfl v _ hv rfl h5 hq
   · rw [show comLL xs st 10 0 v = [(0, [keyN xs v])] by rw [comLL, if_neg (by omega), if_neg (by omega), if_neg (by omega), if_neg (by omega), if_neg (by omega), if_neg (by omega), if_neg (by omega), if_neg (by omega), if_neg (by omega), if_pos h5, if_neg (by omega)]]
     exact comR_10_1 p o cp hcp 0 st _ xs w hA hi hj rfl v _ hv rfl h5 hq
 · rw [show comLL xs st 10 0 v = [(4, [])] by rw [comLL, if_neg (by omega), if_neg (by omega), if_neg (by omega), if_neg (by omega), if_neg (by omega), if_neg (by omega), if_neg (by omega), if_neg (by omega), if_neg (by omega), if_neg h5]]
   rcases (show keyN xs v < 0 ∨ 0 ≤ keyN xs v by omega) with hq | hq
   · exact comR_10_n p o cp hcp 0 st _ xs w hA hi hj rfl v _ hv rfl h5 hq
   · exact comR_10_m p o cp hcp 0 st _ xs w hA hi hj rfl v _ hv rfl h5 hq
theorem comAnyR (p o cp : Nat) (hcp : 4 ≤ cp) (st kind k v : Int) (xs : List Int) (w : World) (hA : IntAt w (some ⟨p, o, none⟩) 4 xs) (hi : ∀ x ∈ xs, (Lit.int .i64 x).wf = true) (hop : OpGood kind k v) :
   Calls Tryz.prog 133 #[.agg #[.slice (some ⟨p, o, none⟩) 4 cp, .int .i64 st], DeedV kind k v] w fun e w' => ComSays e w w' (comLL xs st kind k v) ∧ Below w.heap.size w w' := by
 obtain ⟨hk, hkey, hval⟩ := hop
 unfold KeyGood at hkey
 unfold ValGood at hval
 rcases kinds hk with rfl | rfl | rfl | rfl | rfl | rfl | rfl | rfl | rfl | rfl
 · exact comAnyR_1 p o cp hcp st xs w hA hi k (by omega) v (by omega)
 · exact comAnyR_2 p o cp hcp st xs w hA hi k (by omega) v (by omega)
 · obtain rfl : v = 0 := by omega
   exact comAnyR_3 p o cp hcp st xs w hA hi k (by omega)
 · obtain rfl : v = 0 := by omega
   exact comAnyR_4 p o cp hcp st xs w hA hi k (by omega)
 · obtain rfl : k = 0 := by omega
   exact comAnyR_5 p o cp hcp st xs w hA hi v (by omega)
 · obtain rfl : v = 0 := by omega
   exact comAnyR_6 p o cp hcp st xs w hA hi k
 · obtain rfl : v = 0 := by omega
   obtain rfl : k = 0 := by omega
   exact comAnyR_7 p o cp hcp st xs w hA hi
 · obtain rfl : v = 0 := by omega
   obtain rfl : k = 0 := by omega
   exact comAnyR_8 p o cp hcp st xs w hA hi
 · obtain rfl : v = 0 := by omega
   obtain rfl : k = 0 := by omega
   exact comAnyR_9 p o cp hcp st xs w hA hi
 · obtain rfl : k = 0 := by omega
   exact comAnyR_10 p o cp hcp st xs w hA hi v (by omega)
theorem implAllowed_room (p o n1 cp n2 c2 : Nat) (a2 : Option Addr) (st kind k v code : Int) (xs ys : List Int) (w : World) (hcp : n1 ≤ cp) (hA : IntAt w (some ⟨p, o, none⟩) n1 xs) (hB : IntAt w a2 n2 ys) (hi : ∀ x ∈ xs, (Lit.int .i64 x).wf = true) :
   Calls Tryz.prog 85 #[.agg #[.slice (some ⟨p, o, none⟩) n1 cp, .int .i64 st], OpV kind k v, ResV code a2 n2 c2] w fun e w' => Says e (AllowM xs st kind k v code ys) ∧ Below w.heap.size w w' := by
 have HA : Hid (IntAt w (some ⟨p, o, none⟩) n1 xs) := hA
 have HY : Hid (IntAt w a2 n2 ys) := hB
 have HI : Hid (∀ x ∈ xs, (Lit.int .i64 x).wf = true) := hi
 have HCP : Hid (n1 ≤ cp) := hcp
 clear hA hB hi hcp
 obtain ⟨W0, hW0⟩ : ∃ W0, W0 = ((w.alloc (.cells #[.slice (some ⟨p, o, none⟩) n1 cp, .int .i64 st] 41)).alloc (.cells #[.int .i64 kind, .int .i64 k, .int .i64 v] 81)).alloc (.cells #[.int .i64 code, .slice a2 n2 c2] 82) := ⟨_, rfl⟩
 have hs0 : W0.heap.size = w.heap.size + 1 + 1 + 1 := by rw [hW0]; simp
 have HBX : Hid (∀ w', Below (w.heap.size + 1 + 1 + 1) W0 w' → (w'.cell? ⟨w.heap.size, 0, none⟩ = some (.slice (some ⟨p, o, none⟩) n1 cp) ∧ w'.cell? ⟨w.heap.size, 1, none⟩ = some (.int .i64 st) ∧ w'.cell? ⟨w.heap.size + 1, 0, none⟩ = some (.int .i64 kind) ∧ w'.cell? ⟨w.heap.size + 1, 1, none⟩ = some (.int .i64 k) ∧ w'.cell? ⟨w.heap.size + 1, 2, none⟩ = some (.int .i64 v) ∧ w'.cell? ⟨w.heap.size + 1 + 1, 0, none⟩ = some (.int .i64 code) ∧ w'.cell? ⟨w.heap.size + 1 + 1, 1, none⟩ = some (.slice a2 n2 c2)) ∧ Below w.heap.size w w') := fun w' hb => allow_boxes hW0 hb
 go_enter Tryz.func85, Tryz.ntmps85
 go_wp2_with fail
 rw [← hW0]
 clear hW0
 have hb0 : Below (w.heap.size + 1 + 1 + 1) W0 W0 := Below.refl _ _
 refine (implRowsOk_room _ n1 cp HCP.out st xs _ (HA.out.below (HBX.out _ hb0).2 (Nat.le_refl _)) HI.out).mono ?_
 rintro e w1 ⟨⟨ok, rfl, hok⟩, hb1⟩
 have hb1 : Below (w.heap.size + 1 + 1 + 1) W0 w1 := hb0.trans (hb1.mono (by omega))
 have hs1 : w.heap.size + 1 + 1 + 1 ≤ w1.heap.size := by have h := hb1.size; omega
 obtain ⟨⟨d0, d1, d2, d3, d4, d5, d6⟩, bw1⟩ := HBX.out _ hb1
 cases ok with
 | false =>
   have HN : Hid (¬ OkRows xs st) := fun h => by cases hok.2 h
   clear hok
   go_wp2
   go_ret
   exact ⟨⟨false, rfl, by simp [AllowM, HN.out]⟩, bw1⟩
 | true =>
   have HO : Hid (OkRows xs st) := hok.1 rfl
   clear hok hb0
   obtain rfl : n1 = 4 := by rw [← HA.out.1]; exact HO.out.1
   go_wp2_with fail
   refine (implOpOk_any kind k v _).mono ?_
   rintro e w2 ⟨rfl, hb2⟩
   have hb2 : Below (w.heap.size + 1 + 1 + 1) W0 w2 := hb1.trans (hb2.mono (by omega))
   have hs2 : w.heap.size + 1 + 1 + 1 ≤ w2.heap.size := by have h := hb2.size; omega
   clear d0 d1 d2 d3 d4 d5 d6 bw1 hb1 hs1
   obtain ⟨⟨d0, d1, d2, d3, d4, d5, d6⟩, bw2⟩ := HBX.out _ hb2
   by_cases hop : OpGood kind k v
   · rw [show decide (OpGood kind k v) = true from decide_eq_true hop]
     have HP : Hid (OpGood kind k v) := hop
     clear hop
     go_wp2_with fail
     go_region_held3 (fun w' => w'.cell? ⟨w.heap.size, 0, none⟩ = some (.slice (some ⟨p, o, none⟩) 4 cp) ∧ w'.cell? ⟨w.heap.size, 1, none⟩ = some (.int .i64 st) ∧ w'.cell? ⟨w.heap.size + 1, 0, none⟩ = some (.int .i64 kind) ∧ w'.cell? ⟨w.heap.size + 1, 1, none⟩ = some (.int .i64 k) ∧ w'.cell? ⟨w.heap.size + 1, 2, none⟩ = some (.int .i64 v) ∧ w'.cell? ⟨w.heap.size + 1 + 1, 0, none⟩ = some (.int .i64 code) ∧ w'.cell? ⟨w.heap.size + 1 + 1, 1, none⟩ = some (.slice a2 n2 c2))
       (first | (exact (HBX.out _ hb5).1) | (exact (HBX.out _ hb4).1) | (exact (HBX.out _ hb3).1) | (exact (HBX.out _ hb2.drew).1) | (exact (HBX.out _ hb2).1) | go_keep)
       (first
       | (go_at_call 134
          refine (implDeedOf_any kind k v _).mono ?_
          rintro e w3 ⟨rfl, hb3⟩
          have hb3 : Below (w.heap.size + 1 + 1 + 1) W0 w3 := hb2.drew.trans (hb3.mono (by simp; omega))
          have hs3 : w.heap.size + 1 + 1 + 1 ≤ w3.heap.size := by have h := hb3.size; omega)
       | (go_at_call 133
          refine (comAnyR p o cp HCP.out st kind k v xs _ (HA.out.below (HBX.out _ hb3).2 (Nat.le_refl _)) HI.out HP.out).mono ?_
          rintro e w4 ⟨⟨vv, L, rfl, hc4, ht4⟩, hb4⟩
          have hb4 : Below (w.heap.size + 1 + 1 + 1) W0 w4 := hb3.trans (hb4.mono (by omega))
          have hs4 : w.heap.size + 1 + 1 + 1 ≤ w4.heap.size := by have h := hb4.size; omega)
       | (go_at_call 132
          refine (containsFunc_any _ (w.heap.size + 1 + 1) code a2 n2 c2 ys vv L _ _ (by rw [ht4.len]; exact comLL_len _ _ _ _ _) hc4 ht4 (by omega) (HBX.out _ hb4).1.2.2.2.2.2.1 (HBX.out _ hb4).1.2.2.2.2.2.2 (HY.out.below (HBX.out _ hb4).2 (Nat.le_refl _))).mono ?_
          rintro e w5 ⟨rfl, hb5⟩
          have hb5 : Below (w.heap.size + 1 + 1 + 1) W0 w5 := hb4.trans (hb5.mono (by omega))))
     all_goals
       go_wp2
       go_ret
       refine ⟨⟨_, rfl, ?_⟩, (HBX.out _ hb5).2⟩
       rw [decide_eq_true_iff, com_mem xs st kind k v code ys ⟨HO.out.2.1, HO.out.2.2.1⟩ HP.out.1]
       exact ⟨fun h => ⟨HO.out, HP.out, h⟩, fun h => h.2.2⟩
   · rw [show decide (OpGood kind k v) = false from decide_eq_false hop]
     have HP : Hid (¬ OpGood kind k v) := hop
     clear hop
     go_wp2
     go_ret
     exact ⟨⟨false, rfl, by simp [AllowM, HP.out]⟩, bw2⟩
end
section
open Go.ChangeShapes Go.WideShapes Go.ChangeAt Go.RowKit
theorem implAfter_room (a2 : Option Addr) (p o n cp n2 c2 : Nat) (st kind k v code : Int) (xs ys : List Int) (w : World) (hcp : n ≤ cp) (hA : IntAt w (some ⟨p, o, none⟩) n xs) (h2 : IntAt w a2 n2 ys) (hi : ∀ x ∈ xs, (Lit.int .i64 x).wf = true) :
   Calls Tryz.prog 86 #[.agg #[.slice (some ⟨p, o, none⟩) n cp, .int .i64 st], OpV kind k v, ResV code a2 n2 c2] w fun e w' => AfterSays e w w' n (AfterM xs st kind k v code ys) ∧ Below w.heap.size w w' := by
 obtain ⟨i0, hi0, hz0, hz1, hz2⟩ := info_parts infoInt
 have HA : Hid (IntAt w (some ⟨p, o, none⟩) n xs) := hA
 have HL : Hid (xs.length = n) := hA.1
 have hn := hA.2.1
 have H2 : Hid (IntAt w a2 n2 ys) := h2
 have HI : Hid (∀ x ∈ xs, (Lit.int .i64 x).wf = true) := hi
 have HCP : Hid (n ≤ cp) := hcp
 clear hA h2 hi hcp
 obtain ⟨W4, hW4⟩ : ∃ W4, W4 = ((((w.alloc (.cells #[.slice (some ⟨p, o, none⟩) n cp, .int .i64 st] 41)).alloc (.cells #[.int .i64 kind, .int .i64 k, .int .i64 v] 81)).alloc (.cells #[.int .i64 code, .slice a2 n2 c2] 82)).alloc (.cells #[.slice none 0 0, .int .i64 0] 41)) := ⟨_, rfl⟩
 have hs4 : W4.heap.size = w.heap.size + 1 + 1 + 1 + 1 := by rw [hW4]; simp
 have HC : Hid (∀ wr, Below (w.heap.size + 1 + 1 + 1 + 1) W4 wr → Four w #[.slice (some ⟨p, o, none⟩) n cp, .int .i64 st] #[.int .i64 kind, .int .i64 k, .int .i64 v] #[.int .i64 code, .slice a2 n2 c2] #[.slice none 0 0, .int .i64 0] wr ∧ Below w.heap.size w wr) := fun wr hb => by
   rw [hW4] at hb
   exact ⟨four_at w _ _ _ _ _ _ _ _ wr hb, (((((Below.refl _ w).alloc (Nat.le_refl _) _).alloc (by simp) _).alloc (by simp; omega) _).alloc (by simp; omega) _).trans (hb.mono (by omega))⟩
 have HBX : Hid (∀ wr, Below (w.heap.size + 1 + 1 + 1 + 1) W4 wr → wr.cell? ⟨w.heap.size, 0, none⟩ = some (.slice (some ⟨p, o, none⟩) n cp) ∧ wr.cell? ⟨w.heap.size, 1, none⟩ = some (.int .i64 st)) := fun wr hb => ⟨(HC.out wr hb).1.1 0 _ rfl, (HC.out wr hb).1.1 1 _ rfl⟩
 go_enter Tryz.func86, Tryz.ntmps86
 go_wp2_with fail
 rw [← hW4]
 clear hW4
 have hb4 : Below (w.heap.size + 1 + 1 + 1 + 1) W4 W4 := Below.refl _ _
 refine Code.wp_mono (Q := Exit.then (fun a' w' => ∃ (b e : Nat) (a9 : Option Addr) (c9 : Nat), a' = ⟨List.toArray (Value.agg #[Value.slice (some ⟨p, o, none⟩) n cp, Value.int IntKind.i64 st] :: OpV kind k v :: ResV code a2 n2 c2 :: Value.pointer (some ⟨w.heap.size, 0, none⟩) :: Value.pointer (some ⟨w.heap.size + 1, 0, none⟩) :: Value.pointer (some ⟨w.heap.size + 1 + 1, 0, none⟩) :: Value.pointer (some ⟨w.heap.size + 1 + 1 + 1, 0, none⟩) :: Value.pointer (some ⟨b, 0, none⟩) :: Value.slice (some ⟨e, 0, none⟩) 0 0 :: Value.pointer (some ⟨w.heap.size, 0, none⟩) :: Value.slice (some ⟨p, o, none⟩) n cp :: Value.slice a9 n c9 :: Value.pointer (some ⟨w.heap.size, 1, none⟩) :: Value.int IntKind.i64 st :: Value.agg #[Value.slice a9 n c9, Value.int IntKind.i64 st] :: undef :: undef :: undef :: undef :: undef :: undef :: undef :: undef :: undef :: undef :: undef :: undef :: undef :: undef :: undef :: []), []⟩ ∧ w'.cell? ⟨b, 0, none⟩ = some (.slice a9 n c9) ∧ w'.cell? ⟨b, 1, none⟩ = some (.int .i64 st) ∧ b < w'.heap.size ∧ (w.heap.size + 1 + 1 + 1 + 1) ≤ b ∧ w'.ownsRow (w.heap.size + 1 + 1 + 1 + 1) 3 1 (.slice a9 n c9) n (xs.map I) ∧ Below (w.heap.size + 1 + 1 + 1 + 1) W4 w') (fun _ _ _ => False)) ?rest ?reg
 case reg =>
   go_region_held3 (fun w' => w'.cell? ⟨w.heap.size, 0, none⟩ = some (.slice (some ⟨p, o, none⟩) n cp) ∧ w'.cell? ⟨w.heap.size, 1, none⟩ = some (.int .i64 st))
     (first | (exact HBX.out _ hb9) | (exact HBX.out _ (hb9.alloc (by omega) _)) | (exact HBX.out _ (hb9.setCell bge _)) | (exact HBX.out _ ((hb9.setCell bge _).setCell bge _)) | (exact HBX.out _ hb4.drew) | (exact HBX.out _ (hb4.alloc (by omega) _).drew) | (exact HBX.out _ ((hb4.alloc (by omega) _).alloc (by simp; omega) _).drew) | go_keep)
     (first
     | (refine step_append_own _ (by rfl) _ _ 28 (by rfl) (w.heap.size + 1 + 1 + 1 + 1) 3 i0 (.int .i64 0) 1 8 Tryz.underlying28 hi0 hz0 hz1 hz2 (by rfl) (by decide) _ 0 [] (by rfl) (by first | exact own_empty_drew (by simp [hs4]) (by omega) | exact own_empty_box_drew hs4 (by omega)) ⟨p, o, none⟩ n cp (xs.map I) (by rfl) (news_len HL.out) (news_of (HA.out.below (HC.out _ (by first | exact (hb4.alloc (by omega) _).drew | exact ((hb4.alloc (by omega) _).alloc (by simp; omega) _).drew)).2 (Nat.le_refl _))) news_one (by unfold maxLen; omega) (by omega) (by simp [hs4]) ?_
        intro v' w9 hown hgrow _
        have hown2 : w9.ownsRow (w.heap.size + 1 + 1 + 1 + 1) 3 1 v' n (xs.map I) := by simpa using hown
        obtain ⟨a9, c9, rfl, hat⟩ := own_at hown2 hn
        have hb9 : Below (w.heap.size + 1 + 1 + 1 + 1) W4 w9 := (show Below (w.heap.size + 1 + 1 + 1 + 1) W4 _ by first | exact (hb4.alloc (by omega) _).drew | exact ((hb4.alloc (by omega) _).alloc (by simp; omega) _).drew).grown hgrow (by simp [hs4]) (fun k e => by cases e; first | exact Nat.le_refl _ | exact Nat.le_succ _)
        have hs9 : w.heap.size + 1 + 1 + 1 + 1 ≤ w9.heap.size := by have h := hb9.size; omega
        first
          | (have hx := box_first hs4 hgrow
             have hne := hx.apart hown2
             obtain ⟨k0, k1, z0, z1, kl⟩ := hx.facts
             have bge : (w.heap.size + 1 + 1 + 1 + 1) ≤ w.heap.size + 1 + 1 + 1 + 1 := Nat.le_refl _)
          | (have hx := box_second hs4 hgrow
             have hne := hx.apart hown2
             obtain ⟨k0, k1, z0, z1, kl⟩ := hx.facts
             have bge : (w.heap.size + 1 + 1 + 1 + 1) ≤ w.heap.size + 1 + 1 + 1 + 1 + 1 := by omega)
          | skip))
   all_goals first
     | exact ⟨_, _, a9, c9, rfl, by simp, by simp, by simp, hs9, hown2.alloc _, hb9.alloc hs9 _⟩
     | exact ⟨_, _, a9, c9, rfl, (stored_box k0 k1 _ _).1, (stored_box k0 k1 _ _).2, by simpa [World.setCell] using kl, bge, own_setCell_far (own_setCell_far hown2 hne _) hne _, (hb9.setCell bge _).setCell bge _⟩
 case rest =>
   intro ex a' w9 h
   cases ex
   case normal =>
     obtain ⟨b, e, a9, c9, rfl, k0, k1, kl, bge, own9, hb9⟩ := h
     have hs9 : (w.heap.size + 1 + 1 + 1 + 1) ≤ w9.heap.size := by have h := hb9.size; omega
     have HB9 : Hid (Below (w.heap.size + 1 + 1 + 1 + 1) W4 w9) := hb9
     have OWN9 : Hid (w9.ownsRow (w.heap.size + 1 + 1 + 1 + 1) 3 1 (.slice a9 n c9) n (xs.map I)) := own9
     have c0 := (HC.out _ hb9).1.1 0 _ rfl
     have c1 := (HC.out _ hb9).1.1 1 _ rfl
     have d0 := (HC.out _ hb9).1.2.1 0 _ rfl
     have d1 := (HC.out _ hb9).1.2.1 1 _ rfl
     have d2 := (HC.out _ hb9).1.2.1 2 _ rfl
     have f0 := (HC.out _ hb9).1.2.2.1 0 _ rfl
     have f1 := (HC.out _ hb9).1.2.2.1 1 _ rfl
     have v0 := (HC.out _ hb9).1.2.2.2.1 0 _ rfl
     have v1 := (HC.out _ hb9).1.2.2.2.1 1 _ rfl
     have y0 := (HC.out _ hb9).1.2.2.2.2 0
     have y1 := (HC.out _ hb9).1.2.2.2.2 1
     clear own9 hb4 hi0 hz0 hz1 hz2
     by_cases hc : code = 0
     · subst hc
       go_wp2_with fail
       refine (implAllowed_room p o n cp n2 c2 a2 st kind k v 0 xs ys _ HCP.out (HA.out.below (HC.out _ HB9.out).2 (Nat.le_refl _)) (H2.out.below (HC.out _ HB9.out).2 (Nat.le_refl _)) HI.out).mono ?_
       rintro e' w10 ⟨⟨ok, rfl, hok⟩, hb10⟩
       have HOK : Hid (ok = true ↔ AllowM xs st kind k v 0 ys) := hok
       have OWN10 : Hid (w10.ownsRow (w.heap.size + 1 + 1 + 1 + 1) 3 1 (.slice a9 n c9) n (xs.map I)) := owns_below OWN9.out hb10 (Nat.le_refl _)
       have k0 : w10.cell? ⟨b, 0, none⟩ = some (.slice a9 n c9) := (hb10.cell (show b < _ from kl)).trans k0
       have k1 : w10.cell? ⟨b, 1, none⟩ = some (.int .i64 st) := (hb10.cell (show b < _ from kl)).trans k1
       have hbA : Below (w.heap.size + 1 + 1 + 1 + 1) W4 w10 := HB9.out.trans (hb10.mono hs9)
       have hs10 : (w.heap.size + 1 + 1 + 1 + 1) ≤ w10.heap.size := by have h := hbA.size; omega
       have HB10 : Hid (Below (w.heap.size + 1 + 1 + 1 + 1) W4 w10) := hbA
       have hbl10 : b < w10.heap.size := Nat.lt_of_lt_of_le kl hb10.size
       clear c0 c1 d0 d1 d2 f0 f1 v0 v1 y0 y1 hb9
       have c0 := (HC.out _ hbA).1.1 0 _ rfl
       have c1 := (HC.out _ hbA).1.1 1 _ rfl
       have d0 := (HC.out _ hbA).1.2.1 0 _ rfl
       have d1 := (HC.out _ hbA).1.2.1 1 _ rfl
       have d2 := (HC.out _ hbA).1.2.1 2 _ rfl
       have v0 := (HC.out _ hbA).1.2.2.2.1 0 _ rfl
       have v1 := (HC.out _ hbA).1.2.2.2.1 1 _ rfl
       have y0 := (HC.out _ hbA).1.2.2.2.2 0
       have y1 := (HC.out _ hbA).1.2.2.2.2 1
       clear hok hb10 hbA
       cases ok
       · have HM : Hid (AfterM xs st kind k v 0 ys xs st) := .inr ⟨fun h => (by have := HOK.out.2 h.1; cases this), rfl, rfl⟩
         go_wp2
         (try simp only [Exit.inBlock, Exit.then])
         refine bodyPost_ret (by simp [results, Tryz.results86, go_sem, v0, v1]; try rfl) rfl ?_
         exact ⟨⟨xs, st, a9, c9, rfl, HM.out, own_weaken (ownsRow_setCell_below (ownsRow_setCell_below OWN10.out (by simp) _) (by simp) _) (by omega)⟩, (((HC.out _ HB10.out).2).setCell (by simp; omega) _).setCell (by simp; omega) _⟩
       · have hal := HOK.out.1 rfl
         obtain rfl : n = 4 := by rw [← HL.out]; exact hal.1.1
         have HAL : Hid (AllowM xs st kind k v 0 ys) := hal
         clear hal HOK
         obtain ⟨g, rfl⟩ : ∃ g, a9 = some ⟨g, 0, none⟩ := by
           rcases OWN10.out.2 with ⟨_, h0⟩ | ⟨g, cap, cur, hv, _⟩
           · omega
           · simp only [Value.slice.injEq] at hv
             exact ⟨g, hv.1⟩
         go_wp2_with fail
         go_region_with (first
           | (go_at_call 134
              refine (implDeedOf_any kind k v _).mono ?_
              rintro e11 w11 ⟨rfl, hb11⟩
              have k0 : w11.cell? ⟨b, 0, none⟩ = some (.slice (some ⟨g, 0, none⟩) 4 c9) := (hb11.cell (show b < _ by simpa using hbl10)).trans (by simpa using k0)
              have k1 : w11.cell? ⟨b, 1, none⟩ = some (.int .i64 st) := (hb11.cell (show b < _ by simpa using hbl10)).trans (by simpa using k1)
              have HB11 : Hid (Below (w.heap.size + 1 + 1 + 1 + 1) W4 w11) := HB10.out.drew.trans (hb11.mono (by simpa using hs10))
              have OWN11 : Hid (w11.ownsRow (w.heap.size + 1 + 1 + 1 + 1) 3 1 (.slice (some ⟨g, 0, none⟩) 4 c9) 4 (xs.map I)) := owns_below (w := w10.drew) OWN10.out hb11 (Nat.le_refl _)
              have hs11 : (w.heap.size + 1 + 1 + 1 + 1) ≤ w11.heap.size := by have h := HB11.out.size; omega
              clear hb11)
           | (go_at_call 137
              refine (turn_any (w.heap.size + 1 + 1 + 1 + 1) g c9 st kind k v xs _ OWN11.out hs11 HAL.out.2.1 ⟨HAL.out.1.2.1, HAL.out.1.2.2.1⟩).mono ?_
              rintro e12 w12 ⟨zs, st', rfl, hT, own12, hb12⟩
              have HT : Hid (TurnM xs st kind k v zs st') := hT
              have OWN12 : Hid (w12.ownsRow (w.heap.size + 1 + 1 + 1 + 1) 3 1 (.slice (some ⟨g, 0, none⟩) 4 c9) 4 (zs.map I)) := own12
              have hbB : Below (w.heap.size + 1 + 1 + 1 + 1) W4 w12 := HB11.out.trans hb12
              have HB12 : Hid (Below (w.heap.size + 1 + 1 + 1 + 1) W4 w12) := hbB
              have v0 := (HC.out _ hbB).1.2.2.2.1 0 _ rfl
              have v1 := (HC.out _ hbB).1.2.2.2.1 1 _ rfl
              have y0 := (HC.out _ hbB).1.2.2.2.2 0
              have y1 := (HC.out _ hbB).1.2.2.2.2 1
              have hs12 : (w.heap.size + 1 + 1 + 1 + 1) ≤ w12.heap.size := by have h := hbB.size; omega
              clear own12 hb12 hbB hT))
         all_goals
           go_wp2
           (try simp only [Exit.inBlock, Exit.then])
           refine bodyPost_ret (by simp [results, Tryz.results86, go_sem, v0, v1]; try rfl) rfl ?_
           exact ⟨⟨zs, st', some ⟨g, 0, none⟩, c9, rfl, .inl ⟨HAL.out, rfl, HT.out⟩, own_weaken (ownsRow_setCell_below (ownsRow_setCell_below OWN12.out (by simp) _) (by simp) _) (by omega)⟩, (((HC.out _ HB12.out).2).setCell (by simp; omega) _).setCell (by simp; omega) _⟩
     · have hc' : (code != 0) = true := by simpa using hc
       have HM : Hid (AfterM xs st kind k v code ys xs st) := .inr ⟨fun h => hc h.2, rfl, rfl⟩
       clear hc
       go_wp2
       (try simp only [Exit.inBlock, Exit.then])
       refine bodyPost_ret (by simp [results, Tryz.results86, go_sem, v0, v1]; try rfl) rfl ?_
       exact ⟨⟨xs, st, a9, c9, rfl, HM.out, own_weaken (ownsRow_setCell_below (ownsRow_setCell_below OWN9.out (by simp) _) (by simp) _) (by omega)⟩, (((HC.out _ HB9.out).2).setCell (by simp; omega) _).setCell (by simp; omega) _⟩
   all_goals exact h.elim
end
section
open Go.ChangeShapes Go.WideShapes Go.ChangeAt Go.RowKit Go.Joins
structure DescIn (W : World) (sq st : Int) (ea : Option Addr) (en : Nat) (es : List Int) (cd : Int) (ra : Option Addr) (rn : Nat) (rs : List Int) : Prop where
 we : en ≤ 9223372036854775807
 wr : rn ≤ 9223372036854775807
 ents : en ≤ 1048576 → TripAt W ea en es
 ints : rn ≤ 1048576 → IntAt W ra rn rs
def DescPre (w : World) (a : Option Addr) (n : Nat) (ds : List DK) : Prop :=
 ds.length = n ∧ n ≤ 1048576 ∧ (n = 0 ∨ ∃ b o, a = some ⟨b, o, none⟩ ∧ ∀ i, i < n → ∃ ea ec ra rc, Five w b (o + i * 5) (dk ds i) ea ec ra rc ∧ (dk ds i).en ≤ 9223372036854775807 ∧ (dk ds i).rn ≤ 9223372036854775807 ∧
   ((dk ds i).en ≤ 1048576 → TripAt w ea (dk ds i).en (dk ds i).es) ∧ ((dk ds i).rn ≤ 1048576 → IntAt w ra (dk ds i).rn (dk ds i).rs))
theorem DescPre.at {w : World} {a : Option Addr} {n : Nat} {ds : List DK} (h : DescPre w a n ds) (hs : ∀ i, i < n → (dk ds i).en ≤ 1048576 ∧ (dk ds i).rn ≤ 1048576) : DescAt w a n ds := by
 obtain ⟨h1, h2, h3 | ⟨b, o, h3, h4⟩⟩ := h
 · exact ⟨h1, h2, .inl h3⟩
 · refine ⟨h1, h2, .inr ⟨b, o, h3, fun i hi => ?_⟩⟩
   obtain ⟨ea, ec, ra, rc, h5, _, _, h6, h7⟩ := h4 i hi
   exact ⟨ea, ec, ra, rc, h5, h6 (hs i hi).1, h7 (hs i hi).2⟩
def At5 (vs : List Value) (i : Nat) (d : DK) (p q : Nat) : Prop :=
 vs[i * 5]? = some (I d.sq) ∧ vs[i * 5 + 1]? = some (I d.st) ∧ vs[i * 5 + 2]? = some (.slice (some ⟨p, 0, none⟩) d.en d.en) ∧ vs[i * 5 + 3]? = some (I d.cd) ∧ vs[i * 5 + 4]? = some (.slice (some ⟨q, 0, none⟩) d.rn d.rn)
def set5 (vs : List Value) (k : Nat) (a b c e f : Value) : List Value := ((((vs.set (k * 5) a).set (k * 5 + 1) b).set (k * 5 + 2) c).set (k * 5 + 3) e).set (k * 5 + 4) f
theorem set5_other {vs : List Value} {k j : Nat} (h : j < k * 5 ∨ k * 5 + 4 < j) (a b c e f : Value) : (set5 vs k a b c e f)[j]? = vs[j]? := by
 unfold set5
 rw [List.getElem?_set_ne (by omega), List.getElem?_set_ne (by omega), List.getElem?_set_ne (by omega), List.getElem?_set_ne (by omega), List.getElem?_set_ne (by omega)]
theorem At5.set5 {vs : List Value} {i k : Nat} {d : DK} {p q : Nat} (h : At5 vs i d p q) (hik : i ≠ k) (a b c e f : Value) : At5 (set5 vs k a b c e f) i d p q := by
 obtain ⟨h0, h1, h2, h3, h4⟩ := h
 unfold At5
 rw [set5_other (by omega), set5_other (by omega), set5_other (by omega), set5_other (by omega), set5_other (by omega)]
 exact ⟨h0, h1, h2, h3, h4⟩
structure Own5 (w : World) (g : Nat) (vs : List Value) (d : DK) (i p q : Nat) : Prop where
 at5 : At5 vs i d p q
 gp : g < p
 pq : p < q
 ents : w.ownsRow p 161 3 (SL p d.en) d.en (d.es.map I)
 ints : w.ownsRow q 3 1 (SL q d.rn) d.rn (d.rs.map I)
def DescOwn (w : World) (g n : Nat) (ds : List DK) (k : Nat) : Prop :=
 ∃ (vs : List Value) (P Q : Nat → Nat), w.ownsRow g 130 5 (SL g n) n vs ∧ ∀ i, i < k → Own5 w g vs (dk ds i) i (P i) (Q i) ∧ ∀ j, j < i → Q j < P i
theorem Own5.below {w w' : World} {g : Nat} {vs : List Value} {d : DK} {i p q : Nat} (h : Own5 w g vs d i p q) {B : Nat} (hb : Below B w w') (hB : w.heap.size ≤ B) : Own5 w' g vs d i p q :=
 ⟨h.at5, h.gp, h.pq, owns_below h.ents hb hB, owns_below h.ints hb hB⟩
theorem DescOwn.below {w w' : World} {g n k : Nat} {ds : List DK} (h : DescOwn w g n ds k) {B : Nat} (hb : Below B w w') (hB : w.heap.size ≤ B) : DescOwn w' g n ds k := by
 obtain ⟨vs, P, Q, h1, h2⟩ := h
 exact ⟨vs, P, Q, owns_below h1 hb hB, fun i hi => ⟨(h2 i hi).1.below hb hB, (h2 i hi).2⟩⟩
theorem DescOwn.at {w : World} {g n : Nat} {ds : List DK} (h : DescOwn w g n ds n) (hl : ds.length = n) (hn : n ≤ 1048576) (hs : ∀ i, i < n → (dk ds i).en ≤ 1048576 ∧ (dk ds i).rn ≤ 1048576) : DescAt w (some ⟨g, 0, none⟩) n ds := by
 obtain ⟨vs, P, Q, h1, h2⟩ := h
 refine ⟨hl, hn, .inr ⟨g, 0, rfl, fun i hi => ?_⟩⟩
 obtain ⟨⟨⟨a0, a1, a2, a3, a4⟩, _, _, he, hi'⟩, _⟩ := h2 i hi
 refine ⟨some ⟨P i, 0, none⟩, (dk ds i).en, some ⟨Q i, 0, none⟩, (dk ds i).rn, ⟨?_, ?_, ?_, ?_, ?_⟩, own_tripAt he (hs i hi).1, own_intAt hi' (by have := (hs i hi).2; omega)⟩
 · rw [Nat.zero_add]; exact own_cellV h1 a0
 · rw [Nat.zero_add]; exact own_cellV h1 a1
 · rw [Nat.zero_add]; exact own_cellV h1 a2
 · rw [Nat.zero_add]; exact own_cellV h1 a3
 · rw [Nat.zero_add]; exact own_cellV h1 a4
theorem Own5.far {w : World} {g : Nat} {vs : List Value} {d : DK} {i p q : Nat} (h : Own5 w g vs d i p q) (j : Nat) (u : Value) : Own5 (w.setCell ⟨g, j, none⟩ u) g vs d i p q :=
 ⟨h.at5, h.gp, h.pq, ownsRow_setCell_below h.ents h.gp _, ownsRow_setCell_below h.ints (Nat.lt_trans h.gp h.pq) _⟩
theorem Own5.vs {w : World} {g : Nat} {vs vs' : List Value} {d : DK} {i p q : Nat} (h : Own5 w g vs d i p q) (ha : At5 vs' i d p q) : Own5 w g vs' d i p q := ⟨ha, h.gp, h.pq, h.ents, h.ints⟩

theorem Own5.set {w : World} {g : Nat} {vs : List Value} {d : DK} {i p q : Nat} (h : Own5 w g vs d i p q) {a : Addr} (ha : a.block < g) (u : Value) : Own5 (w.setCell a u) g vs d i p q :=
 ⟨h.at5, h.gp, h.pq, ownsRow_setCell_below h.ents (Nat.lt_trans ha h.gp) u, ownsRow_setCell_below h.ints (Nat.lt_trans ha (Nat.lt_trans h.gp h.pq)) u⟩
theorem DescOwn.set {w : World} {g n k : Nat} {ds : List DK} (h : DescOwn w g n ds k) {a : Addr} (ha : a.block < g) (u : Value) : DescOwn (w.setCell a u) g n ds k := by
 obtain ⟨vs, P, Q, h1, h2⟩ := h
 exact ⟨vs, P, Q, ownsRow_setCell_below h1 ha u, fun i hi => ⟨(h2 i hi).1.set ha u, (h2 i hi).2⟩⟩
theorem DescOwn.caps {w : World} {g n : Nat} {ds : List DK} (h : DescOwn w g n ds n) : CapAt w (some ⟨g, 0, none⟩) n ds := by
 obtain ⟨vs, P, Q, h1, h2⟩ := h
 refine .inr ⟨g, 0, rfl, fun i hi => ?_⟩
 obtain ⟨⟨⟨_, _, a2, _, _⟩, _, _, _, _⟩, _⟩ := h2 i hi
 exact ⟨_, _, by rw [Nat.zero_add]; exact own_cellV h1 a2, Nat.le_refl _⟩
theorem DescPre.below {w w' : World} {a : Option Addr} {n : Nat} {ds : List DK} (h : DescPre w a n ds) {B : Nat} (hb : Below B w w') (hB : w.heap.size ≤ B) : DescPre w' a n ds := by
 obtain ⟨q0, q1, q2 | ⟨b, o, q3, q4⟩⟩ := h
 · exact ⟨q0, q1, .inl q2⟩
 · refine ⟨q0, q1, .inr ⟨b, o, q3, fun i hi => ?_⟩⟩
   obtain ⟨ea, ec, ra, rc, z5, z6, z7, z8, z9⟩ := q4 i hi
   exact ⟨ea, ec, ra, rc, z5.below hb hB, z6, z7, fun hh => (z8 hh).below hb hB, fun hh => (z9 hh).below hb hB⟩
theorem owns_trip {w : World} {base : Nat} {e : TypeId} {n c : Nat} {a : Option Addr} {fs : List Int} (h : w.ownsRow base e 3 (.slice a n c) n (fs.map I)) (hn : n ≤ 1048576) : TripAt w a n fs := by
 rcases owns_forms h with ⟨h2, h3⟩ | ⟨g, cap, hv⟩
 · subst h3
   exact ⟨by have := h.1; simpa using this, by omega, .inl rfl⟩
 · cases hv
   exact own_tripAt h hn
theorem owns_ints {w : World} {base : Nat} {e : TypeId} {n c : Nat} {a : Option Addr} {fs : List Int} (h : w.ownsRow base e 1 (.slice a n c) n (fs.map I)) (hn : n ≤ 1048576) : IntAt w a n fs := by
 obtain ⟨a', c', hv, hi⟩ := own_at h (by omega)
 cases hv
 exact hi
def Sep (F : Nat → Value) (N : Nat) : Prop := ∀ a b, a < N → b < N → a ≠ b → ∀ k, (F a).ownBlock = some k → (F b).ownBlock ≠ some k
def AtF (vs : List Value) (i : Nat) (d : DK) (v u : Value) : Prop :=
 vs[i * 5]? = some (I d.sq) ∧ vs[i * 5 + 1]? = some (I d.st) ∧ vs[i * 5 + 2]? = some v ∧ vs[i * 5 + 3]? = some (I d.cd) ∧ vs[i * 5 + 4]? = some u
theorem AtF.set {vs : List Value} {i : Nat} {d : DK} {v u : Value} (h : AtF vs i d v u) {j : Nat} (hj : j < i * 5 ∨ i * 5 + 4 < j) (x : Value) : AtF (vs.set j x) i d v u := by
 obtain ⟨h0, h1, h2, h3, h4⟩ := h
 unfold AtF
 rw [List.getElem?_set_ne (by omega), List.getElem?_set_ne (by omega), List.getElem?_set_ne (by omega), List.getElem?_set_ne (by omega), List.getElem?_set_ne (by omega)]
 exact ⟨h0, h1, h2, h3, h4⟩
structure DescO (w : World) (base : Nat) (F : Nat → Value) (n : Nat) (ds : List DK) : Prop where
 len : ds.length = n
 descs : ∃ vs, w.ownsRow base 130 5 (F 1) n vs ∧ ∀ i, i < n → AtF vs i (dk ds i) (F (2 + 2 * i)) (F (3 + 2 * i))
 ents : ∀ i, i < n → w.ownsRow base 161 3 (F (2 + 2 * i)) (dk ds i).en ((dk ds i).es.map I)
 ints : ∀ i, i < n → w.ownsRow base 3 1 (F (3 + 2 * i)) (dk ds i).rn ((dk ds i).rs.map I)
 sep : Sep F (2 + 2 * n)
structure MemO (w : World) (base : Nat) (F : Nat → Value) (m : Nat) (fs : List Int) (n : Nat) (ds : List DK) : Prop where
 words : w.ownsRow base 125 3 (F 0) m (fs.map I)
 descO : DescO w base F n ds
abbrev MemF (F : Nat → Value) : Value := .agg #[F 0, F 1]
def Small (n : Nat) (ds : List DK) : Prop := ∀ i, i < n → (dk ds i).en ≤ 1048576 ∧ (dk ds i).rn ≤ 1048576
theorem DescO.heap {w w' : World} {base : Nat} {F : Nat → Value} {n : Nat} {ds : List DK} (h : DescO w base F n ds) (he : ∀ a, 1 ≤ a → a < 2 + 2 * n → ∀ k, (F a).ownBlock = some k → w'.heap[k]? = w.heap[k]?) : DescO w' base F n ds := by
 obtain ⟨vs, h1, h2⟩ := h.descs
 exact ⟨h.len, ⟨vs, owns_heap h1 (he 1 (by omega) (by omega)), h2⟩, fun i hi => owns_heap (h.ents i hi) (he _ (by omega) (by omega)), fun i hi => owns_heap (h.ints i hi) (he _ (by omega) (by omega)), h.sep⟩
theorem DescO.below {w w' : World} {base : Nat} {F : Nat → Value} {n : Nat} {ds : List DK} (h : DescO w base F n ds) {B : Nat} (hb : Below B w w') (hB : w.heap.size ≤ B) : DescO w' base F n ds := by
 obtain ⟨vs, h1, h2⟩ := h.descs
 exact ⟨h.len, ⟨vs, owns_below h1 hb hB, h2⟩, fun i hi => owns_below (h.ents i hi) hb hB, fun i hi => owns_below (h.ints i hi) hb hB, h.sep⟩
theorem MemO.below {w w' : World} {base : Nat} {F : Nat → Value} {m : Nat} {fs : List Int} {n : Nat} {ds : List DK} (h : MemO w base F m fs n ds) {B : Nat} (hb : Below B w w') (hB : w.heap.size ≤ B) : MemO w' base F m fs n ds :=
 ⟨owns_below h.words hb hB, h.descO.below hb hB⟩
theorem MemO.heap {w w' : World} {base : Nat} {F : Nat → Value} {m : Nat} {fs : List Int} {n : Nat} {ds : List DK} (h : MemO w base F m fs n ds) (he : ∀ a, a < 2 + 2 * n → ∀ k, (F a).ownBlock = some k → w'.heap[k]? = w.heap[k]?) : MemO w' base F m fs n ds :=
 ⟨owns_heap h.words (he 0 (by omega)), h.descO.heap fun a _ ha => he a ha⟩
theorem DescO.weaken {w : World} {base base' : Nat} {F : Nat → Value} {n : Nat} {ds : List DK} (h : DescO w base F n ds) (hb : base' ≤ base) : DescO w base' F n ds := by
 obtain ⟨vs, h1, h2⟩ := h.descs
 exact ⟨h.len, ⟨vs, own_weaken h1 hb, h2⟩, fun i hi => own_weaken (h.ents i hi) hb, fun i hi => own_weaken (h.ints i hi) hb, h.sep⟩
theorem MemO.weaken {w : World} {base base' : Nat} {F : Nat → Value} {m : Nat} {fs : List Int} {n : Nat} {ds : List DK} (h : MemO w base F m fs n ds) (hb : base' ≤ base) : MemO w base' F m fs n ds :=
 ⟨own_weaken h.words hb, h.descO.weaken hb⟩
theorem DescO.at {w : World} {base : Nat} {F : Nat → Value} {n : Nat} {ds : List DK} (h : DescO w base F n ds) (hn : n ≤ 1048576) (hs : Small n ds) : ∃ a c, F 1 = .slice a n c ∧ DescAt w a n ds ∧ CapAt w a n ds := by
 obtain ⟨vs, h1, h2⟩ := h.descs
 rcases owns_forms h1 with ⟨h3, h4⟩ | ⟨g, cap, hv⟩
 · subst h4
   exact ⟨none, 0, h3, ⟨h.len, by omega, .inl rfl⟩, .inl rfl⟩
 · rw [hv] at h1
   refine ⟨_, cap, hv, ⟨h.len, hn, .inr ⟨g, 0, rfl, fun i hi => ?_⟩⟩, .inr ⟨g, 0, rfl, fun i hi => ?_⟩⟩
   · obtain ⟨a0, a1, a2, a3, a4⟩ := h2 i hi
     obtain ⟨ea, ec, e1, _⟩ := owns_slice (h.ents i hi)
     obtain ⟨ra, rc, e2, _⟩ := owns_slice (h.ints i hi)
     have t1 := h.ents i hi
     have t2 := h.ints i hi
     rw [e1] at t1 a2
     rw [e2] at t2 a4
     refine ⟨ea, ec, ra, rc, ⟨?_, ?_, ?_, ?_, ?_⟩, owns_trip t1 (hs i hi).1, owns_ints t2 (hs i hi).2⟩
     · rw [Nat.zero_add]; exact own_cellV h1 a0
     · rw [Nat.zero_add]; exact own_cellV h1 a1
     · rw [Nat.zero_add]; exact own_cellV h1 a2
     · rw [Nat.zero_add]; exact own_cellV h1 a3
     · rw [Nat.zero_add]; exact own_cellV h1 a4
   · obtain ⟨a0, a1, a2, a3, a4⟩ := h2 i hi
     obtain ⟨ea, ec, e1, hc⟩ := owns_slice (h.ents i hi)
     rw [e1] at a2
     exact ⟨ea, ec, by rw [Nat.zero_add]; exact own_cellV h1 a2, hc⟩
theorem MemO.at {w : World} {base : Nat} {F : Nat → Value} {m : Nat} {fs : List Int} {n : Nat} {ds : List DK} (h : MemO w base F m fs n ds) (hm : m ≤ 1048576) : ∃ a c, F 0 = .slice a m c ∧ TripAt w a m fs := by
 obtain ⟨a, c, e, _⟩ := owns_slice h.words
 have t := h.words
 rw [e] at t
 exact ⟨a, c, e, owns_trip t hm⟩
theorem MemO.open {w : World} {base : Nat} {F : Nat → Value} {m : Nat} {fs : List Int} {n : Nat} {ds : List DK} (h : MemO w base F m fs n ds) (hm : m ≤ 1048576) (hn : n ≤ 1048576) (hs : Small n ds) :
   ∃ wa wc da dc, MemF F = MemV wa m wc da n dc ∧ F 0 = .slice wa m wc ∧ F 1 = .slice da n dc ∧ TripAt w wa m fs ∧ DescAt w da n ds ∧ CapAt w da n ds := by
 obtain ⟨wa, wc, e0, t⟩ := h.at hm
 obtain ⟨da, dc, e1, d, c⟩ := h.descO.at hn hs
 exact ⟨wa, wc, da, dc, by rw [MemF, e0, e1], e0, e1, t, d, c⟩
end
end Go.Proofs.YtbfolanfbagofaaGreatDoor
