/- Texts joined: InB, Within, ImplCn, ImplNo, ImplNn. -/
import Derived.Test.YtmgofehafjogfaaRows
import Derived.WalkKit
import Derived.ProofKit
import Derived.Test.YtmgofehafjogfaaSH01
import Derived.Lib.ConvBytes
import Derived.Deep.Cut
import Derived.Test.YtmgofehafjogfaaSH08
import Derived.Below
set_option maxHeartbeats 8000000
set_option maxRecDepth 100000
namespace Go.Proofs.Ytmgofehafjogfaa
section
open Go.ChangeShapes Go.WideShapes Go.ChangeAt Go.RowKit
def inB (x lo hi : Int) : Bool := decide (lo ≤ x ∧ x ≤ hi)
theorem inB_yes {x lo hi : Int} (h : lo ≤ x ∧ x ≤ hi) : inB x lo hi = true := decide_eq_true h
theorem inB_no {x lo hi : Int} (h : ¬ (lo ≤ x ∧ x ≤ hi)) : inB x lo hi = false := decide_eq_false h
theorem inB_val {x lo hi : Int} (h : inB x lo hi = true) : lo ≤ x ∧ x ≤ hi := by unfold inB at h; simpa using h
theorem l1In_g (x lo hi : Int) (w : World) : Calls Try.prog 54 #[.int .i64 x, .int .i64 lo, .int .i64 hi] w fun e w' => e = .returned (.bool (inB x lo hi)) ∧ w' = w := by
  by_cases h0 : lo ≤ x
  · by_cases h1 : x ≤ hi
    · rw [inB_yes ⟨h0, h1⟩]
      go_enter Try.func54, Try.ntmps54
      go_wp2
      go_ret
      exact ⟨rfl, rfl⟩
    · rw [inB_no (fun h => h1 h.2)]
      go_enter Try.func54, Try.ntmps54
      go_wp2
      go_ret
      exact ⟨rfl, rfl⟩
  · rw [inB_no (fun h => h0 h.1)]
    go_enter Try.func54, Try.ntmps54
    go_wp2
    go_ret
    exact ⟨rfl, rfl⟩
theorem within_g (x lo hi : Int) (w : World) : Calls Try.prog 57 #[.int .i64 x, .int .i64 lo, .int .i64 hi] w fun e w' => e = .returned (.bool (inB x lo hi)) ∧ w' = w := by
  by_cases h0 : lo ≤ x
  · by_cases h1 : x ≤ hi
    · rw [inB_yes ⟨h0, h1⟩]
      go_enter Try.func57, Try.ntmps57
      go_wp2
      go_ret
      exact ⟨rfl, rfl⟩
    · rw [inB_no (fun h => h1 h.2)]
      go_enter Try.func57, Try.ntmps57
      go_wp2
      go_ret
      exact ⟨rfl, rfl⟩
  · rw [inB_no (fun h => h0 h.1)]
    go_enter Try.func57, Try.ntmps57
    go_wp2
    go_ret
    exact ⟨rfl, rfl⟩
theorem cnBad_any (b : UInt8) (w : World) : Calls Try.prog 58 #[.int .u8 (b.toNat : Int)] w fun e w' => e = .returned (.bool !(decide (lowB b))) ∧ w' = w := by
  have hb : (b.toNat : Int) < 256 := by have := b.toNat_lt; omega
  have hw : IntKind.i64.wrap (b.toNat : Int) = (b.toNat : Int) := by rw [IntKind.wrap_i64]; omega
  have HV : Hid (inB (b.toNat : Int) 97 122 = decide (lowB b)) := by
    unfold inB lowB
    exact decide_eq_decide.2 (by omega)
  go_enter Try.func58, Try.ntmps58
  go_wp2_with fail
  refine (within_g _ _ _ _).mono ?_
  rintro e w1 ⟨rfl, rfl⟩
  rw [HV.out]
  go_wp2
  go_ret
  exact ⟨rfl, rfl⟩
theorem cnIndex_any (g n c : Nat) (l : List UInt8) (w : World) (hl : l.length = n) (hn : n ≤ 12) (h : ∀ i x, l[i]? = some x → w.cell? ⟨g, i, none⟩ = some (.int .u8 (x.toNat : Int))) :
    Calls Try.prog 92 #[.slice (some ⟨g, 0, none⟩) n c, .func (.func 58) #[] #[]] w fun e w' => ∃ r : Int, (e = .returned (.int .i64 r) ∧ (0 ≤ r ↔ ¬ ∀ x ∈ l, lowB x)) ∧ w' = w := by
  have H : Hid (∀ i x, l[i]? = some x → w.cell? ⟨g, i, none⟩ = some (.int .u8 (x.toNat : Int))) := h
  clear h
  go_enter Try.func92, Try.ntmps92
  go_wp2
  go_loopw [8] (fun i wr => ∃ j : Nat, j ≤ n ∧ i = .int .i64 (j : Int) ∧ (∀ x ∈ l.take j, lowB x) ∧ wr = w) (fun i _ => n - (RowKit.intOf i).toNat)
  case atStart => exact ⟨0, Nat.zero_le _, rfl, fun x hx => by simp at hx, rfl⟩
  case round =>
    obtain ⟨j, hj, rfl, hg, rfl⟩ := hrel
    have HG : Hid (∀ x ∈ l.take j, lowB x) := hg
    clear hg
    by_cases hlt : j < n
    · obtain ⟨b, hx⟩ : ∃ b, l[j]? = some b := ⟨_, List.getElem?_eq_getElem (by omega)⟩
      have c0 := H.out j b hx
      have c1 : wr.cell? ⟨g, 0 + j, none⟩ = some (.int .u8 (b.toNat : Int)) := by rw [Nat.zero_add]; exact c0
      have HX : Hid (l[j]? = some b) := hx
      have hk0 : (0 : Int) ≤ (j : Int) := by omega
      have hk1 : (j : Int) < (n : Int) := by omega
      clear hx
      go_wp2_with fail
      refine (cnBad_any b _).mono ?_
      rintro e w2 ⟨rfl, rfl⟩
      by_cases hv : lowB b
      · rw [decide_eq_true hv]
        have hall : ∀ x ∈ l.take (j + 1), lowB x := take_all HG.out HX.out hv
        go_wp2
        go_roundw
        case rel => exact ⟨j + 1, by omega, by go_num, hall, trivial⟩
        case measure => simp [RowKit.intOf]; omega
      · rw [decide_eq_false hv]
        have HV : Hid (¬ ∀ x ∈ l, lowB x) := fun h => hv (h _ (List.mem_of_getElem? HX.out))
        clear hv
        go_wp2
        go_ret
        exact ⟨(j : Int), ⟨rfl, ⟨fun _ => HV.out, fun _ => by omega⟩⟩, rfl⟩
    · obtain rfl : j = n := by omega
      have HALL : Hid (∀ x ∈ l, lowB x) := by
        have h1 := HG.out
        rwa [List.take_of_length_le (by omega)] at h1
      go_wp2
      go_ret
      exact ⟨-1, ⟨rfl, ⟨fun h => by omega, fun h => absurd HALL.out h⟩⟩, rfl⟩
theorem cnContains_any (g n c : Nat) (l : List UInt8) (w : World) (hl : l.length = n) (hn : n ≤ 12) (h : ∀ i x, l[i]? = some x → w.cell? ⟨g, i, none⟩ = some (.int .u8 (x.toNat : Int))) :
    Calls Try.prog 59 #[.slice (some ⟨g, 0, none⟩) n c, .func (.func 58) #[] #[]] w fun e w' => e = .returned (.bool !(decide (∀ x ∈ l, lowB x))) ∧ w' = w := by
  have H : Hid (∀ i x, l[i]? = some x → w.cell? ⟨g, i, none⟩ = some (.int .u8 (x.toNat : Int))) := h
  clear h
  go_enter Try.func59, Try.ntmps59
  go_wp2_with fail
  refine (cnIndex_any g n c l _ hl hn H.out).mono ?_
  rintro e w1 ⟨r, ⟨rfl, hr⟩, rfl⟩
  have HV : Hid (decide (0 ≤ r) = !(decide (∀ x ∈ l, lowB x))) := by
    show _ = _
    by_cases hall : ∀ x ∈ l, lowB x
    · rw [decide_eq_true hall, decide_eq_false (fun h => hr.1 h hall)]; rfl
    · rw [decide_eq_false hall, decide_eq_true (hr.2 hall)]; rfl
  clear hr
  go_wp2
  go_ret
  exact ⟨by rw [HV.out]; rfl, rfl⟩
theorem implColNameOk_any (s : ByteArray) (w : World) (hs : s.size ≤ 1048576) :
    Calls Try.prog 19 #[.string s] w fun e w' => e = .returned (.bool (decide (CnGood s))) ∧ Below w.heap.size w w' := by
  by_cases hin : 1 ≤ s.size ∧ s.size ≤ 12
  · have HI : Hid (inB (s.size : Int) 1 12 = true) := inB_yes (by omega)
    have HD : Hid (decide (CnGood s) = decide (∀ x ∈ s.data.toList, lowB x)) := decide_eq_decide.2 ⟨fun h => h.1, fun h => ⟨h, hin⟩⟩
    rw [HD.out]
    have hs12 := hin.2
    clear hin
    obtain ⟨B, hB⟩ : ∃ B, decide (∀ x ∈ s.data.toList, lowB x) = B := ⟨_, rfl⟩
    have HB : Hid (decide (∀ x ∈ s.data.toList, lowB x) = B) := hB
    rw [hB]
    clear hB
    have hcv : ∀ z : World, (convert 9 22 (.string s)).run Try.prog z = .ok (.slice (some ⟨z.heap.size, 0, none⟩) s.size (grownCap z s.size 0 5)) (Lib.bytesWorld z 5 s) := fun z => Lib.run_convert_string_bytes z 9 22 5 s Try.underlying9 Try.underlying22 Try.underlying5
    have HBW : Hid (Below w.heap.size w (Lib.bytesWorld w 5 s)) := ⟨rfl, rfl, rfl, by rw [Lib.bytesWorld_size]; omega, fun k hk => Lib.bytesWorld_at_old w _ s k hk⟩
    have HC : Hid (∀ i x, s.data.toList[i]? = some x → (Lib.bytesWorld w 5 s).cell? ⟨w.heap.size, i, none⟩ = some (.int .u8 (x.toNat : Int))) := fun i x hi => by
      have hlt : i < s.data.toList.length := (List.getElem?_eq_some_iff.1 hi).1
      rw [Lib.bytesWorld_cell w _ s i (by simpa using hlt), List.getD, hi]
      rfl
    go_enter Try.func19, Try.ntmps19
    go_wp2_with fail
    refine (within_g _ _ _ _).mono ?_
    rintro e w1 ⟨rfl, rfl⟩
    rw [HI.out]
    go_wp2_with fail
    refine (cnContains_any w1.heap.size s.size _ s.data.toList _ (by simp) hs12 HC.out).mono ?_
    rintro e w2 ⟨rfl, rfl⟩
    rw [HB.out]
    go_wp2
    go_ret
    cases B <;> exact ⟨rfl, HBW.out⟩
  · have HI : Hid (inB (s.size : Int) 1 12 = false) := inB_no (by omega)
    have HD : Hid (decide (CnGood s) = false) := decide_eq_false fun h => hin h.2
    rw [HD.out]
    clear hin
    go_enter Try.func19, Try.ntmps19
    go_wp2_with fail
    refine (within_g _ _ _ _).mono ?_
    rintro e w1 ⟨rfl, rfl⟩
    rw [HI.out]
    go_wp2
    go_ret
    exact ⟨rfl, Below.refl _ _⟩
end
section
open Go.ChangeShapes Go.WideShapes Go.ChangeAt Go.RowKit Go.Maps
theorem posN_one {nm : List ByteArray} {m : Nat} (hm : nm.length = m) (h : ∀ s : ByteArray, s ∈ nm → (posN nm m s.data.toList).length ≤ 1) : nm.Nodup := by
  refine List.pairwise_iff_getElem.2 fun i j hi hj hij e => ?_
  have h1 := h nm[i] (List.getElem_mem hi)
  have a1 : (i : Int) ∈ posN nm m nm[i].data.toList := posN_mem.2 ⟨i, by omega, by simp [List.getD, hi], rfl⟩
  have a2 : (j : Int) ∈ posN nm m nm[i].data.toList := posN_mem.2 ⟨j, by omega, by rw [e]; simp [List.getD, hj], rfl⟩
  match hl : posN nm m nm[i].data.toList with
  | [] => rw [hl] at a1; simp at a1
  | [y] => rw [hl] at a1 a2; simp at a1 a2; omega
  | y :: z :: r => rw [hl] at h1; simp at h1
theorem posN_two {nm : List ByteArray} {m : Nat} {t : List UInt8} (hm : nm.length = m) (h : 1 < (posN nm m t).length) : ¬ nm.Nodup := by
  intro hnd
  have hp := posN_nodup nm m t
  match hl : posN nm m t with
  | [] => rw [hl] at h; simp at h
  | [y] => rw [hl] at h; simp at h
  | y :: z :: r =>
    rw [hl] at hp
    have hne : y ≠ z := fun e => by rw [e] at hp; simp at hp
    obtain ⟨i, hi, ei, rfl⟩ := posN_mem.1 (show y ∈ posN nm m t by rw [hl]; simp)
    obtain ⟨j, hj, ej, rfl⟩ := posN_mem.1 (show z ∈ posN nm m t by rw [hl]; simp)
    have hi' : i < nm.length := by omega
    have hj' : j < nm.length := by omega
    simp only [List.getD, List.getElem?_eq_getElem hi', List.getElem?_eq_getElem hj', Option.getD_some] at ei ej
    have e : nm[i] = nm[j] := str_eq (ei.trans ej.symm)
    have hp2 := List.pairwise_iff_getElem.1 hnd
    rcases Nat.lt_trichotomy i j with h1 | h1 | h1
    · exact hp2 i j hi' hj' h1 e
    · exact hne (by rw [h1])
    · exact hp2 j i hj' hi' h1 e.symm
theorem posN_in {nm : List ByteArray} {m : Nat} {s : ByteArray} (hm : nm.length = m) (h : posN nm m s.data.toList ≠ []) : s ∈ nm := by
  obtain ⟨x, hx⟩ := List.exists_mem_of_ne_nil _ h
  obtain ⟨i, hi, ei, _⟩ := posN_mem.1 hx
  have hi' : i < nm.length := by omega
  simp only [List.getD, List.getElem?_eq_getElem hi', Option.getD_some] at ei
  rw [← str_eq ei]
  exact List.getElem_mem hi'
theorem posN_ne {nm : List ByteArray} {m : Nat} {s : ByteArray} (hm : nm.length = m) (h : s ∈ nm) : posN nm m s.data.toList ≠ [] := by
  obtain ⟨i, hi, rfl⟩ := List.getElem_of_mem h
  exact List.ne_nil_of_mem (posN_mem.2 ⟨i, by omega, by simp [List.getD, hi], rfl⟩)
def NmGood (nm : List ByteArray) : Prop := (∀ x ∈ nm, CnGood x) ∧ nm.Nodup
instance (nm : List ByteArray) : Decidable (NmGood nm) := by unfold NmGood; infer_instance
theorem namesOk_any (w : World) (b n base m : Nat) (nm : List ByteArray) (h : MapN w b n base (posN nm m)) (hm : nm.length = m) (hsz : ∀ x ∈ nm, x.size ≤ 1048576) :
    Calls Try.prog 84 #[.map (some b)] w fun e w' => e = .returned (.bool (decide (NmGood nm))) ∧ Below w.heap.size w w' := by
  obtain ⟨R, D, hown, hR, hbb, hD⟩ := h
  have HR : Hid (RowsN R w base) := hR
  have HD1 : Hid (ND D (posN nm m)) := hD
  have HSZ : Hid (∀ x ∈ nm, x.size ≤ 1048576) := hsz
  have hblt := hown.lt
  obtain ⟨B, hB⟩ : ∃ B, decide (NmGood nm) = B := ⟨_, rfl⟩
  rw [hB]
  have HB : Hid (decide (NmGood nm) = B) := hB
  clear hB hR hD hsz hbb
  go_enter Try.func84, Try.ntmps84
  go_wp2_with (first | (at_range; refine wpList_range_own _ rfl _ 85 rfl 9 25 mapLawN Try.underlying85 R b n D rfl hown ?_; intro w2 hrg0 hg0 hs2) | fail)
  go_frame
  have hb2 : Below w.heap.size w w2 := (Below.refl _ _).grown hg0 (Nat.le_refl _) (fun k e => by cases e)
  clear hown hg0
  go_loopw [3] (fun _ wr => ∃ left cnt, wr.ranges Try.prog 9 R b w.heap.size n D left cnt ∧ (∀ s : ByteArray, posN nm m s.data.toList ≠ [] → left (.string s.data.toList) = false → CnGood s ∧ (posN nm m s.data.toList).length ≤ 1) ∧ Below w.heap.size w wr) (fun _ wr => wr.rangeLeft b w.heap.size)
  case atStart =>
    refine ⟨_, _, hrg0, fun s hs hl => ?_, hb2⟩
    rw [(HD1.out.2 _).1, decide_eq_true hs] at hl
    cases hl
  case round =>
    obtain ⟨left, cnt, hrg, hok, hbr⟩ := hrel
    have HOK : Hid (∀ s : ByteArray, posN nm m s.data.toList ≠ [] → left (.string s.data.toList) = false → CnGood s ∧ (posN nm m s.data.toList).length ≤ 1) := hok
    clear hrg0 hb2 hok
    go_wp2_with (first | (at_next; refine wpList_next_names _ rfl _ rfl R HR.out b w.heap.size n D HD1.out left cnt rfl hrg ?_ ?_) | fail)
    · intro _ hl0
      have HV : Hid (true = B) := by
        show _ = _
        rw [← HB.out]
        exact (decide_eq_true ⟨fun x hx => (HOK.out x (posN_ne hm hx) (hl0 _)).1, posN_one hm fun x hx => (HOK.out x (posN_ne hm hx) (hl0 _)).2⟩).symm
      clear hl0
      go_wp2
      go_ret
      exact ⟨by rw [HV.out]; rfl, hbr⟩
    · intro s p l c' w3 cnt3 hs hls hFs hrow hrg3 hlt hg3 hs3 hen
      have hb3 : Below w.heap.size w w3 := hbr.grown hg3 hbr.size (fun k e => by cases e; exact Nat.le_refl _)
      obtain rfl := rowN_len hrow
      have hin := posN_in hm hFs
      have hq := posN_len nm m s.data.toList
      have HIN : Hid (s ∈ nm) := hin
      have HLS : Hid (left (.string s.data.toList) = true) := hls
      have HRG : Hid (w3.ranges Try.prog 9 R b w.heap.size n D (fun z => left z && !z.sameKey (.string s.data.toList)) cnt3) := hrg3
      have HB3 : Hid (Below w.heap.size w w3) := hb3
      have HLT : Hid (cnt3 < wr.rangeLeft b w.heap.size) := by rw [hrg.left_eq]; exact hlt
      obtain ⟨q, hq1⟩ : ∃ q, (posN nm m s.data.toList).length = q := ⟨_, rfl⟩
      have HQ : Hid ((posN nm m s.data.toList).length = q) := hq1
      rw [hq1] at hq hen ⊢
      clear hin hls hrg3 hb3 hrow hFs hg3 hs3 hlt hq1 hrg hbr
      go_wp2_with fail
      refine (implColNameOk_any s _ (HSZ.out s HIN.out)).mono ?_
      rintro e w4 ⟨rfl, hb4⟩
      have HB4 : Hid (Below w.heap.size w w4) := HB3.out.trans (hb4.mono HB3.out.size)
      have HRG4 : Hid (w4.ranges Try.prog 9 R b w.heap.size n D (fun z => left z && !z.sameKey (.string s.data.toList)) cnt3) := HRG.out.kept (Below.grownN hb4) (by simp) (by simp)
      clear hb4
      by_cases hc : CnGood s
      · rw [decide_eq_true hc]
        by_cases h1 : (1 : Int) < (q : Int)
        · have HV : Hid (false = B) := by
            show _ = _
            rw [← HB.out]
            exact (decide_eq_false fun h => posN_two hm (by rw [HQ.out]; omega) h.2).symm
          clear hc
          go_wp2
          go_ret
          exact ⟨by rw [HV.out]; rfl, HB4.out⟩
        · have HC : Hid (CnGood s) := hc
          clear hc
          go_wp2
          refine ⟨⟨_, _, HRG4.out, fun s' hs' hl' => ?_, HB4.out⟩, by rw [HRG4.out.left_eq]; exact HLT.out⟩
          rw [sameKeyN] at hl'
          by_cases e : s'.data.toList = s.data.toList
          · rw [str_eq e]
            exact ⟨HC.out, by rw [HQ.out]; omega⟩
          · rw [decide_eq_false e] at hl'
            exact HOK.out s' hs' (by simpa using hl')
      · have HV : Hid (false = B) := by
          show _ = _
          rw [← HB.out]
          exact (decide_eq_false fun h => hc (h.1 s HIN.out)).symm
        rw [decide_eq_false hc]
        clear hc
        go_wp2
        go_ret
        exact ⟨by rw [HV.out]; rfl, HB4.out⟩
theorem nameCol_any (s : ByteArray) (k : Int) (b : Bool) (w : World) : Calls Try.prog 142 #[.agg #[.string s, .int .i64 k, .bool b]] w fun e w' => e = .returned (.string s) ∧ Below w.heap.size w w' := by
  obtain ⟨W, hW⟩ : ∃ W, w.alloc (.cells #[.string s, .int .i64 k, .bool b] 75) = W := ⟨_, rfl⟩
  have HB0 : Hid (Below w.heap.size w W) := by rw [← hW]; exact (Below.refl _ w).alloc (Nat.le_refl _) _
  have X0 : Hid (Box W w.heap.size #[.string s, .int .i64 k, .bool b] 75) := by rw [← hW]; exact box_of w _ _
  have HW : Hid (w.alloc (.cells #[.string s, .int .i64 k, .bool b] 75) = W) := hW
  have c0 : W.cell? ⟨w.heap.size, 0, none⟩ = some (.string s) := X0.out.cell 0
  clear hW
  go_enter Try.func142, Try.ntmps142
  go_upto_region 1 with (fail)
  rw [HW.out]
  go_wp2
  go_ret
  exact ⟨rfl, HB0.out⟩
theorem callCol_any (s : ByteArray) (k : Int) (b : Bool) (w : World) : (callMethod (.iface 75 (.agg #[.string s, .int .i64 k, .bool b])) "loop.example/g00468/impl.name" #[]).run Try.prog w = .ok (.enter 142 #[.agg #[.string s, .int .i64 k, .bool b]]) w := by kernel_rfl
theorem nameIndex_any (s : ByteArray) (a : Option Addr) (m d : Nat) (b : Bool) (w : World) : Calls Try.prog 143 #[.agg #[.string s, .slice a m d, .bool b]] w fun e w' => e = .returned (.string s) ∧ Below w.heap.size w w' := by
  obtain ⟨W, hW⟩ : ∃ W, w.alloc (.cells #[.string s, .slice a m d, .bool b] 105) = W := ⟨_, rfl⟩
  have HB0 : Hid (Below w.heap.size w W) := by rw [← hW]; exact (Below.refl _ w).alloc (Nat.le_refl _) _
  have X0 : Hid (Box W w.heap.size #[.string s, .slice a m d, .bool b] 105) := by rw [← hW]; exact box_of w _ _
  have HW : Hid (w.alloc (.cells #[.string s, .slice a m d, .bool b] 105) = W) := hW
  have c0 : W.cell? ⟨w.heap.size, 0, none⟩ = some (.string s) := X0.out.cell 0
  clear hW
  go_enter Try.func143, Try.ntmps143
  go_upto_region 1 with (fail)
  rw [HW.out]
  go_wp2
  go_ret
  exact ⟨rfl, HB0.out⟩
theorem callIndex_any (s : ByteArray) (a : Option Addr) (m d : Nat) (b : Bool) (w : World) : (callMethod (.iface 105 (.agg #[.string s, .slice a m d, .bool b])) "loop.example/g00468/impl.name" #[]).run Try.prog w = .ok (.enter 143 #[.agg #[.string s, .slice a m d, .bool b]]) w := by kernel_rfl
end
end Go.Proofs.Ytmgofehafjogfaa
