/- namesOk: each name is one, none stands there twice. -/
import Derived.Test.YtmgofehafjogfaaNmL
import Derived.Test.YtmgofehafjogfaaImplCn
namespace Go.Proofs.Ytmgofehafjogfaa
open Go.ChangeShapes Go.WideShapes Go.ChangeAt Go.RowKit Go.Maps

theorem posN_one {nm : List ByteArray} {m : Nat} (hm : nm.length = m) (h : ∀ s : ByteArray, s ∈ nm → (posN nm m s.data.toList).length ≤ 1) : nm.Nodup := by
  refine List.pairwise_iff_getElem.2 fun i j hi hj hij e => ?_
  have h1 := h nm[i] (List.getElem_mem hi)
  have a1 : (i : Int) ∈ posN nm m nm[i].data.toList := posN_mem.2 ⟨i, by omega, by simp [List.getD, hi], rfl⟩
  have a2 : (j : Int) ∈ posN nm m nm[i].data.toList := posN_mem.2 ⟨j, by omega, by rw [e]; simp [List.getD, hj], rfl⟩
  match hl : posN nm m nm[i].data.toList with
  | [] => rw [hl] at a1; simp at a1
  | [y] => rw [hl] at a1 a2; simp at a1 a2; omega
  | y :: z :: r => rw [hl] at h1; simp at h1
theorem posN_two {nm : List ByteArray} {m : Nat} {t : List UInt8} (hm : nm.length = m) (h : 1 < (posN nm m t).length) : ¬ nm.Nodup := by
  intro hnd
  have hp := posN_nodup nm m t
  match hl : posN nm m t with
  | [] => rw [hl] at h; simp at h
  | [y] => rw [hl] at h; simp at h
  | y :: z :: r =>
    rw [hl] at hp
    have hne : y ≠ z := fun e => by rw [e] at hp; simp at hp
    obtain ⟨i, hi, ei, rfl⟩ := posN_mem.1 (show y ∈ posN nm m t by rw [hl]; simp)
    obtain ⟨j, hj, ej, rfl⟩ := posN_mem.1 (show z ∈ posN nm m t by rw [hl]; simp)
    have hi' : i < nm.length := by omega
    have hj' : j < nm.length := by omega
    simp only [List.getD, List.getElem?_eq_getElem hi', List.getElem?_eq_getElem hj', Option.getD_some] at ei ej
    have e : nm[i] = nm[j] := str_eq (ei.trans ej.symm)
    have hp2 := List.pairwise_iff_getElem.1 hnd
    rcases Nat.lt_trichotomy i j with h1 | h1 | h1
    · exact hp2 i j hi' hj' h1 e
    · exact hne (by rw [h1])
    · exact hp2 j i hj' hi' h1 e.symm
theorem posN_in {nm : List ByteArray} {m : Nat} {s : ByteArray} (hm : nm.length = m) (h : posN nm m s.data.toList ≠ []) : s ∈ nm := by
  obtain ⟨x, hx⟩ := List.exists_mem_of_ne_nil _ h
  obtain ⟨i, hi, ei, _⟩ := posN_mem.1 hx
  have hi' : i < nm.length := by omega
  simp only [List.getD, List.getElem?_eq_getElem hi', Option.getD_some] at ei
  rw [← str_eq ei]
  exact List.getElem_mem hi'
theorem posN_ne {nm : List ByteArray} {m : Nat} {s : ByteArray} (hm : nm.length = m) (h : s ∈ nm) : posN nm m s.data.toList ≠ [] := by
  obtain ⟨i, hi, rfl⟩ := List.getElem_of_mem h
  exact List.ne_nil_of_mem (posN_mem.2 ⟨i, by omega, by simp [List.getD, hi], rfl⟩)
def NmGood (nm : List ByteArray) : Prop := (∀ x ∈ nm, CnGood x) ∧ nm.Nodup
instance (nm : List ByteArray) : Decidable (NmGood nm) := by unfold NmGood; infer_instance
set_option maxHeartbeats 8000000 in
set_option maxRecDepth 100000 in
theorem namesOk_any (w : World) (b n base m : Nat) (nm : List ByteArray) (h : MapN w b n base (posN nm m)) (hm : nm.length = m) (hsz : ∀ x ∈ nm, x.size ≤ 1048576) :
    Calls Try.prog 84 #[.map (some b)] w fun e w' => e = .returned (.bool (decide (NmGood nm))) ∧ Below w.heap.size w w' := by
  obtain ⟨R, D, hown, hR, hbb, hD⟩ := h
  have HR : Hid (RowsN R w base) := hR
  have HD1 : Hid (ND D (posN nm m)) := hD
  have HSZ : Hid (∀ x ∈ nm, x.size ≤ 1048576) := hsz
  have hblt := hown.lt
  obtain ⟨B, hB⟩ : ∃ B, decide (NmGood nm) = B := ⟨_, rfl⟩
  rw [hB]
  have HB : Hid (decide (NmGood nm) = B) := hB
  clear hB hR hD hsz hbb
  go_enter Try.func84, Try.ntmps84
  go_wp2_with (first | (at_range; refine wpList_range_own _ rfl _ 85 rfl 9 25 mapLawN Try.underlying85 R b n D rfl hown ?_; intro w2 hrg0 hg0 hs2) | fail)
  go_frame
  have hb2 : Below w.heap.size w w2 := (Below.refl _ _).grown hg0 (Nat.le_refl _) (fun k e => by cases e)
  clear hown hg0
  go_loopw [3] (fun _ wr => ∃ left cnt, wr.ranges Try.prog 9 R b w.heap.size n D left cnt ∧ (∀ s : ByteArray, posN nm m s.data.toList ≠ [] → left (.string s.data.toList) = false → CnGood s ∧ (posN nm m s.data.toList).length ≤ 1) ∧ Below w.heap.size w wr) (fun _ wr => wr.rangeLeft b w.heap.size)
  case atStart =>
    refine ⟨_, _, hrg0, fun s hs hl => ?_, hb2⟩
    rw [(HD1.out.2 _).1, decide_eq_true hs] at hl
    cases hl
  case round =>
    obtain ⟨left, cnt, hrg, hok, hbr⟩ := hrel
    have HOK : Hid (∀ s : ByteArray, posN nm m s.data.toList ≠ [] → left (.string s.data.toList) = false → CnGood s ∧ (posN nm m s.data.toList).length ≤ 1) := hok
    clear hrg0 hb2 hok
    go_wp2_with (first | (at_next; refine wpList_next_names _ rfl _ rfl R HR.out b w.heap.size n D HD1.out left cnt rfl hrg ?_ ?_) | fail)
    · intro _ hl0
      have HV : Hid (true = B) := by
        show _ = _
        rw [← HB.out]
        exact (decide_eq_true ⟨fun x hx => (HOK.out x (posN_ne hm hx) (hl0 _)).1, posN_one hm fun x hx => (HOK.out x (posN_ne hm hx) (hl0 _)).2⟩).symm
      clear hl0
      go_wp2
      go_ret
      exact ⟨by rw [HV.out]; rfl, hbr⟩
    · intro s p l c' w3 cnt3 hs hls hFs hrow hrg3 hlt hg3 hs3 hen
      have hb3 : Below w.heap.size w w3 := hbr.grown hg3 hbr.size (fun k e => by cases e; exact Nat.le_refl _)
      obtain rfl := rowN_len hrow
      have hin := posN_in hm hFs
      have hq := posN_len nm m s.data.toList
      have HIN : Hid (s ∈ nm) := hin
      have HLS : Hid (left (.string s.data.toList) = true) := hls
      have HRG : Hid (w3.ranges Try.prog 9 R b w.heap.size n D (fun z => left z && !z.sameKey (.string s.data.toList)) cnt3) := hrg3
      have HB3 : Hid (Below w.heap.size w w3) := hb3
      have HLT : Hid (cnt3 < wr.rangeLeft b w.heap.size) := by rw [hrg.left_eq]; exact hlt
      obtain ⟨q, hq1⟩ : ∃ q, (posN nm m s.data.toList).length = q := ⟨_, rfl⟩
      have HQ : Hid ((posN nm m s.data.toList).length = q) := hq1
      rw [hq1] at hq hen ⊢
      clear hin hls hrg3 hb3 hrow hFs hg3 hs3 hlt hq1 hrg hbr
      go_wp2_with fail
      refine (implColNameOk_any s _ (HSZ.out s HIN.out)).mono ?_
      rintro e w4 ⟨rfl, hb4⟩
      have HB4 : Hid (Below w.heap.size w w4) := HB3.out.trans (hb4.mono HB3.out.size)
      have HRG4 : Hid (w4.ranges Try.prog 9 R b w.heap.size n D (fun z => left z && !z.sameKey (.string s.data.toList)) cnt3) := HRG.out.kept (Below.grownN hb4) (by simp) (by simp)
      clear hb4
      by_cases hc : CnGood s
      · rw [decide_eq_true hc]
        by_cases h1 : (1 : Int) < (q : Int)
        · have HV : Hid (false = B) := by
            show _ = _
            rw [← HB.out]
            exact (decide_eq_false fun h => posN_two hm (by rw [HQ.out]; omega) h.2).symm
          clear hc
          go_wp2
          go_ret
          exact ⟨by rw [HV.out]; rfl, HB4.out⟩
        · have HC : Hid (CnGood s) := hc
          clear hc
          go_wp2
          refine ⟨⟨_, _, HRG4.out, fun s' hs' hl' => ?_, HB4.out⟩, by rw [HRG4.out.left_eq]; exact HLT.out⟩
          rw [sameKeyN] at hl'
          by_cases e : s'.data.toList = s.data.toList
          · rw [str_eq e]
            exact ⟨HC.out, by rw [HQ.out]; omega⟩
          · rw [decide_eq_false e] at hl'
            exact HOK.out s' hs' (by simpa using hl')
      · have HV : Hid (false = B) := by
          show _ = _
          rw [← HB.out]
          exact (decide_eq_false fun h => hc (h.1 s HIN.out)).symm
        rw [decide_eq_false hc]
        clear hc
        go_wp2
        go_ret
        exact ⟨by rw [HV.out]; rfl, HB4.out⟩
end Go.Proofs.Ytmgofehafjogfaa
