/- The program's ColNameOk, walked: its bytes laid anew, and slices.ContainsFunc over them. -/
import Derived.Test.YtmgofehafjogfaaSchL
import Derived.Test.YtmgofehafjogfaaWithin
import Derived.Lib.ConvBytes
import Derived.Deep.Cut
namespace Go.Proofs.Ytmgofehafjogfaa
open Go.ChangeShapes Go.WideShapes Go.ChangeAt Go.RowKit

set_option maxHeartbeats 8000000 in
set_option maxRecDepth 100000 in
theorem cnBad_any (b : UInt8) (w : World) : Calls Try.prog 58 #[.int .u8 (b.toNat : Int)] w fun e w' => e = .returned (.bool !(decide (lowB b))) ∧ w' = w := by
  have hb : (b.toNat : Int) < 256 := by have := b.toNat_lt; omega
  have hw : IntKind.i64.wrap (b.toNat : Int) = (b.toNat : Int) := by rw [IntKind.wrap_i64]; omega
  have HV : Hid (inB (b.toNat : Int) 97 122 = decide (lowB b)) := by
    unfold inB lowB
    exact decide_eq_decide.2 (by omega)
  go_enter Try.func58, Try.ntmps58
  go_wp2_with fail
  refine (within_g _ _ _ _).mono ?_
  rintro e w1 ⟨rfl, rfl⟩
  rw [HV.out]
  go_wp2
  go_ret
  exact ⟨rfl, rfl⟩
set_option maxHeartbeats 8000000 in
set_option maxRecDepth 100000 in
theorem cnIndex_any (g n c : Nat) (l : List UInt8) (w : World) (hl : l.length = n) (hn : n ≤ 12) (h : ∀ i x, l[i]? = some x → w.cell? ⟨g, i, none⟩ = some (.int .u8 (x.toNat : Int))) :
    Calls Try.prog 92 #[.slice (some ⟨g, 0, none⟩) n c, .func (.func 58) #[] #[]] w fun e w' => ∃ r : Int, (e = .returned (.int .i64 r) ∧ (0 ≤ r ↔ ¬ ∀ x ∈ l, lowB x)) ∧ w' = w := by
  have H : Hid (∀ i x, l[i]? = some x → w.cell? ⟨g, i, none⟩ = some (.int .u8 (x.toNat : Int))) := h
  clear h
  go_enter Try.func92, Try.ntmps92
  go_wp2
  go_loopw [8] (fun i wr => ∃ j : Nat, j ≤ n ∧ i = .int .i64 (j : Int) ∧ (∀ x ∈ l.take j, lowB x) ∧ wr = w) (fun i _ => n - (RowKit.intOf i).toNat)
  case atStart => exact ⟨0, Nat.zero_le _, rfl, fun x hx => by simp at hx, rfl⟩
  case round =>
    obtain ⟨j, hj, rfl, hg, rfl⟩ := hrel
    have HG : Hid (∀ x ∈ l.take j, lowB x) := hg
    clear hg
    by_cases hlt : j < n
    · obtain ⟨b, hx⟩ : ∃ b, l[j]? = some b := ⟨_, List.getElem?_eq_getElem (by omega)⟩
      have c0 := H.out j b hx
      have c1 : wr.cell? ⟨g, 0 + j, none⟩ = some (.int .u8 (b.toNat : Int)) := by rw [Nat.zero_add]; exact c0
      have HX : Hid (l[j]? = some b) := hx
      have hk0 : (0 : Int) ≤ (j : Int) := by omega
      have hk1 : (j : Int) < (n : Int) := by omega
      clear hx
      go_wp2_with fail
      refine (cnBad_any b _).mono ?_
      rintro e w2 ⟨rfl, rfl⟩
      by_cases hv : lowB b
      · rw [decide_eq_true hv]
        have hall : ∀ x ∈ l.take (j + 1), lowB x := take_all HG.out HX.out hv
        go_wp2
        go_roundw
        case rel => exact ⟨j + 1, by omega, by go_num, hall, trivial⟩
        case measure => simp [RowKit.intOf]; omega
      · rw [decide_eq_false hv]
        have HV : Hid (¬ ∀ x ∈ l, lowB x) := fun h => hv (h _ (List.mem_of_getElem? HX.out))
        clear hv
        go_wp2
        go_ret
        exact ⟨(j : Int), ⟨rfl, ⟨fun _ => HV.out, fun _ => by omega⟩⟩, rfl⟩
    · obtain rfl : j = n := by omega
      have HALL : Hid (∀ x ∈ l, lowB x) := by
        have h1 := HG.out
        rwa [List.take_of_length_le (by omega)] at h1
      go_wp2
      go_ret
      exact ⟨-1, ⟨rfl, ⟨fun h => by omega, fun h => absurd HALL.out h⟩⟩, rfl⟩
set_option maxHeartbeats 8000000 in
set_option maxRecDepth 100000 in
theorem cnContains_any (g n c : Nat) (l : List UInt8) (w : World) (hl : l.length = n) (hn : n ≤ 12) (h : ∀ i x, l[i]? = some x → w.cell? ⟨g, i, none⟩ = some (.int .u8 (x.toNat : Int))) :
    Calls Try.prog 59 #[.slice (some ⟨g, 0, none⟩) n c, .func (.func 58) #[] #[]] w fun e w' => e = .returned (.bool !(decide (∀ x ∈ l, lowB x))) ∧ w' = w := by
  have H : Hid (∀ i x, l[i]? = some x → w.cell? ⟨g, i, none⟩ = some (.int .u8 (x.toNat : Int))) := h
  clear h
  go_enter Try.func59, Try.ntmps59
  go_wp2_with fail
  refine (cnIndex_any g n c l _ hl hn H.out).mono ?_
  rintro e w1 ⟨r, ⟨rfl, hr⟩, rfl⟩
  have HV : Hid (decide (0 ≤ r) = !(decide (∀ x ∈ l, lowB x))) := by
    show _ = _
    by_cases hall : ∀ x ∈ l, lowB x
    · rw [decide_eq_true hall, decide_eq_false (fun h => hr.1 h hall)]; rfl
    · rw [decide_eq_false hall, decide_eq_true (hr.2 hall)]; rfl
  clear hr
  go_wp2
  go_ret
  exact ⟨by rw [HV.out]; rfl, rfl⟩
set_option maxHeartbeats 8000000 in
set_option maxRecDepth 100000 in
theorem implColNameOk_any (s : ByteArray) (w : World) (hs : s.size ≤ 1048576) :
    Calls Try.prog 19 #[.string s] w fun e w' => e = .returned (.bool (decide (CnGood s))) ∧ Below w.heap.size w w' := by
  by_cases hin : 1 ≤ s.size ∧ s.size ≤ 12
  · have HI : Hid (inB (s.size : Int) 1 12 = true) := inB_yes (by omega)
    have HD : Hid (decide (CnGood s) = decide (∀ x ∈ s.data.toList, lowB x)) := decide_eq_decide.2 ⟨fun h => h.1, fun h => ⟨h, hin⟩⟩
    rw [HD.out]
    have hs12 := hin.2
    clear hin
    obtain ⟨B, hB⟩ : ∃ B, decide (∀ x ∈ s.data.toList, lowB x) = B := ⟨_, rfl⟩
    have HB : Hid (decide (∀ x ∈ s.data.toList, lowB x) = B) := hB
    rw [hB]
    clear hB
    have hcv : ∀ z : World, (convert 9 22 (.string s)).run Try.prog z = .ok (.slice (some ⟨z.heap.size, 0, none⟩) s.size (grownCap z s.size 0 5)) (Lib.bytesWorld z 5 s) := fun z => Lib.run_convert_string_bytes z 9 22 5 s Try.underlying9 Try.underlying22 Try.underlying5
    have HBW : Hid (Below w.heap.size w (Lib.bytesWorld w 5 s)) := ⟨rfl, rfl, rfl, by rw [Lib.bytesWorld_size]; omega, fun k hk => Lib.bytesWorld_at_old w _ s k hk⟩
    have HC : Hid (∀ i x, s.data.toList[i]? = some x → (Lib.bytesWorld w 5 s).cell? ⟨w.heap.size, i, none⟩ = some (.int .u8 (x.toNat : Int))) := fun i x hi => by
      have hlt : i < s.data.toList.length := (List.getElem?_eq_some_iff.1 hi).1
      rw [Lib.bytesWorld_cell w _ s i (by simpa using hlt), List.getD, hi]
      rfl
    go_enter Try.func19, Try.ntmps19
    go_wp2_with fail
    refine (within_g _ _ _ _).mono ?_
    rintro e w1 ⟨rfl, rfl⟩
    rw [HI.out]
    go_wp2_with fail
    refine (cnContains_any w1.heap.size s.size _ s.data.toList _ (by simp) hs12 HC.out).mono ?_
    rintro e w2 ⟨rfl, rfl⟩
    rw [HB.out]
    go_wp2
    go_ret
    cases B <;> exact ⟨rfl, HBW.out⟩
  · have HI : Hid (inB (s.size : Int) 1 12 = false) := inB_no (by omega)
    have HD : Hid (decide (CnGood s) = false) := decide_eq_false fun h => hin h.2
    rw [HD.out]
    clear hin
    go_enter Try.func19, Try.ntmps19
    go_wp2_with fail
    refine (within_g _ _ _ _).mono ?_
    rintro e w1 ⟨rfl, rfl⟩
    rw [HI.out]
    go_wp2
    go_ret
    exact ⟨rfl, Below.refl _ _⟩
end Go.Proofs.Ytmgofehafjogfaa
