/- Texts joined: ImplKp, BinS, FindI, ImplCh, ImplXs. -/
import Derived.Test.YtmgofehafjogfaaSH11
import Derived.Test.YtmgofehafjogfaaSH10
import Derived.Deep.LoopGhost
import Derived.Deep.Draws
import Derived.Test.YtmgofehafjogfaaSH01
import Derived.Below
import Derived.Test.YtmgofehafjogfaaSH09
set_option maxHeartbeats 8000000
set_option maxRecDepth 100000
namespace Go.Proofs.Ytmgofehafjogfaa
section
open Go.ChangeShapes Go.WideShapes Go.ChangeAt Go.RowKit Go.Maps
theorem MapN.kept {w w' : World} {b n base : Nat} {F : List UInt8 → List Int} (h : MapN w b n base F) (hg : w.grownBy w' none) : MapN w' b n base F := by
  obtain ⟨R, D, hown, hR, hbb, hD⟩ := h
  have hlt := hown.lt
  obtain ⟨es, clock, hb, F1, hs, he⟩ := hown
  exact ⟨R, D, ⟨es, clock, (hg.block b hlt (by simp)).trans hb, F1, hs, he⟩, fun v y hy => by obtain ⟨zs, ho, e⟩ := hR v y hy; exact ⟨zs, ho.kept hg (noneN v), e⟩, hbb, hD⟩
def mayN (L : List Col3) (t : List UInt8) : Bool := L.any fun x => x.2.2 && decide (t = x.1.data.toList)
def keyF (L M : List Col3) (n : Nat) (t : List UInt8) : List Int := if mayN M t = true then [] else posN (L.map (·.1)) n t
theorem keyF_step {L : List Col3} {n k : Nat} {x : Col3} (hx : L[k]? = some x) (t : List UInt8) : keyF L (L.take (k + 1)) n t = if x.2.2 = true ∧ t = x.1.data.toList then [] else keyF L (L.take k) n t := by
  unfold keyF mayN
  rw [List.take_add_one, hx, Option.toList_some, List.any_append]
  by_cases h : x.2.2 = true ∧ t = x.1.data.toList
  · rw [if_pos h, if_pos]
    simp [h.1, h.2]
  · rw [if_neg h]
    have e : ([x].any fun y => y.2.2 && decide (t = y.1.data.toList)) = false := by
      simp only [List.any_cons, List.any_nil, Bool.or_false, Bool.and_eq_false_iff, decide_eq_false_iff_not]
      by_cases h1 : x.2.2 = true
      · exact .inr fun h2 => h ⟨h1, h2⟩
      · exact .inl (by simpa using h1)
    rw [e, Bool.or_false]
theorem keyF_sub {L M : List Col3} {n : Nat} {t : List UInt8} {x : Int} (h : x ∈ keyF L M n t) : x ∈ posN (L.map (·.1)) n t := by
  unfold keyF at h
  split at h
  · simp at h
  · exact h
theorem keyF_nodup (L M : List Col3) (n : Nat) (t : List UInt8) : (keyF L M n t).Nodup := by
  unfold keyF
  split
  · simp
  · exact posN_nodup _ _ _
theorem keyF_all {L : List Col3} {n : Nat} (hl : L.length = n) (hnd : (L.map (·.1)).Nodup) (x : Int) : (∃ t, x ∈ keyF L L n t) ↔ 0 ≤ x ∧ x < (n : Int) ∧ fast L x := by
  constructor
  · rintro ⟨t, ht⟩
    unfold keyF at ht
    split at ht
    · simp at ht
    · rename_i hno
      obtain ⟨i, hi, e, rfl⟩ := posN_mem.1 ht
      have hi' : i < L.length := by omega
      refine ⟨by omega, by omega, ?_⟩
      unfold fast
      rw [Int.toNat_natCast, List.getD, List.getElem?_eq_getElem hi', Option.getD_some]
      have e' : L[i].1.data.toList = t := by simpa [List.getD, hi'] using e
      cases hb : L[i].2.2 with
      | false => rfl
      | true => exact absurd (List.any_eq_true.2 ⟨L[i], List.getElem_mem hi', by rw [hb, decide_eq_true e'.symm]; rfl⟩) hno
  · rintro ⟨h0, h1, hf⟩
    obtain ⟨i, rfl⟩ : ∃ i : Nat, x = (i : Int) := ⟨x.toNat, by omega⟩
    have hi : i < L.length := by omega
    unfold fast at hf
    rw [Int.toNat_natCast, List.getD, List.getElem?_eq_getElem hi, Option.getD_some] at hf
    refine ⟨L[i].1.data.toList, ?_⟩
    unfold keyF
    rw [if_neg]
    · exact posN_mem.2 ⟨i, by omega, by simp [List.getD, hi], rfl⟩
    · intro hm
      obtain ⟨y, hy, hb⟩ := List.any_eq_true.1 hm
      rw [Bool.and_eq_true] at hb
      obtain ⟨j, hj, rfl⟩ := List.getElem_of_mem hy
      have e := str_eq (of_decide_eq_true hb.2)
      have hp := List.pairwise_iff_getElem.1 hnd
      rcases Nat.lt_trichotomy i j with h2 | h2 | h2
      · exact hp i j (by simpa using hi) (by simpa using hj) h2 (by simpa using e)
      · subst h2
        rw [hf] at hb
        simp at hb
      · exact hp j i (by simpa using hj) (by simpa using hi) h2 (by simpa using e.symm)
theorem keyPlaces_any (a : Option Addr) (n c : Nat) (L : List Col3) (w : World) (h : ColsAt w a n L) (h12 : n ≤ 12) (hsz : ∀ x ∈ L, x.1.size ≤ 1048576) (hnd : (L.map (·.1)).Nodup) :
    Calls Try.prog 52 #[.slice a n c] w fun e w' => (∃ v zs, e = .returned v ∧ OrdAt w' v zs ∧ ∀ x, x ∈ zs ↔ 0 ≤ x ∧ x < (n : Int) ∧ fast L x) ∧ Below w.heap.size w w' := by
  have HA : Hid (ColsAt w a n L) := h
  have HSZS : Hid (∀ x ∈ L, x.1.size ≤ 1048576) := hsz
  have HND : Hid (L.map (·.1)).Nodup := hnd
  have hl := h.1
  clear h hsz hnd
  go_enter Try.func52, Try.ntmps52
  go_wp2_with fail
  refine (byNameCol_any a n c L _ HA.out HSZS.out).mono ?_
  rintro e w1 ⟨⟨rfl, D0, hown0, hd0⟩, hb1⟩
  have HM1 : Hid (MapN w1 w.heap.size n (w.heap.size + 1) (keyF L (L.take 0) n)) := mapN_groups hown0 (ND_congr hd0 fun t => rfl)
  have HB1 : Hid (Below w.heap.size w w1) := hb1
  clear hown0 hd0 hb1
  go_wp2
  go_loopw [10] (fun i wr => ∃ k : Nat, k ≤ n ∧ i = .int .i64 (k : Int) ∧ MapN wr w.heap.size n (w.heap.size + 1) (keyF L (L.take k) n) ∧ Below w.heap.size w wr) (fun i _ => n - (intOf i).toNat)
  case atStart => exact ⟨0, Nat.zero_le _, rfl, HM1.out, HB1.out⟩
  case round =>
    obtain ⟨k, hk, rfl, hm, hb⟩ := hrel
    have HM : Hid (MapN wr w.heap.size n (w.heap.size + 1) (keyF L (L.take k) n)) := hm
    have HB : Hid (Below w.heap.size w wr) := hb
    clear hm hb HM1 HB1
    by_cases hlt : k < n
    · rcases (HA.out.below HB.out (Nat.le_refl _)).2.2 with h0 | ⟨p1, o1, rfl, g1⟩
      · omega
      obtain ⟨x, hx⟩ : ∃ x, L[k]? = some x := ⟨_, List.getElem?_eq_getElem (by omega)⟩
      obtain ⟨e0, e1, e2⟩ := g1 k x hx
      have HX : Hid (L[k]? = some x) := hx
      have HSZ : Hid (x.1.size ≤ maxLen) := Nat.le_trans (HSZS.out x (List.mem_of_getElem? hx)) (by unfold maxLen; omega)
      clear g1 hx
      obtain ⟨s, k1, fl⟩ := x
      dsimp only at e0 e1 e2 HSZ
      have hk0 : (0 : Int) ≤ (k : Int) := by omega
      have hk1 : (k : Int) < (n : Int) := by omega
      obtain ⟨r, hr⟩ : ∃ r, wr.heap.size = r := ⟨_, rfl⟩
      obtain ⟨W, hW⟩ : ∃ W, wr.alloc (.cells #[.string s, .int .i64 k1, .bool fl] 75) = W := ⟨_, rfl⟩
      have HX0 : Hid (Box W r #[.string s, .int .i64 k1, .bool fl] 75) := by rw [← hW, ← hr]; exact box_of wr _ _
      have HGW : Hid (wr.grownBy W none) := by rw [← hW]; exact World.grownBy_alloc _ _ _
      have HW : Hid (wr.alloc (.cells #[.string s, .int .i64 k1, .bool fl] 75) = W) := hW
      have HRQ : Hid (wr.heap.size = r) := hr
      have HMW : Hid (MapN W w.heap.size n (w.heap.size + 1) (keyF L (L.take k) n)) := HM.out.kept HGW.out
      have HBW : Hid (Below w.heap.size w W) := HB.out.grown HGW.out HB.out.size (fun k e => by cases e)
      clear hW hr
      go_upto_region 5 with (fail)
      rw [HW.out, HRQ.out]
      have x0 : W.cell? ⟨r, 0, none⟩ = some (.string s) := HX0.out.cell 0
      have x2 : W.cell? ⟨r, 2, none⟩ = some (.bool fl) := HX0.out.cell 2
      clear e0 e1 e2
      cases fl with
      | true =>
        obtain ⟨R, D, hown, hR, hbb, hD⟩ := HMW.out
        have HR : Hid (RowsN R W (w.heap.size + 1)) := hR
        have HD1 : Hid (ND D (keyF L (L.take k) n)) := hD
        have hkey := keyN HSZ.out
        clear hR hD hbb
        go_wp2_with (first | (at_delete; refine wpList_delete_own _ rfl _ _ 85 9 rfl 25 mapLawN Try.underlying85 R w.heap.size n D rfl hown (.string s) (.string s.data.toList) rfl hkey ?_; intro w5 hown5 hturn5) | go_in)
        have hg5 := hturn5.grown
        have hm5 : MapN w5 w.heap.size n (w.heap.size + 1) (keyF L (L.take (k + 1)) n) := ⟨R, _, hown5, fun v y hy => by
          obtain ⟨zs, ho, e⟩ := HR.out v y hy
          refine ⟨zs, ho.kept hg5 ?_, e⟩
          cases hv : v.ownBlock with
          | none => exact .inl rfl
          | some g =>
            refine .inr fun e1 => ?_
            have := (ho.1.lt g hv).1
            have e2 : g = w.heap.size := Option.some.inj e1
            omega, Nat.lt_succ_self _, ND_congr (ND_del HD1.out s.data.toList) fun t => by rw [keyF_step HX.out]; by_cases e : t = s.data.toList <;> simp [e]⟩
        have hb5 : Below w.heap.size w w5 := HBW.out.grown hg5 HBW.out.size (fun k e => by cases e; exact Nat.le_refl _)
        have HM5 : Hid (MapN w5 w.heap.size n (w.heap.size + 1) (keyF L (L.take (k + 1)) n)) := hm5
        clear hm5 hown5 hturn5 hg5 hown
        go_roundw
        case rel => exact ⟨k + 1, by omega, by go_num, HM5.out, hb5⟩
        case measure => simp [intOf]; omega
      | false =>
        have HM5 : Hid (MapN W w.heap.size n (w.heap.size + 1) (keyF L (L.take (k + 1)) n)) := by
          have e : keyF L (L.take (k + 1)) n = keyF L (L.take k) n := funext fun t => by rw [keyF_step HX.out, if_neg (by simp)]
          show MapN _ _ _ _ _
          rw [e]
          exact HMW.out
        go_wp2
        go_roundw
        case rel => exact ⟨k + 1, by omega, by go_num, HM5.out, HBW.out⟩
        case measure => simp [intOf]; omega
    · obtain rfl : k = n := by omega
      have HMX : Hid (MapN wr w.heap.size k (w.heap.size + 1) (keyF L L k)) := by
        have h1 := HM.out
        rwa [List.take_of_length_le (by omega)] at h1
      go_wp2_with fail
      refine (inOrder_any _ w.heap.size k (w.heap.size + 1) k (keyF L L k) HMX.out h12 (fun t x hx => by obtain ⟨i, hi, _, rfl⟩ := posN_mem.1 (keyF_sub hx); omega) (fun t t' x hx hx' => by
        obtain ⟨i, _, e1, rfl⟩ := posN_mem.1 (keyF_sub hx)
        obtain ⟨j, _, e2, e3⟩ := posN_mem.1 (keyF_sub hx')
        obtain rfl : i = j := by omega
        rw [← e1, ← e2]) (keyF_nodup L L k)).mono ?_
      rintro e w6 ⟨⟨v, zs, rfl, ho, hmem⟩, hb6⟩
      have HO : Hid (OrdAt w6 v zs) := ho
      have HME : Hid (∀ x, x ∈ zs ↔ ∃ t, x ∈ keyF L L k t) := hmem
      have HB6 : Hid (Below w.heap.size w w6) := HB.out.trans (hb6.mono HB.out.size)
      clear ho hmem hb6
      go_wp2
      go_ret
      exact ⟨⟨v, zs, rfl, HO.out, fun x => (HME.out x).trans (keyF_all hl HND.out x)⟩, HB6.out⟩
end
section
open Go.ChangeShapes Go.WideShapes Go.ChangeAt Go.RowKit
theorem nanS_any (x : Int) (w : World) : Calls Try.prog 103 #[.int .i64 x] w fun e w' => e = .returned (.bool false) ∧ w' = w := by
  have hx : (x != x) = false := by simp
  go_enter Try.func103, Try.ntmps103
  go_wp2
  go_ret
  exact ⟨rfl, rfl⟩
theorem binary_any (a : Option Addr) (n c : Nat) (zs : List Int) (x : Int) (w : World) (hn : n ≤ 2097152) (h : IntAt w a n zs) (hs : ∀ p q, p < q → q < n → zs.getD p 0 ≤ zs.getD q 0) :
    Calls Try.prog 86 #[.slice a n c, .int .i64 x] w fun e w' => (∃ r : Int, e = .returned (.tuple #[.int .i64 r, .bool (decide (x ∈ zs))])) ∧ w' = w := by
  obtain ⟨R, hR⟩ : ∃ R, decide (x ∈ zs) = R := ⟨_, rfl⟩
  have HR : Hid (decide (x ∈ zs) = R) := hR
  rw [hR]
  have H : Hid (IntAt w a n zs) := h
  have S : Hid (∀ p q, p < q → q < n → zs.getD p 0 ≤ zs.getD q 0) := hs
  have hl := h.1
  clear h hs hR
  have RT : Hid (∀ i, i < n → zs.getD i 0 = x → R = true) := fun i hi e => by
    rw [← HR.out]
    refine decide_eq_true ?_
    rw [List.getD, List.getElem?_eq_getElem (by omega)] at e
    rw [← e]
    exact List.getElem_mem _
  have RF : Hid ((∀ i, i < n → ¬ zs.getD i 0 = x) → R = false) := fun hno => by
    rw [← HR.out]
    refine decide_eq_false fun hm => ?_
    obtain ⟨i, hi, e⟩ := List.getElem_of_mem hm
    exact hno i (by omega) (by rw [List.getD, List.getElem?_eq_getElem hi]; exact e)
  clear HR
  go_enter Try.func86, Try.ntmps86
  go_wp2
  go_loopg [7, 8] n (fun g s7 s8 wr => ∃ lo hi : Nat, s7 = .int .i64 lo ∧ s8 = .int .i64 hi ∧ lo ≤ hi ∧ hi ≤ n ∧ hi - lo ≤ g ∧ wr = w ∧ (∀ t, t < lo → zs.getD t 0 < x) ∧ (∀ t, hi ≤ t → t < n → x ≤ zs.getD t 0))
  case atStart => exact ⟨0, n, rfl, rfl, Nat.zero_le _, Nat.le_refl _, by omega, rfl, fun t ht => absurd ht (Nat.not_lt_zero _), fun t h1 h2 => by omega⟩
  case round =>
    obtain ⟨lo, hi, rfl, rfl, hlh, hin, hg, rfl, h1, h2⟩ := hrel
    have I : Hid ((∀ t, t < lo → zs.getD t 0 < x) ∧ (∀ t, hi ≤ t → t < n → x ≤ zs.getD t 0)) := ⟨h1, h2⟩
    clear h1 h2
    by_cases hlt : lo < hi
    · rcases H.out.2.2 with h0 | ⟨p1, o1, rfl, g1⟩
      · omega
      have cm := g1 ((lo + hi) / 2) (by omega)
      clear g1
      generalize hy : zs.getD ((lo + hi) / 2) 0 = y at cm
      have Y : Hid (zs.getD ((lo + hi) / 2) 0 = y) := hy
      clear hy
      by_cases hyx : y < x
      · go_wp2_with (first | (refine (lessC_any _ _ _).mono ?_; rintro e w' ⟨rfl, rfl⟩))
        go_roundg (hi - ((lo + hi) / 2 + 1))
        case measure => omega
        case rel =>
          refine ⟨(lo + hi) / 2 + 1, hi, by rw [show ((lo : Int) + (hi : Int)) / 2 + 1 = (((lo + hi) / 2 + 1 : Nat) : Int) by omega], rfl, by omega, hin, Nat.le_refl _, rfl, fun t ht => ?_, I.out.2⟩
          by_cases e : t = (lo + hi) / 2
          · rw [e, Y.out]; exact hyx
          · have := S.out t ((lo + hi) / 2) (by omega) (by omega)
            rw [Y.out] at this
            omega
      · go_wp2_with (first | (refine (lessC_any _ _ _).mono ?_; rintro e w' ⟨rfl, rfl⟩))
        go_roundg ((lo + hi) / 2 - lo)
        case measure => omega
        case rel =>
          refine ⟨lo, (lo + hi) / 2, rfl, by rw [show ((lo : Int) + (hi : Int)) / 2 = (((lo + hi) / 2 : Nat) : Int) by omega], by omega, by omega, Nat.le_refl _, rfl, I.out.1, fun t ht htn => ?_⟩
          by_cases e : t = (lo + hi) / 2
          · rw [e, Y.out]; omega
          · have := S.out ((lo + hi) / 2) t (by omega) htn
            rw [Y.out] at this
            omega
    · have : hi = lo := by omega
      subst this
      by_cases hn1 : hi < n
      · rcases H.out.2.2 with h0 | ⟨p1, o1, rfl, g1⟩
        · omega
        have cl := g1 hi (by omega)
        clear g1
        generalize hy : zs.getD hi 0 = y at cl
        have Y : Hid (zs.getD hi 0 = y) := hy
        clear hy
        by_cases hyx : y = x
        · have hrv : Hid (R = true) := RT.out hi hn1 (by rw [Y.out]; exact hyx)
          subst hyx
          go_wp2_with (first | (refine (nanS_any _ _).mono ?_; rintro e w' ⟨rfl, rfl⟩))
          go_ret2
          exact ⟨⟨hi, by rw [hrv.out]; first | rfl | simp⟩, rfl⟩
        · have hne : (y == x) = false := by simp [hyx]
          have hrv : Hid (R = false) := RF.out fun i hi' e => by
            rcases Nat.lt_trichotomy i hi with h1 | h1 | h1
            · have := I.out.1 i h1; omega
            · rw [h1, Y.out] at e; exact hyx e
            · have h3 := S.out hi i h1 hi'
              have h4 := I.out.2 hi (Nat.le_refl _) hn1
              rw [Y.out] at h3 h4
              omega
          clear hyx
          go_wp2_with (first | (refine (nanS_any _ _).mono ?_; rintro e w' ⟨rfl, rfl⟩))
          go_ret2
          exact ⟨⟨hi, by rw [hrv.out]; first | rfl | simp [*]⟩, rfl⟩
      · have hrv : Hid (R = false) := RF.out fun i hi' e => by
          have := I.out.1 i (by omega); omega
        go_wp2_with (first | (refine (nanS_any _ _).mono ?_; rintro e w' ⟨rfl, rfl⟩))
        go_ret2
        exact ⟨⟨hi, by rw [hrv.out]; first | rfl | simp [*]⟩, rfl⟩
theorem indexI_any (a : Option Addr) (n c : Nat) (xs : List Int) (x : Int) (w : World) (h : IntAt w a n xs) :
    Calls Try.prog 104 #[.slice a n c, .int .i64 x] w fun e w' => ∃ r : Int, (e = .returned (.int .i64 r) ∧ (0 ≤ r ↔ x ∈ xs)) ∧ w' = w := by
  have H : Hid (IntAt w a n xs) := h
  have hl := h.1
  have hn := h.2.1
  clear h
  go_enter Try.func104, Try.ntmps104
  go_wp2
  go_loopw [8] (fun i wr => ∃ k : Nat, k ≤ n ∧ i = .int .i64 k ∧ (∀ y ∈ xs.take k, ¬ x = y) ∧ wr = w) (fun i _ => n - (intOf i).toNat)
  case atStart => exact ⟨0, Nat.zero_le _, rfl, fun j hj => by simp at hj, rfl⟩
  case round =>
    obtain ⟨k, hk, rfl, hno, rfl⟩ := hrel
    have HNO : Hid (∀ y ∈ xs.take k, ¬ x = y) := hno
    clear hno
    by_cases hlt : k < n
    · rcases H.out.2.2 with h0 | ⟨p1, o1, rfl, g1⟩
      · omega
      have hk0 : (0 : Int) ≤ (k : Int) := by omega
      have hk1 : (k : Int) < (n : Int) := by omega
      have e1 := g1 k hlt
      obtain ⟨y, hy⟩ : ∃ y, xs.getD k 0 = y := ⟨_, rfl⟩
      rw [hy] at e1
      have HX : Hid (xs[k]? = some y) := by
        show _ = _
        rw [← hy, List.getD, List.getElem?_eq_getElem (by omega)]
        rfl
      clear g1 hy
      by_cases e : x = y
      · have HM : Hid (x ∈ xs) := by rw [e]; exact List.mem_of_getElem? HX.out
        subst e
        go_wp2
        go_ret
        exact ⟨k, ⟨rfl, fun _ => HM.out, fun _ => by omega⟩, rfl⟩
      · have hne : (x == y) = false := by simp [e]
        have HN : Hid (∀ z ∈ xs.take (k + 1), ¬ x = z) := fun z hz => by
          rw [List.take_add_one, HX.out] at hz
          rcases List.mem_append.1 hz with h1 | h1
          · exact HNO.out z h1
          · simp at h1; rw [h1]; exact e
        clear e
        go_wp2
        exact ⟨⟨k + 1, by omega, by go_num, HN.out, trivial⟩, by simp [intOf]; omega⟩
    · obtain rfl : k = n := by omega
      have HV : Hid (¬ x ∈ xs) := fun h => HNO.out x (by rw [List.take_of_length_le (by omega)]; exact h) rfl
      go_wp2
      go_ret
      exact ⟨-1, ⟨rfl, fun h => absurd h (by omega), fun h => absurd h HV.out⟩, rfl⟩
theorem containsI_any (a : Option Addr) (n c : Nat) (xs : List Int) (x : Int) (w : World) (h : IntAt w a n xs) :
    Calls Try.prog 87 #[.slice a n c, .int .i64 x] w fun e w' => e = .returned (.bool (decide (x ∈ xs))) ∧ w' = w := by
  have HC : Hid (IntAt w a n xs) := h
  clear h
  go_enter Try.func87, Try.ntmps87
  go_wp2_with fail
  refine (indexI_any a n c xs x _ HC.out).mono ?_
  rintro e w1 ⟨r, ⟨rfl, hr⟩, rfl⟩
  have HV : Hid (decide (0 ≤ r) = decide (x ∈ xs)) := decide_eq_decide.2 hr
  clear hr
  go_wp2
  go_ret
  exact ⟨by rw [HV.out]; rfl, rfl⟩
end
section
open Go.ChangeShapes Go.WideShapes Go.ChangeAt Go.RowKit Go.Maps
def ChGood (zs xs : List Int) (most : Int) : Prop := (∀ x ∈ xs, x ∈ zs) ∧ xs.Nodup ∧ 1 ≤ xs.length ∧ (xs.length : Int) ≤ most
instance (zs xs : List Int) (most : Int) : Decidable (ChGood zs xs most) := by unfold ChGood; infer_instance
theorem IntAt.take {w : World} {a : Option Addr} {n k : Nat} {xs : List Int} (h : IntAt w a n xs) (hk : k ≤ n) : IntAt w a k (xs.take k) := by
  obtain ⟨h1, h2, h3⟩ := h
  refine ⟨by rw [List.length_take]; omega, by omega, ?_⟩
  rcases h3 with h0 | ⟨b, o, he, hc⟩
  · exact .inl (by omega)
  · refine .inr ⟨b, o, he, fun i hi => ?_⟩
    rw [hc i (by omega)]
    simp [List.getD, List.getElem?_take_of_lt hi]
theorem chosenOk_any (a : Option Addr) (n c : Nat) (xs : List Int) (most : Int) (v : Value) (zs : List Int) (w : World) (h : IntAt w a n xs) (hc : n ≤ c) (hn : n ≤ 2097152) (ho : OrdAt w v zs) :
    Calls Try.prog 51 #[.slice a n c, .int .i64 most, v] w fun e w' => e = .returned (.bool (decide (ChGood zs xs most))) ∧ w' = w := by
  have H : Hid (IntAt w a n xs) := h
  have hl := h.1
  obtain ⟨b, m, d, rfl, hm12, hmd, hb, hso⟩ := ho
  have HB0 : Hid (IntAt w b m zs) := hb
  have HSO : Hid (∀ p q, p < q → q < m → zs.getD p 0 ≤ zs.getD q 0) := hso
  obtain ⟨B, hB⟩ : ∃ B, decide (ChGood zs xs most) = B := ⟨_, rfl⟩
  rw [hB]
  have HB : Hid (decide (ChGood zs xs most) = B) := hB
  clear h hb hso hB
  by_cases hin : 1 ≤ (n : Int) ∧ (n : Int) ≤ most
  · have HI : Hid (inB (n : Int) 1 most = true) := inB_yes hin
    have HIN : Hid (1 ≤ (n : Int) ∧ (n : Int) ≤ most) := hin
    clear hin
    go_enter Try.func51, Try.ntmps51
    go_wp2_with fail
    refine (within_g _ _ _ _).mono ?_
    rintro e w1 ⟨rfl, rfl⟩
    rw [HI.out]
    go_wp2
    go_loopw [18] (fun i wr => ∃ k : Nat, k ≤ n ∧ i = .int .i64 (k : Int) ∧ (∀ x ∈ xs.take k, x ∈ zs) ∧ (xs.take k).Nodup ∧ wr = w1) (fun i _ => n - (intOf i).toNat)
    case atStart => exact ⟨0, Nat.zero_le _, rfl, fun x hx => by simp at hx, by simp, rfl⟩
    case round =>
      obtain ⟨k, hk, rfl, hg, hnd, rfl⟩ := hrel
      have HG : Hid (∀ x ∈ xs.take k, x ∈ zs) := hg
      have HND : Hid (xs.take k).Nodup := hnd
      clear hg hnd
      by_cases hlt : k < n
      · rcases H.out.2.2 with h0 | ⟨p1, o1, rfl, g1⟩
        · omega
        have e1 := g1 k hlt
        obtain ⟨x, hx⟩ : ∃ x, xs.getD k 0 = x := ⟨_, rfl⟩
        rw [hx] at e1
        have HX : Hid (xs[k]? = some x) := by
          show _ = _
          rw [← hx, List.getD, List.getElem?_eq_getElem (by omega)]
          rfl
        have hk0 : (0 : Int) ≤ (k : Int) := by omega
        have hk1 : (k : Int) < (n : Int) := by omega
        clear g1 hx
        go_wp2_with fail
        refine (binary_any b m d zs x _ (by omega) HB0.out HSO.out).mono ?_
        rintro e w2 ⟨⟨r, rfl⟩, rfl⟩
        by_cases hz : x ∈ zs
        · rw [decide_eq_true hz]
          have HZ : Hid (x ∈ zs) := hz
          clear hz
          go_wp2_with fail
          refine (containsI_any (some ⟨p1, o1, none⟩) k _ (xs.take k) x _ (H.out.take hk)).mono ?_
          rintro e w3 ⟨rfl, rfl⟩
          by_cases hd : x ∈ xs.take k
          · rw [decide_eq_true hd]
            have HV : Hid (false = B) := by
              show _ = _
              rw [← HB.out]
              exact (decide_eq_false fun h => nodup_take h.2.1 HX.out x hd rfl).symm
            clear hd
            go_wp2
            go_ret
            exact ⟨by rw [HV.out]; rfl, rfl⟩
          · rw [decide_eq_false hd]
            have hall : ∀ y ∈ xs.take (k + 1), y ∈ zs := take_all HG.out HX.out HZ.out
            have hnd : (xs.take (k + 1)).Nodup := take_nodup HND.out HX.out fun y hy e => hd (e ▸ hy)
            have HALL : Hid (∀ y ∈ xs.take (k + 1), y ∈ zs) := hall
            have HN2 : Hid (xs.take (k + 1)).Nodup := hnd
            clear hd hall hnd
            go_wp2
            go_roundw
            case rel => exact ⟨k + 1, by omega, by go_num, HALL.out, HN2.out, trivial⟩
            case measure => simp [intOf]; omega
        · rw [decide_eq_false hz]
          have HV : Hid (false = B) := by
            show _ = _
            rw [← HB.out]
            exact (decide_eq_false fun h => hz (h.1 x (List.mem_of_getElem? HX.out))).symm
          clear hz
          go_wp2
          go_ret
          exact ⟨by rw [HV.out]; rfl, rfl⟩
      · obtain rfl : k = n := by omega
        have HV : Hid (true = B) := by
          have h1 := HG.out
          have h2 := HND.out
          rw [List.take_of_length_le (by omega)] at h1 h2
          show _ = _
          rw [← HB.out]
          exact (decide_eq_true ⟨h1, h2, by have := HIN.out; omega, by have := HIN.out; rw [hl]; omega⟩).symm
        go_wp2
        go_ret
        exact ⟨by rw [HV.out]; rfl, rfl⟩
  · have HI : Hid (inB (n : Int) 1 most = false) := inB_no hin
    have HV : Hid (false = B) := by
      show _ = _
      rw [← HB.out]
      exact (decide_eq_false fun h => hin ⟨by have := h.2.2.1; omega, by have := h.2.2.2; rw [hl] at this; omega⟩).symm
    clear hin
    go_enter Try.func51, Try.ntmps51
    go_wp2_with fail
    refine (within_g _ _ _ _).mono ?_
    rintro e w1 ⟨rfl, rfl⟩
    rw [HI.out]
    go_wp2
    go_ret
    exact ⟨by rw [HV.out]; rfl, rfl⟩
theorem OrdAt.below {w w' : World} {v : Value} {zs : List Int} (h : OrdAt w v zs) {B : Nat} (hb : Below B w w') (hB : w.heap.size ≤ B) : OrdAt w' v zs := by
  obtain ⟨a, n, c, h1, h2, h3, h4, h5⟩ := h
  exact ⟨a, n, c, h1, h2, h3, h4.below hb hB, h5⟩
theorem xsBad_any (s : ByteArray) (a1 : Option Addr) (m1 d1 : Nat) (fl : Bool) (l1 : List Int) (r : Nat) (b : Option Addr) (m d : Nat) (zs : List Int) (w : World) (hx : IntAt w a1 m1 l1) (hmd : m1 ≤ d1) (hm : m1 ≤ 2097152) (hr : Box w r #[.slice b m d] 25) (ho : OrdAt w (.slice b m d) zs) :
    Calls Try.prog 89 #[.agg #[.string s, .slice a1 m1 d1, .bool fl], .pointer (some ⟨r, 0, none⟩)] w fun e w' => e = .returned (.bool !(decide (ChGood zs l1 3))) ∧ Below w.heap.size w w' := by
  obtain ⟨W, hW⟩ : ∃ W, w.alloc (.cells #[.string s, .slice a1 m1 d1, .bool fl] 105) = W := ⟨_, rfl⟩
  have HB0 : Hid (Below w.heap.size w W) := by rw [← hW]; exact (Below.refl _ w).alloc (Nat.le_refl _) _
  have X0 : Hid (Box W w.heap.size #[.string s, .slice a1 m1 d1, .bool fl] 105) := by rw [← hW]; exact box_of w _ _
  have HW : Hid (w.alloc (.cells #[.string s, .slice a1 m1 d1, .bool fl] 105) = W) := hW
  have c1 : W.cell? ⟨w.heap.size, 1, none⟩ = some (.slice a1 m1 d1) := X0.out.cell 1
  obtain ⟨B, hB⟩ : ∃ B, decide (ChGood zs l1 3) = B := ⟨_, rfl⟩
  rw [hB]
  have HBV : Hid (decide (ChGood zs l1 3) = B) := hB
  clear hB
  have c2 : W.cell? ⟨r, 0, none⟩ = some (.slice b m d) := (hr.below HB0.out hr.lt).cell 0
  have HX : Hid (IntAt W a1 m1 l1) := hx.below HB0.out (Nat.le_refl _)
  have HO : Hid (OrdAt W (.slice b m d) zs) := ho.below HB0.out (Nat.le_refl _)
  clear hW hx hr ho
  go_enter Try.func89, Try.ntmps89
  go_upto_region 1 with (fail)
  rw [HW.out]
  go_wp2_with fail
  refine (chosenOk_any a1 m1 d1 l1 3 _ zs _ HX.out hmd hm HO.out).mono ?_
  rintro e w1 ⟨rfl, rfl⟩
  clear c1 c2
  rw [HBV.out]
  go_wp2
  go_ret
  exact ⟨rfl, HB0.out⟩
theorem ixIndex_any (a : Option Addr) (n c : Nat) (L : List Idx3) (r : Nat) (b : Option Addr) (m d : Nat) (zs : List Int) (w : World) (h : IdxAt w a n L) (hr : Box w r #[.slice b m d] 25) (ho : OrdAt w (.slice b m d) zs) :
    Calls Try.prog 106 #[.slice a n c, .func (.func 89) #[] #[.pointer (some ⟨r, 0, none⟩)]] w fun e w' => ∃ q : Int, (e = .returned (.int .i64 q) ∧ (0 ≤ q ↔ ¬ ∀ x ∈ L, ChGood zs x.2.1 3)) ∧ Below w.heap.size w w' := by
  have HL : Hid (IdxAt w a n L) := h
  have HR : Hid (Box w r #[.slice b m d] 25) := hr
  have HO : Hid (OrdAt w (.slice b m d) zs) := ho
  clear hr ho
  have hl := h.1
  have hn := h.2.1
  clear h
  go_enter Try.func106, Try.ntmps106
  go_wp2
  go_loopw [8] (fun i wr => ∃ j : Nat, j ≤ n ∧ i = .int .i64 (j : Int) ∧ (∀ x ∈ L.take j, ChGood zs x.2.1 3) ∧ Below w.heap.size w wr) (fun i _ => n - (RowKit.intOf i).toNat)
  case atStart => exact ⟨0, Nat.zero_le _, rfl, fun x hx => by simp at hx, Below.refl _ _⟩
  case round =>
    obtain ⟨j, hj, rfl, hg, hb⟩ := hrel
    have HG : Hid (∀ x ∈ L.take j, ChGood zs x.2.1 3) := hg
    have HBW : Hid (Below w.heap.size w wr) := hb
    clear hg hb
    by_cases hlt : j < n
    · rcases (HL.out.below HBW.out (Nat.le_refl _)).2.2 with h0 | ⟨p1, o1, rfl, g1⟩
      · omega
      obtain ⟨x, hx⟩ : ∃ x, L[j]? = some x := ⟨_, List.getElem?_eq_getElem (by omega)⟩
      obtain ⟨e0, e1, e2⟩ := g1 j x hx
      have HX : Hid (L[j]? = some x) := hx
      obtain ⟨s, l1, fl⟩ := x
      obtain ⟨a1, m1, d1, e1, hmd1, hm1, hia⟩ := e1
      have HIA : Hid (IntAt wr a1 m1 l1) := hia
      clear hia
      dsimp only at e0 e1 e2
      have hk0 : (0 : Int) ≤ (j : Int) := by omega
      have hk1 : (j : Int) < (n : Int) := by omega
      clear g1 hx
      go_wp2_with fail
      refine (xsBad_any s a1 m1 d1 fl l1 r b m d zs _ HIA.out hmd1 hm1 (HR.out.below HBW.out HR.out.lt) (HO.out.below HBW.out (Nat.le_refl _))).mono ?_
      rintro e w2 ⟨rfl, hb2⟩
      have HB2 : Hid (Below w.heap.size w w2) := HBW.out.trans (hb2.mono HBW.out.size)
      clear hb2 e0 e1 e2
      by_cases hv : ChGood zs ((s, l1, fl) : Idx3).2.1 3
      · rw [decide_eq_true hv]
        have hall : ∀ x ∈ L.take (j + 1), ChGood zs x.2.1 3 := take_all HG.out HX.out hv
        have HALL : Hid (∀ x ∈ L.take (j + 1), ChGood zs x.2.1 3) := hall
        clear hall hv
        go_wp2
        go_roundw
        case rel => exact ⟨j + 1, by omega, by go_num, HALL.out, HB2.out⟩
        case measure => simp [RowKit.intOf]; omega
      · rw [decide_eq_false hv]
        have HV : Hid (¬ ∀ x ∈ L, ChGood zs x.2.1 3) := fun h => hv (h _ (List.mem_of_getElem? HX.out))
        clear hv
        go_wp2
        go_ret
        exact ⟨(j : Int), ⟨rfl, ⟨fun _ => HV.out, fun _ => by omega⟩⟩, HB2.out⟩
    · obtain rfl : j = n := by omega
      have HALL : Hid (∀ x ∈ L, ChGood zs x.2.1 3) := by
        have h1 := HG.out
        rwa [List.take_of_length_le (by omega)] at h1
      go_wp2
      go_ret
      exact ⟨-1, ⟨rfl, ⟨fun h => by omega, fun h => absurd HALL.out h⟩⟩, HBW.out⟩
theorem cfIndex_any (a : Option Addr) (n c : Nat) (L : List Idx3) (r : Nat) (b : Option Addr) (m d : Nat) (zs : List Int) (w : World) (h : IdxAt w a n L) (hr : Box w r #[.slice b m d] 25) (ho : OrdAt w (.slice b m d) zs) :
    Calls Try.prog 91 #[.slice a n c, .func (.func 89) #[] #[.pointer (some ⟨r, 0, none⟩)]] w fun e w' => e = .returned (.bool !(decide (∀ x ∈ L, ChGood zs x.2.1 3))) ∧ Below w.heap.size w w' := by
  have HL : Hid (IdxAt w a n L) := h
  have HR : Hid (Box w r #[.slice b m d] 25) := hr
  have HO : Hid (OrdAt w (.slice b m d) zs) := ho
  clear hr ho
  clear h
  go_enter Try.func91, Try.ntmps91
  go_wp2_with fail
  refine (ixIndex_any a n c L r b m d zs _ HL.out HR.out HO.out).mono ?_
  rintro e w1 ⟨q, ⟨rfl, hr⟩, hb1⟩
  have HB1 : Hid (Below w.heap.size w w1) := hb1
  have HV : Hid (decide (0 ≤ q) = !(decide (∀ x ∈ L, ChGood zs x.2.1 3))) := by
    show _ = _
    by_cases hall : ∀ x ∈ L, ChGood zs x.2.1 3
    · rw [decide_eq_true hall, decide_eq_false (fun h => hr.1 h hall)]; rfl
    · rw [decide_eq_false hall, decide_eq_true (hr.2 hall)]; rfl
  clear hr hb1
  go_wp2
  go_ret
  exact ⟨by rw [HV.out]; rfl, HB1.out⟩
theorem posN_all (L : List Col3) (n : Nat) (x : Int) : (∃ t, x ∈ posN (L.map (·.1)) n t) ↔ 0 ≤ x ∧ x < (n : Int) := by
  constructor
  · rintro ⟨t, ht⟩
    obtain ⟨i, hi, _, rfl⟩ := posN_mem.1 ht
    omega
  · rintro ⟨h0, h1⟩
    exact ⟨((L.map (·.1) : List ByteArray).getD x.toNat ⟨#[]⟩).data.toList, posN_mem.2 ⟨x.toNat, by omega, rfl, by omega⟩⟩
theorem indexesOk_any (a : Option Addr) (n c : Nat) (X : List Idx3) (a1 : Option Addr) (n1 c1 : Nat) (L : List Col3) (w : World) (h : IdxAt w a n X) (hL : ColsAt w a1 n1 L) (h12 : n1 ≤ 12) (hsz : ∀ x ∈ X, x.1.size ≤ 1048576) (hszL : ∀ x ∈ L, x.1.size ≤ 1048576) :
    Calls Try.prog 53 #[.slice a n c, .slice a1 n1 c1] w fun e w' => e = .returned (.bool (decide (IxGood n1 X))) ∧ Below w.heap.size w w' := by
  have HA : Hid (IdxAt w a n X) := h
  have HL : Hid (ColsAt w a1 n1 L) := hL
  have HSZ : Hid (∀ x ∈ X, x.1.size ≤ 1048576) := hsz
  have HSL : Hid (∀ x ∈ L, x.1.size ≤ 1048576) := hszL
  have hl := h.1
  have hll := hL.1
  obtain ⟨B, hB⟩ : ∃ B, decide (IxGood n1 X) = B := ⟨_, rfl⟩
  rw [hB]
  have HB : Hid (decide (IxGood n1 X) = B) := hB
  clear h hL hsz hszL hB
  go_enter Try.func53, Try.ntmps53
  go_wp2_with fail
  refine (byNameCol_any a1 n1 c1 L _ HL.out HSL.out).mono ?_
  rintro e w2 ⟨⟨rfl, D, hown, hd⟩, hb2⟩
  have HM : Hid (MapN w2 w.heap.size n1 (w.heap.size + 1) (posN (L.map (·.1)) n1)) := mapN_groups hown hd
  have HB2 : Hid (Below w.heap.size w w2) := hb2
  clear hown hd hb2
  go_wp2_with fail
  refine (inOrder_any _ _ n1 _ n1 _ HM.out h12 (fun t x hx => by obtain ⟨i, hi, _, rfl⟩ := posN_mem.1 hx; omega) (fun t t' x hx hx' => by
    obtain ⟨i, _, e1, rfl⟩ := posN_mem.1 hx
    obtain ⟨j, _, e2, e3⟩ := posN_mem.1 hx'
    obtain rfl : i = j := by omega
    rw [← e1, ← e2]) (posN_nodup _ _)).mono ?_
  rintro e w3 ⟨⟨v, zs, rfl, ho, hmem⟩, hb3⟩
  have HME : Hid (∀ x, x ∈ zs ↔ 0 ≤ x ∧ x < (n1 : Int)) := fun x => (hmem x).trans (posN_all L n1 x)
  have HB3 : Hid (Below w.heap.size w w3) := HB2.out.trans (hb3.mono HB2.out.size)
  have HO3 : Hid (OrdAt w3 v zs) := ho
  obtain ⟨b, m, d, rfl, _⟩ := ho
  clear hmem hb3
  obtain ⟨r, hr⟩ : ∃ r, w3.heap.size = r := ⟨_, rfl⟩
  obtain ⟨W, hW⟩ : ∃ W, w3.alloc (.cells #[.slice b m d] 25) = W := ⟨_, rfl⟩
  have HX0 : Hid (Box W r #[.slice b m d] 25) := by rw [← hW, ← hr]; exact box_of w3 _ _
  have HBW0 : Hid (Below w3.heap.size w3 W) := by rw [← hW]; exact (Below.refl _ _).alloc (Nat.le_refl _) _
  have HW : Hid (w3.alloc (.cells #[.slice b m d] 25) = W) := hW
  have HRQ : Hid (w3.heap.size = r) := hr
  have HOW : Hid (OrdAt W (.slice b m d) zs) := HO3.out.below HBW0.out (Nat.le_refl _)
  have HBW : Hid (Below w.heap.size w W) := HB3.out.trans (HBW0.out.mono HB3.out.size)
  clear hW hr
  go_upto_region 2 with (fail)
  rw [HW.out, HRQ.out]
  by_cases h3 : (n : Int) ≤ 3
  · have H3 : Hid (X.length ≤ 3) := by show _ ≤ _; omega
    go_wp2_with fail
    refine (byNameIndex_any a n c X _ (HA.out.below HBW.out (Nat.le_refl _)) HSZ.out).mono ?_
    rintro e w4 ⟨⟨rfl, D2, hown, hd⟩, hb4⟩
    have HM4 : Hid (MapN w4 W.heap.size n (W.heap.size + 1) (posN (X.map (·.1)) n)) := mapN_groups hown hd
    have HB4 : Hid (Below W.heap.size W w4) := hb4
    clear hown hd hb4 h3
    go_wp2_with fail
    refine (namesOk_any _ _ n _ n (X.map (·.1)) HM4.out (by rw [List.length_map]; exact hl) (fun x hx => by obtain ⟨y, hy, rfl⟩ := List.mem_map.1 hx; exact HSZ.out y hy)).mono ?_
    rintro e w5 ⟨rfl, hb5⟩
    have HB5 : Hid (Below W.heap.size W w5) := HB4.out.trans (hb5.mono HB4.out.size)
    have HB5W : Hid (Below w.heap.size w w5) := HBW.out.trans (HB5.out.mono HBW.out.size)
    clear hb5
    by_cases hnm : NmGood (X.map (·.1))
    · rw [decide_eq_true hnm]
      have HNM : Hid (NmGood (X.map (·.1))) := hnm
      clear hnm
      go_wp2_with fail
      refine (cfIndex_any a n c X r b m d zs _ ((HA.out.below HBW.out (Nat.le_refl _)).below HB5.out (Nat.le_refl _)) (HX0.out.below HB5.out HX0.out.lt) (HOW.out.below HB5.out (Nat.le_refl _))).mono ?_
      rintro e w6 ⟨rfl, hb6⟩
      have HB6 : Hid (Below w.heap.size w w6) := HB5W.out.trans (hb6.mono HB5W.out.size)
      have HV : Hid (decide (∀ x ∈ X, ChGood zs x.2.1 3) = B) := by
        show _ = _
        rw [← HB.out]
        refine decide_eq_decide.2 ⟨fun h => ⟨fun x hx => ⟨HNM.out.1 _ (List.mem_map.2 ⟨x, hx, rfl⟩), fun y hy => (HME.out y).1 ((h x hx).1 y hy), (h x hx).2.1, (h x hx).2.2.1, by have := (h x hx).2.2.2; omega⟩, HNM.out.2, H3.out⟩, fun h x hx => ⟨fun y hy => (HME.out y).2 ((h.1 x hx).2.1 y hy), (h.1 x hx).2.2.1, (h.1 x hx).2.2.2.1, by have := (h.1 x hx).2.2.2.2; omega⟩⟩
      rw [HV.out]
      clear hb6
      go_wp2
      go_ret
      cases B <;> exact ⟨rfl, HB6.out⟩
    · rw [decide_eq_false hnm]
      have HV : Hid (false = B) := by
        show _ = _
        rw [← HB.out]
        exact (decide_eq_false (p := IxGood n1 X) fun h => hnm ⟨fun x hx => by obtain ⟨y, hy, rfl⟩ := List.mem_map.1 hx; exact (h.1 y hy).1, h.2.1⟩).symm
      clear hnm
      go_wp2
      go_ret
      exact ⟨by rw [HV.out]; rfl, HB5W.out⟩
  · have HV : Hid (false = B) := by
      show _ = _
      rw [← HB.out]
      exact (decide_eq_false fun h => h3 (by have := h.2.2; omega)).symm
    go_wp2
    go_ret
    exact ⟨by rw [HV.out]; rfl, HBW.out⟩
end
end Go.Proofs.Ytmgofehafjogfaa
