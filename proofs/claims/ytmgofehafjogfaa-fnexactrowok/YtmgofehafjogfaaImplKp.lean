/- keyPlaces: the places of the columns that may not be nothing, in order. -/
import Derived.Test.YtmgofehafjogfaaImplIo
import Derived.Test.YtmgofehafjogfaaImplBn
namespace Go.Proofs.Ytmgofehafjogfaa
open Go.ChangeShapes Go.WideShapes Go.ChangeAt Go.RowKit Go.Maps

theorem MapN.kept {w w' : World} {b n base : Nat} {F : List UInt8 → List Int} (h : MapN w b n base F) (hg : w.grownBy w' none) : MapN w' b n base F := by
  obtain ⟨R, D, hown, hR, hbb, hD⟩ := h
  have hlt := hown.lt
  obtain ⟨es, clock, hb, F1, hs, he⟩ := hown
  exact ⟨R, D, ⟨es, clock, (hg.block b hlt (by simp)).trans hb, F1, hs, he⟩, fun v y hy => by obtain ⟨zs, ho, e⟩ := hR v y hy; exact ⟨zs, ho.kept hg (noneN v), e⟩, hbb, hD⟩
/-- One of these columns may be nothing and is called so. -/
def mayN (L : List Col3) (t : List UInt8) : Bool := L.any fun x => x.2.2 && decide (t = x.1.data.toList)
def keyF (L M : List Col3) (n : Nat) (t : List UInt8) : List Int := if mayN M t = true then [] else posN (L.map (·.1)) n t
theorem keyF_step {L : List Col3} {n k : Nat} {x : Col3} (hx : L[k]? = some x) (t : List UInt8) : keyF L (L.take (k + 1)) n t = if x.2.2 = true ∧ t = x.1.data.toList then [] else keyF L (L.take k) n t := by
  unfold keyF mayN
  rw [List.take_add_one, hx, Option.toList_some, List.any_append]
  by_cases h : x.2.2 = true ∧ t = x.1.data.toList
  · rw [if_pos h, if_pos]
    simp [h.1, h.2]
  · rw [if_neg h]
    have e : ([x].any fun y => y.2.2 && decide (t = y.1.data.toList)) = false := by
      simp only [List.any_cons, List.any_nil, Bool.or_false, Bool.and_eq_false_iff, decide_eq_false_iff_not]
      by_cases h1 : x.2.2 = true
      · exact .inr fun h2 => h ⟨h1, h2⟩
      · exact .inl (by simpa using h1)
    rw [e, Bool.or_false]
theorem keyF_sub {L M : List Col3} {n : Nat} {t : List UInt8} {x : Int} (h : x ∈ keyF L M n t) : x ∈ posN (L.map (·.1)) n t := by
  unfold keyF at h
  split at h
  · simp at h
  · exact h
theorem keyF_nodup (L M : List Col3) (n : Nat) (t : List UInt8) : (keyF L M n t).Nodup := by
  unfold keyF
  split
  · simp
  · exact posN_nodup _ _ _
theorem keyF_all {L : List Col3} {n : Nat} (hl : L.length = n) (hnd : (L.map (·.1)).Nodup) (x : Int) : (∃ t, x ∈ keyF L L n t) ↔ 0 ≤ x ∧ x < (n : Int) ∧ fast L x := by
  constructor
  · rintro ⟨t, ht⟩
    unfold keyF at ht
    split at ht
    · simp at ht
    · rename_i hno
      obtain ⟨i, hi, e, rfl⟩ := posN_mem.1 ht
      have hi' : i < L.length := by omega
      refine ⟨by omega, by omega, ?_⟩
      unfold fast
      rw [Int.toNat_natCast, List.getD, List.getElem?_eq_getElem hi', Option.getD_some]
      have e' : L[i].1.data.toList = t := by simpa [List.getD, hi'] using e
      cases hb : L[i].2.2 with
      | false => rfl
      | true => exact absurd (List.any_eq_true.2 ⟨L[i], List.getElem_mem hi', by rw [hb, decide_eq_true e'.symm]; rfl⟩) hno
  · rintro ⟨h0, h1, hf⟩
    obtain ⟨i, rfl⟩ : ∃ i : Nat, x = (i : Int) := ⟨x.toNat, by omega⟩
    have hi : i < L.length := by omega
    unfold fast at hf
    rw [Int.toNat_natCast, List.getD, List.getElem?_eq_getElem hi, Option.getD_some] at hf
    refine ⟨L[i].1.data.toList, ?_⟩
    unfold keyF
    rw [if_neg]
    · exact posN_mem.2 ⟨i, by omega, by simp [List.getD, hi], rfl⟩
    · intro hm
      obtain ⟨y, hy, hb⟩ := List.any_eq_true.1 hm
      rw [Bool.and_eq_true] at hb
      obtain ⟨j, hj, rfl⟩ := List.getElem_of_mem hy
      have e := str_eq (of_decide_eq_true hb.2)
      have hp := List.pairwise_iff_getElem.1 hnd
      rcases Nat.lt_trichotomy i j with h2 | h2 | h2
      · exact hp i j (by simpa using hi) (by simpa using hj) h2 (by simpa using e)
      · subst h2
        rw [hf] at hb
        simp at hb
      · exact hp j i (by simpa using hj) (by simpa using hi) h2 (by simpa using e.symm)
set_option maxHeartbeats 8000000 in
set_option maxRecDepth 100000 in
theorem keyPlaces_any (a : Option Addr) (n c : Nat) (L : List Col3) (w : World) (h : ColsAt w a n L) (h12 : n ≤ 12) (hsz : ∀ x ∈ L, x.1.size ≤ 1048576) (hnd : (L.map (·.1)).Nodup) :
    Calls Try.prog 52 #[.slice a n c] w fun e w' => (∃ v zs, e = .returned v ∧ OrdAt w' v zs ∧ ∀ x, x ∈ zs ↔ 0 ≤ x ∧ x < (n : Int) ∧ fast L x) ∧ Below w.heap.size w w' := by
  have HA : Hid (ColsAt w a n L) := h
  have HSZS : Hid (∀ x ∈ L, x.1.size ≤ 1048576) := hsz
  have HND : Hid (L.map (·.1)).Nodup := hnd
  have hl := h.1
  clear h hsz hnd
  go_enter Try.func52, Try.ntmps52
  go_wp2_with fail
  refine (byNameCol_any a n c L _ HA.out HSZS.out).mono ?_
  rintro e w1 ⟨⟨rfl, D0, hown0, hd0⟩, hb1⟩
  have HM1 : Hid (MapN w1 w.heap.size n (w.heap.size + 1) (keyF L (L.take 0) n)) := mapN_groups hown0 (ND_congr hd0 fun t => rfl)
  have HB1 : Hid (Below w.heap.size w w1) := hb1
  clear hown0 hd0 hb1
  go_wp2
  go_loopw [10] (fun i wr => ∃ k : Nat, k ≤ n ∧ i = .int .i64 (k : Int) ∧ MapN wr w.heap.size n (w.heap.size + 1) (keyF L (L.take k) n) ∧ Below w.heap.size w wr) (fun i _ => n - (intOf i).toNat)
  case atStart => exact ⟨0, Nat.zero_le _, rfl, HM1.out, HB1.out⟩
  case round =>
    obtain ⟨k, hk, rfl, hm, hb⟩ := hrel
    have HM : Hid (MapN wr w.heap.size n (w.heap.size + 1) (keyF L (L.take k) n)) := hm
    have HB : Hid (Below w.heap.size w wr) := hb
    clear hm hb HM1 HB1
    by_cases hlt : k < n
    · rcases (HA.out.below HB.out (Nat.le_refl _)).2.2 with h0 | ⟨p1, o1, rfl, g1⟩
      · omega
      obtain ⟨x, hx⟩ : ∃ x, L[k]? = some x := ⟨_, List.getElem?_eq_getElem (by omega)⟩
      obtain ⟨e0, e1, e2⟩ := g1 k x hx
      have HX : Hid (L[k]? = some x) := hx
      have HSZ : Hid (x.1.size ≤ maxLen) := Nat.le_trans (HSZS.out x (List.mem_of_getElem? hx)) (by unfold maxLen; omega)
      clear g1 hx
      obtain ⟨s, k1, fl⟩ := x
      dsimp only at e0 e1 e2 HSZ
      have hk0 : (0 : Int) ≤ (k : Int) := by omega
      have hk1 : (k : Int) < (n : Int) := by omega
      obtain ⟨r, hr⟩ : ∃ r, wr.heap.size = r := ⟨_, rfl⟩
      obtain ⟨W, hW⟩ : ∃ W, wr.alloc (.cells #[.string s, .int .i64 k1, .bool fl] 75) = W := ⟨_, rfl⟩
      have HX0 : Hid (Box W r #[.string s, .int .i64 k1, .bool fl] 75) := by rw [← hW, ← hr]; exact box_of wr _ _
      have HGW : Hid (wr.grownBy W none) := by rw [← hW]; exact World.grownBy_alloc _ _ _
      have HW : Hid (wr.alloc (.cells #[.string s, .int .i64 k1, .bool fl] 75) = W) := hW
      have HRQ : Hid (wr.heap.size = r) := hr
      have HMW : Hid (MapN W w.heap.size n (w.heap.size + 1) (keyF L (L.take k) n)) := HM.out.kept HGW.out
      have HBW : Hid (Below w.heap.size w W) := HB.out.grown HGW.out HB.out.size (fun k e => by cases e)
      clear hW hr
      go_upto_region 5 with (fail)
      rw [HW.out, HRQ.out]
      have x0 : W.cell? ⟨r, 0, none⟩ = some (.string s) := HX0.out.cell 0
      have x2 : W.cell? ⟨r, 2, none⟩ = some (.bool fl) := HX0.out.cell 2
      clear e0 e1 e2
      cases fl with
      | true =>
        obtain ⟨R, D, hown, hR, hbb, hD⟩ := HMW.out
        have HR : Hid (RowsN R W (w.heap.size + 1)) := hR
        have HD1 : Hid (ND D (keyF L (L.take k) n)) := hD
        have hkey := keyN HSZ.out
        clear hR hD hbb
        go_wp2_with (first | (at_delete; refine wpList_delete_own _ rfl _ _ 85 9 rfl 25 mapLawN Try.underlying85 R w.heap.size n D rfl hown (.string s) (.string s.data.toList) rfl hkey ?_; intro w5 hown5 hturn5) | go_in)
        have hg5 := hturn5.grown
        have hm5 : MapN w5 w.heap.size n (w.heap.size + 1) (keyF L (L.take (k + 1)) n) := ⟨R, _, hown5, fun v y hy => by
          obtain ⟨zs, ho, e⟩ := HR.out v y hy
          refine ⟨zs, ho.kept hg5 ?_, e⟩
          cases hv : v.ownBlock with
          | none => exact .inl rfl
          | some g =>
            refine .inr fun e1 => ?_
            have := (ho.1.lt g hv).1
            have e2 : g = w.heap.size := Option.some.inj e1
            omega, Nat.lt_succ_self _, ND_congr (ND_del HD1.out s.data.toList) fun t => by rw [keyF_step HX.out]; by_cases e : t = s.data.toList <;> simp [e]⟩
        have hb5 : Below w.heap.size w w5 := HBW.out.grown hg5 HBW.out.size (fun k e => by cases e; exact Nat.le_refl _)
        have HM5 : Hid (MapN w5 w.heap.size n (w.heap.size + 1) (keyF L (L.take (k + 1)) n)) := hm5
        clear hm5 hown5 hturn5 hg5 hown
        go_roundw
        case rel => exact ⟨k + 1, by omega, by go_num, HM5.out, hb5⟩
        case measure => simp [intOf]; omega
      | false =>
        have HM5 : Hid (MapN W w.heap.size n (w.heap.size + 1) (keyF L (L.take (k + 1)) n)) := by
          have e : keyF L (L.take (k + 1)) n = keyF L (L.take k) n := funext fun t => by rw [keyF_step HX.out, if_neg (by simp)]
          show MapN _ _ _ _ _
          rw [e]
          exact HMW.out
        go_wp2
        go_roundw
        case rel => exact ⟨k + 1, by omega, by go_num, HM5.out, HBW.out⟩
        case measure => simp [intOf]; omega
    · obtain rfl : k = n := by omega
      have HMX : Hid (MapN wr w.heap.size k (w.heap.size + 1) (keyF L L k)) := by
        have h1 := HM.out
        rwa [List.take_of_length_le (by omega)] at h1
      go_wp2_with fail
      refine (inOrder_any _ w.heap.size k (w.heap.size + 1) k (keyF L L k) HMX.out h12 (fun t x hx => by obtain ⟨i, hi, _, rfl⟩ := posN_mem.1 (keyF_sub hx); omega) (fun t t' x hx hx' => by
        obtain ⟨i, _, e1, rfl⟩ := posN_mem.1 (keyF_sub hx)
        obtain ⟨j, _, e2, e3⟩ := posN_mem.1 (keyF_sub hx')
        obtain rfl : i = j := by omega
        rw [← e1, ← e2]) (keyF_nodup L L k)).mono ?_
      rintro e w6 ⟨⟨v, zs, rfl, ho, hmem⟩, hb6⟩
      have HO : Hid (OrdAt w6 v zs) := ho
      have HME : Hid (∀ x, x ∈ zs ↔ ∃ t, x ∈ keyF L L k t) := hmem
      have HB6 : Hid (Below w.heap.size w w6) := HB.out.trans (hb6.mono HB.out.size)
      clear ho hmem hb6
      go_wp2
      go_ret
      exact ⟨⟨v, zs, rfl, HO.out, fun x => (HME.out x).trans (keyF_all hl HND.out x)⟩, HB6.out⟩
end Go.Proofs.Ytmgofehafjogfaa
