/- spec.l14Names, l4Key, l4Val, spec.OpText, walked. -/
import Derived.Test.YtkelhndijgakdaaDoorTxt14
import Derived.Test.YtkelhndijgakdaaDoorDig
import Derived.Test.YtkelhndijgakdaaDoorSpecNums
import Derived.Test.YtkelhndijgakdaaDoorStrAt
import Derived.Test.YtkelhndijgakdaaDoorSpecOp
import Derived.Test.YtkelhndijgakdaaDoorInB
import Derived.Test.YtkelhndijgakdaaDoorBoxN
import Derived.Deep.RegionWith
import Derived.Deep.RegionHeld3
import Derived.Deep.Cut
import Derived.Handy
namespace Go.Proofs.YtkelhndijgakdaaDoor
open Go.ChangeShapes Go.WideShapes Go.ChangeAt Go.RowKit Go.Lib

/-- The words of kinds, in a list. -/
def namesT : List (List UInt8) := [[], nameB 1, nameB 2, nameB 3, nameB 4, nameB 5, nameB 6, nameB 7, nameB 8, nameB 9, nameB 10]
theorem namesT_at {k : Nat} (h0 : 1 ≤ k) (h1 : k ≤ 10) : namesT.getD k [] = nameB (k : Int) := by
  have h : k = 1 ∨ k = 2 ∨ k = 3 ∨ k = 4 ∨ k = 5 ∨ k = 6 ∨ k = 7 ∨ k = 8 ∨ k = 9 ∨ k = 10 := by omega
  rcases h with rfl | rfl | rfl | rfl | rfl | rfl | rfl | rfl | rfl | rfl <;> rfl
theorem StrAt.below {w w' : World} {a : Option Addr} {n : Nat} {xs : List (List UInt8)} (h : StrAt w a n xs) {B : Nat} (hb : Below B w w') (hB : w.heap.size ≤ B) : StrAt w' a n xs := by
  obtain ⟨h1, h2, h3 | ⟨b, o, h3, h4⟩⟩ := h
  · exact ⟨h1, h2, .inl h3⟩
  · refine ⟨h1, h2, .inr ⟨b, o, h3, fun i hi => ?_⟩⟩
    have h5 := h4 i hi
    have h6 := World.block_lt_of_cell? w _ h5
    rw [hb.cell (show _ < B from Nat.lt_of_lt_of_le h6 hB)]
    exact h5
set_option maxRecDepth 100000 in
theorem l14Names_is (w : World) : Calls Tryd.prog 20 #[] w fun e w' => e = .returned (.slice (some ⟨w.heap.size, 0, none⟩) 11 11) ∧ StrAt w' (some ⟨w.heap.size, 0, none⟩) 11 namesT ∧ Below w.heap.size w w' := by
  go_enter Tryd.func20, Tryd.ntmps20
  go_wp2
  go_ret
  refine ⟨rfl, ⟨rfl, by omega, .inr ⟨_, _, rfl, fun i hi => ?_⟩⟩, (Below.refl _ w).alloc (Nat.le_refl _) _⟩
  have h : i = 0 ∨ i = 1 ∨ i = 2 ∨ i = 3 ∨ i = 4 ∨ i = 5 ∨ i = 6 ∨ i = 7 ∨ i = 8 ∨ i = 9 ∨ i = 10 := by omega
  rw [Nat.zero_add, World.cell?_alloc_at _ _ _ _ rfl]
  rcases h with rfl | rfl | rfl | rfl | rfl | rfl | rfl | rfl | rfl | rfl | rfl <;> rfl
theorem l4Key_is (k : Int) (w : World) : Calls Tryd.prog 21 #[.int .i64 k] w fun e w' => e = .returned (.bool (inB k 1 4)) ∧ w' = w := by
  go_enter Tryd.func21, Tryd.ntmps21
  go_wp2_with fail
  refine (l1In_g k 1 4 _).mono ?_
  rintro e w1 ⟨rfl, hw⟩
  rw [hw]
  go_wp2
  go_ret
  exact ⟨rfl, rfl⟩
theorem l4Val_k (k : Int) (w : World) : Calls Tryd.prog 23 #[.int .i64 k] w fun e w' => e = .returned (.bool (decide (HasV k))) ∧ w' = w := by
  unfold HasV
  by_cases hv : k = 1 ∨ k = 2 ∨ k = 5 ∨ k = 10
  · rw [decide_eq_true hv]
    rcases eqb k 1 with ⟨h1, g1⟩ | ⟨h1, g1⟩ <;> rcases eqb k 2 with ⟨h2, g2⟩ | ⟨h2, g2⟩ <;> rcases eqb k 5 with ⟨h5, g5⟩ | ⟨h5, g5⟩ <;> rcases eqb k 10 with ⟨h9, g9⟩ | ⟨h9, g9⟩
    all_goals first
      | (exfalso; omega)
      | (clear h1 h2 h5 h9 hv
         go_enter Tryd.func23, Tryd.ntmps23
         go_wp2
         go_ret
         exact ⟨rfl, rfl⟩)
  · rw [decide_eq_false hv]
    rcases eqb k 1 with ⟨h1, g1⟩ | ⟨h1, g1⟩ <;> rcases eqb k 2 with ⟨h2, g2⟩ | ⟨h2, g2⟩ <;> rcases eqb k 5 with ⟨h5, g5⟩ | ⟨h5, g5⟩ <;> rcases eqb k 10 with ⟨h9, g9⟩ | ⟨h9, g9⟩
    all_goals first
      | (exfalso; omega)
      | (clear h1 h2 h5 h9 hv
         go_enter Tryd.func23, Tryd.ntmps23
         go_wp2
         go_ret
         exact ⟨rfl, rfl⟩)
theorem name_len (k : Int) : (nameB k).length ≤ 5 := by
  unfold nameB
  repeat' split
  all_goals decide
theorem itoa_one {k : Int} (h0 : 0 ≤ k) (h1 : k ≤ 6) : (itoa k).length ≤ 1 := by rw [itoa_small h0 h1]; simp
/-- The answer is that text. -/
def TextSays (e : Ending) (l : List UInt8) : Prop := ∃ s : ByteArray, e = .returned (.string s) ∧ s.data.toList = l
theorem Box.three {w : World} {b : Nat} {T : TypeId} {x y z : Value} (h : Box w b #[x, y, z] T) : w.cell? ⟨b, 0, none⟩ = some x ∧ w.cell? ⟨b, 1, none⟩ = some y ∧ w.cell? ⟨b, 2, none⟩ = some z := ⟨h.cell 0, h.cell 1, h.cell 2⟩
set_option maxHeartbeats 4000000 in
set_option maxRecDepth 100000 in
theorem specOpText_any (kind k v : Int) (w : World) :
    Calls Tryd.prog 6 #[OpV kind k v] w fun e w' => TextSays e (opB kind k v) ∧ Below w.heap.size w w' := by
  obtain ⟨W, hW⟩ : ∃ W, w.alloc (.cells #[.int .i64 kind, .int .i64 k, .int .i64 v] 25) = W := ⟨_, rfl⟩
  have HB0 : Hid (Below w.heap.size w W) := by rw [← hW]; exact (Below.refl _ w).alloc (Nat.le_refl _) _
  have X0 : Hid (Box W w.heap.size #[.int .i64 kind, .int .i64 k, .int .i64 v] 25) := by rw [← hW]; exact box_of w _ _
  have HW : Hid (w.alloc (.cells #[.int .i64 kind, .int .i64 k, .int .i64 v] 25) = W) := hW
  clear hW
  by_cases hg : OpGood kind k v
  case neg =>
    have HT : Hid (opB kind k v = noneB) := if_neg hg
    have HD : Hid (decide (OpGood kind k v) = false) := decide_eq_false hg
    clear hg
    go_enter Tryd.func6, Tryd.ntmps6
    go_upto_region 1 with (fail)
    rw [HW.out]
    obtain ⟨c0, c1, c2⟩ := X0.out.three
    go_wp2_with fail
    refine (specOpOk_any kind k v _).mono ?_
    rintro e w1 ⟨rfl, hb1⟩
    rw [HD.out]
    have HB1 : Hid (Below w.heap.size w w1) := HB0.out.trans (hb1.mono HB0.out.size)
    clear hb1 c0 c1 c2
    go_wp2
    go_ret
    exact ⟨⟨_, rfl, HT.out.symm⟩, HB1.out⟩
  have HT : Hid (opB kind k v = nameB kind ++ tailB kind k v) := if_pos hg
  have HD : Hid (decide (OpGood kind k v) = true) := decide_eq_true hg
  obtain ⟨⟨hk1, hk10⟩, ⟨k0, k6⟩, ⟨v0, v6⟩, _, _⟩ := good_small hg
  obtain ⟨kn, rfl⟩ : ∃ kn : Nat, kind = (kn : Int) := ⟨kind.toNat, by omega⟩
  have hn1 : 1 ≤ kn := by omega
  have hn10 : kn ≤ 10 := by omega
  have hn11 : kn < 11 := by omega
  clear hg hk1 hk10
  go_enter Tryd.func6, Tryd.ntmps6
  go_upto_region 1 with (fail)
  rw [HW.out]
  obtain ⟨c0, c1, c2⟩ := X0.out.three
  go_wp2_with fail
  refine (specOpOk_any (kn : Int) k v _).mono ?_
  rintro e w1 ⟨rfl, hb1⟩
  rw [HD.out]
  have HB1 : Hid (Below w.heap.size w w1) := HB0.out.trans (hb1.mono HB0.out.size)
  have X1 : Hid (Box w1 w.heap.size #[.int .i64 (kn : Int), .int .i64 k, .int .i64 v] 25) := X0.out.below hb1 X0.out.lt
  have hs1 : w.heap.size < w1.heap.size := X1.out.lt
  clear hb1 c0 c1 c2 HB0 X0 HW
  obtain ⟨c0, c1, c2⟩ := X1.out.three
  have hkey : inB (kn : Int) 1 4 = decide (kn ≤ 4) := by
    by_cases h : kn ≤ 4
    · rw [decide_eq_true h, inB_yes (by omega)]
    · rw [decide_eq_false h, inB_no (by omega)]
  have HKEY : Hid (inB (kn : Int) 1 4 = decide (kn ≤ 4)) := hkey
  clear hkey
  obtain ⟨nb, hnb⟩ : ∃ nb : ByteArray, nb = ⟨(nameB (kn : Int)).toArray⟩ := ⟨_, rfl⟩
  have HNB : Hid (nb = ⟨(nameB (kn : Int)).toArray⟩) := hnb
  have HNL : Hid (nb.data.toList = nameB (kn : Int)) := by show _ = _; rw [HNB.out]
  have hnsz : nb.size ≤ 5 := by
    have h1 := name_len (kn : Int)
    rw [← HNL.out] at h1
    simpa using h1
  clear hnb
  go_upto_region 3 with (fail)
  go_region_with (first
    | (go_at_call 20; refine (l14Names_is _).mono ?_; rintro e w2 ⟨rfl, hN2, hb2⟩
       have hbx : Below w1.heap.size w1 w2 := (Below.refl w1.heap.size w1).drew.trans hb2
       have HB2 : Hid (Below w.heap.size w w2) := HB1.out.trans (hbx.mono HB1.out.size)
       have X2 : Hid (Box w2 w.heap.size #[.int .i64 (kn : Int), .int .i64 k, .int .i64 v] 25) := X1.out.below hbx X1.out.lt
       obtain ⟨d0, d1, d2⟩ := X2.out.three
       have hcn : w2.cell? ⟨w1.heap.size, kn, none⟩ = some (.string nb) := by
         rw [HNB.out]
         rcases hN2.2.2 with h0 | ⟨b, o, he, hc⟩
         · omega
         · cases he
           have := hc kn hn11
           rwa [namesT_at hn1 hn10, Nat.zero_add] at this
       clear hbx hN2 hb2))
  all_goals
    clear c0 c1 c2
    have hK3 : kn ≤ 4 ∨ kn = 6 ∨ (¬ kn ≤ 4 ∧ ¬ kn = 6) := by omega
    rcases hK3 with hk | hk | ⟨hk, hk6⟩
    · have HHK : Hid (HasK (kn : Int)) := by show _ ∨ _; omega
      have hdk : inB (kn : Int) 1 4 = true := by rw [HKEY.out]; exact decide_eq_true hk
      clear hk
      go_wp2_with fail
      refine (l4Key_is (kn : Int) _).mono ?_
      rintro e wk ⟨rfl, hwk⟩
      rw [hwk, hdk]
      clear hwk
      go_wp2_with fail
      refine (digits_any k (by omega) (by omega) _).mono ?_
      rintro e w3 ⟨⟨s3, rfl, hs3⟩, hb3⟩
      have hz3 : s3.size ≤ 1 := by
        have h1 := itoa_one k0 k6
        rw [← hs3] at h1
        simpa using h1
      have HS3 : Hid (s3.data.toList = itoa k) := hs3
      have HB3 : Hid (Below w.heap.size w w3) := HB2.out.trans (hb3.mono HB2.out.size)
      have X3 : Hid (Box w3 w.heap.size #[.int .i64 (kn : Int), .int .i64 k, .int .i64 v] 25) := X2.out.below hb3 X2.out.lt
      clear hs3 hb3 d0 d1 d2 hcn
      obtain ⟨d0, d1, d2⟩ := X3.out.three
      go_wp2_with fail
      refine (l4Val_k (kn : Int) _).mono ?_
      rintro e wv ⟨rfl, hwv⟩
      rw [hwv]
      clear hwv
      by_cases hV : HasV (kn : Int)
      · have hdv : decide (HasV (kn : Int)) = true := decide_eq_true hV
        have HHV : Hid (HasV (kn : Int)) := hV
        rw [hdv]
        clear hV hdv
        go_wp2_with fail
        refine (digits_any v (by omega) (by omega) _).mono ?_
        rintro e w5 ⟨⟨s5, rfl, hs5⟩, hb5⟩
        have hz5 : s5.size ≤ 1 := by
          have h1 := itoa_one v0 v6
          rw [← hs5] at h1
          simpa using h1
        have HS5 : Hid (s5.data.toList = itoa v) := hs5
        have HB5 : Hid (Below w.heap.size w w5) := HB3.out.trans (hb5.mono HB3.out.size)
        clear hs5 hb5
        go_wp2
        go_ret
        refine ⟨⟨_, rfl, ?_⟩, HB5.out⟩
        rw [HT.out, tailB, if_pos HHK.out, if_pos HHV.out]
        simp [HNL.out, HS5.out, HS3.out]
      · have hdv : decide (HasV (kn : Int)) = false := decide_eq_false hV
        have HHV : Hid (¬ HasV (kn : Int)) := hV
        rw [hdv]
        clear hV hdv
        go_wp2
        go_ret
        refine ⟨⟨_, rfl, ?_⟩, HB3.out⟩
        rw [HT.out, tailB, if_pos HHK.out, if_neg HHV.out]
        simp [HNL.out, HS3.out]
    · have HHK : Hid (HasK (kn : Int)) := by show _ ∨ _; omega
      have hdk : inB (kn : Int) 1 4 = false := by rw [HKEY.out]; exact decide_eq_false (by omega)
      have hk6 : ((kn : Int) == 6) = true := by simp; omega
      clear hk
      go_wp2_with fail
      refine (l4Key_is (kn : Int) _).mono ?_
      rintro e wk ⟨rfl, hwk⟩
      rw [hwk, hdk]
      clear hwk
      go_wp2_with fail
      refine (digits_any k (by omega) (by omega) _).mono ?_
      rintro e w3 ⟨⟨s3, rfl, hs3⟩, hb3⟩
      have hz3 : s3.size ≤ 1 := by
        have h1 := itoa_one k0 k6
        rw [← hs3] at h1
        simpa using h1
      have HS3 : Hid (s3.data.toList = itoa k) := hs3
      have HB3 : Hid (Below w.heap.size w w3) := HB2.out.trans (hb3.mono HB2.out.size)
      have X3 : Hid (Box w3 w.heap.size #[.int .i64 (kn : Int), .int .i64 k, .int .i64 v] 25) := X2.out.below hb3 X2.out.lt
      clear hs3 hb3 d0 d1 d2 hcn
      obtain ⟨d0, d1, d2⟩ := X3.out.three
      go_wp2_with fail
      refine (l4Val_k (kn : Int) _).mono ?_
      rintro e wv ⟨rfl, hwv⟩
      rw [hwv]
      clear hwv
      by_cases hV : HasV (kn : Int)
      · have hdv : decide (HasV (kn : Int)) = true := decide_eq_true hV
        have HHV : Hid (HasV (kn : Int)) := hV
        rw [hdv]
        clear hV hdv
        go_wp2_with fail
        refine (digits_any v (by omega) (by omega) _).mono ?_
        rintro e w5 ⟨⟨s5, rfl, hs5⟩, hb5⟩
        have hz5 : s5.size ≤ 1 := by
          have h1 := itoa_one v0 v6
          rw [← hs5] at h1
          simpa using h1
        have HS5 : Hid (s5.data.toList = itoa v) := hs5
        have HB5 : Hid (Below w.heap.size w w5) := HB3.out.trans (hb5.mono HB3.out.size)
        clear hs5 hb5
        go_wp2
        go_ret
        refine ⟨⟨_, rfl, ?_⟩, HB5.out⟩
        rw [HT.out, tailB, if_pos HHK.out, if_pos HHV.out]
        simp [HNL.out, HS5.out, HS3.out]
      · have hdv : decide (HasV (kn : Int)) = false := decide_eq_false hV
        have HHV : Hid (¬ HasV (kn : Int)) := hV
        rw [hdv]
        clear hV hdv
        go_wp2
        go_ret
        refine ⟨⟨_, rfl, ?_⟩, HB3.out⟩
        rw [HT.out, tailB, if_pos HHK.out, if_neg HHV.out]
        simp [HNL.out, HS3.out]
    · have HHK : Hid (¬ HasK (kn : Int)) := by intro h; unfold HasK at h; omega
      have hdk : inB (kn : Int) 1 4 = false := by rw [HKEY.out]; exact decide_eq_false hk
      have hk6' : ((kn : Int) == 6) = false := by simp; omega
      clear hk hk6
      go_wp2_with fail
      refine (l4Key_is (kn : Int) _).mono ?_
      rintro e wk ⟨rfl, hwk⟩
      rw [hwk, hdk]
      clear hwk
      go_wp2_with fail
      refine (l4Val_k (kn : Int) _).mono ?_
      rintro e wv ⟨rfl, hwv⟩
      rw [hwv]
      clear hwv
      by_cases hV : HasV (kn : Int)
      · have hdv : decide (HasV (kn : Int)) = true := decide_eq_true hV
        have HHV : Hid (HasV (kn : Int)) := hV
        rw [hdv]
        clear hV hdv
        go_wp2_with fail
        refine (digits_any v (by omega) (by omega) _).mono ?_
        rintro e w5 ⟨⟨s5, rfl, hs5⟩, hb5⟩
        have hz5 : s5.size ≤ 1 := by
          have h1 := itoa_one v0 v6
          rw [← hs5] at h1
          simpa using h1
        have HS5 : Hid (s5.data.toList = itoa v) := hs5
        have HB5 : Hid (Below w.heap.size w w5) := HB2.out.trans (hb5.mono HB2.out.size)
        clear hs5 hb5
        go_wp2
        go_ret
        refine ⟨⟨_, rfl, ?_⟩, HB5.out⟩
        rw [HT.out, tailB, if_neg HHK.out, if_pos HHV.out]
        simp [HNL.out, HS5.out]
      · have hdv : decide (HasV (kn : Int)) = false := decide_eq_false hV
        have HHV : Hid (¬ HasV (kn : Int)) := hV
        rw [hdv]
        clear hV hdv
        go_wp2
        go_ret
        refine ⟨⟨_, rfl, ?_⟩, HB2.out⟩
        rw [HT.out, tailB, if_neg HHK.out, if_neg HHV.out]
        simp [HNL.out]
end Go.Proofs.YtkelhndijgakdaaDoor
