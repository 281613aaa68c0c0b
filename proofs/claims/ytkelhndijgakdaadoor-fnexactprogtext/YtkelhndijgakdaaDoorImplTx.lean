/- The program's numsOf and OpText, walked. -/
import Derived.Test.YtkelhndijgakdaaDoorTab14
import Derived.Test.YtkelhndijgakdaaDoorImplDig
import Derived.Test.YtkelhndijgakdaaDoorImplOp
import Derived.Test.YtkelhndijgakdaaDoorSpecTx2
namespace Go.Proofs.YtkelhndijgakdaaDoor
open Go.ChangeShapes Go.WideShapes Go.ChangeAt Go.RowKit 
open Go.Lib hiding intOf

/-- The numbers behind the word of a kind. -/
def numsL (kind k v : Int) : List Int := (if HasK kind then [k] else []) ++ (if HasV kind then [v] else [])
/-- What these are as text. -/
def tailsL (xs : List Int) : List UInt8 := xs.flatMap fun n => 32 :: itoa n
theorem tails_nums (kind k v : Int) : tailsL (numsL kind k v) = tailB kind k v := by
  unfold tailsL numsL tailB
  by_cases h1 : HasK kind <;> by_cases h2 : HasV kind <;> simp [h1, h2]
theorem nums_two (kind k v : Int) : (numsL kind k v).length ≤ 2 := by
  unfold numsL
  split <;> split <;> simp
theorem nums_small {kind k v : Int} (h : OpGood kind k v) : ∀ x ∈ numsL kind k v, 0 ≤ x ∧ x ≤ 6 := by
  obtain ⟨_, hk, hv, _, _⟩ := good_small h
  intro x hx
  unfold numsL at hx
  rcases List.mem_append.1 hx with h | h <;> split at h <;> simp at h <;> subst h <;> assumption
theorem tails_len (xs : List Int) (h : ∀ x ∈ xs, 0 ≤ x ∧ x ≤ 6) : (tailsL xs).length = 2 * xs.length := by
  induction xs with
  | nil => rfl
  | cons x xs ih =>
    obtain ⟨h0, h1⟩ := h x (by simp)
    have h2 := ih fun y hy => h y (by simp [hy])
    unfold tailsL at h2 ⊢
    rw [List.flatMap_cons, List.length_append, h2, itoa_small h0 h1]
    simp
    omega
theorem tails_succ {xs : List Int} {j : Nat} (h : j < xs.length) : tailsL (xs.take (j + 1)) = tailsL (xs.take j) ++ 32 :: itoa (xs.getD j 0) := by
  unfold tailsL
  rw [take_snocI h, List.flatMap_append]
  simp
set_option maxHeartbeats 2000000 in
set_option maxRecDepth 100000 in
theorem numsOf_any (kind k v : Int) (h : 1 ≤ kind ∧ kind ≤ 10) (w : World) :
    Calls Tryd.prog 25 #[OpV kind k v] w fun e w' => (∃ a, e = .returned (.slice a (numsL kind k v).length (numsL kind k v).length) ∧ IntAt w' a (numsL kind k v).length (numsL kind k v)) ∧ Below w.heap.size w w' := by
  have hb1 : ∀ o, Below w.heap.size w (w.alloc o) := fun o => (Below.refl _ w).alloc (Nat.le_refl _) _
  have hb2 : ∀ o o', Below w.heap.size w ((w.alloc o).alloc o') := fun o o' => ((Below.refl _ w).alloc (Nat.le_refl _) _).alloc (by simp) _
  have HB1 : Hid (∀ o, Below w.heap.size w (w.alloc o)) := hb1
  have HB2 : Hid (∀ o o', Below w.heap.size w ((w.alloc o).alloc o')) := hb2
  clear hb1 hb2
  have two : ∀ kd, kd = 1 ∨ kd = 2 → numsL kd k v = [k, v] := fun kd h => by unfold numsL HasK HasV; rcases h with rfl | rfl <;> simp
  have one : ∀ kd, kd = 3 ∨ kd = 4 ∨ kd = 6 → numsL kd k v = [k] := fun kd h => by unfold numsL HasK HasV; rcases h with rfl | rfl | rfl <;> simp
  have val : ∀ kd, kd = 5 ∨ kd = 10 → numsL kd k v = [v] := fun kd h => by unfold numsL HasK HasV; rcases h with rfl | rfl <;> simp
  have non : ∀ kd, kd = 7 ∨ kd = 8 ∨ kd = 9 → numsL kd k v = [] := fun kd h => by unfold numsL HasK HasV; rcases h with rfl | rfl | rfl <;> simp
  have ends2 : ∀ (o o' : Obj) (x y : Int), o' = .cells #[.int .i64 x, .int .i64 y] 3 → IntAt ((w.alloc o).alloc o') (some ⟨w.heap.size + 1, 0, none⟩) 2 [x, y] := by
    rintro o o' x y rfl
    refine ⟨rfl, by omega, .inr ⟨_, _, rfl, fun i hi => ?_⟩⟩
    have h : i = 0 ∨ i = 1 := by omega
    rw [Nat.zero_add, World.cell?_alloc_at _ _ _ _ (by simp)]
    rcases h with rfl | rfl <;> rfl
  have ends1 : ∀ (o o' : Obj) (x : Int), o' = .cells #[.int .i64 x] 3 → IntAt ((w.alloc o).alloc o') (some ⟨w.heap.size + 1, 0, none⟩) 1 [x] := by
    rintro o o' x rfl
    refine ⟨rfl, by omega, .inr ⟨_, _, rfl, fun i hi => ?_⟩⟩
    have h : i = 0 := by omega
    rw [Nat.zero_add, World.cell?_alloc_at _ _ _ _ (by simp)]
    subst h
    rfl
  have E2 : Hid (∀ (o o' : Obj) (x y : Int), o' = .cells #[.int .i64 x, .int .i64 y] 3 → IntAt ((w.alloc o).alloc o') (some ⟨w.heap.size + 1, 0, none⟩) 2 [x, y]) := ends2
  have E1 : Hid (∀ (o o' : Obj) (x : Int), o' = .cells #[.int .i64 x] 3 → IntAt ((w.alloc o).alloc o') (some ⟨w.heap.size + 1, 0, none⟩) 1 [x]) := ends1
  clear ends1 ends2
  rcases kinds h with rfl | rfl | rfl | rfl | rfl | rfl | rfl | rfl | rfl | rfl
  all_goals first
    | rw [two _ (by decide)]
    | rw [one _ (by decide)]
    | rw [val _ (by decide)]
    | rw [non _ (by decide)]
  all_goals
    clear two one val non h
    go_enter Tryd.func25, Tryd.ntmps25
    go_wp2
    go_ret
  all_goals first
    | exact ⟨⟨_, rfl, E2.out _ _ _ _ rfl⟩, HB2.out _ _⟩
    | exact ⟨⟨_, rfl, E1.out _ _ _ rfl⟩, HB2.out _ _⟩
    | exact ⟨⟨_, rfl, ⟨rfl, by simp, .inl rfl⟩⟩, HB1.out _⟩
set_option maxHeartbeats 4000000 in
set_option maxRecDepth 100000 in
theorem implOpText_any (kind k v : Int) (w : World) (hN : OpNamesIs w) (htab : Lib.TabIs Tryd.prog w "internal/strconv.uint64pow10" .u64 Lib.pow10Tab) :
    Calls Tryd.prog 8 #[OpV kind k v] w fun e w' => TextSays e (opB kind k v) ∧ Below w.heap.size w w' := by
  obtain ⟨W, hW⟩ : ∃ W, w.alloc (.cells #[.int .i64 kind, .int .i64 k, .int .i64 v] 25) = W := ⟨_, rfl⟩
  have HB0 : Hid (Below w.heap.size w W) := by rw [← hW]; exact (Below.refl _ w).alloc (Nat.le_refl _) _
  have X0 : Hid (Box W w.heap.size #[.int .i64 kind, .int .i64 k, .int .i64 v] 25) := by rw [← hW]; exact box_of w _ _
  have HW : Hid (w.alloc (.cells #[.int .i64 kind, .int .i64 k, .int .i64 v] 25) = W) := hW
  have HN : Hid (OpNamesIs w) := hN
  have HTAB : Hid (Lib.TabIs Tryd.prog w "internal/strconv.uint64pow10" .u64 Lib.pow10Tab) := htab
  clear hW hN htab
  by_cases hg : OpGood kind k v
  case neg =>
    have HT : Hid (opB kind k v = noneB) := if_neg hg
    have HD : Hid (decide (OpGood kind k v) = false) := decide_eq_false hg
    clear hg
    go_enter Tryd.func8, Tryd.ntmps8
    go_upto_region 1 with (fail)
    rw [HW.out]
    obtain ⟨c0, c1, c2⟩ := X0.out.three
    go_wp2_with fail
    refine (implOpOk_any kind k v _).mono ?_
    rintro e w1 ⟨rfl, hb1⟩
    rw [HD.out]
    have HB1 : Hid (Below w.heap.size w w1) := HB0.out.trans (hb1.mono HB0.out.size)
    clear hb1 c0 c1 c2
    go_wp2
    go_ret
    exact ⟨⟨_, rfl, HT.out.symm⟩, HB1.out⟩
  have HT : Hid (opB kind k v = nameB kind ++ tailsL (numsL kind k v)) := by rw [tails_nums]; exact if_pos hg
  have HD : Hid (decide (OpGood kind k v) = true) := decide_eq_true hg
  have HS : Hid (∀ x ∈ numsL kind k v, 0 ≤ x ∧ x ≤ 6) := nums_small hg
  obtain ⟨⟨hk1, hk10⟩, ⟨k0, k6⟩, ⟨v0, v6⟩, _, _⟩ := good_small hg
  obtain ⟨kn, rfl⟩ : ∃ kn : Nat, kind = (kn : Int) := ⟨kind.toNat, by omega⟩
  have hn1 : 1 ≤ kn := by omega
  have hn10 : kn ≤ 10 := by omega
  have hn11 : kn < 11 := by omega
  have HK : Hid (1 ≤ (kn : Int) ∧ (kn : Int) ≤ 10) := ⟨hk1, hk10⟩
  clear hg hk1 hk10
  go_enter Tryd.func8, Tryd.ntmps8
  go_upto_region 1 with (fail)
  rw [HW.out]
  obtain ⟨c0, c1, c2⟩ := X0.out.three
  go_wp2_with fail
  refine (implOpOk_any (kn : Int) k v _).mono ?_
  rintro e w1 ⟨rfl, hb1⟩
  rw [HD.out]
  have HB1 : Hid (Below w.heap.size w w1) := HB0.out.trans (hb1.mono HB0.out.size)
  have X1 : Hid (Box w1 w.heap.size #[.int .i64 (kn : Int), .int .i64 k, .int .i64 v] 25) := X0.out.below hb1 X0.out.lt
  clear hb1 c0 c1 c2 HB0 X0 HW
  obtain ⟨c0, c1, c2⟩ := X1.out.three
  obtain ⟨nb, hnb⟩ : ∃ nb : ByteArray, nb = ⟨(nameB (kn : Int)).toArray⟩ := ⟨_, rfl⟩
  have HNL : Hid (nb.data.toList = nameB (kn : Int)) := by show _ = _; rw [hnb]
  have hnsz : nb.size ≤ 5 := by
    have h1 := name_len (kn : Int)
    rw [← HNL.out] at h1
    simpa using h1
  have hcn : w1.cell? ⟨0, kn, none⟩ = some (.string nb) := by
    have h1 := (HN.out.below HB1.out (Nat.le_refl _)).cell gOpNames kn (by exact hn11)
    rw [namesT_at hn1 hn10] at h1
    rw [hnb]
    exact h1
  clear hnb
  go_wp2_with fail
  refine (numsOf_any (kn : Int) k v HK.out _).mono ?_
  obtain ⟨xs, hxs⟩ : ∃ xs, numsL (kn : Int) k v = xs := ⟨_, rfl⟩
  obtain ⟨m, hm⟩ : ∃ m, xs.length = m := ⟨_, rfl⟩
  have hm2 : m ≤ 2 := by rw [← hm, ← hxs]; exact nums_two _ _ _
  rw [hxs] at HS HT ⊢
  rw [hm]
  rintro e w2 ⟨⟨a2, rfl, hi2⟩, hb2⟩
  have HB2 : Hid (Below w.heap.size w w2) := HB1.out.trans (hb2.mono HB1.out.size)
  have HI2 : Hid (IntAt w2 a2 m xs) := hi2
  have HM : Hid (xs.length = m) := hm
  clear hb2 c0 c1 c2 hcn hxs hm hi2
  go_wp2
  go_loopw [3, 16] (fun out i wr => ∃ (j : Nat) (s : ByteArray), j ≤ m ∧ i = .int .i64 (j : Int) ∧ out = .string s ∧ s.data.toList = nameB (kn : Int) ++ tailsL (xs.take j) ∧ Below w2.heap.size w2 wr) (fun _ i _ => m - (intOf i).toNat)
  case atStart => exact ⟨0, nb, Nat.zero_le _, rfl, rfl, by rw [HNL.out]; simp [tailsL], Below.refl _ _⟩
  case round =>
    obtain ⟨j, s, hj, rfl, rfl, hs, hb⟩ := hrel
    have hsz : s.size ≤ 9 := by
      have h1 := name_len (kn : Int)
      have h2 := tails_len (xs.take j) fun x hx => HS.out x (List.mem_of_mem_take hx)
      have h3 : s.size = (nameB (kn : Int) ++ tailsL (xs.take j)).length := by rw [← hs]; simp
      rw [h3, List.length_append, h2, List.length_take]
      omega
    have HSS : Hid (s.data.toList = nameB (kn : Int) ++ tailsL (xs.take j)) := hs
    have HB : Hid (Below w2.heap.size w2 wr) := hb
    by_cases hlt : j < m
    · rcases (HI2.out.below hb (Nat.le_refl _)).2.2 with h0 | ⟨p1, o1, rfl, g1⟩
      · omega
      have e1 := g1 j hlt
      obtain ⟨x, hx⟩ : ∃ x, xs.getD j 0 = x := ⟨_, rfl⟩
      have hxm : 0 ≤ x ∧ x ≤ 6 := by
        have hjl : j < xs.length := by rw [HM.out]; exact hlt
        refine HS.out x ?_
        rw [← hx]
        simp [List.getD, hjl]
      have HT1 : Hid (tailsL (xs.take (j + 1)) = tailsL (xs.take j) ++ 32 :: itoa x) := by show _ = _; rw [← hx]; exact tails_succ (by rw [HM.out]; exact hlt)
      have HTB : Hid (Lib.TabIs Tryd.prog wr "internal/strconv.uint64pow10" .u64 Lib.pow10Tab) := Joins.tab_stays gTab HTAB.out (HB2.out.trans (hb.mono HB2.out.size)) (Nat.le_refl _)
      rw [hx] at e1
      obtain ⟨x0, x6⟩ := hxm
      clear g1 hs hb hx
      go_wp2_with fail
      refine (implDigits_any x (by omega) (by omega) _ HTB.out).mono ?_
      obtain ⟨sx, hsx⟩ : ∃ sx : ByteArray, sx = ⟨(itoa x).toArray⟩ := ⟨_, rfl⟩
      have HSX : Hid (sx.data.toList = itoa x) := by show _ = _; rw [hsx]
      have hz3 : sx.size ≤ 1 := by
        have h1 := itoa_one x0 x6
        rw [← HSX.out] at h1
        simpa using h1
      rw [← hsx]
      rintro e w3 ⟨rfl, hb3⟩
      have HB3 : Hid (Below w2.heap.size w2 w3) := HB.out.trans (hb3.mono HB.out.size)
      clear hb3 hsx e1
      go_wp2
      refine ⟨⟨j + 1, _, by omega, by go_num, rfl, ?_, HB3.out⟩, by simp [intOf]; omega⟩
      rw [HT1.out]
      simp [HSS.out, HSX.out]
    · obtain rfl : j = m := by omega
      have HEND : Hid (xs.take j = xs) := by show _ = _; rw [List.take_of_length_le (by rw [HM.out]; exact Nat.le_refl _)]
      clear hs hb
      go_wp2
      go_ret
      refine ⟨⟨s, rfl, ?_⟩, HB2.out.trans (HB.out.mono HB2.out.size)⟩
      rw [HSS.out, HEND.out, HT.out]
end Go.Proofs.YtkelhndijgakdaaDoor
