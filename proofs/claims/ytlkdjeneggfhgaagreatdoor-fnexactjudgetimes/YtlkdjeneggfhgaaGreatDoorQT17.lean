/- Texts joined: JudI, RepeatI. -/
import Derived.Test.YtlkdjeneggfhgaaGreatDoorQT16
import Derived.Test.YtlkdjeneggfhgaaGreatDoorQT01
import Derived.Laws.CopyRow
import Derived.Laws.MakeOwn
import Derived.Laws.CopyOwn
import Derived.Deep.RegionHeld3
set_option maxHeartbeats 4000000
set_option maxRecDepth 100000
namespace Go.Proofs.YtlkdjeneggfhgaaGreatDoor
section
open Go.ChangeShapes Go.WideShapes Go.ChangeAt Go.RowKit Go.Joins
def lastE (f : Nat → CaD) (t : Int) : Nat → Int
 | 0 => -1
 | n + 1 => if (f n).t = t then (f n).en else lastE f t n
theorem lastE_is (f : Nat → CaD) (t : Int) : ∀ n, ((∀ k, k < n → (f k).t ≠ t) ∧ lastE f t n = -1) ∨ ∃ j, j < n ∧ (f j).t = t ∧ (∀ k, j < k → k < n → (f k).t ≠ t) ∧ lastE f t n = (f j).en
 | 0 => .inl ⟨fun k h => by omega, rfl⟩
 | n + 1 => by
   by_cases e : (f n).t = t
   · exact .inr ⟨n, by omega, e, fun k h1 h2 => by omega, by simp [lastE, e]⟩
   · have e2 : lastE f t (n + 1) = lastE f t n := by simp [lastE, e]
     rcases lastE_is f t n with ⟨h1, h2⟩ | ⟨j, h1, h2, h3, h4⟩
     · refine .inl ⟨fun k hk => ?_, e2.trans h2⟩
       by_cases ek : k = n
       · rw [ek]; exact e
       · exact h1 k (by omega)
     · refine .inr ⟨j, by omega, h2, fun k hj hk => ?_, e2.trans h4⟩
       by_cases ek : k = n
       · rw [ek]; exact e
       · exact h3 k hj (by omega)
def TimeI (M : MaD) (i : Nat) : Prop := (0 ≤ (M.f i).en → inB (M.f i).ln (M.f i).st (M.f i).en = true) ∧ lastE M.f (M.f i).t i < (M.f i).st
theorem lastN_mono {f : Nat → CaD} {t : Int} : ∀ {n : Nat} {i : Nat}, i < n → (f i).t = t → (i : Int) ≤ lastN f t n
 | 0, i, h, _ => by omega
 | n + 1, i, h, ht => by
   unfold lastN
   by_cases e : (f n).t = t
   · rw [if_pos e]; omega
   · rw [if_neg e]
     have : i ≠ n := fun h => e (h ▸ ht)
     exact lastN_mono (by omega) ht
theorem ended_of {M : MaD} (h : MachGood M) {k i : Nat} (hk : k < i) (hi : i < M.nc) (e : (M.f k).t = (M.f i).t) : 0 ≤ (M.f k).en ∧ (M.f k).st ≤ (M.f k).en := by
 have hc := h.calls.each k (by omega)
 simp only [CaGood, Bool.and_eq_true] at hc
 obtain ⟨ht, -, -, -, hen⟩ := hc
 obtain ⟨t0, t1⟩ := inB_val ht
 obtain ⟨t, ht⟩ : ∃ t : Nat, (M.f k).t = (t : Int) := ⟨(M.f k).t.toNat, by omega⟩
 have hT := (h.ths t (by omega)).2
 have h0 : 0 ≤ (M.f k).en := by
   rcases hT.ends k (by omega) ht with h0 | ⟨-, h1⟩
   · exact h0
   · have := lastN_mono (f := M.f) hi (e.symm.trans ht)
     omega
 refine ⟨h0, ?_⟩
 simp only [MomGood, Bool.or_eq_true, beq_iff_eq] at hen
 rcases hen with h1 | h1
 · omega
 · exact (inB_val h1).1
theorem start_of {M : MaD} (h : MachGood M) {i : Nat} (hi : i < M.nc) : 0 ≤ (M.f i).st := by
 have hc := h.calls.each i hi
 simp only [CaGood, Bool.and_eq_true] at hc
 exact (inB_val hc.2.2.1).1
theorem times_iff {M : MaD} (h : MachGood M) : (∀ i, i < M.nc → TimeAt M i) ↔ ∀ i, i < M.nc → TimeI M i := by
 constructor
 · intro g i hi
   refine ⟨(g i hi).1, ?_⟩
   rcases lastE_is M.f (M.f i).t i with ⟨-, e⟩ | ⟨j, h1, h2, -, e⟩
   · have := start_of h hi
     rw [e]; omega
   · rw [e]
     exact ((g i hi).2 j h1 h2).2
 · intro g
   have main : ∀ i, i < M.nc → ∀ k, k < i → (M.f k).t = (M.f i).t → 0 ≤ (M.f k).en ∧ (M.f k).en < (M.f i).st := by
     intro i
     induction i using Nat.strongRecOn with
     | ind i ih =>
       intro hi k hk e
       have hE := ended_of h hk hi e
       refine ⟨hE.1, ?_⟩
       have hl := (g i hi).2
       rcases lastE_is M.f (M.f i).t i with ⟨h1, -⟩ | ⟨j, h1, h2, h3, h4⟩
       · exact absurd e (h1 k hk)
       · rw [h4] at hl
         by_cases ej : k = j
         · rw [ej]; exact hl
         · have hkj : k < j := by
             rcases Nat.lt_trichotomy k j with h5 | h5 | h5
             · exact h5
             · exact absurd h5 ej
             · exact absurd e (h3 k h5 hk)
           have a := (ih j h1 (by omega) k hkj (e.trans h2.symm)).2
           have b := (ended_of h h1 hi h2).2
           omega
   intro i hi
   exact ⟨(g i hi).1, main i hi⟩
end
section
open Go.ChangeShapes Go.WideShapes Go.ChangeAt Go.RowKit
theorem rp_size : (Tryz.prog.info? 3).map (·.size) = some 1 := by kernel_rfl
theorem copy_e (W : World) (g o dl dc : Nat) (a : Addr) (sl sc : Nat) (cur : Array Value) (cs : List Value) (hg : Box W g cur 3) (hn : cs.length = Nat.min sl dl) (hsrc : ∀ j v, cs[j]? = some v → W.cell? (a.add j) = some v) (hfit : o + cs.length ≤ cur.size) (h1 : ∀ v ∈ cs, v.oneCell' = true) :
   ∃ W', (∀ ty, (Builtin.copy_ #[28, 28] ty #[.slice (some ⟨g, o, none⟩) dl dc, .slice (some a) sl sc]).run Tryz.prog W = .ok (goInt cs.length) W') ∧ Box W' g (cur.toList.take o ++ cs ++ cur.toList.drop (o + cs.length)).toArray 3 ∧ ∀ B w0, Below B w0 W → B ≤ g → Below B w0 W' := by
 refine ⟨W.setRow g (cur.toList.take o ++ cs ++ cur.toList.drop (o + cs.length)).toArray, fun ty => run_copy_row (P := Tryz.prog) W 28 28 ty 3 g o dl dc a sl sc cur 3 cs Tryz.underlying28 rp_size hg hn hsrc hfit h1, setRow_heap W g _ _ 3 _ hg, fun B w0 hb hB => below_setRow hb hB _⟩
theorem rp_info : (Tryz.prog.info? 3).map (fun i => (i.zero, i.size)) = some (some (.int .i64 0), 1) := by kernel_rfl
theorem rp_bytes : (Tryz.prog.info? 3).map (fun i => decide (i.bytes ≤ 1024)) = some true := by kernel_rfl
theorem rp_make (n : Nat) (hn : n ≤ 2097152) (W : World) : (Instr.makeSlice 28 (.int .i64 (n : Int)) (.int .i64 (n : Int))).run Tryz.prog W = .ok (.slice (some ⟨W.heap.size, 0, none⟩) n n) (W.alloc (.cells (madeCells #[.int .i64 0] n) 3)) := by
 obtain ⟨i0, hi, hz⟩ := Option.map_eq_some_iff.1 rp_info
 obtain ⟨i1, hi', hb1⟩ := Option.map_eq_some_iff.1 rp_bytes
 obtain rfl : i0 = i1 := Option.some.inj (hi.symm.trans hi')
 have hz0 : i0.zero = some (.int .i64 0) := congrArg Prod.fst hz
 have hz1 : i0.size = 1 := congrArg Prod.snd hz
 have hz2 : i0.bytes ≤ 1024 := of_decide_eq_true hb1
 have hby : i0.bytes * n ≤ 1024 * 2097152 := Nat.mul_le_mul hz2 hn
 have h : ((i0.bytes * n : Nat) : Int) ≤ 281474976710656 := by omega
 have hr := run_make (P := Tryz.prog) W 28 3 i0 (.int .i64 0) Tryz.underlying28 hi hz0 .i64 .i64 (n : Int) (n : Int) (by omega) (Int.le_refl _) (by rwa [Int.natCast_mul] at h) (by omega)
 simp only [Int.toNat_natCast, hz1, Nat.mul_one] at hr
 exact hr
theorem repeat_1 (b : Nat) (w : World) (hB : Box w b #[.int .i64 (-1)] 3) :
   Calls Tryz.prog 106 #[.slice (some ⟨b, 0, none⟩) 1 1, .int .i64 1] w fun e w' => e = .returned (.slice (some ⟨w.heap.size, 0, none⟩) 1 1) ∧ Box w' w.heap.size #[.int .i64 (-1)] 3 ∧ Below w.heap.size w w' := by
 obtain ⟨g, hg⟩ : ∃ g, w.heap.size = g := ⟨_, rfl⟩
 obtain ⟨W0, hW0⟩ : ∃ W0, w.alloc (.cells #[.int .i64 0] 3) = W0 := ⟨_, rfl⟩
 have B0 : Box W0 g #[.int .i64 0] 3 := by rw [← hW0, ← hg]; exact box_of w _ _
 have b0 : Below g w W0 := by rw [← hW0, ← hg]; exact (Below.refl _ w).alloc (Nat.le_refl _) _
 have hmk : (Instr.makeSlice 28 (.int .i64 1) (.int .i64 1)).run Tryz.prog w = .ok (.slice (some ⟨g, 0, none⟩) 1 1) W0 := by
   have e : madeCells #[Value.int .i64 0] 1 = #[.int .i64 0] := by kernel_rfl
   have h := rp_make 1 (by omega) w
   rw [e, hW0, hg] at h
   exact h
 have hs0 : W0.cell? ⟨b, 0, none⟩ = some (.int .i64 (-1)) := (hB.below b0 (by have := hB.lt; omega)).cell 0
 obtain ⟨W1, hc1, B1, b1⟩ := copy_e W0 g 0 1 1 ⟨b, 0, none⟩ 1 1 _ [.int .i64 (-1)] B0 (by decide) (fun j v h => by
   match j with
   | 0 => obtain rfl := Option.some.inj h; exact hs0
   | j + 1 => simp at h) (by simp) (by simp [Value.oneCell'])
 have B1 : Box W1 g #[.int .i64 (-1)] 3 := B1
 have hc1 : ∀ ty, (Builtin.copy_ #[28, 28] ty #[.slice (some ⟨g, 0, none⟩) 1 1, .slice (some ⟨b, 0, none⟩) 1 1]).run Tryz.prog W0 = .ok (.int .i64 1) W1 := hc1
 have L1 := b1 g w b0 (Nat.le_refl _)
 have HEND : Hid (Box W1 g #[.int .i64 (-1)] 3 ∧ Below g w W1) := ⟨B1, L1⟩
 rw [hg]
 have HG : Hid (w.heap.size = g) := hg
 have hw2 : IntKind.i64.wrap 2 = 2 := by kernel_rfl
 have hw3 : IntKind.i64.wrap 3 = 3 := by kernel_rfl
 have hw4 : IntKind.i64.wrap 4 = 4 := by kernel_rfl
 clear hg hW0 B1 L1 b1 B0 b0 hs0 hB
 go_enter Tryz.func106, Tryz.ntmps106
 go_wp2
 refine wp_loop_rounds 1 ?_
 rw [rounds_succ]
 go_wp2
 go_ret
 exact ⟨rfl, HEND.out⟩
theorem repeat_2 (b : Nat) (w : World) (hB : Box w b #[.int .i64 (-1)] 3) :
   Calls Tryz.prog 106 #[.slice (some ⟨b, 0, none⟩) 1 1, .int .i64 2] w fun e w' => e = .returned (.slice (some ⟨w.heap.size, 0, none⟩) 2 2) ∧ Box w' w.heap.size #[.int .i64 (-1), .int .i64 (-1)] 3 ∧ Below w.heap.size w w' := by
 obtain ⟨g, hg⟩ : ∃ g, w.heap.size = g := ⟨_, rfl⟩
 obtain ⟨W0, hW0⟩ : ∃ W0, w.alloc (.cells #[.int .i64 0, .int .i64 0] 3) = W0 := ⟨_, rfl⟩
 have B0 : Box W0 g #[.int .i64 0, .int .i64 0] 3 := by rw [← hW0, ← hg]; exact box_of w _ _
 have b0 : Below g w W0 := by rw [← hW0, ← hg]; exact (Below.refl _ w).alloc (Nat.le_refl _) _
 have hmk : (Instr.makeSlice 28 (.int .i64 2) (.int .i64 2)).run Tryz.prog w = .ok (.slice (some ⟨g, 0, none⟩) 2 2) W0 := by
   have e : madeCells #[Value.int .i64 0] 2 = #[.int .i64 0, .int .i64 0] := by kernel_rfl
   have h := rp_make 2 (by omega) w
   rw [e, hW0, hg] at h
   exact h
 have hs0 : W0.cell? ⟨b, 0, none⟩ = some (.int .i64 (-1)) := (hB.below b0 (by have := hB.lt; omega)).cell 0
 obtain ⟨W1, hc1, B1, b1⟩ := copy_e W0 g 0 2 2 ⟨b, 0, none⟩ 1 1 _ [.int .i64 (-1)] B0 (by decide) (fun j v h => by
   match j with
   | 0 => obtain rfl := Option.some.inj h; exact hs0
   | j + 1 => simp at h) (by simp) (by simp [Value.oneCell'])
 have B1 : Box W1 g #[.int .i64 (-1), .int .i64 0] 3 := B1
 have hc1 : ∀ ty, (Builtin.copy_ #[28, 28] ty #[.slice (some ⟨g, 0, none⟩) 2 2, .slice (some ⟨b, 0, none⟩) 1 1]).run Tryz.prog W0 = .ok (.int .i64 1) W1 := hc1
 have L1 := b1 g w b0 (Nat.le_refl _)
 obtain ⟨W2, hc2, B2, b2⟩ := copy_e W1.drew g 1 1 1 ⟨g, 0, none⟩ 1 2 _ [.int .i64 (-1)] B1.drew (by decide) (fun j v h => by
   match j with
   | 0 => obtain rfl := Option.some.inj h; exact B1.drew.cell 0
   | j + 1 => simp at h) (by simp) (by simp [Value.oneCell'])
 have B2 : Box W2 g #[.int .i64 (-1), .int .i64 (-1)] 3 := B2
 have hc2 : ∀ ty, (Builtin.copy_ #[28, 28] ty #[.slice (some ⟨g, 1, none⟩) 1 1, .slice (some ⟨g, 0, none⟩) 1 2]).run Tryz.prog W1.drew = .ok (.int .i64 1) W2 := hc2
 have L2 := b2 g w L1.drew (Nat.le_refl _)
 have HEND : Hid (Box W2 g #[.int .i64 (-1), .int .i64 (-1)] 3 ∧ Below g w W2) := ⟨B2, L2⟩
 rw [hg]
 have HG : Hid (w.heap.size = g) := hg
 have hw2 : IntKind.i64.wrap 2 = 2 := by kernel_rfl
 have hw3 : IntKind.i64.wrap 3 = 3 := by kernel_rfl
 have hw4 : IntKind.i64.wrap 4 = 4 := by kernel_rfl
 clear hg hW0 B1 L1 b1 B2 L2 b2 B0 b0 hs0 hB
 go_enter Tryz.func106, Tryz.ntmps106
 go_wp2
 refine wp_loop_rounds 2 ?_
 rw [rounds_succ]
 go_wp2
 go_region_held3 (fun _ => True) (trivial) (fail)
 (try simp only [hw2, hw3, hw4])
 go_wp2
 rw [rounds_succ]
 go_wp2
 go_ret
 exact ⟨rfl, HEND.out⟩
theorem repeat_3 (b : Nat) (w : World) (hB : Box w b #[.int .i64 (-1)] 3) :
   Calls Tryz.prog 106 #[.slice (some ⟨b, 0, none⟩) 1 1, .int .i64 3] w fun e w' => e = .returned (.slice (some ⟨w.heap.size, 0, none⟩) 3 3) ∧ Box w' w.heap.size #[.int .i64 (-1), .int .i64 (-1), .int .i64 (-1)] 3 ∧ Below w.heap.size w w' := by
 obtain ⟨g, hg⟩ : ∃ g, w.heap.size = g := ⟨_, rfl⟩
 obtain ⟨W0, hW0⟩ : ∃ W0, w.alloc (.cells #[.int .i64 0, .int .i64 0, .int .i64 0] 3) = W0 := ⟨_, rfl⟩
 have B0 : Box W0 g #[.int .i64 0, .int .i64 0, .int .i64 0] 3 := by rw [← hW0, ← hg]; exact box_of w _ _
 have b0 : Below g w W0 := by rw [← hW0, ← hg]; exact (Below.refl _ w).alloc (Nat.le_refl _) _
 have hmk : (Instr.makeSlice 28 (.int .i64 3) (.int .i64 3)).run Tryz.prog w = .ok (.slice (some ⟨g, 0, none⟩) 3 3) W0 := by
   have e : madeCells #[Value.int .i64 0] 3 = #[.int .i64 0, .int .i64 0, .int .i64 0] := by kernel_rfl
   have h := rp_make 3 (by omega) w
   rw [e, hW0, hg] at h
   exact h
 have hs0 : W0.cell? ⟨b, 0, none⟩ = some (.int .i64 (-1)) := (hB.below b0 (by have := hB.lt; omega)).cell 0
 obtain ⟨W1, hc1, B1, b1⟩ := copy_e W0 g 0 3 3 ⟨b, 0, none⟩ 1 1 _ [.int .i64 (-1)] B0 (by decide) (fun j v h => by
   match j with
   | 0 => obtain rfl := Option.some.inj h; exact hs0
   | j + 1 => simp at h) (by simp) (by simp [Value.oneCell'])
 have B1 : Box W1 g #[.int .i64 (-1), .int .i64 0, .int .i64 0] 3 := B1
 have hc1 : ∀ ty, (Builtin.copy_ #[28, 28] ty #[.slice (some ⟨g, 0, none⟩) 3 3, .slice (some ⟨b, 0, none⟩) 1 1]).run Tryz.prog W0 = .ok (.int .i64 1) W1 := hc1
 have L1 := b1 g w b0 (Nat.le_refl _)
 obtain ⟨W2, hc2, B2, b2⟩ := copy_e W1.drew g 1 2 2 ⟨g, 0, none⟩ 1 3 _ [.int .i64 (-1)] B1.drew (by decide) (fun j v h => by
   match j with
   | 0 => obtain rfl := Option.some.inj h; exact B1.drew.cell 0
   | j + 1 => simp at h) (by simp) (by simp [Value.oneCell'])
 have B2 : Box W2 g #[.int .i64 (-1), .int .i64 (-1), .int .i64 0] 3 := B2
 have hc2 : ∀ ty, (Builtin.copy_ #[28, 28] ty #[.slice (some ⟨g, 1, none⟩) 2 2, .slice (some ⟨g, 0, none⟩) 1 3]).run Tryz.prog W1.drew = .ok (.int .i64 1) W2 := hc2
 have L2 := b2 g w L1.drew (Nat.le_refl _)
 obtain ⟨W3, hc3, B3, b3⟩ := copy_e W2.drew g 2 1 1 ⟨g, 0, none⟩ 2 3 _ [.int .i64 (-1)] B2.drew (by decide) (fun j v h => by
   match j with
   | 0 => obtain rfl := Option.some.inj h; exact B2.drew.cell 0
   | j + 1 => simp at h) (by simp) (by simp [Value.oneCell'])
 have B3 : Box W3 g #[.int .i64 (-1), .int .i64 (-1), .int .i64 (-1)] 3 := B3
 have hc3 : ∀ ty, (Builtin.copy_ #[28, 28] ty #[.slice (some ⟨g, 2, none⟩) 1 1, .slice (some ⟨g, 0, none⟩) 2 3]).run Tryz.prog W2.drew = .ok (.int .i64 1) W3 := hc3
 have L3 := b3 g w L2.drew (Nat.le_refl _)
 have HEND : Hid (Box W3 g #[.int .i64 (-1), .int .i64 (-1), .int .i64 (-1)] 3 ∧ Below g w W3) := ⟨B3, L3⟩
 rw [hg]
 have HG : Hid (w.heap.size = g) := hg
 have hw2 : IntKind.i64.wrap 2 = 2 := by kernel_rfl
 have hw3 : IntKind.i64.wrap 3 = 3 := by kernel_rfl
 have hw4 : IntKind.i64.wrap 4 = 4 := by kernel_rfl
 clear hg hW0 B1 L1 b1 B2 L2 b2 B3 L3 b3 B0 b0 hs0 hB
 go_enter Tryz.func106, Tryz.ntmps106
 go_wp2
 refine wp_loop_rounds 3 ?_
 rw [rounds_succ]
 go_wp2
 go_region_held3 (fun _ => True) (trivial) (fail)
 (try simp only [hw2, hw3, hw4])
 go_wp2
 rw [rounds_succ]
 go_wp2
 go_region_held3 (fun _ => True) (trivial) (fail)
 (try simp only [hw2, hw3, hw4])
 go_wp2
 rw [rounds_succ]
 go_wp2
 go_ret
 exact ⟨rfl, HEND.out⟩
theorem repeat_4 (b : Nat) (w : World) (hB : Box w b #[.int .i64 (-1)] 3) :
   Calls Tryz.prog 106 #[.slice (some ⟨b, 0, none⟩) 1 1, .int .i64 4] w fun e w' => e = .returned (.slice (some ⟨w.heap.size, 0, none⟩) 4 4) ∧ Box w' w.heap.size #[.int .i64 (-1), .int .i64 (-1), .int .i64 (-1), .int .i64 (-1)] 3 ∧ Below w.heap.size w w' := by
 obtain ⟨g, hg⟩ : ∃ g, w.heap.size = g := ⟨_, rfl⟩
 obtain ⟨W0, hW0⟩ : ∃ W0, w.alloc (.cells #[.int .i64 0, .int .i64 0, .int .i64 0, .int .i64 0] 3) = W0 := ⟨_, rfl⟩
 have B0 : Box W0 g #[.int .i64 0, .int .i64 0, .int .i64 0, .int .i64 0] 3 := by rw [← hW0, ← hg]; exact box_of w _ _
 have b0 : Below g w W0 := by rw [← hW0, ← hg]; exact (Below.refl _ w).alloc (Nat.le_refl _) _
 have hmk : (Instr.makeSlice 28 (.int .i64 4) (.int .i64 4)).run Tryz.prog w = .ok (.slice (some ⟨g, 0, none⟩) 4 4) W0 := by
   have e : madeCells #[Value.int .i64 0] 4 = #[.int .i64 0, .int .i64 0, .int .i64 0, .int .i64 0] := by kernel_rfl
   have h := rp_make 4 (by omega) w
   rw [e, hW0, hg] at h
   exact h
 have hs0 : W0.cell? ⟨b, 0, none⟩ = some (.int .i64 (-1)) := (hB.below b0 (by have := hB.lt; omega)).cell 0
 obtain ⟨W1, hc1, B1, b1⟩ := copy_e W0 g 0 4 4 ⟨b, 0, none⟩ 1 1 _ [.int .i64 (-1)] B0 (by decide) (fun j v h => by
   match j with
   | 0 => obtain rfl := Option.some.inj h; exact hs0
   | j + 1 => simp at h) (by simp) (by simp [Value.oneCell'])
 have B1 : Box W1 g #[.int .i64 (-1), .int .i64 0, .int .i64 0, .int .i64 0] 3 := B1
 have hc1 : ∀ ty, (Builtin.copy_ #[28, 28] ty #[.slice (some ⟨g, 0, none⟩) 4 4, .slice (some ⟨b, 0, none⟩) 1 1]).run Tryz.prog W0 = .ok (.int .i64 1) W1 := hc1
 have L1 := b1 g w b0 (Nat.le_refl _)
 obtain ⟨W2, hc2, B2, b2⟩ := copy_e W1.drew g 1 3 3 ⟨g, 0, none⟩ 1 4 _ [.int .i64 (-1)] B1.drew (by decide) (fun j v h => by
   match j with
   | 0 => obtain rfl := Option.some.inj h; exact B1.drew.cell 0
   | j + 1 => simp at h) (by simp) (by simp [Value.oneCell'])
 have B2 : Box W2 g #[.int .i64 (-1), .int .i64 (-1), .int .i64 0, .int .i64 0] 3 := B2
 have hc2 : ∀ ty, (Builtin.copy_ #[28, 28] ty #[.slice (some ⟨g, 1, none⟩) 3 3, .slice (some ⟨g, 0, none⟩) 1 4]).run Tryz.prog W1.drew = .ok (.int .i64 1) W2 := hc2
 have L2 := b2 g w L1.drew (Nat.le_refl _)
 obtain ⟨W3, hc3, B3, b3⟩ := copy_e W2.drew g 2 2 2 ⟨g, 0, none⟩ 2 4 _ [.int .i64 (-1), .int .i64 (-1)] B2.drew (by decide) (fun j v h => by
   match j with
   | 0 => obtain rfl := Option.some.inj h; exact B2.drew.cell 0
   | 1 => obtain rfl := Option.some.inj h; exact B2.drew.cell 1
   | j + 2 => simp at h) (by simp) (by simp [Value.oneCell'])
 have B3 : Box W3 g #[.int .i64 (-1), .int .i64 (-1), .int .i64 (-1), .int .i64 (-1)] 3 := B3
 have hc3 : ∀ ty, (Builtin.copy_ #[28, 28] ty #[.slice (some ⟨g, 2, none⟩) 2 2, .slice (some ⟨g, 0, none⟩) 2 4]).run Tryz.prog W2.drew = .ok (.int .i64 2) W3 := hc3
 have L3 := b3 g w L2.drew (Nat.le_refl _)
 have HEND : Hid (Box W3 g #[.int .i64 (-1), .int .i64 (-1), .int .i64 (-1), .int .i64 (-1)] 3 ∧ Below g w W3) := ⟨B3, L3⟩
 rw [hg]
 have HG : Hid (w.heap.size = g) := hg
 have hw2 : IntKind.i64.wrap 2 = 2 := by kernel_rfl
 have hw3 : IntKind.i64.wrap 3 = 3 := by kernel_rfl
 have hw4 : IntKind.i64.wrap 4 = 4 := by kernel_rfl
 clear hg hW0 B1 L1 b1 B2 L2 b2 B3 L3 b3 B0 b0 hs0 hB
 go_enter Tryz.func106, Tryz.ntmps106
 go_wp2
 refine wp_loop_rounds 3 ?_
 rw [rounds_succ]
 go_wp2
 go_region_held3 (fun _ => True) (trivial) (fail)
 (try simp only [hw2, hw3, hw4])
 go_wp2
 rw [rounds_succ]
 go_wp2
 go_region_held3 (fun _ => True) (trivial) (fail)
 (try simp only [hw2, hw3, hw4])
 go_wp2
 rw [rounds_succ]
 go_wp2
 go_ret
 exact ⟨rfl, HEND.out⟩
def reps (n : Nat) : Array Value := Array.replicate n (.int .i64 (-1))
theorem repeat_any (n : Nat) (hn : 1 ≤ n ∧ n ≤ 4) (b : Nat) (w : World) (hB : Box w b #[.int .i64 (-1)] 3) :
   Calls Tryz.prog 106 #[.slice (some ⟨b, 0, none⟩) 1 1, .int .i64 (n : Int)] w fun e w' => e = .returned (.slice (some ⟨w.heap.size, 0, none⟩) n n) ∧ Box w' w.heap.size (reps n) 3 ∧ Below w.heap.size w w' := by
 have h : n = 1 ∨ n = 2 ∨ n = 3 ∨ n = 4 := by omega
 rcases h with rfl | rfl | rfl | rfl
 · exact repeat_1 b w hB
 · exact repeat_2 b w hB
 · exact repeat_3 b w hB
 · exact repeat_4 b w hB
end
end Go.Proofs.YtlkdjeneggfhgaaGreatDoor
