/- Texts joined: SpecTk, SpecMa. -/
import Derived.Test.YtlkdjeneggfhgaaGreatDoorQW14
import Derived.Test.YtlkdjeneggfhgaaGreatDoorQW10
import Derived.Test.YtlkdjeneggfhgaaGreatDoorQW13
set_option maxHeartbeats 16000000
set_option maxRecDepth 100000
namespace Go.Proofs.YtlkdjeneggfhgaaGreatDoor
section
open Go.ChangeShapes Go.WideShapes Go.ChangeAt Go.RowKit
theorem endN_succ (f : Nat → CaD) (t : Int) (k : Nat) : endN f t (k + 1) = endN f t k + if (f k).t = t ∧ 0 ≤ (f k).en then 1 else 0 := rfl
def EndsUpto (f : Nat → CaD) (t : Int) (on : Bool) (l : Int) (k : Nat) : Prop := ∀ j, j < k → (f j).t = t → 0 ≤ (f j).en ∨ (on = true ∧ (j : Int) = l)
theorem EndsUpto.next {f : Nat → CaD} {t : Int} {on : Bool} {l : Int} {k : Nat} (h : EndsUpto f t on l k) (h1 : (f k).t = t → 0 ≤ (f k).en ∨ (on = true ∧ (k : Int) = l)) : EndsUpto f t on l (k + 1) := fun j hj => by
 by_cases e : j = k
 · rw [e]; exact h1
 · exact h j (by omega)
theorem specTask_any (v0 v1 v3 v5 v6 v7 : Value) (ta : Option Addr) (nt tc : Nat) (ts : Nat → ThD) (ca : Option Addr) (nc cc : Nat) (f : Nat → CaD) (i : Nat) (hi : i < nt) (w : World) (h1 : ThsAt w ta nt ts) (h2 : CasAt w ca nc f)
   (hpc : (ts i).on = true → 0 ≤ (ts i).pc ∧ (ts i).pc < (ts i).n0) :
   Calls Tryz.prog 66 #[.agg #[v0, v1, .slice ta nt tc, v3, .slice ca nc cc, v5, v6, v7], .int .i64 (i : Int)] w fun e w' => ∃ ok, (e = .returned (.bool ok) ∧ (ok = true ↔ TaskSpec f nc (i : Int) (ts i))) ∧ Below w.heap.size w w' := by
 have hnt := h1.1
 have hnc := h2.1
 obtain ⟨G, hG⟩ : ∃ G : Prop, TaskSpec f nc (i : Int) (ts i) = G := ⟨_, rfl⟩
 have HG : Hid (G ↔ TaskSpec f nc (i : Int) (ts i)) := by show _ ↔ _; rw [hG]
 rw [hG]
 have H2 : Hid (CasAt w ca nc f) := h2
 rcases h1.2 with h0 | ⟨p0, o0, rfl, g0⟩
 · omega
 obtain ⟨a0, c0, a1, c1, a2, c2, hTC, hTL, _⟩ := g0 i hi
 have hi0 : (0 : Int) ≤ (i : Int) := by omega
 have hi1 : (i : Int) < (nt : Int) := by omega
 obtain ⟨X, hX⟩ : ∃ X, ts i = X := ⟨_, rfl⟩
 rw [hX] at HG hTC hTL hpc
 obtain ⟨n0, fs, pc, on, n1, gs, n2, hs⟩ := X
 obtain ⟨e0, e1, e2, e3, e4⟩ := hTC
 have HOPS : Hid (KAt 3 w a0 n0 fs) := hTL.ops
 have hm0 := hTL.ops.2.1
 dsimp only at e0 e1 e2 e3 e4 hpc hm0
 have q0 : p0 < w.heap.size := World.block_lt_of_cell? w _ e0
 have HPC : Hid (on = true → 0 ≤ pc ∧ pc < (n0 : Int)) := hpc
 have hl := lastN_lt f (i : Int) nc
 obtain ⟨l, hll⟩ : ∃ l, lastN f (i : Int) nc = l := ⟨_, rfl⟩
 have HL : Hid (lastN f (i : Int) nc = l) := hll
 rw [hll] at hl
 clear h1 h2 g0 hX hpc hTL hG hll
 rcases on with _ | _
 · obtain ⟨W, hW⟩ : ∃ W, (w.alloc (.cells #[v0, v1, .slice (some ⟨p0, o0, none⟩) nt tc, v3, .slice ca nc cc, v5, v6, v7] 44)).alloc (.cells #[.slice a0 n0 c0, .int .i64 pc, .bool false, .slice a1 n1 c1, .slice a2 n2 c2] 107) = W := ⟨_, rfl⟩
   have hb1 : Below w.heap.size w (w.alloc (.cells #[v0, v1, .slice (some ⟨p0, o0, none⟩) nt tc, v3, .slice ca nc cc, v5, v6, v7] 44)) := (Below.refl _ w).alloc (Nat.le_refl _) _
   have hb0 : Below w.heap.size w W := by rw [← hW]; exact hb1.alloc (by simp) _
   have BM : Hid (Box W w.heap.size #[v0, v1, .slice (some ⟨p0, o0, none⟩) nt tc, v3, .slice ca nc cc, v5, v6, v7] 44) := by rw [← hW]; exact (box_of w _ _).alloc _
   have BT : Hid (Box W (w.heap.size + 1) #[.slice a0 n0 c0, .int .i64 pc, .bool false, .slice a1 n1 c1, .slice a2 n2 c2] 107) := by
     rw [← hW]
     have := box_of (w.alloc (.cells #[v0, v1, .slice (some ⟨p0, o0, none⟩) nt tc, v3, .slice ca nc cc, v5, v6, v7] 44)) #[.slice a0 n0 c0, .int .i64 pc, .bool false, .slice a1 n1 c1, .slice a2 n2 c2] 107
     rwa [World.size_alloc] at this
   have HB0 : Hid (Below w.heap.size w W) := hb0
   have HW : Hid ((w.alloc (.cells #[v0, v1, .slice (some ⟨p0, o0, none⟩) nt tc, v3, .slice ca nc cc, v5, v6, v7] 44)).alloc (.cells #[.slice a0 n0 c0, .int .i64 pc, .bool false, .slice a1 n1 c1, .slice a2 n2 c2] 107) = W) := hW
   clear hb0 hb1 hW
   go_enter Tryz.func66, Tryz.ntmps66
   go_wp2_with fail
   rw [HW.out]
   refine (specLast_any v0 v1 (.slice (some ⟨p0, o0, none⟩) nt tc) v3 v5 v6 v7 ca nc cc f (i : Int) W (H2.out.below HB0.out (Nat.le_refl _))).mono ?_
   rintro e w2 ⟨rfl, hb2⟩
   rw [HL.out]
   have HB2 : Hid (Below w.heap.size w w2) := HB0.out.trans (hb2.mono HB0.out.size)
   have BM2 : Hid (Box w2 w.heap.size #[v0, v1, .slice (some ⟨p0, o0, none⟩) nt tc, v3, .slice ca nc cc, v5, v6, v7] 44) := BM.out.below hb2 BM.out.lt
   have BT2 : Hid (Box w2 (w.heap.size + 1) #[.slice a0 n0 c0, .int .i64 pc, .bool false, .slice a1 n1 c1, .slice a2 n2 c2] 107) := BT.out.below hb2 BT.out.lt
   clear e0 e1 e2 e3 e4 hb2
   obtain ⟨z0, z1, z2, z3, z4, z5, z6, z7⟩ := eight_of BM2.out
   obtain ⟨y0, y1, y2, y3, y4⟩ := five_of BT2.out
   have L0 : w.heap.size < w2.heap.size := BM2.out.lt
   have L1 : w.heap.size + 1 < w2.heap.size := BT2.out.lt
   go_wp2
   go_loopw [7, 8] (fun q ix wr => ∃ k : Nat, k ≤ nc ∧ q = .int .i64 ((endN f (i : Int) k : Nat) : Int) ∧ ix = .int .i64 (k : Int) ∧ EndsUpto f (i : Int) false l k ∧ wr = w2) (fun _ ix _ => nc - (intOf ix).toNat)
   case atStart => exact ⟨0, Nat.zero_le _, rfl, rfl, (fun j h => by omega), rfl⟩
   case round =>
     obtain ⟨k, hk, rfl, rfl, hall, rfl⟩ := hrel
     have HALL : Hid (EndsUpto f (i : Int) false l k) := hall
     have hen := endN_le f (i : Int) k
     obtain ⟨s, hs'⟩ : ∃ s, endN f (i : Int) k = s := ⟨_, rfl⟩
     have HS : Hid (endN f (i : Int) k = s) := hs'
     rw [hs'] at hen ⊢
     clear hall hs'
     by_cases hlt : k < nc
     · have hk0 : (0 : Int) ≤ (k : Int) := by omega
       have hk1 : (k : Int) < (nc : Int) := by omega
       rcases (H2.out.below HB2.out (Nat.le_refl _)).2 with h0 | ⟨p1, o1, rfl, g1⟩
       · omega
       obtain ⟨ra, rn, rc, d0, _, _, _, _, _, d6, _, _⟩ := g1 k hlt
       obtain ⟨x0, hx0⟩ : ∃ x, (f k).t = x := ⟨_, rfl⟩
       obtain ⟨x6, hx6⟩ : ∃ x, (f k).en = x := ⟨_, rfl⟩
       have HX0 : Hid ((f k).t = x0) := hx0
       have HX6 : Hid ((f k).en = x6) := hx6
       rw [hx0] at d0
       rw [hx6] at d6
       clear g1 hx0 hx6
       by_cases hxt : x0 = (i : Int)
       case neg =>
         have hxt' : (x0 != (i : Int)) = true := by simpa using hxt
         have HSN : Hid (endN f (i : Int) (k + 1) = s) := by show _ = _; rw [endN_succ, HX0.out, if_neg (fun h => hxt h.1), HS.out]; rfl
         have HN : Hid (EndsUpto f (i : Int) false l (k + 1)) := HALL.out.next (fun h => absurd (HX0.out.symm.trans h) hxt)
         clear hxt
         go_wp2
         exact ⟨⟨k + 1, by omega, by rw [HSN.out], by go_num, HN.out, by first | trivial | rfl⟩, by simp [intOf]; omega⟩
       have hxt' : (x0 != (i : Int)) = false := by simp [hxt]
       by_cases hx6 : 0 ≤ x6
       · have hx6' : decide (0 ≤ x6) = true := decide_eq_true hx6
         have HSN : Hid (endN f (i : Int) (k + 1) = s + 1) := by show _ = _; rw [endN_succ, HX0.out, HX6.out, if_pos ⟨hxt, hx6⟩, HS.out]
         have HN : Hid (EndsUpto f (i : Int) false l (k + 1)) := HALL.out.next (fun _ => .inl (by rw [HX6.out]; exact hx6))
         clear hxt hx6
         go_wp2
         exact ⟨⟨k + 1, by omega, by rw [HSN.out]; go_num, by go_num, HN.out, by first | trivial | rfl⟩, by simp [intOf]; omega⟩
       have hx6' : decide (0 ≤ x6) = false := decide_eq_false hx6
       have HNO : Hid (¬ G) := fun hg => by
         rcases (HG.out.1 hg).ends k hlt (by rw [HX0.out]; exact hxt) with h | h
         · rw [HX6.out] at h; exact hx6 h
         · cases h.1
       clear hxt hx6
       go_wp2
       go_ret
       first | exact ⟨false, ⟨rfl, by simp [HNO.out]⟩, HB2.out⟩ | exact ⟨.inl ⟨rfl, HNO.out⟩, HB2.out⟩
     · obtain rfl : nc = k := by omega
       have HE : Hid (∀ i_1, i_1 < nc → (f i_1).t = (i : Int) → 0 ≤ (f i_1).en ∨ (false = true ∧ (i_1 : Int) = lastN f (i : Int) nc)) := by
         show ∀ i_1, _
         rw [HL.out]
         exact HALL.out
       by_cases hsp : (s : Int) = pc
       case neg =>
         have hsp' : ((s : Int) != pc) = true := by simpa using hsp
         have HNO : Hid (¬ G) := fun hg => hsp (by have := (HG.out.1 hg).pc; rw [HS.out] at this; exact this)
         clear hsp
         go_wp2
         go_ret
         first | exact ⟨false, ⟨rfl, by simp [HNO.out]⟩, HB2.out⟩ | exact ⟨.inl ⟨rfl, HNO.out⟩, HB2.out⟩
       have hsp' : ((s : Int) != pc) = false := by simp [hsp]
       have HSP : Hid ((endN f (i : Int) nc : Int) = pc) := by show _ = _; rw [HS.out]; exact hsp
       clear hsp
       have HYES : Hid G := HG.out.2 ⟨HE.out, HSP.out, fun h => by cases h⟩
       go_wp2
       go_quiet (fail)
       go_wp2
       go_ret
       exact ⟨true, ⟨rfl, by simp [HYES.out]⟩, below_drewN6 HB2.out nq⟩
 · obtain ⟨W, hW⟩ : ∃ W, (w.alloc (.cells #[v0, v1, .slice (some ⟨p0, o0, none⟩) nt tc, v3, .slice ca nc cc, v5, v6, v7] 44)).alloc (.cells #[.slice a0 n0 c0, .int .i64 pc, .bool true, .slice a1 n1 c1, .slice a2 n2 c2] 107) = W := ⟨_, rfl⟩
   have hb1 : Below w.heap.size w (w.alloc (.cells #[v0, v1, .slice (some ⟨p0, o0, none⟩) nt tc, v3, .slice ca nc cc, v5, v6, v7] 44)) := (Below.refl _ w).alloc (Nat.le_refl _) _
   have hb0 : Below w.heap.size w W := by rw [← hW]; exact hb1.alloc (by simp) _
   have BM : Hid (Box W w.heap.size #[v0, v1, .slice (some ⟨p0, o0, none⟩) nt tc, v3, .slice ca nc cc, v5, v6, v7] 44) := by rw [← hW]; exact (box_of w _ _).alloc _
   have BT : Hid (Box W (w.heap.size + 1) #[.slice a0 n0 c0, .int .i64 pc, .bool true, .slice a1 n1 c1, .slice a2 n2 c2] 107) := by
     rw [← hW]
     have := box_of (w.alloc (.cells #[v0, v1, .slice (some ⟨p0, o0, none⟩) nt tc, v3, .slice ca nc cc, v5, v6, v7] 44)) #[.slice a0 n0 c0, .int .i64 pc, .bool true, .slice a1 n1 c1, .slice a2 n2 c2] 107
     rwa [World.size_alloc] at this
   have HB0 : Hid (Below w.heap.size w W) := hb0
   have HW : Hid ((w.alloc (.cells #[v0, v1, .slice (some ⟨p0, o0, none⟩) nt tc, v3, .slice ca nc cc, v5, v6, v7] 44)).alloc (.cells #[.slice a0 n0 c0, .int .i64 pc, .bool true, .slice a1 n1 c1, .slice a2 n2 c2] 107) = W) := hW
   clear hb0 hb1 hW
   go_enter Tryz.func66, Tryz.ntmps66
   go_wp2_with fail
   rw [HW.out]
   refine (specLast_any v0 v1 (.slice (some ⟨p0, o0, none⟩) nt tc) v3 v5 v6 v7 ca nc cc f (i : Int) W (H2.out.below HB0.out (Nat.le_refl _))).mono ?_
   rintro e w2 ⟨rfl, hb2⟩
   rw [HL.out]
   have HB2 : Hid (Below w.heap.size w w2) := HB0.out.trans (hb2.mono HB0.out.size)
   have BM2 : Hid (Box w2 w.heap.size #[v0, v1, .slice (some ⟨p0, o0, none⟩) nt tc, v3, .slice ca nc cc, v5, v6, v7] 44) := BM.out.below hb2 BM.out.lt
   have BT2 : Hid (Box w2 (w.heap.size + 1) #[.slice a0 n0 c0, .int .i64 pc, .bool true, .slice a1 n1 c1, .slice a2 n2 c2] 107) := BT.out.below hb2 BT.out.lt
   clear e0 e1 e2 e3 e4 hb2
   obtain ⟨z0, z1, z2, z3, z4, z5, z6, z7⟩ := eight_of BM2.out
   obtain ⟨y0, y1, y2, y3, y4⟩ := five_of BT2.out
   have L0 : w.heap.size < w2.heap.size := BM2.out.lt
   have L1 : w.heap.size + 1 < w2.heap.size := BT2.out.lt
   go_wp2
   go_loopw [7, 8] (fun q ix wr => ∃ k : Nat, k ≤ nc ∧ q = .int .i64 ((endN f (i : Int) k : Nat) : Int) ∧ ix = .int .i64 (k : Int) ∧ EndsUpto f (i : Int) true l k ∧ wr = w2) (fun _ ix _ => nc - (intOf ix).toNat)
   case atStart => exact ⟨0, Nat.zero_le _, rfl, rfl, (fun j h => by omega), rfl⟩
   case round =>
     obtain ⟨k, hk, rfl, rfl, hall, rfl⟩ := hrel
     have HALL : Hid (EndsUpto f (i : Int) true l k) := hall
     have hen := endN_le f (i : Int) k
     obtain ⟨s, hs'⟩ : ∃ s, endN f (i : Int) k = s := ⟨_, rfl⟩
     have HS : Hid (endN f (i : Int) k = s) := hs'
     rw [hs'] at hen ⊢
     clear hall hs'
     by_cases hlt : k < nc
     · have hk0 : (0 : Int) ≤ (k : Int) := by omega
       have hk1 : (k : Int) < (nc : Int) := by omega
       rcases (H2.out.below HB2.out (Nat.le_refl _)).2 with h0 | ⟨p1, o1, rfl, g1⟩
       · omega
       obtain ⟨ra, rn, rc, d0, _, _, _, _, _, d6, _, _⟩ := g1 k hlt
       obtain ⟨x0, hx0⟩ : ∃ x, (f k).t = x := ⟨_, rfl⟩
       obtain ⟨x6, hx6⟩ : ∃ x, (f k).en = x := ⟨_, rfl⟩
       have HX0 : Hid ((f k).t = x0) := hx0
       have HX6 : Hid ((f k).en = x6) := hx6
       rw [hx0] at d0
       rw [hx6] at d6
       clear g1 hx0 hx6
       by_cases hxt : x0 = (i : Int)
       case neg =>
         have hxt' : (x0 != (i : Int)) = true := by simpa using hxt
         have HSN : Hid (endN f (i : Int) (k + 1) = s) := by show _ = _; rw [endN_succ, HX0.out, if_neg (fun h => hxt h.1), HS.out]; rfl
         have HN : Hid (EndsUpto f (i : Int) true l (k + 1)) := HALL.out.next (fun h => absurd (HX0.out.symm.trans h) hxt)
         clear hxt
         go_wp2
         exact ⟨⟨k + 1, by omega, by rw [HSN.out], by go_num, HN.out, by first | trivial | rfl⟩, by simp [intOf]; omega⟩
       have hxt' : (x0 != (i : Int)) = false := by simp [hxt]
       by_cases hx6 : 0 ≤ x6
       · have hx6' : decide (0 ≤ x6) = true := decide_eq_true hx6
         have HSN : Hid (endN f (i : Int) (k + 1) = s + 1) := by show _ = _; rw [endN_succ, HX0.out, HX6.out, if_pos ⟨hxt, hx6⟩, HS.out]
         have HN : Hid (EndsUpto f (i : Int) true l (k + 1)) := HALL.out.next (fun _ => .inl (by rw [HX6.out]; exact hx6))
         clear hxt hx6
         go_wp2
         exact ⟨⟨k + 1, by omega, by rw [HSN.out]; go_num, by go_num, HN.out, by first | trivial | rfl⟩, by simp [intOf]; omega⟩
       have hx6' : decide (0 ≤ x6) = false := decide_eq_false hx6
       by_cases hkl : (k : Int) = l
       case neg =>
         have hkl' : ((k : Int) != l) = true := by simpa using hkl
         have HNO : Hid (¬ G) := fun hg => by
           rcases (HG.out.1 hg).ends k hlt (by rw [HX0.out]; exact hxt) with h | h
           · rw [HX6.out] at h; exact hx6 h
           · exact hkl (h.2.trans HL.out)
         clear hxt hx6
         go_wp2
         go_ret
         first | exact ⟨false, ⟨rfl, by simp [HNO.out]⟩, HB2.out⟩ | exact ⟨.inl ⟨rfl, HNO.out⟩, HB2.out⟩
       have hkl' : ((k : Int) != l) = false := by simp [hkl]
       have HSN : Hid (endN f (i : Int) (k + 1) = s) := by show _ = _; rw [endN_succ, HX6.out, if_neg (fun h => hx6 h.2), HS.out]; rfl
       have HN : Hid (EndsUpto f (i : Int) true l (k + 1)) := HALL.out.next (fun _ => .inr ⟨rfl, hkl⟩)
       clear hxt hx6 hkl
       go_wp2
       exact ⟨⟨k + 1, by omega, by rw [HSN.out], by go_num, HN.out, by first | trivial | rfl⟩, by simp [intOf]; omega⟩
     · obtain rfl : nc = k := by omega
       have HE : Hid (∀ i_1, i_1 < nc → (f i_1).t = (i : Int) → 0 ≤ (f i_1).en ∨ (true = true ∧ (i_1 : Int) = lastN f (i : Int) nc)) := by
         show ∀ i_1, _
         rw [HL.out]
         exact HALL.out
       by_cases hsp : (s : Int) = pc
       case neg =>
         have hsp' : ((s : Int) != pc) = true := by simpa using hsp
         have HNO : Hid (¬ G) := fun hg => hsp (by have := (HG.out.1 hg).pc; rw [HS.out] at this; exact this)
         clear hsp
         go_wp2
         go_ret
         first | exact ⟨false, ⟨rfl, by simp [HNO.out]⟩, HB2.out⟩ | exact ⟨.inl ⟨rfl, HNO.out⟩, HB2.out⟩
       have hsp' : ((s : Int) != pc) = false := by simp [hsp]
       have HSP : Hid ((endN f (i : Int) nc : Int) = pc) := by show _ = _; rw [HS.out]; exact hsp
       clear hsp
       obtain ⟨hp0, hp1⟩ := HPC.out (by first | rfl | trivial)
       obtain ⟨pn, rfl⟩ : ∃ m : Nat, pc = (m : Int) := ⟨pc.toNat, by omega⟩
       by_cases hl0 : 0 ≤ l
       case neg =>
         have hl' : decide (0 ≤ l) = false := decide_eq_false hl0
         have HNO : Hid (¬ G) := fun hg => hl0 (by have := ((HG.out.1 hg).last rfl).1; rw [HL.out] at this; exact this)
         clear hl0
         go_wp2
         go_quiet (fail)
         go_wp2
         go_ret
         first | exact ⟨false, ⟨rfl, by simp [HNO.out]⟩, below_drewN6 HB2.out nq⟩ | exact ⟨.inl ⟨rfl, HNO.out⟩, below_drewN6 HB2.out nq⟩
       obtain ⟨m, rfl⟩ : ∃ m : Nat, l = (m : Int) := ⟨l.toNat, by omega⟩
       have hl' : decide ((0 : Int) ≤ (m : Int)) = true := decide_eq_true hl0
       have hm1 : (m : Int) < (nc : Int) := hl.2
       rcases (H2.out.below HB2.out (Nat.le_refl _)).2 with h0 | ⟨p1, o1, rfl, g1⟩
       · omega
       obtain ⟨ra, rn, rc, _, d1, d2, d3, _, _, d6, _, _⟩ := g1 m (by omega)
       rcases (HOPS.out.below HB2.out (Nat.le_refl _)).2.2 with h0 | ⟨p3, o3, rfl, g3⟩
       · omega
       have c1 := g3 (pn * 3) (by omega)
       have c2 := g3 (pn * 3 + 1) (by omega)
       have c3 := g3 (pn * 3 + 2) (by omega)
       obtain ⟨x1, hx1⟩ : ∃ x, (f m).kd = x := ⟨_, rfl⟩
       obtain ⟨x2, hx2⟩ : ∃ x, (f m).k = x := ⟨_, rfl⟩
       obtain ⟨x3, hx3⟩ : ∃ x, (f m).v = x := ⟨_, rfl⟩
       obtain ⟨x6, hx6⟩ : ∃ x, (f m).en = x := ⟨_, rfl⟩
       obtain ⟨u1, hu1⟩ : ∃ x, fs.getD (pn * 3) 0 = x := ⟨_, rfl⟩
       obtain ⟨u2, hu2⟩ : ∃ x, fs.getD (pn * 3 + 1) 0 = x := ⟨_, rfl⟩
       obtain ⟨u3, hu3⟩ : ∃ x, fs.getD (pn * 3 + 2) 0 = x := ⟨_, rfl⟩
       have HLAST : Hid (∀ b1 b2 : Prop, ((f (lastN f (i : Int) nc).toNat).en = -1 ↔ b1) → (((f (lastN f (i : Int) nc).toNat).kd = fs.getD ((pn : Int).toNat * 3) 0 ∧ (f (lastN f (i : Int) nc).toNat).k = fs.getD ((pn : Int).toNat * 3 + 1) 0 ∧ (f (lastN f (i : Int) nc).toNat).v = fs.getD ((pn : Int).toNat * 3 + 2) 0) ↔ b2) → (G ↔ b1 ∧ b2)) := fun b1 b2 h1 h2 =>
         ⟨fun hg => ⟨h1.1 ((HG.out.1 hg).last rfl).2.1, h2.1 ((HG.out.1 hg).last rfl).2.2⟩, fun hg => HG.out.2 ⟨HE.out, HSP.out, fun _ => ⟨by rw [HL.out]; exact hl0, h1.2 hg.1, h2.2 hg.2⟩⟩⟩
       have HGG : Hid (G ↔ (x6 = -1 ∧ (x1 = u1 ∧ x2 = u2 ∧ x3 = u3))) := HLAST.out _ _ (by rw [HL.out, Int.toNat_natCast, hx6]) (by rw [HL.out, Int.toNat_natCast, Int.toNat_natCast, hx1, hx2, hx3, hu1, hu2, hu3])
       rw [hx1] at d1
       rw [hx2] at d2
       rw [hx3] at d3
       rw [hx6] at d6
       rw [hu1] at c1
       rw [hu2, ← Nat.add_assoc] at c2
       rw [hu3, ← Nat.add_assoc] at c3
       clear g1 g3 hx1 hx2 hx3 hx6 hu1 hu2 hu3 HLAST HE
       by_cases h6 : x6 = -1
       case neg =>
         have h6' : (x6 == -1) = false := by simpa using h6
         have HNO : Hid (¬ G) := fun hg => h6 (HGG.out.1 hg).1
         clear h6 HGG
         go_wp2
         go_quiet (fail)
         go_wp2
         go_ret
         first | exact ⟨false, ⟨rfl, by simp [HNO.out]⟩, below_drewN6 HB2.out nq⟩ | exact ⟨.inl ⟨rfl, HNO.out⟩, below_drewN6 HB2.out nq⟩
       have h6' : (x6 == -1) = true := by simp [h6]
       by_cases hop : x1 = u1 ∧ x2 = u2 ∧ x3 = u3
       · have HYES : Hid G := HGG.out.2 ⟨h6, hop⟩
         have hq := fun w => eql_op x1 x2 x3 u1 u2 u3 w true (ops_eq hop)
         clear hop h6 HGG
         go_wp2
         go_quiet (fail)
         go_wp2
         go_ret
         exact ⟨true, ⟨rfl, by simp [HYES.out]⟩, below_drewN6 HB2.out nq⟩
       · have HNO : Hid (¬ G) := fun hg => hop (HGG.out.1 hg).2
         have hq := fun w => eql_op x1 x2 x3 u1 u2 u3 w false (ops_ne hop)
         clear hop h6 HGG
         go_wp2
         go_quiet (fail)
         go_wp2
         go_ret
         first | exact ⟨false, ⟨rfl, by simp [HNO.out]⟩, below_drewN6 HB2.out nq⟩ | exact ⟨.inl ⟨rfl, HNO.out⟩, below_drewN6 HB2.out nq⟩
theorem specMachineOk_any (wa : Option Addr) (wc : Nat) (da : Option Addr) (dc : Nat) (ta : Option Addr) (tc : Nat) (ca : Option Addr) (cc : Nat) (oa : Option Addr) (oc : Nat) (ha : Option Addr) (hc : Nat) (M : MaD) (w : World) (h : MaAt w wa da ta ca oa ha M) :
   Calls Tryz.prog 30 #[MaV wa wc da dc ta tc ca cc oa oc ha hc M] w fun e w' => ∃ ok, (e = .returned (.bool ok) ∧ (ok = true ↔ MachGood M)) ∧ Below w.heap.size w w' := by
 obtain ⟨G, hG⟩ : ∃ G : Prop, MachGood M = G := ⟨_, rfl⟩
 rw [hG]
 obtain ⟨nw, ws, nd, ds, nt, ts, tm, nc, f, no, os, nh, hs, st⟩ := M
 have HG : Hid (G ↔ MachGood ⟨nw, ws, nd, ds, nt, ts, tm, nc, f, no, os, nh, hs, st⟩) := by show _ ↔ _; rw [hG]
 have H1 : Hid (TripAt w wa nw ws) := h.words
 have H2 : Hid (DescAt w da nd ds) := h.descs
 have H3 : Hid (ThsAt w ta nt ts) := h.ths
 have H4 : Hid (CasAt w ca nc f) := h.calls
 have H5 : Hid (IntAt w oa no os) := h.ord
 have H6 : Hid (IntAt w ha nh hs) := h.held
 have hnt := h.ths.1
 have hnd := h.descs.2.1
 have HND : Hid (ds.length = nd) := h.descs.1
 have HNH : Hid (hs.length = nh) := h.held.1
 dsimp only at hnt hnd
 show Calls Tryz.prog 30 #[.agg #[.slice wa nw wc, .slice da nd dc, .slice ta nt tc, .int .i64 tm, .slice ca nc cc, .slice oa no oc, .slice ha nh hc, .int .i64 st]] w fun e w' => ∃ ok, (e = .returned (.bool ok) ∧ (ok = true ↔ G)) ∧ Below w.heap.size w w'
 obtain ⟨W, hW⟩ : ∃ W, w.alloc (.cells #[.slice wa nw wc, .slice da nd dc, .slice ta nt tc, .int .i64 tm, .slice ca nc cc, .slice oa no oc, .slice ha nh hc, .int .i64 st] 44) = W := ⟨_, rfl⟩
 have hb0 : Below w.heap.size w W := by rw [← hW]; exact (Below.refl _ w).alloc (Nat.le_refl _) _
 have BX : Hid (Box W w.heap.size #[.slice wa nw wc, .slice da nd dc, .slice ta nt tc, .int .i64 tm, .slice ca nc cc, .slice oa no oc, .slice ha nh hc, .int .i64 st] 44) := by rw [← hW]; exact box_of w _ _
 have HB0 : Hid (Below w.heap.size w W) := hb0
 have HW : Hid (w.alloc (.cells #[.slice wa nw wc, .slice da nd dc, .slice ta nt tc, .int .i64 tm, .slice ca nc cc, .slice oa no oc, .slice ha nh hc, .int .i64 st] 44) = W) := hW
 clear h hb0 hW hG
 go_enter Tryz.func30, Tryz.ntmps30
 go_wp2_with fail
 rw [HW.out]
 refine (specMemOk_any wa nw wc ws da nd dc ds W (H1.out.below HB0.out (Nat.le_refl _)) (H2.out.below HB0.out (Nat.le_refl _))).mono ?_
 rintro e w1 ⟨ok1, ⟨rfl, hk1⟩, hb1⟩
 have BX1 : Hid (Box w1 w.heap.size #[.slice wa nw wc, .slice da nd dc, .slice ta nt tc, .int .i64 tm, .slice ca nc cc, .slice oa no oc, .slice ha nh hc, .int .i64 st] 44) := BX.out.below hb1 BX.out.lt
 have HB1 : Hid (Below w.heap.size w w1) := HB0.out.trans (hb1.mono HB0.out.size)
 obtain ⟨z0, z1, z2, z3, z4, z5, z6, z7⟩ := eight_of BX1.out
 have L1 : w.heap.size < w1.heap.size := BX1.out.lt
 have HK1 : Hid (ok1 = true ↔ MemGood ws nw ds) := hk1
 clear hb1 hk1
 rcases ok1 with _ | _
 · have HNO : Hid (¬ G) := fun hg => by have := HK1.out.2 (HG.out.1 hg).mem; cases this
   go_wp2
   go_ret
   exact ⟨false, ⟨rfl, by simp [HNO.out]⟩, HB1.out⟩
 by_cases hmn : nd = nt
 case neg =>
   have hmn' : ((nd : Int) != (nt : Int)) = true := by simp; omega
   have HNO : Hid (¬ G) := fun hg => hmn (HG.out.1 hg).many
   go_wp2
   go_ret
   exact ⟨false, ⟨rfl, by simp [HNO.out]⟩, HB1.out⟩
 have hmn' : ((nd : Int) != (nt : Int)) = false := by simp [hmn]
 have HMN : Hid (nd = nt) := hmn
 clear hmn
 go_wp2_with fail
 refine (l1In_g _ _ _ _).mono ?_
 rintro e w1' ⟨rfl, rfl⟩
 rcases hI : inB tm 0 100000 with _ | _
 · have HNO : Hid (¬ G) := fun hg => by have := (HG.out.1 hg).time; dsimp only at this; rw [hI] at this; cases this
   go_wp2
   go_ret
   exact ⟨false, ⟨rfl, by simp [HNO.out]⟩, HB1.out⟩
 have HI : Hid (inB tm 0 100000 = true) := hI
 clear hI
 go_wp2_with fail
 refine (specRowsOk_any ha nh hc st hs _ (H6.out.below HB1.out (Nat.le_refl _))).mono ?_
 rintro e w2 ⟨⟨ok2, rfl, hk2⟩, hb2⟩
 have BX2 : Hid (Box w2 w.heap.size #[.slice wa nw wc, .slice da nd dc, .slice ta nt tc, .int .i64 tm, .slice ca nc cc, .slice oa no oc, .slice ha nh hc, .int .i64 st] 44) := BX1.out.below hb2 BX1.out.lt
 have HB2 : Hid (Below w.heap.size w w2) := HB1.out.trans (hb2.mono HB1.out.size)
 have HK2 : Hid (ok2 = true ↔ OkRows hs st) := by show _ ↔ _; rw [← ok_iff HNH.out]; exact hk2
 clear z0 z1 z2 z3 z4 z5 z6 z7 L1 hb2 hk2
 obtain ⟨z0, z1, z2, z3, z4, z5, z6, z7⟩ := eight_of BX2.out
 have L1 : w.heap.size < w2.heap.size := BX2.out.lt
 rcases ok2 with _ | _
 · have HNO : Hid (¬ G) := fun hg => by have := HK2.out.2 (HG.out.1 hg).first; cases this
   go_wp2
   go_ret
   exact ⟨false, ⟨rfl, by simp [HNO.out]⟩, HB2.out⟩
 go_wp2_with fail
 refine (specCalls_any (.slice wa nw wc) (.slice da nd dc) (.slice ha nh hc) (.int .i64 st) ta nt tc hnt tm ca nc cc f oa no oc os _ (H4.out.below HB2.out (Nat.le_refl _)) (H5.out.below HB2.out (Nat.le_refl _))).mono ?_
 rintro e w3 ⟨ok3, ⟨rfl, hk3⟩, hb3⟩
 have BX3 : Hid (Box w3 w.heap.size #[.slice wa nw wc, .slice da nd dc, .slice ta nt tc, .int .i64 tm, .slice ca nc cc, .slice oa no oc, .slice ha nh hc, .int .i64 st] 44) := BX2.out.below hb3 BX2.out.lt
 have HB3 : Hid (Below w.heap.size w w3) := HB2.out.trans (hb3.mono HB2.out.size)
 have HK3 : Hid (ok3 = true ↔ CallsGood f nc os no nt tm) := hk3
 clear z0 z1 z2 z3 z4 z5 z6 z7 L1 hb3 hk3
 obtain ⟨z0, z1, z2, z3, z4, z5, z6, z7⟩ := eight_of BX3.out
 have L1 : w.heap.size < w3.heap.size := BX3.out.lt
 rcases ok3 with _ | _
 · have HNO : Hid (¬ G) := fun hg => by have := HK3.out.2 (HG.out.1 hg).calls; cases this
   go_wp2
   go_ret
   exact ⟨false, ⟨rfl, by simp [HNO.out]⟩, HB3.out⟩
 go_wp2
 go_loopw [3] (fun i wr => ∃ k : Nat, k ≤ nt ∧ i = .int .i64 (k : Int) ∧ (∀ j, j < k → ThGood (ts j) nt ∧ TaskSpec f nc (j : Int) (ts j)) ∧ Below w3.heap.size w3 wr) (fun i _ => nt - (intOf i).toNat)
 case atStart => exact ⟨0, Nat.zero_le _, rfl, (fun j h => by omega), Below.refl _ _⟩
 case round =>
   clear z0 z1 z2 z3 z4 z5 z6 z7 L1
   obtain ⟨k, hk, rfl, hall, hb⟩ := hrel
   have HALL : Hid (∀ j, j < k → ThGood (ts j) nt ∧ TaskSpec f nc (j : Int) (ts j)) := hall
   have HB : Hid (Below w3.heap.size w3 wr) := hb
   have HBW : Hid (Below w.heap.size w wr) := HB3.out.trans (hb.mono HB3.out.size)
   have BR : Hid (Box wr w.heap.size #[.slice wa nw wc, .slice da nd dc, .slice ta nt tc, .int .i64 tm, .slice ca nc cc, .slice oa no oc, .slice ha nh hc, .int .i64 st] 44) := BX3.out.below hb BX3.out.lt
   have L1 : w.heap.size < wr.heap.size := BR.out.lt
   obtain ⟨z0, z1, z2, z3, z4, z5, z6, z7⟩ := eight_of BR.out
   clear hall hb
   by_cases hlt : k < nt
   · have hk0 : (0 : Int) ≤ (k : Int) := by omega
     have hk1 : (k : Int) < (nt : Int) := by omega
     rcases (H3.out.below HBW.out (Nat.le_refl _)).2 with h0 | ⟨p1, o1, rfl, g1⟩
     · omega
     obtain ⟨a0, c0, a1, c1, a2, c2, hTC, hTL, _⟩ := g1 k hlt
     obtain ⟨X, hX⟩ : ∃ X, ts k = X := ⟨_, rfl⟩
     have HX : Hid (ts k = X) := hX
     rw [hX] at hTC hTL
     obtain ⟨n0, fs, pc, on, n1, gs, n2, hs2⟩ := X
     obtain ⟨e0, e1, e2, e3, e4⟩ := hTC
     dsimp only at e0 e1 e2 e3 e4
     have HTL : Hid (ThL wr a0 a1 a2 ⟨n0, fs, pc, on, n1, gs, n2, hs2⟩) := hTL
     have q1 : p1 < wr.heap.size := World.block_lt_of_cell? wr _ e0
     clear g1 hX hTL
     by_cases hth : ThGood ⟨n0, fs, pc, on, n1, gs, n2, hs2⟩ nt
     case neg =>
       have HTH : Hid (¬ ThGood ⟨n0, fs, pc, on, n1, gs, n2, hs2⟩ nt) := hth
       have HNO : Hid (¬ G) := fun hg => hth (by have := ((HG.out.1 hg).ths k hlt).1; dsimp only at this; rw [HX.out] at this; exact this)
       clear hth
       go_wp2_with fail
       refine wp_region_held_drew (S := fun w' => w'.cell? ⟨w.heap.size, 0, none⟩ = some (.slice wa nw wc) ∧ w'.cell? ⟨w.heap.size, 1, none⟩ = some (.slice da nd dc) ∧ w'.cell? ⟨w.heap.size, 2, none⟩ = some (.slice (some ⟨p1, o1, none⟩) nt tc) ∧ w'.cell? ⟨w.heap.size, 3, none⟩ = some (.int .i64 tm) ∧ w'.cell? ⟨w.heap.size, 4, none⟩ = some (.slice ca nc cc) ∧ w'.cell? ⟨w.heap.size, 5, none⟩ = some (.slice oa no oc) ∧ w'.cell? ⟨w.heap.size, 6, none⟩ = some (.slice ha nh hc) ∧ w'.cell? ⟨w.heap.size, 7, none⟩ = some (.int .i64 st) ∧ w'.cell? ⟨p1, o1 + k * 5, none⟩ = some (.slice a0 n0 c0) ∧ w'.cell? ⟨p1, o1 + k * 5 + 1, none⟩ = some (.int .i64 pc) ∧ w'.cell? ⟨p1, o1 + k * 5 + 2, none⟩ = some (.bool on) ∧ w'.cell? ⟨p1, o1 + k * 5 + 3, none⟩ = some (.slice a1 n1 c1) ∧ w'.cell? ⟨p1, o1 + k * 5 + 4, none⟩ = some (.slice a2 n2 c2)) (by kernel_rfl) ⟨z0, z1, z2, z3, z4, z5, z6, z7, e0, e1, e2, e3, e4⟩ (fun hHeld => ?_)
       refine takeH 0 (.pointer (some ⟨w.heap.size, 2, none⟩)) ?_ hHeld ?_
       · intro w' hSw; obtain ⟨s0, s1, s2, s3, s4, s5, s6, s7, s8, s9, s10, s11, s12⟩ := hSw; go_simp
       simp only [Act.put, List.setIfInBounds_toArray, List.set_cons_zero, List.set_cons_succ]
       refine takeH 1 (.slice (some ⟨p1, o1, none⟩) nt tc) ?_ hHeld ?_
       · intro w' hSw; obtain ⟨s0, s1, s2, s3, s4, s5, s6, s7, s8, s9, s10, s11, s12⟩ := hSw; go_simp
       simp only [Act.put, List.setIfInBounds_toArray, List.set_cons_zero, List.set_cons_succ]
       refine takeH 2 (.int .i64 (k : Int)) ?_ hHeld ?_
       · intro w' hSw; obtain ⟨s0, s1, s2, s3, s4, s5, s6, s7, s8, s9, s10, s11, s12⟩ := hSw; go_simp
       simp only [Act.put, List.setIfInBounds_toArray, List.set_cons_zero, List.set_cons_succ]
       refine takeH 3 (.pointer (some ⟨p1, o1 + k * 5, none⟩)) ?_ hHeld ?_
       · intro w' hSw; obtain ⟨s0, s1, s2, s3, s4, s5, s6, s7, s8, s9, s10, s11, s12⟩ := hSw; go_simp
       simp only [Act.put, List.setIfInBounds_toArray, List.set_cons_zero, List.set_cons_succ]
       refine takeH 4 (.agg #[.slice a0 n0 c0, .int .i64 pc, .bool on, .slice a1 n1 c1, .slice a2 n2 c2]) ?_ hHeld ?_
       · intro w' hSw; obtain ⟨s0, s1, s2, s3, s4, s5, s6, s7, s8, s9, s10, s11, s12⟩ := hSw; go_simp
       simp only [Act.put, List.setIfInBounds_toArray, List.set_cons_zero, List.set_cons_succ]
       refine takeH 5 (.pointer (some ⟨w.heap.size, 2, none⟩)) ?_ hHeld ?_
       · intro w' hSw; obtain ⟨s0, s1, s2, s3, s4, s5, s6, s7, s8, s9, s10, s11, s12⟩ := hSw; go_simp
       simp only [Act.put, List.setIfInBounds_toArray, List.set_cons_zero, List.set_cons_succ]
       refine takeH 6 (.slice (some ⟨p1, o1, none⟩) nt tc) ?_ hHeld ?_
       · intro w' hSw; obtain ⟨s0, s1, s2, s3, s4, s5, s6, s7, s8, s9, s10, s11, s12⟩ := hSw; go_simp
       simp only [Act.put, List.setIfInBounds_toArray, List.set_cons_zero, List.set_cons_succ]
       refine takeH 7 (.int .i64 (nt : Int)) ?_ hHeld ?_
       · intro w' hSw; obtain ⟨s0, s1, s2, s3, s4, s5, s6, s7, s8, s9, s10, s11, s12⟩ := hSw; go_simp
       simp only [Act.put, List.setIfInBounds_toArray, List.set_cons_zero, List.set_cons_succ]
       refine wpAnyH_ready (rs := [8]) (by kernel_rfl) (by simp) ?_
       refine AllReadyH.cons (o := _) (by rw [List.getElem?_toArray]; exact rfl) (fun K hK => ?_) AllReadyH.nil
       rw [if_pos (by kernel_rfl)]
       go_simp
       refine (specThreadOk_any a0 c0 a1 c1 a2 c2 ⟨n0, fs, pc, on, n1, gs, n2, hs2⟩ nt hnt _ (HTL.out.below (Below.refl wr.heap.size wr).drew (Nat.le_refl _))).mono ?_
       rintro e w4 ⟨ok4, ⟨rfl, hk4⟩, hb4⟩
       have hb4' : Below wr.heap.size wr w4 := (Below.refl _ wr).drew.trans hb4
       have HB4 : Hid (Below w.heap.size w w4) := HBW.out.trans (hb4'.mono HBW.out.size)
       obtain rfl : ok4 = false := by
         cases ok4
         · rfl
         · exact absurd (hk4.1 rfl) HTH.out
       refine hK.out _ _ ?_ (fun hHeld => ?_)
       · exact ⟨(hb4'.cell (show w.heap.size < _ from L1)).trans z0, (hb4'.cell (show w.heap.size < _ from L1)).trans z1, (hb4'.cell (show w.heap.size < _ from L1)).trans z2, (hb4'.cell (show w.heap.size < _ from L1)).trans z3, (hb4'.cell (show w.heap.size < _ from L1)).trans z4, (hb4'.cell (show w.heap.size < _ from L1)).trans z5, (hb4'.cell (show w.heap.size < _ from L1)).trans z6, (hb4'.cell (show w.heap.size < _ from L1)).trans z7, (hb4'.cell (show p1 < _ from q1)).trans e0, (hb4'.cell (show p1 < _ from q1)).trans e1, (hb4'.cell (show p1 < _ from q1)).trans e2, (hb4'.cell (show p1 < _ from q1)).trans e3, (hb4'.cell (show p1 < _ from q1)).trans e4⟩
       clear hK K hb4 hb4' hk4
       refine takeH 9 (.bool true) ?_ hHeld ?_
       · intro w' hSw; obtain ⟨s0, s1, s2, s3, s4, s5, s6, s7, s8, s9, s10, s11, s12⟩ := hSw; go_simp
       simp only [Act.put, List.setIfInBounds_toArray, List.set_cons_zero, List.set_cons_succ]
       refine takeH 10 (.bool true) ?_ hHeld ?_
       · intro w' hSw; obtain ⟨s0, s1, s2, s3, s4, s5, s6, s7, s8, s9, s10, s11, s12⟩ := hSw; go_simp
       simp only [Act.put, List.setIfInBounds_toArray, List.set_cons_zero, List.set_cons_succ]
       refine skipH 11 hHeld ?_
       simp only [Act.put, List.setIfInBounds_toArray, List.set_cons_zero, List.set_cons_succ]
       refine skipH 12 hHeld ?_
       simp only [Act.put, List.setIfInBounds_toArray, List.set_cons_zero, List.set_cons_succ]
       refine skipH 13 hHeld ?_
       simp only [Act.put, List.setIfInBounds_toArray, List.set_cons_zero, List.set_cons_succ]
       refine skipH 14 hHeld ?_
       simp only [Act.put, List.setIfInBounds_toArray, List.set_cons_zero, List.set_cons_succ]
       refine takeH 15 (.bool true) ?_ hHeld ?_
       · intro w' hSw; obtain ⟨s0, s1, s2, s3, s4, s5, s6, s7, s8, s9, s10, s11, s12⟩ := hSw; go_simp
       simp only [Act.put, List.setIfInBounds_toArray, List.set_cons_zero, List.set_cons_succ]
       refine wpAnyH_done (by kernel_rfl) ?_ _
       go_wp2
       go_ret
       exact ⟨false, ⟨rfl, by simp [HNO.out]⟩, HB4.out⟩
     have HTH : Hid (ThGood ⟨n0, fs, pc, on, n1, gs, n2, hs2⟩ nt) := hth
     have HPC : Hid ((ts k).on = true → 0 ≤ (ts k).pc ∧ (ts k).pc < (ts k).n0) := by
       show _ → _
       rw [HX.out]
       exact fun h => ⟨hth.pc.1, hth.on h⟩
     clear hth
     by_cases htk : TaskSpec f nc (k : Int) (ts k)
     · have HTK : Hid (TaskSpec f nc (k : Int) (ts k)) := htk
       have HTT : Hid (ThGood (ts k) nt ∧ TaskSpec f nc (k : Int) (ts k)) := ⟨by rw [HX.out]; exact HTH.out, htk⟩
       clear htk
       go_wp2_with fail
       have KF : ∀ y, Below wr.heap.size wr y → Hid (y.cell? ⟨w.heap.size, 0, none⟩ = some (.slice wa nw wc) ∧ y.cell? ⟨w.heap.size, 1, none⟩ = some (.slice da nd dc) ∧ y.cell? ⟨w.heap.size, 2, none⟩ = some (.slice (some ⟨p1, o1, none⟩) nt tc) ∧ y.cell? ⟨w.heap.size, 3, none⟩ = some (.int .i64 tm) ∧ y.cell? ⟨w.heap.size, 4, none⟩ = some (.slice ca nc cc) ∧ y.cell? ⟨w.heap.size, 5, none⟩ = some (.slice oa no oc) ∧ y.cell? ⟨w.heap.size, 6, none⟩ = some (.slice ha nh hc) ∧ y.cell? ⟨w.heap.size, 7, none⟩ = some (.int .i64 st) ∧ y.cell? ⟨p1, o1 + k * 5, none⟩ = some (.slice a0 n0 c0) ∧ y.cell? ⟨p1, o1 + k * 5 + 1, none⟩ = some (.int .i64 pc) ∧ y.cell? ⟨p1, o1 + k * 5 + 2, none⟩ = some (.bool on) ∧ y.cell? ⟨p1, o1 + k * 5 + 3, none⟩ = some (.slice a1 n1 c1) ∧ y.cell? ⟨p1, o1 + k * 5 + 4, none⟩ = some (.slice a2 n2 c2)) := fun y hb => ⟨(hb.cell (show w.heap.size < _ from L1)).trans z0, (hb.cell (show w.heap.size < _ from L1)).trans z1, (hb.cell (show w.heap.size < _ from L1)).trans z2, (hb.cell (show w.heap.size < _ from L1)).trans z3, (hb.cell (show w.heap.size < _ from L1)).trans z4, (hb.cell (show w.heap.size < _ from L1)).trans z5, (hb.cell (show w.heap.size < _ from L1)).trans z6, (hb.cell (show w.heap.size < _ from L1)).trans z7, (hb.cell (show p1 < _ from q1)).trans e0, (hb.cell (show p1 < _ from q1)).trans e1, (hb.cell (show p1 < _ from q1)).trans e2, (hb.cell (show p1 < _ from q1)).trans e3, (hb.cell (show p1 < _ from q1)).trans e4⟩
       go_region_held3 (fun w' => w'.cell? ⟨w.heap.size, 0, none⟩ = some (.slice wa nw wc) ∧ w'.cell? ⟨w.heap.size, 1, none⟩ = some (.slice da nd dc) ∧ w'.cell? ⟨w.heap.size, 2, none⟩ = some (.slice (some ⟨p1, o1, none⟩) nt tc) ∧ w'.cell? ⟨w.heap.size, 3, none⟩ = some (.int .i64 tm) ∧ w'.cell? ⟨w.heap.size, 4, none⟩ = some (.slice ca nc cc) ∧ w'.cell? ⟨w.heap.size, 5, none⟩ = some (.slice oa no oc) ∧ w'.cell? ⟨w.heap.size, 6, none⟩ = some (.slice ha nh hc) ∧ w'.cell? ⟨w.heap.size, 7, none⟩ = some (.int .i64 st) ∧ w'.cell? ⟨p1, o1 + k * 5, none⟩ = some (.slice a0 n0 c0) ∧ w'.cell? ⟨p1, o1 + k * 5 + 1, none⟩ = some (.int .i64 pc) ∧ w'.cell? ⟨p1, o1 + k * 5 + 2, none⟩ = some (.bool on) ∧ w'.cell? ⟨p1, o1 + k * 5 + 3, none⟩ = some (.slice a1 n1 c1) ∧ w'.cell? ⟨p1, o1 + k * 5 + 4, none⟩ = some (.slice a2 n2 c2))
         (first | (with_reducible exact K3.out) | (with_reducible exact K2.out) | go_keep)
         (first
         | (go_at_call 65
            refine (specThreadOk_any a0 c0 a1 c1 a2 c2 ⟨n0, fs, pc, on, n1, gs, n2, hs2⟩ nt hnt _ (HTL.out.below (Below.refl wr.heap.size wr).drew (Nat.le_refl _))).mono ?_
            rintro e w4 ⟨ok4, ⟨rfl, hk4⟩, hb4⟩
            have hb4' : Below wr.heap.size wr w4 := (Below.refl _ wr).drew.trans hb4
            have K2 := KF w4 hb4'
            have HB4 : Hid (Below w.heap.size w w4) := HBW.out.trans (hb4'.mono HBW.out.size)
            have HB4' : Hid (Below wr.heap.size wr w4) := hb4'
            obtain rfl : ok4 = true := hk4.2 HTH.out
            clear hb4 hb4' hk4)
         | (go_at_call 66
            refine (specTask_any (.slice wa nw wc) (.slice da nd dc) (.int .i64 tm) (.slice oa no oc) (.slice ha nh hc) (.int .i64 st) (some ⟨p1, o1, none⟩) nt tc ts ca nc cc f k hlt _ (H3.out.below HB4.out (Nat.le_refl _)) (H4.out.below HB4.out (Nat.le_refl _)) HPC.out).mono ?_
            rintro e w5 ⟨ok5, ⟨rfl, hk5⟩, hb5⟩
            have hb5' : Below wr.heap.size wr w5 := HB4'.out.trans (hb5.mono HB4'.out.size)
            have K3 := KF w5 hb5'
            have HB5 : Hid (Below w.heap.size w w5) := HBW.out.trans (hb5'.mono HBW.out.size)
            have HB5' : Hid (Below w3.heap.size w3 w5) := HB.out.trans (hb5'.mono HB.out.size)
            obtain rfl : ok5 = true := by
              exact hk5.2 HTK.out
            clear hb5 hb5' hk5))
       go_wp2
       exact ⟨⟨k + 1, by omega, by go_num, all_next HALL.out HTT.out, HB5'.out⟩, by simp [intOf]; omega⟩
     · have HTK : Hid (¬ TaskSpec f nc (k : Int) (ts k)) := htk
       have HNO : Hid (¬ G) := fun hg => htk ((HG.out.1 hg).ths k hlt).2
       clear htk
       go_wp2_with fail
       have KF : ∀ y, Below wr.heap.size wr y → Hid (y.cell? ⟨w.heap.size, 0, none⟩ = some (.slice wa nw wc) ∧ y.cell? ⟨w.heap.size, 1, none⟩ = some (.slice da nd dc) ∧ y.cell? ⟨w.heap.size, 2, none⟩ = some (.slice (some ⟨p1, o1, none⟩) nt tc) ∧ y.cell? ⟨w.heap.size, 3, none⟩ = some (.int .i64 tm) ∧ y.cell? ⟨w.heap.size, 4, none⟩ = some (.slice ca nc cc) ∧ y.cell? ⟨w.heap.size, 5, none⟩ = some (.slice oa no oc) ∧ y.cell? ⟨w.heap.size, 6, none⟩ = some (.slice ha nh hc) ∧ y.cell? ⟨w.heap.size, 7, none⟩ = some (.int .i64 st) ∧ y.cell? ⟨p1, o1 + k * 5, none⟩ = some (.slice a0 n0 c0) ∧ y.cell? ⟨p1, o1 + k * 5 + 1, none⟩ = some (.int .i64 pc) ∧ y.cell? ⟨p1, o1 + k * 5 + 2, none⟩ = some (.bool on) ∧ y.cell? ⟨p1, o1 + k * 5 + 3, none⟩ = some (.slice a1 n1 c1) ∧ y.cell? ⟨p1, o1 + k * 5 + 4, none⟩ = some (.slice a2 n2 c2)) := fun y hb => ⟨(hb.cell (show w.heap.size < _ from L1)).trans z0, (hb.cell (show w.heap.size < _ from L1)).trans z1, (hb.cell (show w.heap.size < _ from L1)).trans z2, (hb.cell (show w.heap.size < _ from L1)).trans z3, (hb.cell (show w.heap.size < _ from L1)).trans z4, (hb.cell (show w.heap.size < _ from L1)).trans z5, (hb.cell (show w.heap.size < _ from L1)).trans z6, (hb.cell (show w.heap.size < _ from L1)).trans z7, (hb.cell (show p1 < _ from q1)).trans e0, (hb.cell (show p1 < _ from q1)).trans e1, (hb.cell (show p1 < _ from q1)).trans e2, (hb.cell (show p1 < _ from q1)).trans e3, (hb.cell (show p1 < _ from q1)).trans e4⟩
       go_region_held3 (fun w' => w'.cell? ⟨w.heap.size, 0, none⟩ = some (.slice wa nw wc) ∧ w'.cell? ⟨w.heap.size, 1, none⟩ = some (.slice da nd dc) ∧ w'.cell? ⟨w.heap.size, 2, none⟩ = some (.slice (some ⟨p1, o1, none⟩) nt tc) ∧ w'.cell? ⟨w.heap.size, 3, none⟩ = some (.int .i64 tm) ∧ w'.cell? ⟨w.heap.size, 4, none⟩ = some (.slice ca nc cc) ∧ w'.cell? ⟨w.heap.size, 5, none⟩ = some (.slice oa no oc) ∧ w'.cell? ⟨w.heap.size, 6, none⟩ = some (.slice ha nh hc) ∧ w'.cell? ⟨w.heap.size, 7, none⟩ = some (.int .i64 st) ∧ w'.cell? ⟨p1, o1 + k * 5, none⟩ = some (.slice a0 n0 c0) ∧ w'.cell? ⟨p1, o1 + k * 5 + 1, none⟩ = some (.int .i64 pc) ∧ w'.cell? ⟨p1, o1 + k * 5 + 2, none⟩ = some (.bool on) ∧ w'.cell? ⟨p1, o1 + k * 5 + 3, none⟩ = some (.slice a1 n1 c1) ∧ w'.cell? ⟨p1, o1 + k * 5 + 4, none⟩ = some (.slice a2 n2 c2))
         (first | (with_reducible exact K3.out) | (with_reducible exact K2.out) | go_keep)
         (first
         | (go_at_call 65
            refine (specThreadOk_any a0 c0 a1 c1 a2 c2 ⟨n0, fs, pc, on, n1, gs, n2, hs2⟩ nt hnt _ (HTL.out.below (Below.refl wr.heap.size wr).drew (Nat.le_refl _))).mono ?_
            rintro e w4 ⟨ok4, ⟨rfl, hk4⟩, hb4⟩
            have hb4' : Below wr.heap.size wr w4 := (Below.refl _ wr).drew.trans hb4
            have K2 := KF w4 hb4'
            have HB4 : Hid (Below w.heap.size w w4) := HBW.out.trans (hb4'.mono HBW.out.size)
            have HB4' : Hid (Below wr.heap.size wr w4) := hb4'
            obtain rfl : ok4 = true := hk4.2 HTH.out
            clear hb4 hb4' hk4)
         | (go_at_call 66
            refine (specTask_any (.slice wa nw wc) (.slice da nd dc) (.int .i64 tm) (.slice oa no oc) (.slice ha nh hc) (.int .i64 st) (some ⟨p1, o1, none⟩) nt tc ts ca nc cc f k hlt _ (H3.out.below HB4.out (Nat.le_refl _)) (H4.out.below HB4.out (Nat.le_refl _)) HPC.out).mono ?_
            rintro e w5 ⟨ok5, ⟨rfl, hk5⟩, hb5⟩
            have hb5' : Below wr.heap.size wr w5 := HB4'.out.trans (hb5.mono HB4'.out.size)
            have K3 := KF w5 hb5'
            have HB5 : Hid (Below w.heap.size w w5) := HBW.out.trans (hb5'.mono HBW.out.size)
            have HB5' : Hid (Below w3.heap.size w3 w5) := HB.out.trans (hb5'.mono HB.out.size)
            obtain rfl : ok5 = false := by
              cases ok5
              · rfl
              · exact absurd (hk5.1 rfl) HTK.out
            clear hb5 hb5' hk5))
       go_wp2
       go_ret
       exact ⟨false, ⟨rfl, by simp [HNO.out]⟩, HB5.out⟩
   · obtain rfl : nt = k := by omega
     have HYES : Hid G := HG.out.2 ⟨HK1.out.1 (by first | rfl | trivial), HMN.out, HI.out, HK2.out.1 (by first | rfl | trivial), HK3.out.1 (by first | rfl | trivial), HALL.out⟩
     go_wp2
     go_ret
     exact ⟨true, ⟨rfl, by simp [HYES.out]⟩, HBW.out⟩
end
end Go.Proofs.YtlkdjeneggfhgaaGreatDoor
