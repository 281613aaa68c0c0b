/- Texts joined: ImplCa, DescM, Ent1, Ents, ResV, Ints, ResL. -/
import Derived.Test.YtbfolanfbagofaaGreatDoorQA06
import Derived.Deep.Slices
import Derived.Test.YtbfolanfbagofaaGreatDoorQA01
import Derived.Deep.RegionHeld3
import Derived.Test.YtbfolanfbagofaaGreatDoorRows
import Derived.WalkKit
import Derived.ProofKit
import Derived.WalkSmall
import Derived.OpenShut
import Derived.Handy
import Derived.ChangeOld
import Derived.Lib.SmallJoins
set_option maxHeartbeats 8000000
set_option maxRecDepth 100000
namespace Go.Proofs.YtbfolanfbagofaaGreatDoor
section
open Go.ChangeShapes Go.WideShapes Go.ChangeAt Go.RowKit
theorem enters_ended : Enters 99 := by
 intro args w
 have hf := Tryz.func99
 go_simp
theorem enters_calls : Enters 157 := by
 intro args w
 have hf := Tryz.func157
 go_simp
theorem enters_threads : Enters 154 := by
 intro args w
 have hf := Tryz.func154
 go_simp
theorem CasAt.lie {w : World} {a : Option Addr} {n : Nat} {f : Nat → CaD} (h : CasAt w a n f) : ∃ V : Nat → Value, (∀ j, ∃ ra rn rc, V j = .slice ra rn rc) ∧ LieCall w a n (fun j => I (f j).t) (fun j => I (f j).kd) (fun j => I (f j).k) (fun j => I (f j).v) (fun j => I (f j).st) (fun j => I (f j).ln) (fun j => I (f j).en) (fun j => I (f j).cd) V := by
 rcases h.2 with h0 | ⟨b, o, h1, h2⟩
 · exact ⟨fun _ => .slice none 0 0, fun _ => ⟨_, _, _, rfl⟩, .inl h0⟩
 · obtain ⟨z, hz⟩ : ∃ z : Nat → Option Addr × Nat × Nat, ∀ i, i < n → CaC w b (o + i * 9) (f i) (.slice (z i).1 (z i).2.1 (z i).2.2) :=
     Go.Deep.choose_lt (p := fun i (z : Option Addr × Nat × Nat) => CaC w b (o + i * 9) (f i) (.slice z.1 z.2.1 z.2.2)) (fun i hi => let ⟨ra, rn, rc, h⟩ := h2 i hi; ⟨(ra, rn, rc), h⟩)
   exact ⟨fun j => .slice (z j).1 (z j).2.1 (z j).2.2, fun _ => ⟨_, _, _, rfl⟩, .inr ⟨b, o, h1, fun j hj => hz j hj⟩⟩
theorem ThsAt.lie {w : World} {a : Option Addr} {n : Nat} {ts : Nat → ThD} (h : ThsAt w a n ts) : ∃ z : Nat → (Option Addr × Nat) × (Option Addr × Nat) × (Option Addr × Nat),
   LieThread w a n (fun j => .slice (z j).1.1 (ts j).n0 (z j).1.2) (fun j => I (ts j).pc) (fun j => .bool (ts j).on) (fun j => .slice (z j).2.1.1 (ts j).n1 (z j).2.1.2) (fun j => .slice (z j).2.2.1 (ts j).n2 (z j).2.2.2) ∧ ∀ j, j < n → ThL w (z j).1.1 (z j).2.1.1 (z j).2.2.1 (ts j) := by
 rcases h.2 with h0 | ⟨b, o, h1, h2⟩
 · exact ⟨fun _ => ((none, 0), (none, 0), (none, 0)), .inl h0, fun j hj => by omega⟩
 · obtain ⟨z, hz⟩ : ∃ z : Nat → (Option Addr × Nat) × (Option Addr × Nat) × (Option Addr × Nat), ∀ i, i < n → ThC w b (o + i * 5) (ts i) (z i).1.1 (z i).1.2 (z i).2.1.1 (z i).2.1.2 (z i).2.2.1 (z i).2.2.2 ∧ ThL w (z i).1.1 (z i).2.1.1 (z i).2.2.1 (ts i) :=
     Go.Deep.choose_lt (p := fun i (z : (Option Addr × Nat) × (Option Addr × Nat) × (Option Addr × Nat)) => ThC w b (o + i * 5) (ts i) z.1.1 z.1.2 z.2.1.1 z.2.1.2 z.2.2.1 z.2.2.2 ∧ ThL w z.1.1 z.2.1.1 z.2.2.1 (ts i)) (fun i hi => let ⟨a0, c0, a1, c1, a2, c2, h3, h4, _⟩ := h2 i hi; ⟨((a0, c0), (a1, c1), (a2, c2)), h3, h4⟩)
   exact ⟨z, .inr ⟨b, o, h1, fun j hj => (hz j hj).1⟩, fun j hj => (hz j hj).2⟩
theorem impl_ended (c : CaD) (v : Value) (w : World) : Calls Tryz.prog 99 #[CaV c v] w fun e w' => e = .returned (.bool (decide (0 ≤ c.en))) ∧ Below w.heap.size w w' := by
 obtain ⟨t, kd, k, vv, st, ln, en, cd⟩ := c
 have HB : Hid (Below w.heap.size w (w.alloc (.cells #[.int .i64 t, .int .i64 kd, .int .i64 k, .int .i64 vv, .int .i64 st, .int .i64 ln, .int .i64 en, .int .i64 cd, v] 84))) := (Below.refl _ w).alloc (Nat.le_refl _) _
 by_cases h : 0 ≤ en
 · have h' : decide (0 ≤ en) = true := decide_eq_true h
   show Calls Tryz.prog 99 #[.agg #[.int .i64 t, .int .i64 kd, .int .i64 k, .int .i64 vv, .int .i64 st, .int .i64 ln, .int .i64 en, .int .i64 cd, v]] w fun e w' => e = .returned (.bool (decide (0 ≤ en))) ∧ Below w.heap.size w w'
   rw [h']
   go_enter Tryz.func99, Tryz.ntmps99
   go_wp2
   go_ret
   exact ⟨rfl, HB.out⟩
 · have h' : decide (0 ≤ en) = false := decide_eq_false h
   show Calls Tryz.prog 99 #[.agg #[.int .i64 t, .int .i64 kd, .int .i64 k, .int .i64 vv, .int .i64 st, .int .i64 ln, .int .i64 en, .int .i64 cd, v]] w fun e w' => e = .returned (.bool (decide (0 ≤ en))) ∧ Below w.heap.size w w'
   rw [h']
   go_enter Tryz.func99, Tryz.ntmps99
   go_wp2
   go_ret
   exact ⟨rfl, HB.out⟩
theorem impl_wasSo (c : CaD) (v : Value) (w : World) : Calls Tryz.prog 159 #[CaV c v] w fun e w' => e = .returned (.bool (decide (0 ≤ c.ln))) ∧ Below w.heap.size w w' := by
 obtain ⟨t, kd, k, vv, st, ln, en, cd⟩ := c
 have HB : Hid (Below w.heap.size w (w.alloc (.cells #[.int .i64 t, .int .i64 kd, .int .i64 k, .int .i64 vv, .int .i64 st, .int .i64 ln, .int .i64 en, .int .i64 cd, v] 84))) := (Below.refl _ w).alloc (Nat.le_refl _) _
 by_cases h : 0 ≤ ln
 · have h' : decide (0 ≤ ln) = true := decide_eq_true h
   show Calls Tryz.prog 159 #[.agg #[.int .i64 t, .int .i64 kd, .int .i64 k, .int .i64 vv, .int .i64 st, .int .i64 ln, .int .i64 en, .int .i64 cd, v]] w fun e w' => e = .returned (.bool (decide (0 ≤ ln))) ∧ Below w.heap.size w w'
   rw [h']
   go_enter Tryz.func159, Tryz.ntmps159
   go_wp2
   go_ret
   exact ⟨rfl, HB.out⟩
 · have h' : decide (0 ≤ ln) = false := decide_eq_false h
   show Calls Tryz.prog 159 #[.agg #[.int .i64 t, .int .i64 kd, .int .i64 k, .int .i64 vv, .int .i64 st, .int .i64 ln, .int .i64 en, .int .i64 cd, v]] w fun e w' => e = .returned (.bool (decide (0 ≤ ln))) ∧ Below w.heap.size w w'
   rw [h']
   go_enter Tryz.func159, Tryz.ntmps159
   go_wp2
   go_ret
   exact ⟨rfl, HB.out⟩
theorem impl_moment (c : CaD) (v : Value) (x tm : Int) (w : World) : Calls Tryz.prog 158 #[CaV c v, .int .i64 x, .int .i64 tm] w fun e w' => e = .returned (.bool (MomGood x c.st tm)) ∧ Below w.heap.size w w' := by
 obtain ⟨R, hR⟩ : ∃ R, MomGood x c.st tm = R := ⟨_, rfl⟩
 rw [hR]
 obtain ⟨t, kd, k, vv, st, ln, en, cd⟩ := c
 have HR : Hid ((x == -1 || inB x st tm) = R) := hR
 have HB : Hid (Below w.heap.size w (w.alloc (.cells #[.int .i64 t, .int .i64 kd, .int .i64 k, .int .i64 vv, .int .i64 st, .int .i64 ln, .int .i64 en, .int .i64 cd, v] 84))) := (Below.refl _ w).alloc (Nat.le_refl _) _
 show Calls Tryz.prog 158 #[.agg #[.int .i64 t, .int .i64 kd, .int .i64 k, .int .i64 vv, .int .i64 st, .int .i64 ln, .int .i64 en, .int .i64 cd, v], .int .i64 x, .int .i64 tm] w fun e w' => e = .returned (.bool R) ∧ Below w.heap.size w w'
 clear hR
 by_cases hx : x = -1
 · have hx' : (x == -1) = true := by simp [hx]
   have HF : Hid (true = R) := by show _ = _; rw [← HR.out, hx']; rfl
   clear HR hx
   go_enter Tryz.func158, Tryz.ntmps158
   go_wp2
   go_ret
   exact ⟨by rw [← HF.out]; rfl, HB.out⟩
 · have hx' : (x == -1) = false := by simp [hx]
   have HF : Hid (inB x st tm = R) := by show _ = _; rw [← HR.out, hx']; rfl
   clear HR hx
   go_enter Tryz.func158, Tryz.ntmps158
   go_wp2_with fail
   refine (within_g _ _ _ _).mono ?_
   rintro e w1 ⟨rfl, rfl⟩
   rw [HF.out]
   go_wp2
   go_ret
   exact ⟨rfl, HB.out⟩
theorem impl_call1 (g : Nat) (v0 v5 v6 v7 : Value) (da : Option Addr) (nd dc : Nat) (ta : Option Addr) (nt tc : Nat) (hn : nt ≤ 2097152) (tm : Int) (ca : Option Addr) (nc cc : Nat) (c : CaD) (v : Value) (w : World) (hg : Box w g #[v0, .slice da nd dc, .slice ta nt tc, .int .i64 tm, .slice ca nc cc, v5, v6, v7] 43) :
   Calls Tryz.prog 157 #[CaV c v, .pointer (some ⟨g, 0, none⟩)] w fun e w' => e = .returned (.bool (CaGood nt tm c)) ∧ Below w.heap.size w w' := by
 obtain ⟨R, hR⟩ : ∃ R, CaGood nt tm c = R := ⟨_, rfl⟩
 obtain ⟨t, kd, k, vv, st, ln, en, cd⟩ := c
 rw [hR]
 have HR : Hid ((inB t 0 ((nt : Int) - 1) && (decide (OpGood kd k vv) && (inB st 0 tm && (MomGood ln st tm && MomGood en st tm)))) = R) := hR
 show Calls Tryz.prog 157 #[.agg #[.int .i64 t, .int .i64 kd, .int .i64 k, .int .i64 vv, .int .i64 st, .int .i64 ln, .int .i64 en, .int .i64 cd, v], .pointer (some ⟨g, 0, none⟩)] w fun e w' => e = .returned (.bool R) ∧ Below w.heap.size w w'
 obtain ⟨W, hW⟩ : ∃ W, w.alloc (.cells #[.int .i64 t, .int .i64 kd, .int .i64 k, .int .i64 vv, .int .i64 st, .int .i64 ln, .int .i64 en, .int .i64 cd, v] 84) = W := ⟨_, rfl⟩
 have hb0 : Below w.heap.size w W := by rw [← hW]; exact (Below.refl _ w).alloc (Nat.le_refl _) _
 have BM : Hid (Box W g #[v0, .slice da nd dc, .slice ta nt tc, .int .i64 tm, .slice ca nc cc, v5, v6, v7] 43) := hg.below hb0 hg.lt
 have BC : Hid (Box W w.heap.size #[.int .i64 t, .int .i64 kd, .int .i64 k, .int .i64 vv, .int .i64 st, .int .i64 ln, .int .i64 en, .int .i64 cd, v] 84) := by rw [← hW]; exact box_of w _ _
 have HB0 : Hid (Below w.heap.size w W) := hb0
 have HW : Hid (w.alloc (.cells #[.int .i64 t, .int .i64 kd, .int .i64 k, .int .i64 vv, .int .i64 st, .int .i64 ln, .int .i64 en, .int .i64 cd, v] 84) = W) := hW
 obtain ⟨z0, z1, z2, z3, z4, z5, z6, z7⟩ := eight_of hg
 have L0 : g < w.heap.size := hg.lt
 clear hb0 hW hR hg
 go_enter Tryz.func157, Tryz.ntmps157
 go_wp2_with fail
 refine (within_g _ _ _ _).mono ?_
 rintro e w1 ⟨rfl, hw1⟩
 obtain rfl : W = w1 := by rw [hw1]; exact HW.out.symm
 clear hw1 z0 z1 z2 z3 z4 z5 z6 z7 L0
 obtain ⟨z0, z1, z2, z3, z4, z5, z6, z7⟩ := eight_of BM.out
 obtain ⟨y0, y1, y2, y3, y4, y5, y6, y7, y8⟩ := nine_of BC.out
 have L0 : g < W.heap.size := BM.out.lt
 have L1 : w.heap.size < W.heap.size := BC.out.lt
 rcases hI0 : inB t 0 ((nt : Int) - 1) with _ | _
 · have HF : Hid (false = R) := by show _ = _; rw [← HR.out, hI0]; rfl
   clear HR
   go_wp2
   go_ret
   exact ⟨by rw [← HF.out]; rfl, HB0.out⟩
 have HI0 : Hid (inB t 0 ((nt : Int) - 1) = true) := hI0
 clear hI0
 go_wp2_with fail
 refine (implOpOk_any kd k vv _).mono ?_
 rintro e w2 ⟨rfl, hb2⟩
 have HB2 : Hid (Below w.heap.size w w2) := HB0.out.trans (hb2.mono HB0.out.size)
 have BM2 : Hid (Box w2 g #[v0, .slice da nd dc, .slice ta nt tc, .int .i64 tm, .slice ca nc cc, v5, v6, v7] 43) := BM.out.below hb2 BM.out.lt
 have BC2 : Hid (Box w2 w.heap.size #[.int .i64 t, .int .i64 kd, .int .i64 k, .int .i64 vv, .int .i64 st, .int .i64 ln, .int .i64 en, .int .i64 cd, v] 84) := BC.out.below hb2 BC.out.lt
 clear z0 z1 z2 z3 z4 z5 z6 z7 y0 y1 y2 y3 y4 y5 y6 y7 y8 L0 L1 hb2
 obtain ⟨z0, z1, z2, z3, z4, z5, z6, z7⟩ := eight_of BM2.out
 obtain ⟨y0, y1, y2, y3, y4, y5, y6, y7, y8⟩ := nine_of BC2.out
 have L0 : g < w2.heap.size := BM2.out.lt
 have L1 : w.heap.size < w2.heap.size := BC2.out.lt
 by_cases hop : OpGood kd k vv
 case neg =>
   rw [show decide (OpGood kd k vv) = false from decide_eq_false hop]
   have HF : Hid (false = R) := by show _ = _; rw [← HR.out, HI0.out, decide_eq_false hop]; rfl
   clear HR hop
   go_wp2
   go_ret
   exact ⟨by rw [← HF.out]; rfl, HB2.out⟩
 rw [show decide (OpGood kd k vv) = true from decide_eq_true hop]
 have HR : Hid ((inB st 0 tm && (MomGood ln st tm && MomGood en st tm)) = R) := by show _ = _; rw [← HR.out, HI0.out, decide_eq_true hop]; rfl
 clear hop
 go_wp2_with fail
 refine (within_g _ _ _ _).mono ?_
 rintro e w1 ⟨rfl, rfl⟩
 rcases hI1 : inB st 0 tm with _ | _
 · have HF : Hid (false = R) := by show _ = _; rw [← HR.out, hI1]; rfl
   clear HR
   go_wp2
   go_ret
   exact ⟨by rw [← HF.out]; rfl, HB2.out⟩
 have HR : Hid ((MomGood ln st tm && MomGood en st tm) = R) := by show _ = _; rw [← HR.out, hI1]; rfl
 clear hI1
 go_wp2_with fail
 refine (impl_moment ⟨t, kd, k, vv, st, ln, en, cd⟩ v ln tm _).mono ?_
 rintro e w3 ⟨rfl, hb3⟩
 dsimp only
 have HB3 : Hid (Below w.heap.size w w3) := HB2.out.trans (hb3.mono HB2.out.size)
 have BM3 : Hid (Box w3 g #[v0, .slice da nd dc, .slice ta nt tc, .int .i64 tm, .slice ca nc cc, v5, v6, v7] 43) := BM2.out.below hb3 BM2.out.lt
 have BC3 : Hid (Box w3 w.heap.size #[.int .i64 t, .int .i64 kd, .int .i64 k, .int .i64 vv, .int .i64 st, .int .i64 ln, .int .i64 en, .int .i64 cd, v] 84) := BC2.out.below hb3 BC2.out.lt
 clear z0 z1 z2 z3 z4 z5 z6 z7 y0 y1 y2 y3 y4 y5 y6 y7 y8 L0 L1 hb3
 obtain ⟨z0, z1, z2, z3, z4, z5, z6, z7⟩ := eight_of BM3.out
 obtain ⟨y0, y1, y2, y3, y4, y5, y6, y7, y8⟩ := nine_of BC3.out
 have L0 : g < w3.heap.size := BM3.out.lt
 have L1 : w.heap.size < w3.heap.size := BC3.out.lt
 rcases hm : MomGood ln st tm with _ | _
 · have HF : Hid (false = R) := by show _ = _; rw [← HR.out, hm]; rfl
   clear HR
   go_wp2
   go_ret
   exact ⟨by rw [← HF.out]; rfl, HB3.out⟩
 have HF : Hid (MomGood en st tm = R) := by show _ = _; rw [← HR.out, hm]; rfl
 clear HR hm
 go_wp2_with fail
 refine (impl_moment ⟨t, kd, k, vv, st, ln, en, cd⟩ v en tm _).mono ?_
 rintro e w4 ⟨rfl, hb4⟩
 dsimp only
 have HB4 : Hid (Below w.heap.size w w4) := HB3.out.trans (hb4.mono HB3.out.size)
 rw [HF.out]
 clear hb4
 go_wp2
 go_ret
 exact ⟨rfl, HB4.out⟩
theorem impl_callsOk (v0 v5 v6 v7 : Value) (da : Option Addr) (nd dc : Nat) (ta : Option Addr) (nt tc : Nat) (hn : nt ≤ 2097152) (tm : Int) (ca : Option Addr) (nc cc : Nat) (f : Nat → CaD) (w : World) (h : CasAt w ca nc f) :
   Calls Tryz.prog 127 #[.agg #[v0, .slice da nd dc, .slice ta nt tc, .int .i64 tm, .slice ca nc cc, v5, v6, v7]] w fun e w' => ∃ ok, (e = .returned (.bool ok) ∧ (ok = true ↔ (nc ≤ 40 ∧ ∀ i, i < nc → CaGood nt tm (f i) = true))) ∧ Below w.heap.size w w' := by
 have hnc := h.1
 have H : Hid (CasAt w ca nc f) := h
 obtain ⟨G, hG⟩ : ∃ G : Prop, (nc ≤ 40 ∧ ∀ i, i < nc → CaGood nt tm (f i) = true) = G := ⟨_, rfl⟩
 have HG : Hid (G ↔ (nc ≤ 40 ∧ ∀ i, i < nc → CaGood nt tm (f i) = true)) := by show _ ↔ _; rw [hG]
 rw [hG]
 obtain ⟨W, hW⟩ : ∃ W, w.alloc (.cells #[v0, .slice da nd dc, .slice ta nt tc, .int .i64 tm, .slice ca nc cc, v5, v6, v7] 43) = W := ⟨_, rfl⟩
 have hb0 : Below w.heap.size w W := by rw [← hW]; exact (Below.refl _ w).alloc (Nat.le_refl _) _
 have BX : Hid (Box W w.heap.size #[v0, .slice da nd dc, .slice ta nt tc, .int .i64 tm, .slice ca nc cc, v5, v6, v7] 43) := by rw [← hW]; exact box_of w _ _
 have HB0 : Hid (Below w.heap.size w W) := hb0
 have HW : Hid (w.alloc (.cells #[v0, .slice da nd dc, .slice ta nt tc, .int .i64 tm, .slice ca nc cc, v5, v6, v7] 43) = W) := hW
 clear h hb0 hW hG
 by_cases h40 : (nc : Int) ≤ 40
 case neg =>
   have h4' : decide ((nc : Int) ≤ 40) = false := decide_eq_false h40
   have HNO : Hid (¬ G) := fun hg => by have := (HG.out.1 hg).1; omega
   clear h40
   go_enter Tryz.func127, Tryz.ntmps127
   go_wp2
   go_ret
   first | exact ⟨false, ⟨rfl, by simp [HNO.out]⟩, by rw [HW.out]; exact HB0.out⟩ | exact ⟨.inl ⟨rfl, HNO.out⟩, by rw [HW.out]; exact HB0.out⟩
 have h4' : decide ((nc : Int) ≤ 40) = true := decide_eq_true h40
 go_enter Tryz.func127, Tryz.ntmps127
 go_wp2_with fail
 rw [HW.out]
 obtain ⟨V, hV, hlie⟩ := (H.out.below HB0.out (Nat.le_refl _)).lie
 refine (allCall 157 #[.pointer (some ⟨w.heap.size, 0, none⟩)] ca nc cc _ _ _ _ _ _ _ _ _ (fun j => CaGood nt tm (f j)) W hnc hlie (fun j hj W' hW' => impl_call1 w.heap.size v0 v5 v6 v7 da nd dc ta nt tc hn tm ca nc cc (f j) (V j) W' (BX.out.below hW' BX.out.lt)) enters_calls).mono ?_
 rintro e w1 ⟨r, ⟨rfl, hr⟩, hb1⟩
 have HR : Hid (r = true ↔ G) := by show _ ↔ _; rw [HG.out, hr]; exact ⟨fun h => ⟨by omega, h⟩, fun h => h.2⟩
 have HB : Hid (Below w.heap.size w w1) := HB0.out.trans (hb1.mono HB0.out.size)
 clear hr hb1 hlie hV
 rcases r with _ | _
 · go_wp2
   go_ret
   exact ⟨false, ⟨rfl, HR.out⟩, HB.out⟩
 · go_wp2
   go_ret
   exact ⟨true, ⟨rfl, ⟨fun _ => HR.out.1 (by first | rfl | trivial), fun _ => rfl⟩⟩, HB.out⟩
theorem impl_thread1 (g : Nat) (v0 v3 v4 v5 v6 v7 : Value) (da : Option Addr) (nd dc : Nat) (ta : Option Addr) (nt tc : Nat) (hn : nt ≤ 2097152) (a0 : Option Addr) (c0 : Nat) (a1 : Option Addr) (c1 : Nat) (a2 : Option Addr) (c2 : Nat) (t : ThD) (w : World) (h : ThL w a0 a1 a2 t)
   (hg : Box w g #[v0, .slice da nd dc, .slice ta nt tc, v3, v4, v5, v6, v7] 43) :
   Calls Tryz.prog 154 #[ThV5 a0 c0 a1 c1 a2 c2 t, .pointer (some ⟨g, 0, none⟩)] w fun e w' => ∃ ok, (e = .returned (.bool ok) ∧ (ok = true ↔ ThGood t nt)) ∧ Below w.heap.size w w' := by
 have H : Hid (ThL w a0 a1 a2 t) := h
 obtain ⟨G, hG⟩ : ∃ G : Prop, ThGood t nt = G := ⟨_, rfl⟩
 have HG : Hid (ThGood t nt = G) := hG
 rw [hG]
 obtain ⟨n0, fs, pc, on, n1, gs, n2, hs⟩ := t
 obtain ⟨W, hW⟩ : ∃ W, w.alloc (.cells #[.slice a0 n0 c0, .int .i64 pc, .bool on, .slice a1 n1 c1, .slice a2 n2 c2] 92) = W := ⟨_, rfl⟩
 have hb0 : Below w.heap.size w W := by rw [← hW]; exact (Below.refl _ w).alloc (Nat.le_refl _) _
 have BM : Hid (Box W g #[v0, .slice da nd dc, .slice ta nt tc, v3, v4, v5, v6, v7] 43) := hg.below hb0 hg.lt
 have BT : Hid (Box W w.heap.size #[.slice a0 n0 c0, .int .i64 pc, .bool on, .slice a1 n1 c1, .slice a2 n2 c2] 92) := by rw [← hW]; exact box_of w _ _
 have HB0 : Hid (Below w.heap.size w W) := hb0
 have HW : Hid (w.alloc (.cells #[.slice a0 n0 c0, .int .i64 pc, .bool on, .slice a1 n1 c1, .slice a2 n2 c2] 92) = W) := hW
 show Calls Tryz.prog 154 #[.agg #[.slice a0 n0 c0, .int .i64 pc, .bool on, .slice a1 n1 c1, .slice a2 n2 c2], .pointer (some ⟨g, 0, none⟩)] w fun e w' => ∃ ok, (e = .returned (.bool ok) ∧ (ok = true ↔ G)) ∧ Below w.heap.size w w'
 obtain ⟨z0, z1, z2, z3, z4, z5, z6, z7⟩ := eight_of hg
 have L0 : g < w.heap.size := hg.lt
 clear hb0 hW hg h hG
 go_enter Tryz.func154, Tryz.ntmps154
 go_wp2_with fail
 rw [HW.out]
 refine (implThreadOk_any a0 c0 a1 c1 a2 c2 ⟨n0, fs, pc, on, n1, gs, n2, hs⟩ nt hn W (H.out.below HB0.out (Nat.le_refl _))).mono ?_
 rintro e w1 ⟨r, ⟨rfl, hr⟩, hb1⟩
 have HR : Hid (r = true ↔ G) := by show _ ↔ _; rw [← HG.out]; exact hr
 have HB : Hid (Below w.heap.size w w1) := HB0.out.trans (hb1.mono HB0.out.size)
 clear hr hb1
 rcases r with _ | _
 · go_wp2
   go_ret
   exact ⟨false, ⟨rfl, HR.out⟩, HB.out⟩
 · go_wp2
   go_ret
   exact ⟨true, ⟨rfl, ⟨fun _ => HR.out.1 (by first | rfl | trivial), fun _ => rfl⟩⟩, HB.out⟩
open Classical in
theorem impl_threadsOk (v0 v3 v4 v5 v6 v7 : Value) (da : Option Addr) (nd dc : Nat) (ta : Option Addr) (nt tc : Nat) (ts : Nat → ThD) (w : World) (h : ThsAt w ta nt ts) :
   Calls Tryz.prog 126 #[.agg #[v0, .slice da nd dc, .slice ta nt tc, v3, v4, v5, v6, v7]] w fun e w' => ∃ ok, (e = .returned (.bool ok) ∧ (ok = true ↔ (nd = nt ∧ ∀ i, i < nt → ThGood (ts i) nt))) ∧ Below w.heap.size w w' := by
 have hnt := h.1
 have H : Hid (ThsAt w ta nt ts) := h
 obtain ⟨G, hG⟩ : ∃ G : Prop, (nd = nt ∧ ∀ i, i < nt → ThGood (ts i) nt) = G := ⟨_, rfl⟩
 have HG : Hid (G ↔ (nd = nt ∧ ∀ i, i < nt → ThGood (ts i) nt)) := by show _ ↔ _; rw [hG]
 rw [hG]
 obtain ⟨W, hW⟩ : ∃ W, w.alloc (.cells #[v0, .slice da nd dc, .slice ta nt tc, v3, v4, v5, v6, v7] 43) = W := ⟨_, rfl⟩
 have hb0 : Below w.heap.size w W := by rw [← hW]; exact (Below.refl _ w).alloc (Nat.le_refl _) _
 have BX : Hid (Box W w.heap.size #[v0, .slice da nd dc, .slice ta nt tc, v3, v4, v5, v6, v7] 43) := by rw [← hW]; exact box_of w _ _
 have HB0 : Hid (Below w.heap.size w W) := hb0
 have HW : Hid (w.alloc (.cells #[v0, .slice da nd dc, .slice ta nt tc, v3, v4, v5, v6, v7] 43) = W) := hW
 clear h hb0 hW hG
 by_cases hnn : nd = nt
 case neg =>
   have hn' : ((nt : Int) == (nd : Int)) = false := by simp; omega
   have HNO : Hid (¬ G) := fun hg => hnn (HG.out.1 hg).1
   clear hnn
   go_enter Tryz.func126, Tryz.ntmps126
   go_wp2
   go_ret
   first | exact ⟨false, ⟨rfl, by simp [HNO.out]⟩, by rw [HW.out]; exact HB0.out⟩ | exact ⟨.inl ⟨rfl, HNO.out⟩, by rw [HW.out]; exact HB0.out⟩
 have hn' : ((nt : Int) == (nd : Int)) = true := by simp [hnn]
 have HNN : Hid (nd = nt) := hnn
 clear hnn
 go_enter Tryz.func126, Tryz.ntmps126
 go_wp2_with fail
 rw [HW.out]
 obtain ⟨z, hlie, hth⟩ := (H.out.below HB0.out (Nat.le_refl _)).lie
 refine (allThread 154 #[.pointer (some ⟨w.heap.size, 0, none⟩)] ta nt tc _ _ _ _ _ (fun j => decide (ThGood (ts j) nt)) W hnt hlie (fun j hj W' hW' => (impl_thread1 w.heap.size v0 v3 v4 v5 v6 v7 da nd dc ta nt tc hnt (z j).1.1 (z j).1.2 (z j).2.1.1 (z j).2.1.2 (z j).2.2.1 (z j).2.2.2 (ts j) W' ((hth j hj).below hW' (Nat.le_refl _)) (BX.out.below hW' BX.out.lt)).mono ?_) enters_threads).mono ?_
 · rintro e w' ⟨ok, ⟨rfl, hk⟩, hb⟩
   refine ⟨?_, hb⟩
   congr 2
   show ok = decide (ThGood (ts j) nt)
   by_cases hg : ThGood (ts j) nt
   · rw [decide_eq_true hg]; exact hk.2 hg
   · rw [decide_eq_false hg]
     cases ok
     · rfl
     · exact absurd (hk.1 rfl) hg
 rintro e w1 ⟨r, ⟨rfl, hr⟩, hb1⟩
 have HR : Hid (r = true ↔ G) := by show _ ↔ _; rw [HG.out, hr]; exact ⟨fun h => ⟨HNN.out, fun i hi => of_decide_eq_true (h i hi)⟩, fun h i hi => decide_eq_true (h.2 i hi)⟩
 have HB : Hid (Below w.heap.size w w1) := HB0.out.trans (hb1.mono HB0.out.size)
 clear hr hb1 hlie hth
 rcases r with _ | _
 · go_wp2
   go_ret
   exact ⟨false, ⟨rfl, HR.out⟩, HB.out⟩
 · go_wp2
   go_ret
   exact ⟨true, ⟨rfl, ⟨fun _ => HR.out.1 (by first | rfl | trivial), fun _ => rfl⟩⟩, HB.out⟩
end
def entOk (es : List Int) (i : Nat) : Prop :=
 (0 ≤ es.getD (i * 3) 0 ∧ es.getD (i * 3) 0 ≤ 19) ∧ (0 ≤ es.getD (i * 3 + 1) 0 ∧ es.getD (i * 3 + 1) 0 ≤ 1000) ∧ (0 ≤ es.getD (i * 3 + 2) 0 ∧ es.getD (i * 3 + 2) 0 ≤ 1000) ∧ (0 < i → es.getD ((i - 1) * 3) 0 < es.getD (i * 3) 0)
instance (es : List Int) (i : Nat) : Decidable (entOk es i) := by unfold entOk; infer_instance
def leastE (es : List Int) (k : Nat) : Int := if k = 0 then 0 else es.getD ((k - 1) * 3) 0 + 1
theorem leastE_ok {es : List Int} {k : Nat} (h : ∀ i, i < k → entOk es i) : 0 ≤ leastE es k ∧ leastE es k ≤ 20 := by
 unfold leastE
 split
 · omega
 · have := h (k - 1) (by omega)
   unfold entOk at this
   omega
theorem entOk_iff {es : List Int} {k : Nat} (h : ∀ i, i < k → entOk es i) : entOk es k ↔ (inB (es.getD (k * 3) 0) (leastE es k) 19 = true ∧ inB (es.getD (k * 3 + 1) 0) 0 1000 = true ∧ inB (es.getD (k * 3 + 2) 0) 0 1000 = true) := by
 have h0 := leastE_ok h
 unfold inB entOk
 simp only [decide_eq_true_eq]
 have e : leastE es k ≤ es.getD (k * 3) 0 ↔ (0 ≤ es.getD (k * 3) 0 ∧ (0 < k → es.getD ((k - 1) * 3) 0 < es.getD (k * 3) 0)) := by
   constructor
   · intro h1
     refine ⟨by omega, fun hk => ?_⟩
     unfold leastE at h1
     rw [if_neg (by omega)] at h1
     omega
   · rintro ⟨h1, h2⟩
     unfold leastE
     split
     · exact h1
     · have := h2 (by omega); omega
 rw [e]
 constructor
 · rintro ⟨⟨a, b⟩, c, d, f⟩; exact ⟨⟨⟨a, f⟩, b⟩, c, d⟩
 · rintro ⟨⟨⟨a, f⟩, b⟩, c, d⟩; exact ⟨⟨a, b⟩, c, d, f⟩
theorem entOk_low {es : List Int} : ∀ {k : Nat}, (∀ i, i < k → entOk es i) → ∀ i, i < k → (i : Int) ≤ es.getD (i * 3) 0
 | k, h, 0, hi => by have := (h 0 hi).1.1; simpa using this
 | k, h, i + 1, hi => by
   have ih := entOk_low h i (by omega)
   have h2 := (h (i + 1) hi).2.2.2 (by omega)
   rw [Nat.add_sub_cancel] at h2
   omega
theorem entOk_few {es : List Int} {k : Nat} (h : ∀ i, i < k → entOk es i) : k ≤ 20 := by
 by_cases hk : k = 0
 · omega
 · have h1 := entOk_low h (k - 1) (by omega)
   have h2 := (h (k - 1) (by omega)).1.2
   omega
def descOkM (sq st : Int) (en : Nat) (es : List Int) (cd : Int) (rn : Nat) : Bool :=
 if sq = 0 then decide (st = 0 ∧ en = 0 ∧ cd = 0 ∧ rn = 0) else (inB sq 1 1000000 && (inB st 1 3 && decide (∀ i, i < en → entOk es i)))
section
open Go.ChangeShapes Go.WideShapes Go.ChangeAt Go.RowKit
abbrev EntryV (x y z : Int) : Value := .agg #[.int .i64 x, .int .i64 y, .int .i64 z]
theorem infoEntry : (Tryz.prog.info? 161).map (fun i => (i.zero, i.size, i.bytes)) = some (some (.agg #[.int .i64 0, .int .i64 0, .int .i64 0]), 3, 24) := by kernel_rfl
end
abbrev ResV (code : Int) (a : Option Addr) (n c : Nat) : Value := .agg #[.int .i64 code, .slice a n c]
section
open Go.ChangeShapes Go.WideShapes Go.ChangeAt Go.RowKit
def upto (xs : List Int) (k n : Nat) : List Int := xs.take k ++ List.replicate (n - k) 0
theorem upto_step {xs : List Int} {k n : Nat} (hx : xs.length = n) (h : k < n) : (((upto xs k n).map I).set k (I (xs.getD k 0))) = (upto xs (k + 1) n).map I := by
 rw [← List.map_set]
 congr 1
 unfold upto
 have hl : (xs.take k).length = k := by rw [List.length_take]; omega
 rw [List.set_append_right _ _ (by omega), hl, Nat.sub_self, show n - k = (n - (k + 1)) + 1 by omega, List.replicate_succ, List.set_cons_zero,
   List.take_succ_eq_append_getElem (show k < xs.length by omega), List.append_assoc]
 simp [List.getD, show k < xs.length by omega]
end
section
open Go.ChangeShapes Go.WideShapes Go.ChangeAt Go.RowKit Go.Joins

end
end Go.Proofs.YtbfolanfbagofaaGreatDoor
