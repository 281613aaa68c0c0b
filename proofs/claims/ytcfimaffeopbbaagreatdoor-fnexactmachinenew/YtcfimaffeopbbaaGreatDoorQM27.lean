/- Texts joined: ImplCa, ImplCo. -/
import Derived.Test.YtcfimaffeopbbaaGreatDoorQM26
import Derived.Test.YtcfimaffeopbbaaGreatDoorQM18
import Derived.Deep.Slices
import Derived.Test.YtcfimaffeopbbaaGreatDoorQM19
import Derived.Test.YtcfimaffeopbbaaGreatDoorQM01
set_option maxHeartbeats 8000000
set_option maxRecDepth 100000
namespace Go.Proofs.YtcfimaffeopbbaaGreatDoor
section
open Go.ChangeShapes Go.WideShapes Go.ChangeAt Go.RowKit
theorem enters_ended : Enters 137 := by
 intro args w
 have hf := Tryz.func137
 go_simp
theorem enters_calls : Enters 106 := by
 intro args w
 have hf := Tryz.func106
 go_simp
theorem enters_threads : Enters 103 := by
 intro args w
 have hf := Tryz.func103
 go_simp
theorem CasAt.lie {w : World} {a : Option Addr} {n : Nat} {f : Nat → CaD} (h : CasAt w a n f) : ∃ V : Nat → Value, (∀ j, ∃ ra rn rc, V j = .slice ra rn rc) ∧ LieCall w a n (fun j => I (f j).t) (fun j => I (f j).kd) (fun j => I (f j).k) (fun j => I (f j).v) (fun j => I (f j).st) (fun j => I (f j).ln) (fun j => I (f j).en) (fun j => I (f j).cd) V := by
 rcases h.2 with h0 | ⟨b, o, h1, h2⟩
 · exact ⟨fun _ => .slice none 0 0, fun _ => ⟨_, _, _, rfl⟩, .inl h0⟩
 · obtain ⟨z, hz⟩ : ∃ z : Nat → Option Addr × Nat × Nat, ∀ i, i < n → CaC w b (o + i * 9) (f i) (.slice (z i).1 (z i).2.1 (z i).2.2) :=
     Go.Deep.choose_lt (p := fun i (z : Option Addr × Nat × Nat) => CaC w b (o + i * 9) (f i) (.slice z.1 z.2.1 z.2.2)) (fun i hi => let ⟨ra, rn, rc, h⟩ := h2 i hi; ⟨(ra, rn, rc), h⟩)
   exact ⟨fun j => .slice (z j).1 (z j).2.1 (z j).2.2, fun _ => ⟨_, _, _, rfl⟩, .inr ⟨b, o, h1, fun j hj => hz j hj⟩⟩
theorem ThsAt.lie {w : World} {a : Option Addr} {n : Nat} {ts : Nat → ThD} (h : ThsAt w a n ts) : ∃ z : Nat → (Option Addr × Nat) × (Option Addr × Nat) × (Option Addr × Nat),
   LieThread w a n (fun j => .slice (z j).1.1 (ts j).n0 (z j).1.2) (fun j => I (ts j).pc) (fun j => .bool (ts j).on) (fun j => .slice (z j).2.1.1 (ts j).n1 (z j).2.1.2) (fun j => .slice (z j).2.2.1 (ts j).n2 (z j).2.2.2) ∧ ∀ j, j < n → ThL w (z j).1.1 (z j).2.1.1 (z j).2.2.1 (ts j) := by
 rcases h.2 with h0 | ⟨b, o, h1, h2⟩
 · exact ⟨fun _ => ((none, 0), (none, 0), (none, 0)), .inl h0, fun j hj => by omega⟩
 · obtain ⟨z, hz⟩ : ∃ z : Nat → (Option Addr × Nat) × (Option Addr × Nat) × (Option Addr × Nat), ∀ i, i < n → ThC w b (o + i * 5) (ts i) (z i).1.1 (z i).1.2 (z i).2.1.1 (z i).2.1.2 (z i).2.2.1 (z i).2.2.2 ∧ ThL w (z i).1.1 (z i).2.1.1 (z i).2.2.1 (ts i) :=
     Go.Deep.choose_lt (p := fun i (z : (Option Addr × Nat) × (Option Addr × Nat) × (Option Addr × Nat)) => ThC w b (o + i * 5) (ts i) z.1.1 z.1.2 z.2.1.1 z.2.1.2 z.2.2.1 z.2.2.2 ∧ ThL w z.1.1 z.2.1.1 z.2.2.1 (ts i)) (fun i hi => let ⟨a0, c0, a1, c1, a2, c2, h3, h4, _⟩ := h2 i hi; ⟨((a0, c0), (a1, c1), (a2, c2)), h3, h4⟩)
   exact ⟨z, .inr ⟨b, o, h1, fun j hj => (hz j hj).1⟩, fun j hj => (hz j hj).2⟩
theorem impl_ended (c : CaD) (v : Value) (w : World) : Calls Tryz.prog 137 #[CaV c v] w fun e w' => e = .returned (.bool (decide (0 ≤ c.en))) ∧ Below w.heap.size w w' := by
 obtain ⟨t, kd, k, vv, st, ln, en, cd⟩ := c
 have HB : Hid (Below w.heap.size w (w.alloc (.cells #[.int .i64 t, .int .i64 kd, .int .i64 k, .int .i64 vv, .int .i64 st, .int .i64 ln, .int .i64 en, .int .i64 cd, v] 93))) := (Below.refl _ w).alloc (Nat.le_refl _) _
 by_cases h : 0 ≤ en
 · have h' : decide (0 ≤ en) = true := decide_eq_true h
   show Calls Tryz.prog 137 #[.agg #[.int .i64 t, .int .i64 kd, .int .i64 k, .int .i64 vv, .int .i64 st, .int .i64 ln, .int .i64 en, .int .i64 cd, v]] w fun e w' => e = .returned (.bool (decide (0 ≤ en))) ∧ Below w.heap.size w w'
   rw [h']
   go_enter Tryz.func137, Tryz.ntmps137
   go_wp2
   go_ret
   exact ⟨rfl, HB.out⟩
 · have h' : decide (0 ≤ en) = false := decide_eq_false h
   show Calls Tryz.prog 137 #[.agg #[.int .i64 t, .int .i64 kd, .int .i64 k, .int .i64 vv, .int .i64 st, .int .i64 ln, .int .i64 en, .int .i64 cd, v]] w fun e w' => e = .returned (.bool (decide (0 ≤ en))) ∧ Below w.heap.size w w'
   rw [h']
   go_enter Tryz.func137, Tryz.ntmps137
   go_wp2
   go_ret
   exact ⟨rfl, HB.out⟩
theorem impl_wasSo (c : CaD) (v : Value) (w : World) : Calls Tryz.prog 109 #[CaV c v] w fun e w' => e = .returned (.bool (decide (0 ≤ c.ln))) ∧ Below w.heap.size w w' := by
 obtain ⟨t, kd, k, vv, st, ln, en, cd⟩ := c
 have HB : Hid (Below w.heap.size w (w.alloc (.cells #[.int .i64 t, .int .i64 kd, .int .i64 k, .int .i64 vv, .int .i64 st, .int .i64 ln, .int .i64 en, .int .i64 cd, v] 93))) := (Below.refl _ w).alloc (Nat.le_refl _) _
 by_cases h : 0 ≤ ln
 · have h' : decide (0 ≤ ln) = true := decide_eq_true h
   show Calls Tryz.prog 109 #[.agg #[.int .i64 t, .int .i64 kd, .int .i64 k, .int .i64 vv, .int .i64 st, .int .i64 ln, .int .i64 en, .int .i64 cd, v]] w fun e w' => e = .returned (.bool (decide (0 ≤ ln))) ∧ Below w.heap.size w w'
   rw [h']
   go_enter Tryz.func109, Tryz.ntmps109
   go_wp2
   go_ret
   exact ⟨rfl, HB.out⟩
 · have h' : decide (0 ≤ ln) = false := decide_eq_false h
   show Calls Tryz.prog 109 #[.agg #[.int .i64 t, .int .i64 kd, .int .i64 k, .int .i64 vv, .int .i64 st, .int .i64 ln, .int .i64 en, .int .i64 cd, v]] w fun e w' => e = .returned (.bool (decide (0 ≤ ln))) ∧ Below w.heap.size w w'
   rw [h']
   go_enter Tryz.func109, Tryz.ntmps109
   go_wp2
   go_ret
   exact ⟨rfl, HB.out⟩
theorem impl_moment (c : CaD) (v : Value) (x tm : Int) (w : World) : Calls Tryz.prog 108 #[CaV c v, .int .i64 x, .int .i64 tm] w fun e w' => e = .returned (.bool (MomGood x c.st tm)) ∧ Below w.heap.size w w' := by
 obtain ⟨R, hR⟩ : ∃ R, MomGood x c.st tm = R := ⟨_, rfl⟩
 rw [hR]
 obtain ⟨t, kd, k, vv, st, ln, en, cd⟩ := c
 have HR : Hid ((x == -1 || inB x st tm) = R) := hR
 have HB : Hid (Below w.heap.size w (w.alloc (.cells #[.int .i64 t, .int .i64 kd, .int .i64 k, .int .i64 vv, .int .i64 st, .int .i64 ln, .int .i64 en, .int .i64 cd, v] 93))) := (Below.refl _ w).alloc (Nat.le_refl _) _
 show Calls Tryz.prog 108 #[.agg #[.int .i64 t, .int .i64 kd, .int .i64 k, .int .i64 vv, .int .i64 st, .int .i64 ln, .int .i64 en, .int .i64 cd, v], .int .i64 x, .int .i64 tm] w fun e w' => e = .returned (.bool R) ∧ Below w.heap.size w w'
 clear hR
 by_cases hx : x = -1
 · have hx' : (x == -1) = true := by simp [hx]
   have HF : Hid (true = R) := by show _ = _; rw [← HR.out, hx']; rfl
   clear HR hx
   go_enter Tryz.func108, Tryz.ntmps108
   go_wp2
   go_ret
   exact ⟨by rw [← HF.out]; rfl, HB.out⟩
 · have hx' : (x == -1) = false := by simp [hx]
   have HF : Hid (inB x st tm = R) := by show _ = _; rw [← HR.out, hx']; rfl
   clear HR hx
   go_enter Tryz.func108, Tryz.ntmps108
   go_wp2_with fail
   refine (within_g _ _ _ _).mono ?_
   rintro e w1 ⟨rfl, rfl⟩
   rw [HF.out]
   go_wp2
   go_ret
   exact ⟨rfl, HB.out⟩
theorem impl_call1 (g : Nat) (v0 v5 v6 v7 : Value) (da : Option Addr) (nd dc : Nat) (ta : Option Addr) (nt tc : Nat) (hn : nt ≤ 2097152) (tm : Int) (ca : Option Addr) (nc cc : Nat) (c : CaD) (v : Value) (w : World) (hg : Box w g #[v0, .slice da nd dc, .slice ta nt tc, .int .i64 tm, .slice ca nc cc, v5, v6, v7] 36) :
   Calls Tryz.prog 106 #[CaV c v, .pointer (some ⟨g, 0, none⟩)] w fun e w' => e = .returned (.bool (CaGood nt tm c)) ∧ Below w.heap.size w w' := by
 obtain ⟨R, hR⟩ : ∃ R, CaGood nt tm c = R := ⟨_, rfl⟩
 obtain ⟨t, kd, k, vv, st, ln, en, cd⟩ := c
 rw [hR]
 have HR : Hid ((inB t 0 ((nt : Int) - 1) && (decide (OpGood kd k vv) && (inB st 0 tm && (MomGood ln st tm && MomGood en st tm)))) = R) := hR
 show Calls Tryz.prog 106 #[.agg #[.int .i64 t, .int .i64 kd, .int .i64 k, .int .i64 vv, .int .i64 st, .int .i64 ln, .int .i64 en, .int .i64 cd, v], .pointer (some ⟨g, 0, none⟩)] w fun e w' => e = .returned (.bool R) ∧ Below w.heap.size w w'
 obtain ⟨W, hW⟩ : ∃ W, w.alloc (.cells #[.int .i64 t, .int .i64 kd, .int .i64 k, .int .i64 vv, .int .i64 st, .int .i64 ln, .int .i64 en, .int .i64 cd, v] 93) = W := ⟨_, rfl⟩
 have hb0 : Below w.heap.size w W := by rw [← hW]; exact (Below.refl _ w).alloc (Nat.le_refl _) _
 have BM : Hid (Box W g #[v0, .slice da nd dc, .slice ta nt tc, .int .i64 tm, .slice ca nc cc, v5, v6, v7] 36) := hg.below hb0 hg.lt
 have BC : Hid (Box W w.heap.size #[.int .i64 t, .int .i64 kd, .int .i64 k, .int .i64 vv, .int .i64 st, .int .i64 ln, .int .i64 en, .int .i64 cd, v] 93) := by rw [← hW]; exact box_of w _ _
 have HB0 : Hid (Below w.heap.size w W) := hb0
 have HW : Hid (w.alloc (.cells #[.int .i64 t, .int .i64 kd, .int .i64 k, .int .i64 vv, .int .i64 st, .int .i64 ln, .int .i64 en, .int .i64 cd, v] 93) = W) := hW
 obtain ⟨z0, z1, z2, z3, z4, z5, z6, z7⟩ := eight_of hg
 have L0 : g < w.heap.size := hg.lt
 clear hb0 hW hR hg
 go_enter Tryz.func106, Tryz.ntmps106
 go_wp2_with fail
 refine (within_g _ _ _ _).mono ?_
 rintro e w1 ⟨rfl, hw1⟩
 obtain rfl : W = w1 := by rw [hw1]; exact HW.out.symm
 clear hw1 z0 z1 z2 z3 z4 z5 z6 z7 L0
 obtain ⟨z0, z1, z2, z3, z4, z5, z6, z7⟩ := eight_of BM.out
 obtain ⟨y0, y1, y2, y3, y4, y5, y6, y7, y8⟩ := nine_of BC.out
 have L0 : g < W.heap.size := BM.out.lt
 have L1 : w.heap.size < W.heap.size := BC.out.lt
 rcases hI0 : inB t 0 ((nt : Int) - 1) with _ | _
 · have HF : Hid (false = R) := by show _ = _; rw [← HR.out, hI0]; rfl
   clear HR
   go_wp2
   go_ret
   exact ⟨by rw [← HF.out]; rfl, HB0.out⟩
 have HI0 : Hid (inB t 0 ((nt : Int) - 1) = true) := hI0
 clear hI0
 go_wp2_with fail
 refine (implOpOk_any kd k vv _).mono ?_
 rintro e w2 ⟨rfl, hb2⟩
 have HB2 : Hid (Below w.heap.size w w2) := HB0.out.trans (hb2.mono HB0.out.size)
 have BM2 : Hid (Box w2 g #[v0, .slice da nd dc, .slice ta nt tc, .int .i64 tm, .slice ca nc cc, v5, v6, v7] 36) := BM.out.below hb2 BM.out.lt
 have BC2 : Hid (Box w2 w.heap.size #[.int .i64 t, .int .i64 kd, .int .i64 k, .int .i64 vv, .int .i64 st, .int .i64 ln, .int .i64 en, .int .i64 cd, v] 93) := BC.out.below hb2 BC.out.lt
 clear z0 z1 z2 z3 z4 z5 z6 z7 y0 y1 y2 y3 y4 y5 y6 y7 y8 L0 L1 hb2
 obtain ⟨z0, z1, z2, z3, z4, z5, z6, z7⟩ := eight_of BM2.out
 obtain ⟨y0, y1, y2, y3, y4, y5, y6, y7, y8⟩ := nine_of BC2.out
 have L0 : g < w2.heap.size := BM2.out.lt
 have L1 : w.heap.size < w2.heap.size := BC2.out.lt
 by_cases hop : OpGood kd k vv
 case neg =>
   rw [show decide (OpGood kd k vv) = false from decide_eq_false hop]
   have HF : Hid (false = R) := by show _ = _; rw [← HR.out, HI0.out, decide_eq_false hop]; rfl
   clear HR hop
   go_wp2
   go_ret
   exact ⟨by rw [← HF.out]; rfl, HB2.out⟩
 rw [show decide (OpGood kd k vv) = true from decide_eq_true hop]
 have HR : Hid ((inB st 0 tm && (MomGood ln st tm && MomGood en st tm)) = R) := by show _ = _; rw [← HR.out, HI0.out, decide_eq_true hop]; rfl
 clear hop
 go_wp2_with fail
 refine (within_g _ _ _ _).mono ?_
 rintro e w1 ⟨rfl, rfl⟩
 rcases hI1 : inB st 0 tm with _ | _
 · have HF : Hid (false = R) := by show _ = _; rw [← HR.out, hI1]; rfl
   clear HR
   go_wp2
   go_ret
   exact ⟨by rw [← HF.out]; rfl, HB2.out⟩
 have HR : Hid ((MomGood ln st tm && MomGood en st tm) = R) := by show _ = _; rw [← HR.out, hI1]; rfl
 clear hI1
 go_wp2_with fail
 refine (impl_moment ⟨t, kd, k, vv, st, ln, en, cd⟩ v ln tm _).mono ?_
 rintro e w3 ⟨rfl, hb3⟩
 dsimp only
 have HB3 : Hid (Below w.heap.size w w3) := HB2.out.trans (hb3.mono HB2.out.size)
 have BM3 : Hid (Box w3 g #[v0, .slice da nd dc, .slice ta nt tc, .int .i64 tm, .slice ca nc cc, v5, v6, v7] 36) := BM2.out.below hb3 BM2.out.lt
 have BC3 : Hid (Box w3 w.heap.size #[.int .i64 t, .int .i64 kd, .int .i64 k, .int .i64 vv, .int .i64 st, .int .i64 ln, .int .i64 en, .int .i64 cd, v] 93) := BC2.out.below hb3 BC2.out.lt
 clear z0 z1 z2 z3 z4 z5 z6 z7 y0 y1 y2 y3 y4 y5 y6 y7 y8 L0 L1 hb3
 obtain ⟨z0, z1, z2, z3, z4, z5, z6, z7⟩ := eight_of BM3.out
 obtain ⟨y0, y1, y2, y3, y4, y5, y6, y7, y8⟩ := nine_of BC3.out
 have L0 : g < w3.heap.size := BM3.out.lt
 have L1 : w.heap.size < w3.heap.size := BC3.out.lt
 rcases hm : MomGood ln st tm with _ | _
 · have HF : Hid (false = R) := by show _ = _; rw [← HR.out, hm]; rfl
   clear HR
   go_wp2
   go_ret
   exact ⟨by rw [← HF.out]; rfl, HB3.out⟩
 have HF : Hid (MomGood en st tm = R) := by show _ = _; rw [← HR.out, hm]; rfl
 clear HR hm
 go_wp2_with fail
 refine (impl_moment ⟨t, kd, k, vv, st, ln, en, cd⟩ v en tm _).mono ?_
 rintro e w4 ⟨rfl, hb4⟩
 dsimp only
 have HB4 : Hid (Below w.heap.size w w4) := HB3.out.trans (hb4.mono HB3.out.size)
 rw [HF.out]
 clear hb4
 go_wp2
 go_ret
 exact ⟨rfl, HB4.out⟩
theorem impl_callsOk (v0 v5 v6 v7 : Value) (da : Option Addr) (nd dc : Nat) (ta : Option Addr) (nt tc : Nat) (hn : nt ≤ 2097152) (tm : Int) (ca : Option Addr) (nc cc : Nat) (f : Nat → CaD) (w : World) (h : CasAt w ca nc f) :
   Calls Tryz.prog 58 #[.agg #[v0, .slice da nd dc, .slice ta nt tc, .int .i64 tm, .slice ca nc cc, v5, v6, v7]] w fun e w' => ∃ ok, (e = .returned (.bool ok) ∧ (ok = true ↔ (nc ≤ 40 ∧ ∀ i, i < nc → CaGood nt tm (f i) = true))) ∧ Below w.heap.size w w' := by
 have hnc := h.1
 have H : Hid (CasAt w ca nc f) := h
 obtain ⟨G, hG⟩ : ∃ G : Prop, (nc ≤ 40 ∧ ∀ i, i < nc → CaGood nt tm (f i) = true) = G := ⟨_, rfl⟩
 have HG : Hid (G ↔ (nc ≤ 40 ∧ ∀ i, i < nc → CaGood nt tm (f i) = true)) := by show _ ↔ _; rw [hG]
 rw [hG]
 obtain ⟨W, hW⟩ : ∃ W, w.alloc (.cells #[v0, .slice da nd dc, .slice ta nt tc, .int .i64 tm, .slice ca nc cc, v5, v6, v7] 36) = W := ⟨_, rfl⟩
 have hb0 : Below w.heap.size w W := by rw [← hW]; exact (Below.refl _ w).alloc (Nat.le_refl _) _
 have BX : Hid (Box W w.heap.size #[v0, .slice da nd dc, .slice ta nt tc, .int .i64 tm, .slice ca nc cc, v5, v6, v7] 36) := by rw [← hW]; exact box_of w _ _
 have HB0 : Hid (Below w.heap.size w W) := hb0
 have HW : Hid (w.alloc (.cells #[v0, .slice da nd dc, .slice ta nt tc, .int .i64 tm, .slice ca nc cc, v5, v6, v7] 36) = W) := hW
 clear h hb0 hW hG
 by_cases h40 : (nc : Int) ≤ 40
 case neg =>
   have h4' : decide ((nc : Int) ≤ 40) = false := decide_eq_false h40
   have HNO : Hid (¬ G) := fun hg => by have := (HG.out.1 hg).1; omega
   clear h40
   go_enter Tryz.func58, Tryz.ntmps58
   go_wp2
   go_ret
   first | exact ⟨false, ⟨rfl, by simp [HNO.out]⟩, by rw [HW.out]; exact HB0.out⟩ | exact ⟨.inl ⟨rfl, HNO.out⟩, by rw [HW.out]; exact HB0.out⟩
 have h4' : decide ((nc : Int) ≤ 40) = true := decide_eq_true h40
 go_enter Tryz.func58, Tryz.ntmps58
 go_wp2_with fail
 rw [HW.out]
 obtain ⟨V, hV, hlie⟩ := (H.out.below HB0.out (Nat.le_refl _)).lie
 refine (allCall 106 #[.pointer (some ⟨w.heap.size, 0, none⟩)] ca nc cc _ _ _ _ _ _ _ _ _ (fun j => CaGood nt tm (f j)) W hnc hlie (fun j hj W' hW' => impl_call1 w.heap.size v0 v5 v6 v7 da nd dc ta nt tc hn tm ca nc cc (f j) (V j) W' (BX.out.below hW' BX.out.lt)) enters_calls).mono ?_
 rintro e w1 ⟨r, ⟨rfl, hr⟩, hb1⟩
 have HR : Hid (r = true ↔ G) := by show _ ↔ _; rw [HG.out, hr]; exact ⟨fun h => ⟨by omega, h⟩, fun h => h.2⟩
 have HB : Hid (Below w.heap.size w w1) := HB0.out.trans (hb1.mono HB0.out.size)
 clear hr hb1 hlie hV
 rcases r with _ | _
 · go_wp2
   go_ret
   exact ⟨false, ⟨rfl, HR.out⟩, HB.out⟩
 · go_wp2
   go_ret
   exact ⟨true, ⟨rfl, ⟨fun _ => HR.out.1 (by first | rfl | trivial), fun _ => rfl⟩⟩, HB.out⟩
theorem impl_thread1 (g : Nat) (v0 v3 v4 v5 v6 v7 : Value) (da : Option Addr) (nd dc : Nat) (ta : Option Addr) (nt tc : Nat) (hn : nt ≤ 2097152) (a0 : Option Addr) (c0 : Nat) (a1 : Option Addr) (c1 : Nat) (a2 : Option Addr) (c2 : Nat) (t : ThD) (w : World) (h : ThL w a0 a1 a2 t)
   (hg : Box w g #[v0, .slice da nd dc, .slice ta nt tc, v3, v4, v5, v6, v7] 36) :
   Calls Tryz.prog 103 #[ThV5 a0 c0 a1 c1 a2 c2 t, .pointer (some ⟨g, 0, none⟩)] w fun e w' => ∃ ok, (e = .returned (.bool ok) ∧ (ok = true ↔ ThGood t nt)) ∧ Below w.heap.size w w' := by
 have H : Hid (ThL w a0 a1 a2 t) := h
 obtain ⟨G, hG⟩ : ∃ G : Prop, ThGood t nt = G := ⟨_, rfl⟩
 have HG : Hid (ThGood t nt = G) := hG
 rw [hG]
 obtain ⟨n0, fs, pc, on, n1, gs, n2, hs⟩ := t
 obtain ⟨W, hW⟩ : ∃ W, w.alloc (.cells #[.slice a0 n0 c0, .int .i64 pc, .bool on, .slice a1 n1 c1, .slice a2 n2 c2] 59) = W := ⟨_, rfl⟩
 have hb0 : Below w.heap.size w W := by rw [← hW]; exact (Below.refl _ w).alloc (Nat.le_refl _) _
 have BM : Hid (Box W g #[v0, .slice da nd dc, .slice ta nt tc, v3, v4, v5, v6, v7] 36) := hg.below hb0 hg.lt
 have BT : Hid (Box W w.heap.size #[.slice a0 n0 c0, .int .i64 pc, .bool on, .slice a1 n1 c1, .slice a2 n2 c2] 59) := by rw [← hW]; exact box_of w _ _
 have HB0 : Hid (Below w.heap.size w W) := hb0
 have HW : Hid (w.alloc (.cells #[.slice a0 n0 c0, .int .i64 pc, .bool on, .slice a1 n1 c1, .slice a2 n2 c2] 59) = W) := hW
 show Calls Tryz.prog 103 #[.agg #[.slice a0 n0 c0, .int .i64 pc, .bool on, .slice a1 n1 c1, .slice a2 n2 c2], .pointer (some ⟨g, 0, none⟩)] w fun e w' => ∃ ok, (e = .returned (.bool ok) ∧ (ok = true ↔ G)) ∧ Below w.heap.size w w'
 obtain ⟨z0, z1, z2, z3, z4, z5, z6, z7⟩ := eight_of hg
 have L0 : g < w.heap.size := hg.lt
 clear hb0 hW hg h hG
 go_enter Tryz.func103, Tryz.ntmps103
 go_wp2_with fail
 rw [HW.out]
 refine (implThreadOk_any a0 c0 a1 c1 a2 c2 ⟨n0, fs, pc, on, n1, gs, n2, hs⟩ nt hn W (H.out.below HB0.out (Nat.le_refl _))).mono ?_
 rintro e w1 ⟨r, ⟨rfl, hr⟩, hb1⟩
 have HR : Hid (r = true ↔ G) := by show _ ↔ _; rw [← HG.out]; exact hr
 have HB : Hid (Below w.heap.size w w1) := HB0.out.trans (hb1.mono HB0.out.size)
 clear hr hb1
 rcases r with _ | _
 · go_wp2
   go_ret
   exact ⟨false, ⟨rfl, HR.out⟩, HB.out⟩
 · go_wp2
   go_ret
   exact ⟨true, ⟨rfl, ⟨fun _ => HR.out.1 (by first | rfl | trivial), fun _ => rfl⟩⟩, HB.out⟩
open Classical in
theorem impl_threadsOk (v0 v3 v4 v5 v6 v7 : Value) (da : Option Addr) (nd dc : Nat) (ta : Option Addr) (nt tc : Nat) (ts : Nat → ThD) (w : World) (h : ThsAt w ta nt ts) :
   Calls Tryz.prog 57 #[.agg #[v0, .slice da nd dc, .slice ta nt tc, v3, v4, v5, v6, v7]] w fun e w' => ∃ ok, (e = .returned (.bool ok) ∧ (ok = true ↔ (nd = nt ∧ ∀ i, i < nt → ThGood (ts i) nt))) ∧ Below w.heap.size w w' := by
 have hnt := h.1
 have H : Hid (ThsAt w ta nt ts) := h
 obtain ⟨G, hG⟩ : ∃ G : Prop, (nd = nt ∧ ∀ i, i < nt → ThGood (ts i) nt) = G := ⟨_, rfl⟩
 have HG : Hid (G ↔ (nd = nt ∧ ∀ i, i < nt → ThGood (ts i) nt)) := by show _ ↔ _; rw [hG]
 rw [hG]
 obtain ⟨W, hW⟩ : ∃ W, w.alloc (.cells #[v0, .slice da nd dc, .slice ta nt tc, v3, v4, v5, v6, v7] 36) = W := ⟨_, rfl⟩
 have hb0 : Below w.heap.size w W := by rw [← hW]; exact (Below.refl _ w).alloc (Nat.le_refl _) _
 have BX : Hid (Box W w.heap.size #[v0, .slice da nd dc, .slice ta nt tc, v3, v4, v5, v6, v7] 36) := by rw [← hW]; exact box_of w _ _
 have HB0 : Hid (Below w.heap.size w W) := hb0
 have HW : Hid (w.alloc (.cells #[v0, .slice da nd dc, .slice ta nt tc, v3, v4, v5, v6, v7] 36) = W) := hW
 clear h hb0 hW hG
 by_cases hnn : nd = nt
 case neg =>
   have hn' : ((nt : Int) == (nd : Int)) = false := by simp; omega
   have HNO : Hid (¬ G) := fun hg => hnn (HG.out.1 hg).1
   clear hnn
   go_enter Tryz.func57, Tryz.ntmps57
   go_wp2
   go_ret
   first | exact ⟨false, ⟨rfl, by simp [HNO.out]⟩, by rw [HW.out]; exact HB0.out⟩ | exact ⟨.inl ⟨rfl, HNO.out⟩, by rw [HW.out]; exact HB0.out⟩
 have hn' : ((nt : Int) == (nd : Int)) = true := by simp [hnn]
 have HNN : Hid (nd = nt) := hnn
 clear hnn
 go_enter Tryz.func57, Tryz.ntmps57
 go_wp2_with fail
 rw [HW.out]
 obtain ⟨z, hlie, hth⟩ := (H.out.below HB0.out (Nat.le_refl _)).lie
 refine (allThread 103 #[.pointer (some ⟨w.heap.size, 0, none⟩)] ta nt tc _ _ _ _ _ (fun j => decide (ThGood (ts j) nt)) W hnt hlie (fun j hj W' hW' => (impl_thread1 w.heap.size v0 v3 v4 v5 v6 v7 da nd dc ta nt tc hnt (z j).1.1 (z j).1.2 (z j).2.1.1 (z j).2.1.2 (z j).2.2.1 (z j).2.2.2 (ts j) W' ((hth j hj).below hW' (Nat.le_refl _)) (BX.out.below hW' BX.out.lt)).mono ?_) enters_threads).mono ?_
 · rintro e w' ⟨ok, ⟨rfl, hk⟩, hb⟩
   refine ⟨?_, hb⟩
   congr 2
   show ok = decide (ThGood (ts j) nt)
   by_cases hg : ThGood (ts j) nt
   · rw [decide_eq_true hg]; exact hk.2 hg
   · rw [decide_eq_false hg]
     cases ok
     · rfl
     · exact absurd (hk.1 rfl) hg
 rintro e w1 ⟨r, ⟨rfl, hr⟩, hb1⟩
 have HR : Hid (r = true ↔ G) := by show _ ↔ _; rw [HG.out, hr]; exact ⟨fun h => ⟨HNN.out, fun i hi => of_decide_eq_true (h i hi)⟩, fun h i hi => decide_eq_true (h.2 i hi)⟩
 have HB : Hid (Below w.heap.size w w1) := HB0.out.trans (hb1.mono HB0.out.size)
 clear hr hb1 hlie hth
 rcases r with _ | _
 · go_wp2
   go_ret
   exact ⟨false, ⟨rfl, HR.out⟩, HB.out⟩
 · go_wp2
   go_ret
   exact ⟨true, ⟨rfl, ⟨fun _ => HR.out.1 (by first | rfl | trivial), fun _ => rfl⟩⟩, HB.out⟩
instance : Inhabited CaD := ⟨⟨0, 0, 0, 0, 0, 0, 0, 0⟩⟩
abbrev CaP : Type := CaD × (Option Addr × Nat × Nat)
def caCells (p : CaP) : List Value := [I p.1.t, I p.1.kd, I p.1.k, I p.1.v, I p.1.st, I p.1.ln, I p.1.en, I p.1.cd, .slice p.2.1 p.2.2.1 p.2.2.2]
theorem ca_at : ∀ {LL : List CaP} {k r : Nat} {p : CaP}, LL[k]? = some p → r < 9 → (LL.flatMap caCells)[k * 9 + r]? = (caCells p)[r]?
 | [], k, r, p, h, _ => by simp at h
 | x :: LL, 0, r, p, h, hr => by
   simp only [List.getElem?_cons_zero, Option.some.injEq] at h
   subst h
   rw [List.flatMap_cons, Nat.zero_mul, Nat.zero_add, List.getElem?_append_left (by simpa [caCells] using hr)]
 | x :: LL, k + 1, r, p, h, hr => by
   have h' : LL[k]? = some p := by simpa using h
   rw [List.flatMap_cons, List.getElem?_append_right (by simp [caCells]; omega), ← ca_at h' hr]
   congr 1
   simp [caCells]
   omega
theorem own_cas {w : World} {base : Nat} {v : Value} {LL : List CaP} {L : List CaD} (h : w.ownsRow base 93 9 v LL.length (LL.flatMap caCells)) (hL : LL.map Prod.fst = L) (hn : LL.length ≤ 2097152) : ∃ a c, v = .slice a L.length c ∧ L.length ≤ c ∧ CasAt w a L.length (fun j => L.getD j default) := by
 have hl : LL.length = L.length := by rw [← hL]; simp
 obtain ⟨a, c, rfl, hc⟩ := owns_slice h
 refine ⟨a, c, by rw [hl], by omega, by omega, ?_⟩
 rcases owns_forms h with ⟨-, h3⟩ | ⟨g, cap, hv⟩
 · exact .inl (by omega)
 · cases hv
   refine .inr ⟨g, 0, rfl, fun i hi => ?_⟩
   have hi' : i < LL.length := by omega
   have hp : LL[i]? = some LL[i] := List.getElem?_eq_getElem hi'
   have hf : L.getD i default = LL[i].1 := by subst hL; simp [List.getD, hi']
   have cell : ∀ r, r < 9 → w.cell? ⟨g, 0 + i * 9 + r, none⟩ = (caCells LL[i])[r]? := fun r hr => by
     rw [Nat.zero_add, h.cellAt (i * 9 + r) (by omega), ca_at hp hr]
   show ∃ ra rn rc, CaC w g (0 + i * 9) (L.getD i default) (.slice ra rn rc)
   rw [hf]
   exact ⟨_, _, _, cell 0 (by omega), cell 1 (by omega), cell 2 (by omega), cell 3 (by omega), cell 4 (by omega), cell 5 (by omega), cell 6 (by omega), cell 7 (by omega), cell 8 (by omega)⟩
theorem callsL_len (f : Nat → CaD) (t : Int) : ∀ n, (callsL f t n).length ≤ n
 | 0 => Nat.le_refl _
 | n + 1 => by
   have := callsL_len f t n
   unfold callsL
   rw [List.length_append]
   split <;> simp <;> omega
theorem nine_at (w : World) (p : CaP) (t : TypeId) : ∀ (j : Nat) (u : Value), (caCells p)[j]? = some u → (w.alloc (.cells (caCells p).toArray t)).cell? ((⟨w.heap.size, 0, none⟩ : Addr).add j) = some u := by
 intro j u hj
 have hx := (box_of w (caCells p).toArray t).cell j
 have e : (⟨w.heap.size, 0, none⟩ : Addr).add j = ⟨w.heap.size, j, none⟩ := by simp [Addr.add]; omega
 rw [e, hx]
 simpa using hj
theorem nine_one (p : CaP) : ∀ u ∈ caCells p, u.oneCell' = true := by
 intro u hu
 simp [caCells] at hu
 rcases hu with rfl | rfl | rfl | rfl | rfl | rfl | rfl | rfl | rfl <;> rfl
theorem infoCall : (Tryz.prog.info? 93).map (fun i => (i.zero, i.size, i.bytes)) = some (some (.agg #[.int .i64 0, .int .i64 0, .int .i64 0, .int .i64 0, .int .i64 0, .int .i64 0, .int .i64 0, .int .i64 0, .slice none 0 0]), 9, 88) := by kernel_rfl
theorem impl_callsOf (v0 v1 v2 v3 v5 v6 v7 : Value) (ca : Option Addr) (nc cc : Nat) (f : Nat → CaD) (t : Int) (w : World) (h : CasAt w ca nc f) :
   Calls Tryz.prog 112 #[.agg #[v0, v1, v2, v3, .slice ca nc cc, v5, v6, v7], .int .i64 t] w fun e w' => (∃ a c, e = .returned (.slice a (callsL f t nc).length c) ∧ (callsL f t nc).length ≤ c ∧ CasAt w' a (callsL f t nc).length (fun j => (callsL f t nc).getD j default)) ∧ Below w.heap.size w w' := by
 have hnc := h.1
 have H1 : Hid (CasAt w ca nc f) := h
 obtain ⟨i0, hi, hz⟩ := Option.map_eq_some_iff.1 infoCall
 have hz0 : i0.zero = some (.agg #[.int .i64 0, .int .i64 0, .int .i64 0, .int .i64 0, .int .i64 0, .int .i64 0, .int .i64 0, .int .i64 0, .slice none 0 0]) := congrArg Prod.fst hz
 have hz1 : i0.size = 9 := congrArg (fun p => p.2.1) hz
 have hz2 : i0.bytes = 88 := congrArg (fun p => p.2.2) hz
 obtain ⟨W, hW⟩ : ∃ W, w.alloc (.cells #[v0, v1, v2, v3, .slice ca nc cc, v5, v6, v7] 36) = W := ⟨_, rfl⟩
 have hb0 : Below w.heap.size w W := by rw [← hW]; exact (Below.refl _ w).alloc (Nat.le_refl _) _
 have HB0 : Hid (Below w.heap.size w W) := hb0
 have HW : Hid (w.alloc (.cells #[v0, v1, v2, v3, .slice ca nc cc, v5, v6, v7] 36) = W) := hW
 clear h hb0 hW hz
 go_enter Tryz.func112, Tryz.ntmps112
 go_wp2
 rw [HW.out]
 go_loopw [5, 11] (fun o i wr => ∃ (k : Nat) (LL : List CaP), k ≤ nc ∧ i = .int .i64 (k : Int) ∧ LL.map Prod.fst = callsL f t k ∧ wr.ownsRow W.heap.size 93 9 o LL.length (LL.flatMap caCells) ∧ Below W.heap.size W wr) (fun _ i _ => nc - (intOf i).toNat)
 case atStart => exact ⟨0, [], Nat.zero_le _, rfl, rfl, World.ownsRow_nil _ _ _ _, Below.refl _ _⟩
 case round =>
   obtain ⟨k, LL, hk, rfl, hL, hown, hb⟩ := hrel
   have HB : Hid (Below W.heap.size W wr) := hb
   have HBW : Hid (Below w.heap.size w wr) := HB0.out.trans (hb.mono HB0.out.size)
   have HL : Hid (LL.map Prod.fst = callsL f t k) := hL
   have HO : Hid (wr.ownsRow W.heap.size 93 9 u5 LL.length (LL.flatMap caCells)) := hown
   have hlen : LL.length ≤ k := by have := callsL_len f t k; rw [← hL] at this; simpa using this
   clear hb hL hown
   by_cases hlt : k < nc
   · have hk0 : (0 : Int) ≤ (k : Int) := by omega
     have hk1 : (k : Int) < (nc : Int) := by omega
     rcases (H1.out.below HBW.out (Nat.le_refl _)).2 with h0 | ⟨p1, o1, rfl, g1⟩
     · omega
     obtain ⟨ra, rn, rc, e0, e1, e2, e3, e4, e5, e6, e7, e8⟩ := g1 k hlt
     obtain ⟨C, hC⟩ : ∃ C, f k = C := ⟨_, rfl⟩
     have HC : Hid (f k = C) := hC
     rw [hC] at e0 e1 e2 e3 e4 e5 e6 e7
     obtain ⟨y0, y1, y2, y3, y4, y5, y6, y7⟩ := C
     dsimp only at e0 e1 e2 e3 e4 e5 e6 e7
     clear g1 hC
     have hsz := HB.out.size
     by_cases hyt : y0 = t
     · have hyt' : (y0 == t) = true := by simp [hyt]
       have HN : Hid ((LL ++ [((⟨y0, y1, y2, y3, y4, y5, y6, y7⟩ : CaD), (ra, rn, rc))]).map Prod.fst = callsL f t (k + 1)) := by
         show _ = _
         rw [List.map_append, HL.out, callsL, HC.out, if_pos hyt]
         rfl
       have CV : Hid (∀ (x : World), (x.alloc (.cells (caCells ((⟨y0, y1, y2, y3, y4, y5, y6, y7⟩ : CaD), (ra, rn, rc))).toArray 93)) = x.alloc (.cells #[.int .i64 y0, .int .i64 y1, .int .i64 y2, .int .i64 y3, .int .i64 y4, .int .i64 y5, .int .i64 y6, .int .i64 y7, .slice ra rn rc] 93)) := fun _ => rfl
       clear hyt
       go_wp2_with
         (at_builtin
          refine wpList_append_own _ rfl _ _ 33 rfl W.heap.size 93 i0 (.agg #[.int .i64 0, .int .i64 0, .int .i64 0, .int .i64 0, .int .i64 0, .int .i64 0, .int .i64 0, .int .i64 0, .slice none 0 0]) 9 88 Tryz.underlying33 hi hz0 hz1 hz2 rfl (by decide) _ _ _ rfl ((HO.out.alloc _).alloc _) ⟨wr.heap.size + 1, 0, none⟩ 1 1 (caCells ((⟨y0, y1, y2, y3, y4, y5, y6, y7⟩ : CaD), (ra, rn, rc))) rfl rfl (by
            have h := nine_at (wr.alloc (.cells #[.int .i64 y0, .int .i64 y1, .int .i64 y2, .int .i64 y3, .int .i64 y4, .int .i64 y5, .int .i64 y6, .int .i64 y7, .slice ra rn rc] 93)) ((⟨y0, y1, y2, y3, y4, y5, y6, y7⟩ : CaD), (ra, rn, rc)) 93
            rw [World.size_alloc] at h
            exact h) (nine_one _) (by unfold maxLen; omega) (by omega) (by simp; omega) ?_
          intro v' w4 hown4 hgrow4 _
          have hbx : Below W.heap.size W ((wr.alloc (.cells #[.int .i64 y0, .int .i64 y1, .int .i64 y2, .int .i64 y3, .int .i64 y4, .int .i64 y5, .int .i64 y6, .int .i64 y7, .slice ra rn rc] 93)).alloc (.cells #[.int .i64 y0, .int .i64 y1, .int .i64 y2, .int .i64 y3, .int .i64 y4, .int .i64 y5, .int .i64 y6, .int .i64 y7, .slice ra rn rc] 93)) := (HB.out.alloc hsz _).alloc (by simp; omega) _
          have HB4 : Hid (Below W.heap.size W w4) := hbx.grown hgrow4 (by simp; omega) (fun k e => (HO.out.lt k e).1)
          have HO4 : Hid (w4.ownsRow W.heap.size 93 9 v' (LL ++ [((⟨y0, y1, y2, y3, y4, y5, y6, y7⟩ : CaD), (ra, rn, rc))]).length ((LL ++ [((⟨y0, y1, y2, y3, y4, y5, y6, y7⟩ : CaD), (ra, rn, rc))]).flatMap caCells)) := by
            show w4.ownsRow _ _ _ _ _ _
            rw [List.length_append, List.flatMap_append]
            simpa using hown4
          clear hown4 hgrow4 hbx)
       go_wp2
       exact ⟨⟨k + 1, _, by omega, by go_num, HN.out, HO4.out, HB4.out⟩, by simp [intOf]; omega⟩
     · have hyt' : (y0 == t) = false := by simp [hyt]
       have HN : Hid (LL.map Prod.fst = callsL f t (k + 1)) := by
         show _ = _
         rw [HL.out, callsL, HC.out, if_neg hyt, List.append_nil]
       have HB2 : Hid (Below W.heap.size W (wr.alloc (.cells #[.int .i64 y0, .int .i64 y1, .int .i64 y2, .int .i64 y3, .int .i64 y4, .int .i64 y5, .int .i64 y6, .int .i64 y7, .slice ra rn rc] 93))) := HB.out.alloc hsz _
       have HO2 : Hid ((wr.alloc (.cells #[.int .i64 y0, .int .i64 y1, .int .i64 y2, .int .i64 y3, .int .i64 y4, .int .i64 y5, .int .i64 y6, .int .i64 y7, .slice ra rn rc] 93)).ownsRow W.heap.size 93 9 u5 LL.length (LL.flatMap caCells)) := HO.out.alloc _
       clear hyt
       go_wp2
       exact ⟨⟨k + 1, LL, by omega, by go_num, HN.out, HO2.out, HB2.out⟩, by simp [intOf]; omega⟩
   · obtain rfl : nc = k := by omega
     obtain ⟨a, c, rfl, hc, hat⟩ := own_cas HO.out HL.out (by omega)
     have HAT : Hid (CasAt wr a (callsL f t nc).length (fun j => (callsL f t nc).getD j default)) := hat
     clear hat
     go_wp2
     go_ret
     exact ⟨⟨a, c, rfl, hc, HAT.out⟩, HBW.out⟩
end
end Go.Proofs.YtcfimaffeopbbaaGreatDoor
