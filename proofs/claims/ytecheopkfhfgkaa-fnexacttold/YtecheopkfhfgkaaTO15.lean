/- Texts joined: LawToW, DatP. -/
import Derived.Test.YtecheopkfhfgkaaTO04
import Derived.Test.YtecheopkfhfgkaaTO05
import Derived.Test.YtecheopkfhfgkaaTO06
import Derived.Test.YtecheopkfhfgkaaTO07
import Derived.Test.YtecheopkfhfgkaaTO10
import Derived.Test.YtecheopkfhfgkaaTO11
import Derived.Test.YtecheopkfhfgkaaTO12
import Derived.Test.YtecheopkfhfgkaaTO14
import Derived.Below
import Derived.Lib.SmallJoins
import Derived.Deep.RegionHeld3
import Derived.Deep.Cut
import Derived.Test.YtecheopkfhfgkaaTO02
import Derived.Handy
set_option maxHeartbeats 16000000
set_option maxRecDepth 100000
namespace Go.Proofs.Ytecheopkfhfgkaa
open Go.ChangeShapes Go.WideShapes Go.ChangeAt Go.RowKit Go.Joins
namespace fnExactTold
theorem atLoose {w : World} {us : List Value} {cs : List Cel} (h : AtL true w us cs) : AtL false w us cs := ⟨h.1, fun j v c hv hc => (h.2 j v c hv hc).loose⟩
def tx0 : Int → ByteArray := fun _ => ByteArray.empty
theorem eight_box {w : World} {b : Nat} {x0 x1 x2 x3 x4 x5 x6 x7 : Value} {T : TypeId} (h : Box w b #[x0, x1, x2, x3, x4, x5, x6, x7] T) : w.cell? ⟨b, 0, none⟩ = some x0 ∧ w.cell? ⟨b, 1, none⟩ = some x1 ∧ w.cell? ⟨b, 2, none⟩ = some x2 ∧ w.cell? ⟨b, 3, none⟩ = some x3 ∧ w.cell? ⟨b, 4, none⟩ = some x4 ∧ w.cell? ⟨b, 5, none⟩ = some x5 ∧ w.cell? ⟨b, 6, none⟩ = some x6 ∧ w.cell? ⟨b, 7, none⟩ = some x7 := ⟨h.cell 0, h.cell 1, h.cell 2, h.cell 3, h.cell 4, h.cell 5, h.cell 6, h.cell 7⟩
def LT (cs : List Cel) : List CaR := toldL (fD (listC (nthC cs 4))) (rD (listC (nthC cs 4))) (lenC (nthC cs 4))
def ToSays (cs : List Cel) (w : World) (e : Ending) (w' : World) : Prop := (∃ v S, e = .returned v ∧ Own w' w.heap.size v (.l 34 9 (LT cs).length (toldC (LT cs))) S) ∧ Below w.heap.size w w'
theorem calls_of {w : World} {us : List Value} {cs : List Cel} (h : AtL true w us cs) (hs : HasL cs tyMachine) (hb : bigL cs ≤ 1048576) :
   ∃ v0 v1 v2 v3 ca cc v5 v6 v7, us = [v0, v1, v2, v3, .slice ca (lenC (nthC cs 4)) cc, v5, v6, v7] ∧ CasN w ca (lenC (nthC cs 4)) (fD (listC (nthC cs 4))) (rD (listC (nthC cs 4))) ∧ lenC (nthC cs 4) ≤ 1048576 := by
 obtain ⟨x0, x1, x2, x3, x4, x5, x6, x7, rfl, T0, T1, T2, T3, T4, T5, T6, T7⟩ := hs.c8
 obtain ⟨v0, v1, v2, v3, v4, v5, v6, v7, rfl, A0, A1, A2, A3, A4, A5, A6, A7⟩ := h.c8
 obtain ⟨n4, l4, rfl, e4⟩ := T4.list
 have hb4 : n4 + bigL l4 ≤ 1048576 := by simp only [bigL, Cel.big] at hb; omega
 obtain ⟨ca, cc, rfl, hC⟩ := at_calls_n A4 T4 (by omega)
 exact ⟨v0, v1, v2, v3, ca, cc, v5, v6, v7, rfl, hC, by show n4 ≤ _; omega⟩
theorem specC (us : List Value) (cs : List Cel) (w : World) (h : AtL true w us cs) (hs : HasL cs tyMachine) (hb : bigL cs ≤ 1048576) :
   Calls Try.prog 11 #[.agg us.toArray] w (ToSays cs w) := by
 obtain ⟨v0, v1, v2, v3, ca, cc, v5, v6, v7, rfl, hC, hm⟩ := calls_of h hs hb
 refine (spec_Told v0 v1 v2 v3 v5 v6 v7 ca _ cc _ _ w hm hC).mono fun e w' ⟨v, he, hT, hb⟩ => ?_
 obtain ⟨S, ho⟩ := hT.ex
 exact ⟨⟨v, S, he, ho⟩, hb⟩
theorem implC (us : List Value) (cs : List Cel) (w : World) (h : AtL true w us cs) (hs : HasL cs tyMachine) (hb : bigL cs ≤ 1048576) :
   Calls Try.prog 13 #[.agg us.toArray] w (ToSays cs w) := by
 obtain ⟨v0, v1, v2, v3, ca, cc, v5, v6, v7, rfl, hC, hm⟩ := calls_of h hs hb
 refine (implTold_any v0 v1 v2 v3 v5 v6 v7 ca _ cc _ _ w hm hC).mono fun e w' ⟨v, he, hT, hb⟩ => ?_
 obtain ⟨S, ho⟩ := hT.ex
 exact ⟨⟨v, S, he, ho⟩, hb⟩
theorem walk (vs : List Value) (cs : List Cel) (w : World) (h : InL w vs cs) (hs : HasL cs tyMachine) :
   Calls Try.prog 4 #[.agg vs.toArray] w fun e w' => e = .returned (.bool true) ∧ Below w.heap.size w w' := by
 have hl8 : vs.length = 8 := by rw [h.1, hs.1]; rfl
 obtain ⟨v0, v1, v2, v3, v4, v5, v6, v7, rfl⟩ : ∃ v0 v1 v2 v3 v4 v5 v6 v7, vs = [v0, v1, v2, v3, v4, v5, v6, v7] := by
   match vs, hl8 with
   | [a0, a1, a2, a3, a4, a5, a6, a7], _ => exact ⟨_, _, _, _, _, _, _, _, rfl⟩
 have HIN : Hid (InL w [v0, v1, v2, v3, v4, v5, v6, v7] cs) := h
 have HS : Hid (HasL cs tyMachine) := hs
 obtain ⟨sz, hsz⟩ : ∃ sz, w.heap.size = sz := ⟨_, rfl⟩
 obtain ⟨W, hW⟩ : ∃ W, w.alloc (.cells #[v0, v1, v2, v3, v4, v5, v6, v7] 46) = W := ⟨_, rfl⟩
 have hb0 : Below sz w W := by rw [← hW, ← hsz]; exact (Below.refl _ w).alloc (Nat.le_refl _) _
 have hWs : W.heap.size = sz + 1 := by rw [← hW, ← hsz]; simp
 have XA : Hid (Box W sz #[v0, v1, v2, v3, v4, v5, v6, v7] 46) := by rw [← hW, ← hsz]; exact (box_of w _ _)
 have HW : Hid (w.alloc (.cells #[v0, v1, v2, v3, v4, v5, v6, v7] 46) = W) := hW
 have HSZ : Hid (w.heap.size = sz) := hsz
 have HB0 : Hid (Below sz w W) := hb0
 have HWS : Hid (W.heap.size = sz + 1) := hWs
 have hsw : Hid (w.heap.size ≤ sz) := by rw [hsz]; exact Nat.le_refl _
 have CA : Hid (∀ y, Below W.heap.size W y → y.cell? ⟨sz, 0, none⟩ = some v0 ∧ y.cell? ⟨sz, 1, none⟩ = some v1 ∧ y.cell? ⟨sz, 2, none⟩ = some v2 ∧ y.cell? ⟨sz, 3, none⟩ = some v3 ∧ y.cell? ⟨sz, 4, none⟩ = some v4 ∧ y.cell? ⟨sz, 5, none⟩ = some v5 ∧ y.cell? ⟨sz, 6, none⟩ = some v6 ∧ y.cell? ⟨sz, 7, none⟩ = some v7) := fun y hb => eight_box (XA.out.below hb XA.out.lt)
 have UP : Hid (∀ y, Below W.heap.size W y → Below sz w y) := fun y hb => HB0.out.trans (hb.mono (by have := HWS.out; omega))
 clear hW hb0 hWs hsz h hs hl8
 show Calls Try.prog 4 #[.agg #[v0, v1, v2, v3, v4, v5, v6, v7]] w fun e w' => e = .returned (.bool true) ∧ Below w.heap.size w w'
 go_enter Try.func4, Try.ntmps4
 go_wp2_with fail
 rw [HW.out]
 (try rw [HSZ.out])
 refine (dSzMachine [v0, v1, v2, v3, v4, v5, v6, v7] cs 1048576 W (HIN.out.on HB0.out hsw.out) HS.out (by omega) (by omega)).mono ?_
 rintro e w1 ⟨hb1, ⟨r, rfl, hr0, hr1⟩ | ⟨rfl, hbig⟩⟩
 case inr =>
   have hall : Below sz w w1 := UP.out _ hb1
   clear hb1 hbig
   go_wp2
   go_ret
   exact ⟨rfl, by rw [HSZ.out]; exact hall⟩
 have BIG : Hid (bigL cs ≤ 1048576) := by show _ ≤ _; omega
 have hr2 : ¬ r < 0 := by omega
 have hr3 : decide (r < 0) = false := decide_eq_false hr2
 have HB1 : Hid (Below W.heap.size W w1) := hb1
 have INS : Hid (∀ y, Below sz w y → AtL false y [v0, v1, v2, v3, v4, v5, v6, v7] cs) := fun y hb => (HIN.out.on hb hsw.out).at (by have := BIG.out; omega)
 have CM : Hid ((1 : Int) + (tcnt cs : Int) ≤ 4611686018427387904) := machine_cnt HS.out BIG.out
 clear hb1 hr0 hr1
 obtain ⟨y0, y1, y2, y3, y4, y5, y6, y7⟩ := CA.out _ HB1.out
 go_wp2_with fail
 refine (dToMachine [v0, v1, v2, v3, v4, v5, v6, v7] cs _ (INS.out _ (UP.out _ HB1.out)) HS.out).mono ?_
 rintro e w2 ⟨hb2, ss, S2, rfl, hO2⟩
 have HB2 : Hid (Below W.heap.size W w2) := HB1.out.trans (hb2.mono HB1.out.size)
 have SA : Hid (AtL true w2 ss cs) := hO2.at
 obtain ⟨n, hn⟩ : ∃ n, (LT cs).length = n := ⟨_, rfl⟩
 obtain ⟨an, han⟩ : ∃ an, toldC (LT cs) = an := ⟨_, rfl⟩
 have HNA : Hid ((LT cs).length = n ∧ toldC (LT cs) = an) := ⟨hn, han⟩
 have HCT : Hid (Has (.l 34 9 n an) (.l 34 9 tyCall)) := by have := toldC_has (LT cs); rw [hn, han] at this; exact this
 have CT1 : Hid ((1 : Int) + (cntL an : Int) ≤ 4611686018427387904) := by
   obtain ⟨_, _, _, _, ca, cc, _, _, _, _, hC, hm⟩ := calls_of SA.out HS.out BIG.out
   have h1 := toldC_cnt hC.small
   have h2 := toldL_len (fD (listC (nthC cs 4))) (rD (listC (nthC cs 4))) (lenC (nthC cs 4))
   have h3 : cntL an ≤ (LT cs).length * 1048600 := by rw [← han]; exact h1
   have h4 : (LT cs).length ≤ 1048576 := Nat.le_trans h2 hm
   show _ ≤ _
   omega
 have SP : Hid (∀ y, ∀ ws, AtL true y ws cs → Calls Try.prog 11 #[.agg ws.toArray] y fun e w' => (∃ v S, e = .returned v ∧ Own w' y.heap.size v (.l 34 9 n an) S) ∧ Below y.heap.size y w') := fun y ws h => by
   have := specC ws cs y h HS.out BIG.out
   unfold ToSays at this
   rw [hn, han] at this
   exact this
 have IM : Hid (∀ y, ∀ ws, AtL true y ws cs → Calls Try.prog 13 #[.agg ws.toArray] y fun e w' => (∃ v S, e = .returned v ∧ Own w' y.heap.size v (.l 34 9 n an) S) ∧ Below y.heap.size y w') := fun y ws h => by
   have := implC ws cs y h HS.out BIG.out
   unfold ToSays at this
   rw [hn, han] at this
   exact this
 clear y0 y1 y2 y3 y4 y5 y6 y7 hO2 hb2 hn han
 go_wp2_with fail
 refine (SP.out _ ss SA.out).mono ?_
 rintro e W4 ⟨⟨sv, S3, rfl, hO3⟩, hb3⟩
 have SPA : Hid (∀ y, Below W4.heap.size W4 y → At false y sv (.l 34 9 n an)) := fun y hb => (hO3.at.on hb (Nat.le_refl _)).loose
 have HA4 : Hid (Below W.heap.size W W4) := HB2.out.trans (hb3.mono HB2.out.size)
 have UP4 : Hid (∀ y, Below W4.heap.size W4 y → Below W.heap.size W y) := fun y hb => HA4.out.trans (hb.mono HA4.out.size)
 clear hb3 SA hO3 SP
 obtain ⟨y0, y1, y2, y3, y4, y5, y6, y7⟩ := CA.out _ HA4.out
 go_wp2_with fail
 refine (dToMachine [v0, v1, v2, v3, v4, v5, v6, v7] cs _ (INS.out _ (UP.out _ HA4.out)) HS.out).mono ?_
 rintro e w5 ⟨hb5, us, S5, rfl, hO5⟩
 obtain ⟨b0, m0, k0, b1, m1, k1, b2, m2, k2, j3, b4, m4, k4, b5, m5, k5, b6, m6, k6, j7, rfl⟩ := forms8 hO5.at HS.out
 obtain ⟨q5, hq5⟩ : ∃ q5, w5.heap.size = q5 := ⟨_, rfl⟩
 obtain ⟨W5, hW5⟩ : ∃ W5, w5.alloc (.cells #[(.slice b0 m0 k0), (.slice b1 m1 k1), (.slice b2 m2 k2), (.int .i64 j3), (.slice b4 m4 k4), (.slice b5 m5 k5), (.slice b6 m6 k6), (.int .i64 j7)] 57) = W5 := ⟨_, rfl⟩
 have hx5 : Below w5.heap.size w5 W5 := by rw [← hW5]; exact (Below.refl _ _).alloc (Nat.le_refl _) _
 have X5 : Hid (Box W5 q5 #[(.slice b0 m0 k0), (.slice b1 m1 k1), (.slice b2 m2 k2), (.int .i64 j3), (.slice b4 m4 k4), (.slice b5 m5 k5), (.slice b6 m6 k6), (.int .i64 j7)] 57) := by rw [← hW5, ← hq5]; exact box_of w5 _ _
 have LT5 : Hid (∀ x, S5 x → W4.heap.size ≤ x ∧ x < q5) := fun x hx => by have := hO5.lt x hx; rw [hq5] at this; exact this
 have OU5 : Hid (OwnL W5 W4.heap.size [(.slice b0 m0 k0), (.slice b1 m1 k1), (.slice b2 m2 k2), (.int .i64 j3), (.slice b4 m4 k4), (.slice b5 m5 k5), (.slice b6 m6 k6), (.int .i64 j7)] cs S5) := hO5.on hx5 (Nat.le_refl _)
 have HB45 : Hid (Below W4.heap.size W4 W5) := hb5.trans (hx5.mono hb5.size)
 have L5 : q5 < W5.heap.size := X5.out.lt
 have HW5 : Hid (w5.alloc (.cells #[(.slice b0 m0 k0), (.slice b1 m1 k1), (.slice b2 m2 k2), (.int .i64 j3), (.slice b4 m4 k4), (.slice b5 m5 k5), (.slice b6 m6 k6), (.int .i64 j7)] 57) = W5) := hW5
 have E5 : Hid (w5.heap.size = q5) := hq5
 clear hO5 hb5 hW5 hq5 hx5 y0 y1 y2 y3 y4 y5 y6 y7
 go_upto_region 7 with (fail)
 rw [HW5.out]
 (try rw [E5.out])
 clear HW5 E5
 obtain ⟨y0, y1, y2, y3, y4, y5, y6, y7⟩ := eight_box X5.out
 go_wp2_with fail
 refine (IM.out _ [(.slice b0 m0 k0), (.slice b1 m1 k1), (.slice b2 m2 k2), (.int .i64 j3), (.slice b4 m4 k4), (.slice b5 m5 k5), (.slice b6 m6 k6), (.int .i64 j7)] OU5.out.at).mono ?_
 rintro e w7 ⟨⟨gv, S7, rfl, hO7⟩, hb7⟩
 have LT7 : Hid (∀ x, S7 x → W5.heap.size ≤ x ∧ x < w7.heap.size) := fun x hx => hO7.lt x hx
 have OG7 : Hid (Own w7 W5.heap.size gv (.l 34 9 n an) S7) := hO7
 have HB57 : Hid (Below W5.heap.size W5 w7) := hb7
 have HB47 : Hid (Below W4.heap.size W4 w7) := HB45.out.trans (HB57.out.mono HB45.out.size)
 clear hO7 hb7 y0 y1 y2 y3 y4 y5 y6 y7
 go_wp2_with fail
 refine (dEqCallS gv sv n an _ OG7.out.at.loose (SPA.out _ HB47.out) HCT.out).mono ?_
 rintro e w9 ⟨rfl, hb9⟩
 have HB79 : Hid (Below w7.heap.size w7 w9) := hb9
 have HB59 : Hid (Below W5.heap.size W5 w9) := HB57.out.trans (hb9.mono HB57.out.size)
 have HB49 : Hid (Below W4.heap.size W4 w9) := HB47.out.trans (hb9.mono HB47.out.size)
 clear hb9
 have KS : Hid (∀ y, Below w9.heap.size w9 y → (y.cell? ⟨q5, 0, none⟩ = some (.slice b0 m0 k0) ∧ y.cell? ⟨q5, 1, none⟩ = some (.slice b1 m1 k1) ∧ y.cell? ⟨q5, 2, none⟩ = some (.slice b2 m2 k2) ∧ y.cell? ⟨q5, 3, none⟩ = some (.int .i64 j3) ∧ y.cell? ⟨q5, 4, none⟩ = some (.slice b4 m4 k4) ∧ y.cell? ⟨q5, 5, none⟩ = some (.slice b5 m5 k5) ∧ y.cell? ⟨q5, 6, none⟩ = some (.slice b6 m6 k6) ∧ y.cell? ⟨q5, 7, none⟩ = some (.int .i64 j7)) ∧ y.cell? ⟨sz, 0, none⟩ = some v0 ∧ y.cell? ⟨sz, 1, none⟩ = some v1 ∧ y.cell? ⟨sz, 2, none⟩ = some v2 ∧ y.cell? ⟨sz, 3, none⟩ = some v3 ∧ y.cell? ⟨sz, 4, none⟩ = some v4 ∧ y.cell? ⟨sz, 5, none⟩ = some v5 ∧ y.cell? ⟨sz, 6, none⟩ = some v6 ∧ y.cell? ⟨sz, 7, none⟩ = some v7) := fun y hb => by
   have hb' : Below W5.heap.size W5 y := HB59.out.trans (hb.mono HB59.out.size)
   exact ⟨eight_box (X5.out.below hb' X5.out.lt), CA.out y (UP4.out y (HB45.out.trans (hb'.mono HB45.out.size)))⟩
 have K0 : Hid ((w9.drew.cell? ⟨q5, 0, none⟩ = some (.slice b0 m0 k0) ∧ w9.drew.cell? ⟨q5, 1, none⟩ = some (.slice b1 m1 k1) ∧ w9.drew.cell? ⟨q5, 2, none⟩ = some (.slice b2 m2 k2) ∧ w9.drew.cell? ⟨q5, 3, none⟩ = some (.int .i64 j3) ∧ w9.drew.cell? ⟨q5, 4, none⟩ = some (.slice b4 m4 k4) ∧ w9.drew.cell? ⟨q5, 5, none⟩ = some (.slice b5 m5 k5) ∧ w9.drew.cell? ⟨q5, 6, none⟩ = some (.slice b6 m6 k6) ∧ w9.drew.cell? ⟨q5, 7, none⟩ = some (.int .i64 j7)) ∧ w9.drew.cell? ⟨sz, 0, none⟩ = some v0 ∧ w9.drew.cell? ⟨sz, 1, none⟩ = some v1 ∧ w9.drew.cell? ⟨sz, 2, none⟩ = some v2 ∧ w9.drew.cell? ⟨sz, 3, none⟩ = some v3 ∧ w9.drew.cell? ⟨sz, 4, none⟩ = some v4 ∧ w9.drew.cell? ⟨sz, 5, none⟩ = some v5 ∧ w9.drew.cell? ⟨sz, 6, none⟩ = some v6 ∧ w9.drew.cell? ⟨sz, 7, none⟩ = some v7) := KS.out _ (Below.refl _ _).drew
 have INS9 : Hid (AtL false w9.drew [v0, v1, v2, v3, v4, v5, v6, v7] cs) := INS.out _ (UP.out _ (UP4.out _ HB49.out)).drew
 have UA9 : Hid (AtL false w9 [(.slice b0 m0 k0), (.slice b1 m1 k1), (.slice b2 m2 k2), (.int .i64 j3), (.slice b4 m4 k4), (.slice b5 m5 k5), (.slice b6 m6 k6), (.int .i64 j7)] cs) := (atLoose OU5.out.at).on HB59.out (Nat.le_refl _)
 go_upto_region 10 with (fail)
 go_region_held3 (fun w' => (w'.cell? ⟨q5, 0, none⟩ = some (.slice b0 m0 k0) ∧ w'.cell? ⟨q5, 1, none⟩ = some (.slice b1 m1 k1) ∧ w'.cell? ⟨q5, 2, none⟩ = some (.slice b2 m2 k2) ∧ w'.cell? ⟨q5, 3, none⟩ = some (.int .i64 j3) ∧ w'.cell? ⟨q5, 4, none⟩ = some (.slice b4 m4 k4) ∧ w'.cell? ⟨q5, 5, none⟩ = some (.slice b5 m5 k5) ∧ w'.cell? ⟨q5, 6, none⟩ = some (.slice b6 m6 k6) ∧ w'.cell? ⟨q5, 7, none⟩ = some (.int .i64 j7)) ∧ w'.cell? ⟨sz, 0, none⟩ = some v0 ∧ w'.cell? ⟨sz, 1, none⟩ = some v1 ∧ w'.cell? ⟨sz, 2, none⟩ = some v2 ∧ w'.cell? ⟨sz, 3, none⟩ = some v3 ∧ w'.cell? ⟨sz, 4, none⟩ = some v4 ∧ w'.cell? ⟨sz, 5, none⟩ = some v5 ∧ w'.cell? ⟨sz, 6, none⟩ = some v6 ∧ w'.cell? ⟨sz, 7, none⟩ = some v7)
   (first | (with_reducible exact K2.out) | (with_reducible exact K1.out) | (with_reducible exact K0.out) | go_keep)
   (first
   | (go_at_call 12
      refine (dToMachine [v0, v1, v2, v3, v4, v5, v6, v7] cs _ INS9.out HS.out).mono ?_
      rintro e w10 ⟨hb10, ts, S10, rfl, hO10⟩
      have hb10' : Below w9.heap.size w9 w10 := (Below.refl w9.heap.size w9).drew.trans hb10
      have HB10 : Hid (Below w9.heap.size w9 w10) := hb10'
      have SA10 : Hid (AtL false w10 ts cs) := ⟨hO10.1, fun j v c hv hc => (hO10.at.2 j v c hv hc).loose⟩
      have K1 : Hid ((w10.cell? ⟨q5, 0, none⟩ = some (.slice b0 m0 k0) ∧ w10.cell? ⟨q5, 1, none⟩ = some (.slice b1 m1 k1) ∧ w10.cell? ⟨q5, 2, none⟩ = some (.slice b2 m2 k2) ∧ w10.cell? ⟨q5, 3, none⟩ = some (.int .i64 j3) ∧ w10.cell? ⟨q5, 4, none⟩ = some (.slice b4 m4 k4) ∧ w10.cell? ⟨q5, 5, none⟩ = some (.slice b5 m5 k5) ∧ w10.cell? ⟨q5, 6, none⟩ = some (.slice b6 m6 k6) ∧ w10.cell? ⟨q5, 7, none⟩ = some (.int .i64 j7)) ∧ w10.cell? ⟨sz, 0, none⟩ = some v0 ∧ w10.cell? ⟨sz, 1, none⟩ = some v1 ∧ w10.cell? ⟨sz, 2, none⟩ = some v2 ∧ w10.cell? ⟨sz, 3, none⟩ = some v3 ∧ w10.cell? ⟨sz, 4, none⟩ = some v4 ∧ w10.cell? ⟨sz, 5, none⟩ = some v5 ∧ w10.cell? ⟨sz, 6, none⟩ = some v6 ∧ w10.cell? ⟨sz, 7, none⟩ = some v7) := KS.out _ hb10'
      clear hb10 hb10' hO10)
   | (go_at_call 15
      refine (dEqMachine [(.slice b0 m0 k0), (.slice b1 m1 k1), (.slice b2 m2 k2), (.int .i64 j3), (.slice b4 m4 k4), (.slice b5 m5 k5), (.slice b6 m6 k6), (.int .i64 j7)] ts cs _ (UA9.out.on HB10.out (Nat.le_refl _)) SA10.out HS.out).mono ?_
      rintro e w11 ⟨rfl, hb11⟩
      have hb11' : Below w9.heap.size w9 w11 := HB10.out.trans (hb11.mono HB10.out.size)
      have HB11 : Hid (Below w9.heap.size w9 w11) := hb11'
      have K2 : Hid ((w11.cell? ⟨q5, 0, none⟩ = some (.slice b0 m0 k0) ∧ w11.cell? ⟨q5, 1, none⟩ = some (.slice b1 m1 k1) ∧ w11.cell? ⟨q5, 2, none⟩ = some (.slice b2 m2 k2) ∧ w11.cell? ⟨q5, 3, none⟩ = some (.int .i64 j3) ∧ w11.cell? ⟨q5, 4, none⟩ = some (.slice b4 m4 k4) ∧ w11.cell? ⟨q5, 5, none⟩ = some (.slice b5 m5 k5) ∧ w11.cell? ⟨q5, 6, none⟩ = some (.slice b6 m6 k6) ∧ w11.cell? ⟨q5, 7, none⟩ = some (.int .i64 j7)) ∧ w11.cell? ⟨sz, 0, none⟩ = some v0 ∧ w11.cell? ⟨sz, 1, none⟩ = some v1 ∧ w11.cell? ⟨sz, 2, none⟩ = some v2 ∧ w11.cell? ⟨sz, 3, none⟩ = some v3 ∧ w11.cell? ⟨sz, 4, none⟩ = some v4 ∧ w11.cell? ⟨sz, 5, none⟩ = some v5 ∧ w11.cell? ⟨sz, 6, none⟩ = some v6 ∧ w11.cell? ⟨sz, 7, none⟩ = some v7) := KS.out _ hb11'
      clear hb11 hb11'))
 have HB711 : Hid (Below w7.heap.size w7 w11) := HB79.out.trans (HB11.out.mono HB79.out.size)
 have HB511 : Hid (Below W5.heap.size W5 w11) := HB59.out.trans (HB11.out.mono HB59.out.size)
 have HB411 : Hid (Below W4.heap.size W4 w11) := HB49.out.trans (HB11.out.mono HB49.out.size)
 have OU11 : Hid (OwnL w11 W4.heap.size [(.slice b0 m0 k0), (.slice b1 m1 k1), (.slice b2 m2 k2), (.int .i64 j3), (.slice b4 m4 k4), (.slice b5 m5 k5), (.slice b6 m6 k6), (.int .i64 j7)] cs S5) := OU5.out.on HB511.out (Nat.le_refl _)
 clear K0 K1 K2 KS SA10 HB10 HB11 HB79 HB59 HB49 UA9 INS9
 obtain ⟨y0, y1, y2, y3, y4, y5, y6, y7⟩ := eight_box (X5.out.below HB511.out X5.out.lt)
 go_wp2_with fail
 refine (dMarkMachine tx0 W4.heap.size [(.slice b0 m0 k0), (.slice b1 m1 k1), (.slice b2 m2 k2), (.int .i64 j3), (.slice b4 m4 k4), (.slice b5 m5 k5), (.slice b6 m6 k6), (.int .i64 j7)] cs S5 1 w11 OU11.out HS.out (by omega) CM.out).mono ?_
 rintro e w12 ⟨rfl, -, kp⟩
 obtain ⟨kk, hkk⟩ : ∃ kk : Int, (1 : Int) + (tcnt cs : Int) = kk := ⟨_, rfl⟩
 have hk0 : ¬ kk < 0 := by omega
 rw [hkk]
 have OG12 : Hid (Own w12 W5.heap.size gv (.l 34 9 n an) S7) := (OG7.out.on HB711.out (Nat.le_refl _)).heap fun x hx => kp.oth x (by have h1 := (OG7.out.lt x hx).2; have h2 := HB711.out.size; omega) (fun h => by have := (LT5.out _ h).2; have := (LT7.out x hx).1; omega)
 have HB412 : Hid (Below W4.heap.size W4 w12) := HB411.out.trans (kp.below (fun x hx => (LT5.out x hx).1) HB411.out.size)
 clear kp hkk y0 y1 y2 y3 y4 y5 y6 y7
 go_wp2_with fail
 refine (dEqCallS gv sv n an _ OG12.out.at.loose (SPA.out _ HB412.out) HCT.out).mono ?_
 rintro e w13 ⟨rfl, hb13⟩
 have OG13 : Hid (Own w13 W5.heap.size gv (.l 34 9 n an) S7) := OG12.out.on hb13 (Nat.le_refl _)
 have HB413 : Hid (Below W4.heap.size W4 w13) := HB412.out.trans (hb13.mono HB412.out.size)
 clear hb13
 go_wp2_with fail
 refine (dMarkCallS tx0 W5.heap.size gv n an S7 1 w13 OG13.out HCT.out (by omega) CT1.out).mono ?_
 rintro e w14 ⟨rfl, hO14, kp⟩
 obtain ⟨r', hr'⟩ : ∃ r' : Int, (1 : Int) + (cntL an : Int) = r' := ⟨_, rfl⟩
 have hr0 : ¬ r' < 0 := by omega
 have HR : Hid ((1 : Int) + (cntL an : Int) = r') := hr'
 simp only [Cel.cnt]
 rw [hr']
 have OG14 : Hid (Own w14 W5.heap.size gv (.l 34 9 n (markL tx0 an 1)) S7) := hO14
 have HB414 : Hid (Below W4.heap.size W4 w14) := HB413.out.trans (kp.below (fun x hx => by have := (LT7.out x hx).1; have := HB45.out.size; omega) HB413.out.size)
 clear hO14 kp hr'
 go_wp2_with fail
 refine (dHeldCallS tx0 gv n an 1 w14 OG14.out.at.loose HCT.out (by omega) CT1.out).mono ?_
 rintro e w15 ⟨rfl, hb15⟩
 rw [HR.out]
 have OG15 : Hid (Own w15 W5.heap.size gv (.l 34 9 n (markL tx0 an 1)) S7) := OG14.out.on hb15 (Nat.le_refl _)
 have HB415 : Hid (Below W4.heap.size W4 w15) := HB414.out.trans (hb15.mono HB414.out.size)
 clear hb15
 obtain ⟨y0, y1, y2, y3, y4, y5, y6, y7⟩ := CA.out _ (UP4.out _ HB415.out)
 go_wp2_with fail
 refine (dToMachine [v0, v1, v2, v3, v4, v5, v6, v7] cs _ (INS.out _ (UP.out _ (UP4.out _ HB415.out))) HS.out).mono ?_
 rintro e w16 ⟨hb16, ks, S16, rfl, hO16⟩
 have HB1516 : Hid (Below w15.heap.size w15 w16) := hb16
 have SA16 : Hid (AtL true w16 ks cs) := hO16.at
 clear y0 y1 y2 y3 y4 y5 y6 y7 hO16 hb16
 go_wp2_with fail
 refine (IM.out _ ks SA16.out).mono ?_
 rintro e w17 ⟨⟨kv, S17, rfl, hO17⟩, hb17⟩
 have AK17 : Hid (At false w17 kv (.l 34 9 n an)) := hO17.at.loose
 have HB1517 : Hid (Below w15.heap.size w15 w17) := HB1516.out.trans (hb17.mono HB1516.out.size)
 have HB417 : Hid (Below W4.heap.size W4 w17) := HB415.out.trans (HB1517.out.mono HB415.out.size)
 clear hO17 hb17 SA16
 go_wp2_with fail
 refine (dEqCallS kv sv n an _ AK17.out (SPA.out _ HB417.out) HCT.out).mono ?_
 rintro e w18 ⟨rfl, hb18⟩
 have HB1518 : Hid (Below w15.heap.size w15 w18) := HB1517.out.trans (hb18.mono HB1517.out.size)
 have HB418 : Hid (Below W4.heap.size W4 w18) := HB417.out.trans (hb18.mono HB417.out.size)
 clear hb18
 go_wp2_with fail
 refine (dHeldCallS tx0 gv n an 1 w18 (OG15.out.on HB1518.out (Nat.le_refl _)).at.loose HCT.out (by omega) CT1.out).mono ?_
 rintro e w19 ⟨rfl, hb19⟩
 rw [HR.out]
 have hall : Below sz w w19 := UP.out _ (UP4.out _ (HB418.out.trans (hb19.mono HB418.out.size)))
 clear hb19
 go_wp2
 go_ret
 exact ⟨rfl, by rw [HSZ.out]; exact hall⟩
end fnExactTold
end Go.Proofs.Ytecheopkfhfgkaa
namespace Go.Proofs.Ytecheopkfhfgkaa
section
open Go.ChangeShapes Go.WideShapes Go.ChangeAt Go.RowKit Go.Joins
set_option linter.unusedSimpArgs false
theorem flatOp : Flat Try.prog 23 tyOp := by
 refine Flat.st 23 _ [[.i], [.i], [.i]] Try.underlying23 rfl (by kernel_rfl) ?_ ?_
 · intro i f g hf hg
   have hi : i < 3 := by have := (List.getElem?_eq_some_iff.1 hg).1; simpa using this
   rcases (show i = 0 ∨ i = 1 ∨ i = 2 by omega) with rfl | rfl | rfl <;> (simp at hf hg; subst hf hg)
   · exact ⟨rfl, by kernel_rfl⟩
   · exact ⟨rfl, by kernel_rfl⟩
   · exact ⟨rfl, by kernel_rfl⟩
 · intro i f g hf hg
   have hi : i < 3 := by have := (List.getElem?_eq_some_iff.1 hg).1; simpa using this
   rcases (show i = 0 ∨ i = 1 ∨ i = 2 by omega) with rfl | rfl | rfl <;> (simp at hf hg; subst hf hg)
   · exact Flat.i _ Try.underlying3
   · exact Flat.i _ Try.underlying3
   · exact Flat.i _ Try.underlying3
theorem flatPair : Flat Try.prog 144 tyPair := by
 refine Flat.st 144 _ [[.i], [.i]] Try.underlying144 rfl (by kernel_rfl) ?_ ?_
 · intro i f g hf hg
   have hi : i < 2 := by have := (List.getElem?_eq_some_iff.1 hg).1; simpa using this
   rcases (show i = 0 ∨ i = 1 by omega) with rfl | rfl <;> (simp at hf hg; subst hf hg)
   · exact ⟨rfl, by kernel_rfl⟩
   · exact ⟨rfl, by kernel_rfl⟩
 · intro i f g hf hg
   have hi : i < 2 := by have := (List.getElem?_eq_some_iff.1 hg).1; simpa using this
   rcases (show i = 0 ∨ i = 1 by omega) with rfl | rfl <;> (simp at hf hg; subst hf hg)
   · exact Flat.i _ Try.underlying3
   · exact Flat.i _ Try.underlying3
theorem flatHelp : Flat Try.prog 146 tyHelp := by
 refine Flat.st 146 _ [[.i], [.i], [.i], [.i]] Try.underlying146 rfl (by kernel_rfl) ?_ ?_
 · intro i f g hf hg
   have hi : i < 4 := by have := (List.getElem?_eq_some_iff.1 hg).1; simpa using this
   rcases (show i = 0 ∨ i = 1 ∨ i = 2 ∨ i = 3 by omega) with rfl | rfl | rfl | rfl <;> (simp at hf hg; subst hf hg)
   · exact ⟨rfl, by kernel_rfl⟩
   · exact ⟨rfl, by kernel_rfl⟩
   · exact ⟨rfl, by kernel_rfl⟩
   · exact ⟨rfl, by kernel_rfl⟩
 · intro i f g hf hg
   have hi : i < 4 := by have := (List.getElem?_eq_some_iff.1 hg).1; simpa using this
   rcases (show i = 0 ∨ i = 1 ∨ i = 2 ∨ i = 3 by omega) with rfl | rfl | rfl | rfl <;> (simp at hf hg; subst hf hg)
   · exact Flat.i _ Try.underlying3
   · exact Flat.i _ Try.underlying3
   · exact Flat.i _ Try.underlying3
   · exact Flat.i _ Try.underlying3
theorem flatEntry : Flat Try.prog 153 tyEntry := by
 refine Flat.st 153 _ [[.i], [.i], [.i]] Try.underlying153 rfl (by kernel_rfl) ?_ ?_
 · intro i f g hf hg
   have hi : i < 3 := by have := (List.getElem?_eq_some_iff.1 hg).1; simpa using this
   rcases (show i = 0 ∨ i = 1 ∨ i = 2 by omega) with rfl | rfl | rfl <;> (simp at hf hg; subst hf hg)
   · exact ⟨rfl, by kernel_rfl⟩
   · exact ⟨rfl, by kernel_rfl⟩
   · exact ⟨rfl, by kernel_rfl⟩
 · intro i f g hf hg
   have hi : i < 3 := by have := (List.getElem?_eq_some_iff.1 hg).1; simpa using this
   rcases (show i = 0 ∨ i = 1 ∨ i = 2 by omega) with rfl | rfl | rfl <;> (simp at hf hg; subst hf hg)
   · exact Flat.i _ Try.underlying3
   · exact Flat.i _ Try.underlying3
   · exact Flat.i _ Try.underlying3
theorem flatWord : Flat Try.prog 123 tyWord := by
 refine Flat.st 123 _ [[.i], [.i], [.i]] Try.underlying123 rfl (by kernel_rfl) ?_ ?_
 · intro i f g hf hg
   have hi : i < 3 := by have := (List.getElem?_eq_some_iff.1 hg).1; simpa using this
   rcases (show i = 0 ∨ i = 1 ∨ i = 2 by omega) with rfl | rfl | rfl <;> (simp at hf hg; subst hf hg)
   · exact ⟨rfl, by kernel_rfl⟩
   · exact ⟨rfl, by kernel_rfl⟩
   · exact ⟨rfl, by kernel_rfl⟩
 · intro i f g hf hg
   have hi : i < 3 := by have := (List.getElem?_eq_some_iff.1 hg).1; simpa using this
   rcases (show i = 0 ∨ i = 1 ∨ i = 2 by omega) with rfl | rfl | rfl <;> (simp at hf hg; subst hf hg)
   · exact Flat.i _ Try.underlying3
   · exact Flat.i _ Try.underlying3
   · exact Flat.i _ Try.underlying3
theorem flatRes : Flat Try.prog 26 tyRes := by
 refine Flat.st 26 _ [[.i], [.l 3 1 [.i]]] Try.underlying26 rfl (by kernel_rfl) ?_ ?_
 · intro i f g hf hg
   have hi : i < 2 := by have := (List.getElem?_eq_some_iff.1 hg).1; simpa using this
   rcases (show i = 0 ∨ i = 1 by omega) with rfl | rfl <;> (simp at hf hg; subst hf hg)
   · exact ⟨rfl, by kernel_rfl⟩
   · exact ⟨rfl, by kernel_rfl⟩
 · intro i f g hf hg
   have hi : i < 2 := by have := (List.getElem?_eq_some_iff.1 hg).1; simpa using this
   rcases (show i = 0 ∨ i = 1 by omega) with rfl | rfl <;> (simp at hf hg; subst hf hg)
   · exact Flat.i _ Try.underlying3
   · exact Flat.l _ _ 3 1 _ Try.underlying24 rfl (by decide) (by kernel_rfl) (Flat.i _ Try.underlying3)
theorem flatRows : Flat Try.prog 44 tyRows := by
 refine Flat.st 44 _ [[.l 3 1 [.i]], [.i]] Try.underlying44 rfl (by kernel_rfl) ?_ ?_
 · intro i f g hf hg
   have hi : i < 2 := by have := (List.getElem?_eq_some_iff.1 hg).1; simpa using this
   rcases (show i = 0 ∨ i = 1 by omega) with rfl | rfl <;> (simp at hf hg; subst hf hg)
   · exact ⟨rfl, by kernel_rfl⟩
   · exact ⟨rfl, by kernel_rfl⟩
 · intro i f g hf hg
   have hi : i < 2 := by have := (List.getElem?_eq_some_iff.1 hg).1; simpa using this
   rcases (show i = 0 ∨ i = 1 by omega) with rfl | rfl <;> (simp at hf hg; subst hf hg)
   · exact Flat.l _ _ 3 1 _ Try.underlying24 rfl (by decide) (by kernel_rfl) (Flat.i _ Try.underlying3)
   · exact Flat.i _ Try.underlying3
theorem flatThread : Flat Try.prog 95 tyThread := by
 refine Flat.st 95 _ [[.l 31 3 tyOp], [.i], [.b], [.l 138 2 tyPair], [.l 140 4 tyHelp]] Try.underlying95 rfl (by kernel_rfl) ?_ ?_
 · intro i f g hf hg
   have hi : i < 5 := by have := (List.getElem?_eq_some_iff.1 hg).1; simpa using this
   rcases (show i = 0 ∨ i = 1 ∨ i = 2 ∨ i = 3 ∨ i = 4 by omega) with rfl | rfl | rfl | rfl | rfl <;> (simp at hf hg; subst hf hg)
   · exact ⟨rfl, by kernel_rfl⟩
   · exact ⟨rfl, by kernel_rfl⟩
   · exact ⟨rfl, by kernel_rfl⟩
   · exact ⟨rfl, by kernel_rfl⟩
   · exact ⟨rfl, by kernel_rfl⟩
 · intro i f g hf hg
   have hi : i < 5 := by have := (List.getElem?_eq_some_iff.1 hg).1; simpa using this
   rcases (show i = 0 ∨ i = 1 ∨ i = 2 ∨ i = 3 ∨ i = 4 by omega) with rfl | rfl | rfl | rfl | rfl <;> (simp at hf hg; subst hf hg)
   · exact Flat.l _ _ 31 3 _ Try.underlying91 rfl (by decide) (by kernel_rfl) flatOp
   · exact Flat.i _ Try.underlying3
   · exact Flat.b _ Try.underlying4
   · exact Flat.l _ _ 138 2 _ Try.underlying92 rfl (by decide) (by kernel_rfl) flatPair
   · exact Flat.l _ _ 140 4 _ Try.underlying93 rfl (by decide) (by kernel_rfl) flatHelp
theorem flatDesc : Flat Try.prog 116 tyDesc := by
 refine Flat.st 116 _ [[.i], [.i], [.l 151 3 tyEntry], tyRes] Try.underlying116 rfl (by kernel_rfl) ?_ ?_
 · intro i f g hf hg
   have hi : i < 4 := by have := (List.getElem?_eq_some_iff.1 hg).1; simpa using this
   rcases (show i = 0 ∨ i = 1 ∨ i = 2 ∨ i = 3 by omega) with rfl | rfl | rfl | rfl <;> (simp at hf hg; subst hf hg)
   · exact ⟨rfl, by kernel_rfl⟩
   · exact ⟨rfl, by kernel_rfl⟩
   · exact ⟨rfl, by kernel_rfl⟩
   · exact ⟨rfl, by kernel_rfl⟩
 · intro i f g hf hg
   have hi : i < 4 := by have := (List.getElem?_eq_some_iff.1 hg).1; simpa using this
   rcases (show i = 0 ∨ i = 1 ∨ i = 2 ∨ i = 3 by omega) with rfl | rfl | rfl | rfl <;> (simp at hf hg; subst hf hg)
   · exact Flat.i _ Try.underlying3
   · exact Flat.i _ Try.underlying3
   · exact Flat.l _ _ 151 3 _ Try.underlying114 rfl (by decide) (by kernel_rfl) flatEntry
   · exact flatRes
theorem flatMem : Flat Try.prog 40 tyMem := by
 refine Flat.st 40 _ [[.l 121 3 tyWord], [.l 126 5 tyDesc]] Try.underlying40 rfl (by kernel_rfl) ?_ ?_
 · intro i f g hf hg
   have hi : i < 2 := by have := (List.getElem?_eq_some_iff.1 hg).1; simpa using this
   rcases (show i = 0 ∨ i = 1 by omega) with rfl | rfl <;> (simp at hf hg; subst hf hg)
   · exact ⟨rfl, by kernel_rfl⟩
   · exact ⟨rfl, by kernel_rfl⟩
 · intro i f g hf hg
   have hi : i < 2 := by have := (List.getElem?_eq_some_iff.1 hg).1; simpa using this
   rcases (show i = 0 ∨ i = 1 by omega) with rfl | rfl <;> (simp at hf hg; subst hf hg)
   · exact Flat.l _ _ 121 3 _ Try.underlying37 rfl (by decide) (by kernel_rfl) flatWord
   · exact Flat.l _ _ 126 5 _ Try.underlying38 rfl (by decide) (by kernel_rfl) flatDesc
theorem flatCall : Flat Try.prog 28 tyCall := by
 refine Flat.st 28 _ [[.i], tyOp, [.i], [.i], [.i], tyRes] Try.underlying28 rfl (by kernel_rfl) ?_ ?_
 · intro i f g hf hg
   have hi : i < 6 := by have := (List.getElem?_eq_some_iff.1 hg).1; simpa using this
   rcases (show i = 0 ∨ i = 1 ∨ i = 2 ∨ i = 3 ∨ i = 4 ∨ i = 5 by omega) with rfl | rfl | rfl | rfl | rfl | rfl <;> (simp at hf hg; subst hf hg)
   · exact ⟨rfl, by kernel_rfl⟩
   · exact ⟨rfl, by kernel_rfl⟩
   · exact ⟨rfl, by kernel_rfl⟩
   · exact ⟨rfl, by kernel_rfl⟩
   · exact ⟨rfl, by kernel_rfl⟩
   · exact ⟨rfl, by kernel_rfl⟩
 · intro i f g hf hg
   have hi : i < 6 := by have := (List.getElem?_eq_some_iff.1 hg).1; simpa using this
   rcases (show i = 0 ∨ i = 1 ∨ i = 2 ∨ i = 3 ∨ i = 4 ∨ i = 5 by omega) with rfl | rfl | rfl | rfl | rfl | rfl <;> (simp at hf hg; subst hf hg)
   · exact Flat.i _ Try.underlying3
   · exact flatOp
   · exact Flat.i _ Try.underlying3
   · exact Flat.i _ Try.underlying3
   · exact Flat.i _ Try.underlying3
   · exact flatRes
theorem flatMachine : Flat Try.prog 46 tyMachine := by
 refine Flat.st 46 _ [tyMem, [.l 103 5 tyThread], [.i], [.l 34 9 tyCall], [.l 3 1 [.i]], tyRows] Try.underlying46 rfl (by kernel_rfl) ?_ ?_
 · intro i f g hf hg
   have hi : i < 6 := by have := (List.getElem?_eq_some_iff.1 hg).1; simpa using this
   rcases (show i = 0 ∨ i = 1 ∨ i = 2 ∨ i = 3 ∨ i = 4 ∨ i = 5 by omega) with rfl | rfl | rfl | rfl | rfl | rfl <;> (simp at hf hg; subst hf hg)
   · exact ⟨rfl, by kernel_rfl⟩
   · exact ⟨rfl, by kernel_rfl⟩
   · exact ⟨rfl, by kernel_rfl⟩
   · exact ⟨rfl, by kernel_rfl⟩
   · exact ⟨rfl, by kernel_rfl⟩
   · exact ⟨rfl, by kernel_rfl⟩
 · intro i f g hf hg
   have hi : i < 6 := by have := (List.getElem?_eq_some_iff.1 hg).1; simpa using this
   rcases (show i = 0 ∨ i = 1 ∨ i = 2 ∨ i = 3 ∨ i = 4 ∨ i = 5 by omega) with rfl | rfl | rfl | rfl | rfl | rfl <;> (simp at hf hg; subst hf hg)
   · exact flatMem
   · exact Flat.l _ _ 103 5 _ Try.underlying41 rfl (by decide) (by kernel_rfl) flatThread
   · exact Flat.i _ Try.underlying3
   · exact Flat.l _ _ 34 9 _ Try.underlying42 rfl (by decide) (by kernel_rfl) flatCall
   · exact Flat.l _ _ 3 1 _ Try.underlying24 rfl (by decide) (by kernel_rfl) (Flat.i _ Try.underlying3)
   · exact flatRows
end
end Go.Proofs.Ytecheopkfhfgkaa
