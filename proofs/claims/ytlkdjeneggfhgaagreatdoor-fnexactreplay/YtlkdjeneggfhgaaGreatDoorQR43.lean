/- Texts joined: DatL, DatL2, LawReW, LaidE. -/
import Derived.Test.YtlkdjeneggfhgaaGreatDoorQR14
import Derived.Deep.RegionHeld3
import Derived.Deep.Cut
import Derived.Handy
import Derived.Test.YtlkdjeneggfhgaaGreatDoorQR16
import Derived.Test.YtlkdjeneggfhgaaGreatDoorQR34
import Derived.Test.YtlkdjeneggfhgaaGreatDoorQR35
import Derived.Test.YtlkdjeneggfhgaaGreatDoorQR38
import Derived.Test.YtlkdjeneggfhgaaGreatDoorQR39
import Derived.Test.YtlkdjeneggfhgaaGreatDoorQR40
import Derived.Test.YtlkdjeneggfhgaaGreatDoorQR42
import Derived.Below
import Derived.Lib.SmallJoins
import Derived.Test.YtlkdjeneggfhgaaGreatDoorRows
import Derived.Test.YtlkdjeneggfhgaaGreatDoorQR01
import Derived.ChangeVars
import Derived.ChangeReads
import Derived.Stop.LaidErr
import Derived.Stop.LaidTwo
import Derived.Lib.LaidTab
import Derived.LaidMore
import Derived.MakeChecks
set_option maxHeartbeats 16000000
set_option maxRecDepth 100000
namespace Go.Proofs.YtlkdjeneggfhgaaGreatDoor
section
open Go.ChangeShapes Go.WideShapes Go.ChangeAt Go.RowKit Go.Joins
set_option linter.unusedSimpArgs false
theorem dHeldIntS (tx : Int → ByteArray) (v : Value) (n : Nat) (cs : List Cel) (k0 : Int) (w : World) (h : At false w v (.l 3 1 n (markL tx cs k0))) (hs : Has (.l 3 1 n cs) (.l 3 1 [.i])) (hk0 : 0 ≤ k0) (hk1 : k0 + (cntL cs : Int) ≤ 4611686018427387904) :
   Calls Tryz.prog 49 #[v, .int .i64 k0] w (SaysD w (k0 + (cntL cs : Int))) := by
 obtain ⟨a, c, vs, rfl, h1, h2, hn, -, h3, h4⟩ := h.openL
 have SRC : Hid (n = 0 ∨ ∃ b o, a = some ⟨b, o, none⟩ ∧ ∀ j, j < n * 1 → w.cell? ⟨b, o + j, none⟩ = vs[j]?) := h3
 have HV : Hid (∀ j, j < n → AtL false w ((vs.drop (j * 1)).take 1) (markL tx (row cs 1 j) (k0 + (cntL (cs.take (j * 1)) : Int)))) := fun j hj => by
   have h5 := rowVals h1 h2 h4 hj
   rwa [row_mark] at h5
 have L1 : Hid (vs.length = n * 1) := h1
 have L2 : Hid (cs.length = n * 1) := by rw [markL_len] at h2; exact h2
 have HR : Hid (∀ j, j < n → HasL (row cs 1 j) [.i]) := fun j hj => hs.rowL hj
 have HK : Hid (∀ p, k0 + (cntL (cs.take p) : Int) ≤ 4611686018427387904) := fun p => by have := cnt_le (cs := cs) (p := p); show _ ≤ _; omega
 clear h h1 h2 h3 h4 hs hk1
 go_enter Tryz.func49, Tryz.ntmps49
 go_wp2
 go_loopw [1, 5] (fun q i wr => ∃ j : Nat, j ≤ n ∧ q = .int .i64 (k0 + (cntL (cs.take (j * 1)) : Int)) ∧ i = .int .i64 (j : Int) ∧ Below w.heap.size w wr) (fun _ i _ => n - (intOf i).toNat)
 case atStart => exact ⟨0, Nat.zero_le _, by simp [cntL], rfl, Below.refl _ _⟩
 case round =>
   obtain ⟨j, hj, rfl, rfl, hb⟩ := hrel
   have HB : Hid (Below w.heap.size w wr) := hb
   by_cases hlt : j < n
   · have hj0 : (0 : Int) ≤ (j : Int) := by omega
     have hj1 : (j : Int) < (n : Int) := by omega
     have hle : j * 1 + 1 ≤ n * 1 := by omega
     rcases SRC.out with h0' | ⟨p1, o1, rfl, g1⟩
     · omega
     have hA := HV.out j hlt
     have hH := HR.out j hlt
     have CS : Hid (cntL (cs.take ((j + 1) * 1)) = cntL (cs.take (j * 1)) + cntL (row cs 1 j)) := cnt_split
     have hkN := HK.out ((j + 1) * 1)
     have hkM := HK.out (j * 1)
     rw [CS.out] at hkN
     have ce := rowAt hb hlt g1 L1.out
     obtain ⟨rs, hrs⟩ : ∃ rs, row cs 1 j = rs := ⟨_, rfl⟩
     obtain ⟨ws, hws⟩ : ∃ ws, (vs.drop (j * 1)).take 1 = ws := ⟨_, rfl⟩
     have HRS : Hid (row cs 1 j = rs) := hrs
     obtain ⟨q, hq⟩ : ∃ q : Int, k0 + (cntL (cs.take (j * 1)) : Int) = q := ⟨_, rfl⟩
     have HQ : Hid (k0 + (cntL (cs.take (j * 1)) : Int) = q) := hq
     rw [hrs] at hH hA hkN
     rw [hws] at hA ce
     rw [hq] at hA
     rw [hq]
     have hq0 : 0 ≤ q := by omega
     have hq1 : q ≤ 4611686018427387904 := by omega
     have hqN : q + (cntL rs : Int) ≤ 4611686018427387904 := by push_cast at hkN; omega
     clear g1 hq hkN hkM hrs hws
     obtain ⟨c0, rfl, T0⟩ := hH.c1
     obtain ⟨x0, rfl⟩ := T0.int
     simp only [cntL, Cel.cnt, Nat.add_zero] at hqN
     push_cast at hqN
     simp only [markL, Cel.mark, Cel.cnt] at hA
     (try push_cast at hA)
     obtain ⟨v0, rfl, A0⟩ := hA.c1
     obtain rfl := A0.int
     have e0 : wr.cell? ⟨p1, o1 + j * 1, none⟩ = some (.int .i64 (q)) := ce 0 (by omega)
     have pq : p1 < wr.heap.size := World.block_lt_of_cell? wr _ e0
     clear ce hA hH hb
     simp only [Nat.mul_one] at e0
     go_wp2
     exact ⟨⟨j + 1, by omega, by
       have h5 := HQ.out
       rw [CS.out, HRS.out]
       simp only [cntL, Cel.cnt]
       congr 1; push_cast; omega, by go_num, HB.out⟩, by simp [intOf]; omega⟩
   · obtain rfl : j = n := by omega
     have HE : Hid (cs.take (j * 1) = cs) := List.take_of_length_le (by have := L2.out; omega)
     go_wp2
     go_ret
     exact ⟨by rw [HE.out]; rfl, hb⟩
set_option linter.unusedSimpArgs false
theorem dHeldRows (tx : Int → ByteArray) (vs : List Value) (cs : List Cel) (k0 : Int) (w : World) (h : AtL false w vs (topL tx cs k0)) (hs : HasL cs tyRows) (hk0 : 0 ≤ k0) (hk1 : k0 + (tcnt cs : Int) ≤ 4611686018427387904) :
   Calls Tryz.prog 16 #[.agg vs.toArray, .int .i64 k0] w (SaysD w (k0 + (tcnt cs : Int))) := by
 obtain ⟨c0, c1, rfl, T0, T1⟩ := hs.c2
 obtain ⟨n0, cs0, rfl, -⟩ := T0.list
 have HT0 : Hid (Has (.l 3 1 n0 cs0) (.l 3 1 [.i])) := T0
 obtain ⟨x1, rfl⟩ := T1.int
 simp only [tcnt] at hk1
 push_cast at hk1
 simp only [topL] at h
 obtain ⟨q1, hq1⟩ : ∃ q' : Int, k0 + (cntL cs0 : Int) = q' := ⟨_, rfl⟩
 have HQ1 : Hid (k0 + (cntL cs0 : Int) = q1) := hq1
 have hb1 : ¬ q1 < 0 := by omega
 have hc1 : q1 ≤ 4611686018427387904 := by omega
 (try rw [hq1] at h)
 obtain ⟨v0, v1, rfl, A0, A1⟩ := h.c2
 have HA0 : Hid (At false w v0 (.l 3 1 n0 (markL tx cs0 (k0)))) := A0
 obtain rfl := A1.int
 obtain ⟨W, hW⟩ : ∃ W, w.alloc (.cells #[v0, .int .i64 x1] 34) = W := ⟨_, rfl⟩
 have t0 : Hid (One w W #[v0, .int .i64 x1] 34) := by rw [← hW]; exact one_new w _ _
 have HW : Hid _ := hW
 clear hW h hs T0 T1 A0
 go_enter Tryz.func16, Tryz.ntmps16
 go_upto_region 1 with (fail)
 rw [HW.out]
 have ax0 := t0.out.a.at 0 (v0) rfl
 have ax1 := t0.out.a.at 1 (.int .i64 x1) rfl
 go_wp2_with fail
 refine (dHeldIntS tx v0 n0 cs0 _ _ (HA0.out.on t0.out.on (Nat.le_refl _)) HT0.out (by omega) (by omega)).mono ?_
 rintro e w1 ⟨rfl, hb⟩
 rw [HQ1.out]
 have t1 : Hid (One w w1 #[v0, .int .i64 x1] 34) := t0.out.call hb
 clear hb ax0 ax1
 have ax0 := t1.out.a.at 0 (v0) rfl
 have ax1 := t1.out.a.at 1 (.int .i64 x1) rfl
 go_wp2
 go_ret
 have et : k0 + (tcnt [.l 3 1 n0 cs0, .i x1] : Int) = q1 := by simp only [tcnt]; push_cast; omega
 refine ⟨?_, t1.out.on⟩
 rw [et]; try rfl
end
end Go.Proofs.YtlkdjeneggfhgaaGreatDoor
namespace Go.Proofs.YtlkdjeneggfhgaaGreatDoor
open Go.ChangeShapes Go.WideShapes Go.ChangeAt Go.RowKit Go.Joins
namespace fnExactReplay
def tx0 : Int → ByteArray := fun _ => ByteArray.empty
theorem atLoose {w : World} {us : List Value} {cs : List Cel} (h : AtL true w us cs) : AtL false w us cs := ⟨h.1, fun j v c hv hc => (h.2 j v c hv hc).loose⟩
theorem specC (us : List Value) (cs : List Cel) (w : World) (h : AtL true w us cs) (hs : HasL cs tyMachine) (hb : bigL cs ≤ 1048576) :
   Calls Tryz.prog 9 #[.agg us.toArray] w fun e w' => RepSays (maD cs) (rsD cs) w.heap.size e w' ∧ Below w.heap.size w w' := by
 obtain ⟨wa, wc, da, dc, ta, tc, ca, cc, oa, oc, ha, hc, e, hM, hC, hh, hR⟩ := at_machine_r h hs hb
 rw [e]
 exact (specReplay_any wa wc da dc ta tc ca cc oa oc ha hc (maD cs) (rsD cs) w hM hR).mono fun e w' h => ⟨rep_of h.1, h.2⟩
theorem implC (us : List Value) (cs : List Cel) (w : World) (h : AtL true w us cs) (hs : HasL cs tyMachine) (hb : bigL cs ≤ 1048576) (hw : WfL cs) (hE : ErrR w) :
   Calls Tryz.prog 11 #[.agg us.toArray] w fun e w' => RepSays (maD cs) (rsD cs) w.heap.size e w' ∧ Below w.heap.size w w' := by
 obtain ⟨wa, wc, da, dc, ta, tc, ca, cc, oa, oc, ha, hc, e, hM, hC, hh, hR⟩ := at_machine_r h hs hb
 rw [e]
 exact (implReplay_any wa wc da dc ta tc ca cc oa oc ha hc (maD cs) (rsD cs) w hM hR hC (wf_held hw hs) hh hE).mono fun e w' h => ⟨rep_of h.1, h.2⟩
theorem walk (vs : List Value) (cs : List Cel) (w : World) (h : InL w vs cs) (hs : HasL cs tyMachine) (hw : WfL cs) (hE : ErrR w) :
   Calls Tryz.prog 3 #[.agg vs.toArray] w fun e w' => e = .returned (.bool true) ∧ Below w.heap.size w w' := by
 have hl8 : vs.length = 8 := by rw [h.1, hs.1]; rfl
 obtain ⟨v0, v1, v2, v3, v4, v5, v6, v7, rfl⟩ : ∃ v0 v1 v2 v3 v4 v5 v6 v7, vs = [v0, v1, v2, v3, v4, v5, v6, v7] := by
   match vs, hl8 with
   | [a0, a1, a2, a3, a4, a5, a6, a7], _ => exact ⟨_, _, _, _, _, _, _, _, rfl⟩
 have HIN : Hid (InL w [v0, v1, v2, v3, v4, v5, v6, v7] cs) := h
 have HS : Hid (HasL cs tyMachine) := hs
 have HWF : Hid (WfL cs) := hw
 obtain ⟨sz, hsz⟩ : ∃ sz, w.heap.size = sz := ⟨_, rfl⟩
 obtain ⟨W, hW⟩ : ∃ W, w.alloc (.cells #[v0, v1, v2, v3, v4, v5, v6, v7] 32) = W := ⟨_, rfl⟩
 have hb0 : Below sz w W := by rw [← hW, ← hsz]; exact (Below.refl _ w).alloc (Nat.le_refl _) _
 have hWs : W.heap.size = sz + 1 := by rw [← hW, ← hsz]; simp
 have XA : Hid (Box W sz #[v0, v1, v2, v3, v4, v5, v6, v7] 32) := by rw [← hW, ← hsz]; exact (box_of w _ _)
 have HW : Hid (w.alloc (.cells #[v0, v1, v2, v3, v4, v5, v6, v7] 32) = W) := hW
 have HSZ : Hid (w.heap.size = sz) := hsz
 have HB0 : Hid (Below sz w W) := hb0
 have HWS : Hid (W.heap.size = sz + 1) := hWs
 have hsw : Hid (w.heap.size ≤ sz) := by rw [hsz]; exact Nat.le_refl _
 have CA : Hid (∀ y, Below W.heap.size W y → y.cell? ⟨sz, 0, none⟩ = some v0 ∧ y.cell? ⟨sz, 1, none⟩ = some v1 ∧ y.cell? ⟨sz, 2, none⟩ = some v2 ∧ y.cell? ⟨sz, 3, none⟩ = some v3 ∧ y.cell? ⟨sz, 4, none⟩ = some v4 ∧ y.cell? ⟨sz, 5, none⟩ = some v5 ∧ y.cell? ⟨sz, 6, none⟩ = some v6 ∧ y.cell? ⟨sz, 7, none⟩ = some v7) := fun y hb => eight_of (XA.out.below hb XA.out.lt)
 have UP : Hid (∀ y, Below W.heap.size W y → Below sz w y) := fun y hb => HB0.out.trans (hb.mono (by have := HWS.out; omega))
 have ER : Hid (∀ y, Below W.heap.size W y → ErrR y) := fun y hb => hE.below (UP.out y hb) hsw.out
 clear hW hb0 hWs hsz h hs hw hl8 hE
 show Calls Tryz.prog 3 #[.agg #[v0, v1, v2, v3, v4, v5, v6, v7]] w fun e w' => e = .returned (.bool true) ∧ Below w.heap.size w w'
 go_enter Tryz.func3, Tryz.ntmps3
 go_wp2_with fail
 rw [HW.out]
 (try rw [HSZ.out])
 refine (dSzMachine [v0, v1, v2, v3, v4, v5, v6, v7] cs 1048576 W (HIN.out.on HB0.out hsw.out) HS.out (by omega) (by omega)).mono ?_
 rintro e w1 ⟨hb1, ⟨r, rfl, hr0, hr1⟩ | ⟨rfl, hbig⟩⟩
 case inr =>
   have hall : Below sz w w1 := UP.out _ hb1
   clear hb1 hbig
   go_wp2
   go_ret
   exact ⟨rfl, by rw [HSZ.out]; exact hall⟩
 have BIG : Hid (bigL cs ≤ 1048576) := by show _ ≤ _; omega
 have hr2 : ¬ r < 0 := by omega
 have hr3 : decide (r < 0) = false := decide_eq_false hr2
 have HB1 : Hid (Below W.heap.size W w1) := hb1
 have INS : Hid (∀ y, Below sz w y → AtL false y [v0, v1, v2, v3, v4, v5, v6, v7] cs) := fun y hb => (HIN.out.on hb hsw.out).at (by have := BIG.out; omega)
 have CM : Hid ((1 : Int) + (tcnt cs : Int) ≤ 4611686018427387904) := machine_cnt HS.out BIG.out
 clear hb1 hr0 hr1
 obtain ⟨y0, y1, y2, y3, y4, y5, y6, y7⟩ := CA.out _ HB1.out
 go_wp2_with fail
 refine (dToMachine [v0, v1, v2, v3, v4, v5, v6, v7] cs _ (INS.out _ (UP.out _ HB1.out)) HS.out).mono ?_
 rintro e w2 ⟨hb2, ss, S2, rfl, hO2⟩
 have HB2 : Hid (Below W.heap.size W w2) := HB1.out.trans (hb2.mono HB1.out.size)
 have SA : Hid (AtL true w2 ss cs) := hO2.at
 clear y0 y1 y2 y3 y4 y5 y6 y7 hO2 hb2
 go_wp2_with fail
 refine (specC ss cs _ SA.out HS.out BIG.out).mono ?_
 rintro e w3 ⟨⟨n, zs, s, ok, sa, sc, S3, rfl, hans, ⟨hln, hn4⟩, hO3⟩, hb3⟩
 have ANS : Hid (RepAns (maD cs) (rsD cs) n zs s ok) := hans
 have HLN : Hid (zs.length = n) := hln
 have HN4 : Hid (n ≤ 4) := hn4
 have HCT : Hid (HasL (ansR n zs s) tyRows) := ansR_has s hln
 have CT1 : Hid ((1 : Int) + (tcnt (ansR n zs s) : Int) ≤ 4611686018427387904) := ansR_cnt s hln hn4
 have nb : (ok != ok) = false := by simp
 obtain ⟨q4, hq4⟩ : ∃ q4, w3.heap.size = q4 := ⟨_, rfl⟩
 obtain ⟨W4, hW4⟩ : ∃ W4, w3.alloc (.cells #[.slice sa n sc, .int .i64 s] 34) = W4 := ⟨_, rfl⟩
 have hx4 : Below w3.heap.size w3 W4 := by rw [← hW4]; exact (Below.refl _ _).alloc (Nat.le_refl _) _
 have X4 : Hid (Box W4 q4 #[.slice sa n sc, .int .i64 s] 34) := by rw [← hW4, ← hq4]; exact box_of w3 _ _
 have SPA : Hid (∀ y, Below W4.heap.size W4 y → AtL false y [.slice sa n sc, .int .i64 s] (ansR n zs s)) := fun y hb => ((atLoose hO3.at).on hx4 (Nat.le_refl _)).on hb (Nat.le_refl _)
 have SPB : Hid (∀ y, Below W4.heap.size W4 y → Box y q4 #[.slice sa n sc, .int .i64 s] 34) := fun y hb => X4.out.below hb X4.out.lt
 have HA4 : Hid (Below W.heap.size W W4) := (HB2.out.trans (hb3.mono HB2.out.size)).trans (hx4.mono (Nat.le_trans HB2.out.size hb3.size))
 have UP4 : Hid (∀ y, Below W4.heap.size W4 y → Below W.heap.size W y) := fun y hb => HA4.out.trans (hb.mono HA4.out.size)
 have HW4 : Hid (w3.alloc (.cells #[.slice sa n sc, .int .i64 s] 34) = W4) := hW4
 have E4 : Hid (w3.heap.size = q4) := hq4
 clear hb3 SA hans hO3 hx4 hW4 hq4 hln hn4
 go_upto_region 6 with (fail)
 rw [HW4.out]
 (try rw [E4.out])
 clear HW4 E4
 obtain ⟨y0, y1, y2, y3, y4, y5, y6, y7⟩ := CA.out _ HA4.out
 go_wp2_with fail
 refine (dToMachine [v0, v1, v2, v3, v4, v5, v6, v7] cs _ (INS.out _ (UP.out _ HA4.out)) HS.out).mono ?_
 rintro e w5 ⟨hb5, us, S5, rfl, hO5⟩
 obtain ⟨b0, m0, k0, b1, m1, k1, b2, m2, k2, j3, b4, m4, k4, b5, m5, k5, b6, m6, k6, j7, rfl⟩ := forms8 hO5.at HS.out
 obtain ⟨q5, hq5⟩ : ∃ q5, w5.heap.size = q5 := ⟨_, rfl⟩
 obtain ⟨W5, hW5⟩ : ∃ W5, w5.alloc (.cells #[(.slice b0 m0 k0), (.slice b1 m1 k1), (.slice b2 m2 k2), (.int .i64 j3), (.slice b4 m4 k4), (.slice b5 m5 k5), (.slice b6 m6 k6), (.int .i64 j7)] 44) = W5 := ⟨_, rfl⟩
 have hx5 : Below w5.heap.size w5 W5 := by rw [← hW5]; exact (Below.refl _ _).alloc (Nat.le_refl _) _
 have X5 : Hid (Box W5 q5 #[(.slice b0 m0 k0), (.slice b1 m1 k1), (.slice b2 m2 k2), (.int .i64 j3), (.slice b4 m4 k4), (.slice b5 m5 k5), (.slice b6 m6 k6), (.int .i64 j7)] 44) := by rw [← hW5, ← hq5]; exact box_of w5 _ _
 have LT5 : Hid (∀ x, S5 x → W4.heap.size ≤ x ∧ x < q5) := fun x hx => by have := hO5.lt x hx; rw [hq5] at this; exact this
 have OU5 : Hid (OwnL W5 W4.heap.size [(.slice b0 m0 k0), (.slice b1 m1 k1), (.slice b2 m2 k2), (.int .i64 j3), (.slice b4 m4 k4), (.slice b5 m5 k5), (.slice b6 m6 k6), (.int .i64 j7)] cs S5) := hO5.on hx5 (Nat.le_refl _)
 have HB45 : Hid (Below W4.heap.size W4 W5) := hb5.trans (hx5.mono hb5.size)
 have L5 : q5 < W5.heap.size := X5.out.lt
 have L45 : W4.heap.size ≤ q5 := by rw [← hq5]; exact hb5.size
 have HW5 : Hid (w5.alloc (.cells #[(.slice b0 m0 k0), (.slice b1 m1 k1), (.slice b2 m2 k2), (.int .i64 j3), (.slice b4 m4 k4), (.slice b5 m5 k5), (.slice b6 m6 k6), (.int .i64 j7)] 44) = W5) := hW5
 have E5 : Hid (w5.heap.size = q5) := hq5
 clear hO5 hb5 hW5 hq5 hx5 y0 y1 y2 y3 y4 y5 y6 y7
 go_upto_region 7 with (fail)
 rw [HW5.out]
 (try rw [E5.out])
 clear HW5 E5
 obtain ⟨y0, y1, y2, y3, y4, y5, y6, y7⟩ := eight_of X5.out
 go_wp2_with fail
 refine (implC [(.slice b0 m0 k0), (.slice b1 m1 k1), (.slice b2 m2 k2), (.int .i64 j3), (.slice b4 m4 k4), (.slice b5 m5 k5), (.slice b6 m6 k6), (.int .i64 j7)] cs _ OU5.out.at HS.out BIG.out HWF.out (ER.out _ (UP4.out _ HB45.out))).mono ?_
 rintro e w7 ⟨⟨n', zs', s', ok', ga, gc, S7, rfl, hans, -, hO7⟩, hb7⟩
 obtain ⟨rfl, rfl, rfl, rfl⟩ := ANS.out.one hans
 obtain ⟨q7, hq7⟩ : ∃ q7, w7.heap.size = q7 := ⟨_, rfl⟩
 obtain ⟨W7, hW7⟩ : ∃ W7, w7.alloc (.cells #[.slice ga n gc, .int .i64 s] 34) = W7 := ⟨_, rfl⟩
 have hx7 : Below w7.heap.size w7 W7 := by rw [← hW7]; exact (Below.refl _ _).alloc (Nat.le_refl _) _
 have X7 : Hid (Box W7 q7 #[.slice ga n gc, .int .i64 s] 34) := by rw [← hW7, ← hq7]; exact box_of w7 _ _
 have LT7 : Hid (∀ x, S7 x → W5.heap.size ≤ x ∧ x < q7) := fun x hx => by have := hO7.lt x hx; rw [hq7] at this; exact this
 have OG7 : Hid (OwnL W7 W5.heap.size [.slice ga n gc, .int .i64 s] (ansR n zs s) S7) := hO7.on hx7 (Nat.le_refl _)
 have HB57 : Hid (Below W5.heap.size W5 W7) := hb7.trans (hx7.mono hb7.size)
 have HB47 : Hid (Below W4.heap.size W4 W7) := HB45.out.trans (HB57.out.mono HB45.out.size)
 have L57 : W5.heap.size ≤ q7 := by rw [← hq7]; exact hb7.size
 have HW7 : Hid (w7.alloc (.cells #[.slice ga n gc, .int .i64 s] 34) = W7) := hW7
 have E7 : Hid (w7.heap.size = q7) := hq7
 clear hO7 hb7 hW7 hq7 hx7 hans y0 y1 y2 y3 y4 y5 y6 y7
 go_upto_region 8 with (fail)
 rw [HW7.out]
 (try rw [E7.out])
 clear HW7 E7
 obtain ⟨y0, y1, _, _⟩ := two_of X7.out
 obtain ⟨z0, z1, _, _⟩ := two_of (SPB.out _ HB47.out)
 go_wp2_with fail
 refine (dEqRows [.slice ga n gc, .int .i64 s] [.slice sa n sc, .int .i64 s] (ansR n zs s) _ (atLoose OG7.out.at) (SPA.out _ HB47.out) HCT.out).mono ?_
 rintro e w9 ⟨rfl, hb9⟩
 have HB79 : Hid (Below W7.heap.size W7 w9) := hb9
 have HB59 : Hid (Below W5.heap.size W5 w9) := HB57.out.trans (hb9.mono HB57.out.size)
 have HB49 : Hid (Below W4.heap.size W4 w9) := HB47.out.trans (hb9.mono HB47.out.size)
 clear hb9 y0 y1 z0 z1
 have KS : Hid (∀ y, Below w9.heap.size w9 y → (y.cell? ⟨q5, 0, none⟩ = some (.slice b0 m0 k0) ∧ y.cell? ⟨q5, 1, none⟩ = some (.slice b1 m1 k1) ∧ y.cell? ⟨q5, 2, none⟩ = some (.slice b2 m2 k2) ∧ y.cell? ⟨q5, 3, none⟩ = some (.int .i64 j3) ∧ y.cell? ⟨q5, 4, none⟩ = some (.slice b4 m4 k4) ∧ y.cell? ⟨q5, 5, none⟩ = some (.slice b5 m5 k5) ∧ y.cell? ⟨q5, 6, none⟩ = some (.slice b6 m6 k6) ∧ y.cell? ⟨q5, 7, none⟩ = some (.int .i64 j7)) ∧ y.cell? ⟨sz, 0, none⟩ = some v0 ∧ y.cell? ⟨sz, 1, none⟩ = some v1 ∧ y.cell? ⟨sz, 2, none⟩ = some v2 ∧ y.cell? ⟨sz, 3, none⟩ = some v3 ∧ y.cell? ⟨sz, 4, none⟩ = some v4 ∧ y.cell? ⟨sz, 5, none⟩ = some v5 ∧ y.cell? ⟨sz, 6, none⟩ = some v6 ∧ y.cell? ⟨sz, 7, none⟩ = some v7) := fun y hb => by
   have hb' : Below W5.heap.size W5 y := HB59.out.trans (hb.mono HB59.out.size)
   exact ⟨eight_of (X5.out.below hb' X5.out.lt), CA.out y (UP4.out y (HB45.out.trans (hb'.mono HB45.out.size)))⟩
 have K0 : Hid ((w9.drew.cell? ⟨q5, 0, none⟩ = some (.slice b0 m0 k0) ∧ w9.drew.cell? ⟨q5, 1, none⟩ = some (.slice b1 m1 k1) ∧ w9.drew.cell? ⟨q5, 2, none⟩ = some (.slice b2 m2 k2) ∧ w9.drew.cell? ⟨q5, 3, none⟩ = some (.int .i64 j3) ∧ w9.drew.cell? ⟨q5, 4, none⟩ = some (.slice b4 m4 k4) ∧ w9.drew.cell? ⟨q5, 5, none⟩ = some (.slice b5 m5 k5) ∧ w9.drew.cell? ⟨q5, 6, none⟩ = some (.slice b6 m6 k6) ∧ w9.drew.cell? ⟨q5, 7, none⟩ = some (.int .i64 j7)) ∧ w9.drew.cell? ⟨sz, 0, none⟩ = some v0 ∧ w9.drew.cell? ⟨sz, 1, none⟩ = some v1 ∧ w9.drew.cell? ⟨sz, 2, none⟩ = some v2 ∧ w9.drew.cell? ⟨sz, 3, none⟩ = some v3 ∧ w9.drew.cell? ⟨sz, 4, none⟩ = some v4 ∧ w9.drew.cell? ⟨sz, 5, none⟩ = some v5 ∧ w9.drew.cell? ⟨sz, 6, none⟩ = some v6 ∧ w9.drew.cell? ⟨sz, 7, none⟩ = some v7) := KS.out _ (Below.refl _ _).drew
 have INS9 : Hid (AtL false w9.drew [v0, v1, v2, v3, v4, v5, v6, v7] cs) := INS.out _ (UP.out _ (UP4.out _ HB49.out)).drew
 have UA9 : Hid (AtL false w9 [(.slice b0 m0 k0), (.slice b1 m1 k1), (.slice b2 m2 k2), (.int .i64 j3), (.slice b4 m4 k4), (.slice b5 m5 k5), (.slice b6 m6 k6), (.int .i64 j7)] cs) := (atLoose OU5.out.at).on HB59.out (Nat.le_refl _)
 go_upto_region 10 with (fail)
 go_region_held3 (fun w' => (w'.cell? ⟨q5, 0, none⟩ = some (.slice b0 m0 k0) ∧ w'.cell? ⟨q5, 1, none⟩ = some (.slice b1 m1 k1) ∧ w'.cell? ⟨q5, 2, none⟩ = some (.slice b2 m2 k2) ∧ w'.cell? ⟨q5, 3, none⟩ = some (.int .i64 j3) ∧ w'.cell? ⟨q5, 4, none⟩ = some (.slice b4 m4 k4) ∧ w'.cell? ⟨q5, 5, none⟩ = some (.slice b5 m5 k5) ∧ w'.cell? ⟨q5, 6, none⟩ = some (.slice b6 m6 k6) ∧ w'.cell? ⟨q5, 7, none⟩ = some (.int .i64 j7)) ∧ w'.cell? ⟨sz, 0, none⟩ = some v0 ∧ w'.cell? ⟨sz, 1, none⟩ = some v1 ∧ w'.cell? ⟨sz, 2, none⟩ = some v2 ∧ w'.cell? ⟨sz, 3, none⟩ = some v3 ∧ w'.cell? ⟨sz, 4, none⟩ = some v4 ∧ w'.cell? ⟨sz, 5, none⟩ = some v5 ∧ w'.cell? ⟨sz, 6, none⟩ = some v6 ∧ w'.cell? ⟨sz, 7, none⟩ = some v7)
   (first | (with_reducible exact K2.out) | (with_reducible exact K1.out) | (with_reducible exact K0.out) | go_keep)
   (first
   | (go_at_call 10
      refine (dToMachine [v0, v1, v2, v3, v4, v5, v6, v7] cs _ INS9.out HS.out).mono ?_
      rintro e w10 ⟨hb10, ts, S10, rfl, hO10⟩
      have hb10' : Below w9.heap.size w9 w10 := (Below.refl w9.heap.size w9).drew.trans hb10
      have HB10 : Hid (Below w9.heap.size w9 w10) := hb10'
      have SA10 : Hid (AtL false w10 ts cs) := ⟨hO10.1, fun j v c hv hc => (hO10.at.2 j v c hv hc).loose⟩
      have K1 : Hid ((w10.cell? ⟨q5, 0, none⟩ = some (.slice b0 m0 k0) ∧ w10.cell? ⟨q5, 1, none⟩ = some (.slice b1 m1 k1) ∧ w10.cell? ⟨q5, 2, none⟩ = some (.slice b2 m2 k2) ∧ w10.cell? ⟨q5, 3, none⟩ = some (.int .i64 j3) ∧ w10.cell? ⟨q5, 4, none⟩ = some (.slice b4 m4 k4) ∧ w10.cell? ⟨q5, 5, none⟩ = some (.slice b5 m5 k5) ∧ w10.cell? ⟨q5, 6, none⟩ = some (.slice b6 m6 k6) ∧ w10.cell? ⟨q5, 7, none⟩ = some (.int .i64 j7)) ∧ w10.cell? ⟨sz, 0, none⟩ = some v0 ∧ w10.cell? ⟨sz, 1, none⟩ = some v1 ∧ w10.cell? ⟨sz, 2, none⟩ = some v2 ∧ w10.cell? ⟨sz, 3, none⟩ = some v3 ∧ w10.cell? ⟨sz, 4, none⟩ = some v4 ∧ w10.cell? ⟨sz, 5, none⟩ = some v5 ∧ w10.cell? ⟨sz, 6, none⟩ = some v6 ∧ w10.cell? ⟨sz, 7, none⟩ = some v7) := KS.out _ hb10'
      clear hb10 hb10' hO10)
   | (go_at_call 13
      refine (dEqMachine [(.slice b0 m0 k0), (.slice b1 m1 k1), (.slice b2 m2 k2), (.int .i64 j3), (.slice b4 m4 k4), (.slice b5 m5 k5), (.slice b6 m6 k6), (.int .i64 j7)] ts cs _ (UA9.out.on HB10.out (Nat.le_refl _)) SA10.out HS.out).mono ?_
      rintro e w11 ⟨rfl, hb11⟩
      have hb11' : Below w9.heap.size w9 w11 := HB10.out.trans (hb11.mono HB10.out.size)
      have HB11 : Hid (Below w9.heap.size w9 w11) := hb11'
      have K2 : Hid ((w11.cell? ⟨q5, 0, none⟩ = some (.slice b0 m0 k0) ∧ w11.cell? ⟨q5, 1, none⟩ = some (.slice b1 m1 k1) ∧ w11.cell? ⟨q5, 2, none⟩ = some (.slice b2 m2 k2) ∧ w11.cell? ⟨q5, 3, none⟩ = some (.int .i64 j3) ∧ w11.cell? ⟨q5, 4, none⟩ = some (.slice b4 m4 k4) ∧ w11.cell? ⟨q5, 5, none⟩ = some (.slice b5 m5 k5) ∧ w11.cell? ⟨q5, 6, none⟩ = some (.slice b6 m6 k6) ∧ w11.cell? ⟨q5, 7, none⟩ = some (.int .i64 j7)) ∧ w11.cell? ⟨sz, 0, none⟩ = some v0 ∧ w11.cell? ⟨sz, 1, none⟩ = some v1 ∧ w11.cell? ⟨sz, 2, none⟩ = some v2 ∧ w11.cell? ⟨sz, 3, none⟩ = some v3 ∧ w11.cell? ⟨sz, 4, none⟩ = some v4 ∧ w11.cell? ⟨sz, 5, none⟩ = some v5 ∧ w11.cell? ⟨sz, 6, none⟩ = some v6 ∧ w11.cell? ⟨sz, 7, none⟩ = some v7) := KS.out _ hb11'
      clear hb11 hb11'))
 have HB711 : Hid (Below W7.heap.size W7 w11) := HB79.out.trans (HB11.out.mono HB79.out.size)
 have HB511 : Hid (Below W5.heap.size W5 w11) := HB59.out.trans (HB11.out.mono HB59.out.size)
 have HB411 : Hid (Below W4.heap.size W4 w11) := HB49.out.trans (HB11.out.mono HB49.out.size)
 have OU11 : Hid (OwnL w11 W4.heap.size [(.slice b0 m0 k0), (.slice b1 m1 k1), (.slice b2 m2 k2), (.int .i64 j3), (.slice b4 m4 k4), (.slice b5 m5 k5), (.slice b6 m6 k6), (.int .i64 j7)] cs S5) := OU5.out.on HB511.out (Nat.le_refl _)
 clear K0 K1 K2 KS SA10 HB10 HB11 HB79 HB59 HB49 UA9 INS9
 obtain ⟨y0, y1, y2, y3, y4, y5, y6, y7⟩ := eight_of (X5.out.below HB511.out X5.out.lt)
 go_wp2_with fail
 refine (dMarkMachine tx0 W4.heap.size [(.slice b0 m0 k0), (.slice b1 m1 k1), (.slice b2 m2 k2), (.int .i64 j3), (.slice b4 m4 k4), (.slice b5 m5 k5), (.slice b6 m6 k6), (.int .i64 j7)] cs S5 1 w11 OU11.out HS.out (by omega) CM.out).mono ?_
 rintro e w12 ⟨rfl, -, kp⟩
 obtain ⟨kk, hkk⟩ : ∃ kk : Int, (1 : Int) + (tcnt cs : Int) = kk := ⟨_, rfl⟩
 have hk0 : ¬ kk < 0 := by omega
 rw [hkk]
 have X712 : Hid (Box w12 q7 #[.slice ga n gc, .int .i64 s] 34) := by
   have hx := X7.out.below HB711.out X7.out.lt
   show w12.heap[q7]? = _
   rw [kp.oth q7 hx.lt (fun hx => by have := (LT5.out _ hx).2; omega)]
   exact hx
 have OG12 : Hid (OwnL w12 W5.heap.size [.slice ga n gc, .int .i64 s] (ansR n zs s) S7) := (OG7.out.on HB711.out (Nat.le_refl _)).heap fun x hx => kp.oth x (by have h1 := (OG7.out.lt x hx).2; have h2 := HB711.out.size; omega) (fun h => by have := (LT5.out _ h).2; have := (LT7.out x hx).1; omega)
 have HB412 : Hid (Below W4.heap.size W4 w12) := HB411.out.trans (kp.below (fun x hx => (LT5.out x hx).1) HB411.out.size)
 clear kp hkk y0 y1 y2 y3 y4 y5 y6 y7
 obtain ⟨y0, y1, _, _⟩ := two_of X712.out
 obtain ⟨z0, z1, _, _⟩ := two_of (SPB.out _ HB412.out)
 go_wp2_with fail
 refine (dEqRows [.slice ga n gc, .int .i64 s] [.slice sa n sc, .int .i64 s] (ansR n zs s) _ (atLoose OG12.out.at) (SPA.out _ HB412.out) HCT.out).mono ?_
 rintro e w13 ⟨rfl, hb13⟩
 have X713 : Hid (Box w13 q7 #[.slice ga n gc, .int .i64 s] 34) := X712.out.below hb13 X712.out.lt
 have OG13 : Hid (OwnL w13 W5.heap.size [.slice ga n gc, .int .i64 s] (ansR n zs s) S7) := OG12.out.on hb13 (Nat.le_refl _)
 have HB413 : Hid (Below W4.heap.size W4 w13) := HB412.out.trans (hb13.mono HB412.out.size)
 clear hb13 y0 y1 z0 z1
 obtain ⟨y0, y1, _, _⟩ := two_of X713.out
 go_wp2_with fail
 refine (dMarkRows tx0 W5.heap.size [.slice ga n gc, .int .i64 s] (ansR n zs s) S7 1 w13 OG13.out HCT.out (by omega) CT1.out).mono ?_
 rintro e w14 ⟨rfl, hO14, kp⟩
 obtain ⟨r', hr'⟩ : ∃ r' : Int, (1 : Int) + (tcnt (ansR n zs s) : Int) = r' := ⟨_, rfl⟩
 have hr0 : ¬ r' < 0 := by omega
 have HR : Hid ((1 : Int) + (tcnt (ansR n zs s) : Int) = r') := hr'
 rw [hr']
 have OG14 : Hid (OwnL w14 W5.heap.size [.slice ga n gc, .int .i64 s] (topL tx0 (ansR n zs s) 1) S7) := hO14
 have X714 : Hid (Box w14 q7 #[.slice ga n gc, .int .i64 s] 34) := by
   show w14.heap[q7]? = _
   rw [kp.oth q7 X713.out.lt (fun hx => by have := (LT7.out _ hx).2; omega)]
   exact X713.out
 have HB414 : Hid (Below W4.heap.size W4 w14) := HB413.out.trans (kp.below (fun x hx => by have := (LT7.out x hx).1; omega) HB413.out.size)
 clear hO14 kp hr' y0 y1
 obtain ⟨y0, y1, _, _⟩ := two_of X714.out
 go_wp2_with fail
 refine (dHeldRows tx0 [.slice ga n gc, .int .i64 s] (ansR n zs s) 1 w14 (atLoose OG14.out.at) HCT.out (by omega) CT1.out).mono ?_
 rintro e w15 ⟨rfl, hb15⟩
 rw [HR.out]
 have OG15 : Hid (OwnL w15 W5.heap.size [.slice ga n gc, .int .i64 s] (topL tx0 (ansR n zs s) 1) S7) := OG14.out.on hb15 (Nat.le_refl _)
 have X715 : Hid (Box w15 q7 #[.slice ga n gc, .int .i64 s] 34) := X714.out.below hb15 X714.out.lt
 have HB415 : Hid (Below W4.heap.size W4 w15) := HB414.out.trans (hb15.mono HB414.out.size)
 clear hb15 y0 y1
 obtain ⟨y0, y1, y2, y3, y4, y5, y6, y7⟩ := CA.out _ (UP4.out _ HB415.out)
 go_wp2_with fail
 refine (dToMachine [v0, v1, v2, v3, v4, v5, v6, v7] cs _ (INS.out _ (UP.out _ (UP4.out _ HB415.out))) HS.out).mono ?_
 rintro e w16 ⟨hb16, ks, S16, rfl, hO16⟩
 have HB416 : Hid (Below W4.heap.size W4 w16) := HB415.out.trans (hb16.mono HB415.out.size)
 have HB1516 : Hid (Below w15.heap.size w15 w16) := hb16
 have SA16 : Hid (AtL true w16 ks cs) := hO16.at
 clear y0 y1 y2 y3 y4 y5 y6 y7 hO16 hb16
 go_wp2_with fail
 refine (implC ks cs _ SA16.out HS.out BIG.out HWF.out (ER.out _ (UP4.out _ HB416.out))).mono ?_
 rintro e w17 ⟨⟨n2, zs2, s2, ok2, ka, kc, S17, rfl, hans2, -, hO17⟩, hb17⟩
 obtain ⟨rfl, rfl, rfl, rfl⟩ := ANS.out.one hans2
 obtain ⟨q17, hq17⟩ : ∃ q17, w17.heap.size = q17 := ⟨_, rfl⟩
 obtain ⟨W17, hW17⟩ : ∃ W17, w17.alloc (.cells #[.slice ka n kc, .int .i64 s] 34) = W17 := ⟨_, rfl⟩
 have hx17 : Below w17.heap.size w17 W17 := by rw [← hW17]; exact (Below.refl _ _).alloc (Nat.le_refl _) _
 have X17 : Hid (Box W17 q17 #[.slice ka n kc, .int .i64 s] 34) := by rw [← hW17, ← hq17]; exact box_of w17 _ _
 have AK17 : Hid (AtL false W17 [.slice ka n kc, .int .i64 s] (ansR n zs s)) := (atLoose hO17.at).on hx17 (Nat.le_refl _)
 have HB1517 : Hid (Below w15.heap.size w15 W17) := (HB1516.out.trans (hb17.mono HB1516.out.size)).trans (hx17.mono (Nat.le_trans HB1516.out.size hb17.size))
 have HB417 : Hid (Below W4.heap.size W4 W17) := HB415.out.trans (HB1517.out.mono HB415.out.size)
 have HW17 : Hid (w17.alloc (.cells #[.slice ka n kc, .int .i64 s] 34) = W17) := hW17
 have E17 : Hid (w17.heap.size = q17) := hq17
 clear hO17 hb17 hans2 hx17 hW17 hq17 SA16
 go_upto_region 25 with (fail)
 rw [HW17.out]
 (try rw [E17.out])
 clear HW17 E17
 obtain ⟨y0, y1, _, _⟩ := two_of X17.out
 obtain ⟨z0, z1, _, _⟩ := two_of (SPB.out _ HB417.out)
 go_wp2_with fail
 refine (dEqRows [.slice ka n kc, .int .i64 s] [.slice sa n sc, .int .i64 s] (ansR n zs s) _ AK17.out (SPA.out _ HB417.out) HCT.out).mono ?_
 rintro e w18 ⟨rfl, hb18⟩
 have HB1518 : Hid (Below w15.heap.size w15 w18) := HB1517.out.trans (hb18.mono HB1517.out.size)
 have HB418 : Hid (Below W4.heap.size W4 w18) := HB417.out.trans (hb18.mono HB417.out.size)
 clear hb18 y0 y1 z0 z1
 obtain ⟨y0, y1, _, _⟩ := two_of (X715.out.below HB1518.out X715.out.lt)
 go_wp2_with fail
 refine (dHeldRows tx0 [.slice ga n gc, .int .i64 s] (ansR n zs s) 1 w18 (atLoose (OG15.out.on HB1518.out (Nat.le_refl _)).at) HCT.out (by omega) CT1.out).mono ?_
 rintro e w19 ⟨rfl, hb19⟩
 rw [HR.out]
 have hall : Below sz w w19 := UP.out _ (UP4.out _ (HB418.out.trans (hb19.mono HB418.out.size)))
 clear hb19 y0 y1
 go_wp2
 go_ret
 exact ⟨rfl, by rw [HSZ.out]; exact hall⟩
end fnExactReplay
end Go.Proofs.YtlkdjeneggfhgaaGreatDoor
namespace Go.Proofs.YtlkdjeneggfhgaaGreatDoor
section
open Go.ChangeShapes Go.WideShapes Go.ChangeAt Go.RowKit
theorem eCells : Tryz.prog.cellsOf 293 = 1 := by kernel_rfl
theorem eCellsS : Tryz.prog.cellsOf 9 = 1 := by kernel_rfl
theorem eStar : "*" ++ "errors.errorString" = "*errors.errorString" := by decide
theorem eRow (u : TypeId) (h : Tryz.prog.typeName? 3 u = some "*errors.errorString") : u = 269 :=
 typeName_ptr_named (nm := "errors.errorString") (by rw [eStar]; kernel_rfl) (by kernel_rfl) (by decide) u (by rw [eStar]; exact h)
def VarE (W : World) (n : String) (a : Addr) : Prop := W.var? Tryz.prog n = some #[.iface 269 (.pointer (some a))]
theorem VarE.cell {W : World} {n : String} {a : Addr} (h : VarE W n a) {g : Nat} (hg : Tryz.prog.globalNamed n = some g) : W.cell? ⟨g, 0, none⟩ = some (.iface 269 (.pointer (some a))) := by simpa using World.var?_cell hg h 0
theorem VarE.below {W W' : World} {n : String} {a : Addr} (h : VarE W n a) {g : Nat} (hg : Tryz.prog.globalNamed n = some g) (hb : Below W.heap.size W W') : VarE W' n a :=
 var?_below hb hg (World.block_lt_of_cell? W _ (h.cell hg)) h
theorem gE_errNoMachine : Tryz.prog.globalNamed "loop.example/g00468/impl.errNoMachine" = some 0 := by kernel_rfl
theorem tE_errNoMachine : (Tryz.prog.globals[0]?).map (·.type) = some 72 := by kernel_rfl
theorem gE_errNotSo : Tryz.prog.globalNamed "loop.example/g00468/impl.errNotSo" = some 1 := by kernel_rfl
theorem tE_errNotSo : (Tryz.prog.globals[1]?).map (·.type) = some 72 := by kernel_rfl
theorem sent_two {t0 t1 : List UInt8} {r : List (String × DataW Unit)} {W : World} (h : laidMet Tryz.prog (("loop.example/g00468/impl.errNoMachine", .iface "*errors.errorString" (.ptr (.agg [.lit (.string t0)]))) :: ("loop.example/g00468/impl.errNotSo", .iface "*errors.errorString" (.ptr (.agg [.lit (.string t1)]))) :: r) W) :
   ∃ a0 a1, VarE W "loop.example/g00468/impl.errNoMachine" a0 ∧ VarE W "loop.example/g00468/impl.errNotSo" a1 ∧ a0 ≠ a1 ∧ (∃ c t, W.heap[a0.block]? = some (.cells c t (0, 0))) ∧ ∃ c t, W.heap[a1.block]? = some (.cells c t (0, 0)) := by
 obtain ⟨a0, a1, s0, s1, c0, c1, t0, t1, hv0, hv1, -, -, -, -, -, -, hne, hb0, hb1⟩ := laid_sentinels2 h gE_errNoMachine tE_errNoMachine gE_errNotSo tE_errNotSo Tryz.underlying72 eRow Tryz.underlying269 Tryz.underlying293 rfl rfl Tryz.underlying9 eCells eCellsS
 exact ⟨a0, a1, hv0, hv1, hne, ⟨c0, t0, hb0⟩, c1, t1, hb1⟩
end
end Go.Proofs.YtlkdjeneggfhgaaGreatDoor
