/- Texts joined: LawNwW, OpenRows, DatP, Laid. -/
import Derived.Test.YtcfimaffeopbbaaGreatDoorQM31
import Derived.Test.YtcfimaffeopbbaaGreatDoorQM11
import Derived.Test.YtcfimaffeopbbaaGreatDoorQM09
import Derived.Test.YtcfimaffeopbbaaGreatDoorQM33
import Derived.Test.YtcfimaffeopbbaaGreatDoorQM34
import Derived.Test.YtcfimaffeopbbaaGreatDoorQM36
import Derived.Below
import Derived.Lib.SmallJoins
import Derived.Deep.RegionHeld3
import Derived.Deep.Cut
import Derived.Test.YtcfimaffeopbbaaGreatDoorRows
import Derived.Test.YtcfimaffeopbbaaGreatDoorQM01
import Derived.WalkKit
import Derived.ProofKit
import Derived.OpenShut
import Derived.ChangeOld
import Derived.Test.YtcfimaffeopbbaaGreatDoorQM03
import Derived.Handy
import Derived.ChangeVars
import Derived.ChangeReads
import Derived.Lib.LaidTab
import Derived.Lib.LaidU8
import Derived.LaidMore
import Derived.MakeChecks
set_option maxHeartbeats 16000000
set_option maxRecDepth 100000
namespace Go.Proofs.YtcfimaffeopbbaaGreatDoor
open Go.ChangeShapes Go.WideShapes Go.ChangeAt Go.RowKit Go.Joins
namespace fnExactMachineNew
theorem szRows_left (a : Option Addr) (n c : Nat) (st : Int) (w : World) (hn : n ≤ 1048576) :
   Calls Tryz.prog 4 #[RowsV a n c st, .int .i64 1048576] w fun e w' => e = .returned (.int .i64 (1048576 - (n : Int))) ∧ Below w.heap.size w w' := by
 have h0 : ¬ (1048576 - (n : Int) < 0) := by omega
 go_enter Tryz.func4, Tryz.ntmps4
 go_wp2
 go_ret
 exact ⟨rfl, (Below.refl _ _).alloc (Nat.le_refl _) _⟩
theorem atLoose {w : World} {us : List Value} {cs : List Cel} (h : AtL true w us cs) : AtL false w us cs := ⟨h.1, fun j v c hv hc => (h.2 j v c hv hc).loose⟩
theorem cnt_each {B : Nat} : ∀ {cs : List Cel}, (∀ (j : Nat) (d : Cel), cs[j]? = some d → d.cnt ≤ B) → cntL cs ≤ cs.length * B
 | [], _ => by simp [cntL]
 | d :: cs, h => by
   have h1 := h 0 d (by simp)
   have h2 := cnt_each (cs := cs) (fun j e he => h (j + 1) e (by simpa using he))
   simp only [cntL, List.length_cons]
   rw [Nat.succ_mul]
   omega
theorem cnt_list {n : Nat} {cl : List Cel} (hlh : Has (.l 55 1 n cl) (.l 55 1 tyOpS)) (hb : bigL cl ≤ 1048576) : cntL cl ≤ n * 3145728 := by
 have hl : cl.length = n := by cases hlh with | l _ _ _ _ _ _ hl _ => omega
 have := cnt_each (cs := cl) (B := 3145728) (fun j d hd => by
   have hT : Has d (.l 82 3 tyOp) := by
     cases hlh with
     | l _ _ _ _ _ hk' hl' hh => exact hh j _ _ hd (by rw [Nat.mod_one]; rfl)
   have hbg := big_mem hd
   obtain ⟨pn, pcs, rfl, -⟩ := hT.list
   have h1 := cnt_op hT
   have h2 : pn ≤ (Cel.l 82 3 pn pcs).big := big_len
   omega)
 rw [hl] at this
 exact this
def tx0 : Int → ByteArray := fun _ => ByteArray.empty
theorem walk (a : Option Addr) (nh c : Nat) (st : Int) (xs : List Int) (v : Value) (n : Nat) (cl : List Cel) (w : World) (hA : nh ≤ 1099511627776 → IntAt w a nh xs) (hm : nh ≤ 9223372036854775807) (hi : ∀ x ∈ xs, (Lit.int .i64 x).wf = true) (hv : In w v (.l 55 1 n cl)) (hlh : Has (.l 55 1 n cl) (.l 55 1 tyOpS)) (hN : Names w) :
   Calls Tryz.prog 3 #[RowsV a nh c st, v] w fun e w' => e = .returned (.bool true) ∧ Below w.heap.size w w' := by
 by_cases hn : nh ≤ 1048576
 case neg =>
   go_enter Tryz.func3, Tryz.ntmps3
   go_wp2_with fail
   refine (szRows_big a nh c st _ hn hm).mono ?_
   rintro e w1 ⟨rfl, hb1⟩
   go_wp2
   go_ret
   exact ⟨rfl, ((Below.refl _ w).alloc (Nat.le_refl _) _).trans (hb1.mono (by simp))⟩
 obtain ⟨L, hL⟩ := tellsL xs st
 have HL : Hid (TellsL xs st L) := hL
 have hA0 : Hid (IntAt w a nh xs) := hA (by omega)
 have HI : Hid (∀ x ∈ xs, (Lit.int .i64 x).wf = true) := hi
 have HLn : Hid (xs.length = nh) := hA0.out.1
 have HV : Hid (In w v (.l 55 1 n cl)) := hv
 have HLH : Hid (Has (.l 55 1 n cl) (.l 55 1 tyOpS)) := hlh
 have nlt := hN.lt
 obtain ⟨sz, hsz⟩ : ∃ sz, w.heap.size = sz := ⟨_, rfl⟩
 obtain ⟨W, hW⟩ : ∃ W, w.alloc (.cells #[.slice a nh c, .int .i64 st] 24) = W := ⟨_, rfl⟩
 have hb0 : Below sz w W := by rw [← hW, ← hsz]; exact (Below.refl _ w).alloc (Nat.le_refl _) _
 have hWs : W.heap.size = sz + 1 := by rw [← hW, ← hsz]; simp
 have X0 : Hid (Box W sz #[.slice a nh c, .int .i64 st] 24) := by rw [← hW, ← hsz]; exact box_of w _ _
 have HB0 : Hid (Below sz w W) := hb0
 have HSZ : Hid (w.heap.size = sz) := hsz
 have HWS : Hid (W.heap.size = sz + 1) := hWs
 have hsw : Hid (w.heap.size ≤ sz) := by rw [hsz]; exact Nat.le_refl _
 have HW : Hid (w.alloc (.cells #[.slice a nh c, .int .i64 st] 24) = W) := hW
 have CA : Hid (∀ y, Below W.heap.size W y → y.cell? ⟨sz, 0, none⟩ = some (.slice a nh c) ∧ y.cell? ⟨sz, 1, none⟩ = some (.int .i64 st)) := fun y hb => ⟨(X0.out.below hb X0.out.lt).two.1, (X0.out.below hb X0.out.lt).two.2.1⟩
 have UP : Hid (∀ y, Below W.heap.size W y → Below sz w y) := fun y hb => HB0.out.trans (hb.mono (by have := HWS.out; omega))
 have INA : Hid (∀ y, Below W.heap.size W y → IntAt y a nh xs) := fun y hb => hA0.out.below (UP.out y hb) hsw.out
 have NAM : Hid (∀ y, Below W.heap.size W y → Names y) := fun y hb => hN.below (UP.out y hb) (by rw [← hsz]; exact nlt)
 clear hA hi hL hN hW hb0 hA0 hv hlh nlt hWs
 go_enter Tryz.func3, Tryz.ntmps3
 go_wp2_with fail
 rw [HW.out]
 (try rw [HSZ.out])
 refine (szRows_left a nh c st _ hn).mono ?_
 rintro e w1 ⟨rfl, hb1⟩
 have HB1 : Hid (Below W.heap.size W w1) := hb1
 have hr1 : ¬ (1048576 - (nh : Int) < 0) := by omega
 clear hb1
 go_wp2_with fail
 refine (dSzOpSS v n cl (1048576 - (nh : Int)) w1 (HV.out.on (UP.out _ HB1.out) hsw.out) HLH.out (by omega) (by omega)).mono ?_
 rintro e w2 ⟨hb2, ⟨r, rfl, hr2, hr3⟩ | ⟨rfl, hbig⟩⟩
 case inr =>
   have hall : Below sz w w2 := UP.out _ (HB1.out.trans (hb2.mono HB1.out.size))
   clear hb2 hbig
   go_wp2
   go_ret
   exact ⟨rfl, by rw [HSZ.out]; exact hall⟩
 have BIG : Hid (n + bigL cl ≤ 1048576) := by show _ ≤ _; omega
 have hr4 : ¬ r < 0 := by omega
 have HB2 : Hid (Below W.heap.size W w2) := HB1.out.trans (hb2.mono HB1.out.size)
 have LIS : Hid (∀ y, Below W.heap.size W y → At false y v (.l 55 1 n cl)) := fun y hb => (HV.out.on (UP.out y hb) hsw.out).at (by have := BIG.out; simp only [Cel.big]; omega)
 clear hb2 hr2 hr3
 obtain ⟨c0, c1⟩ := CA.out _ HB2.out
 go_wp2_with fail
 refine (toRows_any a nh c st xs _ (INA.out _ HB2.out)).mono ?_
 rintro e w3 ⟨rfl, own3, hb3⟩
 have O3 : Hid (IntAt w3 (some ⟨w2.heap.size + 3, 0, none⟩) nh xs) := own_intAt own3 (by omega)
 have HB3 : Hid (Below W.heap.size W w3) := HB2.out.trans (hb3.mono HB2.out.size)
 clear hb3 own3 c0 c1
 go_wp2_with fail
 refine (dToOpSS v n cl _ (LIS.out _ HB3.out) HLH.out).mono ?_
 rintro e w4 ⟨hb4, u4, S4, rfl, ho4⟩
 have A4 : Hid (At true w4 u4 (.l 55 1 n cl)) := ho4.at
 have O4 : Hid (IntAt w4 (some ⟨w2.heap.size + 3, 0, none⟩) nh xs) := O3.out.below hb4 (Nat.le_refl _)
 have HB4 : Hid (Below W.heap.size W w4) := HB3.out.trans (hb4.mono HB3.out.size)
 clear hb4 ho4
 go_wp2_with fail
 refine (specC (w2.heap.size + 3) 0 nh nh st xs L u4 n cl w4 (by omega) O4.out HL.out A4.out HLH.out).mono ?_
 rintro e w5 ⟨us, ok, ⟨rfl, hiff, hat⟩, hb5⟩
 have HC0 : HasL (ansC L n cl nh xs st ok) tyMachine := ansC_has HLH.out HLn.out
 have HCT : Hid (HasL (ansC L n cl nh xs st ok) tyMachine) := HC0
 have CNT : Hid (tcnt (ansC L n cl nh xs st ok) ≤ 4000000000000) := ansC_cnt HLH.out (by have := BIG.out; omega) (by have := BIG.out; omega) (by have := HLn.out; omega) (by have := HL.out.len; omega)
 obtain ⟨sa0, sm0, sk0, sa1, sm1, sk1, sa2, sm2, sk2, sj3, sa4, sm4, sk4, sa5, sm5, sk5, sa6, sm6, sk6, sj7, rfl⟩ := forms8 hat HC0
 have IFF : Hid (ok = true ↔ NewOk L n cl nh xs st) := hiff
 have nb : (ok != ok) = false := by simp
 obtain ⟨q5, hq5⟩ : ∃ q5, w5.heap.size = q5 := ⟨_, rfl⟩
 obtain ⟨W5, hW5⟩ : ∃ W5, w5.alloc (.cells #[.slice sa0 sm0 sk0, .slice sa1 sm1 sk1, .slice sa2 sm2 sk2, .int .i64 sj3, .slice sa4 sm4 sk4, .slice sa5 sm5 sk5, .slice sa6 sm6 sk6, .int .i64 sj7] 36) = W5 := ⟨_, rfl⟩
 have hx5 : Below w5.heap.size w5 W5 := by rw [← hW5]; exact (Below.refl _ _).alloc (Nat.le_refl _) _
 have X5 : Hid (Box W5 q5 #[.slice sa0 sm0 sk0, .slice sa1 sm1 sk1, .slice sa2 sm2 sk2, .int .i64 sj3, .slice sa4 sm4 sk4, .slice sa5 sm5 sk5, .slice sa6 sm6 sk6, .int .i64 sj7] 36) := by rw [← hW5, ← hq5]; exact box_of w5 _ _
 have SPA : Hid (∀ y, Below W5.heap.size W5 y → AtL false y [.slice sa0 sm0 sk0, .slice sa1 sm1 sk1, .slice sa2 sm2 sk2, .int .i64 sj3, .slice sa4 sm4 sk4, .slice sa5 sm5 sk5, .slice sa6 sm6 sk6, .int .i64 sj7] (ansC L n cl nh xs st ok)) := fun y hb => (hat.on hx5 (Nat.le_refl _)).on hb (Nat.le_refl _)
 have SPB : Hid (∀ y, Below W5.heap.size W5 y → Box y q5 #[.slice sa0 sm0 sk0, .slice sa1 sm1 sk1, .slice sa2 sm2 sk2, .int .i64 sj3, .slice sa4 sm4 sk4, .slice sa5 sm5 sk5, .slice sa6 sm6 sk6, .int .i64 sj7] 36) := fun y hb => X5.out.below hb X5.out.lt
 have HB5 : Hid (Below W.heap.size W W5) := (HB4.out.trans (hb5.mono HB4.out.size)).trans (hx5.mono (Nat.le_trans HB4.out.size hb5.size))
 have HW5 : Hid (w5.alloc (.cells #[.slice sa0 sm0 sk0, .slice sa1 sm1 sk1, .slice sa2 sm2 sk2, .int .i64 sj3, .slice sa4 sm4 sk4, .slice sa5 sm5 sk5, .slice sa6 sm6 sk6, .int .i64 sj7] 36) = W5) := hW5
 have E5 : Hid (w5.heap.size = q5) := hq5
 have UP5 : Hid (∀ y, Below W5.heap.size W5 y → Below W.heap.size W y) := fun y hb => HB5.out.trans (hb.mono HB5.out.size)
 clear hb5 hat hiff HC0 hx5 hW5 hq5 O3 O4 A4
 go_upto_region 9 with (fail)
 rw [HW5.out]
 (try rw [E5.out])
 obtain ⟨c0, c1⟩ := CA.out _ HB5.out
 go_wp2_with fail
 refine (toRows_any a nh c st xs _ (INA.out _ HB5.out)).mono ?_
 rintro e w6 ⟨rfl, own6, hb6⟩
 obtain ⟨h6, hh6⟩ : ∃ h6, W5.heap.size + 3 = h6 := ⟨_, rfl⟩
 rw [hh6] at own6 ⊢
 have h65 : W5.heap.size ≤ h6 := by omega
 have h6l : h6 < w6.heap.size := (own6.lt h6 rfl).2
 obtain ⟨q6, hq6⟩ : ∃ q6, w6.heap.size = q6 := ⟨_, rfl⟩
 obtain ⟨W6, hW6⟩ : ∃ W6, w6.alloc (.cells #[.slice (some ⟨h6, 0, none⟩) nh nh, .int .i64 st] 34) = W6 := ⟨_, rfl⟩
 have hx6 : Below w6.heap.size w6 W6 := by rw [← hW6]; exact (Below.refl _ _).alloc (Nat.le_refl _) _
 have hs6 : W6.heap.size = q6 + 1 := by rw [← hW6, ← hq6]; simp
 have X6 : Hid (Box W6 q6 #[.slice (some ⟨h6, 0, none⟩) nh nh, .int .i64 st] 34) := by rw [← hW6, ← hq6]; exact box_of w6 _ _
 have OWN6 : Hid (W6.ownsRow h6 3 1 (.slice (some ⟨h6, 0, none⟩) nh nh) nh (xs.map I)) := owns_below own6 hx6 (Nat.le_refl _)
 have HB56 : Hid (Below W5.heap.size W5 W6) := hb6.trans (hx6.mono hb6.size)
 have HW6 : Hid (w6.alloc (.cells #[.slice (some ⟨h6, 0, none⟩) nh nh, .int .i64 st] 34) = W6) := hW6
 have E6 : Hid (w6.heap.size = q6) := hq6
 rw [hq6] at h6l
 clear own6 hb6 hh6 hx6 hW6 hq6 c0 c1
 go_upto_region 10 with (fail)
 rw [HW6.out]
 (try rw [E6.out])
 go_wp2_with fail
 refine (dToOpSS v n cl _ (LIS.out _ (UP5.out _ HB56.out)) HLH.out).mono ?_
 rintro e w7 ⟨hb7, u7, S7, rfl, ho7⟩
 have OW7 : Hid (Own w7 W6.heap.size u7 (.l 55 1 n cl) S7) := ho7
 have HB67 : Hid (Below W6.heap.size W6 w7) := hb7
 have HB57 : Hid (Below W5.heap.size W5 w7) := HB56.out.trans (hb7.mono HB56.out.size)
 have X67 : Hid (∀ y, Below w7.heap.size w7 y → y.cell? ⟨q6, 0, none⟩ = some (.slice (some ⟨h6, 0, none⟩) nh nh) ∧ y.cell? ⟨q6, 1, none⟩ = some (.int .i64 st)) := fun y hb => by
   have hbb := HB67.out.trans (hb.mono HB67.out.size)
   exact ⟨(X6.out.below hbb X6.out.lt).two.1, (X6.out.below hbb X6.out.lt).two.2.1⟩
 clear hb7 ho7
 obtain ⟨d0, d1⟩ := X67.out _ (Below.refl _ _)
 go_wp2_with fail
 refine (implC h6 0 nh st xs L u7 n cl w7 (by omega) (own_intAt (owns_below OWN6.out HB67.out (Nat.le_refl _)) (by omega)) HI.out (NAM.out _ (UP5.out _ HB57.out)) HL.out OW7.out.at HLH.out).mono ?_
 rintro e w8 ⟨gs, ok', S8, ⟨rfl, hiff, hO8⟩, hb8⟩
 obtain rfl : ok' = ok := by
   have h1 := IFF.out
   rw [← hiff] at h1
   cases ok <;> cases ok' <;> simp at h1 ⊢
 obtain ⟨ga0, gm0, gk0, ga1, gm1, gk1, ga2, gm2, gk2, gj3, ga4, gm4, gk4, ga5, gm5, gk5, ga6, gm6, gk6, gj7, rfl⟩ := forms8 hO8.at HCT.out
 obtain ⟨q8, hq8⟩ : ∃ q8, w8.heap.size = q8 := ⟨_, rfl⟩
 obtain ⟨W8, hW8⟩ : ∃ W8, w8.alloc (.cells #[.slice ga0 gm0 gk0, .slice ga1 gm1 gk1, .slice ga2 gm2 gk2, .int .i64 gj3, .slice ga4 gm4 gk4, .slice ga5 gm5 gk5, .slice ga6 gm6 gk6, .int .i64 gj7] 36) = W8 := ⟨_, rfl⟩
 have hx8 : Below w8.heap.size w8 W8 := by rw [← hW8]; exact (Below.refl _ _).alloc (Nat.le_refl _) _
 have X8 : Hid (Box W8 q8 #[.slice ga0 gm0 gk0, .slice ga1 gm1 gk1, .slice ga2 gm2 gk2, .int .i64 gj3, .slice ga4 gm4 gk4, .slice ga5 gm5 gk5, .slice ga6 gm6 gk6, .int .i64 gj7] 36) := by rw [← hW8, ← hq8]; exact box_of w8 _ _
 have LT8 : Hid (∀ x, S8 x → w7.heap.size ≤ x ∧ x < q8) := fun x hx => by have := hO8.lt x hx; rw [hq8] at this; exact this
 have OG8 : Hid (OwnL W8 w7.heap.size [.slice ga0 gm0 gk0, .slice ga1 gm1 gk1, .slice ga2 gm2 gk2, .int .i64 gj3, .slice ga4 gm4 gk4, .slice ga5 gm5 gk5, .slice ga6 gm6 gk6, .int .i64 gj7] (ansC L n cl nh xs st ok') S8) := hO8.on hx8 (Nat.le_refl _)
 have HB78 : Hid (Below w7.heap.size w7 W8) := hb8.trans (hx8.mono hb8.size)
 have HB58 : Hid (Below W5.heap.size W5 W8) := HB57.out.trans (HB78.out.mono HB57.out.size)
 have HW8 : Hid (w8.alloc (.cells #[.slice ga0 gm0 gk0, .slice ga1 gm1 gk1, .slice ga2 gm2 gk2, .int .i64 gj3, .slice ga4 gm4 gk4, .slice ga5 gm5 gk5, .slice ga6 gm6 gk6, .int .i64 gj7] 36) = W8) := hW8
 have E8 : Hid (w8.heap.size = q8) := hq8
 have L78 : w7.heap.size ≤ q8 := by rw [← hq8]; exact hb8.size
 clear hO8 hb8 hiff hx8 hW8 hq8 d0 d1
 go_upto_region 12 with (fail)
 rw [HW8.out]
 (try rw [E8.out])
 obtain ⟨y0, y1, y2, y3, y4, y5, y6, y7⟩ := eight_of X8.out
 obtain ⟨z0, z1, z2, z3, z4, z5, z6, z7⟩ := eight_of (SPB.out _ HB58.out)
 go_wp2_with fail
 refine (dEqMachine [.slice ga0 gm0 gk0, .slice ga1 gm1 gk1, .slice ga2 gm2 gk2, .int .i64 gj3, .slice ga4 gm4 gk4, .slice ga5 gm5 gk5, .slice ga6 gm6 gk6, .int .i64 gj7] [.slice sa0 sm0 sk0, .slice sa1 sm1 sk1, .slice sa2 sm2 sk2, .int .i64 sj3, .slice sa4 sm4 sk4, .slice sa5 sm5 sk5, .slice sa6 sm6 sk6, .int .i64 sj7] _ _ (atLoose OG8.out.at) (SPA.out _ HB58.out) HCT.out).mono ?_
 rintro e w9 ⟨rfl, hb9⟩
 have HB89 : Hid (Below W8.heap.size W8 w9) := hb9
 have HB79 : Hid (Below w7.heap.size w7 w9) := HB78.out.trans (hb9.mono HB78.out.size)
 have HB59 : Hid (Below W5.heap.size W5 w9) := HB58.out.trans (hb9.mono HB58.out.size)
 clear hb9 y0 y1 y2 y3 y4 y5 y6 y7 z0 z1 z2 z3 z4 z5 z6 z7
 have KS : Hid (∀ y, Below w9.heap.size w9 y → (y.cell? ⟨sz, 0, none⟩ = some (.slice a nh c) ∧ y.cell? ⟨sz, 1, none⟩ = some (.int .i64 st)) ∧ y.cell? ⟨q6, 0, none⟩ = some (.slice (some ⟨h6, 0, none⟩) nh nh) ∧ y.cell? ⟨q6, 1, none⟩ = some (.int .i64 st)) := fun y hb => ⟨CA.out y (UP5.out y (HB59.out.trans (hb.mono HB59.out.size))), X67.out y (HB79.out.trans (hb.mono HB79.out.size))⟩
 have K0 : Hid ((w9.drew.cell? ⟨sz, 0, none⟩ = some (.slice a nh c) ∧ w9.drew.cell? ⟨sz, 1, none⟩ = some (.int .i64 st)) ∧ w9.drew.cell? ⟨q6, 0, none⟩ = some (.slice (some ⟨h6, 0, none⟩) nh nh) ∧ w9.drew.cell? ⟨q6, 1, none⟩ = some (.int .i64 st)) := KS.out _ (Below.refl _ _).drew
 go_upto_region 14 with (fail)
 go_region_held3 (fun w' => (w'.cell? ⟨sz, 0, none⟩ = some (.slice a nh c) ∧ w'.cell? ⟨sz, 1, none⟩ = some (.int .i64 st)) ∧ w'.cell? ⟨q6, 0, none⟩ = some (.slice (some ⟨h6, 0, none⟩) nh nh) ∧ w'.cell? ⟨q6, 1, none⟩ = some (.int .i64 st))
   (first | (with_reducible exact K2.out) | (with_reducible exact K1.out) | (with_reducible exact K0.out) | go_keep)
   (first
   | (go_at_call 7
      refine (toRows_any a nh c st xs _ (INA.out _ (UP5.out _ HB59.out).drew)).mono ?_
      rintro e w10 ⟨rfl, own10, hb10⟩
      have hb10' : Below w9.heap.size w9 w10 := (Below.refl w9.heap.size w9).drew.trans hb10
      have HB10 : Hid (Below w9.heap.size w9 w10) := hb10'
      have O10 : Hid (IntAt w10 (some ⟨w9.heap.size + 3, 0, none⟩) nh xs) := own_intAt own10 (by omega)
      have K1 : Hid ((w10.cell? ⟨sz, 0, none⟩ = some (.slice a nh c) ∧ w10.cell? ⟨sz, 1, none⟩ = some (.int .i64 st)) ∧ w10.cell? ⟨q6, 0, none⟩ = some (.slice (some ⟨h6, 0, none⟩) nh nh) ∧ w10.cell? ⟨q6, 1, none⟩ = some (.int .i64 st)) := KS.out _ hb10'
      clear hb10 own10 hb10')
   | (go_at_call 11
      refine (eqRows_same _ _ nh nh nh nh st xs _ (own_intAt (owns_below (owns_below OWN6.out HB67.out (Nat.le_refl _)) (HB79.out.trans (HB10.out.mono HB79.out.size)) (Nat.le_refl _)) (by omega)) O10.out).mono ?_
      rintro e w11 ⟨rfl, hb11⟩
      have hb11' : Below w9.heap.size w9 w11 := HB10.out.trans (hb11.mono HB10.out.size)
      have HB11 : Hid (Below w9.heap.size w9 w11) := hb11'
      have K2 : Hid ((w11.cell? ⟨sz, 0, none⟩ = some (.slice a nh c) ∧ w11.cell? ⟨sz, 1, none⟩ = some (.int .i64 st)) ∧ w11.cell? ⟨q6, 0, none⟩ = some (.slice (some ⟨h6, 0, none⟩) nh nh) ∧ w11.cell? ⟨q6, 1, none⟩ = some (.int .i64 st)) := KS.out _ hb11'
      clear hb11 hb11'))
 have HB711 : Hid (Below w7.heap.size w7 w11) := HB79.out.trans (HB11.out.mono HB79.out.size)
 have HB811 : Hid (Below W8.heap.size W8 w11) := HB89.out.trans (HB11.out.mono HB89.out.size)
 have HB511 : Hid (Below W5.heap.size W5 w11) := HB59.out.trans (HB11.out.mono HB59.out.size)
 clear K0 K1 K2 KS O10 HB10 HB11 HB79 HB89 HB59
 go_wp2_with fail
 refine (dToOpSS v n cl _ (LIS.out _ (UP5.out _ HB511.out)) HLH.out).mono ?_
 rintro e w12 ⟨hb12, u12, S12, rfl, ho12⟩
 have HB712 : Hid (Below w7.heap.size w7 w12) := HB711.out.trans (hb12.mono HB711.out.size)
 have HB812 : Hid (Below W8.heap.size W8 w12) := HB811.out.trans (hb12.mono HB811.out.size)
 have HB512 : Hid (Below W5.heap.size W5 w12) := HB511.out.trans (hb12.mono HB511.out.size)
 have A12 : Hid (At false w12 u12 (.l 55 1 n cl)) := ho12.at.loose
 clear hb12 ho12
 go_wp2_with fail
 refine (dEqOpSS u7 u12 n cl _ (OW7.out.at.loose.on HB712.out (Nat.le_refl _)) A12.out HLH.out).mono ?_
 rintro e w13 ⟨rfl, hb13⟩
 have HB713 : Hid (Below w7.heap.size w7 w13) := HB712.out.trans (hb13.mono HB712.out.size)
 have HB813 : Hid (Below W8.heap.size W8 w13) := HB812.out.trans (hb13.mono HB812.out.size)
 have HB513 : Hid (Below W5.heap.size W5 w13) := HB512.out.trans (hb13.mono HB512.out.size)
 clear hb13 HB711 HB811 HB511 HB712 HB812 HB512 A12
 obtain ⟨d0, d1⟩ := X67.out _ HB713.out
 go_wp2_with fail
 refine (markRows_own h6 h6 nh nh st xs _ HLn.out (by omega) (owns_below (owns_below OWN6.out HB67.out (Nat.le_refl _)) HB713.out (Nat.le_refl _))).mono ?_
 rintro e w14 ⟨rfl, own14, hs14, e1, e2, e3, ho14⟩
 have G14 : Hid (w13.grownBy w14 (some h6)) := ⟨e1, e2, e3, hs14, fun i hi hne => ho14 i hi (fun e => hne (by rw [e]))⟩
 have NE : ∀ x, w7.heap.size ≤ x → x ≠ h6 := fun x hx => by have := HB67.out.size; omega
 have G14' : Hid (∀ x, x < w13.heap.size → x ≠ h6 → w14.heap[x]? = w13.heap[x]?) := ho14
 have L13 : Hid (w7.heap.size ≤ w13.heap.size) := HB713.out.size
 have OW14 : Hid (Own w14 W6.heap.size u7 (.l 55 1 n cl) S7) := (OW7.out.on HB713.out (Nat.le_refl _)).heap fun x hx => G14'.out x (by have := (OW7.out.lt x hx).2; have := L13.out; omega) (by have := (OW7.out.lt x hx).1; omega)
 have X813 : Box w13 q8 #[.slice ga0 gm0 gk0, .slice ga1 gm1 gk1, .slice ga2 gm2 gk2, .int .i64 gj3, .slice ga4 gm4 gk4, .slice ga5 gm5 gk5, .slice ga6 gm6 gk6, .int .i64 gj7] 36 := X8.out.below HB813.out X8.out.lt
 have X814 : Hid (Box w14 q8 #[.slice ga0 gm0 gk0, .slice ga1 gm1 gk1, .slice ga2 gm2 gk2, .int .i64 gj3, .slice ga4 gm4 gk4, .slice ga5 gm5 gk5, .slice ga6 gm6 gk6, .int .i64 gj7] 36) := by show w14.heap[q8]? = _; rw [G14'.out q8 X813.lt (NE q8 L78)]; exact X813
 have OG14 : Hid (OwnL w14 w7.heap.size [.slice ga0 gm0 gk0, .slice ga1 gm1 gk1, .slice ga2 gm2 gk2, .int .i64 gj3, .slice ga4 gm4 gk4, .slice ga5 gm5 gk5, .slice ga6 gm6 gk6, .int .i64 gj7] (ansC L n cl nh xs st ok') S8) := (OG8.out.on HB813.out (Nat.le_refl _)).heap fun x hx => G14'.out x (by have h1 := (OG8.out.lt x hx).2; have h2 := HB813.out.size; omega) (NE x (LT8.out x hx).1)
 have HB514 : Hid (Below W5.heap.size W5 w14) := HB513.out.grown G14.out HB513.out.size (fun k e => by
   have h1 : h6 = k := by simpa using e
   omega)
 have L714 : Hid (w7.heap.size ≤ w14.heap.size) := Nat.le_trans L13.out hs14
 have CB : Hid (((nh : Int) + 1) + (cntL cl : Int) ≤ 4611686018427387904) := by
   have h1 := cnt_list HLH.out (by have := BIG.out; omega)
   have h2 : n * 3145728 ≤ 1048576 * 3145728 := Nat.mul_le_mul_right _ (by have := BIG.out; omega)
   show _ ≤ _
   omega
 clear own14 hs14 e1 e2 e3 ho14 d0 d1 X813 G14 G14'
 go_wp2_with fail
 refine (dMarkOpSS tx0 W6.heap.size u7 n cl S7 ((nh : Int) + 1) w14 OW14.out HLH.out (by omega) CB.out).mono ?_
 rintro e w15 ⟨rfl, -, kp⟩
 obtain ⟨kk, hkk⟩ : ∃ kk : Int, ((nh : Int) + 1) + ((Cel.l 55 1 n cl).cnt : Int) = kk := ⟨_, rfl⟩
 have hk0 : ¬ kk < 0 := by omega
 rw [hkk]
 have S7L : Hid (∀ x, S7 x → W6.heap.size ≤ x ∧ x < w7.heap.size) := OW7.out.lt
 have X815 : Hid (Box w15 q8 #[.slice ga0 gm0 gk0, .slice ga1 gm1 gk1, .slice ga2 gm2 gk2, .int .i64 gj3, .slice ga4 gm4 gk4, .slice ga5 gm5 gk5, .slice ga6 gm6 gk6, .int .i64 gj7] 36) := by
   show w15.heap[q8]? = _
   rw [kp.oth q8 X814.out.lt (fun hx => by have := (S7L.out _ hx).2; omega)]
   exact X814.out
 have OG15 : Hid (OwnL w15 w7.heap.size [.slice ga0 gm0 gk0, .slice ga1 gm1 gk1, .slice ga2 gm2 gk2, .int .i64 gj3, .slice ga4 gm4 gk4, .slice ga5 gm5 gk5, .slice ga6 gm6 gk6, .int .i64 gj7] (ansC L n cl nh xs st ok') S8) := OG14.out.heap fun x hx => kp.oth x (OG14.out.lt x hx).2 (fun h => by have := (S7L.out _ h).2; have := (LT8.out x hx).1; omega)
 have HB515 : Hid (Below W5.heap.size W5 w15) := HB514.out.trans (kp.below (fun x hx => by have := (S7L.out x hx).1; have := HB56.out.size; omega) HB514.out.size)
 clear kp hkk
 obtain ⟨y0, y1, y2, y3, y4, y5, y6, y7⟩ := eight_of X815.out
 obtain ⟨z0, z1, z2, z3, z4, z5, z6, z7⟩ := eight_of (SPB.out _ HB515.out)
 go_wp2_with fail
 refine (dEqMachine [.slice ga0 gm0 gk0, .slice ga1 gm1 gk1, .slice ga2 gm2 gk2, .int .i64 gj3, .slice ga4 gm4 gk4, .slice ga5 gm5 gk5, .slice ga6 gm6 gk6, .int .i64 gj7] [.slice sa0 sm0 sk0, .slice sa1 sm1 sk1, .slice sa2 sm2 sk2, .int .i64 sj3, .slice sa4 sm4 sk4, .slice sa5 sm5 sk5, .slice sa6 sm6 sk6, .int .i64 sj7] _ _ (atLoose OG15.out.at) (SPA.out _ HB515.out) HCT.out).mono ?_
 rintro e w16 ⟨rfl, hb16⟩
 have X816 : Hid (Box w16 q8 #[.slice ga0 gm0 gk0, .slice ga1 gm1 gk1, .slice ga2 gm2 gk2, .int .i64 gj3, .slice ga4 gm4 gk4, .slice ga5 gm5 gk5, .slice ga6 gm6 gk6, .int .i64 gj7] 36) := X815.out.below hb16 X815.out.lt
 have OG16 : Hid (OwnL w16 w7.heap.size [.slice ga0 gm0 gk0, .slice ga1 gm1 gk1, .slice ga2 gm2 gk2, .int .i64 gj3, .slice ga4 gm4 gk4, .slice ga5 gm5 gk5, .slice ga6 gm6 gk6, .int .i64 gj7] (ansC L n cl nh xs st ok') S8) := OG15.out.on hb16 (Nat.le_refl _)
 have HB516 : Hid (Below W5.heap.size W5 w16) := HB515.out.trans (hb16.mono HB515.out.size)
 have CT1 : Hid ((1 : Int) + (tcnt (ansC L n cl nh xs st ok') : Int) ≤ 4611686018427387904) := by have := CNT.out; show _ ≤ _; omega
 clear hb16 y0 y1 y2 y3 y4 y5 y6 y7 z0 z1 z2 z3 z4 z5 z6 z7
 obtain ⟨y0, y1, y2, y3, y4, y5, y6, y7⟩ := eight_of X816.out
 go_wp2_with fail
 refine (dMarkMachine tx0 w7.heap.size [.slice ga0 gm0 gk0, .slice ga1 gm1 gk1, .slice ga2 gm2 gk2, .int .i64 gj3, .slice ga4 gm4 gk4, .slice ga5 gm5 gk5, .slice ga6 gm6 gk6, .int .i64 gj7] _ S8 1 w16 OG16.out HCT.out (by omega) CT1.out).mono ?_
 rintro e w17 ⟨rfl, hO17, kp⟩
 obtain ⟨r, hr⟩ : ∃ r : Int, (1 : Int) + (tcnt (ansC L n cl nh xs st ok') : Int) = r := ⟨_, rfl⟩
 have hr0 : ¬ r < 0 := by omega
 have HR : Hid ((1 : Int) + (tcnt (ansC L n cl nh xs st ok') : Int) = r) := hr
 rw [hr]
 have OG17 : Hid (OwnL w17 w7.heap.size [.slice ga0 gm0 gk0, .slice ga1 gm1 gk1, .slice ga2 gm2 gk2, .int .i64 gj3, .slice ga4 gm4 gk4, .slice ga5 gm5 gk5, .slice ga6 gm6 gk6, .int .i64 gj7] (topL tx0 (ansC L n cl nh xs st ok') 1) S8) := hO17
 have X817 : Hid (Box w17 q8 #[.slice ga0 gm0 gk0, .slice ga1 gm1 gk1, .slice ga2 gm2 gk2, .int .i64 gj3, .slice ga4 gm4 gk4, .slice ga5 gm5 gk5, .slice ga6 gm6 gk6, .int .i64 gj7] 36) := by
   show w17.heap[q8]? = _
   rw [kp.oth q8 X816.out.lt (fun hx => by have := (LT8.out _ hx).2; omega)]
   exact X816.out
 have HB517 : Hid (Below W5.heap.size W5 w17) := HB516.out.trans (kp.below (fun x hx => by have := (LT8.out x hx).1; have := HB57.out.size; omega) HB516.out.size)
 clear hO17 kp hr y0 y1 y2 y3 y4 y5 y6 y7
 obtain ⟨y0, y1, y2, y3, y4, y5, y6, y7⟩ := eight_of X817.out
 go_wp2_with fail
 refine (dHeldMachine tx0 [.slice ga0 gm0 gk0, .slice ga1 gm1 gk1, .slice ga2 gm2 gk2, .int .i64 gj3, .slice ga4 gm4 gk4, .slice ga5 gm5 gk5, .slice ga6 gm6 gk6, .int .i64 gj7] (ansC L n cl nh xs st ok') 1 w17 (atLoose OG17.out.at) HCT.out (by omega) CT1.out).mono ?_
 rintro e w18 ⟨rfl, hb18⟩
 rw [HR.out]
 have OG18 : Hid (OwnL w18 w7.heap.size [.slice ga0 gm0 gk0, .slice ga1 gm1 gk1, .slice ga2 gm2 gk2, .int .i64 gj3, .slice ga4 gm4 gk4, .slice ga5 gm5 gk5, .slice ga6 gm6 gk6, .int .i64 gj7] (topL tx0 (ansC L n cl nh xs st ok') 1) S8) := OG17.out.on hb18 (Nat.le_refl _)
 have X818 : Hid (Box w18 q8 #[.slice ga0 gm0 gk0, .slice ga1 gm1 gk1, .slice ga2 gm2 gk2, .int .i64 gj3, .slice ga4 gm4 gk4, .slice ga5 gm5 gk5, .slice ga6 gm6 gk6, .int .i64 gj7] 36) := X817.out.below hb18 X817.out.lt
 have HB518 : Hid (Below W5.heap.size W5 w18) := HB517.out.trans (hb18.mono HB517.out.size)
 clear hb18 y0 y1 y2 y3 y4 y5 y6 y7
 obtain ⟨c0, c1⟩ := CA.out _ (UP5.out _ HB518.out)
 go_wp2_with fail
 refine (toRows_any a nh c st xs _ (INA.out _ (UP5.out _ HB518.out))).mono ?_
 rintro e w19 ⟨rfl, own19, hb19⟩
 have O19 : Hid (IntAt w19 (some ⟨w18.heap.size + 3, 0, none⟩) nh xs) := own_intAt own19 (by omega)
 have HB819 : Hid (Below w18.heap.size w18 w19) := hb19
 have HB519 : Hid (Below W5.heap.size W5 w19) := HB518.out.trans (hb19.mono HB518.out.size)
 clear hb19 own19 c0 c1
 go_wp2_with fail
 refine (dToOpSS v n cl _ (LIS.out _ (UP5.out _ HB519.out)) HLH.out).mono ?_
 rintro e w20 ⟨hb20, u20, S20, rfl, ho20⟩
 have A20 : Hid (At true w20 u20 (.l 55 1 n cl)) := ho20.at
 have O20 : Hid (IntAt w20 (some ⟨w18.heap.size + 3, 0, none⟩) nh xs) := O19.out.below hb20 (Nat.le_refl _)
 have HB820 : Hid (Below w18.heap.size w18 w20) := HB819.out.trans (hb20.mono HB819.out.size)
 have HB520 : Hid (Below W5.heap.size W5 w20) := HB519.out.trans (hb20.mono HB519.out.size)
 clear hb20 ho20
 go_wp2_with fail
 refine (implC (w18.heap.size + 3) 0 nh st xs L u20 n cl w20 (by omega) O20.out HI.out (NAM.out _ (UP5.out _ HB520.out)) HL.out A20.out HLH.out).mono ?_
 rintro e w21 ⟨ks, ok2, S21, ⟨rfl, hiff, hO21⟩, hb21⟩
 obtain rfl : ok2 = ok' := by
   have h1 := IFF.out
   rw [← hiff] at h1
   cases ok' <;> cases ok2 <;> simp at h1 ⊢
 obtain ⟨ka0, km0, kk0, ka1, km1, kk1, ka2, km2, kk2, kj3, ka4, km4, kk4, ka5, km5, kk5, ka6, km6, kk6, kj7, rfl⟩ := forms8 hO21.at HCT.out
 obtain ⟨q21, hq21⟩ : ∃ q21, w21.heap.size = q21 := ⟨_, rfl⟩
 obtain ⟨W21, hW21⟩ : ∃ W21, w21.alloc (.cells #[.slice ka0 km0 kk0, .slice ka1 km1 kk1, .slice ka2 km2 kk2, .int .i64 kj3, .slice ka4 km4 kk4, .slice ka5 km5 kk5, .slice ka6 km6 kk6, .int .i64 kj7] 36) = W21 := ⟨_, rfl⟩
 have hx21 : Below w21.heap.size w21 W21 := by rw [← hW21]; exact (Below.refl _ _).alloc (Nat.le_refl _) _
 have X21 : Hid (Box W21 q21 #[.slice ka0 km0 kk0, .slice ka1 km1 kk1, .slice ka2 km2 kk2, .int .i64 kj3, .slice ka4 km4 kk4, .slice ka5 km5 kk5, .slice ka6 km6 kk6, .int .i64 kj7] 36) := by rw [← hW21, ← hq21]; exact box_of w21 _ _
 have AK21 : Hid (AtL false W21 [.slice ka0 km0 kk0, .slice ka1 km1 kk1, .slice ka2 km2 kk2, .int .i64 kj3, .slice ka4 km4 kk4, .slice ka5 km5 kk5, .slice ka6 km6 kk6, .int .i64 kj7] (ansC L n cl nh xs st ok2)) := (atLoose hO21.at).on hx21 (Nat.le_refl _)
 have HB821 : Hid (Below w18.heap.size w18 W21) := (HB820.out.trans (hb21.mono HB820.out.size)).trans (hx21.mono (Nat.le_trans HB820.out.size hb21.size))
 have HB521 : Hid (Below W5.heap.size W5 W21) := HB518.out.trans (HB821.out.mono HB518.out.size)
 have HW21 : Hid (w21.alloc (.cells #[.slice ka0 km0 kk0, .slice ka1 km1 kk1, .slice ka2 km2 kk2, .int .i64 kj3, .slice ka4 km4 kk4, .slice ka5 km5 kk5, .slice ka6 km6 kk6, .int .i64 kj7] 36) = W21) := hW21
 have E21 : Hid (w21.heap.size = q21) := hq21
 clear hO21 hb21 hiff hx21 hW21 hq21 O19 O20 A20
 go_upto_region 32 with (fail)
 rw [HW21.out]
 (try rw [E21.out])
 obtain ⟨y0, y1, y2, y3, y4, y5, y6, y7⟩ := eight_of X21.out
 obtain ⟨z0, z1, z2, z3, z4, z5, z6, z7⟩ := eight_of (SPB.out _ HB521.out)
 go_wp2_with fail
 refine (dEqMachine [.slice ka0 km0 kk0, .slice ka1 km1 kk1, .slice ka2 km2 kk2, .int .i64 kj3, .slice ka4 km4 kk4, .slice ka5 km5 kk5, .slice ka6 km6 kk6, .int .i64 kj7] [.slice sa0 sm0 sk0, .slice sa1 sm1 sk1, .slice sa2 sm2 sk2, .int .i64 sj3, .slice sa4 sm4 sk4, .slice sa5 sm5 sk5, .slice sa6 sm6 sk6, .int .i64 sj7] _ _ AK21.out (SPA.out _ HB521.out) HCT.out).mono ?_
 rintro e w22 ⟨rfl, hb22⟩
 have HB822 : Hid (Below w18.heap.size w18 w22) := HB821.out.trans (hb22.mono HB821.out.size)
 have HB522 : Hid (Below W5.heap.size W5 w22) := HB521.out.trans (hb22.mono HB521.out.size)
 clear hb22 y0 y1 y2 y3 y4 y5 y6 y7 z0 z1 z2 z3 z4 z5 z6 z7
 obtain ⟨y0, y1, y2, y3, y4, y5, y6, y7⟩ := eight_of (X818.out.below HB822.out X818.out.lt)
 go_wp2_with fail
 refine (dHeldMachine tx0 [.slice ga0 gm0 gk0, .slice ga1 gm1 gk1, .slice ga2 gm2 gk2, .int .i64 gj3, .slice ga4 gm4 gk4, .slice ga5 gm5 gk5, .slice ga6 gm6 gk6, .int .i64 gj7] (ansC L n cl nh xs st ok2) 1 w22 (atLoose (OG18.out.on HB822.out (Nat.le_refl _)).at) HCT.out (by omega) CT1.out).mono ?_
 rintro e w23 ⟨rfl, hb23⟩
 rw [HR.out]
 have hall : Below sz w w23 := UP.out _ (UP5.out _ (HB522.out.trans (hb23.mono HB522.out.size)))
 clear hb23 y0 y1 y2 y3 y4 y5 y6 y7
 go_wp2
 go_ret
 exact ⟨rfl, by rw [HSZ.out]; exact hall⟩
end fnExactMachineNew
end Go.Proofs.YtcfimaffeopbbaaGreatDoor
namespace Go.Proofs.YtcfimaffeopbbaaGreatDoor
section
open Go.ChangeShapes Go.WideShapes Go.ChangeAt Go.RowKit Go.Joins
theorem cellsRows : Tryz.prog.cellsOf 24 = 2 := by kernel_rfl
theorem open_rows {H : Type} {enc : TypeId × Value → H} {W : World} {base b0 : Nat} {held : Bool} {v : Value} {d : DataW H} {p : List MemPlace}
   (hv : Value.okWide Tryz.prog W .any b0 24 v) (h : DataW.Trod enc Tryz.prog W base (fun _ => true) held 24 v d p) :
   ∃ (a : Option Addr) (n c : Nat) (st : Int) (xs : List Int), v = RowsV a n c st ∧ n ≤ 9223372036854775807 ∧ (∀ x ∈ xs, (Lit.int .i64 x).wf = true) ∧ (n ≤ 1099511627776 → IntAt W a n xs) := by
 obtain ⟨v0, v1, y0, y1, m, rfl, rfl, rfl, h0, h1⟩ := open_agg2 Tryz.underlying24 (by kernel_rfl) cellsRows hv h
 obtain ⟨st, e1, rfl, w1⟩ := DataW.trod_int Tryz.underlying3 h1
 obtain rfl : v1 = .int .i64 st := by simpa using e1
 rcases open_ints Tryz.underlying22 Tryz.underlying3 (by kernel_rfl) h0 with ⟨hcs, _⟩ | ⟨x, l, cc, zs, hcs, _, hl, hm, hz, _, hcell, hwz⟩
 · obtain rfl : v0 = .slice none 0 0 := by simpa using hcs
   exact ⟨none, 0, 0, st, [], rfl, by omega, fun x hx => by simp at hx, fun _ => ⟨rfl, by omega, .inl rfl⟩⟩
 · obtain rfl : v0 = .slice (some x) l cc := by simpa using hcs
   refine ⟨some x, l, cc, st, zs.take l, rfl, by unfold maxLen at hm; omega, fun x hx => hwz x (List.mem_of_mem_take hx), fun hn => ⟨by simp at hz; rw [List.length_take]; omega, hn, ?_⟩⟩
   by_cases h0 : l = 0
   · exact .inl h0
   · simp at hz
     obtain ⟨b, o, rfl, hc⟩ := ints_at hcell (by omega)
     refine .inr ⟨b, o, rfl, fun i hi => ?_⟩
     rw [hc i (by omega)]
     simp [List.getD, hi]
set_option linter.unusedSimpArgs false
theorem flatOp : Flat Tryz.prog 84 tyOp := by
 refine Flat.st 84 _ [[.i], [.i], [.i]] Tryz.underlying84 rfl (by kernel_rfl) ?_ ?_
 · intro i f g hf hg
   have hi : i < 3 := by have := (List.getElem?_eq_some_iff.1 hg).1; simpa using this
   rcases (show i = 0 ∨ i = 1 ∨ i = 2 by omega) with rfl | rfl | rfl <;> (simp at hf hg; subst hf hg)
   · exact ⟨rfl, by kernel_rfl⟩
   · exact ⟨rfl, by kernel_rfl⟩
   · exact ⟨rfl, by kernel_rfl⟩
 · intro i f g hf hg
   have hi : i < 3 := by have := (List.getElem?_eq_some_iff.1 hg).1; simpa using this
   rcases (show i = 0 ∨ i = 1 ∨ i = 2 by omega) with rfl | rfl | rfl <;> (simp at hf hg; subst hf hg)
   · exact Flat.i _ Tryz.underlying3
   · exact Flat.i _ Tryz.underlying3
   · exact Flat.i _ Tryz.underlying3
end
section
open Go.ChangeShapes Go.WideShapes Go.ChangeAt Go.RowKit
def namesD {H : Type} : DataW H := .agg (nmL.map fun p => .agg [.lit (.int .i64 p.1), .lit (.int .i64 p.2)])
theorem reads_names {H : Type} (enc : TypeId × Value → H) (W : World) (base : Nat) (sp : Nat → Bool) (held : Bool) : DataW.trod enc Tryz.prog W base sp held 4 150 nmCells.toList = some (namesD, []) := by kernel_rfl
theorem cells_name : Tryz.prog.cellsOf 138 = 2 := by kernel_rfl
theorem cells_names : Tryz.prog.cellsOf 150 = 40 := by kernel_rfl
theorem nm_cells (i : Nat) (hi : i < 20) (r : Nat) (hr : r < 2) : nmCells.toList[i * 2 + r]? = [Value.int .i64 (nmA i), .int .i64 (nmB i)][r]? := by
 have h : i = 0 ∨ i = 1 ∨ i = 2 ∨ i = 3 ∨ i = 4 ∨ i = 5 ∨ i = 6 ∨ i = 7 ∨ i = 8 ∨ i = 9 ∨ i = 10 ∨ i = 11 ∨ i = 12 ∨ i = 13 ∨ i = 14 ∨ i = 15 ∨ i = 16 ∨ i = 17 ∨ i = 18 ∨ i = 19 := by omega
 have h2 : r = 0 ∨ r = 1 := by omega
 rcases h2 with rfl | rfl <;> rcases h with rfl | rfl | rfl | rfl | rfl | rfl | rfl | rfl | rfl | rfl | rfl | rfl | rfl | rfl | rfl | rfl | rfl | rfl | rfl | rfl <;> rfl
theorem nm_data {H : Type} (i : Nat) (hi : i < 20) : (nmL.map fun p => (DataW.agg [.lit (.int .i64 p.1), .lit (.int .i64 p.2)] : DataW H))[i]? = some (Lib.tabData .i64 [nmA i, nmB i]) := by
 have h : i = 0 ∨ i = 1 ∨ i = 2 ∨ i = 3 ∨ i = 4 ∨ i = 5 ∨ i = 6 ∨ i = 7 ∨ i = 8 ∨ i = 9 ∨ i = 10 ∨ i = 11 ∨ i = 12 ∨ i = 13 ∨ i = 14 ∨ i = 15 ∨ i = 16 ∨ i = 17 ∨ i = 18 ∨ i = 19 := by omega
 rcases h with rfl | rfl | rfl | rfl | rfl | rfl | rfl | rfl | rfl | rfl | rfl | rfl | rfl | rfl | rfl | rfl | rfl | rfl | rfl | rfl <;> rfl
theorem names_of_trod {H : Type} {enc : TypeId × Value → H} {w : World} {base : Nat} {sp : Nat → Bool} {held : Bool} {fuel : Nat} {cs : List Value} {p : List MemPlace}
   (h : DataW.trod enc Tryz.prog w base sp held fuel 150 cs = some (namesD, p)) : cs = nmCells.toList := by
 have hl : cs.length = 40 := by
   cases fuel with
   | zero => simp [DataW.trod] at h
   | succ fuel =>
     simp only [DataW.trod, Tryz.underlying150, cells_names, cells_name] at h
     split at h
     · rename_i hl
       omega
     · cases h
 have key : ∀ i, i < 20 → (cs.drop (i * 2)).take 2 = [Value.int .i64 (nmA i), .int .i64 (nmB i)] := by
   intro i hi
   obtain ⟨fuel', d, q, hd, ht⟩ := Lib.array_elem Tryz.underlying150 h i hi
   rw [nm_data i hi] at hd
   obtain rfl := Option.some.inj hd
   rw [cells_name] at ht
   exact Lib.cells_of_tab Tryz.underlying138 Tryz.underlying3 cells_int cells_name ht
 apply List.ext_getElem?
 intro j
 by_cases hj : j < 40
 · obtain ⟨i, r, rfl, hi, hr⟩ : ∃ i r, j = i * 2 + r ∧ i < 20 ∧ r < 2 := ⟨j / 2, j % 2, by omega, by omega, by omega⟩
   rw [nm_cells i hi r hr, ← key i hi]
   simp [hr]
 · rw [List.getElem?_eq_none (by omega), List.getElem?_eq_none (by rw [show nmCells.toList.length = 40 by decide +kernel]; omega)]
theorem names_of_laid_r {r : List (String × DataW Unit)} {W : World} (h : laidMet Tryz.prog (("loop.example/g00468/impl.wordNames", namesD) :: r) W) : Names W := by
 obtain ⟨ps, ⟨g', t', cs, fuel, p, q, hg', ht', hvar, hd, _, _⟩, _⟩ := h
 obtain rfl := Option.some.inj (gNames.symm.trans hg')
 obtain rfl := Option.some.inj (gNamesType.symm.trans ht')
 have hc := names_of_trod hd
 unfold Names
 rw [hvar]
 congr 1
 cases cs
 simp_all
theorem names_of_laid {W : World} (h : laidMet Tryz.prog [("loop.example/g00468/impl.wordNames", namesD)] W) : Names W := names_of_laid_r h
theorem vars_open {H : Type} {enc : TypeId × Value → H} {W : World} {sp : Nat → Bool} {gs : List (DataW H)} {q : List MemPlace} (hN : Names W)
   (hV : DataW.TrodVars enc Tryz.prog W sp ["loop.example/g00468/impl.wordNames"] gs q) : gs = [namesD] := by
 obtain ⟨g, t, cs, fuel, d, p', rfl, hg, ht, hvar, hd, rfl⟩ := trodVars_one hV
 obtain rfl := Option.some.inj (gNames.symm.trans hg)
 obtain rfl := Option.some.inj (gNamesType.symm.trans ht)
 obtain rfl : cs = nmCells := Option.some.inj (hvar.symm.trans hN)
 obtain ⟨rfl, rfl⟩ := DataW.Trod.unique (v := .agg nmCells) ⟨fuel, hd⟩ ⟨4, reads_names enc W _ _ _⟩
 rfl
theorem vars_shut {H : Type} {enc : TypeId × Value → H} {W : World} (sp : Nat → Bool) (hN : Names W) :
   DataW.TrodVars enc Tryz.prog W sp ["loop.example/g00468/impl.wordNames"] [namesD] (MemPlace.row ⟨0, 0, none⟩ nmCells.size ++ []) :=
 trodVars_mk1 gNames gNamesType hN (reads_names enc W _ _ _)
end
end Go.Proofs.YtcfimaffeopbbaaGreatDoor
