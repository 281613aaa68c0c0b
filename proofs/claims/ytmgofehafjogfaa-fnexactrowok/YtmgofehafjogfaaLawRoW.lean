/- The law FnExactRowOk, walked from what the program's function is said to answer. -/
import Derived.Test.YtmgofehafjogfaaRows
import Derived.Test.YtmgofehafjogfaaSpecRo
import Derived.Test.YtmgofehafjogfaaVasC
import Derived.Test.YtmgofehafjogfaaDatVs
import Derived.Test.YtmgofehafjogfaaDatVt
import Derived.Test.YtmgofehafjogfaaSchC
import Derived.Test.YtmgofehafjogfaaDatCs
import Derived.Test.YtmgofehafjogfaaDatCt
import Derived.Test.YtmgofehafjogfaaDatCe
import Derived.Test.YtmgofehafjogfaaDatCf
import Derived.OpenShut
import Derived.ChangeOld
import Derived.Below
import Derived.Lib.SmallJoins
import Derived.ShutString
import Derived.Deep.RegionHeld3
import Derived.Deep.Cut
namespace Go.Proofs.Ytmgofehafjogfaa
open Go.ChangeShapes Go.WideShapes Go.ChangeAt Go.RowKit Go.Joins

namespace fnExactRowOk
theorem own : ownKnob Try.prog.godebug = none := by kernel_rfl
theorem laidOut : laidOutB Try.prog = true := by kernel_rfl
/-- What the law asks of the program's function. -/
def Asked : Prop := ∀ (a1 : Option Addr) (n1 c1 : Nat) (a2 : Option Addr) (n2 c2 : Nat) (a3 : Option Addr) (n3 c3 : Nat) (S : SchD) (a : Option Addr) (n c : Nat) (L : List Va3) (w : World), SchAt w a1 n1 c1 a2 n2 c2 a3 n3 c3 S → SchSz S → VasAt w a n L → n ≤ c → Calls Try.prog 15 #[ScV a1 n1 c1 a2 n2 c2 a3 n3 c3, .slice a n c] w fun e w' => e = .returned (.bool (decide (RowGood S L))) ∧ Below w.heap.size w w'
set_option maxHeartbeats 16000000 in
set_option maxRecDepth 100000 in
theorem walk (vs : List Value) (cs : List Cel) (v : Value) (n : Nat) (ds : List Cel) (w : World) (h : InL w vs cs) (hs : HasL cs tySchema) (h' : In w v (.l 43 3 n ds)) (hs' : Has (.l 43 3 n ds) (.l 43 3 tyValue)) (implC : Asked) :
    Calls Try.prog 7 #[.agg vs.toArray, v] w fun e w' => e = .returned (.bool true) ∧ Below w.heap.size w w' := by
  have hl3 : vs.length = 3 := by rw [h.1, hs.1]; rfl
  obtain ⟨v0, v1, v2, rfl⟩ : ∃ v0 v1 v2, vs = [v0, v1, v2] := by
    match vs, hl3 with
    | [a, b, c], _ => exact ⟨_, _, _, rfl⟩
  have HIN : Hid (InL w [v0, v1, v2] cs) := h
  have HS : Hid (HasL cs tySchema) := hs
  have HINv : Hid (In w v (.l 43 3 n ds)) := h'
  have Hv : Hid (Has (.l 43 3 n ds) (.l 43 3 tyValue)) := hs'
  clear h' hs'
  have HC : Hid (∀ (a1 : Option Addr) (n1 c1 : Nat) (a2 : Option Addr) (n2 c2 : Nat) (a3 : Option Addr) (n3 c3 : Nat) (S : SchD) (a : Option Addr) (n c : Nat) (L : List Va3) (w : World), SchAt w a1 n1 c1 a2 n2 c2 a3 n3 c3 S → SchSz S → VasAt w a n L → n ≤ c → Calls Try.prog 15 #[ScV a1 n1 c1 a2 n2 c2 a3 n3 c3, .slice a n c] w fun e w' => e = .returned (.bool (decide (RowGood S L))) ∧ Below w.heap.size w w') := implC
  obtain ⟨B, hB⟩ : ∃ B : Bool, (decide (RowGood (schD cs) (vasD ds n))) = B := ⟨_, rfl⟩
  have HB : Hid ((decide (RowGood (schD cs) (vasD ds n))) = B) := hB
  have nb : (B != B) = false := by simp
  obtain ⟨sz, hsz⟩ : ∃ sz, w.heap.size = sz := ⟨_, rfl⟩
  obtain ⟨W, hW⟩ : ∃ W, w.alloc (.cells #[v0, v1, v2] 52) = W := ⟨_, rfl⟩
  have hb0 : Below sz w W := by rw [← hW, ← hsz]; exact (Below.refl _ w).alloc (Nat.le_refl _) _
  have hWs : W.heap.size = sz + 1 := by rw [← hW, ← hsz]; simp
  have XA : Hid (Box W sz #[v0, v1, v2] 52) := by rw [← hW, ← hsz]; exact box_of w _ _
  have HW : Hid (w.alloc (.cells #[v0, v1, v2] 52) = W) := hW
  have HSZ : Hid (w.heap.size = sz) := hsz
  have HB0 : Hid (Below sz w W) := hb0
  have HWS : Hid (W.heap.size = sz + 1) := hWs
  have hsw : Hid (w.heap.size ≤ sz) := by rw [hsz]; exact Nat.le_refl _
  have CA : Hid (∀ y, Below W.heap.size W y → y.cell? ⟨sz, 0, none⟩ = some v0 ∧ y.cell? ⟨sz, 1, none⟩ = some v1 ∧ y.cell? ⟨sz, 2, none⟩ = some v2) := fun y hb => (XA.out.below hb XA.out.lt).triV
  have UP : Hid (∀ y, Below W.heap.size W y → Below sz w y) := fun y hb => HB0.out.trans (hb.mono (by have := HWS.out; omega))
  clear hW hb0 hWs hsz h hs hl3 hB implC
  show Calls Try.prog 7 #[.agg #[v0, v1, v2], v] w fun e w' => e = .returned (.bool true) ∧ Below w.heap.size w w'
  go_enter Try.func7, Try.ntmps7
  go_upto_region 1 with (fail)
  rw [HW.out]
  (try rw [HSZ.out])
  obtain ⟨y0, y1, y2⟩ := CA.out _ (Below.refl _ _)
  go_wp2_with fail
  refine (dSzSchema [v0, v1, v2] cs 1048576 W (HIN.out.on HB0.out hsw.out) HS.out (by omega) (by omega)).mono ?_
  rintro e w1 ⟨hb1, ⟨r, rfl, hr0, hr1⟩ | ⟨rfl, hbig⟩⟩
  case inr =>
    have hall : Below sz w w1 := UP.out _ hb1
    clear hb1 hbig
    go_wp2
    go_ret
    exact ⟨rfl, by rw [HSZ.out]; exact hall⟩
  have BIG : Hid (bigL cs ≤ 1048576) := by show _ ≤ _; omega
  have hr2 : ¬ r < 0 := by omega
  have HB1 : Hid (Below W.heap.size W w1) := hb1
  have INS : Hid (∀ y, Below sz w y → AtL false y [v0, v1, v2] cs) := fun y hb => (HIN.out.on hb hsw.out).at (by have := BIG.out; omega)
  have SZ : Hid (SchSz (schD cs)) := ⟨fun x hx => Nat.le_trans (sch_cols x hx) BIG.out, fun x hx => Nat.le_trans (sch_idx x hx) BIG.out⟩
  clear y0 y1 y2
  have hrr : 0 ≤ r ∧ r ≤ 2097152 := by omega
  clear hb1 hr0 hr1
  go_wp2_with fail
  refine (dSzValueS v n ds r _ (HINv.out.on (UP.out _ HB1.out) hsw.out) Hv.out hrr.1 hrr.2).mono ?_
  rintro e w1' ⟨hb, ⟨r', rfl, hq0, hq1⟩ | ⟨rfl, hbig⟩⟩
  case inr =>
    have hall : Below sz w w1' := UP.out _ (HB1.out.trans (hb.mono HB1.out.size))
    clear hb hbig
    go_wp2
    go_ret
    exact ⟨rfl, by rw [HSZ.out]; exact hall⟩
  have BIGv : Hid (n + bigL ds ≤ 2097152) := by show _ ≤ _; omega
  have hr3 : ¬ r' < 0 := by omega
  have HB1' : Hid (Below W.heap.size W w1') := HB1.out.trans (hb.mono HB1.out.size)
  have INv : Hid (∀ y, Below sz w y → At false y v (.l 43 3 n ds)) := fun y hb => (HINv.out.on hb hsw.out).at (by have := BIGv.out; simp only [Cel.big]; omega)
  clear hb hq0 hq1 hrr
  obtain ⟨y0, y1, y2⟩ := CA.out _ HB1'.out
  go_wp2_with fail
  refine (dToSchema [v0, v1, v2] cs _ (INS.out _ (UP.out _ HB1'.out)) HS.out).mono ?_
  rintro e w2 ⟨hb, ss, S2, rfl, hO2⟩
  have HB2 : Hid (Below W.heap.size W w2) := HB1'.out.trans (hb.mono HB1'.out.size)
  obtain ⟨e1, m1', k1', e2, m2', k2', e3, m3', k3', rfl, hsch2⟩ := sch_of hO2.at HS.out
  have SA2 : Hid (SchAt w2 e1 m1' k1' e2 m2' k2' e3 m3' k3' (schD cs)) := hsch2
  clear hb hO2 hsch2 y0 y1 y2
  go_wp2_with fail
  refine (dToValueS v n ds _ (INv.out _ (UP.out _ HB2.out)) Hv.out).mono ?_
  rintro e w3 ⟨hb, u3, S3, rfl, hO3⟩
  obtain ⟨p3, d3, rfl, hv, hc⟩ := vas_of hO3.at Hv.out
  have HB3 : Hid (Below W.heap.size W w3) := HB2.out.trans (hb.mono HB2.out.size)
  have HS3 : Hid (Below w2.heap.size w2 w3) := hb
  have HV3 : Hid (VasAt w3 p3 n (vasD ds n)) := hv
  have HC3 : Hid (n ≤ d3) := hc rfl
  have UA3 : Hid (At false w3 (.slice p3 n d3) (.l 43 3 n ds)) := hO3.at.loose
  clear hb hO3 hv hc
  have SA3 : Hid (SchAt w3 e1 m1' k1' e2 m2' k2' e3 m3' k3' (schD cs)) := SA2.out.below HS3.out (Nat.le_refl _)
  go_wp2_with fail
  refine (specRowOk_any e1 m1' k1' e2 m2' k2' e3 m3' k3' (schD cs) (fun x hx => Nat.le_trans (SZ.out.idx x hx) (by omega)) (fun x hx => Nat.le_trans (SZ.out.cols x hx) (by omega)) p3 n d3 (vasD ds n) _ SA3.out HV3.out).mono ?_
  rintro e w4 ⟨rfl, hb⟩
  rw [HB.out]
  have HB4 : Hid (Below W.heap.size W w4) := HB3.out.trans (hb.mono HB3.out.size)
  clear hb
  obtain ⟨y0, y1, y2⟩ := CA.out _ HB4.out
  go_wp2_with fail
  refine (dToSchema [v0, v1, v2] cs _ (INS.out _ (UP.out _ HB4.out)) HS.out).mono ?_
  rintro e w5 ⟨hb, us, S5, rfl, hO5⟩
  have HB5 : Hid (Below W.heap.size W w5) := HB4.out.trans (hb.mono HB4.out.size)
  obtain ⟨b1, m1, k1, b2, m2, k2, b3, m3, k3, rfl, hsch5⟩ := sch_of hO5.at HS.out
  obtain ⟨q5, hq5⟩ : ∃ q5, w5.heap.size = q5 := ⟨_, rfl⟩
  obtain ⟨W5, hW5⟩ : ∃ W5, w5.alloc (.cells #[.slice b1 m1 k1, .slice b2 m2 k2, .slice b3 m3 k3] 28) = W5 := ⟨_, rfl⟩
  have hxW5 : Below w5.heap.size w5 W5 := by rw [← hW5]; exact (Below.refl _ _).alloc (Nat.le_refl _) _
  have X5 : Hid (Box W5 q5 #[.slice b1 m1 k1, .slice b2 m2 k2, .slice b3 m3 k3] 28) := by rw [← hW5, ← hq5]; exact box_of w5 _ _
  have UA : Hid (AtL false W5 [.slice b1 m1 k1, .slice b2 m2 k2, .slice b3 m3 k3] cs) := ⟨hO5.1, fun j v c hv hc => ((hO5.at.2 j v c hv hc).on hxW5 (Nat.le_refl _)).loose⟩
  have SA5 : Hid (SchAt W5 b1 m1 k1 b2 m2 k2 b3 m3 k3 (schD cs)) := hsch5.below hxW5 (Nat.le_refl _)
  have HA5 : Hid (Below W.heap.size W W5) := HB5.out.trans (hxW5.mono HB5.out.size)
  have HW5 : Hid (w5.alloc (.cells #[.slice b1 m1 k1, .slice b2 m2 k2, .slice b3 m3 k3] 28) = W5) := hW5
  have E5 : Hid (w5.heap.size = q5) := hq5
  clear hb hO5 hsch5 hW5 hq5 hxW5 y0 y1 y2
  go_upto_region 10 with (fail)
  rw [HW5.out]
  (try rw [E5.out])
  clear HW5 E5
  go_wp2_with fail
  refine (dToValueS v n ds _ (INv.out _ (UP.out _ HA5.out)) Hv.out).mono ?_
  rintro e w6 ⟨hb, u6, S6, rfl, hO6⟩
  obtain ⟨p6, d6, rfl, hv, hc⟩ := vas_of hO6.at Hv.out
  have HB6 : Hid (Below W.heap.size W w6) := HA5.out.trans (hb.mono HA5.out.size)
  have HS6 : Hid (Below W5.heap.size W5 w6) := hb
  have HV6 : Hid (VasAt w6 p6 n (vasD ds n)) := hv
  have HC6 : Hid (n ≤ d6) := hc rfl
  have UA6 : Hid (At false w6 (.slice p6 n d6) (.l 43 3 n ds)) := hO6.at.loose
  clear hb hO6 hv hc
  have SA6 : Hid (SchAt w6 b1 m1 k1 b2 m2 k2 b3 m3 k3 (schD cs)) := SA5.out.below HS6.out (Nat.le_refl _)
  have hbX : Below W5.heap.size W5 w6 := HS6.out
  obtain ⟨z0, z1, z2⟩ := (X5.out.below hbX X5.out.lt).triV
  go_wp2_with fail
  refine (HC.out b1 m1 k1 b2 m2 k2 b3 m3 k3 (schD cs) p6 n d6 (vasD ds n) _ SA6.out SZ.out HV6.out HC6.out).mono ?_
  rintro e w7 ⟨rfl, hb7⟩
  rw [HB.out]
  have HB57 : Hid (Below W5.heap.size W5 w7) := hbX.trans (hb7.mono hbX.size)
  have HS7 : Hid (Below w6.heap.size w6 w7) := hb7
  clear hbX hb7 z0 z1 z2
  have KS : Hid (∀ y, Below w7.heap.size w7 y → (y.cell? ⟨q5, 0, none⟩ = some (.slice b1 m1 k1) ∧ y.cell? ⟨q5, 1, none⟩ = some (.slice b2 m2 k2) ∧ y.cell? ⟨q5, 2, none⟩ = some (.slice b3 m3 k3)) ∧ y.cell? ⟨sz, 0, none⟩ = some v0 ∧ y.cell? ⟨sz, 1, none⟩ = some v1 ∧ y.cell? ⟨sz, 2, none⟩ = some v2) := fun y hb => by
    have hb' : Below W5.heap.size W5 y := HB57.out.trans (hb.mono HB57.out.size)
    exact ⟨(X5.out.below hb' X5.out.lt).triV, CA.out y (HA5.out.trans (hb'.mono HA5.out.size))⟩
  have K0 : Hid ((w7.drew.cell? ⟨q5, 0, none⟩ = some (.slice b1 m1 k1) ∧ w7.drew.cell? ⟨q5, 1, none⟩ = some (.slice b2 m2 k2) ∧ w7.drew.cell? ⟨q5, 2, none⟩ = some (.slice b3 m3 k3)) ∧ w7.drew.cell? ⟨sz, 0, none⟩ = some v0 ∧ w7.drew.cell? ⟨sz, 1, none⟩ = some v1 ∧ w7.drew.cell? ⟨sz, 2, none⟩ = some v2) := KS.out _ (Below.refl _ _).drew
  have HA7 : Hid (Below W.heap.size W w7) := HA5.out.trans (HB57.out.mono HA5.out.size)
  have INS7 : Hid (AtL false w7.drew [v0, v1, v2] cs) := INS.out _ (UP.out _ HA7.out).drew
  have UA7 : Hid (AtL false w7 [.slice b1 m1 k1, .slice b2 m2 k2, .slice b3 m3 k3] cs) := ⟨UA.out.1, fun j v c hv hc => (UA.out.2 j v c hv hc).on HB57.out (Nat.le_refl _)⟩
  go_upto_region 14 with (fail)
  go_region_held3 (fun w' => (w'.cell? ⟨q5, 0, none⟩ = some (.slice b1 m1 k1) ∧ w'.cell? ⟨q5, 1, none⟩ = some (.slice b2 m2 k2) ∧ w'.cell? ⟨q5, 2, none⟩ = some (.slice b3 m3 k3)) ∧ w'.cell? ⟨sz, 0, none⟩ = some v0 ∧ w'.cell? ⟨sz, 1, none⟩ = some v1 ∧ w'.cell? ⟨sz, 2, none⟩ = some v2)
    (first | (with_reducible exact K2.out) | (with_reducible exact K1.out) | (with_reducible exact K0.out) | go_keep)
    (first
    | (go_at_call 32
       refine (dToSchema [v0, v1, v2] cs _ INS7.out HS.out).mono ?_
       rintro e w8 ⟨hb8, ts, S8, rfl, hO8⟩
       have hb8' : Below w7.heap.size w7 w8 := (Below.refl w7.heap.size w7).drew.trans hb8
       have HB8 : Hid (Below w7.heap.size w7 w8) := hb8'
       have SA8 : Hid (AtL false w8 ts cs) := ⟨hO8.1, fun j v c hv hc => (hO8.at.2 j v c hv hc).loose⟩
       have K1 : Hid ((w8.cell? ⟨q5, 0, none⟩ = some (.slice b1 m1 k1) ∧ w8.cell? ⟨q5, 1, none⟩ = some (.slice b2 m2 k2) ∧ w8.cell? ⟨q5, 2, none⟩ = some (.slice b3 m3 k3)) ∧ w8.cell? ⟨sz, 0, none⟩ = some v0 ∧ w8.cell? ⟨sz, 1, none⟩ = some v1 ∧ w8.cell? ⟨sz, 2, none⟩ = some v2) := KS.out _ hb8'
       clear hb8 hb8' hO8)
    | (go_at_call 33
       refine (dEqSchema [.slice b1 m1 k1, .slice b2 m2 k2, .slice b3 m3 k3] ts cs _ (UA7.out.on HB8.out (Nat.le_refl _)) SA8.out HS.out).mono ?_
       rintro e w9 ⟨rfl, hb9⟩
       have hb9' : Below w7.heap.size w7 w9 := HB8.out.trans (hb9.mono HB8.out.size)
       have HB9 : Hid (Below w7.heap.size w7 w9) := hb9'
       have K2 : Hid ((w9.cell? ⟨q5, 0, none⟩ = some (.slice b1 m1 k1) ∧ w9.cell? ⟨q5, 1, none⟩ = some (.slice b2 m2 k2) ∧ w9.cell? ⟨q5, 2, none⟩ = some (.slice b3 m3 k3)) ∧ w9.cell? ⟨sz, 0, none⟩ = some v0 ∧ w9.cell? ⟨sz, 1, none⟩ = some v1 ∧ w9.cell? ⟨sz, 2, none⟩ = some v2) := KS.out _ hb9'
       clear hb9 hb9'))
  have HA9 : Hid (Below W.heap.size W w9) := HA7.out.trans (HB9.out.mono HA7.out.size)
  have UV9 : Hid (At false w9 (.slice p6 n d6) (.l 43 3 n ds)) := UA6.out.on (HS7.out.trans (HB9.out.mono HS7.out.size)) (Nat.le_refl _)
  clear K0 K1 K2 KS SA8 HB8 HB9
  go_wp2_with fail
  refine (dToValueS v n ds _ (INv.out _ (UP.out _ HA9.out)) Hv.out).mono ?_
  rintro e w10 ⟨hb, u10, S10, rfl, hO10⟩
  obtain ⟨p10, d10, rfl, hv, hc⟩ := vas_of hO10.at Hv.out
  have HB10 : Hid (Below W.heap.size W w10) := HA9.out.trans (hb.mono HA9.out.size)
  have HS10 : Hid (Below w9.heap.size w9 w10) := hb
  have HV10 : Hid (VasAt w10 p10 n (vasD ds n)) := hv
  have HC10 : Hid (n ≤ d10) := hc rfl
  have UA10 : Hid (At false w10 (.slice p10 n d10) (.l 43 3 n ds)) := hO10.at.loose
  clear hb hO10 hv hc
  go_wp2_with fail
  refine (dEqValueS (.slice p6 n d6) (.slice p10 n d10) n ds _ (UV9.out.on HS10.out (Nat.le_refl _)) UA10.out Hv.out).mono ?_
  rintro e w11 ⟨rfl, hb⟩
  have hall : Below sz w w11 := UP.out _ (HB10.out.trans (hb.mono HB10.out.size))
  clear hb
  go_wp2
  go_ret
  exact ⟨rfl, by rw [HSZ.out]; exact hall⟩
set_option maxRecDepth 100000 in
theorem lifted (implC : Asked) (os : Os) (started : os.Started) (H : Type) (enc : TypeId × Value → H) :
    ReturnsInHanded {} Try.checked os 7 .any (Rows.fnExactRowOkSpec.pre6 enc Try.prog Try.f7 Rows.fnExactRowOkRow.domain false) (Rows.fnExactRowOkSpec.post enc Try.prog Try.f7 false true false false) := by
  refine returnsInHanded_of_change (C := Try.checked) own started (by kernel_rfl) Try.func7
    (ChangeSpec.witness6 (enc := enc) (C := Try.checked) false ⟨#[], #[.agg #[.slice none 0 0, .slice none 0 0, .slice none 0 0], .slice none 0 0], []⟩ 8 (by kernel_rfl) (by kernel_rfl) (by kernel_rfl) (by kernel_rfl)) ?_
  intro W base args ds gs before hval0 hW hcnd _
  have hval : ∀ (j : Nat) t v, Try.f7.params[j]? = some t → args[j]? = some v → Value.okWide Try.prog W .any base t v := hval0
  have hW' := hW
  obtain ⟨p, q, hA0, hV, rfl, hfz, hnd⟩ := hW
  have hA : DataW.TrodAll enc Try.prog W 0 (fun _ => true) true Try.f7.params.toList args.toList ds p := hA0
  rw [Try.params7] at hA hval
  obtain ⟨v0, v1, d0, d1, p0, p1, rfl, rfl, rfl, h0, h1⟩ := trodAll_two hA
  obtain ⟨rfl, rfl⟩ := trodVars_none hV
  have k0 := h0
  have lt0 : ∀ x ∈ p0, x.block < W.heap.size := by obtain ⟨m, hm⟩ := k0; exact DataW.trod_lt m _ _ _ hm
  have k1 := h1
  have lt1 : ∀ x ∈ p1, x.block < W.heap.size := by obtain ⟨m, hm⟩ := k1; exact DataW.trod_lt m _ _ _ hm
  obtain ⟨vs, cs, rfl, hI, hH, hF⟩ := open_st Try.underlying52 flatSchema (hval 0 52 v0 rfl rfl) h0
  obtain ⟨la, ln, lc, rfl⟩ := okWide_slice Try.underlying57 (hval 1 57 v1 rfl rfl)
  obtain ⟨nl, cl, hI', hH', hF'⟩ := open_vas h1
  refine (walk vs cs (.slice la ln lc) nl cl W hI hH hI' hH' implC).mono fun e W' ⟨he, bel⟩ => ?_
  subst he
  exact ⟨_, rfl, _, _, _, [], _, [], hW', trodAll_mk1 (shut_bool Try.underlying4 _), (trodAll_cons_mk (Below.trod laidOut (by kernel_rfl) (of_decide_eq_true (by kernel_rfl)) k0 bel lt0) (trodAll_cons_mk (Below.trod laidOut (by kernel_rfl) (of_decide_eq_true (by kernel_rfl)) k1 bel lt1) trodAll_mk0)), rfl, bel.frame _, fun h => by cases h⟩
theorem over (implC : Asked) : Rows.FnExactRowOkSaid :=
  OpenClaim.holds_of_wide 7 Try.f7 rfl rfl rfl rfl rfl rfl rfl ⟨rfl, rfl, rfl, rfl, rfl⟩ rfl rfl rfl rfl rfl (by kernel_rfl) Try.func7 (by kernel_rfl)
    (of_decide_eq_true (by kernel_rfl)) (by unfold Func.isWrapper; first | (rw [if_pos (by decide +kernel)]; kernel_rfl) | (rw [if_neg (by decide +kernel)]; exact ⟨rfl, rfl⟩))
    (fun os started H enc _ => lifted implC os started H enc)
end fnExactRowOk
end Go.Proofs.Ytmgofehafjogfaa
