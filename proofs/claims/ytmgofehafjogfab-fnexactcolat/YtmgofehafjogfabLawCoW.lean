/- The law FnExactColAt, walked from what the program's function is said to answer. -/
import Derived.Test.YtmgofehafjogfabRows
import Derived.Test.YtmgofehafjogfabSpecCo
import Derived.Test.YtmgofehafjogfabSchC
import Derived.Test.YtmgofehafjogfabDatCs
import Derived.Test.YtmgofehafjogfabDatCt
import Derived.Test.YtmgofehafjogfabDatCe
import Derived.Test.YtmgofehafjogfabDatCf
import Derived.OpenShut
import Derived.ChangeOld
import Derived.Below
import Derived.Lib.SmallJoins
import Derived.ShutString
import Derived.Deep.RegionHeld3
import Derived.Deep.Cut
namespace Go.Proofs.Ytmgofehafjogfab
open Go.ChangeShapes Go.WideShapes Go.ChangeAt Go.RowKit Go.Joins

namespace fnExactColAt
theorem own : ownKnob Try.prog.godebug = none := by kernel_rfl
theorem laidOut : laidOutB Try.prog = true := by kernel_rfl
/-- What the law asks of the program's function. -/
def Asked : Prop := ∀ (a1 : Option Addr) (n1 c1 : Nat) (a2 : Option Addr) (n2 c2 : Nat) (a3 : Option Addr) (n3 c3 : Nat) (S : SchD) (t : ByteArray) (w : World), SchAt w a1 n1 c1 a2 n2 c2 a3 n3 c3 S → SchSz S → t.size ≤ 1048576 → Calls Try.prog 17 #[ScV a1 n1 c1 a2 n2 c2 a3 n3 c3, .string t] w fun e w' => e = .returned (.int .i64 (colAt S.cols t)) ∧ Below w.heap.size w w'
set_option maxHeartbeats 16000000 in
set_option maxRecDepth 100000 in
theorem walk (vs : List Value) (cs : List Cel) (t : ByteArray) (w : World) (h : InL w vs cs) (hs : HasL cs tySchema) (ht : t.size ≤ 9223372036854775807) (implC : Asked) :
    Calls Try.prog 4 #[.agg vs.toArray, .string t] w fun e w' => e = .returned (.bool true) ∧ Below w.heap.size w w' := by
  have hl3 : vs.length = 3 := by rw [h.1, hs.1]; rfl
  obtain ⟨v0, v1, v2, rfl⟩ : ∃ v0 v1 v2, vs = [v0, v1, v2] := by
    match vs, hl3 with
    | [a, b, c], _ => exact ⟨_, _, _, rfl⟩
  have HIN : Hid (InL w [v0, v1, v2] cs) := h
  have HS : Hid (HasL cs tySchema) := hs
  have HC : Hid (∀ (a1 : Option Addr) (n1 c1 : Nat) (a2 : Option Addr) (n2 c2 : Nat) (a3 : Option Addr) (n3 c3 : Nat) (S : SchD) (t : ByteArray) (w : World), SchAt w a1 n1 c1 a2 n2 c2 a3 n3 c3 S → SchSz S → t.size ≤ 1048576 → Calls Try.prog 17 #[ScV a1 n1 c1 a2 n2 c2 a3 n3 c3, .string t] w fun e w' => e = .returned (.int .i64 (colAt S.cols t)) ∧ Below w.heap.size w w') := implC
  obtain ⟨B, hB⟩ : ∃ B : Int, (colAt (schD cs).cols t) = B := ⟨_, rfl⟩
  have HB : Hid ((colAt (schD cs).cols t) = B) := hB
  have nb : (B != B) = false := by simp
  obtain ⟨sz, hsz⟩ : ∃ sz, w.heap.size = sz := ⟨_, rfl⟩
  obtain ⟨W, hW⟩ : ∃ W, w.alloc (.cells #[v0, v1, v2] 26) = W := ⟨_, rfl⟩
  have hb0 : Below sz w W := by rw [← hW, ← hsz]; exact (Below.refl _ w).alloc (Nat.le_refl _) _
  have hWs : W.heap.size = sz + 1 := by rw [← hW, ← hsz]; simp
  have XA : Hid (Box W sz #[v0, v1, v2] 26) := by rw [← hW, ← hsz]; exact box_of w _ _
  have HW : Hid (w.alloc (.cells #[v0, v1, v2] 26) = W) := hW
  have HSZ : Hid (w.heap.size = sz) := hsz
  have HB0 : Hid (Below sz w W) := hb0
  have HWS : Hid (W.heap.size = sz + 1) := hWs
  have hsw : Hid (w.heap.size ≤ sz) := by rw [hsz]; exact Nat.le_refl _
  have CA : Hid (∀ y, Below W.heap.size W y → y.cell? ⟨sz, 0, none⟩ = some v0 ∧ y.cell? ⟨sz, 1, none⟩ = some v1 ∧ y.cell? ⟨sz, 2, none⟩ = some v2) := fun y hb => (XA.out.below hb XA.out.lt).triV
  have UP : Hid (∀ y, Below W.heap.size W y → Below sz w y) := fun y hb => HB0.out.trans (hb.mono (by have := HWS.out; omega))
  clear hW hb0 hWs hsz h hs hl3 hB implC
  show Calls Try.prog 4 #[.agg #[v0, v1, v2], .string t] w fun e w' => e = .returned (.bool true) ∧ Below w.heap.size w w'
  go_enter Try.func4, Try.ntmps4
  go_upto_region 1 with (fail)
  rw [HW.out]
  (try rw [HSZ.out])
  by_cases htb : (t.size : Int) ≤ 1048576
  case neg =>
    go_wp2
    go_ret
    exact ⟨rfl, by rw [HSZ.out]; exact HB0.out⟩
  obtain ⟨y0, y1, y2⟩ := CA.out _ (Below.refl _ _)
  go_wp2_with fail
  refine (dSzSchema [v0, v1, v2] cs 1048576 W (HIN.out.on HB0.out hsw.out) HS.out (by omega) (by omega)).mono ?_
  rintro e w1 ⟨hb1, ⟨r, rfl, hr0, hr1⟩ | ⟨rfl, hbig⟩⟩
  case inr =>
    have hall : Below sz w w1 := UP.out _ hb1
    clear hb1 hbig
    go_wp2
    go_ret
    exact ⟨rfl, by rw [HSZ.out]; exact hall⟩
  have BIG : Hid (bigL cs ≤ 1048576) := by show _ ≤ _; omega
  have hr2 : ¬ r < 0 := by omega
  have HB1 : Hid (Below W.heap.size W w1) := hb1
  have INS : Hid (∀ y, Below sz w y → AtL false y [v0, v1, v2] cs) := fun y hb => (HIN.out.on hb hsw.out).at (by have := BIG.out; omega)
  have SZ : Hid (SchSz (schD cs)) := ⟨fun x hx => Nat.le_trans (sch_cols x hx) BIG.out, fun x hx => Nat.le_trans (sch_idx x hx) BIG.out⟩
  clear y0 y1 y2
  clear hb1 hr0 hr1
  obtain ⟨y0, y1, y2⟩ := CA.out _ HB1.out
  go_wp2_with fail
  refine (dToSchema [v0, v1, v2] cs _ (INS.out _ (UP.out _ HB1.out)) HS.out).mono ?_
  rintro e w2 ⟨hb, ss, S2, rfl, hO2⟩
  have HB2 : Hid (Below W.heap.size W w2) := HB1.out.trans (hb.mono HB1.out.size)
  obtain ⟨e1, m1', k1', e2, m2', k2', e3, m3', k3', rfl, hsch2⟩ := sch_of hO2.at HS.out
  have SA2 : Hid (SchAt w2 e1 m1' k1' e2 m2' k2' e3 m3' k3' (schD cs)) := hsch2
  clear hb hO2 hsch2 y0 y1 y2
  go_wp2_with fail
  refine (specColAt_any e1 m1' k1' e2 m2' k2' e3 m3' k3' (schD cs) t _ SA2.out).mono ?_
  rintro e w4 ⟨rfl, hb⟩
  rw [HB.out]
  have HB4 : Hid (Below W.heap.size W w4) := HB2.out.trans (hb.mono HB2.out.size)
  clear hb
  obtain ⟨y0, y1, y2⟩ := CA.out _ HB4.out
  go_wp2_with fail
  refine (dToSchema [v0, v1, v2] cs _ (INS.out _ (UP.out _ HB4.out)) HS.out).mono ?_
  rintro e w5 ⟨hb, us, S5, rfl, hO5⟩
  have HB5 : Hid (Below W.heap.size W w5) := HB4.out.trans (hb.mono HB4.out.size)
  obtain ⟨b1, m1, k1, b2, m2, k2, b3, m3, k3, rfl, hsch5⟩ := sch_of hO5.at HS.out
  obtain ⟨q5, hq5⟩ : ∃ q5, w5.heap.size = q5 := ⟨_, rfl⟩
  obtain ⟨W5, hW5⟩ : ∃ W5, w5.alloc (.cells #[.slice b1 m1 k1, .slice b2 m2 k2, .slice b3 m3 k3] 35) = W5 := ⟨_, rfl⟩
  have hxW5 : Below w5.heap.size w5 W5 := by rw [← hW5]; exact (Below.refl _ _).alloc (Nat.le_refl _) _
  have X5 : Hid (Box W5 q5 #[.slice b1 m1 k1, .slice b2 m2 k2, .slice b3 m3 k3] 35) := by rw [← hW5, ← hq5]; exact box_of w5 _ _
  have UA : Hid (AtL false W5 [.slice b1 m1 k1, .slice b2 m2 k2, .slice b3 m3 k3] cs) := ⟨hO5.1, fun j v c hv hc => ((hO5.at.2 j v c hv hc).on hxW5 (Nat.le_refl _)).loose⟩
  have SA5 : Hid (SchAt W5 b1 m1 k1 b2 m2 k2 b3 m3 k3 (schD cs)) := hsch5.below hxW5 (Nat.le_refl _)
  have HA5 : Hid (Below W.heap.size W W5) := HB5.out.trans (hxW5.mono HB5.out.size)
  have HW5 : Hid (w5.alloc (.cells #[.slice b1 m1 k1, .slice b2 m2 k2, .slice b3 m3 k3] 35) = W5) := hW5
  have E5 : Hid (w5.heap.size = q5) := hq5
  clear hb hO5 hsch5 hW5 hq5 hxW5 y0 y1 y2
  go_upto_region 9 with (fail)
  rw [HW5.out]
  (try rw [E5.out])
  clear HW5 E5
  have hbX : Below W5.heap.size W5 W5 := Below.refl _ _
  obtain ⟨z0, z1, z2⟩ := (X5.out.below hbX X5.out.lt).triV
  go_wp2_with fail
  refine (HC.out b1 m1 k1 b2 m2 k2 b3 m3 k3 (schD cs) t _ SA5.out SZ.out (by omega)).mono ?_
  rintro e w7 ⟨rfl, hb7⟩
  rw [HB.out]
  have HB57 : Hid (Below W5.heap.size W5 w7) := hbX.trans (hb7.mono hbX.size)
  clear hbX hb7 z0 z1 z2
  have KS : Hid (∀ y, Below w7.heap.size w7 y → (y.cell? ⟨q5, 0, none⟩ = some (.slice b1 m1 k1) ∧ y.cell? ⟨q5, 1, none⟩ = some (.slice b2 m2 k2) ∧ y.cell? ⟨q5, 2, none⟩ = some (.slice b3 m3 k3)) ∧ y.cell? ⟨sz, 0, none⟩ = some v0 ∧ y.cell? ⟨sz, 1, none⟩ = some v1 ∧ y.cell? ⟨sz, 2, none⟩ = some v2) := fun y hb => by
    have hb' : Below W5.heap.size W5 y := HB57.out.trans (hb.mono HB57.out.size)
    exact ⟨(X5.out.below hb' X5.out.lt).triV, CA.out y (HA5.out.trans (hb'.mono HA5.out.size))⟩
  have K0 : Hid ((w7.drew.cell? ⟨q5, 0, none⟩ = some (.slice b1 m1 k1) ∧ w7.drew.cell? ⟨q5, 1, none⟩ = some (.slice b2 m2 k2) ∧ w7.drew.cell? ⟨q5, 2, none⟩ = some (.slice b3 m3 k3)) ∧ w7.drew.cell? ⟨sz, 0, none⟩ = some v0 ∧ w7.drew.cell? ⟨sz, 1, none⟩ = some v1 ∧ w7.drew.cell? ⟨sz, 2, none⟩ = some v2) := KS.out _ (Below.refl _ _).drew
  have HA7 : Hid (Below W.heap.size W w7) := HA5.out.trans (HB57.out.mono HA5.out.size)
  have INS7 : Hid (AtL false w7.drew [v0, v1, v2] cs) := INS.out _ (UP.out _ HA7.out).drew
  have UA7 : Hid (AtL false w7 [.slice b1 m1 k1, .slice b2 m2 k2, .slice b3 m3 k3] cs) := ⟨UA.out.1, fun j v c hv hc => (UA.out.2 j v c hv hc).on HB57.out (Nat.le_refl _)⟩
  go_upto_region 12 with (fail)
  go_region_held3 (fun w' => (w'.cell? ⟨q5, 0, none⟩ = some (.slice b1 m1 k1) ∧ w'.cell? ⟨q5, 1, none⟩ = some (.slice b2 m2 k2) ∧ w'.cell? ⟨q5, 2, none⟩ = some (.slice b3 m3 k3)) ∧ w'.cell? ⟨sz, 0, none⟩ = some v0 ∧ w'.cell? ⟨sz, 1, none⟩ = some v1 ∧ w'.cell? ⟨sz, 2, none⟩ = some v2)
    (first | (with_reducible exact K2.out) | (with_reducible exact K1.out) | (with_reducible exact K0.out) | go_keep)
    (first
    | (go_at_call 8
       refine (dToSchema [v0, v1, v2] cs _ INS7.out HS.out).mono ?_
       rintro e w8 ⟨hb8, ts, S8, rfl, hO8⟩
       have hb8' : Below w7.heap.size w7 w8 := (Below.refl w7.heap.size w7).drew.trans hb8
       have HB8 : Hid (Below w7.heap.size w7 w8) := hb8'
       have SA8 : Hid (AtL false w8 ts cs) := ⟨hO8.1, fun j v c hv hc => (hO8.at.2 j v c hv hc).loose⟩
       have K1 : Hid ((w8.cell? ⟨q5, 0, none⟩ = some (.slice b1 m1 k1) ∧ w8.cell? ⟨q5, 1, none⟩ = some (.slice b2 m2 k2) ∧ w8.cell? ⟨q5, 2, none⟩ = some (.slice b3 m3 k3)) ∧ w8.cell? ⟨sz, 0, none⟩ = some v0 ∧ w8.cell? ⟨sz, 1, none⟩ = some v1 ∧ w8.cell? ⟨sz, 2, none⟩ = some v2) := KS.out _ hb8'
       clear hb8 hb8' hO8)
    | (go_at_call 12
       refine (dEqSchema [.slice b1 m1 k1, .slice b2 m2 k2, .slice b3 m3 k3] ts cs _ (UA7.out.on HB8.out (Nat.le_refl _)) SA8.out HS.out).mono ?_
       rintro e w9 ⟨rfl, hb9⟩
       have hb9' : Below w7.heap.size w7 w9 := HB8.out.trans (hb9.mono HB8.out.size)
       have HB9 : Hid (Below w7.heap.size w7 w9) := hb9'
       have K2 : Hid ((w9.cell? ⟨q5, 0, none⟩ = some (.slice b1 m1 k1) ∧ w9.cell? ⟨q5, 1, none⟩ = some (.slice b2 m2 k2) ∧ w9.cell? ⟨q5, 2, none⟩ = some (.slice b3 m3 k3)) ∧ w9.cell? ⟨sz, 0, none⟩ = some v0 ∧ w9.cell? ⟨sz, 1, none⟩ = some v1 ∧ w9.cell? ⟨sz, 2, none⟩ = some v2) := KS.out _ hb9'
       clear hb9 hb9'))
  have HA9 : Hid (Below W.heap.size W w9) := HA7.out.trans (HB9.out.mono HA7.out.size)
  have hall : Below sz w w9 := UP.out _ HA9.out
  clear K0 K1 K2 KS SA8 HB8 HB9
  go_wp2
  go_ret
  exact ⟨rfl, by rw [HSZ.out]; exact hall⟩
set_option maxRecDepth 100000 in
theorem lifted (implC : Asked) (os : Os) (started : os.Started) (H : Type) (enc : TypeId × Value → H) :
    ReturnsInHanded {} Try.checked os 4 .any (Rows.fnExactColAtSpec.pre6 enc Try.prog Try.f4 Rows.fnExactColAtRow.domain false) (Rows.fnExactColAtSpec.post enc Try.prog Try.f4 false true false false) := by
  refine returnsInHanded_of_change (C := Try.checked) own started (by kernel_rfl) Try.func4
    (ChangeSpec.witness6 (enc := enc) (C := Try.checked) false ⟨#[], #[.agg #[.slice none 0 0, .slice none 0 0, .slice none 0 0], .string ⟨#[]⟩], []⟩ 8 (by kernel_rfl) (by kernel_rfl) (by kernel_rfl) (by kernel_rfl)) ?_
  intro W base args ds gs before hval0 hW hcnd _
  have hval : ∀ (j : Nat) t v, Try.f4.params[j]? = some t → args[j]? = some v → Value.okWide Try.prog W .any base t v := hval0
  have hW' := hW
  obtain ⟨p, q, hA0, hV, rfl, hfz, hnd⟩ := hW
  have hA : DataW.TrodAll enc Try.prog W 0 (fun _ => true) true Try.f4.params.toList args.toList ds p := hA0
  rw [Try.params4] at hA hval
  obtain ⟨v0, v1, d0, d1, p0, p1, rfl, rfl, rfl, h0, h1⟩ := trodAll_two hA
  obtain ⟨rfl, rfl⟩ := trodVars_none hV
  have k0 := h0
  have lt0 : ∀ x ∈ p0, x.block < W.heap.size := by obtain ⟨m, hm⟩ := k0; exact DataW.trod_lt m _ _ _ hm
  obtain ⟨vs, cs, rfl, hI, hH, hF⟩ := open_st Try.underlying26 flatSchema (hval 0 26 v0 rfl rfl) h0
  obtain ⟨t, rfl, rfl, rfl, w1⟩ := Go.ChangeMaps.open_string Try.underlying9 (hval 1 9 v1 rfl rfl) h1
  refine (walk vs cs t W hI hH (by unfold maxLen at w1; omega) implC).mono fun e W' ⟨he, bel⟩ => ?_
  subst he
  exact ⟨_, rfl, _, _, _, [], _, [], hW', trodAll_mk1 (shut_bool Try.underlying4 _), (trodAll_cons_mk (Below.trod laidOut (by kernel_rfl) (of_decide_eq_true (by kernel_rfl)) k0 bel lt0) (trodAll_cons_mk (Go.ChangeMaps.shut_string Try.underlying9 w1) trodAll_mk0)), rfl, bel.frame _, fun h => by cases h⟩
theorem over (implC : Asked) : Rows.FnExactColAtSaid :=
  OpenClaim.holds_of_wide 4 Try.f4 rfl rfl rfl rfl rfl rfl rfl ⟨rfl, rfl, rfl, rfl, rfl⟩ rfl rfl rfl rfl rfl (by kernel_rfl) Try.func4 (by kernel_rfl)
    (of_decide_eq_true (by kernel_rfl)) (by unfold Func.isWrapper; first | (rw [if_pos (by decide +kernel)]; kernel_rfl) | (rw [if_neg (by decide +kernel)]; exact ⟨rfl, rfl⟩))
    (fun os started H enc _ => lifted implC os started H enc)
end fnExactColAt
end Go.Proofs.Ytmgofehafjogfab
