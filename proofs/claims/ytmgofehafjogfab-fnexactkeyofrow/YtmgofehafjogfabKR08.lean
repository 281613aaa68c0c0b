/- Texts joined: LawKrW, Shelf, ImplPj, ImplKr. -/
import Derived.Test.YtmgofehafjogfabRows
import Derived.Test.YtmgofehafjogfabKR02
import Derived.Test.YtmgofehafjogfabKR03
import Derived.Test.YtmgofehafjogfabKR01
import Derived.Test.YtmgofehafjogfabKR04
import Derived.Test.YtmgofehafjogfabKR05
import Derived.Test.YtmgofehafjogfabKR06
import Derived.Test.YtmgofehafjogfabKR07
import Derived.OpenShut
import Derived.ChangeOld
import Derived.Below
import Derived.Lib.SmallJoins
import Derived.Deep.RegionHeld3
import Derived.Deep.Cut
import Derived.Shelf.LaysM
import Derived.Shelf.Strconv.Clone
import Derived.Test.YtmgofehafjogfabProg
set_option maxHeartbeats 16000000
set_option maxRecDepth 100000
namespace Go.Proofs.Ytmgofehafjogfab
open Go.ChangeShapes Go.WideShapes Go.ChangeAt Go.RowKit Go.Joins

namespace fnExactKeyOfRow
theorem row_textK (cs : List Cel) (i k : Nat) (hk : k < 3) : (textC (nthC (row cs 3 i) k)).size ≤ bigL cs := by
  refine Nat.le_trans (text_big _) ?_
  unfold nthC row
  rw [List.getD_eq_getElem?_getD]
  rcases hc : ((cs.drop (i * 3)).take 3)[k]? with _ | c
  · simp [Cel.big]
  · rw [List.getElem?_take_of_lt hk, List.getElem?_drop] at hc
    exact big_mem hc
theorem vas_sz {cs : List Cel} {n : Nat} : ∀ x ∈ vasD cs n, x.2.2.size ≤ bigL cs := by
  intro x hx
  obtain ⟨i, _, rfl⟩ := List.mem_map.1 hx
  exact row_textK _ i 2 (by decide)
theorem own : ownKnob Try.prog.godebug = none := by kernel_rfl
theorem laidOut : laidOutB Try.prog = true := by kernel_rfl
def Asked : Prop := ∀ (a1 : Option Addr) (n1 c1 : Nat) (a2 : Option Addr) (n2 c2 : Nat) (a3 : Option Addr) (n3 c3 : Nat) (S : SchD) (a : Option Addr) (n c : Nat) (L : List Va3) (w : World), SchAt w a1 n1 c1 a2 n2 c2 a3 n3 c3 S → SchSz S → VasAt w a n L → n ≤ c → VasSz L → Calls Try.prog 10 #[ScV a1 n1 c1 a2 n2 c2 a3 n3 c3, .slice a n c] w fun e w' => (∃ v, e = .returned v ∧ VOwn w' w.heap.size v (projL L S.key)) ∧ Below w.heap.size w w'
theorem walk (vs : List Value) (cs : List Cel) (v : Value) (n : Nat) (ds : List Cel) (w : World) (h : InL w vs cs) (hs : HasL cs tySchema) (h' : In w v (.l 55 3 n ds)) (hs' : Has (.l 55 3 n ds) (.l 55 3 tyValue)) (implC : Asked) :
    Calls Try.prog 3 #[.agg vs.toArray, v] w fun e w' => e = .returned (.bool true) ∧ Below w.heap.size w w' := by
  have hl3 : vs.length = 3 := by rw [h.1, hs.1]; rfl
  obtain ⟨v0, v1, v2, rfl⟩ : ∃ v0 v1 v2, vs = [v0, v1, v2] := by
    match vs, hl3 with
    | [a, b, c], _ => exact ⟨_, _, _, rfl⟩
  have HIN : Hid (InL w [v0, v1, v2] cs) := h
  have HS : Hid (HasL cs tySchema) := hs
  have HINv : Hid (In w v (.l 55 3 n ds)) := h'
  have Hv : Hid (Has (.l 55 3 n ds) (.l 55 3 tyValue)) := hs'
  have HC : Hid (∀ (a1 : Option Addr) (n1 c1 : Nat) (a2 : Option Addr) (n2 c2 : Nat) (a3 : Option Addr) (n3 c3 : Nat) (S : SchD) (a : Option Addr) (n c : Nat) (L : List Va3) (w : World), SchAt w a1 n1 c1 a2 n2 c2 a3 n3 c3 S → SchSz S → VasAt w a n L → n ≤ c → VasSz L → Calls Try.prog 10 #[ScV a1 n1 c1 a2 n2 c2 a3 n3 c3, .slice a n c] w fun e w' => (∃ v, e = .returned v ∧ VOwn w' w.heap.size v (projL L S.key)) ∧ Below w.heap.size w w') := implC
  obtain ⟨P, hP⟩ : ∃ P, projL (vasD ds n) (schD cs).key = P := ⟨_, rfl⟩
  have HP : Hid (projL (vasD ds n) (schD cs).key = P) := hP
  obtain ⟨sz, hsz⟩ : ∃ sz, w.heap.size = sz := ⟨_, rfl⟩
  obtain ⟨W, hW⟩ : ∃ W, w.alloc (.cells #[v0, v1, v2] 26) = W := ⟨_, rfl⟩
  have hb0 : Below sz w W := by rw [← hW, ← hsz]; exact (Below.refl _ w).alloc (Nat.le_refl _) _
  have hWs : W.heap.size = sz + 1 := by rw [← hW, ← hsz]; simp
  have XA : Hid (Box W sz #[v0, v1, v2] 26) := by rw [← hW, ← hsz]; exact box_of w _ _
  have HW : Hid (w.alloc (.cells #[v0, v1, v2] 26) = W) := hW
  have HSZ : Hid (w.heap.size = sz) := hsz
  have HBW : Hid (Below sz w W) := hb0
  have HWS : Hid (W.heap.size = sz + 1) := hWs
  have hsw : Hid (w.heap.size ≤ sz) := by rw [hsz]; exact Nat.le_refl _
  have CA : Hid (∀ y, Below W.heap.size W y → y.cell? ⟨sz, 0, none⟩ = some v0 ∧ y.cell? ⟨sz, 1, none⟩ = some v1 ∧ y.cell? ⟨sz, 2, none⟩ = some v2) := fun y hb => (XA.out.below hb XA.out.lt).triV
  have UP : Hid (∀ y, Below W.heap.size W y → Below sz w y) := fun y hb => HBW.out.trans (hb.mono (by have := HWS.out; omega))
  have HB0 : Hid (Below W.heap.size W W) := Below.refl _ _
  clear hW hb0 hWs hsz h hs hl3 implC h' hs' hP
  show Calls Try.prog 3 #[.agg #[v0, v1, v2], v] w fun e w' => e = .returned (.bool true) ∧ Below w.heap.size w w'
  go_enter Try.func3, Try.ntmps3
  go_upto_region 1 with (fail)
  rw [HW.out]
  (try rw [HSZ.out])
  obtain ⟨y0, y1, y2⟩ := CA.out _ (Below.refl _ _)
  go_wp2_with fail
  refine (dSzSchema [v0, v1, v2] cs 1048576 W (HIN.out.on HBW.out hsw.out) HS.out (by omega) (by omega)).mono ?_
  rintro e w1 ⟨hb, ⟨r, rfl, hr0, hr1⟩ | ⟨rfl, hbig⟩⟩
  case inr =>
    have hall : Below sz w w1 := UP.out _ hb
    clear hb hbig
    go_wp2
    go_ret
    exact ⟨rfl, by rw [HSZ.out]; exact hall⟩
  have BIG : Hid (bigL cs ≤ 1048576) := by show _ ≤ _; omega
  have hr2 : ¬ r < 0 := by omega
  have HB1 : Hid (Below W.heap.size W w1) := hb
  have INS : Hid (∀ y, Below W.heap.size W y → AtL false y [v0, v1, v2] cs) := fun y hb => (HIN.out.on (UP.out y hb) hsw.out).at (by have := BIG.out; omega)
  have SZ : Hid (SchSz (schD cs)) := ⟨fun x hx => Nat.le_trans (sch_cols x hx) BIG.out, fun x hx => Nat.le_trans (sch_idx x hx) BIG.out⟩
  have hrr : 0 ≤ r ∧ r ≤ 2097152 := by omega
  clear y0 y1 y2 hb hr0 hr1
  go_wp2_with fail
  refine (dSzValueS v n ds r _ (HINv.out.on (UP.out _ HB1.out) hsw.out) Hv.out hrr.1 hrr.2).mono ?_
  rintro e w2 ⟨hb, ⟨r', rfl, hq0, hq1⟩ | ⟨rfl, hbig⟩⟩
  case inr =>
    have hall : Below sz w w2 := UP.out _ (HB1.out.trans (hb.mono HB1.out.size))
    clear hb hbig
    go_wp2
    go_ret
    exact ⟨rfl, by rw [HSZ.out]; exact hall⟩
  have BIGv : Hid (n + bigL ds ≤ 2097152) := by show _ ≤ _; omega
  have VZ : Hid (VasSz (vasD ds n)) := fun x hx => Nat.le_trans (vas_sz x hx) (by have := BIGv.out; omega)
  have hr3 : ¬ r' < 0 := by omega
  have hnn : n ≤ 2097152 := by omega
  have HB2 : Hid (Below W.heap.size W w2) := HB1.out.trans (hb.mono HB1.out.size)
  have INv : Hid (∀ y, Below W.heap.size W y → At false y v (.l 55 3 n ds)) := fun y hb => (HINv.out.on (UP.out y hb) hsw.out).at (by have := BIGv.out; simp only [Cel.big]; omega)
  clear hb hq0 hq1 hrr
  obtain ⟨y0, y1, y2⟩ := CA.out _ HB2.out
  go_wp2_with fail
  refine (dToSchema [v0, v1, v2] cs _ (INS.out _ HB2.out) HS.out).mono ?_
  rintro e w3 ⟨hb, us3, T3, rfl, hO⟩
  obtain ⟨e1, m1', k1', e2, m2', k2', e3, m3', k3', rfl, hsch⟩ := sch_of hO.at HS.out
  have SA3 : Hid (SchAt w3 e1 m1' k1' e2 m2' k2' e3 m3' k3' (schD cs)) := hsch
  have OL3 : Hid (OwnL w3 w2.heap.size _ cs T3) := hO
  clear hsch hO y0 y1 y2
  have HST3 : Hid (Below w2.heap.size w2 w3) := hb
  have HB3 : Hid (Below W.heap.size W w3) := HB2.out.trans (hb.mono HB2.out.size)
  clear hb
  have HPL : Hid (P.length ≤ 2097152) := by
    have h1 := SA3.out.key.1
    have h2 := SA3.out.k2
    show _ ≤ _
    rw [← HP.out]
    exact Nat.le_trans (proj_len _ _) (by omega)
  go_wp2_with fail
  refine (dToValueS v n ds _ (INv.out _ HB3.out) Hv.out).mono ?_
  rintro e w4 ⟨hb, u4, S4, rfl, hO⟩
  obtain ⟨a4, c4, hu, hv, hc⟩ := vas_of hO.at Hv.out
  subst hu
  have OD4 : Hid (Own w4 w3.heap.size (.slice a4 n c4) (.l 55 3 n ds) S4) := hO
  have UA4 : Hid (At false w4 (.slice a4 n c4) (.l 55 3 n ds)) := hO.at.loose
  have HV4 : Hid (VasAt w4 a4 n (vasD ds n)) := hv
  have HC4 : Hid (n ≤ c4) := hc rfl
  clear hO hv hc
  have HST4 : Hid (Below w3.heap.size w3 w4) := hb
  have HB4 : Hid (Below W.heap.size W w4) := HB3.out.trans (hb.mono HB3.out.size)
  clear hb
  go_wp2_with fail
  refine (specKeyOfRow_any e1 m1' k1' e2 m2' k2' e3 m3' k3' (schD cs) a4 n c4 (vasD ds n) _ (SA3.out.below HST4.out (Nat.le_refl _)) HV4.out).mono ?_
  rintro e w5 ⟨⟨v5, rfl, ho⟩, hb⟩
  rw [HP.out] at ho
  have V5 : Hid (VOwn w5 w4.heap.size v5 P) := ho
  clear ho
  have HST5 : Hid (Below w4.heap.size w4 w5) := hb
  have HB5 : Hid (Below W.heap.size W w5) := HB4.out.trans (hb.mono HB4.out.size)
  clear hb
  obtain ⟨y0, y1, y2⟩ := CA.out _ HB5.out
  go_wp2_with fail
  refine (dToSchema [v0, v1, v2] cs _ (INS.out _ HB5.out) HS.out).mono ?_
  rintro e w6 ⟨hb, us6, T6, rfl, hO⟩
  obtain ⟨b1, m1, k1, b2, m2, k2, b3, m3, k3, rfl, hsch⟩ := sch_of hO.at HS.out
  have SA6 : Hid (SchAt w6 b1 m1 k1 b2 m2 k2 b3 m3 k3 (schD cs)) := hsch
  have OL6 : Hid (OwnL w6 w5.heap.size _ cs T6) := hO
  clear hsch hO y0 y1 y2
  have HST6 : Hid (Below w5.heap.size w5 w6) := hb
  have HB6 : Hid (Below W.heap.size W w6) := HB5.out.trans (hb.mono HB5.out.size)
  clear hb
  obtain ⟨q, hq⟩ : ∃ q, w6.heap.size = q := ⟨_, rfl⟩
  obtain ⟨w7, hw7⟩ : ∃ w7, w6.alloc (.cells #[.slice b1 m1 k1, .slice b2 m2 k2, .slice b3 m3 k3] 35) = w7 := ⟨_, rfl⟩
  have hb : Below w6.heap.size w6 w7 := by rw [← hw7]; exact (Below.refl _ _).alloc (Nat.le_refl _) _
  have X7 : Hid (Box w7 q #[.slice b1 m1 k1, .slice b2 m2 k2, .slice b3 m3 k3] 35) := by rw [← hw7, ← hq]; exact box_of w6 _ _
  have HW7 : Hid (w6.alloc (.cells #[.slice b1 m1 k1, .slice b2 m2 k2, .slice b3 m3 k3] 35) = w7) := hw7
  have E7 : Hid (w6.heap.size = q) := hq
  clear hw7 hq
  have HST7 : Hid (Below w6.heap.size w6 w7) := hb
  have HB7 : Hid (Below W.heap.size W w7) := HB6.out.trans (hb.mono HB6.out.size)
  clear hb
  go_upto_region 10 with (fail)
  rw [HW7.out]
  (try rw [E7.out])
  clear HW7
  go_wp2_with fail
  refine (dToValueS v n ds _ (INv.out _ HB7.out) Hv.out).mono ?_
  rintro e w8 ⟨hb, u8, S8, rfl, hO⟩
  obtain ⟨a8, c8, hu, hv, hc⟩ := vas_of hO.at Hv.out
  subst hu
  have OD8 : Hid (Own w8 w7.heap.size (.slice a8 n c8) (.l 55 3 n ds) S8) := hO
  have UA8 : Hid (At false w8 (.slice a8 n c8) (.l 55 3 n ds)) := hO.at.loose
  have HV8 : Hid (VasAt w8 a8 n (vasD ds n)) := hv
  have HC8 : Hid (n ≤ c8) := hc rfl
  clear hO hv hc
  have HST8 : Hid (Below w7.heap.size w7 w8) := hb
  have HB8 : Hid (Below W.heap.size W w8) := HB7.out.trans (hb.mono HB7.out.size)
  clear hb
  obtain ⟨z0, z1, z2⟩ := (X7.out.below HST8.out X7.out.lt).triV
  go_wp2_with fail
  refine (HC.out b1 m1 k1 b2 m2 k2 b3 m3 k3 (schD cs) a8 n c8 (vasD ds n) _ ((SA6.out.below HST7.out (Nat.le_refl _)).below HST8.out (Nat.le_refl _)) SZ.out HV8.out HC8.out VZ.out).mono ?_
  rintro e w9 ⟨⟨v9, rfl, ho⟩, hb⟩
  rw [HP.out] at ho
  have V9 : Hid (VOwn w9 w8.heap.size v9 P) := ho
  clear ho
  have HST9 : Hid (Below w8.heap.size w8 w9) := hb
  have HB9 : Hid (Below W.heap.size W w9) := HB8.out.trans (hb.mono HB8.out.size)
  clear hb
  clear z0 z1 z2
  have E10x : Hid (VOwn w9 _ v9 P) := V9.out
  have E10y : Hid (VOwn w9 _ v5 P) := (owns_below (owns_below (owns_below (owns_below V5.out HST6.out (Nat.le_refl _)) HST7.out (Nat.le_refl _)) HST8.out (Nat.le_refl _)) HST9.out (Nat.le_refl _))
  obtain ⟨xa10, xc10, hx10, -, ax10⟩ := own_vas E10x.out HPL.out
  obtain ⟨ya10, yc10, hy10, -, ay10⟩ := own_vas E10y.out HPL.out
  have AX10 : Hid (VasAt w9 xa10 P.length P) := ax10
  have AY10 : Hid (VasAt w9 ya10 P.length P) := ay10
  have EQX10 : Hid (v9 = .slice xa10 P.length xc10) := hx10
  have EQY10 : Hid (v5 = .slice ya10 P.length yc10) := hy10
  clear ax10 ay10 hx10 hy10
  go_wp2_with
    (go_at_call 11
     rw [EQX10.out, EQY10.out]
     refine (eqValueS_vas xa10 ya10 P.length xc10 yc10 P _ AX10.out AY10.out).mono ?_
     rintro e w10 ⟨rfl, hb⟩
     rw [← EQX10.out, ← EQY10.out]
     have HST10 : Hid (Below w9.heap.size w9 w10) := hb
     have HB10 : Hid (Below W.heap.size W w10) := HB9.out.trans (hb.mono HB9.out.size)
     clear hb)
  have HB710 : Hid (Below w7.heap.size w7 w10) := (HST8.out.trans (HST9.out.mono HST8.out.size)).trans (HST10.out.mono (Nat.le_trans HST8.out.size HST9.out.size))
  have KS : Hid (∀ y, Below w10.heap.size w10 y → (y.cell? ⟨q, 0, none⟩ = some (.slice b1 m1 k1) ∧ y.cell? ⟨q, 1, none⟩ = some (.slice b2 m2 k2) ∧ y.cell? ⟨q, 2, none⟩ = some (.slice b3 m3 k3)) ∧ y.cell? ⟨sz, 0, none⟩ = some v0 ∧ y.cell? ⟨sz, 1, none⟩ = some v1 ∧ y.cell? ⟨sz, 2, none⟩ = some v2) := fun y hb => by
    have hb' : Below w7.heap.size w7 y := HB710.out.trans (hb.mono HB710.out.size)
    exact ⟨(X7.out.below hb' X7.out.lt).triV, CA.out y (HB7.out.trans (hb'.mono HB7.out.size))⟩
  have K0 : Hid ((w10.drew.cell? ⟨q, 0, none⟩ = some (.slice b1 m1 k1) ∧ w10.drew.cell? ⟨q, 1, none⟩ = some (.slice b2 m2 k2) ∧ w10.drew.cell? ⟨q, 2, none⟩ = some (.slice b3 m3 k3)) ∧ w10.drew.cell? ⟨sz, 0, none⟩ = some v0 ∧ w10.drew.cell? ⟨sz, 1, none⟩ = some v1 ∧ w10.drew.cell? ⟨sz, 2, none⟩ = some v2) := KS.out _ (Below.refl _ _).drew
  have INS10 : Hid (AtL false w10.drew [v0, v1, v2] cs) := INS.out _ HB10.out.drew
  have UAX : Hid (AtL false w10 [.slice b1 m1 k1, .slice b2 m2 k2, .slice b3 m3 k3] cs) := ⟨OL6.out.1, fun j v c hv hc => ((((((OL6.out.at.2 j v c hv hc).on HST7.out (Nat.le_refl _)).on HST8.out (Nat.le_refl _)).on HST9.out (Nat.le_refl _)).on HST10.out (Nat.le_refl _))).loose⟩
  go_upto_region 14 with (fail)
  go_region_held3 (fun w' => (w'.cell? ⟨q, 0, none⟩ = some (.slice b1 m1 k1) ∧ w'.cell? ⟨q, 1, none⟩ = some (.slice b2 m2 k2) ∧ w'.cell? ⟨q, 2, none⟩ = some (.slice b3 m3 k3)) ∧ w'.cell? ⟨sz, 0, none⟩ = some v0 ∧ w'.cell? ⟨sz, 1, none⟩ = some v1 ∧ w'.cell? ⟨sz, 2, none⟩ = some v2)
    (first | (with_reducible exact K2.out) | (with_reducible exact K1.out) | (with_reducible exact K0.out) | go_keep)
    (first
    | (go_at_call 8
       refine (dToSchema [v0, v1, v2] cs _ INS10.out HS.out).mono ?_
       rintro e w11 ⟨hb, ts, S11, rfl, hO11⟩
       have hb' : Below w10.heap.size w10 w11 := (Below.refl w10.heap.size w10).drew.trans hb
       have HST11 : Hid (Below w10.heap.size w10 w11) := hb'
       have HB11 : Hid (Below W.heap.size W w11) := HB10.out.trans (hb'.mono HB10.out.size)
       have SA11 : Hid (AtL false w11 ts cs) := ⟨hO11.1, fun j v c hv hc => (hO11.at.2 j v c hv hc).loose⟩
       have K1 : Hid ((w11.cell? ⟨q, 0, none⟩ = some (.slice b1 m1 k1) ∧ w11.cell? ⟨q, 1, none⟩ = some (.slice b2 m2 k2) ∧ w11.cell? ⟨q, 2, none⟩ = some (.slice b3 m3 k3)) ∧ w11.cell? ⟨sz, 0, none⟩ = some v0 ∧ w11.cell? ⟨sz, 1, none⟩ = some v1 ∧ w11.cell? ⟨sz, 2, none⟩ = some v2) := KS.out _ hb'
       clear hb hb' hO11)
    | (go_at_call 12
       refine (dEqSchema [.slice b1 m1 k1, .slice b2 m2 k2, .slice b3 m3 k3] ts cs _ (UAX.out.on HST11.out (Nat.le_refl _)) SA11.out HS.out).mono ?_
       rintro e w12 ⟨rfl, hb⟩
       have HST12 : Hid (Below w11.heap.size w11 w12) := hb
       have HB12 : Hid (Below W.heap.size W w12) := HB11.out.trans (hb.mono HB11.out.size)
       have K2 : Hid ((w12.cell? ⟨q, 0, none⟩ = some (.slice b1 m1 k1) ∧ w12.cell? ⟨q, 1, none⟩ = some (.slice b2 m2 k2) ∧ w12.cell? ⟨q, 2, none⟩ = some (.slice b3 m3 k3)) ∧ w12.cell? ⟨sz, 0, none⟩ = some v0 ∧ w12.cell? ⟨sz, 1, none⟩ = some v1 ∧ w12.cell? ⟨sz, 2, none⟩ = some v2) := KS.out _ (HST11.out.trans (hb.mono HST11.out.size))
       clear hb))
  clear K0 K1 K2 SA11 INS10 UAX
  go_wp2_with fail
  refine (dToValueS v n ds _ (INv.out _ HB12.out) Hv.out).mono ?_
  rintro e w13 ⟨hb, u13, S13, rfl, hO⟩
  obtain ⟨a13, c13, hu, hv, hc⟩ := vas_of hO.at Hv.out
  subst hu
  have OD13 : Hid (Own w13 w12.heap.size (.slice a13 n c13) (.l 55 3 n ds) S13) := hO
  have UA13 : Hid (At false w13 (.slice a13 n c13) (.l 55 3 n ds)) := hO.at.loose
  have HV13 : Hid (VasAt w13 a13 n (vasD ds n)) := hv
  have HC13 : Hid (n ≤ c13) := hc rfl
  clear hO hv hc
  have HST13 : Hid (Below w12.heap.size w12 w13) := hb
  have HB13 : Hid (Below W.heap.size W w13) := HB12.out.trans (hb.mono HB12.out.size)
  clear hb
  go_wp2_with fail
  refine (dEqValueS (.slice a8 n c8) (.slice a13 n c13) n ds _ (((((UA8.out.on HST9.out (Nat.le_refl _)).on HST10.out (Nat.le_refl _)).on HST11.out (Nat.le_refl _)).on HST12.out (Nat.le_refl _)).on HST13.out (Nat.le_refl _)) UA13.out Hv.out).mono ?_
  rintro e w14 ⟨rfl, hb⟩
  have HST14 : Hid (Below w13.heap.size w13 w14) := hb
  have HB14 : Hid (Below W.heap.size W w14) := HB13.out.trans (hb.mono HB13.out.size)
  clear hb
  have V5w14 : Hid (VOwn w14 w4.heap.size v5 P) := (owns_below (owns_below (owns_below (owns_below (owns_below (owns_below (owns_below (owns_below (owns_below V5.out HST6.out (Nat.le_refl _)) HST7.out (Nat.le_refl _)) HST8.out (Nat.le_refl _)) HST9.out (Nat.le_refl _)) HST10.out (Nat.le_refl _)) HST11.out (Nat.le_refl _)) HST12.out (Nat.le_refl _)) HST13.out (Nat.le_refl _)) HST14.out (Nat.le_refl _))
  have V9w14 : Hid (VOwn w14 w8.heap.size v9 P) := (owns_below (owns_below (owns_below (owns_below (owns_below V9.out HST10.out (Nat.le_refl _)) HST11.out (Nat.le_refl _)) HST12.out (Nat.le_refl _)) HST13.out (Nat.le_refl _)) HST14.out (Nat.le_refl _))
  have OL14 : Hid (OwnL w14 w5.heap.size [.slice b1 m1 k1, .slice b2 m2 k2, .slice b3 m3 k3] cs T6) := ((((((((OL6.out.on HST7.out (Nat.le_refl _)).on HST8.out (Nat.le_refl _)).on HST9.out (Nat.le_refl _)).on HST10.out (Nat.le_refl _)).on HST11.out (Nat.le_refl _)).on HST12.out (Nat.le_refl _)).on HST13.out (Nat.le_refl _)).on HST14.out (Nat.le_refl _))
  have OD14 : Hid (Own w14 w7.heap.size (.slice a8 n c8) (.l 55 3 n ds) S8) := ((((((OD8.out.on HST9.out (Nat.le_refl _)).on HST10.out (Nat.le_refl _)).on HST11.out (Nat.le_refl _)).on HST12.out (Nat.le_refl _)).on HST13.out (Nat.le_refl _)).on HST14.out (Nat.le_refl _))
  have L5 : Hid (∀ k, v5.ownBlock = some k → k < w5.heap.size) := own_lt V5.out
  have L9 : Hid (∀ k, v9.ownBlock = some k → w8.heap.size ≤ k) := own_block V9.out
  have L6 : Hid (∀ x, T6 x → w5.heap.size ≤ x ∧ x < w6.heap.size) := OL6.out.lt
  have L8 : Hid (∀ x, S8 x → w7.heap.size ≤ x ∧ x < w8.heap.size) := OD8.out.lt
  have Z56 : Hid (w5.heap.size ≤ w6.heap.size) := HST6.out.size
  have Z67 : Hid (w6.heap.size ≤ w7.heap.size) := HST7.out.size
  have Z78 : Hid (w7.heap.size ≤ w8.heap.size) := HST8.out.size
  have Z5 : Hid (W.heap.size ≤ w5.heap.size) := HB5.out.size
  have HTC : Hid (tcnt cs ≤ 3 * bigL cs) := sch_cnt HS.out
  have HVC : Hid (cntL ds ≤ 3 * (n + bigL ds)) := cnt_rows Hv.out (by intro t ht; simp [tyValue] at ht; rcases ht with rfl | rfl <;> simp)
  have hbX : Below w7.heap.size w7 w14 := HB710.out.trans ((((HST11.out.trans (HST12.out.mono HST11.out.size)).trans (HST13.out.mono (Nat.le_trans HST11.out.size HST12.out.size))).trans (HST14.out.mono (Nat.le_trans HST11.out.size (Nat.le_trans HST12.out.size HST13.out.size)))).mono HB710.out.size)
  obtain ⟨z0, z1, z2⟩ := (X7.out.below hbX X7.out.lt).triV
  go_wp2_with fail
  refine (dMarkSchema txM rfl w5.heap.size [.slice b1 m1 k1, .slice b2 m2 k2, .slice b3 m3 k3] cs T6 1 _ OL14.out HS.out (by decide) (by have := HTC.out; have := BIG.out; omega)).mono ?_
  rintro e w15 ⟨rfl, -, hk15⟩
  have HB15 : Hid (Below W.heap.size W w15) := HB14.out.trans (hk15.below (fun x hx => Nat.le_trans Z5.out (L6.out x hx).1) HB14.out.size)
  have V9w15 : Hid (VOwn w15 w8.heap.size v9 P) := owns_heap V9w14.out fun k hk => hk15.oth k (own_lt V9w14.out k hk) (fun hs => by have h1 := L9.out k hk; have h2 := (L6.out k hs).2; have := Z67.out; have := Z78.out; omega)
  have V5w15 : Hid (VOwn w15 w4.heap.size v5 P) := owns_heap V5w14.out fun k hk => hk15.oth k (own_lt V5w14.out k hk) (fun hs => by have h1 := L5.out k hk; have h2 := (L6.out k hs).1; omega)
  have OD15 : Hid (Own w15 w7.heap.size (.slice a8 n c8) (.l 55 3 n ds) S8) := OD14.out.heap fun x hx => hk15.oth x (OD14.out.lt x hx).2 (fun hs => by have h1 := (L8.out x hx).1; have h2 := (L6.out x hs).2; have := Z67.out; omega)
  obtain ⟨kk, hkk⟩ : ∃ kk : Int, (1 : Int) + (tcnt cs : Int) = kk := ⟨_, rfl⟩
  have hk1 : 1 ≤ kk := by rw [← hkk]; omega
  have hk2 : kk ≤ 10000000 := by have := HTC.out; have := BIG.out; rw [← hkk]; omega
  rw [hkk]
  clear hk15 hkk z0 z1 z2 hbX
  go_wp2_with fail
  refine (dMarkValueS txM rfl w7.heap.size (.slice a8 n c8) n ds S8 kk _ OD15.out Hv.out hk1 (by have := HVC.out; have := BIGv.out; omega)).mono ?_
  rintro e w16 ⟨rfl, -, hk16⟩
  have HB16 : Hid (Below W.heap.size W w16) := HB15.out.trans (hk16.below (fun x hx => by have h1 := (L8.out x hx).1; have := Z5.out; have := Z56.out; have := Z67.out; omega) HB15.out.size)
  have V9w16 : Hid (VOwn w16 w8.heap.size v9 P) := owns_heap V9w15.out fun k hk => hk16.oth k (own_lt V9w15.out k hk) (fun hs => by have h1 := L9.out k hk; have h2 := (L8.out k hs).2; omega)
  have V5w16 : Hid (VOwn w16 w4.heap.size v5 P) := owns_heap V5w15.out fun k hk => hk16.oth k (own_lt V5w15.out k hk) (fun hs => by have h1 := L5.out k hk; have h2 := (L8.out k hs).1; have := Z56.out; have := Z67.out; omega)
  clear hk16
  obtain ⟨kn, hkn⟩ : ∃ kn : Int, kk + ((Cel.l 55 3 n ds).cnt : Int) = kn := ⟨_, rfl⟩
  have hkn0 : ¬ kn < 0 := by rw [← hkn]; omega
  rw [hkn]
  clear hkn
  have E17x : Hid (VOwn w16 _ v9 P) := V9w16.out
  have E17y : Hid (VOwn w16 _ v5 P) := V5w16.out
  obtain ⟨xa17, xc17, hx17, -, ax17⟩ := own_vas E17x.out HPL.out
  obtain ⟨ya17, yc17, hy17, -, ay17⟩ := own_vas E17y.out HPL.out
  have AX17 : Hid (VasAt w16 xa17 P.length P) := ax17
  have AY17 : Hid (VasAt w16 ya17 P.length P) := ay17
  have EQX17 : Hid (v9 = .slice xa17 P.length xc17) := hx17
  have EQY17 : Hid (v5 = .slice ya17 P.length yc17) := hy17
  clear ax17 ay17 hx17 hy17
  go_wp2_with
    (go_at_call 11
     rw [EQX17.out, EQY17.out]
     refine (eqValueS_vas xa17 ya17 P.length xc17 yc17 P _ AX17.out AY17.out).mono ?_
     rintro e w17 ⟨rfl, hb⟩
     rw [← EQX17.out, ← EQY17.out]
     have HST17 : Hid (Below w16.heap.size w16 w17) := hb
     have HB17 : Hid (Below W.heap.size W w17) := HB16.out.trans (hb.mono HB16.out.size)
     clear hb)
  have V9w17 : Hid (VOwn w17 w8.heap.size v9 P) := (owns_below V9w16.out HST17.out (Nat.le_refl _))
  have V5w17 : Hid (VOwn w17 w4.heap.size v5 P) := (owns_below V5w16.out HST17.out (Nat.le_refl _))
  go_wp2_with fail
  refine (markVOwn_at w8.heap.size P v9 _ HPL.out V9w17.out).mono ?_
  rintro e w18 ⟨rfl, ho18, hg18⟩
  have HB18 : Hid (Below W.heap.size W w18) := HB17.out.grown hg18 HB17.out.size (fun k hk => by have := L9.out k hk; have := Z5.out; have := Z56.out; have := Z67.out; have := Z78.out; omega)
  have V5w18 : Hid (VOwn w18 w4.heap.size v5 P) := own_far V5w17.out hg18 (fun k hk he => by have h1 := L5.out k hk; have h2 := L9.out k he.symm; have := Z56.out; have := Z67.out; have := Z78.out; omega)
  obtain ⟨ha, hc, hv9, -, hby⟩ := own_vas ho18 (by rw [marksV_len]; exact HPL.out)
  rw [marksV_len] at hv9 hby
  have HV9 : Hid (v9 = .slice ha P.length hc) := hv9
  have HY18 : Hid (VasAt w18 ha P.length (marksV P.length)) := hby
  have hLk : ¬ ((P.length : Int) * 3 + 1 < 0) := by omega
  have hLq : (((P.length : Int) * 3 + 1) != ((P.length : Int) * 3 + 1)) = false := by simp
  clear hv9 hby ho18 hg18
  go_wp2_with
    (go_at_call 15
     rw [HV9.out]
     refine (heldValueS_any ha P.length hc _ HY18.out).mono ?_
     rintro e w19 ⟨rfl, hb⟩
     rw [← HV9.out]
     have HST19 : Hid (Below w18.heap.size w18 w19) := hb
     have HB19 : Hid (Below W.heap.size W w19) := HB18.out.trans (hb.mono HB18.out.size)
     obtain ⟨y0, y1, y2⟩ := CA.out _ HB19.out
     clear hb)
  obtain ⟨y0, y1, y2⟩ := CA.out _ HB19.out
  go_wp2_with fail
  refine (dToSchema [v0, v1, v2] cs _ (INS.out _ HB19.out) HS.out).mono ?_
  rintro e w20 ⟨hb, us20, T20, rfl, hO⟩
  obtain ⟨d1, o1, r1, d2, o2, r2, d3, o3, r3, rfl, hsch⟩ := sch_of hO.at HS.out
  have SA20 : Hid (SchAt w20 d1 o1 r1 d2 o2 r2 d3 o3 r3 (schD cs)) := hsch
  have OL20 : Hid (OwnL w20 w19.heap.size _ cs T20) := hO
  clear hsch hO y0 y1 y2
  have HST20 : Hid (Below w19.heap.size w19 w20) := hb
  have HB20 : Hid (Below W.heap.size W w20) := HB19.out.trans (hb.mono HB19.out.size)
  clear hb
  go_wp2_with fail
  refine (dToValueS v n ds _ (INv.out _ HB20.out) Hv.out).mono ?_
  rintro e w21 ⟨hb, u21, S21, rfl, hO⟩
  obtain ⟨a21, c21, hu, hv, hc⟩ := vas_of hO.at Hv.out
  subst hu
  have OD21 : Hid (Own w21 w20.heap.size (.slice a21 n c21) (.l 55 3 n ds) S21) := hO
  have UA21 : Hid (At false w21 (.slice a21 n c21) (.l 55 3 n ds)) := hO.at.loose
  have HV21 : Hid (VasAt w21 a21 n (vasD ds n)) := hv
  have HC21 : Hid (n ≤ c21) := hc rfl
  clear hO hv hc
  have HST21 : Hid (Below w20.heap.size w20 w21) := hb
  have HB21 : Hid (Below W.heap.size W w21) := HB20.out.trans (hb.mono HB20.out.size)
  clear hb
  go_wp2_with fail
  refine (HC.out d1 o1 r1 d2 o2 r2 d3 o3 r3 (schD cs) a21 n c21 (vasD ds n) _ (SA20.out.below HST21.out (Nat.le_refl _)) SZ.out HV21.out HC21.out VZ.out).mono ?_
  rintro e w22 ⟨⟨v22, rfl, ho⟩, hb⟩
  rw [HP.out] at ho
  have V22 : Hid (VOwn w22 w21.heap.size v22 P) := ho
  clear ho
  have HST22 : Hid (Below w21.heap.size w21 w22) := hb
  have HB22 : Hid (Below W.heap.size W w22) := HB21.out.trans (hb.mono HB21.out.size)
  clear hb
  have E23x : Hid (VOwn w22 _ v22 P) := V22.out
  have E23y : Hid (VOwn w22 _ v5 P) := (owns_below (owns_below (owns_below (owns_below V5w18.out HST19.out (Nat.le_refl _)) HST20.out (Nat.le_refl _)) HST21.out (Nat.le_refl _)) HST22.out (Nat.le_refl _))
  obtain ⟨xa23, xc23, hx23, -, ax23⟩ := own_vas E23x.out HPL.out
  obtain ⟨ya23, yc23, hy23, -, ay23⟩ := own_vas E23y.out HPL.out
  have AX23 : Hid (VasAt w22 xa23 P.length P) := ax23
  have AY23 : Hid (VasAt w22 ya23 P.length P) := ay23
  have EQX23 : Hid (v22 = .slice xa23 P.length xc23) := hx23
  have EQY23 : Hid (v5 = .slice ya23 P.length yc23) := hy23
  clear ax23 ay23 hx23 hy23
  go_wp2_with
    (go_at_call 11
     rw [EQX23.out, EQY23.out]
     refine (eqValueS_vas xa23 ya23 P.length xc23 yc23 P _ AX23.out AY23.out).mono ?_
     rintro e w23 ⟨rfl, hb⟩
     rw [← EQX23.out, ← EQY23.out]
     have HST23 : Hid (Below w22.heap.size w22 w23) := hb
     have HB23 : Hid (Below W.heap.size W w23) := HB22.out.trans (hb.mono HB22.out.size)
     clear hb)
  go_wp2_with
    (go_at_call 15
     rw [HV9.out]
     refine (heldValueS_any ha P.length hc _ (((((HY18.out.below HST19.out (Nat.le_refl _)).below HST20.out (Nat.le_refl _)).below HST21.out (Nat.le_refl _)).below HST22.out (Nat.le_refl _)).below HST23.out (Nat.le_refl _))).mono ?_
     rintro e w24 ⟨rfl, hb⟩
     rw [← HV9.out]
     have hall : Below sz w w24 := UP.out _ (HB23.out.trans (hb.mono HB23.out.size))
     clear hb)
  go_ret
  exact ⟨rfl, by rw [HSZ.out]; exact hall⟩
theorem lifted (implC : Asked) (os : Os) (started : os.Started) (H : Type) (enc : TypeId × Value → H) :
    ReturnsInHanded {} Try.checked os 3 .any (Rows.fnExactKeyOfRowSpec.pre6 enc Try.prog Try.f3 Rows.fnExactKeyOfRowRow.domain false) (Rows.fnExactKeyOfRowSpec.post enc Try.prog Try.f3 false true false false) := by
  refine returnsInHanded_of_change (C := Try.checked) own started (by kernel_rfl) Try.func3
    (ChangeSpec.witness6 (enc := enc) (C := Try.checked) false ⟨#[], #[.agg #[.slice none 0 0, .slice none 0 0, .slice none 0 0], .slice none 0 0], []⟩ 8 (by kernel_rfl) (by kernel_rfl) (by kernel_rfl) (by kernel_rfl)) ?_
  intro W base args ds gs before hval0 hW hcnd _
  have hval : ∀ (j : Nat) t v, Try.f3.params[j]? = some t → args[j]? = some v → Value.okWide Try.prog W .any base t v := hval0
  have hW' := hW
  obtain ⟨p, q, hA0, hV, rfl, hfz, hnd⟩ := hW
  have hA : DataW.TrodAll enc Try.prog W 0 (fun _ => true) true Try.f3.params.toList args.toList ds p := hA0
  rw [Try.params3] at hA hval
  obtain ⟨v0, v1, d0, d1, p0, p1, rfl, rfl, rfl, h0, h1⟩ := trodAll_two hA
  obtain ⟨rfl, rfl⟩ := trodVars_none hV
  have k0 := h0
  have k1 := h1
  have lt0 : ∀ x ∈ p0, x.block < W.heap.size := by obtain ⟨m, hm⟩ := k0; exact DataW.trod_lt m _ _ _ hm
  have lt1 : ∀ x ∈ p1, x.block < W.heap.size := by obtain ⟨m, hm⟩ := k1; exact DataW.trod_lt m _ _ _ hm
  obtain ⟨vs, cs, rfl, hI, hH, hF⟩ := open_st Try.underlying26 flatSchema (hval 0 26 v0 rfl rfl) h0
  obtain ⟨la, ln, lc, rfl⟩ := okWide_slice Try.underlying27 (hval 1 27 v1 rfl rfl)
  obtain ⟨nl, cl, hI', hH', hF'⟩ := open_vas h1
  refine (walk vs cs (.slice la ln lc) nl cl W hI hH hI' hH' implC).mono fun e W' ⟨he, bel⟩ => ?_
  subst he
  exact ⟨_, rfl, _, _, _, [], _, [], hW', trodAll_mk1 (shut_bool Try.underlying4 _), (trodAll_cons_mk (Below.trod laidOut (by kernel_rfl) (of_decide_eq_true (by kernel_rfl)) k0 bel lt0) (trodAll_cons_mk (Below.trod laidOut (by kernel_rfl) (of_decide_eq_true (by kernel_rfl)) k1 bel lt1) trodAll_mk0)), rfl, bel.frame _, fun h => by cases h⟩
theorem over (implC : Asked) : Rows.FnExactKeyOfRowSaid :=
  OpenClaim.holds_of_wide 3 Try.f3 rfl rfl rfl rfl rfl rfl rfl ⟨rfl, rfl, rfl, rfl, rfl⟩ rfl rfl rfl rfl rfl (by kernel_rfl) Try.func3 (by kernel_rfl)
    (of_decide_eq_true (by kernel_rfl)) (by unfold Func.isWrapper; first | (rw [if_pos (by decide +kernel)]; kernel_rfl) | (rw [if_neg (by decide +kernel)]; exact ⟨rfl, rfl⟩))
    (fun os started H enc _ => lifted implC os started H enc)
end fnExactKeyOfRow
end Go.Proofs.Ytmgofehafjogfab
namespace Go.Proofs
open Go.Shelf
def Try.laysM316_ren : Go.Shelf.Ren := ⟨fun | 316 => 47 | n => n, fun | 9 => 9 | 3 => 3 | 4 => 4 | 37 => 80 | 0 => 0 | 127 => 83 | 5 => 5 | n => n, fun | n => n⟩
theorem Try.laysM316 : Go.Proofs.LaysM.n316 Try.prog Try.laysM316_ren := {
  mixed := by kernel_rfl
  f316 := Try.func47.trans (congrArg some (by kernel_rfl))
  t0 := Try.underlying0
  a0 := Try.isAgg0
  z0 := Try.sizeOf0
  v0 := Try.zeroValue0
  t3 := Try.underlying3
  a3 := Try.isAgg3
  z3 := Try.sizeOf3
  v3 := Try.zeroValue3
  t4 := Try.underlying4
  a4 := Try.isAgg4
  z4 := Try.sizeOf4
  v4 := Try.zeroValue4
  t9 := Try.underlying9
  a9 := Try.isAgg9
  z9 := Try.sizeOf9
  v9 := Try.zeroValue9
  t37 := Try.underlying80
  a37 := Try.isAgg80
  z37 := Try.sizeOf80
  v37 := Try.zeroValue80
  t127 := Try.underlying83
  a127 := Try.isAgg83
  z127 := Try.sizeOf83
  v127 := Try.zeroValue83
  t5 := Try.underlying5
  a5 := Try.isAgg5
  z5 := Try.sizeOf5
  v5 := Try.zeroValue5
  i0 := by kernel_rfl
  i3 := by kernel_rfl
  i4 := by kernel_rfl
  i5 := by kernel_rfl
  i9 := by kernel_rfl
  i37 := by kernel_rfl
  i127 := by kernel_rfl }
open Go.RowKit in
theorem Try.stringslite_Clone (s : ByteArray) (w : World) (hlim : s.size ≤ 281474976710656) :
    Calls Try.prog 47 #[.string s] w fun e w' => e = .returned (.string s) ∧ Below w.heap.size w w' := Any.stringslite_Clone Try.laysM316 s w hlim
end Go.Proofs
namespace Go.Proofs.Ytmgofehafjogfab
section
open Go.ChangeShapes Go.WideShapes Go.ChangeAt Go.RowKit
theorem withinPj (x lo hi : Int) (w : World) : Calls Try.prog 42 #[.int .i64 x, .int .i64 lo, .int .i64 hi] w fun e w' => e = .returned (.bool (inB x lo hi)) ∧ w' = w := by
  by_cases h0 : lo ≤ x
  · by_cases h1 : x ≤ hi
    · rw [inB_yes ⟨h0, h1⟩]
      go_enter Try.func42, Try.ntmps42
      go_wp2
      go_ret
      exact ⟨rfl, rfl⟩
    · rw [inB_no (fun h => h1 h.2)]
      go_enter Try.func42, Try.ntmps42
      go_wp2
      go_ret
      exact ⟨rfl, rfl⟩
  · rw [inB_no (fun h => h0 h.1)]
    go_enter Try.func42, Try.ntmps42
    go_wp2
    go_ret
    exact ⟨rfl, rfl⟩
theorem clone_any (s : ByteArray) (w : World) (hs : s.size ≤ 2097152) :
    Calls Try.prog 46 #[.string s] w fun e w' => e = .returned (.string s) ∧ Below w.heap.size w w' := by
  go_enter Try.func46, Try.ntmps46
  go_wp2_with fail
  refine (Try.stringslite_Clone s _ (by omega)).mono ?_
  rintro e w1 ⟨rfl, hb⟩
  go_wp2
  go_ret
  exact ⟨rfl, hb⟩
theorem valueAnew_any (k m : Int) (s : ByteArray) (w : World) (hs : s.size ≤ 2097152) :
    Calls Try.prog 43 #[VaV k m s] w fun e w' => e = .returned (VaV k m s) ∧ Below w.heap.size w w' := by
  have HS : Hid (s.size ≤ 2097152) := hs
  obtain ⟨g, hg⟩ : ∃ g, w.heap.size = g := ⟨_, rfl⟩
  obtain ⟨W, hW⟩ : ∃ W, w.alloc (.cells #[.int .i64 k, .int .i64 m, .string s] 55) = W := ⟨_, rfl⟩
  have HG : Hid (w.heap.size = g) := hg
  have HW : Hid (w.alloc (.cells #[.int .i64 k, .int .i64 m, .string s] 55) = W) := hW
  have B1 : Hid (Below g w W) := by rw [← hW, ← hg]; exact (Below.refl _ w).alloc (Nat.le_refl _) _
  have X1 : Hid (Box W g #[.int .i64 k, .int .i64 m, .string s] 55) := by rw [← hW, ← hg]; exact box_of w _ _
  have HQ : Hid (W.heap.size = g + 1) := by show _ = _; rw [← hW, World.size_alloc, hg]
  obtain ⟨V, hV⟩ : ∃ V, W.alloc (.cells #[.int .i64 0, .int .i64 0, .string ⟨#[]⟩] 55) = V := ⟨_, rfl⟩
  have HV : Hid (W.alloc (.cells #[.int .i64 0, .int .i64 0, .string ⟨#[]⟩] 55) = V) := hV
  have B2 : Hid (Below (g + 1) W V) := by rw [← hV]; exact (Below.refl _ W).alloc (Nat.le_of_eq HQ.out.symm) _
  have X2 : Hid (Box V (g + 1) #[.int .i64 0, .int .i64 0, .string ⟨#[]⟩] 55) := by rw [← hV, ← HQ.out]; exact box_of W _ _
  have XV : Hid (Box V g #[.int .i64 k, .int .i64 m, .string s] 55) := X1.out.below B2.out (Nat.lt_succ_self g)
  have BV : Hid (Below g w V) := B1.out.trans (B2.out.mono (Nat.le_succ g))
  rw [hg]
  clear hs hg hW hV
  obtain ⟨c0, c1, c2⟩ := XV.out.triV
  go_enter Try.func43, Try.ntmps43
  go_upto_region 1 with (fail)
  rw [HW.out, HG.out, HV.out]
  go_wp2_with fail
  refine (clone_any s _ HS.out).mono ?_
  rintro e w3 ⟨rfl, hb3⟩
  have Y3 : Hid (Below g w w3) := BV.out.trans (hb3.mono (Nat.le_of_lt XV.out.lt))
  have XA : Hid (Box w3 g #[.int .i64 k, .int .i64 m, .string s] 55) := XV.out.below hb3 XV.out.lt
  have XB : Hid (Box w3 (g + 1) #[.int .i64 0, .int .i64 0, .string ⟨#[]⟩] 55) := X2.out.below hb3 X2.out.lt
  clear c0 c1 c2 hb3
  obtain ⟨c0, c1, c2⟩ := XA.out.triV
  have fA := XA.out.frozen 2
  have fB0 := XB.out.frozen 0
  have fB1 := XB.out.frozen 1
  have fB2 := XB.out.frozen 2
  obtain ⟨d0, d1, d2⟩ := XB.out.triV
  go_wp2
  obtain ⟨F, hF⟩ : ∃ F, ((((w3.setCell ⟨g, 2, none⟩ (.string s)).setCell ⟨g + 1, 0, none⟩ (.int .i64 k)).setCell ⟨g + 1, 1, none⟩ (.int .i64 m)).setCell ⟨g + 1, 2, none⟩ (.string s)) = F := ⟨_, rfl⟩
  have XF : Box F (g + 1) #[.int .i64 k, .int .i64 m, .string s] 55 := by
    rw [← hF]
    exact (((XB.out.set (q := ⟨g, 2, none⟩) (by simp) _).put 0 (.int .i64 k)).put 1 (.int .i64 m)).put 2 (.string s)
  have BF : Below g w F := by
    rw [← hF]
    exact (((Y3.out.setCell (Nat.le_refl _) _).setCell (Nat.le_succ g) _).setCell (Nat.le_succ g) _).setCell (Nat.le_succ g) _
  rw [hF]
  exact bodyPost_ret (results_cell_row Try.results43 _ F (g + 1) 55 _ _ _ rfl XF Try.underlying55 rfl (by kernel_rfl)) rfl ⟨rfl, BF⟩
theorem implProject_any (a : Option Addr) (n c : Nat) (L : List Va3) (b : Option Addr) (m d : Nat) (xs : List Int) (w : World) (h : VasAt w a n L) (_ : n ≤ c) (hz : VasSz L) (hb : IntAt w b m xs) (_ : m ≤ d) (hm : m ≤ 2097152) :
    Calls Try.prog 27 #[.slice a n c, .slice b m d] w fun e w' => (∃ v, e = .returned v ∧ VOwn w' w.heap.size v (projL L xs)) ∧ Below w.heap.size w w' := by
  have HL : Hid (VasAt w a n L) := h
  have HX : Hid (IntAt w b m xs) := hb
  have HZ : Hid (VasSz L) := hz
  have hl := h.1
  have hn := h.2.1
  have hxl := hb.1
  obtain ⟨g, hg⟩ : ∃ g, w.heap.size = g := ⟨_, rfl⟩
  have HG : Hid (w.heap.size = g) := hg
  have WSUB : Hid (IntKind.i64.wrap ((n : Int) - 1) = (n : Int) - 1) := by show _ = _; rw [IntKind.wrap_i64]; omega
  have hwz : IntKind.i64.wrap ((n : Int) - 1) = (n : Int) - 1 := WSUB.out
  rw [hg]
  clear hg h hb hz
  go_enter Try.func27, Try.ntmps27
  go_wp2
  go_loopw [5, 10] (fun v i wr => ∃ j : Nat, j ≤ m ∧ i = .int .i64 (j : Int) ∧ VOwn wr g v (projL L (xs.take j)) ∧ Below g w wr ∧ g ≤ wr.heap.size) (fun _ i _ => m - (RowKit.intOf i).toNat)
  case atStart => exact ⟨0, Nat.zero_le _, rfl, ⟨rfl, .inl ⟨rfl, rfl⟩⟩, Below.refl _ _, Nat.le_of_eq HG.out.symm⟩
  case round =>
    obtain ⟨j, hj, rfl, ho, hb, hs⟩ := hrel
    have HO : Hid (VOwn wr g u5 (projL L (xs.take j))) := ho
    have HBW : Hid (Below g w wr) := hb
    have HSZ : Hid (g ≤ wr.heap.size) := hs
    clear ho hb hs
    by_cases hlt : j < m
    · rcases (HX.out.below HBW.out (Nat.le_of_eq HG.out)).2.2 with h0 | ⟨p2, o2, rfl, g2⟩
      · omega
      obtain ⟨x, hx⟩ : ∃ x, xs[j]? = some x := ⟨_, List.getElem?_eq_getElem (by omega)⟩
      have hxd : xs.getD j 0 = x := by simp [List.getD, hx]
      have e0 := g2 j hlt
      rw [hxd] at e0
      have HSN : Hid (projL L (xs.take (j + 1)) = projL L (xs.take j) ++ projOne L x) := proj_snoc L hx
      have HPL : Hid ((projL L (xs.take j)).length ≤ j) := Nat.le_trans (proj_len L _) (by rw [List.length_take]; omega)
      have hk0 : (0 : Int) ≤ (j : Int) := by omega
      have hk1 : (j : Int) < (m : Int) := by omega
      clear hx hxd g2
      obtain ⟨bi, hbi⟩ : ∃ b, inB x 0 ((n : Int) - 1) = b := ⟨_, rfl⟩
      have HBI : Hid (inB x 0 ((n : Int) - 1) = bi) := hbi
      clear hbi
      go_wp2_with fail
      refine (withinPj _ _ _ _).mono ?_
      rintro e w2 ⟨rfl, rfl⟩
      rw [HBI.out]
      cases bi
      · have HPO : Hid (projOne L x = []) := by
          show _ = _
          unfold projOne
          rw [if_neg]
          intro hv
          have h1 := inB_yes (show 0 ≤ x ∧ x ≤ (n : Int) - 1 by omega)
          rw [HBI.out] at h1
          cases h1
        go_wp2
        exact ⟨⟨j + 1, by omega, by go_num, by rw [HSN.out, HPO.out, List.append_nil]; exact HO.out, HBW.out, HSZ.out⟩, by simp [RowKit.intOf]; omega⟩
      · have hv := inB_val HBI.out
        obtain ⟨k, rfl⟩ : ∃ k : Nat, x = (k : Int) := ⟨x.toNat, by omega⟩
        rcases (HL.out.below HBW.out (Nat.le_of_eq HG.out)).2.2 with h0 | ⟨p1, o1, rfl, g1⟩
        · omega
        obtain ⟨y, hy⟩ : ∃ y, L[k]? = some y := ⟨_, List.getElem?_eq_getElem (by omega)⟩
        have HPO : Hid (projOne L (k : Int) = [y]) := proj_yes hy
        have HSY : Hid (y.2.2.size ≤ 2097152) := HZ.out _ (List.mem_of_getElem? hy)
        obtain ⟨d0, d1, d2⟩ := g1 k y hy
        obtain ⟨ky, my, sy⟩ := y
        dsimp only at d0 d1 d2
        have hk2 : (0 : Int) ≤ (k : Int) := by omega
        have hk3 : (k : Int) < (n : Int) := by omega
        clear g1 hy hv
        go_wp2_with (first
          | (go_at_call 43
             refine (valueAnew_any ky my sy _ HSY.out).mono ?_
             rintro e w3 ⟨rfl, hb3⟩
             have HB3 : Hid (Below w2.heap.size w2 w3) := hb3
             have HO3 : Hid (VOwn w3 g u5 (projL L (xs.take j))) := owns_below HO.out hb3 (Nat.le_refl _)
             have HSZ3 : Hid (g ≤ w3.heap.size) := Nat.le_trans HSZ.out hb3.size
             have HBW3 : Hid (Below g w w3) := HBW.out.trans (hb3.mono HSZ.out)
             clear hb3 d0 d1 d2)
          | (at_builtin
             refine list_appV _ rfl _ _ rfl g u5 _ rfl (owns_below HO3.out ((Below.refl _ _).alloc (Nat.le_refl _) _) (Nat.le_refl _)) ⟨w3.heap.size, 0, none⟩ 1 1 [(ky, my, sy)] rfl rfl (vnews _ _ rfl (ky, my, sy)) (by have := HPL.out; omega) (by have := HSZ3.out; simp; omega) ?_
             intro v4 w4 hown hbel hnil
             have O4 : Hid (VOwn w4 g v4 (projL L (xs.take (j + 1)))) := by rw [HSN.out, HPO.out]; exact hown
             have hb4 : Below g w3 w4 := hbel w3 g (Nat.le_refl _) ((Below.refl g w3).alloc HSZ3.out _)
             have B4 : Hid (Below g w w4) := HBW3.out.trans hb4
             have Z4 : Hid (g ≤ w4.heap.size) := Nat.le_trans HSZ3.out hb4.size
             clear hown hbel hb4 hnil))
        exact ⟨⟨j + 1, by omega, by go_num, O4.out, B4.out, Z4.out⟩, by simp [RowKit.intOf]; omega⟩
    · obtain rfl : j = m := by omega
      have HE : Hid (xs.take j = xs) := List.take_of_length_le (by omega)
      have ho := HO.out
      rw [HE.out] at ho
      have HOE : Hid (VOwn wr g u5 (projL L xs)) := ho
      clear ho
      go_wp2
      go_ret
      exact ⟨⟨_, rfl, HOE.out⟩, HBW.out⟩
theorem implKeyOfRow_any (a1 : Option Addr) (n1 c1 : Nat) (a2 : Option Addr) (n2 c2 : Nat) (a3 : Option Addr) (n3 c3 : Nat) (S : SchD) (ra : Option Addr) (rn rc : Nat) (L : List Va3) (w : World) (h : SchAt w a1 n1 c1 a2 n2 c2 a3 n3 c3 S) (_ : SchSz S) (hA : VasAt w ra rn L) (hrc : rn ≤ rc) (hv : VasSz L) :
    Calls Try.prog 10 #[ScV a1 n1 c1 a2 n2 c2 a3 n3 c3, .slice ra rn rc] w fun e w' => (∃ v, e = .returned v ∧ VOwn w' w.heap.size v (projL L S.key)) ∧ Below w.heap.size w w' := by
  have HRC : Hid (rn ≤ rc) := hrc
  have HVS : Hid (VasSz L) := hv
  clear hrc hv
  obtain ⟨W, hW⟩ : ∃ W, w.alloc (.cells #[.slice a1 n1 c1, .slice a2 n2 c2, .slice a3 n3 c3] 35) = W := ⟨_, rfl⟩
  obtain ⟨g, hg⟩ : ∃ g, w.heap.size = g := ⟨_, rfl⟩
  have HG : Hid (w.heap.size = g) := hg
  have HB0 : Hid (Below g w W) := by rw [← hW, ← hg]; exact (Below.refl _ w).alloc (Nat.le_refl _) _
  have X0 : Hid (Box W g #[.slice a1 n1 c1, .slice a2 n2 c2, .slice a3 n3 c3] 35) := by rw [← hW, ← hg]; exact box_of w _ _
  have HW : Hid (w.alloc (.cells #[.slice a1 n1 c1, .slice a2 n2 c2, .slice a3 n3 c3] 35) = W) := hW
  have HSA : Hid (SchAt W a1 n1 c1 a2 n2 c2 a3 n3 c3 S) := h.below HB0.out (Nat.le_of_eq hg)
  have BX : Hid (∀ y, Below W.heap.size W y → y.cell? ⟨g, 0, none⟩ = some (.slice a1 n1 c1) ∧ y.cell? ⟨g, 1, none⟩ = some (.slice a2 n2 c2) ∧ y.cell? ⟨g, 2, none⟩ = some (.slice a3 n3 c3)) := fun y hb => (X0.out.below hb X0.out.lt).triV
  have HGS : Hid (g ≤ W.heap.size) := Nat.le_of_lt X0.out.lt
  rw [hg]
  clear hW hg h
  have HLA : Hid (VasAt W ra rn L) := hA.below HB0.out (Nat.le_of_eq HG.out)
  clear hA
  obtain ⟨c0, c1', c2'⟩ := BX.out _ (Below.refl _ _)
  go_enter Try.func10, Try.ntmps10
  go_upto_region 1 with (fail)
  rw [HW.out, HG.out]
  go_wp2_with fail
  refine (implProject_any ra rn rc L a2 n2 c2 S.key _ HLA.out HRC.out HVS.out HSA.out.key HSA.out.r2 HSA.out.k2).mono ?_
  rintro e w1 ⟨⟨v, rfl, ho⟩, hb1⟩
  have O1 : Hid (VOwn w1 W.heap.size v (projL L S.key)) := ho
  have HB1 : Hid (Below W.heap.size W w1) := hb1
  clear ho hb1
  go_wp2
  go_ret
  exact ⟨⟨_, rfl, own_weaken O1.out HGS.out⟩, HB0.out.trans (HB1.out.mono HGS.out)⟩
end
end Go.Proofs.Ytmgofehafjogfab
