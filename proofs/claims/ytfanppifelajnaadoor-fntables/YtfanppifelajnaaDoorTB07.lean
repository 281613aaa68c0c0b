/- Texts joined: ImplWh, ImplFi, ImplSt, SameI, Own13, LawTaW. -/
import Derived.Test.YtfanppifelajnaaDoorTB06
import Derived.Deep.Cut
import Derived.Test.YtfanppifelajnaaDoorTB04
import Derived.Maps.AppendAt
import Derived.Deep.RegionWith
import Derived.Test.YtfanppifelajnaaDoorTB01
import Derived.Deep.RegionHeld3
import Derived.Handy
import Derived.Below
import Derived.Test.YtfanppifelajnaaDoorTB03
set_option maxHeartbeats 16000000
set_option maxRecDepth 100000
namespace Go.Proofs.YtfanppifelajnaaDoor
section
open Go.ChangeShapes Go.WideShapes Go.ChangeAt Go.RowKit Go.Joins
theorem implWhole_any (a : Option Addr) (n c : Nat) (ws : List Int) (w : World) (hA : IntAt w a n ws) (hc : n ≤ c) (hi : ∀ x ∈ ws, (Lit.int .i64 x).wf = true) (hN : Names w) :
   Calls Tryd.prog 19 #[.slice a n c] w fun e w' => Says e (WholeM ws) ∧ Below w.heap.size w w' := by
 have HA : Hid (IntAt w a n ws) := hA
 have HN : Hid (Names w) := hN
 have HI : Hid (∀ x ∈ inX ws, (Lit.int .i64 x).wf = true) := inX_wf hi
 have HC : Hid (n ≤ c) := hc
 clear hA hc hN hi
 go_enter Tryd.func19, Tryd.ntmps19
 go_wp2_with (fail)
 refine (implRowsIn_any a n c ws w HA.out HC.out HN.out).mono ?_
 rintro e w1 ⟨hs1, hb1⟩
 obtain ⟨ra, rc, rfl, hrc, RA1⟩ := hs1.at
 clear hs1
 obtain ⟨W, hW⟩ : ∃ W, w1.alloc (.cells #[.slice ra (inX ws).length rc, .int .i64 (inS ws)] 32) = W := ⟨_, rfl⟩
 have hbW : Below w1.heap.size w1 W := by rw [← hW]; exact (Below.refl _ w1).alloc (Nat.le_refl _) _
 have HB2 : Hid (Below w.heap.size w W) := hb1.trans (hbW.mono hb1.size)
 have R2 : Hid (Box W w1.heap.size #[.slice ra (inX ws).length rc, .int .i64 (inS ws)] 32) := by rw [← hW]; exact box_of w1 _ _
 have RA2 : IntAt W ra (inX ws).length (inX ws) := RA1.below hbW (Nat.le_refl _)
 have H2 : Hid (IntAt W ra (inX ws).length (inX ws)) := RA2
 have HW : Hid (w1.alloc (.cells #[.slice ra (inX ws).length rc, .int .i64 (inS ws)] 32) = W) := hW
 clear hb1 hbW RA1 hW
 go_upto_region 2 with (fail)
 rw [HW.out]
 obtain ⟨r0, r1, _, _⟩ := R2.out.two
 go_wp2_with (fail)
 have RA2 := H2.out
 refine (implRowsOk_room ra (inX ws).length rc hrc (inS ws) (inX ws) _ RA2 HI.out).mono ?_
 rintro e w3 ⟨⟨ok, rfl, hok⟩, hb3⟩
 have HOKI : Hid (ok = true ↔ OkRows (inX ws) (inS ws)) := hok.trans Iff.rfl
 have HB3 : Hid (Below w.heap.size w w3) := HB2.out.trans (hb3.mono HB2.out.size)
 have R3 : Hid (Box w3 w1.heap.size #[.slice ra (inX ws).length rc, .int .i64 (inS ws)] 32) := R2.out.below hb3 R2.out.lt
 have H3 : Hid (IntAt w3 ra (inX ws).length (inX ws)) := RA2.below hb3 (Nat.le_refl _)
 clear hb3 hok RA2 r0 r1
 cases ok with
 | false =>
   have hno : ¬ WholeM ws := fun h => by have := HOKI.out.2 h.1; cases this
   have HNO : Hid (¬ WholeM ws) := hno
   clear hno
   go_wp2
   go_ret
   first
   | exact ⟨⟨false, rfl, by simp [HNO.out]⟩, HB3.out⟩
   | exact ⟨.inl ⟨rfl, HNO.out⟩, HB3.out⟩
 | true =>
   have HOK : Hid (OkRows (inX ws) (inS ws)) := HOKI.out.1 rfl
   obtain ⟨r0, r1, _, _⟩ := R3.out.two
   go_wp2_with (fail)
   have RA3 := H3.out
   refine (implWordsR ra (inX ws).length rc hrc (inS ws) (inX ws) (specL (inX ws) (inS ws)) _ RA3 HI.out (HN.out.below HB3.out HN.out.lt) (.inl ⟨HOK.out, rfl⟩)).mono ?_
   rintro e w4 ⟨⟨la, ln, lc, rfl, LA4⟩, hb4⟩
   have HB4 : Hid (Below w.heap.size w w4) := HB3.out.trans (hb4.mono HB3.out.size)
   have HL4 : Hid (IntAt w4 la ln (specL (inX ws) (inS ws))) := LA4
   clear RA3 hb4 LA4 r0 r1
   go_wp2_with (fail)
   refine (equalI_any a la n ln c lc ws (specL (inX ws) (inS ws)) _ (HA.out.below HB4.out (Nat.le_refl _)) HL4.out).mono ?_
   rintro e w5 ⟨rfl, hb5⟩
   have HB5 : Hid (Below w.heap.size w w5) := HB4.out.trans (hb5.mono HB4.out.size)
   obtain ⟨B, hB⟩ : ∃ B, decide (ws = specL (inX ws) (inS ws)) = B := ⟨_, rfl⟩
   rw [hB]
   have HBB : Hid (B = true ↔ WholeM ws) := by
     show _ ↔ _
     rw [← hB]
     simp [WholeM, HOK.out]
   clear hb5 hB
   go_wp2
   go_ret
   exact ⟨⟨B, rfl, HBB.out⟩, HB5.out⟩
theorem implKey_any (a : Option Addr) (n c : Nat) (ws : List Int) (q : Int) (w : World) (hA : IntAt w a n ws) (hc : n ≤ c) (hq : WayAt q) (hi : ∀ x ∈ ws, (Lit.int .i64 x).wf = true) (hN : Names w) :
   Calls Tryd.prog 29 #[.slice a n c, .int .i64 q] w fun e w' => FindSays e (KeyM ws q) ∧ Below w.heap.size w w' := by
 have HA : Hid (IntAt w a n ws) := hA
 have HC : Hid (n ≤ c) := hc
 have HN : Hid (Names w) := hN
 have HI : Hid (∀ x ∈ ws, (Lit.int .i64 x).wf = true) := hi
 clear hA hc hN hi
 rcases hq with rfl | hq
 · go_enter Tryd.func29, Tryd.ntmps29
   go_wp2
   go_ret2
   exact ⟨⟨0, false, rfl, keyM_neg⟩, Below.refl _ _⟩
 obtain ⟨qn, rfl⟩ : ∃ qn : Nat, q = (qn : Int) := ⟨q.toNat, by omega⟩
 have HQ : Hid (WayAt (qn : Int)) := .inr hq
 have hq20 : qn < 20 := by omega
 clear hq
 go_enter Tryd.func29, Tryd.ntmps29
 go_wp2_with (fail)
 refine (implWhole_any a n c ws w HA.out HC.out HI.out HN.out).mono ?_
 rintro e w1 ⟨⟨ok, rfl, hok⟩, hb1⟩
 have HB1 : Hid (Below w.heap.size w w1) := hb1
 have HOK : Hid (ok = true ↔ WholeM ws) := hok
 clear hb1 hok
 cases ok with
 | false =>
   have HNO : Hid (¬ WholeM ws) := fun h => by have := HOK.out.2 h; cases this
   go_wp2
   go_ret2
   exact ⟨⟨0, false, rfl, keyM_no HNO.out⟩, HB1.out⟩
 | true =>
   have HW : Hid (WholeM ws) := HOK.out.1 rfl
   obtain rfl : n = 20 := HA.out.1.symm.trans HW.out.len
   rcases (HA.out.below HB1.out (Nat.le_refl _)).2.2 with h0 | ⟨p1, o1, rfl, g1⟩
   · omega
   have e1 := g1 qn hq20
   have hx2 := HW.out.small HQ.out
   obtain ⟨x, hx⟩ : ∃ x, ws.getD qn 0 = x := ⟨_, rfl⟩
   rw [hx] at e1 hx2
   have HX : Hid (ws.getD qn 0 = x) := hx
   obtain ⟨hx0, hx4⟩ := hx2
   clear g1 hx
   by_cases hz : x = 0
   · subst hz
     go_wp2
     go_ret2
     exact ⟨⟨0, false, rfl, keyM_none HX.out⟩, HB1.out⟩
   · have hz1 : (x == 0) = false := by simpa using hz
     have HZ : Hid (¬ x = 0) := hz
     clear hz
     go_wp2
     go_ret2
     exact ⟨⟨x - 1, true, by go_num, keyM_some HW.out HX.out HZ.out⟩, HB1.out⟩
theorem implFind_any (a : Option Addr) (n c : Nat) (ws : List Int) (v : Int) (w : World) (hA : IntAt w a n ws) (hc : n ≤ c) (hi : ∀ x ∈ ws, (Lit.int .i64 x).wf = true) (hN : Names w) :
   Calls Tryd.prog 8 #[.slice a n c, .int .i64 v] w fun e w' => FindSays e (KeyM ws (placeN 2 v)) ∧ Below w.heap.size w w' := by
 have HA : Hid (IntAt w a n ws) := hA
 have HC : Hid (n ≤ c) := hc
 have HN : Hid (Names w) := hN
 have HI : Hid (∀ x ∈ ws, (Lit.int .i64 x).wf = true) := hi
 clear hA hc hN hi
 go_enter Tryd.func8, Tryd.ntmps8
 go_wp2_with (fail)
 refine (implOwnerAt_any v _ HN.out).mono ?_
 rintro e w1 ⟨rfl, hb1⟩
 have HB1 : Hid (Below w.heap.size w w1) := hb1
 clear hb1
 go_wp2_with (fail)
 refine (implKey_any a n c ws (placeN 2 v) _ (HA.out.below HB1.out (Nat.le_refl _)) HC.out (way_owner v) HI.out (HN.out.below HB1.out HN.out.lt)).mono ?_
 rintro e w2 ⟨⟨kk, ok, rfl, hk⟩, hb2⟩
 have HK : Hid (KeyM ws (placeN 2 v) kk ok) := hk
 have HB2 : Hid (Below w.heap.size w w2) := HB1.out.trans (hb2.mono HB1.out.size)
 clear hk hb2
 go_wp2
 go_ret2
 exact ⟨⟨kk, ok, rfl, HK.out⟩, HB2.out⟩
theorem implFindVia_any (a : Option Addr) (n c : Nat) (ws : List Int) (v : Int) (w : World) (hA : IntAt w a n ws) (hc : n ≤ c) (hi : ∀ x ∈ ws, (Lit.int .i64 x).wf = true) (hN : Names w) :
   Calls Tryd.prog 11 #[.slice a n c, .int .i64 v] w fun e w' => FindSays e (ViaM ws (placeN 5 v)) ∧ Below w.heap.size w w' := by
 have HA : Hid (IntAt w a n ws) := hA
 have HC : Hid (n ≤ c) := hc
 have HN : Hid (Names w) := hN
 have HI : Hid (∀ x ∈ ws, (Lit.int .i64 x).wf = true) := hi
 clear hA hc hN hi
 go_enter Tryd.func11, Tryd.ntmps11
 go_wp2_with (fail)
 refine (implRowsIn_any a n c ws w HA.out HC.out HN.out).mono ?_
 rintro e w0 ⟨hs1, hb0⟩
 obtain ⟨ra, rc, rfl, hrc, RA1⟩ := hs1.at
 have HB0 : Hid (Below w.heap.size w w0) := hb0
 obtain ⟨st, hst⟩ : ∃ st, inS ws = st := ⟨_, rfl⟩
 rw [hst]
 have HS : Hid (inS ws = st) := hst
 clear hs1 RA1 hb0 hst hrc
 obtain ⟨m, hm⟩ : ∃ m, (inX ws).length = m := ⟨_, rfl⟩
 rw [hm]
 have hfd : ∀ w : World, (Instr.field 32 (.agg #[.slice ra m rc, .int .i64 st]) 1).run Tryd.prog w = .ok (.int .i64 st) w := fun _ => by kernel_rfl
 clear hm
 by_cases h5 : st = 5
 · subst h5
   go_wp2_with (fail)
   refine (implViaAt_any v _ (HN.out.below HB0.out HN.out.lt)).mono ?_
   rintro e w1 ⟨rfl, hb1⟩
   have HB1 : Hid (Below w.heap.size w w1) := HB0.out.trans (hb1.mono HB0.out.size)
   clear hb1
   go_wp2_with (fail)
   refine (implKey_any a n c ws (placeN 5 v) _ (HA.out.below HB1.out (Nat.le_refl _)) HC.out (way_via v) HI.out (HN.out.below HB1.out HN.out.lt)).mono ?_
   rintro e w2 ⟨⟨kk, ok, rfl, hk⟩, hb2⟩
   have HV : Hid (ViaM ws (placeN 5 v) kk ok) := .inl ⟨HS.out, hk⟩
   have HB2 : Hid (Below w.heap.size w w2) := HB1.out.trans (hb2.mono HB1.out.size)
   clear hk hb2
   go_wp2
   go_ret2
   exact ⟨⟨kk, ok, rfl, HV.out⟩, HB2.out⟩
 · have h5' : (st != 5) = true := by simpa using h5
   have HV : Hid (ViaM ws (placeN 5 v) 0 false) := .inr ⟨by rw [HS.out]; exact h5, rfl, rfl⟩
   clear h5
   go_wp2
   go_ret2
   exact ⟨⟨0, false, rfl, HV.out⟩, HB0.out⟩
theorem putPlaces_any (base : Nat) (v : Value) (S : List Int) (g : Nat) (k : Int) (w : World) (ho : w.ownsRow base 3 1 v S.length (S.map I)) (hs : S.length ≤ 20) (hb : base ≤ w.heap.size) (hg : w.cell? ⟨g, 0, none⟩ = some (I k)) :
   Calls Tryd.prog 27 #[v, .slice (some ⟨g, 0, none⟩) 1 1] w fun e w' => ∃ v', e = .returned v' ∧ w'.ownsRow base 3 1 v' (S ++ [k]).length ((S ++ [k]).map I) ∧ w.grownBy w' v.ownBlock := by
 obtain ⟨i0, hi, hz0, hz1, hz2⟩ := info_parts infoInt
 have HO : Hid (w.ownsRow base 3 1 v S.length (S.map I)) := ho
 have HG : Hid (w.cell? ⟨g, 0, none⟩ = some (I k)) := hg
 clear ho hg
 go_enter Tryd.func27, Tryd.ntmps27
 go_wp2_with (at_builtin; refine wpList_append_own_at _ rfl _ _ 24 rfl base 3 i0 (.int .i64 0) 1 8 Tryd.underlying24 hi hz0 hz1 hz2 rfl (by decide) _ _ _ rfl HO.out ⟨g, 0, none⟩ 1 1 [I k] rfl rfl ?c1 ?c2 ?c3 ?c4 ?c5 ?_)
 case c1 =>
   intro j u hj
   match j, hj with
   | 0, hj => simp at hj; subst hj; simpa [Addr.add] using HG.out
 case c2 => intro u hu; simp at hu; subst hu; rfl
 case c3 => unfold maxLen; omega
 case c4 => omega
 case c5 => exact hb
 · intro v1 w4 hown1 hgrow _ _
   have R : w4.ownsRow base 3 1 v1 (S ++ [k]).length ((S ++ [k]).map I) := by simpa using hown1
   have HR : Hid (w4.ownsRow base 3 1 v1 (S ++ [k]).length ((S ++ [k]).map I)) := R
   have HGR : Hid (w.grownBy w4 v.ownBlock) := hgrow
   clear hown1 hgrow R
   go_wp2
   go_ret
   exact ⟨_, rfl, HR.out, HGR.out⟩
theorem implStray_any (a : Option Addr) (n c : Nat) (ws L : List Int) (w : World) (hA : IntAt w a n ws) (hc : n ≤ c) (hi : ∀ x ∈ ws, (Lit.int .i64 x).wf = true) (hN : Names w) (hL : TellsL (inX ws) (inS ws) L) :
   Calls Tryd.prog 6 #[.slice a n c] w fun e w' => StraySays e w w' (strayL ws L L.length) ∧ Below w.heap.size w w' := by
 have HL : Hid (TellsL (inX ws) (inS ws) L) := hL
 have hn20 : Hid (L.length = 0 ∨ (L.length = 20 ∧ ws.length = 20)) := tells_len hL
 have HA : Hid (IntAt w a n ws) := hA
 have HC : Hid (n ≤ c) := hc
 have HN : Hid (Names w) := hN
 have HI : Hid (∀ x ∈ inX ws, (Lit.int .i64 x).wf = true) := inX_wf hi
 have hnn := hA.2.1
 obtain ⟨ln, hlen⟩ : ∃ ln, L.length = ln := ⟨_, rfl⟩
 rw [hlen] at hn20 ⊢
 have HLN : Hid (L.length = ln) := hlen
 clear hA hc hL hlen hN hi
 go_enter Tryd.func6, Tryd.ntmps6
 go_wp2_with (fail)
 refine (implRowsIn_any a n c ws w HA.out HC.out HN.out).mono ?_
 rintro e w1 ⟨hs1, hb1⟩
 obtain ⟨ra, rc, rfl, hrc, RA1⟩ := hs1.at
 have HR1 : Hid (IntAt w1 ra (inX ws).length (inX ws)) := RA1
 clear hs1 RA1
 go_wp2_with (fail)
 refine (implWordsR ra (inX ws).length rc hrc (inS ws) (inX ws) L _ HR1.out HI.out (HN.out.below hb1 HN.out.lt) HL.out).mono ?_
 rintro e w2 ⟨⟨la, lm, lc, rfl, LA2⟩, hb2⟩
 obtain rfl : ln = lm := HLN.out.symm.trans LA2.1
 have HB2 : Hid (Below w.heap.size w w2) := hb1.trans (hb2.mono hb1.size)
 have HL2 : Hid (IntAt w2 la ln L) := LA2
 have hwl : Hid (ws.length = n) := HA.out.1
 have hs2 : w.heap.size ≤ w2.heap.size := HB2.out.size
 have HWS : Hid (IntAt w2 a n ws) := HA.out.below HB2.out (Nat.le_refl _)
 have hln : ln ≤ 20 := by rcases hn20.out with h | h <;> omega
 have hle : ln ≤ n := by have := hwl.out; rcases hn20.out with h | h <;> omega
 clear hb1 hb2 LA2 HR1
 go_wp2
 go_loopw [3, 10] (fun o i wr => ∃ k : Nat, k ≤ ln ∧ i = .int .i64 (k : Int) ∧ wr.ownsRow w2.heap.size 3 1 o (strayL ws L k).length ((strayL ws L k).map I) ∧ Below w2.heap.size w2 wr) (fun _ i _ => ln - (intOf i).toNat)
 case atStart => exact ⟨0, Nat.zero_le _, rfl, World.ownsRow_nil _ _ _ _, Below.refl _ _⟩
 case round =>
   obtain ⟨k, hk, rfl, ho, hb⟩ := hrel
   have HO : Hid (wr.ownsRow w2.heap.size 3 1 u3 (strayL ws L k).length ((strayL ws L k).map I)) := ho
   have HB : Hid (Below w2.heap.size w2 wr) := hb
   have hsr : w2.heap.size ≤ wr.heap.size := hb.size
   have hsl : (strayL ws L k).length ≤ 20 := by have := strayL_len ws L k; omega
   clear ho hb
   by_cases hlt : k < ln
   · rcases (HWS.out.below HB.out (Nat.le_refl _)).2.2 with h0 | ⟨p1, o1, rfl, g1⟩
     · omega
     rcases (HL2.out.below HB.out (Nat.le_refl _)).2.2 with h0 | ⟨p2, o2, rfl, g2⟩
     · omega
     obtain ⟨x, hx⟩ : ∃ x, ws.getD k 0 = x := ⟨_, rfl⟩
     obtain ⟨y, hy⟩ : ∃ y, L.getD k 0 = y := ⟨_, rfl⟩
     have e1 := g1 k (by omega)
     have e2 := g2 k hlt
     rw [hx] at e1
     rw [hy] at e2
     have HX : Hid (ws.getD k 0 = x) := hx
     have HY : Hid (L.getD k 0 = y) := hy
     have hlt2 : k < n := by omega
     clear g1 g2 hx hy
     by_cases hxy : x = y
     · have hd : (x != y) = false := by simpa using hxy
       have HS : Hid (strayL ws L (k + 1) = strayL ws L k) := strayL_same (by rw [HX.out, HY.out]; exact hxy)
       clear hxy
       go_wp2
       exact ⟨⟨k + 1, by omega, by go_num, by rw [HS.out]; exact HO.out, HB.out⟩, by simp [intOf]; omega⟩
     · have hd : (x != y) = true := by simpa using hxy
       have HS : Hid (strayL ws L (k + 1) = strayL ws L k ++ [(k : Int)]) := strayL_more (by rw [HX.out, HY.out]; exact hxy)
       clear hxy
       go_wp2_with (fail)
       have hba : Below wr.heap.size wr (wr.alloc (.cells #[.int .i64 (k : Int)] 3)) := (Below.refl _ _).alloc (Nat.le_refl _) _
       refine (putPlaces_any w2.heap.size u3 (strayL ws L k) wr.heap.size (k : Int) _ (HO.out.alloc _) hsl (by simp; omega) (by simp)).mono ?_
       rintro e w4 ⟨v', rfl, own4, hg4⟩
       have HO4 : Hid (w4.ownsRow w2.heap.size 3 1 v' (strayL ws L (k + 1)).length ((strayL ws L (k + 1)).map I)) := by rw [HS.out]; exact own4
       have HB4 : Hid (Below w2.heap.size w2 w4) := (HB.out.trans (hba.mono hsr)).grown hg4 (by simp; omega) fun k e => (HO.out.lt k e).1
       clear own4 hg4 hba
       go_wp2
       exact ⟨⟨k + 1, by omega, by go_num, HO4.out, HB4.out⟩, by simp [intOf]; omega⟩
   · obtain rfl : k = ln := by omega
     go_wp2
     go_ret
     exact ⟨⟨_, rfl, own_weaken HO.out hs2⟩, HB2.out.trans (HB.out.mono hs2)⟩
end
section
open Go.ChangeShapes Go.WideShapes Go.ChangeAt Go.RowKit
theorem bigI (a : Option Addr) (n c : Nat) (w : World) : Calls Tryd.prog 4 #[.slice a n c] w fun e w' => e = .returned (.bool (decide (1048576 < n))) ∧ w' = w := by
 obtain ⟨B, hB⟩ : ∃ B, decide (1048576 < n) = B := ⟨_, rfl⟩
 rw [hB]
 have HB : Hid (decide ((1048576 : Int) < (n : Int)) = B) := by
   show _ = _
   rw [← hB, decide_eq_decide]
   omega
 clear hB
 go_enter Tryd.func4, Tryd.ntmps4
 go_wp2
 go_ret
 refine ⟨?_, rfl⟩
 rw [← HB.out]
 first | rfl | simp
theorem sameI_any (a1 a2 : Option Addr) (n1 n2 c1 c2 : Nat) (xs ys : List Int) (w : World) (h1 : IntAt w a1 n1 xs) (h2 : IntAt w a2 n2 ys) :
   Calls Tryd.prog 17 #[.slice a1 n1 c1, .slice a2 n2 c2] w fun e w' => e = .returned (.bool (decide (xs = ys))) ∧ Below w.heap.size w w' := by
 have H1 : Hid (IntAt w a1 n1 xs) := h1
 have H2 : Hid (IntAt w a2 n2 ys) := h2
 have L1 : Hid (xs.length = n1) := h1.1
 have L2 : Hid (ys.length = n2) := h2.1
 have b1 := h1.2.1
 have b2 := h2.2.1
 obtain ⟨B, hB⟩ : ∃ B, decide (xs = ys) = B := ⟨_, rfl⟩
 rw [hB]
 have HB : Hid (decide (xs = ys) = B) := hB
 clear h1 h2 hB
 by_cases hn : n1 = n2
 · subst hn
   go_enter Tryd.func17, Tryd.ntmps17
   go_wp2
   go_loopw [5] (fun i wr => ∃ k : Nat, k ≤ n1 ∧ i = .int .i64 k ∧ xs.take k = ys.take k ∧ Below w.heap.size w wr) (fun i _ => n1 - (intOf i).toNat)
   case atStart => exact ⟨0, Nat.zero_le _, rfl, rfl, Below.refl _ _⟩
   case round =>
     obtain ⟨k, hk1, rfl, ht, hb⟩ := hrel
     have HT : Hid (xs.take k = ys.take k) := ht
     clear ht
     by_cases hlt1 : k < n1
     · rcases (H1.out.below hb (Nat.le_refl _)).2.2 with h | ⟨p1, o1, rfl, g1⟩
       · omega
       rcases (H2.out.below hb (Nat.le_refl _)).2.2 with h | ⟨p2, o2, rfl, g2⟩
       · omega
       obtain ⟨x, hx⟩ : ∃ x, xs.getD k 0 = x := ⟨_, rfl⟩
       obtain ⟨y, hy⟩ : ∃ y, ys.getD k 0 = y := ⟨_, rfl⟩
       have e1 := g1 k hlt1
       have e2 := g2 k hlt1
       rw [hx] at e1
       rw [hy] at e2
       have HX : Hid (xs.getD k 0 = x) := hx
       have HY : Hid (ys.getD k 0 = y) := hy
       clear g1 g2 hx hy
       go_wp2
       go_region
       go_wp2
       · have hd : (x != y) = true := by assumption
         go_ret
         refine ⟨?_, hb.drew⟩
         have e : xs ≠ ys := fun e => by rw [← HX.out, ← HY.out, e] at hd; simp at hd
         rw [← HB.out]
         simp [e]
       · have hd : (x != y) = false := by assumption
         have l1 := L1.out
         have l2 := L2.out
         exact ⟨⟨k + 1, by omega, by go_num, take_nextI (by omega) (by omega) HT.out (by rw [HX.out, HY.out]; simpa using hd), hb.drew⟩, by simp [intOf]; omega⟩
     · obtain rfl : k = n1 := by omega
       go_wp2
       go_ret
       refine ⟨?_, hb⟩
       have l1 := L1.out
       have l2 := L2.out
       have e : xs = ys := by
         have e0 := HT.out
         rwa [List.take_of_length_le (by omega), List.take_of_length_le (by omega)] at e0
       rw [← HB.out]
       simp [e]
 · have hne : ((n1 : Int) != (n2 : Int)) = true := by simp; omega
   have hxy : xs ≠ ys := fun e => by have l1 := L1.out; have l2 := L2.out; rw [e] at l1; omega
   have HX : Hid (xs ≠ ys) := hxy
   clear hxy
   go_enter Tryd.func17, Tryd.ntmps17
   go_wp2
   go_ret
   refine ⟨?_, Below.refl _ _⟩
   rw [← HB.out]
   simp [HX.out]
theorem own_int {w : World} {base n c : Nat} {a : Option Addr} {Y : List Int} (h : w.ownsRow base 3 1 (.slice a n c) n (Y.map I)) (hn : n ≤ 1099511627776) : IntAt w a n Y := by
 obtain ⟨a', c', he, hi⟩ := own_at h hn
 cases he
 exact hi
end
end Go.Proofs.YtfanppifelajnaaDoor
namespace Go.Proofs.YtfanppifelajnaaDoor
open Go.ChangeShapes Go.WideShapes Go.ChangeAt Go.RowKit Go.Joins
namespace fnTables
theorem walk (a : Option Addr) (n c : Nat) (w : World) (hn : n ≤ 1048576) (hB : BytesAt w w.heap.size a n) (hN : Names w) :
   Calls Tryd.prog 3 #[.slice a n c] w fun e w' => e = .returned (.bool true) ∧ Below w.heap.size w w' := by
 have HB : Hid (BytesAt w w.heap.size a n) := hB
 have HN : Hid (Names w) := hN
 have hbig : decide (1048576 < n) = false := decide_eq_false (by omega)
 clear hB hN
 go_enter Tryd.func3, Tryd.ntmps3
 go_wp2_with (fail)
 refine (bigI a n c w).mono ?_
 rintro e w0 ⟨rfl, hw0⟩
 rw [hbig, hw0]
 clear hbig hw0
 have LS0 : Hid (AllI w []) := fun t ht => by cases ht
 have B0 : Hid (Below w.heap.size w w) := Below.refl _ _
 go_wp2_with (fail)
 refine (drawStray_any a n c _ hn (bytes_nowT HB.out B0.out)).mono ?_
 rintro e w1 ⟨gw, mw, ws, rfl, ⟨hmw, hI, hNr⟩, hb⟩
 have Nws : Hid (Near ws) := hNr
 have LS1 : Hid (AllI w1 [(some ⟨gw, 0, none⟩, mw, ws)]) := (LS0.out.below hb).cons hI
 have B1 : Hid (Below w.heap.size w w1) := B0.out.trans (hb.mono B0.out.size)
 clear hI hNr hb LS0 B0
 obtain ⟨L, hL⟩ := tellsL (inX ws) (inS ws)
 have HL : Hid (TellsL (inX ws) (inS ws) L) := hL
 obtain ⟨X, hX⟩ : ∃ X, strayL ws L L.length = X := ⟨_, rfl⟩
 obtain ⟨m, hm⟩ : ∃ m, X.length = m := ⟨_, rfl⟩
 have hm20 : m ≤ 20 := by have h1 := strayL_len ws L L.length; have h2 := hL.len; rw [hX, hm] at h1; omega
 have HX : Hid (strayL ws L L.length = X ∧ X.length = m) := ⟨hX, hm⟩
 clear hL hX hm
 go_wp2_with (fail)
 refine (implStray_any (some ⟨gw, 0, none⟩) mw 20 ws L _ (LS1.out (some ⟨gw, 0, none⟩, mw, ws) (by simp)) hmw Nws.out.wf (HN.out.below B1.out HN.out.lt) HL.out).mono ?_
 rintro e w2 ⟨⟨v2, rfl, own2⟩, hb⟩
 rw [HX.out.1, HX.out.2] at own2
 obtain ⟨a2, c2, rfl, hI⟩ := own_at own2 (by omega)
 have LS2 : Hid (AllI w2 [(a2, m, X), (some ⟨gw, 0, none⟩, mw, ws)]) := (LS1.out.below hb).cons hI
 have B2 : Hid (Below w.heap.size w w2) := B1.out.trans (hb.mono B1.out.size)
 clear hI own2 hb LS1 B1
 go_wp2_with (fail)
 refine (drawFind_any a n c _ hn (bytes_nowT HB.out B2.out)).mono ?_
 rintro e w3 ⟨gx, mx, xs, vx, rfl, ⟨hmx, hI, hNr⟩, hb⟩
 have Nxs : Hid (Near xs) := hNr
 have LS3 : Hid (AllI w3 [(some ⟨gx, 0, none⟩, mx, xs), (a2, m, X), (some ⟨gw, 0, none⟩, mw, ws)]) := (LS2.out.below hb).cons hI
 have B3 : Hid (Below w.heap.size w w3) := B2.out.trans (hb.mono B2.out.size)
 clear hI hNr hb LS2 B2
 go_wp2_with (fail)
 refine (implFind_any (some ⟨gx, 0, none⟩) mx 20 xs vx _ (LS3.out (some ⟨gx, 0, none⟩, mx, xs) (by simp)) hmx Nxs.out.wf (HN.out.below B3.out HN.out.lt)).mono ?_
 rintro e w4 ⟨⟨k1, ok1, rfl, hk⟩, hb⟩
 have HKk1 : Hid (KeyM xs (placeN 2 vx) k1 ok1) := hk
 have LS4 : Hid (AllI w4 [(some ⟨gx, 0, none⟩, mx, xs), (a2, m, X), (some ⟨gw, 0, none⟩, mw, ws)]) := (LS3.out.below hb)
 have B4 : Hid (Below w.heap.size w w4) := B3.out.trans (hb.mono B3.out.size)
 clear hk hb LS3 B3
 go_wp2_with (fail)
 refine (specFind_any (some ⟨gx, 0, none⟩) mx 20 xs vx _ (LS4.out (some ⟨gx, 0, none⟩, mx, xs) (by simp)) hmx).mono ?_
 rintro e w5 ⟨⟨k', ok', rfl, hk⟩, hb⟩
 obtain ⟨rfl, rfl⟩ : k1 = k' ∧ ok1 = ok' := HKk1.out.one hk
 have LS5 : Hid (AllI w5 [(some ⟨gx, 0, none⟩, mx, xs), (a2, m, X), (some ⟨gw, 0, none⟩, mw, ws)]) := (LS4.out.below hb)
 have B5 : Hid (Below w.heap.size w w5) := B4.out.trans (hb.mono B4.out.size)
 clear hk hb LS4 B4
 go_wp2_with (fail)
 refine (drawFindVia_any a n c _ hn (bytes_nowT HB.out B5.out)).mono ?_
 rintro e w6 ⟨gy, my, ys, vy, rfl, ⟨hmy, hI, hNr⟩, hb⟩
 have Nys : Hid (Near ys) := hNr
 have LS6 : Hid (AllI w6 [(some ⟨gy, 0, none⟩, my, ys), (some ⟨gx, 0, none⟩, mx, xs), (a2, m, X), (some ⟨gw, 0, none⟩, mw, ws)]) := (LS5.out.below hb).cons hI
 have B6 : Hid (Below w.heap.size w w6) := B5.out.trans (hb.mono B5.out.size)
 clear hI hNr hb LS5 B5
 go_wp2_with (fail)
 refine (implFindVia_any (some ⟨gy, 0, none⟩) my 20 ys vy _ (LS6.out (some ⟨gy, 0, none⟩, my, ys) (by simp)) hmy Nys.out.wf (HN.out.below B6.out HN.out.lt)).mono ?_
 rintro e w7 ⟨⟨k2, ok2, rfl, hk⟩, hb⟩
 have HKk2 : Hid (ViaM ys (placeN 5 vy) k2 ok2) := hk
 have LS7 : Hid (AllI w7 [(some ⟨gy, 0, none⟩, my, ys), (some ⟨gx, 0, none⟩, mx, xs), (a2, m, X), (some ⟨gw, 0, none⟩, mw, ws)]) := (LS6.out.below hb)
 have B7 : Hid (Below w.heap.size w w7) := B6.out.trans (hb.mono B6.out.size)
 clear hk hb LS6 B6
 go_wp2_with (fail)
 refine (specFindVia_any (some ⟨gy, 0, none⟩) my 20 ys vy _ (LS7.out (some ⟨gy, 0, none⟩, my, ys) (by simp)) hmy).mono ?_
 rintro e w8 ⟨⟨k', ok', rfl, hk⟩, hb⟩
 obtain ⟨rfl, rfl⟩ : k2 = k' ∧ ok2 = ok' := HKk2.out.one hk
 have LS8 : Hid (AllI w8 [(some ⟨gy, 0, none⟩, my, ys), (some ⟨gx, 0, none⟩, mx, xs), (a2, m, X), (some ⟨gw, 0, none⟩, mw, ws)]) := (LS7.out.below hb)
 have B8 : Hid (Below w.heap.size w w8) := B7.out.trans (hb.mono B7.out.size)
 clear hk hb LS7 B7
 go_wp2_with (fail)
 refine (drawRowsIn_any a n c _ hn (bytes_nowT HB.out B8.out)).mono ?_
 rintro e w9 ⟨gz, mz, zs, rfl, ⟨hmz, hI, hNr⟩, hb⟩
 have Nzs : Hid (Near zs) := hNr
 have LS9 : Hid (AllI w9 [(some ⟨gz, 0, none⟩, mz, zs), (some ⟨gy, 0, none⟩, my, ys), (some ⟨gx, 0, none⟩, mx, xs), (a2, m, X), (some ⟨gw, 0, none⟩, mw, ws)]) := (LS8.out.below hb).cons hI
 have B9 : Hid (Below w.heap.size w w9) := B8.out.trans (hb.mono B8.out.size)
 clear hI hNr hb LS8 B8
 go_wp2_with (fail)
 refine (drawWhole_any a n c _ hn (bytes_nowT HB.out B9.out)).mono ?_
 rintro e w10 ⟨gh, mh, hs, rfl, ⟨hmh, hI, hNr⟩, hb⟩
 have Nhs : Hid (Near hs) := hNr
 have LS10 : Hid (AllI w10 [(some ⟨gh, 0, none⟩, mh, hs), (some ⟨gz, 0, none⟩, mz, zs), (some ⟨gy, 0, none⟩, my, ys), (some ⟨gx, 0, none⟩, mx, xs), (a2, m, X), (some ⟨gw, 0, none⟩, mw, ws)]) := (LS9.out.below hb).cons hI
 have B10 : Hid (Below w.heap.size w w10) := B9.out.trans (hb.mono B9.out.size)
 clear hI hNr hb LS9 B9
 obtain ⟨Z, hZ⟩ : ∃ Z, inX zs = Z := ⟨_, rfl⟩
 obtain ⟨zt, hzt⟩ : ∃ zt, inS zs = zt := ⟨_, rfl⟩
 obtain ⟨mZ, hmZ⟩ : ∃ mZ, Z.length = mZ := ⟨_, rfl⟩
 have hmZ4 : mZ ≤ 20 := by have := inX_len (ws := zs); rw [hZ, hmZ] at this; omega
 have HZ : Hid (inX zs = Z ∧ inS zs = zt ∧ Z.length = mZ) := ⟨hZ, hzt, hmZ⟩
 clear hZ hzt hmZ
 go_wp2_with (fail)
 refine (implRowsIn_any (some ⟨gz, 0, none⟩) mz 20 zs _ (LS10.out (some ⟨gz, 0, none⟩, mz, zs) (by simp)) hmz (HN.out.below B10.out HN.out.lt)).mono ?_
 rintro e w11 ⟨⟨az, cz, rfl, _, own⟩, hb⟩
 rw [HZ.out.1, HZ.out.2.2] at own
 rw [HZ.out.1, HZ.out.2.1, HZ.out.2.2]
 have LS11 : Hid (AllI w11 [(az, mZ, Z), (some ⟨gh, 0, none⟩, mh, hs), (some ⟨gz, 0, none⟩, mz, zs), (some ⟨gy, 0, none⟩, my, ys), (some ⟨gx, 0, none⟩, mx, xs), (a2, m, X), (some ⟨gw, 0, none⟩, mw, ws)]) := (LS10.out.below hb).cons (own_int own (by omega))
 have B11 : Hid (Below w.heap.size w w11) := B10.out.trans (hb.mono B10.out.size)
 clear own hb LS10 B10
 go_wp2_with (fail)
 refine (specRowsIn_any (some ⟨gz, 0, none⟩) mz 20 zs _ (LS11.out (some ⟨gz, 0, none⟩, mz, zs) (by simp)) hmz).mono ?_
 rintro e w12 ⟨⟨bz, dz, rfl, _, own⟩, hb⟩
 rw [HZ.out.1, HZ.out.2.2] at own
 rw [HZ.out.1, HZ.out.2.1, HZ.out.2.2]
 have LS12 : Hid (AllI w12 [(bz, mZ, Z), (az, mZ, Z), (some ⟨gh, 0, none⟩, mh, hs), (some ⟨gz, 0, none⟩, mz, zs), (some ⟨gy, 0, none⟩, my, ys), (some ⟨gx, 0, none⟩, mx, xs), (a2, m, X), (some ⟨gw, 0, none⟩, mw, ws)]) := (LS11.out.below hb).cons (own_int own (by omega))
 have B12 : Hid (Below w.heap.size w w12) := B11.out.trans (hb.mono B11.out.size)
 clear own hb LS11 B11
 go_upto_region 13 with (fail)
 obtain ⟨W12, hW⟩ : ∃ W12, (w12.alloc (.cells #[.slice az mZ cz, .int .i64 zt] 32)).alloc (.cells #[.slice bz mZ dz, .int .i64 zt] 32) = W12 := ⟨_, rfl⟩
 have hb : Below w12.heap.size w12 W12 := by rw [← hW]; exact ((Below.refl _ w12).alloc (Nat.le_refl _) _).alloc (by simp) _
 have XA : Hid (Box W12 w12.heap.size #[.slice az mZ cz, .int .i64 zt] 32) := by rw [← hW]; exact (box_of w12 _ _).alloc _
 have XB : Hid (Box W12 (w12.heap.size + 1) #[.slice bz mZ dz, .int .i64 zt] 32) := by
   have := box_of (w12.alloc (.cells #[.slice az mZ cz, .int .i64 zt] 32)) #[.slice bz mZ dz, .int .i64 zt] 32
   rw [hW] at this
   show Box _ _ _ _
   simpa using this
 rw [hW]
 clear hW
 have LS13 : Hid (AllI W12 [(bz, mZ, Z), (az, mZ, Z), (some ⟨gh, 0, none⟩, mh, hs), (some ⟨gz, 0, none⟩, mz, zs), (some ⟨gy, 0, none⟩, my, ys), (some ⟨gx, 0, none⟩, mx, xs), (a2, m, X), (some ⟨gw, 0, none⟩, mw, ws)]) := (LS12.out.below hb)
 have B13 : Hid (Below w.heap.size w W12) := B12.out.trans (hb.mono B12.out.size)
 clear hb LS12 B12
 go_wp2_with (fail)
 refine (specStray_any (some ⟨gw, 0, none⟩) mw 20 ws L _ (LS13.out (some ⟨gw, 0, none⟩, mw, ws) (by simp)) hmw HL.out).mono ?_
 rintro e w13 ⟨⟨v13, rfl, own⟩, hb⟩
 rw [HX.out.1, HX.out.2] at own
 obtain ⟨a13, c13, rfl, hI⟩ := own_at own (by omega)
 have XA13 : Hid (Box w13 w12.heap.size #[.slice az mZ cz, .int .i64 zt] 32) := XA.out.below hb XA.out.lt
 have XB13 : Hid (Box w13 (w12.heap.size + 1) #[.slice bz mZ dz, .int .i64 zt] 32) := XB.out.below hb XB.out.lt
 have LS14 : Hid (AllI w13 [(a13, m, X), (bz, mZ, Z), (az, mZ, Z), (some ⟨gh, 0, none⟩, mh, hs), (some ⟨gz, 0, none⟩, mz, zs), (some ⟨gy, 0, none⟩, my, ys), (some ⟨gx, 0, none⟩, mx, xs), (a2, m, X), (some ⟨gw, 0, none⟩, mw, ws)]) := (LS13.out.below hb).cons hI
 have B14 : Hid (Below w.heap.size w w13) := B13.out.trans (hb.mono B13.out.size)
 clear hI own hb XA XB LS13 B13
 go_wp2_with (fail)
 refine (sameI_any a2 a13 m m c2 c13 X X _ (LS14.out (a2, m, X) (by simp)) (LS14.out (a13, m, X) (by simp))).mono ?_
 rintro e w14 ⟨rfl, hb⟩
 rw [show decide (X = X) = true by simp]
 have XA14 : Hid (Box w14 w12.heap.size #[.slice az mZ cz, .int .i64 zt] 32) := XA13.out.below hb XA13.out.lt
 have XB14 : Hid (Box w14 (w12.heap.size + 1) #[.slice bz mZ dz, .int .i64 zt] 32) := XB13.out.below hb XB13.out.lt
 have ne1 : (ok1 != ok1) = false := by simp
 have ne2 : (ok2 != ok2) = false := by simp
 have LS15 : Hid (AllI w14 [(a13, m, X), (bz, mZ, Z), (az, mZ, Z), (some ⟨gh, 0, none⟩, mh, hs), (some ⟨gz, 0, none⟩, mz, zs), (some ⟨gy, 0, none⟩, my, ys), (some ⟨gx, 0, none⟩, mx, xs), (a2, m, X), (some ⟨gw, 0, none⟩, mw, ws)]) := (LS14.out.below hb)
 have B15 : Hid (Below w.heap.size w w14) := B14.out.trans (hb.mono B14.out.size)
 clear hb XA13 XB13 LS14 B14
 obtain ⟨p0, p1, _, _⟩ := XA14.out.two
 obtain ⟨q0, q1, _, _⟩ := XB14.out.two
 go_wp2_with (fail)
 refine (sameI_any az bz mZ mZ cz dz Z Z _ (LS15.out (az, mZ, Z) (by simp)) (LS15.out (bz, mZ, Z) (by simp))).mono ?_
 rintro e w15 ⟨rfl, hb⟩
 rw [show decide (Z = Z) = true by simp]
 have XA15 : Hid (Box w15 w12.heap.size #[.slice az mZ cz, .int .i64 zt] 32) := XA14.out.below hb XA14.out.lt
 have XB15 : Hid (Box w15 (w12.heap.size + 1) #[.slice bz mZ dz, .int .i64 zt] 32) := XB14.out.below hb XB14.out.lt
 have LS16 : Hid (AllI w15 [(a13, m, X), (bz, mZ, Z), (az, mZ, Z), (some ⟨gh, 0, none⟩, mh, hs), (some ⟨gz, 0, none⟩, mz, zs), (some ⟨gy, 0, none⟩, my, ys), (some ⟨gx, 0, none⟩, mx, xs), (a2, m, X), (some ⟨gw, 0, none⟩, mw, ws)]) := (LS15.out.below hb)
 have B16 : Hid (Below w.heap.size w w15) := B15.out.trans (hb.mono B15.out.size)
 clear hb XA14 XB14 p0 p1 q0 q1 LS15 B15
 obtain ⟨p0, p1, _, _⟩ := XA15.out.two
 obtain ⟨q0, q1, _, _⟩ := XB15.out.two
 go_wp2_with (fail)
 refine (implWhole_any (some ⟨gh, 0, none⟩) mh 20 hs _ (LS16.out (some ⟨gh, 0, none⟩, mh, hs) (by simp)) hmh Nhs.out.wf (HN.out.below B16.out HN.out.lt)).mono ?_
 rintro e w16 ⟨⟨okh, rfl, hokh⟩, hb⟩
 have HKH : Hid (okh = true ↔ WholeM hs) := hokh
 have LS17 : Hid (AllI w16 [(a13, m, X), (bz, mZ, Z), (az, mZ, Z), (some ⟨gh, 0, none⟩, mh, hs), (some ⟨gz, 0, none⟩, mz, zs), (some ⟨gy, 0, none⟩, my, ys), (some ⟨gx, 0, none⟩, mx, xs), (a2, m, X), (some ⟨gw, 0, none⟩, mw, ws)]) := (LS16.out.below hb)
 have B17 : Hid (Below w.heap.size w w16) := B16.out.trans (hb.mono B16.out.size)
 clear hb hokh p0 p1 q0 q1 LS16 B16
 go_wp2_with (fail)
 refine (specWhole_any (some ⟨gh, 0, none⟩) mh 20 hs _ (LS17.out (some ⟨gh, 0, none⟩, mh, hs) (by simp)) hmh).mono ?_
 rintro e w17 ⟨⟨okh', rfl, hokh⟩, hb⟩
 obtain rfl : okh = okh' := by
   have h := HKH.out
   cases okh <;> cases okh' <;> simp_all
 have ne3 : (okh != okh) = false := by simp
 have LS18 : Hid (AllI w17 [(a13, m, X), (bz, mZ, Z), (az, mZ, Z), (some ⟨gh, 0, none⟩, mh, hs), (some ⟨gz, 0, none⟩, mz, zs), (some ⟨gy, 0, none⟩, my, ys), (some ⟨gx, 0, none⟩, mx, xs), (a2, m, X), (some ⟨gw, 0, none⟩, mw, ws)]) := (LS17.out.below hb)
 have B18 : Hid (Below w.heap.size w w17) := B17.out.trans (hb.mono B17.out.size)
 clear hb hokh LS17 B17
 go_wp2_with (fail)
 refine (implRowsIn_any (some ⟨gw, 0, none⟩) mw 20 ws _ (LS18.out (some ⟨gw, 0, none⟩, mw, ws) (by simp)) hmw (HN.out.below B18.out HN.out.lt)).mono ?_
 rintro e w18 ⟨hs1, hb⟩
 obtain ⟨ra, rc, rfl, hrc, hI⟩ := hs1.at
 have HRI : Hid (IntAt w18 ra (inX ws).length (inX ws)) := hI
 have LS19 : Hid (AllI w18 [(a13, m, X), (bz, mZ, Z), (az, mZ, Z), (some ⟨gh, 0, none⟩, mh, hs), (some ⟨gz, 0, none⟩, mz, zs), (some ⟨gy, 0, none⟩, my, ys), (some ⟨gx, 0, none⟩, mx, xs), (a2, m, X), (some ⟨gw, 0, none⟩, mw, ws)]) := (LS18.out.below hb)
 have B19 : Hid (Below w.heap.size w w18) := B18.out.trans (hb.mono B18.out.size)
 clear hb hs1 hI LS18 B18
 go_wp2_with (fail)
 refine (implRowsOk_room ra (inX ws).length rc hrc (inS ws) (inX ws) _ HRI.out (inX_wf Nws.out.wf)).mono ?_
 rintro e w19 ⟨⟨ok, rfl, hok⟩, hb⟩
 have HKO : Hid (ok = true ↔ OkRows (inX ws) (inS ws)) := hok
 have LS20 : Hid (AllI w19 [(a13, m, X), (bz, mZ, Z), (az, mZ, Z), (some ⟨gh, 0, none⟩, mh, hs), (some ⟨gz, 0, none⟩, mz, zs), (some ⟨gy, 0, none⟩, my, ys), (some ⟨gx, 0, none⟩, mx, xs), (a2, m, X), (some ⟨gw, 0, none⟩, mw, ws)]) := (LS19.out.below hb)
 have B20 : Hid (Below w.heap.size w w19) := B19.out.trans (hb.mono B19.out.size)
 clear hb hok HRI hrc LS19 B19
 cases ok with
 | false =>
   have hno : ¬ OkRows (inX ws) (inS ws) := fun h => by have := HKO.out.2 h; cases this
   obtain rfl : m = 0 := by
     rcases HL.out with ⟨h, _⟩ | ⟨_, h⟩
     · exact absurd h hno
     · have h1 := HX.out
       subst h
       rw [← h1.2, ← h1.1]
       rfl
   clear hno
   go_wp2
   go_ret
   exact ⟨rfl, B20.out⟩
 | true =>
   have hok : OkRows (inX ws) (inS ws) := HKO.out.1 rfl
   have hLL : L = specL (inX ws) (inS ws) := by
     rcases HL.out with ⟨_, h⟩ | ⟨h, _⟩
     · exact h
     · exact absurd hok h
   have HWM : Hid (WholeM ws ↔ m = 0) := by
     show _ ↔ _
     rw [whole_iff hok, ← HX.out.2, ← HX.out.1, hLL]
     exact List.length_eq_zero_iff.symm
   clear hok hLL
   go_wp2_with (fail)
   refine (implWhole_any (some ⟨gw, 0, none⟩) mw 20 ws _ (LS20.out (some ⟨gw, 0, none⟩, mw, ws) (by simp)) hmw Nws.out.wf (HN.out.below B20.out HN.out.lt)).mono ?_
   rintro e w20 ⟨⟨okw, rfl, hokw⟩, hb⟩
   have HKW : Hid (okw = true ↔ m = 0) := hokw.trans HWM.out
   have LS21 : Hid (AllI w20 [(a13, m, X), (bz, mZ, Z), (az, mZ, Z), (some ⟨gh, 0, none⟩, mh, hs), (some ⟨gz, 0, none⟩, mz, zs), (some ⟨gy, 0, none⟩, my, ys), (some ⟨gx, 0, none⟩, mx, xs), (a2, m, X), (some ⟨gw, 0, none⟩, mw, ws)]) := (LS20.out.below hb)
   have B21 : Hid (Below w.heap.size w w20) := B20.out.trans (hb.mono B20.out.size)
   clear hb hokw LS20 B20
   by_cases hm0 : m = 0
   case neg =>
     obtain rfl : okw = false := by
       cases okw with
       | false => rfl
       | true => exact absurd (HKW.out.1 rfl) hm0
     have hm1 : ((m : Int) == 0) = false := by simp; omega
     have hm2 : (0 : Int) < (m : Int) := by omega
     clear hm0
     go_wp2
     go_ret
     exact ⟨rfl, B21.out⟩
   obtain rfl : okw = true := HKW.out.2 hm0
   have HWH : Hid (WholeM ws) := HWM.out.2 hm0
   subst hm0
   have hsz20 : w.heap.size ≤ w20.heap.size := B21.out.size
   obtain ⟨i0, hi, hz0, hz1, hz2⟩ := info_parts infoInt
   have HG : Hid _ := (LS21.out (some ⟨gw, 0, none⟩, mw, ws) (by simp)).cells
   have HLN : Hid (ws.length = mw) := (LS21.out (some ⟨gw, 0, none⟩, mw, ws) (by simp)).1
   have hmw20 : Hid (mw = 20) := HLN.out.symm.trans HWH.out.len
   go_wp2_with
     (at_builtin
      refine wpList_append_own _ rfl _ _ 24 rfl w20.heap.size 3 i0 (.int .i64 0) 1 8 Tryd.underlying24 hi hz0 hz1 hz2 rfl (by decide) (.slice (some ⟨w20.heap.size, 0, none⟩) 0 0) 0 [] rfl (own_empty (Nat.le_refl _)) ⟨gw, 0, none⟩ mw 20 (ws.map I) rfl (news_len HLN.out) (news_at HLN.out HG.out) news_one (by unfold maxLen; omega) (by omega) (by simp) ?_
      intro v' w21 own21 grow21 _)
   rw [Nat.zero_add, List.nil_append] at own21
   have hb : Below w20.heap.size w20 w21 := ((Below.refl _ w20).alloc (Nat.le_refl _) _).grown grow21 (by simp) (fun k e => by
     have h1 : w20.heap.size = k := by simpa [Value.ownBlock] using e
     omega)
   obtain ⟨gb, cb, rfl⟩ : ∃ gb cb, v' = .slice (some ⟨gb, 0, none⟩) mw cb := by
     rcases owns_forms own21 with ⟨_, h⟩ | ⟨g, cap, h⟩
     · have := hmw20.out; omega
     · exact ⟨g, cap, h⟩
   have hgb := (own_base own21).1
   have hcb : mw ≤ cb := by
     obtain ⟨_, _, h1, h2⟩ := owns_slice own21
     cases h1
     exact h2
   have OB : Hid (w21.ownsRow w20.heap.size 3 1 (.slice (some ⟨gb, 0, none⟩) mw cb) mw (ws.map I)) := own21
   have LS22 : Hid (AllI w21 [(a13, 0, X), (bz, mZ, Z), (az, mZ, Z), (some ⟨gh, 0, none⟩, mh, hs), (some ⟨gz, 0, none⟩, mz, zs), (some ⟨gy, 0, none⟩, my, ys), (some ⟨gx, 0, none⟩, mx, xs), (a2, 0, X), (some ⟨gw, 0, none⟩, mw, ws)]) := (LS21.out.below hb)
   have B22 : Hid (Below w.heap.size w w21) := B21.out.trans (hb.mono B21.out.size)
   clear hb own21 grow21 LS21 B21
   go_wp2_with (fail)
   refine (at_one a n c _ hn (bytes_nowT HB.out B22.out)).mono ?_
   rintro e w22 ⟨r, hr, rfl, hw22⟩
   rw [hw22]
   clear hw22
   have hr0 : (0 : Int) ≤ (r : Int) := by omega
   go_wp2_with (fail)
   refine (implOwnerAt_any (1 + (r : Int) % 6) _ (HN.out.below B22.out HN.out.lt)).mono ?_
   rintro e w23 ⟨rfl, hb⟩
   obtain ⟨i, hii⟩ : ∃ i, 4 + r % 6 = i := ⟨_, rfl⟩
   rw [show placeN 2 (1 + (r : Int) % 6) = (i : Int) by rw [← hii]; unfold placeN; repeat' split <;> omega]
   have hi4 : 4 ≤ i ∧ i ≤ 9 := by omega
   have OB3 : Hid (w23.ownsRow w20.heap.size 3 1 (.slice (some ⟨gb, 0, none⟩) mw cb) mw (ws.map I)) := owns_below OB.out hb (Nat.le_refl _)
   have LS23 : Hid (AllI w23 [(a13, 0, X), (bz, mZ, Z), (az, mZ, Z), (some ⟨gh, 0, none⟩, mh, hs), (some ⟨gz, 0, none⟩, mz, zs), (some ⟨gy, 0, none⟩, my, ys), (some ⟨gx, 0, none⟩, mx, xs), (a2, 0, X), (some ⟨gw, 0, none⟩, mw, ws)]) := (LS22.out.below hb)
   have B23 : Hid (Below w.heap.size w w23) := B22.out.trans (hb.mono B22.out.size)
   clear hb hii OB LS22 B22
   have hilt : i < mw := by have := hmw20.out; omega
   have hx2 := HWH.out.small (q := i) (.inr (.inl (by omega)))
   obtain ⟨x, hx⟩ : ∃ x, ws.getD i 0 = x := ⟨_, rfl⟩
   rw [hx] at hx2
   have HXX : Hid (ws.getD i 0 = x) := hx
   have hcell : w23.cell? ⟨gb, i, none⟩ = some (I x) := by
     rw [OB3.out.cellAt i (by omega), List.getElem?_map, List.getElem?_eq_getElem (by rw [HLN.out]; exact hilt)]
     have := hx
     simp [List.getD, show i < ws.length by rw [HLN.out]; exact hilt] at this
     simp [this]
   have hfr : w23.frozen? ⟨gb, i, none⟩ = false := OB3.out.frozenAt i
   have hst := (OB3.out.stored i (I (x + 1))).1
   rw [← List.map_set] at hst
   have hIs : IntAt (w23.setCell ⟨gb, i, none⟩ (I (x + 1))) (some ⟨gb, 0, none⟩) mw (ws.set i (x + 1)) := own_int hst (by omega)
   have HIs : Hid (IntAt (w23.setCell ⟨gb, i, none⟩ (I (x + 1))) (some ⟨gb, 0, none⟩) mw (ws.set i (x + 1))) := hIs
   have hb21 : w.heap.size ≤ gb := Nat.le_trans hsz20 hgb
   have BS : Hid (Below w.heap.size w (w23.setCell ⟨gb, i, none⟩ (I (x + 1)))) := B23.out.setCell (show w.heap.size ≤ gb from hb21) _
   have hne : x + 1 ≠ ws.getD i 0 := by rw [hx]; omega
   have HNE : Hid (x + 1 ≠ ws.getD i 0) := hne
   have HST : Hid (strayL (ws.set i (x + 1)) ws ws.length = [(i : Int)]) := by
     show _ = _
     rw [stray_one (by rw [HLN.out]; exact hilt) hne, if_pos (by rw [HLN.out]; exact hilt)]
   have HBT : Hid (TellsL (inX (ws.set i (x + 1))) (inS (ws.set i (x + 1))) ws) := bent_tells HWH.out hi4
   have NB : Hid (Near (ws.set i (x + 1))) := Nws.out.set i (by omega)
   have HBN : Hid (¬ WholeM (ws.set i (x + 1))) := bent_not HWH.out hi4 hne
   obtain ⟨hx0, hx4⟩ := hx2
   clear hst hIs hx hne LS23 B23
   go_wp2_with (fail)
   refine (implStray_any (some ⟨gb, 0, none⟩) mw cb (ws.set i (x + 1)) ws _ HIs.out hcb NB.out.wf (HN.out.below BS.out HN.out.lt) HBT.out).mono ?_
   rintro e w24 ⟨⟨v24, rfl, own24⟩, hb24⟩
   rw [HST.out] at own24
   obtain ⟨a24, c24, rfl, hI24⟩ := own_at (n := 1) own24 (by omega)
   have H24 : Hid (IntAt w24 a24 1 [(i : Int)]) := hI24
   have B24 : Hid (Below w.heap.size w w24) := BS.out.trans (hb24.mono BS.out.size)
   have I24 : Hid (IntAt w24 (some ⟨gb, 0, none⟩) mw (ws.set i (x + 1))) := HIs.out.below hb24 (Nat.le_refl _)
   clear own24 hI24 hb24 HIs BS hcell hfr
   go_wp2_with (fail)
   refine (implWhole_any (some ⟨gb, 0, none⟩) mw cb (ws.set i (x + 1)) _ I24.out hcb NB.out.wf (HN.out.below B24.out HN.out.lt)).mono ?_
   rintro e w25 ⟨⟨okb, rfl, hokb⟩, hb25⟩
   obtain rfl : okb = false := by
     cases okb with
     | false => rfl
     | true => exact absurd (hokb.1 rfl) HBN.out
   have H25 := H24.out.below hb25 (Nat.le_refl _)
   have B25 : Hid (Below w.heap.size w w25) := B24.out.trans (hb25.mono B24.out.size)
   rcases H25.2.2 with h0 | ⟨b25, o25, rfl, hc25⟩
   · omega
   have c25 := hc25 0 (by omega)
   rw [show o25 + 0 = o25 from rfl, show [(i : Int)].getD 0 0 = (i : Int) from rfl] at c25
   clear hc25 H25 hb25 hokb
   go_wp2
   go_ret
   exact ⟨rfl, B25.out⟩
end fnTables
theorem tables_walk (a : Option Addr) (n c : Nat) (w : World) (hB : BytesAt w w.heap.size a n) (hN : Names w) :
   Calls Tryd.prog 3 #[.slice a n c] w fun e w' => e = .returned (.bool true) ∧ Below w.heap.size w w' := by
 by_cases hbig : 1048576 < n
 · go_enter Tryd.func3, Tryd.ntmps3
   go_wp2
   go_ret
   exact ⟨rfl, Below.refl _ _⟩
 · exact fnTables.walk a n c w (by omega) hB hN
end Go.Proofs.YtfanppifelajnaaDoor
