/- spec.Stray, walked at any list. -/
import Derived.Test.YtkifebhkgldefaaDoorSpecIn
import Derived.Deep.Cut
import Derived.Maps.AppendAt
import Derived.Deep.RegionWith
namespace Go.Proofs.YtkifebhkgldefaaDoor
open Go.ChangeShapes Go.WideShapes Go.ChangeAt Go.RowKit Go.Joins

/-- The places at which words stray, in a list of the call's own. -/
def StraySays (e : Ending) (w w' : World) (S : List Int) : Prop := ∃ v, e = .returned v ∧ w'.ownsRow w.heap.size 3 1 v S.length (S.map I)
theorem strayL_same {ws L : List Int} {k : Nat} (h : ws.getD k 0 = L.getD k 0) : strayL ws L (k + 1) = strayL ws L k := by
  rw [strayL, if_pos h]
theorem strayL_more {ws L : List Int} {k : Nat} (h : ¬ ws.getD k 0 = L.getD k 0) : strayL ws L (k + 1) = strayL ws L k ++ [(k : Int)] := by
  rw [strayL, if_neg h]
theorem app_step {w wr w1 : World} {base : Nat} {v v1 : Value} {S : List Int} {x : Int} {o : Obj} (hB : base ≤ wr.heap.size) (hown : wr.ownsRow base 3 1 v S.length (S.map I)) (hb : Below base w wr)
    (h1 : w1.ownsRow base 3 1 v1 (S.length + 1) (S.map I ++ [I x])) (hg : (wr.alloc o).grownBy w1 v.ownBlock) :
    w1.ownsRow base 3 1 v1 (S ++ [x]).length ((S ++ [x]).map I) ∧ Below base w w1 :=
  ⟨by simpa using h1, (hb.alloc hB _).grown hg (by simp; omega) fun k e => (hown.lt k e).1⟩
theorem tells_len {ws L : List Int} (h : TellsL (inX ws) (inS ws) L) : L.length = 0 ∨ (L.length = 20 ∧ ws.length = 20) := by
  rcases h with ⟨h, rfl⟩ | ⟨_, rfl⟩
  · exact .inr ⟨rfl, ok_twenty h⟩
  · exact .inl rfl
/-- A list that grows does not lie where the other one does. -/
def ApartL (o : Value) (la : Option Addr) (ln : Nat) : Prop := 0 < ln → ∀ p q, la = some ⟨p, q, none⟩ → o.ownBlock ≠ some p
theorem apart_new {w : World} {g ln : Nat} {la : Option Addr} {L : List Int} {base : Nat} (h : IntAt w la ln L) (ho : w.ownsRow base 3 1 (.slice (some ⟨g, 0, none⟩) 0 0) 0 []) : ApartL (.slice (some ⟨g, 0, none⟩) 0 0) la ln := by
  intro h0 p q he e
  have e' : g = p := Option.some.inj e
  subst e'
  subst he
  rcases h.2.2 with h1 | ⟨p', q', he, hc⟩
  · omega
  cases he
  have hcell := hc 0 h0
  rcases ho.2 with ⟨h2, _⟩ | ⟨g', cap, cur, hv, _, hh, _, _, hcur, _⟩
  · cases h2
  · cases hv
    have hz : cur.size = 0 := by simpa using hcur
    simp [World.cell?, hh, hz] at hcell
theorem apart_step {w w' : World} {p q ln : Nat} {L : List Int} {v v' : Value} {o : Obj} (h : IntAt w (some ⟨p, q, none⟩) ln L) (ha : ApartL v (some ⟨p, q, none⟩) ln) (h0 : 0 < ln) (hg : (w.alloc o).grownBy w' v.ownBlock) (hv : v'.ownBlock = v.ownBlock ∨ v'.ownBlock = some (w.heap.size + 1)) :
    IntAt w' (some ⟨p, q, none⟩) ln L ∧ ApartL v' (some ⟨p, q, none⟩) ln := by
  have hp : p < w.heap.size := by
    rcases h.2.2 with h1 | ⟨p', q', he, hc⟩
    · omega
    · cases he
      exact World.block_lt_of_cell? w _ (hc 0 h0)
  have hne := ha h0 p q rfl
  refine ⟨⟨h.1, h.2.1, ?_⟩, ?_⟩
  · rcases h.2.2 with h1 | ⟨p', q', he, hc⟩
    · omega
    · cases he
      refine .inr ⟨p, q, rfl, fun i hi => ?_⟩
      rw [World.cell?_of_block (w := w.alloc o) (hg.block p (by simp; omega) (fun e => hne e.symm)), World.cell?_alloc_past _ _ _ hp]
      exact hc i hi
  · intro _ p' q' he
    cases he
    rcases hv with hv | hv
    · rw [hv]; exact hne
    · rw [hv]
      intro e
      have e1 := Option.some.inj e
      omega
set_option maxHeartbeats 4000000 in
set_option maxRecDepth 100000 in
theorem specStray_any (a : Option Addr) (n c : Nat) (ws L : List Int) (w : World) (hA : IntAt w a n ws) (hc : n ≤ c) (hL : TellsL (inX ws) (inS ws) L) :
    Calls Tryd.prog 18 #[.slice a n c] w fun e w' => StraySays e w w' (strayL ws L L.length) ∧ Below w.heap.size w w' := by
  obtain ⟨i0, hi, hz0, hz1, hz2⟩ := info_parts infoInt
  have HL : Hid (TellsL (inX ws) (inS ws) L) := hL
  have hn20 : Hid (L.length = 0 ∨ (L.length = 20 ∧ ws.length = 20)) := tells_len hL
  have HA : Hid (IntAt w a n ws) := hA
  have HC : Hid (n ≤ c) := hc
  have hnn := hA.2.1
  obtain ⟨ln, hlen⟩ : ∃ ln, L.length = ln := ⟨_, rfl⟩
  rw [hlen] at hn20 ⊢
  have HLN : Hid (L.length = ln) := hlen
  obtain ⟨W, hW⟩ : ∃ W, w.alloc (.cells #[] 3) = W := ⟨_, rfl⟩
  have HB0 : Hid (Below w.heap.size w W) := by rw [← hW]; exact (Below.refl _ w).alloc (Nat.le_refl _) _
  have HO0 : Hid (W.ownsRow w.heap.size 3 1 (.slice (some ⟨w.heap.size, 0, none⟩) 0 0) 0 []) := by rw [← hW]; exact own_empty (Nat.le_refl _)
  have HW : Hid (w.alloc (.cells #[] 3) = W) := hW
  clear hA hc hL hW hlen
  go_enter Tryd.func18, Tryd.ntmps18
  go_wp2_with (fail)
  rw [HW.out]
  refine (specRowsIn_any a n c ws W (HA.out.below HB0.out (Nat.le_refl _)) HC.out).mono ?_
  rintro e w1 ⟨hs1, hb1⟩
  obtain ⟨ra, rc, rfl, hrc, RA1⟩ := hs1.at
  have HR1 : Hid (IntAt w1 ra (inX ws).length (inX ws)) := RA1
  clear hs1 RA1
  go_wp2_with (fail)
  refine (specWordsT ra (inX ws).length rc (inS ws) (inX ws) L _ HR1.out HL.out).mono ?_
  rintro e w2 ⟨⟨la, lm, lc, rfl, LA2⟩, hb2⟩
  obtain rfl : ln = lm := HLN.out.symm.trans LA2.1
  have hb02 : Below W.heap.size W w2 := hb1.trans (hb2.mono hb1.size)
  have HB2 : Hid (Below w.heap.size w w2) := HB0.out.trans (hb02.mono HB0.out.size)
  have HO2 : Hid (w2.ownsRow w.heap.size 3 1 (.slice (some ⟨w.heap.size, 0, none⟩) 0 0) 0 []) := owns_below HO0.out hb02 (Nat.le_refl _)
  have HL2 : Hid (IntAt w2 la ln L) := LA2
  have HAP : Hid (ApartL (.slice (some ⟨w.heap.size, 0, none⟩) 0 0) la ln) := apart_new LA2 HO2.out
  have hwl : Hid (ws.length = n) := HA.out.1
  have hs2 : w.heap.size ≤ w2.heap.size := HB2.out.size
  have HWS : Hid (IntAt w2 a n ws) := HA.out.below HB2.out (Nat.le_refl _)
  have hln : ln ≤ 20 := by rcases hn20.out with h | h <;> omega
  have hle : ln ≤ n := by have := hwl.out; rcases hn20.out with h | h <;> omega
  clear hb1 hb2 hb02 LA2 HR1
  go_wp2
  go_loopw [3, 5] (fun o i wr => ∃ k : Nat, k ≤ ln ∧ i = .int .i64 (k : Int) ∧ wr.ownsRow w.heap.size 3 1 o (strayL ws L k).length ((strayL ws L k).map I) ∧ Below w.heap.size w wr ∧ IntAt wr la ln L ∧ ApartL o la ln) (fun _ i _ => ln - (intOf i).toNat)
  case atStart => exact ⟨0, Nat.zero_le _, rfl, HO2.out, HB2.out, HL2.out, HAP.out⟩
  case round =>
    obtain ⟨k, hk, rfl, ho, hb, hl, hap⟩ := hrel
    have HO : Hid (wr.ownsRow w.heap.size 3 1 u3 (strayL ws L k).length ((strayL ws L k).map I)) := ho
    have HB : Hid (Below w.heap.size w wr) := hb
    have HLL : Hid (IntAt wr la ln L) := hl
    have HAP : Hid (ApartL u3 la ln) := hap
    have hsr : w.heap.size ≤ wr.heap.size := hb.size
    have hsl : (strayL ws L k).length ≤ 20 := by have := strayL_len ws L k; omega
    clear ho hb hl hap
    by_cases hlt : k < ln
    · rcases (HA.out.below HB.out (Nat.le_refl _)).2.2 with h0 | ⟨p1, o1, rfl, g1⟩
      · omega
      rcases HLL.out.2.2 with h0 | ⟨p2, o2, rfl, g2⟩
      · omega
      obtain ⟨x, hx⟩ : ∃ x, ws.getD k 0 = x := ⟨_, rfl⟩
      obtain ⟨y, hy⟩ : ∃ y, L.getD k 0 = y := ⟨_, rfl⟩
      have e1 := g1 k (by omega)
      have e2 := g2 k hlt
      rw [hx] at e1
      rw [hy] at e2
      have HX : Hid (ws.getD k 0 = x) := hx
      have HY : Hid (L.getD k 0 = y) := hy
      have hlt2 : k < n := by omega
      clear g1 g2 hx hy
      by_cases hxy : x = y
      · have hd : (x != y) = false := by simpa using hxy
        have HS : Hid (strayL ws L (k + 1) = strayL ws L k) := strayL_same (by rw [HX.out, HY.out]; exact hxy)
        clear hxy
        go_wp2
        go_region
        go_wp2
        exact ⟨⟨k + 1, by omega, by go_num, by rw [HS.out]; exact owns_below HO.out (Below.refl _ wr).drew (Nat.le_refl _), HB.out.drew, HLL.out.below (Below.refl _ wr).drew (Nat.le_refl _), HAP.out⟩, by simp [intOf]; omega⟩
      · have hd : (x != y) = true := by simpa using hxy
        have HS : Hid (strayL ws L (k + 1) = strayL ws L k ++ [(k : Int)]) := strayL_more (by rw [HX.out, HY.out]; exact hxy)
        clear hxy
        go_wp2
        go_region
        have HOD : Hid (wr.drew.ownsRow w.heap.size 3 1 u3 (strayL ws L k).length ((strayL ws L k).map I)) := owns_below HO.out (Below.refl _ wr).drew (Nat.le_refl _)
        have HBD : Hid (Below w.heap.size w wr.drew) := HB.out.drew
        have HLD : Hid (IntAt wr.drew (some ⟨p2, o2, none⟩) ln L) := HLL.out.below (Below.refl _ wr).drew (Nat.le_refl _)
        obtain ⟨WD, hWD⟩ : ∃ WD, wr.drew = WD := ⟨_, rfl⟩
        rw [hWD] at HOD HBD HLD ⊢
        have hsd : w.heap.size ≤ WD.heap.size := by rw [← hWD]; exact hsr
        clear hWD e1 e2
        go_wp2_with (at_builtin; refine wpList_append_own_at _ rfl _ _ 22 rfl w.heap.size 3 i0 (.int .i64 0) 1 8 Tryd.underlying22 hi hz0 hz1 hz2 rfl (by decide) _ _ _ rfl (HOD.out.alloc _) ⟨WD.heap.size, 0, none⟩ 1 1 [I (k : Int)] rfl rfl ?c1 ?c2 ?c3 ?c4 ?c5 ?_)
        case c1 => exact cell_one_new _ _ _
        case c2 => intro u hu; simp at hu; subst hu; rfl
        case c3 => unfold maxLen; omega
        case c4 => omega
        case c5 => simp; omega
        · intro v1 w4 hown1 hgrow _ hwh
          have R := app_step hsd HOD.out HBD.out hown1 hgrow
          have HL4 : Hid (IntAt w4 (some ⟨p2, o2, none⟩) ln L ∧ ApartL v1 (some ⟨p2, o2, none⟩) ln) := apart_step HLD.out HAP.out (by omega) hgrow hwh
          clear hown1 hgrow
          go_wp2
          exact ⟨⟨k + 1, by omega, by go_num, by rw [HS.out]; exact R.1, R.2, HL4.out.1, HL4.out.2⟩, by simp [intOf]; omega⟩
    · obtain rfl : k = ln := by omega
      go_wp2
      go_ret
      exact ⟨⟨_, rfl, HO.out⟩, HB.out⟩
end Go.Proofs.YtkifebhkgldefaaDoor
