/- impl.Stray, walked at any list. -/
import Derived.Test.YtkifebhkgldefaaDoorSpecSt
import Derived.Test.YtkifebhkgldefaaDoorImplIn
import Derived.Deep.Cut
import Derived.Maps.AppendAt
import Derived.Deep.RegionWith
namespace Go.Proofs.YtkifebhkgldefaaDoor
open Go.ChangeShapes Go.WideShapes Go.ChangeAt Go.RowKit Go.Joins

set_option maxHeartbeats 1000000 in
set_option maxRecDepth 100000 in
theorem putPlaces_any (base : Nat) (v : Value) (S : List Int) (g : Nat) (k : Int) (w : World) (ho : w.ownsRow base 3 1 v S.length (S.map I)) (hs : S.length ≤ 20) (hb : base ≤ w.heap.size) (hg : w.cell? ⟨g, 0, none⟩ = some (I k)) :
    Calls Tryd.prog 34 #[v, .slice (some ⟨g, 0, none⟩) 1 1] w fun e w' => ∃ v', e = .returned v' ∧ w'.ownsRow base 3 1 v' (S ++ [k]).length ((S ++ [k]).map I) ∧ w.grownBy w' v.ownBlock := by
  obtain ⟨i0, hi, hz0, hz1, hz2⟩ := info_parts infoInt
  have HO : Hid (w.ownsRow base 3 1 v S.length (S.map I)) := ho
  have HG : Hid (w.cell? ⟨g, 0, none⟩ = some (I k)) := hg
  clear ho hg
  go_enter Tryd.func34, Tryd.ntmps34
  go_wp2_with (at_builtin; refine wpList_append_own_at _ rfl _ _ 22 rfl base 3 i0 (.int .i64 0) 1 8 Tryd.underlying22 hi hz0 hz1 hz2 rfl (by decide) _ _ _ rfl HO.out ⟨g, 0, none⟩ 1 1 [I k] rfl rfl ?c1 ?c2 ?c3 ?c4 ?c5 ?_)
  case c1 =>
    intro j u hj
    match j, hj with
    | 0, hj => simp at hj; subst hj; simpa [Addr.add] using HG.out
  case c2 => intro u hu; simp at hu; subst hu; rfl
  case c3 => unfold maxLen; omega
  case c4 => omega
  case c5 => exact hb
  · intro v1 w4 hown1 hgrow _ _
    have R : w4.ownsRow base 3 1 v1 (S ++ [k]).length ((S ++ [k]).map I) := by simpa using hown1
    have HR : Hid (w4.ownsRow base 3 1 v1 (S ++ [k]).length ((S ++ [k]).map I)) := R
    have HGR : Hid (w.grownBy w4 v.ownBlock) := hgrow
    clear hown1 hgrow R
    go_wp2
    go_ret
    exact ⟨_, rfl, HR.out, HGR.out⟩
set_option maxHeartbeats 4000000 in
set_option maxRecDepth 100000 in
theorem implStray_any (a : Option Addr) (n c : Nat) (ws L : List Int) (w : World) (hA : IntAt w a n ws) (hc : n ≤ c) (hi : ∀ x ∈ ws, (Lit.int .i64 x).wf = true) (hN : Names w) (hL : TellsL (inX ws) (inS ws) L) :
    Calls Tryd.prog 19 #[.slice a n c] w fun e w' => StraySays e w w' (strayL ws L L.length) ∧ Below w.heap.size w w' := by
  have HL : Hid (TellsL (inX ws) (inS ws) L) := hL
  have hn20 : Hid (L.length = 0 ∨ (L.length = 20 ∧ ws.length = 20)) := tells_len hL
  have HA : Hid (IntAt w a n ws) := hA
  have HC : Hid (n ≤ c) := hc
  have HN : Hid (Names w) := hN
  have HI : Hid (∀ x ∈ inX ws, (Lit.int .i64 x).wf = true) := inX_wf hi
  have hnn := hA.2.1
  obtain ⟨ln, hlen⟩ : ∃ ln, L.length = ln := ⟨_, rfl⟩
  rw [hlen] at hn20 ⊢
  have HLN : Hid (L.length = ln) := hlen
  clear hA hc hL hlen hN hi
  go_enter Tryd.func19, Tryd.ntmps19
  go_wp2_with (fail)
  refine (implRowsIn_any a n c ws w HA.out HC.out HN.out).mono ?_
  rintro e w1 ⟨hs1, hb1⟩
  obtain ⟨ra, rc, rfl, hrc, RA1⟩ := hs1.at
  have HR1 : Hid (IntAt w1 ra (inX ws).length (inX ws)) := RA1
  clear hs1 RA1
  go_wp2_with (fail)
  refine (implWordsR ra (inX ws).length rc hrc (inS ws) (inX ws) L _ HR1.out HI.out (HN.out.below hb1 HN.out.lt) HL.out).mono ?_
  rintro e w2 ⟨⟨la, lm, lc, rfl, LA2⟩, hb2⟩
  obtain rfl : ln = lm := HLN.out.symm.trans LA2.1
  have HB2 : Hid (Below w.heap.size w w2) := hb1.trans (hb2.mono hb1.size)
  have HL2 : Hid (IntAt w2 la ln L) := LA2
  have hwl : Hid (ws.length = n) := HA.out.1
  have hs2 : w.heap.size ≤ w2.heap.size := HB2.out.size
  have HWS : Hid (IntAt w2 a n ws) := HA.out.below HB2.out (Nat.le_refl _)
  have hln : ln ≤ 20 := by rcases hn20.out with h | h <;> omega
  have hle : ln ≤ n := by have := hwl.out; rcases hn20.out with h | h <;> omega
  clear hb1 hb2 LA2 HR1
  go_wp2
  go_loopw [3, 10] (fun o i wr => ∃ k : Nat, k ≤ ln ∧ i = .int .i64 (k : Int) ∧ wr.ownsRow w2.heap.size 3 1 o (strayL ws L k).length ((strayL ws L k).map I) ∧ Below w2.heap.size w2 wr) (fun _ i _ => ln - (intOf i).toNat)
  case atStart => exact ⟨0, Nat.zero_le _, rfl, World.ownsRow_nil _ _ _ _, Below.refl _ _⟩
  case round =>
    obtain ⟨k, hk, rfl, ho, hb⟩ := hrel
    have HO : Hid (wr.ownsRow w2.heap.size 3 1 u3 (strayL ws L k).length ((strayL ws L k).map I)) := ho
    have HB : Hid (Below w2.heap.size w2 wr) := hb
    have hsr : w2.heap.size ≤ wr.heap.size := hb.size
    have hsl : (strayL ws L k).length ≤ 20 := by have := strayL_len ws L k; omega
    clear ho hb
    by_cases hlt : k < ln
    · rcases (HWS.out.below HB.out (Nat.le_refl _)).2.2 with h0 | ⟨p1, o1, rfl, g1⟩
      · omega
      rcases (HL2.out.below HB.out (Nat.le_refl _)).2.2 with h0 | ⟨p2, o2, rfl, g2⟩
      · omega
      obtain ⟨x, hx⟩ : ∃ x, ws.getD k 0 = x := ⟨_, rfl⟩
      obtain ⟨y, hy⟩ : ∃ y, L.getD k 0 = y := ⟨_, rfl⟩
      have e1 := g1 k (by omega)
      have e2 := g2 k hlt
      rw [hx] at e1
      rw [hy] at e2
      have HX : Hid (ws.getD k 0 = x) := hx
      have HY : Hid (L.getD k 0 = y) := hy
      have hlt2 : k < n := by omega
      clear g1 g2 hx hy
      by_cases hxy : x = y
      · have hd : (x != y) = false := by simpa using hxy
        have HS : Hid (strayL ws L (k + 1) = strayL ws L k) := strayL_same (by rw [HX.out, HY.out]; exact hxy)
        clear hxy
        go_wp2
        exact ⟨⟨k + 1, by omega, by go_num, by rw [HS.out]; exact HO.out, HB.out⟩, by simp [intOf]; omega⟩
      · have hd : (x != y) = true := by simpa using hxy
        have HS : Hid (strayL ws L (k + 1) = strayL ws L k ++ [(k : Int)]) := strayL_more (by rw [HX.out, HY.out]; exact hxy)
        clear hxy
        go_wp2_with (fail)
        have hba : Below wr.heap.size wr (wr.alloc (.cells #[.int .i64 (k : Int)] 3)) := (Below.refl _ _).alloc (Nat.le_refl _) _
        refine (putPlaces_any w2.heap.size u3 (strayL ws L k) wr.heap.size (k : Int) _ (HO.out.alloc _) hsl (by simp; omega) (by simp)).mono ?_
        rintro e w4 ⟨v', rfl, own4, hg4⟩
        have HO4 : Hid (w4.ownsRow w2.heap.size 3 1 v' (strayL ws L (k + 1)).length ((strayL ws L (k + 1)).map I)) := by rw [HS.out]; exact own4
        have HB4 : Hid (Below w2.heap.size w2 w4) := (HB.out.trans (hba.mono hsr)).grown hg4 (by simp; omega) fun k e => (HO.out.lt k e).1
        clear own4 hg4 hba
        go_wp2
        exact ⟨⟨k + 1, by omega, by go_num, HO4.out, HB4.out⟩, by simp [intOf]; omega⟩
    · obtain rfl : k = ln := by omega
      go_wp2
      go_ret
      exact ⟨⟨_, rfl, own_weaken HO.out hs2⟩, HB2.out.trans (HB.out.mono hs2)⟩
end Go.Proofs.YtkifebhkgldefaaDoor
