/- spec.Meaning and impl.Meaning, walked at any words and Descs. -/
import Derived.Test.YtenlapppaimkkaqSpecVal
import Derived.Test.YtenlapppaimkkaqImplVal2
import Derived.Test.YtenlapppaimkkaqInts
import Derived.Test.YtenlapppaimkkaqClone
import Derived.Laws.AppendOwn
namespace Go.Proofs.Ytenlapppaimkkaq
open Go.ChangeShapes Go.WideShapes Go.ChangeAt Go.RowKit

def meanM (fs : List Int) (m : Nat) (ds : List DK) : List Int := (List.range m).map fun (i : Nat) => valM fs m ds (i : Int)
theorem meanM_len (fs : List Int) (m : Nat) (ds : List DK) : (meanM fs m ds).length = m := by simp [meanM]
theorem meanM_at (fs : List Int) (m : Nat) (ds : List DK) {k : Nat} (h : k < m) : (meanM fs m ds).getD k 0 = valM fs m ds (k : Int) := by simp [meanM, List.getD, h]
theorem meanM_next (fs : List Int) (m : Nat) (ds : List DK) {k : Nat} (h : k < m) : (meanM fs m ds).take (k + 1) = (meanM fs m ds).take k ++ [valM fs m ds (k : Int)] := by
  rw [List.take_succ_eq_append_getElem (by rw [meanM_len]; exact h)]
  congr 2
  have := meanM_at fs m ds h
  simpa [List.getD, meanM_len, h] using this
set_option maxHeartbeats 1000000 in
theorem specMeaning_any (a : Option Addr) (m c : Nat) (fs : List Int) (da : Option Addr) (dn dc : Nat) (ds : List DK) (w : World) (h1 : TripAt w a m fs) (h2 : DescAt w da dn ds) :
    Calls Try.prog 14 #[.slice a m c, .slice da dn dc] w fun e w' => ∃ v, e = .returned v ∧ w'.ownsRow w.heap.size 3 1 v m ((meanM fs m ds).map I) ∧ Below w.heap.size w w' := by
  have H1 : Hid (TripAt w a m fs) := h1
  have H2 : Hid (DescAt w da dn ds) := h2
  have hm := h1.2.1
  clear h1 h2
  obtain ⟨i0, hi, hz0, hz1, hz2⟩ := info_parts infoInt
  go_enter Try.func14, Try.ntmps14
  go_wp2
  go_loopw [5, 6] (fun v i wr => ∃ k : Nat, k ≤ m ∧ i = .int .i64 (k : Int) ∧ wr.ownsRow w.heap.size 3 1 v k (((meanM fs m ds).take k).map I) ∧ Below w.heap.size w wr) (fun _ i _ => m - (intOf i).toNat)
  case atStart => exact ⟨0, Nat.zero_le _, rfl, own_empty (Nat.le_refl _), (Below.refl _ w).alloc (Nat.le_refl _) _⟩
  case round =>
    obtain ⟨k, hk, rfl, ho, hb⟩ := hrel
    by_cases hlt : k < m
    · have HO : Hid _ := ho
      have hk0 : (0 : Int) ≤ (k : Int) := by omega
      clear ho
      go_wp2_with fail
      refine (specValueAt_any a m c fs da dn dc ds k _ (H1.out.below hb (Nat.le_refl _)) (H2.out.below hb (Nat.le_refl _))).mono ?_
      rintro e w1 ⟨rfl, hb1⟩
      have ho1 := owns_below HO.out hb1 (Nat.le_refl _)
      have hb2 : Below w.heap.size w w1 := hb.trans (hb1.mono hb.size)
      have hB := hb2.size
      obtain ⟨x, hx⟩ : ∃ x, valM fs m ds (k : Int) = x := ⟨_, rfl⟩
      have HN : Hid ((meanM fs m ds).take (k + 1) = (meanM fs m ds).take k ++ [x]) := by rw [← hx]; exact meanM_next fs m ds hlt
      rw [hx]
      clear hx hb1 HO
      go_wp2_with (at_builtin; refine wpList_append_own _ rfl _ _ 34 rfl w.heap.size 3 i0 (.int .i64 0) 1 8 Try.underlying34 hi hz0 hz1 hz2 rfl (by decide) _ _ _ rfl (ho1.alloc _) ⟨w1.heap.size, 0, none⟩ 1 1 [I x] rfl rfl ?c1 ?c2 ?c3 ?c4 ?c5 ?_)
      case c1 =>
        intro j u hj
        match j, hj with
        | 0, hj => simp at hj; subst hj; simp [Addr.add]
      case c2 => intro u hu; simp at hu; subst hu; rfl
      case c3 => unfold maxLen; omega
      case c4 => omega
      case c5 => simp; omega
      · intro v1 w4 hown1 hgrow _
        have HO4 : Hid (w4.ownsRow w.heap.size 3 1 v1 (k + 1) (((meanM fs m ds).take (k + 1)).map I)) := by
          show World.ownsRow _ _ _ _ _ _ _
          rw [HN.out, List.map_append, List.map_take]
          exact hown1
        have HB4 : Hid (Below w.heap.size w w4) := (hb2.alloc hB _).grown hgrow (by simp; omega) (fun q e => (ho1.lt q e).1)
        clear hown1 hgrow ho1 hb2
        go_wp2
        go_roundw
        case rel => exact ⟨k + 1, by omega, by go_num, HO4.out, HB4.out⟩
        case measure => simp [intOf]; omega
    · obtain rfl : k = m := by omega
      have e : (meanM fs k ds).take k = meanM fs k ds := List.take_of_length_le (by rw [meanM_len]; exact Nat.le_refl _)
      rw [e] at ho
      have HO : Hid _ := ho
      clear e
      clear ho
      go_wp2
      go_ret
      exact ⟨_, rfl, HO.out, hb⟩
set_option maxHeartbeats 1000000 in
theorem implMeaning_any (a : Option Addr) (m c : Nat) (fs : List Int) (da : Option Addr) (dn dc : Nat) (ds : List DK) (w : World) (h1 : TripAt w a m fs) (h2 : DescAt w da dn ds) :
    Calls Try.prog 15 #[.slice a m c, .slice da dn dc] w fun e w' => e = .returned (.slice (some ⟨w.heap.size, 0, none⟩) m m) ∧ w'.ownsRow w.heap.size 3 1 (.slice (some ⟨w.heap.size, 0, none⟩) m m) m ((meanM fs m ds).map I) ∧ Below w.heap.size w w' := by
  have H1 : Hid (TripAt w a m fs) := h1
  have H2 : Hid (DescAt w da dn ds) := h2
  have hm := h1.2.1
  have HL : Hid ((meanM fs m ds).length = m) := meanM_len fs m ds
  clear h1 h2
  obtain ⟨i0, hi, hz0, hz1, hz2⟩ := info_parts infoInt
  go_enter Try.func15, Try.ntmps15
  go_wp2_with (at_make; refine wpList_make_full _ rfl _ _ 34 rfl w.heap.size 3 i0 (.int .i64 0) 1 Try.underlying34 hi hz0 hz1 .i64 .i64 _ _ m rfl rfl rfl rfl (by rw [hz2]; omega) (by unfold maxLen; omega) (Nat.le_refl _) ?_; intro w1 own1 grow1)
  have own0 : Hid (w1.ownsRow w.heap.size 3 1 (.slice (some ⟨w.heap.size, 0, none⟩) m m) m ((upto (meanM fs m ds) 0 m).map I)) := by
    show World.ownsRow _ _ _ _ _ _ _
    have e : (madeCells (Value.int .i64 0).cells (m * 1)).toList = (upto (meanM fs m ds) 0 m).map I := by
      rw [Nat.mul_one]
      exact (toList_madeCells_one _ _).trans (by simp [upto])
    rwa [e] at own1
  have hb1 : Below w.heap.size w w1 := (Below.refl _ _).grown grow1 (Nat.le_refl _) (fun k e => by cases e)
  clear own1 grow1
  go_loopw [12] (fun i wr => ∃ k : Nat, k ≤ m ∧ i = .int .i64 (k : Int) ∧ wr.ownsRow w.heap.size 3 1 (.slice (some ⟨w.heap.size, 0, none⟩) m m) m ((upto (meanM fs m ds) k m).map I) ∧ Below w.heap.size w wr) (fun i _ => m - (intOf i).toNat)
  case atStart => exact ⟨0, Nat.zero_le _, rfl, own0.out, hb1⟩
  case round =>
    obtain ⟨k, hk, rfl, ho, hb⟩ := hrel
    have HO : Hid (wr.ownsRow w.heap.size 3 1 (.slice (some ⟨w.heap.size, 0, none⟩) m m) m ((upto (meanM fs m ds) k m).map I)) := ho
    clear own0 hb1 ho
    by_cases hlt : k < m
    · have hk0 : (0 : Int) ≤ (k : Int) := by omega
      have hk1 : (k : Int) < (m : Int) := by omega
      go_wp2_with fail
      refine (implValueAt_any a m c fs da dn dc ds k _ (H1.out.below hb (Nat.le_refl _)) (H2.out.below hb (Nat.le_refl _))).mono ?_
      rintro e w2 ⟨rfl, hb2⟩
      have ho2 := owns_below HO.out hb2 (Nat.le_refl _)
      have hb02 : Below w.heap.size w w2 := hb.trans (hb2.mono hb.size)
      obtain ⟨x, hx⟩ : ∃ x, valM fs m ds (k : Int) = x := ⟨_, rfl⟩
      have hs1 := ho2.stored k (I x)
      rw [← hx, ← meanM_at fs m ds hlt, upto_step HL.out hlt, meanM_at fs m ds hlt, hx] at hs1
      have HS : Hid ((w2.setCell ⟨w.heap.size, k, none⟩ (I x)).ownsRow w.heap.size 3 1 (.slice (some ⟨w.heap.size, 0, none⟩) m m) m ((upto (meanM fs m ds) (k + 1) m).map I)) := hs1.1
      rw [hx]
      have z0 := ho2.frozenAt k
      obtain ⟨u0, hu0⟩ := own_cell ho2 hlt
      clear hs1 ho2 hb2 hx
      go_wp2
      go_roundw
      case rel => exact ⟨k + 1, by omega, by go_num, HS.out, hb02.setCell (Nat.le_refl _) _⟩
      case measure => simp [intOf]; omega
    · obtain rfl : k = m := by omega
      have HE : Hid (wr.ownsRow w.heap.size 3 1 (.slice (some ⟨w.heap.size, 0, none⟩) k k) k ((meanM fs k ds).map I)) := by
        show World.ownsRow _ _ _ _ _ _ _
        have h := HO.out
        rw [show upto (meanM fs k ds) k k = meanM fs k ds by unfold upto; rw [List.take_of_length_le (by rw [meanM_len]; exact Nat.le_refl _)]; simp] at h
        exact h
      go_wp2
      go_ret
      exact ⟨rfl, HE.out, hb⟩
end Go.Proofs.Ytenlapppaimkkaq
