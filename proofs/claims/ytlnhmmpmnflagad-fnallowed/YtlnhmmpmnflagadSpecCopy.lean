/- spec.l3Copy, walked. -/
import Derived.Test.YtlnhmmpmnflagadClone
namespace Go.Proofs.Ytlnhmmpmnflagad
open Go.ChangeShapes Go.WideShapes Go.ChangeAt Go.RowKit

set_option maxHeartbeats 1000000 in
theorem l3Copy_any (p o n cp : Nat) (st : Int) (xs : List Int) (w : World) (hA : IntAt w (some ⟨p, o, none⟩) n xs) :
    Calls Try.prog 27 #[.agg #[.slice (some ⟨p, o, none⟩) n cp, .int .i64 st]] w fun e w' => ∃ (a' : Option Addr) (c' : Nat), e = .returned (.agg #[.slice a' n c', .int .i64 st]) ∧ w'.ownsRow (w.heap.size + 1 + 1) 3 1 (.slice a' n c') n (xs.map I) ∧ Below w.heap.size w w' := by
  obtain ⟨i0, hi, hz0, hz1, hz2⟩ := info_parts infoInt
  have HA : Hid (IntAt w (some ⟨p, o, none⟩) n xs) := hA
  have HL : Hid (xs.length = n) := hA.1
  have hn := hA.2.1
  clear hA
  go_enter Try.func27, Try.ntmps27
  go_wp2_with fail
  have HB0 : Hid (Below w.heap.size w ((w.alloc (.cells #[.slice (some ⟨p, o, none⟩) n cp, .int .i64 st] 26)).alloc (.cells #[.slice none 0 0, .int .i64 0] 26))) := ((Below.refl _ w).alloc (Nat.le_refl _) _).alloc (by simp) _
  have HG := (HA.out.below HB0.out (Nat.le_refl _)).cells
  have HG1 : Hid _ := HG
  clear HG
  go_region_law
    (refine step_append_own _ (by rfl) _ _ 24 (by rfl) (w.heap.size + 1 + 1) 3 i0 (.int .i64 0) 1 8 Try.underlying24 hi hz0 hz1 hz2 (by rfl) (by decide) (.slice (some ⟨w.heap.size + 1 + 1, 0, none⟩) 0 0) 0 [] (by rfl) (own_empty_drew (by simp) (by omega)) ⟨p, o, none⟩ n cp (xs.map I) (by rfl) (news_len HL.out) (news_at_drew HL.out HG1.out) news_one (by unfold maxLen; omega) (by omega) (by simp) ?_
     intro v' w' hown hgrow _
     have hown2 : w'.ownsRow (w.heap.size + 1 + 1) 3 1 v' n (xs.map I) := by simpa using hown
     obtain ⟨a', c', rfl, hat⟩ := own_at hown2 hn
     have HOWN : Hid (w'.ownsRow (w.heap.size + 1 + 1) 3 1 (.slice a' n c') n (xs.map I)) := hown2
     clear hown hown2 hat
     have hbx := below_appended_drew (Below.refl (w.heap.size + 1 + 1) _) (by simp) (by simp) hgrow
     have r1 : w'.cell? ⟨w.heap.size, 1, none⟩ = some (.int .i64 st) := (hbx.cell (show w.heap.size < w.heap.size + 1 + 1 by omega)).trans (by simp [World.cell?_alloc_past, World.cell?_alloc_at])
     have r2 : w'.cell? ⟨w.heap.size + 1, 0, none⟩ = some (.slice none 0 0) := (hbx.cell (show w.heap.size + 1 < w.heap.size + 1 + 1 by omega)).trans (by simp [World.cell?_alloc_at])
     have r3 : w'.cell? ⟨w.heap.size + 1, 1, none⟩ = some (.int .i64 0) := (hbx.cell (show w.heap.size + 1 < w.heap.size + 1 + 1 by omega)).trans (by simp [World.cell?_alloc_at])
     have r4 : w'.frozen? ⟨w.heap.size + 1, 0, none⟩ = false := (hbx.frozen (show w.heap.size + 1 < w.heap.size + 1 + 1 by omega)).trans (by simp [World.frozen?_alloc_at])
     have r5 : w'.frozen? ⟨w.heap.size + 1, 1, none⟩ = false := (hbx.frozen (show w.heap.size + 1 < w.heap.size + 1 + 1 by omega)).trans (by simp [World.frozen?_alloc_at]))
  all_goals
    have HBX : Hid (Below w.heap.size w w') := HB0.out.trans (hbx.mono (by omega))
    clear hbx hgrow
    go_wp2
    (try simp only [Exit.inBlock, Exit.then])
    refine bodyPost_ret (by simp [results, Try.results27, go_sem, r2, r3]; try rfl) rfl ?_
    exact ⟨a', c', rfl, ownsRow_setCell_below (ownsRow_setCell_below HOWN.out (by simp) _) (by simp) _, (HBX.out.setCell (by simp) _).setCell (by simp) _⟩
end Go.Proofs.Ytlnhmmpmnflagad
