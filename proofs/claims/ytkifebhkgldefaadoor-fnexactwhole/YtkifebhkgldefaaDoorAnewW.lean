/- impl.rowsAnew: Rows that are copied, with memory of their own. -/
import Derived.Test.YtkifebhkgldefaaDoorCloneI
import Derived.Deep.RegionHeld3
namespace Go.Proofs.YtkifebhkgldefaaDoor
open Go.ChangeShapes Go.WideShapes Go.ChangeAt Go.RowKit Go.Joins

set_option maxHeartbeats 2000000 in
set_option maxRecDepth 100000 in
theorem rowsAnew_o (st : Int) (a : Option Addr) (n c : Nat) (rs : List Int) (w : World) (h : IntAt w a n rs) (ha : a = none → c = 0) :
    Calls Tryd.prog 26 #[.agg #[.slice a n c, .int .i64 st]] w fun e w' => ∃ v, e = .returned (.agg #[v, .int .i64 st]) ∧ w'.ownsRow w.heap.size 3 1 v n (rs.map I) ∧ Below w.heap.size w w' := by
  obtain ⟨W, hW⟩ : ∃ W, ((w.alloc (.cells #[.slice a n c, .int .i64 st] 24)).alloc (.cells #[.slice none 0 0, .int .i64 0] 24)) = W := ⟨_, rfl⟩
  have hb0 : Below w.heap.size w W := by rw [← hW]; exact ((Below.refl _ w).alloc (Nat.le_refl _) _).alloc (by simp) _
  have hsz : w.heap.size + 1 < W.heap.size := by rw [← hW]; simp
  have X0 : Hid (Box W w.heap.size #[.slice a n c, .int .i64 st] 24) := by rw [← hW]; exact (box_of w _ _).alloc _
  have R0 : Hid (Box W (w.heap.size + 1) #[.slice none 0 0, .int .i64 0] 24) := by
    have := box_of (w.alloc (.cells #[.slice a n c, .int .i64 st] 24)) #[.slice none 0 0, .int .i64 0] 24
    rw [hW] at this
    show Box _ _ _ _
    simpa using this
  have HA : Hid (IntAt W a n rs) := h.below hb0 (Nat.le_refl _)
  have HB0 : Hid (Below w.heap.size w W) := hb0
  have HW : Hid (((w.alloc (.cells #[.slice a n c, .int .i64 st] 24)).alloc (.cells #[.slice none 0 0, .int .i64 0] 24)) = W) := hW
  have HAN : Hid (a = none → c = 0) := ha
  obtain ⟨k0, k1, _, _⟩ := X0.out.two
  have K0 : Hid (W.drew.cell? ⟨w.heap.size, 0, none⟩ = some (.slice a n c) ∧ W.drew.cell? ⟨w.heap.size, 1, none⟩ = some (.int .i64 st)) := ⟨k0, k1⟩
  clear h ha hW hb0 k0 k1
  go_enter Tryd.func26, Tryd.ntmps26
  go_wp2_with fail
  rw [HW.out]
  go_region_held3 (fun w' => w'.cell? ⟨w.heap.size, 0, none⟩ = some (.slice a n c) ∧ w'.cell? ⟨w.heap.size, 1, none⟩ = some (.int .i64 st))
    (first | (with_reducible exact K2.out) | (with_reducible exact K1.out) | (with_reducible exact K0.out) | go_keep)
    (first
    | (go_at_call 41
       refine (cloneI_o a n c rs _ (HA.out.below (Below.refl W.heap.size W).drew (Nat.le_refl _)) HAN.out).mono ?_
       rintro e w1 ⟨v, rfl, own1, hb1⟩
       have hb1' : Below W.heap.size W w1 := (Below.refl W.heap.size W).drew.trans hb1
       obtain ⟨va, vc, rfl, _⟩ := owns_slice own1
       have OW : Hid (w1.ownsRow W.heap.size 3 1 (.slice va n vc) n (rs.map I)) := own1
       have HB1 : Hid (Below W.heap.size W w1) := hb1'
       have R1 : Hid (Box w1 (w.heap.size + 1) #[.slice none 0 0, .int .i64 0] 24) := R0.out.below hb1' hsz
       obtain ⟨r0, r1, z0, z1⟩ := R1.out.two
       obtain ⟨k0, k1, _, _⟩ := (X0.out.below hb1' X0.out.lt).two
       have K1 : Hid (w1.cell? ⟨w.heap.size, 0, none⟩ = some (.slice a n c) ∧ w1.cell? ⟨w.heap.size, 1, none⟩ = some (.int .i64 st)) := ⟨k0, k1⟩
       have K2 : Hid (((w1.setCell ⟨w.heap.size + 1, 0, none⟩ (.slice va n vc)).setCell ⟨w.heap.size + 1, 1, none⟩ (.int .i64 st)).cell? ⟨w.heap.size, 0, none⟩ = some (.slice a n c) ∧ ((w1.setCell ⟨w.heap.size + 1, 0, none⟩ (.slice va n vc)).setCell ⟨w.heap.size + 1, 1, none⟩ (.int .i64 st)).cell? ⟨w.heap.size, 1, none⟩ = some (.int .i64 st)) := by
         have := (((X0.out.below hb1' X0.out.lt).set (q := ⟨w.heap.size + 1, 0, none⟩) (show w.heap.size ≠ w.heap.size + 1 by omega) (.slice va n vc)).set (q := ⟨w.heap.size + 1, 1, none⟩) (show w.heap.size ≠ w.heap.size + 1 by omega) (.int .i64 st)).two
         exact ⟨this.1, this.2.1⟩
       clear own1 hb1 hb1' k0 k1))
  obtain ⟨e0, e1, _, _⟩ := ((R1.out.put 0 (.slice va n vc)).put 1 (.int .i64 st)).two
  go_wp2
  (try simp only [Exit.inBlock, Exit.then])
  refine bodyPost_ret (by simp [results, Tryd.results26, go_sem, e0, e1]; try rfl) rfl ?_
  have hwb : (Value.slice va n vc).ownBlock ≠ some (w.heap.size + 1) := fun e => by have := (OW.out.lt _ e).1; omega
  exact ⟨.slice va n vc, rfl, own_setCell_far (own_setCell_far (own_weaken OW.out HB0.out.size) hwb _) hwb _, ((HB0.out.trans (HB1.out.mono HB0.out.size)).setCell (by simp) _).setCell (by simp) _⟩
end Go.Proofs.YtkifebhkgldefaaDoor
