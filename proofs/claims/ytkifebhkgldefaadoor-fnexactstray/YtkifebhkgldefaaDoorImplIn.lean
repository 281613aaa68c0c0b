/- impl.RowsIn, walked at any list. -/
import Derived.Test.YtkifebhkgldefaaDoorSpecIn
import Derived.Test.YtkifebhkgldefaaDoorAnewW
import Derived.Deep.Cut
import Derived.Deep.RegionHeld3
namespace Go.Proofs.YtkifebhkgldefaaDoor
open Go.ChangeShapes Go.WideShapes Go.ChangeAt Go.RowKit Go.Joins

set_option maxHeartbeats 2000000 in
set_option maxRecDepth 100000 in
theorem implRowsIn_any (a : Option Addr) (n c : Nat) (ws : List Int) (w : World) (hA : IntAt w a n ws) (hc : n ≤ c) (hN : Names w) :
    Calls Tryd.prog 10 #[.slice a n c] w fun e w' => RowsSay e w w' ws ∧ Below w.heap.size w w' := by
  by_cases hn : n = 20
  case neg =>
    have hl : ¬ ws.length = 20 := by rw [hA.1]; exact hn
    have HX : Hid (inX ws = [] ∧ inS ws = 0) := ⟨inX_no hl, inS_no hl⟩
    have hd : ((n : Int) != 20) = true := by simp; omega
    have HB : Hid (Below w.heap.size w (w.alloc (.cells #[.slice none 0 0, .int .i64 0] 24))) := (Below.refl _ w).alloc (Nat.le_refl _) _
    have hnn := hA.2.1
    clear hA hl hn
    go_enter Tryd.func10, Tryd.ntmps10
    go_wp2
    (try simp only [Exit.inBlock, Exit.then])
    refine bodyPost_ret (by simp [results, Tryd.results10, go_sem]; try rfl) rfl ?_
    exact ⟨rowsSay_of HX.out.1 HX.out.2 rfl rfl (World.ownsRow_nil _ _ _ _), by first | exact HB.out | exact (HB.out.setCell (by simp) _).setCell (by simp) _⟩
  subst hn
  have hl : ws.length = 20 := hA.1
  obtain ⟨hl0, hn0, h0 | ⟨p, o, rfl, hcell⟩⟩ := hA
  · omega
  have HX : Hid (inX ws = ws.take 4 ∧ inS ws = ws.getD 13 0) := ⟨inX_yes hl, inS_yes hl⟩
  obtain ⟨st, hst⟩ : ∃ st, ws.getD 13 0 = st := ⟨_, rfl⟩
  rw [hst] at HX
  have h4 : ∀ i, i < 4 → w.cell? ⟨p, o + i, none⟩ = some (I ((ws.take 4).getD i 0)) := fun i hi => by
    rw [hcell i (by omega)]
    have : (ws.take 4).getD i 0 = ws.getD i 0 := by simp [List.getD, hi]
    rw [this]
  have H4 : Hid (IntAt w (some ⟨p, o, none⟩) 4 (ws.take 4)) := ⟨by simp; omega, by omega, .inr ⟨p, o, rfl, h4⟩⟩
  have c13 := hcell 13 (by omega)
  rw [hst] at c13
  obtain ⟨o13, ho13⟩ : ∃ o13, o + 13 = o13 := ⟨_, rfl⟩
  rw [ho13] at c13
  have plt : p < w.heap.size := World.block_lt_of_cell? w _ c13
  have H20 : Hid (20 ≤ c) := hc
  obtain ⟨m, hm⟩ : ∃ m, 4 = m := ⟨_, rfl⟩
  have hsl : ∀ w : World, (Instr.slice 22 (.slice (some ⟨p, o, none⟩) 20 c) none (some (.int .i64 4)) none).run Tryd.prog w = .ok (.slice (some ⟨p, o, none⟩) m c) w := fun w => by
    rw [run_slice_h w 22 (some ⟨p, o, none⟩) 20 c Tryd.underlying22 .i64 4 (by omega) (by omega), show Tryd.prog.elem 22 = 3 from rfl, Tryd.sizeOf3 w, ← hm]
    simp [Result.andThen, sliced, Addr.add]
  obtain ⟨xs, hxs⟩ : ∃ xs, ws.take 4 = xs := ⟨_, rfl⟩
  rw [hxs] at H4 HX
  rw [hm] at H4
  have hl4 : Hid (xs.length = m) := H4.out.1
  have HN : Hid (Names w) := hN
  clear hcell hl hl0 h4 hst hc hm hxs hN
  obtain ⟨W, hW⟩ : ∃ W, w.alloc (.cells #[.slice none 0 0, .int .i64 0] 24) = W := ⟨_, rfl⟩
  have HB0 : Hid (Below w.heap.size w W) := by rw [← hW]; exact (Below.refl _ w).alloc (Nat.le_refl _) _
  have R0 : Hid (Box W w.heap.size #[.slice none 0 0, .int .i64 0] 24) := by rw [← hW]; exact box_of w _ _
  have hsz : w.heap.size < W.heap.size := R0.out.lt
  have HW : Hid (w.alloc (.cells #[.slice none 0 0, .int .i64 0] 24) = W) := hW
  have k0 : W.drew.cell? ⟨p, o13, none⟩ = some (I st) := (HB0.out.drew.cell plt).trans c13
  have K0 : Hid (W.drew.cell? ⟨p, o13, none⟩ = some (I st)) := k0
  have HC : Hid (w.cell? ⟨p, o13, none⟩ = some (I st)) := c13
  clear hW k0 c13
  go_enter Tryd.func10, Tryd.ntmps10
  go_upto_region 3 with (fail)
  rw [HW.out]
  go_region_held3 (fun w' => w'.cell? ⟨p, o13, none⟩ = some (I st))
    (first | (with_reducible exact K3.out) | (with_reducible exact K2.out) | (with_reducible exact K1.out) | (with_reducible exact K0.out) | go_keep)
    (first
    | (go_at_call 27
       refine (implStateAt_any _ (HN.out.below HB0.out.drew HN.out.lt)).mono ?_
       rintro e w1 ⟨rfl, hb1⟩
       have hb1' : Below W.heap.size W w1 := (Below.refl W.heap.size W).drew.trans hb1
       have HB1 : Hid (Below w.heap.size w w1) := HB0.out.trans (hb1'.mono HB0.out.size)
       have R1 : Hid (Box w1 w.heap.size #[.slice none 0 0, .int .i64 0] 24) := R0.out.below hb1' hsz
       have hs1 : W.heap.size ≤ w1.heap.size := hb1'.size
       have K1 : Hid (w1.cell? ⟨p, o13, none⟩ = some (I st)) := (HB1.out.cell plt).trans HC.out
       clear hb1 hb1')
    | (go_at_call 26
       refine (rowsAnew_o st (some ⟨p, o, none⟩) m c xs _ (H4.out.below HB1.out (Nat.le_refl _)) (fun h => by cases h)).mono ?_
       rintro e w2 ⟨v, rfl, own2, hb2⟩
       obtain ⟨va, vc, rfl, _⟩ := owns_slice own2
       have OW : Hid (w2.ownsRow w1.heap.size 3 1 (.slice va m vc) m (xs.map I)) := own2
       have HB2 : Hid (Below w.heap.size w w2) := HB1.out.trans (hb2.mono HB1.out.size)
       have R2 : Hid (Box w2 w.heap.size #[.slice none 0 0, .int .i64 0] 24) := R1.out.below hb2 (by omega)
       have K2 : Hid (w2.cell? ⟨p, o13, none⟩ = some (I st)) := (HB2.out.cell plt).trans HC.out
       have K3 : Hid (((w2.setCell ⟨w.heap.size, 0, none⟩ (.slice va m vc)).setCell ⟨w.heap.size, 1, none⟩ (.int .i64 st)).cell? ⟨p, o13, none⟩ = some (I st)) := (((HB2.out.setCell (show w.heap.size ≤ w.heap.size from Nat.le_refl _) _).setCell (show w.heap.size ≤ w.heap.size from Nat.le_refl _) _).cell plt).trans HC.out
       obtain ⟨r0, r1, z0, z1⟩ := R2.out.two
       clear own2 hb2))
  obtain ⟨e0, e1, _, _⟩ := ((R2.out.put 0 (.slice va m vc)).put 1 (.int .i64 st)).two
  go_wp2
  (try simp only [Exit.inBlock, Exit.then])
  refine bodyPost_ret (by simp [results, Tryd.results10, go_sem, e0, e1]; try rfl) rfl ?_
  have hwb : (Value.slice va m vc).ownBlock ≠ some w.heap.size := fun e => by have := (OW.out.lt _ e).1; omega
  exact ⟨rowsSay_of HX.out.1 HX.out.2 hl4.out.symm rfl (own_setCell_far (own_setCell_far (own_weaken OW.out (by omega)) hwb _) hwb _), (HB2.out.setCell (by simp) _).setCell (by simp) _⟩
end Go.Proofs.YtkifebhkgldefaaDoor
