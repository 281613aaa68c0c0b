/- Texts joined: SpecNew, OpenRows, MarkN, MarkI, MarkO, HeldO, MarkM, Laid. -/
import Derived.Test.YtbdfopokimpeiaqDoorNW04
import Derived.Test.YtbdfopokimpeiaqDoorRows
import Derived.Test.YtbdfopokimpeiaqDoorNW01
import Derived.Test.YtbdfopokimpeiaqDoorNW02
import Derived.WalkKit
import Derived.ProofKit
import Derived.OpenShut
import Derived.ChangeOld
import Derived.Lib.SmallJoins
import Derived.Handy
import Derived.Test.YtbdfopokimpeiaqDoorNW03
import Derived.ChangeVars
import Derived.ChangeReads
import Derived.Lib.LaidTab
import Derived.Lib.LaidU8
import Derived.LaidMore
import Derived.MakeChecks
/- spec.MemNew, walked. -/
namespace Go.Proofs.YtbdfopokimpeiaqDoor
open Go.ChangeShapes Go.WideShapes Go.ChangeAt Go.RowKit

theorem keep_put {w : World} {p o bm j : Nat} {u : Value} (h : w.cell? ⟨p, o, none⟩ = some u) (hne : p ≠ bm) (v : Value) : (w.setCell ⟨bm, j, none⟩ v).cell? ⟨p, o, none⟩ = some u := by
  rw [World.cell?_of_block (Below.heap_setCell _ _ _ _ hne)]
  exact h
theorem keep_alloc {w : World} {q : Addr} {u : Value} (h : w.cell? q = some u) (o : Obj) : (w.alloc o).drew.cell? q = some u := by
  show (w.alloc o).cell? q = some u
  rw [World.cell?_of_block (Below.heap_alloc _ _ _ (World.block_lt_of_cell? w _ h))]
  exact h
theorem new_next {w3 wr w4 : World} {bm k : Nat} {d v : Value} {L : List Int} {x : Int} {a' : Option Addr} {c' : Nat} (ST : NewSt w3 bm w3.heap.size d L k wr) (HO : wr.ownsRow w3.heap.size 42 3 v k ((wordsF L k).map I)) (X4 : Box w4 bm #[v, d] 29)
    (hown4 : w4.ownsRow w3.heap.size 42 3 (.slice a' (k + 1) c') (k + 1) ((wordsF L k).map I ++ [I x, I 0, I 0])) (hg4 : wr.grownBy w4 v.ownBlock) (HX : L.getD k 0 = x) (hb : bm < w3.heap.size) : NewSt w3 bm w3.heap.size d L (k + 1) (w4.setCell ⟨bm, 0, none⟩ (.slice a' (k + 1) c')) := by
  refine ⟨⟨.slice a' (k + 1) c', X4.put 0 (.slice a' (k + 1) c'), ?_⟩, far_put (far_row ST.far hg4 (fun g e => (HO.lt g e).1)) 0 _⟩
  refine own_setCell_far ?_ (fun e => ?_) _
  · have e2 : ((wordsF L (k + 1)).map I) = (wordsF L k).map I ++ [I x, I 0, I 0] := by
      unfold wordsF
      rw [flat3_succ, List.map_append, HX]
      rfl
    rw [e2]
    exact hown4
  · have h1 := (hown4.lt bm e).1
    omega
theorem below_far {w w3 wr : World} {B bm : Nat} (h : Below B w w3) (hf : w3.grownBy wr (some bm)) (hb : B ≤ bm) (hs : B ≤ w3.heap.size) : Below B w wr :=
  h.trans ⟨hf.os, hf.tape, hf.output, hf.size, fun q hq => hf.block q (Nat.lt_of_lt_of_le hq hs) (fun e => by
    have h2 : q = bm := by simpa using e
    omega)⟩
/-- The operations of the region that lays a word. -/
noncomputable def newL : List Oper := match Tryd.f5.body with
  | some (.seq _ (.seq _ (.seq _ (.seq (.seq _ (.block _ (.loop (.seq _ (.seq (.block _ (.region _ ops _)) _))))) _)))) => ops.toList
  | _ => []
set_option maxHeartbeats 8000000 in
set_option maxRecDepth 100000 in
theorem specMemNew_any (a : Option Addr) (n c : Nat) (st t : Int) (xs L : List Int) (w : World) (hA : IntAt w a n xs) (hL : TellsL xs st L) :
    Calls Tryd.prog 5 #[RowsV a n c st, .int .i64 t] w fun e w' => (∃ wa wc da dc m fs nn ds ok, e = .returned (.tuple #[MemV wa m wc da nn dc, .bool ok]) ∧ NewSays L t m fs nn ds ok ∧ TripAt w' wa m fs ∧ DescAt w' da nn ds) ∧ Below w.heap.size w w' := by
  obtain ⟨W, hW⟩ : ∃ W, (((w.alloc (.cells #[.slice a n c, .int .i64 st] 32)).alloc (.cells #[.slice none 0 0, .slice none 0 0] 29)).alloc (.cells #[.slice none 0 0, .slice none 0 0] 29)) = W := ⟨_, rfl⟩
  have hb0 : Below w.heap.size w W := by rw [← hW]; exact (((Below.refl _ w).alloc (Nat.le_refl _) _).alloc (by simp) _).alloc (by simp; omega) _
  have hsz : W.heap.size = w.heap.size + 3 := by rw [← hW]; simp
  have R0 : Hid (Box W (w.heap.size + 1) #[.slice none 0 0, .slice none 0 0] 29) := by
    have := (box_of (w.alloc (.cells #[.slice a n c, .int .i64 st] 32)) #[.slice none 0 0, .slice none 0 0] 29).alloc (.cells #[.slice none 0 0, .slice none 0 0] 29)
    rw [hW] at this
    show Box _ _ _ _
    simpa using this
  have M0 : Hid (Box W (w.heap.size + 2) #[.slice none 0 0, .slice none 0 0] 29) := by
    have := box_of ((w.alloc (.cells #[.slice a n c, .int .i64 st] 32)).alloc (.cells #[.slice none 0 0, .slice none 0 0] 29)) #[.slice none 0 0, .slice none 0 0] 29
    rw [hW] at this
    show Box _ _ _ _
    simpa using this
  have HA : Hid (IntAt W a n xs) := hA.below hb0 (Nat.le_refl _)
  have HL : Hid (TellsL xs st L) := hL
  have HB0 : Hid (Below w.heap.size w W) := hb0
  have HW : Hid ((((w.alloc (.cells #[.slice a n c, .int .i64 st] 32)).alloc (.cells #[.slice none 0 0, .slice none 0 0] 29)).alloc (.cells #[.slice none 0 0, .slice none 0 0] 29)) = W) := hW
  clear hA hL hW hb0
  obtain ⟨i0, hin, hz0, hz1, hz2⟩ := info_parts infoDesc
  obtain ⟨j0, hjn, hy0, hy1, hy2⟩ := info_parts infoWord
  go_enter Tryd.func5, Tryd.ntmps5
  go_wp2_with fail
  rw [HW.out]
  refine (specWordsT a n c st xs L _ HA.out HL.out).mono ?_
  rintro e w3 ⟨⟨la, ln, lc, rfl, hla⟩, hb3⟩
  obtain ⟨bm, hbm⟩ : ∃ bm, w.heap.size + 2 = bm := ⟨_, rfl⟩
  have hbw : w.heap.size + 1 < bm := by omega
  (try rw [show w.heap.size + 1 + 1 = bm from hbm])
  (try rw [hbm])
  rw [hbm] at M0
  have HBM : Hid (w.heap.size + 2 = bm) := hbm
  clear hbm
  have HLA : Hid (IntAt w3 la ln L) := hla
  have hln : L.length = ln := hla.1
  have hl20 : ln ≤ 20 := by rw [← hln]; exact HL.out.len
  have M3 : Hid (Box w3 bm #[.slice none 0 0, .slice none 0 0] 29) := M0.out.below hb3 M0.out.lt
  have HB3 : Hid (Below W.heap.size W w3) := hb3
  have APT : Hid (∀ p, la = some p → 0 < ln → p.block ≠ bm) := fun p hp hpos => by
    subst hp
    obtain ⟨pb, po, pm⟩ := p
    rcases hla.2.2 with h0 | ⟨p', o', he, _⟩
    · omega
    · cases he
      exact int_apart hla hpos M3.out (nil_not_int (fun x h => by cases h) (fun x h => by cases h))
  clear hla hb3
  go_wp2
  go_loopw [8] (fun i wr => ∃ k : Nat, k ≤ ln ∧ i = .int .i64 (k : Int) ∧ NewSt w3 bm w3.heap.size (.slice none 0 0) L k wr) (fun i _ => ln - (intOf i).toNat)
  case atStart => exact ⟨0, Nat.zero_le _, rfl, ⟨_, M3.out, World.ownsRow_nil _ _ _ _⟩, far_below (Below.refl _ _) _⟩
  case round =>
    obtain ⟨k, hk, rfl, hst⟩ := hrel
    have ST : Hid (NewSt w3 bm w3.heap.size (.slice none 0 0) L k wr) := hst
    obtain ⟨v, hbx, hown⟩ := hst.box
    have hbx' : Hid (Box wr bm #[v, .slice none 0 0] 29) := hbx
    have HO : Hid (wr.ownsRow w3.heap.size 42 3 v k ((wordsF L k).map I)) := hown
    obtain ⟨c0, c1, z0, z1⟩ := hbx.two
    have hbl := hbx.lt
    clear hst hbx hown
    by_cases hlt : k < ln
    · have hk0 : (0 : Int) ≤ (k : Int) := by omega
      have hk1 : (k : Int) < (ln : Int) := by omega
      rcases (int_grown HLA.out ST.out.far APT.out).2.2 with h0 | ⟨p1, o1, rfl, g1⟩
      · omega
      have e1 := g1 k hlt
      have hpl : p1 < wr.heap.size := World.block_lt_of_cell? wr _ e1
      obtain ⟨x, hx⟩ : ∃ x, L.getD k 0 = x := ⟨_, rfl⟩
      have HX : Hid (L.getD k 0 = x) := hx
      rw [hx] at e1
      clear g1 hx
      have hvb : v.ownBlock ≠ some bm := fun e => by have := (HO.out.lt bm e).1; have := M3.out.lt; omega
      have hpm : p1 ≠ bm := APT.out _ rfl (by omega)
      have hp3 : p1 < w3.heap.size := by
        rcases HLA.out.2.2 with h0 | ⟨p', o', he, g⟩
        · omega
        · cases he
          exact World.block_lt_of_cell? w3 _ (g 0 (by omega))
      have hvp : v.ownBlock ≠ some p1 := fun e => by have := (HO.out.lt p1 e).1; omega
      go_wp2_with fail
      change (Code.region _ (List.toArray newL) true).wp _ _ _ _
      refine wp_region_held_drew (S := fun w' => w'.cell? ⟨p1, o1 + k, none⟩ = some (I x)) (by kernel_rfl) ?_ (fun hHeld => ?_)
      · exact e1
      refine wpAnyH_take (i := 0) (oi := _) (v := .pointer (some ⟨bm, 0, none⟩)) (by rw [List.getElem?_toArray]; exact rfl) (by kernel_rfl) (by kernel_rfl) (by kernel_rfl) (by intro _ _ _ h; exact h) (Or.inl ⟨by kernel_rfl, ?_⟩) hHeld ?_
      · intro w hSw; go_simp
      simp only [Act.put, List.setIfInBounds_toArray, List.set_cons_zero, List.set_cons_succ]
      refine wpAnyH_take (i := 2) (oi := _) (v := .slice (some ⟨p1, o1, none⟩) ln lc) (by rw [List.getElem?_toArray]; exact rfl) (by kernel_rfl) (by kernel_rfl) (by kernel_rfl) (by intro _ _ _ h; exact h) (Or.inl ⟨by kernel_rfl, ?_⟩) hHeld ?_
      · intro w hSw; go_simp
      simp only [Act.put, List.setIfInBounds_toArray, List.set_cons_zero, List.set_cons_succ]
      refine wpAnyH_take (i := 3) (oi := _) (v := .int .i64 (k : Int)) (by rw [List.getElem?_toArray]; exact rfl) (by kernel_rfl) (by kernel_rfl) (by kernel_rfl) (by intro _ _ _ h; exact h) (Or.inl ⟨by kernel_rfl, ?_⟩) hHeld ?_
      · intro w hSw; go_simp
      simp only [Act.put, List.setIfInBounds_toArray, List.set_cons_zero, List.set_cons_succ]
      refine wpAnyH_take (i := 4) (oi := _) (v := .pointer (some ⟨p1, o1 + k, none⟩)) (by rw [List.getElem?_toArray]; exact rfl) (by kernel_rfl) (by kernel_rfl) (by kernel_rfl) (by intro _ _ _ h; exact h) (Or.inl ⟨by kernel_rfl, ?_⟩) hHeld ?_
      · intro w hSw; go_simp
      simp only [Act.put, List.setIfInBounds_toArray, List.set_cons_zero, List.set_cons_succ]
      refine wpAnyH_take (i := 5) (oi := _) (v := I x) (by rw [List.getElem?_toArray]; exact rfl) (by kernel_rfl) (by kernel_rfl) (by kernel_rfl) (by intro _ _ _ h; exact h) (Or.inl ⟨by kernel_rfl, ?_⟩) hHeld ?_
      · intro w hSw; go_simp
      simp only [Act.put, List.setIfInBounds_toArray, List.set_cons_zero, List.set_cons_succ]
      refine wpAnyH_take (i := 6) (oi := _) (v := WordV x 0 0) (by rw [List.getElem?_toArray]; exact rfl) (by kernel_rfl) (by kernel_rfl) (by kernel_rfl) (by intro _ _ _ h; exact h) (Or.inl ⟨by kernel_rfl, ?_⟩) hHeld ?_
      · intro w hSw; go_simp
      simp only [Act.put, List.setIfInBounds_toArray, List.set_cons_zero, List.set_cons_succ]
      refine wpAnyH_ready (rs := [1, 7]) (by kernel_rfl) (by simp) ?_
      refine AllReadyH.cons (o := _) (by rw [List.getElem?_toArray]; exact rfl) (fun K hK => ?_) (AllReadyH.cons (o := _) (by rw [List.getElem?_toArray]; exact rfl) (fun K hK => ?_) AllReadyH.nil)
      · rw [if_pos (by kernel_rfl)]
        go_simp
        refine hK.out _ _ e1 (fun hHeld => ?_)
        clear hK K
        (try simp only [Act.put, List.setIfInBounds_toArray, List.set_cons_zero, List.set_cons_succ])
        refine wpAnyH_ready (rs := [7]) (by kernel_rfl) (by simp) ?_
        refine AllReadyH.cons (o := _) (by rw [List.getElem?_toArray]; exact rfl) (fun K hK => ?_) AllReadyH.nil
        rw [if_pos (by kernel_rfl)]
        go_simp
        refine hK.out _ _ (keep_alloc e1 _) (fun hHeld => ?_)
        clear hK K
        (try simp only [Act.put, List.setIfInBounds_toArray, List.set_cons_zero, List.set_cons_succ])
        refine wpAnyH_ready (rs := [8]) (by kernel_rfl) (by simp) ?_
        refine AllReadyH.cons (o := _) (by rw [List.getElem?_toArray]; exact rfl) (fun K hK => ?_) AllReadyH.nil
        refine step_append_own _ (by rfl) _ _ 26 (by rfl) w3.heap.size 42 j0 (.agg #[.int .i64 0, .int .i64 0, .int .i64 0]) 3 24 Tryd.underlying26 hjn hy0 hy1 hy2 (by rfl) (by decide) v k ((wordsF L k).map I) (by rfl) (HO.out.alloc _) ⟨wr.heap.size, 0, none⟩ 1 1 [I x, I 0, I 0] (by rfl) (by rfl) (cell_three_at wr _ _ _ _) three_one (by unfold maxLen; omega) (by omega) (by have := ST.out.far.size; simp; omega) ?_
        intro v' w4 hown4 hgrow4 _
        obtain ⟨a', c', rfl, _⟩ := owns_slice hown4
        have hg4 : wr.grownBy w4 v.ownBlock := (show wr.grownBy _ v.ownBlock from far_below (((Below.refl _ wr).alloc (Nat.le_refl _) _).drew) v.ownBlock).trans hgrow4
        have e4 : w4.cell? ⟨p1, o1 + k, none⟩ = some (I x) := hg4.cell e1 (fun e => hvp e.symm)
        have X4 : Hid (Box w4 bm #[v, .slice none 0 0] 29) := by
          show w4.heap[bm]? = _
          rw [hg4.block bm hbl (fun e => hvb e.symm)]
          exact hbx'.out
        have HOW : Hid (w4.ownsRow w3.heap.size 42 3 (.slice a' (k + 1) c') (k + 1) ((wordsF L k).map I ++ [I x, I 0, I 0])) := hown4
        have HG4 : Hid (wr.grownBy w4 v.ownBlock) := hg4
        clear hown4 hgrow4 hg4
        refine hK.out _ _ e4 (fun hHeld => ?_)
        clear hK K
        (try simp only [Act.put, List.setIfInBounds_toArray, List.set_cons_zero, List.set_cons_succ])
        refine wpAnyH_take (i := 9) (oi := _) (v := .pointer (some ⟨bm, 0, none⟩)) (by rw [List.getElem?_toArray]; exact rfl) (by kernel_rfl) (by kernel_rfl) (by kernel_rfl) (by intro _ _ _ h; exact h) (Or.inl ⟨by kernel_rfl, ?_⟩) hHeld ?_
        · intro w hSw; go_simp
        simp only [Act.put, List.setIfInBounds_toArray, List.set_cons_zero, List.set_cons_succ]
        obtain ⟨f0, f1, y0, y1⟩ := X4.out.two
        refine wpAnyH_ready (rs := [10]) (by kernel_rfl) (by simp) ?_
        refine AllReadyH.cons (o := _) (by rw [List.getElem?_toArray]; exact rfl) (fun K hK => ?_) AllReadyH.nil
        rw [if_pos (by kernel_rfl)]
        go_simp
        refine hK.out _ _ (keep_put e4 hpm _) (fun hHeld => ?_)
        clear hK K
        (try simp only [Act.put, List.setIfInBounds_toArray, List.set_cons_zero, List.set_cons_succ])
        refine wpAnyH_done (by kernel_rfl) ?_ _
        have NX : Hid (NewSt w3 bm w3.heap.size (.slice none 0 0) L (k + 1) (w4.setCell ⟨bm, 0, none⟩ (.slice a' (k + 1) c'))) := new_next ST.out HO.out X4.out HOW.out HG4.out HX.out M3.out.lt
        clear f0 f1 y0 y1 c0 c1 z0 z1 e1 e4 hHeld
        go_wp2
        exact ⟨⟨k + 1, by omega, by go_num, NX.out⟩, by simp [intOf]; omega⟩
      · rw [if_pos (by kernel_rfl)]
        go_simp
        refine hK.out _ _ (keep_alloc e1 _) (fun hHeld => ?_)
        clear hK K
        (try simp only [Act.put, List.setIfInBounds_toArray, List.set_cons_zero, List.set_cons_succ])
        refine wpAnyH_ready (rs := [1]) (by kernel_rfl) (by simp) ?_
        refine AllReadyH.cons (o := _) (by rw [List.getElem?_toArray]; exact rfl) (fun K hK => ?_) AllReadyH.nil
        rw [if_pos (by kernel_rfl)]
        go_simp
        refine hK.out _ _ (keep_alloc e1 _) (fun hHeld => ?_)
        clear hK K
        (try simp only [Act.put, List.setIfInBounds_toArray, List.set_cons_zero, List.set_cons_succ])
        refine wpAnyH_ready (rs := [8]) (by kernel_rfl) (by simp) ?_
        refine AllReadyH.cons (o := _) (by rw [List.getElem?_toArray]; exact rfl) (fun K hK => ?_) AllReadyH.nil
        refine step_append_own _ (by rfl) _ _ 26 (by rfl) w3.heap.size 42 j0 (.agg #[.int .i64 0, .int .i64 0, .int .i64 0]) 3 24 Tryd.underlying26 hjn hy0 hy1 hy2 (by rfl) (by decide) v k ((wordsF L k).map I) (by rfl) (HO.out.alloc _) ⟨wr.heap.size, 0, none⟩ 1 1 [I x, I 0, I 0] (by rfl) (by rfl) (cell_three_at wr _ _ _ _) three_one (by unfold maxLen; omega) (by omega) (by have := ST.out.far.size; simp; omega) ?_
        intro v' w4 hown4 hgrow4 _
        obtain ⟨a', c', rfl, _⟩ := owns_slice hown4
        have hg4 : wr.grownBy w4 v.ownBlock := (show wr.grownBy _ v.ownBlock from far_below (((Below.refl _ wr).alloc (Nat.le_refl _) _).drew) v.ownBlock).trans hgrow4
        have e4 : w4.cell? ⟨p1, o1 + k, none⟩ = some (I x) := hg4.cell e1 (fun e => hvp e.symm)
        have X4 : Hid (Box w4 bm #[v, .slice none 0 0] 29) := by
          show w4.heap[bm]? = _
          rw [hg4.block bm hbl (fun e => hvb e.symm)]
          exact hbx'.out
        have HOW : Hid (w4.ownsRow w3.heap.size 42 3 (.slice a' (k + 1) c') (k + 1) ((wordsF L k).map I ++ [I x, I 0, I 0])) := hown4
        have HG4 : Hid (wr.grownBy w4 v.ownBlock) := hg4
        clear hown4 hgrow4 hg4
        refine hK.out _ _ e4 (fun hHeld => ?_)
        clear hK K
        (try simp only [Act.put, List.setIfInBounds_toArray, List.set_cons_zero, List.set_cons_succ])
        refine wpAnyH_take (i := 9) (oi := _) (v := .pointer (some ⟨bm, 0, none⟩)) (by rw [List.getElem?_toArray]; exact rfl) (by kernel_rfl) (by kernel_rfl) (by kernel_rfl) (by intro _ _ _ h; exact h) (Or.inl ⟨by kernel_rfl, ?_⟩) hHeld ?_
        · intro w hSw; go_simp
        simp only [Act.put, List.setIfInBounds_toArray, List.set_cons_zero, List.set_cons_succ]
        obtain ⟨f0, f1, y0, y1⟩ := X4.out.two
        refine wpAnyH_ready (rs := [10]) (by kernel_rfl) (by simp) ?_
        refine AllReadyH.cons (o := _) (by rw [List.getElem?_toArray]; exact rfl) (fun K hK => ?_) AllReadyH.nil
        rw [if_pos (by kernel_rfl)]
        go_simp
        refine hK.out _ _ (keep_put e4 hpm _) (fun hHeld => ?_)
        clear hK K
        (try simp only [Act.put, List.setIfInBounds_toArray, List.set_cons_zero, List.set_cons_succ])
        refine wpAnyH_done (by kernel_rfl) ?_ _
        have NX : Hid (NewSt w3 bm w3.heap.size (.slice none 0 0) L (k + 1) (w4.setCell ⟨bm, 0, none⟩ (.slice a' (k + 1) c'))) := new_next ST.out HO.out X4.out HOW.out HG4.out HX.out M3.out.lt
        clear f0 f1 y0 y1 c0 c1 z0 z1 e1 e4 hHeld
        go_wp2
        exact ⟨⟨k + 1, by omega, by go_num, NX.out⟩, by simp [intOf]; omega⟩
    · obtain rfl : k = ln := by omega
      have hfar := ST.out.far
      have hs3 : w.heap.size ≤ w3.heap.size := by have := HB3.out.size; omega
      obtain ⟨wa, wc, hv0, _⟩ := owns_slice HO.out
      subst hv0
      have TW : Hid (TripAt wr wa k (wordsF L k)) := owns_trip HO.out (by omega)
      have HBr : Hid (Below (w.heap.size + 2) W wr) := below_far (HB3.out.mono (by omega)) hfar (by omega) (by have := HB3.out.size; omega)
      have Rr : Hid (Box wr (w.heap.size + 1) #[.slice none 0 0, .slice none 0 0] 29) := R0.out.below HBr.out (by omega)
      have HBW : Hid (Below w.heap.size w wr) := HB0.out.trans (HBr.out.mono (by omega))
      clear hfar
      rcases hI : inB t 1 4 with _ | _
      · have HIN : Hid (inB t 1 4 = false) := hI
        have HNO : Hid (¬ NewGood L t) := fun h => by rw [inB_yes h.1] at hI; cases hI
        clear hI
        go_wp2_with fail
        refine (l1In_g t 1 4 _).mono ?_
        rintro e w4 ⟨rfl, hw4⟩
        obtain rfl : wr = w4 := hw4.symm
        clear hw4
        rw [HIN.out]
        go_wp2_with fail
        refine (specMemOk_any wa k wc (wordsF L k) none 0 0 [] _ TW.out ⟨rfl, by omega, .inl rfl⟩).mono ?_
        rintro e w5 ⟨ok, ⟨rfl, hok⟩, hb5⟩
        obtain rfl : ok = false := by
          rcases ok with _ | _
          · rfl
          · have h2 := (hok.1 rfl).2.1
            simp at h2
        have R5 : Hid (Box w5 (w.heap.size + 1) #[.slice none 0 0, .slice none 0 0] 29) := Rr.out.below hb5 Rr.out.lt
        obtain ⟨r0, r1, y0, y1⟩ := R5.out.two
        have HB5 : Hid (Below w.heap.size w w5) := HBW.out.trans (hb5.mono HBW.out.size)
        obtain ⟨e0, e1, _, _⟩ := ((R5.out.put 0 (.slice none 0 0)).put 1 (.slice none 0 0)).two
        clear hok hb5 c0 c1 z0 z1
        go_wp2
        (try simp only [Exit.inBlock, Exit.then])
        refine bodyPost_ret (by simp [results, Tryd.results5, go_sem, e0, e1]; try rfl) rfl ?_
        exact ⟨⟨none, 0, none, 0, 0, [], 0, [], false, rfl, .inr ⟨rfl, HNO.out, rfl, rfl, rfl, rfl⟩, ⟨rfl, by omega, .inl rfl⟩, ⟨rfl, by omega, .inl rfl⟩⟩, (HB5.out.setCell (by simp) _).setCell (by simp) _⟩
      · have hv := inB_val hI
        have HIN : Hid (inB t 1 4 = true) := hI
        obtain ⟨tn, rfl⟩ : ∃ tn : Nat, t = (tn : Int) := ⟨t.toNat, by omega⟩
        clear hI
        go_wp2_with fail
        refine (l1In_g _ 1 4 _).mono ?_
        rintro e w4 ⟨rfl, hw4⟩
        obtain rfl : wr = w4 := hw4.symm
        clear hw4
        rw [HIN.out]
        go_wp2_with
          (at_make
           refine wpList_make_full _ rfl _ _ 27 rfl w3.heap.size 59 i0 (.agg (DescC 0 0 none 0 0 0 none 0 0)) 5 Tryd.underlying27 hin hz0 hz1 .i64 .i64 _ _ tn rfl rfl rfl rfl (by rw [hz2]; omega) (by unfold maxLen; omega) (by exact ST.out.far.size) ?_
           intro w5 own5 grow5
           have hb5 : Below wr.heap.size wr w5 := (Below.refl _ _).grown grow5 (Nat.le_refl _) (fun k e => by cases e)
           have X5 := hbx'.out.below hb5 hbl
           obtain ⟨f0, f1, y0, y1⟩ := X5.two)
        have hwb : (Value.slice wa k wc).ownBlock ≠ some bm := fun e => by have := (HO.out.lt bm e).1; have := M3.out.lt; omega
        have hwg : (Value.slice wa k wc).ownBlock ≠ some wr.heap.size := fun e => by have := (HO.out.lt _ e).2; omega
        obtain ⟨g5, hg5⟩ : ∃ g, wr.heap.size = g := ⟨_, rfl⟩
        rw [hg5] at own5 hwg ⊢
        have hgb : (SL g5 tn).ownBlock ≠ some bm := fun e => by
          have h1 : g5 = bm := by simpa [Value.ownBlock] using e
          omega
        obtain ⟨w6, hw6⟩ : ∃ w6, w5.setCell ⟨bm, 1, none⟩ (SL g5 tn) = w6 := ⟨_, rfl⟩
        have MO : Hid (MemO w6 w3.heap.size (FNew (.slice wa k wc) (SL g5 tn)) k (wordsF L k) tn (zds tn)) := by
          rw [← hw6]
          exact memO_new (own_setCell_far (owns_below HO.out hb5 (Nat.le_refl _)) hwb _) (own_setCell_far own5 hgb _) hwg
        have X6 : Hid (Box w6 bm #[.slice wa k wc, SL g5 tn] 29) := by rw [← hw6]; exact X5.put 1 _
        have R6 : Hid (Box w6 (w.heap.size + 1) #[.slice none 0 0, .slice none 0 0] 29) := by rw [← hw6]; exact (Rr.out.below hb5 Rr.out.lt).set (show w.heap.size + 1 ≠ bm by omega) _
        have HB6 : Hid (Below w.heap.size w w6) := by rw [← hw6]; exact (HBW.out.trans (hb5.mono HBW.out.size)).setCell (show w.heap.size ≤ bm by omega) _
        have HW6 : Hid (w5.setCell ⟨bm, 1, none⟩ (SL g5 tn) = w6) := hw6
        have SM : Hid (Small tn (zds tn)) := fun i hi => by rw [zds_at]; exact ⟨by show (0 : Nat) ≤ _; omega, by show (0 : Nat) ≤ _; omega⟩
        obtain ⟨wa', wc', da, dc, hmv, hF0, hF1, tA, dA, cA⟩ := MO.out.open (by omega) (by omega) SM.out
        have TA : Hid (TripAt w6 wa k (wordsF L k) ∧ DescAt w6 (some ⟨g5, 0, none⟩) tn (zds tn)) := by
          cases hF1
          cases hF0
          exact ⟨tA, dA⟩
        clear tA dA cA hmv hF0 hF1 own5 grow5 hb5 X5 f0 f1 y0 y1 c0 c1 z0 z1 hw6
        rw [HW6.out]
        refine (specMemOk_any wa k wc (wordsF L k) (some ⟨g5, 0, none⟩) tn tn (zds tn) _ TA.out.1 TA.out.2).mono ?_
        rintro e w7 ⟨ok, ⟨rfl, hok⟩, hb7⟩
        have R7 : Hid (Box w7 (w.heap.size + 1) #[.slice none 0 0, .slice none 0 0] 29) := R6.out.below hb7 R6.out.lt
        obtain ⟨r0, r1, y0, y1⟩ := R7.out.two
        obtain ⟨f0, f1, _, _⟩ := (X6.out.below hb7 X6.out.lt).two
        have HB7 : Hid (Below w.heap.size w w7) := HB6.out.trans (hb7.mono HB6.out.size)
        have T7 : Hid (TripAt w7 wa k (wordsF L k) ∧ DescAt w7 (some ⟨g5, 0, none⟩) tn (zds tn)) := ⟨TA.out.1.below hb7 (Nat.le_refl _), TA.out.2.below hb7 (Nat.le_refl _)⟩
        have MO7 : Hid (MemO w7 w3.heap.size (FNew (.slice wa k wc) (SL g5 tn)) k (wordsF L k) tn (zds tn)) := MO.out.below hb7 (Nat.le_refl _)
        rcases ok with _ | _
        · have HNO : Hid (¬ NewGood L (tn : Int)) := fun h => by
            have h2 := h.2
            rw [hln] at h2
            have := hok.2 h2
            cases this
          clear hok hb7
          obtain ⟨e0, e1, _, _⟩ := ((R7.out.put 0 (.slice none 0 0)).put 1 (.slice none 0 0)).two
          go_wp2
          (try simp only [Exit.inBlock, Exit.then])
          refine bodyPost_ret (by simp [results, Tryd.results5, go_sem, e0, e1]; try rfl) rfl ?_
          exact ⟨⟨none, 0, none, 0, 0, [], 0, [], false, rfl, .inr ⟨rfl, HNO.out, rfl, rfl, rfl, rfl⟩, ⟨rfl, by omega, .inl rfl⟩, ⟨rfl, by omega, .inl rfl⟩⟩, (HB7.out.setCell (by simp) _).setCell (by simp) _⟩
        · have HG : Hid (NewGood L (tn : Int)) := ⟨hv, by rw [hln]; exact hok.1 rfl⟩
          clear hok hb7
          obtain ⟨e0, e1, _, _⟩ := ((R7.out.put 0 (.slice wa k wc)).put 1 (SL g5 tn)).two
          go_wp2
          (try simp only [Exit.inBlock, Exit.then])
          refine bodyPost_ret (by simp [results, Tryd.results5, go_sem, e0, e1]; try rfl) rfl ?_
          have MO8 : MemO ((w7.setCell ⟨w.heap.size + 1, 0, none⟩ (.slice wa k wc)).setCell ⟨w.heap.size + 1, 1, none⟩ (SL g5 tn)) w3.heap.size (FNew (.slice wa k wc) (SL g5 tn)) k (wordsF L k) tn (zds tn) :=
            MO7.out.heap fun a ha b hb => by
              have h1 := (MO7.out.blk a ha b hb).1
              have h2 := HB3.out.size
              rw [Below.heap_setCell _ _ _ _ (show b ≠ w.heap.size + 1 by omega), Below.heap_setCell _ _ _ _ (show b ≠ w.heap.size + 1 by omega)]
          obtain ⟨wa', wc', da, dc, hmv, hF0, hF1, tA, dA, cA⟩ := MO8.open (by omega) (by omega) SM.out
          cases hF1
          cases hF0
          exact ⟨⟨wa, wc, some ⟨g5, 0, none⟩, tn, k, wordsF L k, tn, zds tn, true, rfl, .inl ⟨rfl, HG.out, hln.symm, rfl, rfl, rfl⟩, tA, dA⟩, (HB7.out.setCell (by simp) _).setCell (by simp) _⟩
end Go.Proofs.YtbdfopokimpeiaqDoor

/- Rows that came in, opened: a list of numbers and a number. -/
namespace Go.Proofs.YtbdfopokimpeiaqDoor
open Go.ChangeShapes Go.WideShapes Go.ChangeAt Go.RowKit Go.Joins
theorem cellsRows : Tryd.prog.cellsOf 24 = 2 := by kernel_rfl

theorem open_rows {H : Type} {enc : TypeId × Value → H} {W : World} {base b0 : Nat} {held : Bool} {v : Value} {d : DataW H} {p : List MemPlace}
    (hv : Value.okWide Tryd.prog W .any b0 24 v) (h : DataW.Trod enc Tryd.prog W base (fun _ => true) held 24 v d p) :
    ∃ (a : Option Addr) (n c : Nat) (st : Int) (xs : List Int), v = RowsV a n c st ∧ n ≤ 9223372036854775807 ∧ (∀ x ∈ xs, (Lit.int .i64 x).wf = true) ∧ (n ≤ 1099511627776 → IntAt W a n xs) := by
  obtain ⟨v0, v1, y0, y1, m, rfl, rfl, rfl, h0, h1⟩ := open_agg2 Tryd.underlying24 (by kernel_rfl) cellsRows hv h
  obtain ⟨st, e1, rfl, w1⟩ := DataW.trod_int Tryd.underlying3 h1
  obtain rfl : v1 = .int .i64 st := by simpa using e1
  rcases open_ints Tryd.underlying22 Tryd.underlying3 (by kernel_rfl) h0 with ⟨hcs, _⟩ | ⟨x, l, cc, zs, hcs, _, hl, hm, hz, _, hcell, hwz⟩
  · obtain rfl : v0 = .slice none 0 0 := by simpa using hcs
    exact ⟨none, 0, 0, st, [], rfl, by omega, fun x hx => by simp at hx, fun _ => ⟨rfl, by omega, .inl rfl⟩⟩
  · obtain rfl : v0 = .slice (some x) l cc := by simpa using hcs
    refine ⟨some x, l, cc, st, zs.take l, rfl, by unfold maxLen at hm; omega, fun x hx => hwz x (List.mem_of_mem_take hx), fun hn => ⟨by simp at hz; rw [List.length_take]; omega, hn, ?_⟩⟩
    by_cases h0 : l = 0
    · exact .inl h0
    · simp at hz
      obtain ⟨b, o, rfl, hc⟩ := ints_at hcell (by omega)
      refine .inr ⟨b, o, rfl, fun i hi => ?_⟩
      rw [hc i (by omega)]
      simp [List.getD, hi]
end Go.Proofs.YtbdfopokimpeiaqDoor

/- The laws' own helpers markIntS and heldIntS, walked from the number 1 on. -/
namespace Go.Proofs.YtbdfopokimpeiaqDoor
open Go.ChangeShapes Go.WideShapes Go.ChangeAt Go.RowKit

/-- The numbers that markIntS lays. -/
def marksI (n : Nat) : List Int := (List.range n).map fun (i : Nat) => (i : Int) + 1
theorem marksI_len (n : Nat) : (marksI n).length = n := by simp [marksI]
theorem marksI_at (n i : Nat) (h : i < n) : (marksI n).getD i 0 = (i : Int) + 1 := by simp [marksI, List.getD, h]

theorem markI_step (n j : Nat) (xs : List Int) (hx : xs.length = n) (h : j < n) :
    ((marksI j ++ xs.drop j).map I).set j (I ((j : Int) + 1)) = (marksI (j + 1) ++ xs.drop (j + 1)).map I := by
  have e : marksI (j + 1) = marksI j ++ [(j : Int) + 1] := by simp [marksI, List.range_succ]
  rw [← List.map_set, e]
  congr 1
  rw [List.set_append_right _ _ (by simp [marksI]), show j - (marksI j).length = 0 by simp [marksI], List.drop_eq_getElem_cons (show j < xs.length by omega), List.set_cons_zero, List.append_assoc]
  rfl

set_option maxHeartbeats 400000 in
theorem markIntS_own (base g n cap : Nat) (xs : List Int) (w : World) (hx : xs.length = n) (hn : n ≤ 1099511627776)
    (hown : w.ownsRow base 3 1 (.slice (some ⟨g, 0, none⟩) n cap) n (xs.map I)) :
    Calls Tryd.prog 24 #[.slice (some ⟨g, 0, none⟩) n cap, .int .i64 1] w fun e w' =>
      e = .returned (.int .i64 ((n : Int) + 1)) ∧ w'.ownsRow base 3 1 (.slice (some ⟨g, 0, none⟩) n cap) n ((marksI n).map I) ∧ Below base w w' ∧ w'.heap.size = w.heap.size ∧ ∀ k, k ≠ g → w'.heap[k]? = w.heap[k]? := by
  have HX : Hid (xs.length = n) := hx
  clear hx
  go_enter Tryd.func24, Tryd.ntmps24
  go_wp2
  go_loopw [1, 5] (fun q i wr => ∃ j : Nat, j ≤ n ∧ q = .int .i64 ((j : Int) + 1) ∧ i = .int .i64 (j : Int) ∧ wr.ownsRow base 3 1 (.slice (some ⟨g, 0, none⟩) n cap) n ((marksI j ++ xs.drop j).map I) ∧ Below base w wr ∧ wr.heap.size = w.heap.size ∧ ∀ k, k ≠ g → wr.heap[k]? = w.heap[k]?) (fun _ i _ => n - (intOf i).toNat)
  case atStart => exact ⟨0, Nat.zero_le _, rfl, rfl, by simpa [marksI] using hown, Below.refl _ _, rfl, fun _ _ => rfl⟩
  case round =>
    obtain ⟨j, hj, rfl, rfl, ho, hb, hsz, hoth⟩ := hrel
    have HOT : Hid (∀ k, k ≠ g → wr.heap[k]? = w.heap[k]?) := hoth
    clear hown hoth
    by_cases hlt : j < n
    · have hf1 := ho.frozenAt j
      obtain ⟨u, hc1⟩ := own_cell ho hlt
      have ho1 := ho.stored j (I ((j : Int) + 1))
      rw [markI_step n j xs HX.out hlt] at ho1
      have HO1 : Hid ((wr.setCell ⟨g, j, none⟩ (I ((j : Int) + 1))).ownsRow base 3 1 (.slice (some ⟨g, 0, none⟩) n cap) n ((marksI (j + 1) ++ xs.drop (j + 1)).map I)) := ho1.1
      have hg := (own_base ho).1
      clear ho ho1
      go_wp2
      go_roundw
      case rel => exact ⟨j + 1, by omega, by go_num, by go_num, HO1.out, hb.setCell hg _, by simpa [World.setCell] using hsz, fun k hk => (Below.heap_setCell _ _ _ _ hk).trans (HOT.out k hk)⟩
      case measure => simp [intOf]; omega
    · go_wp2
      go_ret
      obtain rfl : j = n := by omega
      refine ⟨rfl, ?_, hb, hsz, HOT.out⟩
      have hx := HX.out
      rwa [List.drop_of_length_le (by omega), List.append_nil] at ho
theorem markIntS_none (a : Option Addr) (cap : Nat) (w : World) :
    Calls Tryd.prog 24 #[.slice a 0 cap, .int .i64 1] w fun e w' => e = .returned (.int .i64 1) ∧ w' = w := by
  go_enter Tryd.func24, Tryd.ntmps24
  go_wp2
  refine wp_loop_rounds 1 ?_
  rw [rounds_succ]
  go_wp2
  go_ret
  exact ⟨rfl, rfl⟩

set_option maxHeartbeats 400000 in
theorem heldIntS_any (a : Option Addr) (n cap : Nat) (w : World) (hA : IntAt w a n (marksI n)) :
    Calls Tryd.prog 55 #[.slice a n cap, .int .i64 1] w fun e w' => e = .returned (.int .i64 ((n : Int) + 1)) ∧ ∃ m, w' = w.drewN m := by
  have hn := hA.2.1
  have HC : Hid (n = 0 ∨ ∃ b o, a = some ⟨b, o, none⟩ ∧ ∀ i, i < n → w.cell? ⟨b, o + i, none⟩ = some (I ((i : Int) + 1))) := by
    rcases hA.2.2 with h | ⟨b, o, h1, h2⟩
    · exact .inl h
    · exact .inr ⟨b, o, h1, fun i hi => by rw [h2 i hi, marksI_at n i hi]⟩
  clear hA
  go_enter Tryd.func55, Tryd.ntmps55
  go_wp2
  go_loopw [1, 5] (fun q i wr => ∃ j m : Nat, j ≤ n ∧ q = .int .i64 ((j : Int) + 1) ∧ i = .int .i64 (j : Int) ∧ wr = w.drewN m) (fun _ i _ => n - (intOf i).toNat)
  case atStart => exact ⟨0, 0, Nat.zero_le _, rfl, rfl, rfl⟩
  case round =>
    obtain ⟨j, m, hj, rfl, rfl, rfl⟩ := hrel
    by_cases hlt : j < n
    · rcases HC.out with h | ⟨b, o, rfl, h1⟩
      · omega
      have e1 := h1 j hlt
      clear h1
      go_wp2
      go_roundw
      case rel => exact ⟨j + 1, m, by omega, by go_num, by go_num, rfl⟩
      case measure => simp [intOf]; omega
    · go_wp2
      go_ret
      obtain rfl : j = n := by omega
      exact ⟨rfl, m, rfl⟩

end Go.Proofs.YtbdfopokimpeiaqDoor

/- The laws' own helper markRows, walked from the number 1 on. -/
namespace Go.Proofs.YtbdfopokimpeiaqDoor
open Go.ChangeShapes Go.WideShapes Go.ChangeAt Go.RowKit

set_option maxHeartbeats 400000 in
theorem markRows_own (base g n cap : Nat) (st : Int) (xs : List Int) (w : World) (hx : xs.length = n) (hn : n ≤ 1099511627776)
    (hown : w.ownsRow base 3 1 (.slice (some ⟨g, 0, none⟩) n cap) n (xs.map I)) :
    Calls Tryd.prog 10 #[RowsV (some ⟨g, 0, none⟩) n cap st, .int .i64 1] w fun e w' =>
      e = .returned (.int .i64 ((n : Int) + 1)) ∧ w'.ownsRow base 3 1 (.slice (some ⟨g, 0, none⟩) n cap) n ((marksI n).map I) ∧ w.heap.size ≤ w'.heap.size ∧ w'.os = w.os ∧ w'.tape = w.tape ∧ w'.output = w.output ∧ ∀ k, k < w.heap.size → k ≠ g → w'.heap[k]? = w.heap[k]? := by
  have HO : Hid (w.ownsRow base 3 1 (.slice (some ⟨g, 0, none⟩) n cap) n (xs.map I)) := hown
  clear hown
  go_enter Tryd.func10, Tryd.ntmps10
  go_wp2_with fail
  refine (markIntS_own base g n cap xs _ hx hn (HO.out.alloc _)).mono ?_
  rintro e w1 ⟨rfl, own1, hb1, hs1, ho1⟩
  have HO1 : Hid (w1.ownsRow base 3 1 (.slice (some ⟨g, 0, none⟩) n cap) n ((marksI n).map I)) := own1
  have HH : Hid (∀ k, k < w.heap.size → k ≠ g → w1.heap[k]? = w.heap[k]?) := fun k hk hkg => (ho1 k hkg).trans (Below.heap_alloc _ _ _ hk)
  have e1 : w1.os = w.os := hb1.os
  have e2 : w1.tape = w.tape := hb1.tape
  have e3 : w1.output = w.output := hb1.output
  have hsz : w.heap.size ≤ w1.heap.size := by simp at hs1; omega
  clear own1 ho1 hb1 hs1
  go_wp2
  go_ret
  exact ⟨rfl, HO1.out, hsz, e1, e2, e3, HH.out⟩
end Go.Proofs.YtbdfopokimpeiaqDoor

/- The laws' own marking of words, entries and numbers, with what is laid. -/
namespace Go.Proofs.YtbdfopokimpeiaqDoor
open Go.ChangeShapes Go.WideShapes Go.ChangeAt Go.RowKit Go.Joins

/-- Numbers that ascend from k on. -/
def asc (k : Int) (n : Nat) : List Int := (List.range n).map fun (i : Nat) => k + (i : Int)
theorem asc_len (k : Int) (n : Nat) : (asc k n).length = n := by simp [asc]
theorem asc_at {k : Int} {n i : Nat} (h : i < n) : (asc k n).getD i 0 = k + (i : Int) := by simp [asc, List.getD, h]
def Asc (zs : List Int) (k : Int) (j : Nat) : Prop := ∀ i, i < j → zs[i]? = some (k + (i : Int))
theorem Asc.three {zs : List Int} {k q : Int} {j : Nat} (h : Asc zs k (j * 3)) (hl : j * 3 + 2 < zs.length) (hq : k + (j : Int) * 3 = q) : Asc (((zs.set (j * 3) q).set (j * 3 + 1) (q + 1)).set (j * 3 + 2) (q + 1 + 1)) k ((j + 1) * 3) := by
  intro i hi
  by_cases e2 : i = j * 3 + 2
  · subst e2
    rw [List.getElem?_set_self (by simp; omega)]
    congr 1; push_cast; omega
  rw [List.getElem?_set_ne (by omega)]
  by_cases e1 : i = j * 3 + 1
  · subst e1
    rw [List.getElem?_set_self (by simp; omega)]
    congr 1; push_cast; omega
  rw [List.getElem?_set_ne (by omega)]
  by_cases e0 : i = j * 3
  · subst e0
    rw [List.getElem?_set_self (by omega)]
    congr 1; push_cast; omega
  rw [List.getElem?_set_ne (by omega)]
  exact h i (by omega)
theorem Asc.one {zs : List Int} {k q : Int} {j : Nat} (h : Asc zs k j) (hl : j < zs.length) (hq : k + (j : Int) = q) : Asc (zs.set j q) k (j + 1) := by
  intro i hi
  by_cases e0 : i = j
  · subst e0
    rw [List.getElem?_set_self (by omega), hq]
  rw [List.getElem?_set_ne (by omega)]
  exact h i (by omega)
theorem Asc.all {zs : List Int} {k : Int} {n : Nat} (h : Asc zs k n) (hl : zs.length = n) : zs = asc k n := by
  refine List.ext_getElem? fun i => ?_
  rcases Nat.lt_or_ge i n with hi | hi
  · rw [h i hi]; simp [asc, hi]
  · rw [List.getElem?_eq_none (by omega), List.getElem?_eq_none (by rw [asc_len]; omega)]
/-- Only the block of this list has changed, and nothing was made. -/
structure OnlyV (base : Nat) (v : Value) (w w' : World) : Prop where
  bel : Below base w w'
  size : w'.heap.size = w.heap.size
  oth : ∀ k, v.ownBlock ≠ some k → w'.heap[k]? = w.heap[k]?
theorem OnlyV.refl (base : Nat) (v : Value) (w : World) : OnlyV base v w w := ⟨Below.refl _ _, rfl, fun _ _ => rfl⟩
theorem OnlyV.set {base g n cap : Nat} {w w' : World} (h : OnlyV base (.slice (some ⟨g, 0, none⟩) n cap) w w') (hb : base ≤ g) (j : Nat) (u : Value) : OnlyV base (.slice (some ⟨g, 0, none⟩) n cap) w (w'.setCell ⟨g, j, none⟩ u) :=
  ⟨h.bel.setCell hb _, by rw [size_setCell]; exact h.size, fun k hk => (Below.heap_setCell _ _ _ _ (fun e => hk (by simp [Value.ownBlock, e]))).trans (h.oth k hk)⟩
set_option maxHeartbeats 1000000 in
theorem markWordS_o (base : Nat) (v : Value) (n : Nat) (k0 : Int) (zs0 : List Int) (w : World) (hn : n ≤ 1048576) (hk0 : 0 ≤ k0) (hk1 : k0 ≤ 4611686018427387904) (hown : w.ownsRow base 42 3 v n (zs0.map I)) :
    Calls Tryd.prog 25 #[v, .int .i64 k0] w fun e w' => e = .returned (.int .i64 (k0 + (n : Int) * 3)) ∧ w'.ownsRow base 42 3 v n ((asc k0 (n * 3)).map I) ∧ OnlyV base v w w' := by
  rcases owns_forms hown with ⟨rfl, rfl⟩ | ⟨g, cap, rfl⟩
  · have HO : Hid (w.ownsRow base 42 3 (.slice none 0 0) 0 (zs0.map I)) := hown
    clear hown
    go_enter Tryd.func25, Tryd.ntmps25
    go_wp2
    go_loopw [1, 5] (fun q i wr => q = .int .i64 k0 ∧ i = .int .i64 0 ∧ wr = w) (fun _ i _ => 0)
    case atStart => exact ⟨rfl, rfl, rfl⟩
    case round =>
      obtain ⟨rfl, rfl, rfl⟩ := hrel
      go_wp2
      go_ret
      exact ⟨by simp, by have h := HO.out; rw [show zs0 = [] by have := h.1; simpa using this] at h; simpa [asc] using h, OnlyV.refl _ _ _⟩
  have hbg : base ≤ g := (hown.lt g rfl).1
  have hl0 : zs0.length = n * 3 := by have := hown.1; simpa using this
  go_enter Tryd.func25, Tryd.ntmps25
  go_wp2
  go_loopw [1, 5] (fun q i wr => ∃ j : Nat, j ≤ n ∧ q = .int .i64 (k0 + (j : Int) * 3) ∧ i = .int .i64 (j : Int) ∧ (∃ zs : List Int, zs.length = n * 3 ∧ Asc zs k0 (j * 3) ∧ wr.ownsRow base 42 3 (.slice (some ⟨g, 0, none⟩) n cap) n (zs.map I)) ∧ OnlyV base (.slice (some ⟨g, 0, none⟩) n cap) w wr) (fun _ i _ => n - (intOf i).toNat)
  case atStart => exact ⟨0, Nat.zero_le _, by simp, rfl, ⟨zs0, hl0, fun i hi => by omega, hown⟩, OnlyV.refl _ _ _⟩
  case round =>
    obtain ⟨j, hj, rfl, rfl, ⟨zs, hlz, hasc, ho⟩, hob⟩ := hrel
    have HOB : Hid (OnlyV base (.slice (some ⟨g, 0, none⟩) n cap) w wr) := hob
    clear hown hob hl0
    by_cases hlt : j < n
    · have hj0 : (0 : Int) ≤ (j : Int) := by omega
      have hj1 : (j : Int) < (n : Int) := by omega
      have z0 := ho.frozenAt (j * 3)
      have z1 := ho.frozenAt (j * 3 + 1)
      have z2 := ho.frozenAt (j * 3 + 2)
      have hl : (zs.map I).length = n * 3 := ho.1
      obtain ⟨u0, hu0⟩ : ∃ u, wr.cell? ⟨g, j * 3, none⟩ = some u := ⟨_, own_cellV ho (List.getElem?_eq_getElem (by omega))⟩
      obtain ⟨u1, hu1⟩ : ∃ u, wr.cell? ⟨g, j * 3 + 1, none⟩ = some u := ⟨_, own_cellV ho (List.getElem?_eq_getElem (by omega))⟩
      obtain ⟨u2, hu2⟩ : ∃ u, wr.cell? ⟨g, j * 3 + 2, none⟩ = some u := ⟨_, own_cellV ho (List.getElem?_eq_getElem (by omega))⟩
      obtain ⟨q, hq⟩ : ∃ q : Int, k0 + (j : Int) * 3 = q := ⟨_, rfl⟩
      have HQ : Hid (k0 + (j : Int) * 3 = q) := hq
      have hq0 : 0 ≤ q := by omega
      have hq1 : q ≤ 4611686021573115904 := by omega
      have HO3 : Hid ((((wr.setCell ⟨g, j * 3, none⟩ (I q)).setCell ⟨g, j * 3 + 1, none⟩ (I (q + 1))).setCell ⟨g, j * 3 + 2, none⟩ (I (q + 1 + 1))).ownsRow base 42 3 (.slice (some ⟨g, 0, none⟩) n cap) n ((((zs.set (j * 3) q).set (j * 3 + 1) (q + 1)).set (j * 3 + 2) (q + 1 + 1)).map I)) := by
        have h1 := (((ho.stored (j * 3) (I q)).1.stored (j * 3 + 1) (I (q + 1))).1.stored (j * 3 + 2) (I (q + 1 + 1))).1
        rw [← List.map_set, ← List.map_set, ← List.map_set] at h1
        exact h1
      have HA3 : Hid (Asc (((zs.set (j * 3) q).set (j * 3 + 1) (q + 1)).set (j * 3 + 2) (q + 1 + 1)) k0 ((j + 1) * 3)) := hasc.three (by omega) hq
      rw [hq]
      clear ho hq hl hasc
      go_wp2
      go_roundw
      case rel => exact ⟨j + 1, by omega, by have := HQ.out; congr 1; push_cast; omega, by go_num, ⟨_, by simpa using hlz, HA3.out, HO3.out⟩, ((HOB.out.set hbg _ _).set hbg _ _).set hbg _ _⟩
      case measure => simp [intOf]; omega
    · obtain rfl : j = n := by omega
      have hz : zs = asc k0 (j * 3) := hasc.all hlz
      subst hz
      go_wp2
      go_ret
      exact ⟨rfl, ho, HOB.out⟩
set_option maxHeartbeats 1000000 in
theorem markEntryS_o (base : Nat) (v : Value) (n : Nat) (k0 : Int) (zs0 : List Int) (w : World) (hn : n ≤ 1048576) (hk0 : 0 ≤ k0) (hk1 : k0 ≤ 4611686018427387904) (hown : w.ownsRow base 62 3 v n (zs0.map I)) :
    Calls Tryd.prog 53 #[v, .int .i64 k0] w fun e w' => e = .returned (.int .i64 (k0 + (n : Int) * 3)) ∧ w'.ownsRow base 62 3 v n ((asc k0 (n * 3)).map I) ∧ OnlyV base v w w' := by
  rcases owns_forms hown with ⟨rfl, rfl⟩ | ⟨g, cap, rfl⟩
  · have HO : Hid (w.ownsRow base 62 3 (.slice none 0 0) 0 (zs0.map I)) := hown
    clear hown
    go_enter Tryd.func53, Tryd.ntmps53
    go_wp2
    go_loopw [1, 5] (fun q i wr => q = .int .i64 k0 ∧ i = .int .i64 0 ∧ wr = w) (fun _ i _ => 0)
    case atStart => exact ⟨rfl, rfl, rfl⟩
    case round =>
      obtain ⟨rfl, rfl, rfl⟩ := hrel
      go_wp2
      go_ret
      exact ⟨by simp, by have h := HO.out; rw [show zs0 = [] by have := h.1; simpa using this] at h; simpa [asc] using h, OnlyV.refl _ _ _⟩
  have hbg : base ≤ g := (hown.lt g rfl).1
  have hl0 : zs0.length = n * 3 := by have := hown.1; simpa using this
  go_enter Tryd.func53, Tryd.ntmps53
  go_wp2
  go_loopw [1, 5] (fun q i wr => ∃ j : Nat, j ≤ n ∧ q = .int .i64 (k0 + (j : Int) * 3) ∧ i = .int .i64 (j : Int) ∧ (∃ zs : List Int, zs.length = n * 3 ∧ Asc zs k0 (j * 3) ∧ wr.ownsRow base 62 3 (.slice (some ⟨g, 0, none⟩) n cap) n (zs.map I)) ∧ OnlyV base (.slice (some ⟨g, 0, none⟩) n cap) w wr) (fun _ i _ => n - (intOf i).toNat)
  case atStart => exact ⟨0, Nat.zero_le _, by simp, rfl, ⟨zs0, hl0, fun i hi => by omega, hown⟩, OnlyV.refl _ _ _⟩
  case round =>
    obtain ⟨j, hj, rfl, rfl, ⟨zs, hlz, hasc, ho⟩, hob⟩ := hrel
    have HOB : Hid (OnlyV base (.slice (some ⟨g, 0, none⟩) n cap) w wr) := hob
    clear hown hob hl0
    by_cases hlt : j < n
    · have hj0 : (0 : Int) ≤ (j : Int) := by omega
      have hj1 : (j : Int) < (n : Int) := by omega
      have z0 := ho.frozenAt (j * 3)
      have z1 := ho.frozenAt (j * 3 + 1)
      have z2 := ho.frozenAt (j * 3 + 2)
      have hl : (zs.map I).length = n * 3 := ho.1
      obtain ⟨u0, hu0⟩ : ∃ u, wr.cell? ⟨g, j * 3, none⟩ = some u := ⟨_, own_cellV ho (List.getElem?_eq_getElem (by omega))⟩
      obtain ⟨u1, hu1⟩ : ∃ u, wr.cell? ⟨g, j * 3 + 1, none⟩ = some u := ⟨_, own_cellV ho (List.getElem?_eq_getElem (by omega))⟩
      obtain ⟨u2, hu2⟩ : ∃ u, wr.cell? ⟨g, j * 3 + 2, none⟩ = some u := ⟨_, own_cellV ho (List.getElem?_eq_getElem (by omega))⟩
      obtain ⟨q, hq⟩ : ∃ q : Int, k0 + (j : Int) * 3 = q := ⟨_, rfl⟩
      have HQ : Hid (k0 + (j : Int) * 3 = q) := hq
      have hq0 : 0 ≤ q := by omega
      have hq1 : q ≤ 4611686021573115904 := by omega
      have HO3 : Hid ((((wr.setCell ⟨g, j * 3, none⟩ (I q)).setCell ⟨g, j * 3 + 1, none⟩ (I (q + 1))).setCell ⟨g, j * 3 + 2, none⟩ (I (q + 1 + 1))).ownsRow base 62 3 (.slice (some ⟨g, 0, none⟩) n cap) n ((((zs.set (j * 3) q).set (j * 3 + 1) (q + 1)).set (j * 3 + 2) (q + 1 + 1)).map I)) := by
        have h1 := (((ho.stored (j * 3) (I q)).1.stored (j * 3 + 1) (I (q + 1))).1.stored (j * 3 + 2) (I (q + 1 + 1))).1
        rw [← List.map_set, ← List.map_set, ← List.map_set] at h1
        exact h1
      have HA3 : Hid (Asc (((zs.set (j * 3) q).set (j * 3 + 1) (q + 1)).set (j * 3 + 2) (q + 1 + 1)) k0 ((j + 1) * 3)) := hasc.three (by omega) hq
      rw [hq]
      clear ho hq hl hasc
      go_wp2
      go_roundw
      case rel => exact ⟨j + 1, by omega, by have := HQ.out; congr 1; push_cast; omega, by go_num, ⟨_, by simpa using hlz, HA3.out, HO3.out⟩, ((HOB.out.set hbg _ _).set hbg _ _).set hbg _ _⟩
      case measure => simp [intOf]; omega
    · obtain rfl : j = n := by omega
      have hz : zs = asc k0 (j * 3) := hasc.all hlz
      subst hz
      go_wp2
      go_ret
      exact ⟨rfl, ho, HOB.out⟩
set_option maxHeartbeats 1000000 in
theorem markIntS_o (base : Nat) (v : Value) (n : Nat) (k0 : Int) (zs0 : List Int) (w : World) (hn : n ≤ 1048576) (hk0 : 0 ≤ k0) (hk1 : k0 ≤ 4611686018427387904) (hown : w.ownsRow base 3 1 v n (zs0.map I)) :
    Calls Tryd.prog 24 #[v, .int .i64 k0] w fun e w' => e = .returned (.int .i64 (k0 + (n : Int))) ∧ w'.ownsRow base 3 1 v n ((asc k0 n).map I) ∧ OnlyV base v w w' := by
  rcases owns_forms hown with ⟨rfl, rfl⟩ | ⟨g, cap, rfl⟩
  · have HO : Hid (w.ownsRow base 3 1 (.slice none 0 0) 0 (zs0.map I)) := hown
    clear hown
    go_enter Tryd.func24, Tryd.ntmps24
    go_wp2
    go_loopw [1, 5] (fun q i wr => q = .int .i64 k0 ∧ i = .int .i64 0 ∧ wr = w) (fun _ i _ => 0)
    case atStart => exact ⟨rfl, rfl, rfl⟩
    case round =>
      obtain ⟨rfl, rfl, rfl⟩ := hrel
      go_wp2
      go_ret
      exact ⟨by simp, by have h := HO.out; rw [show zs0 = [] by have := h.1; simpa using this] at h; simpa [asc] using h, OnlyV.refl _ _ _⟩
  have hbg : base ≤ g := (hown.lt g rfl).1
  have hl0 : zs0.length = n := by have := hown.1; simpa using this
  go_enter Tryd.func24, Tryd.ntmps24
  go_wp2
  go_loopw [1, 5] (fun q i wr => ∃ j : Nat, j ≤ n ∧ q = .int .i64 (k0 + (j : Int)) ∧ i = .int .i64 (j : Int) ∧ (∃ zs : List Int, zs.length = n ∧ Asc zs k0 j ∧ wr.ownsRow base 3 1 (.slice (some ⟨g, 0, none⟩) n cap) n (zs.map I)) ∧ OnlyV base (.slice (some ⟨g, 0, none⟩) n cap) w wr) (fun _ i _ => n - (intOf i).toNat)
  case atStart => exact ⟨0, Nat.zero_le _, by simp, rfl, ⟨zs0, hl0, fun i hi => by omega, hown⟩, OnlyV.refl _ _ _⟩
  case round =>
    obtain ⟨j, hj, rfl, rfl, ⟨zs, hlz, hasc, ho⟩, hob⟩ := hrel
    have HOB : Hid (OnlyV base (.slice (some ⟨g, 0, none⟩) n cap) w wr) := hob
    clear hown hob hl0
    by_cases hlt : j < n
    · have hf1 := ho.frozenAt j
      obtain ⟨u, hc1⟩ := own_cell ho hlt
      have ho1 := ho.stored j (I (k0 + (j : Int)))
      rw [← List.map_set] at ho1
      have HO1 : Hid ((wr.setCell ⟨g, j, none⟩ (I (k0 + (j : Int)))).ownsRow base 3 1 (.slice (some ⟨g, 0, none⟩) n cap) n ((zs.set j (k0 + (j : Int))).map I)) := ho1.1
      have HA1 : Hid (Asc (zs.set j (k0 + (j : Int))) k0 (j + 1)) := hasc.one (by omega) rfl
      clear ho ho1 hasc
      go_wp2
      go_roundw
      case rel => exact ⟨j + 1, by omega, by go_num, by go_num, ⟨_, by simpa using hlz, HA1.out, HO1.out⟩, HOB.out.set hbg _ _⟩
      case measure => simp [intOf]; omega
    · obtain rfl : j = n := by omega
      have hz : zs = asc k0 j := hasc.all hlz
      subst hz
      go_wp2
      go_ret
      exact ⟨rfl, ho, HOB.out⟩
end Go.Proofs.YtbdfopokimpeiaqDoor

/- The laws' own looking whether what was marked is held. -/
namespace Go.Proofs.YtbdfopokimpeiaqDoor
open Go.ChangeShapes Go.WideShapes Go.ChangeAt Go.RowKit Go.Joins

set_option maxHeartbeats 1000000 in
theorem heldWordS_o (a : Option Addr) (n c : Nat) (k0 : Int) (w : World) (hk0 : 0 ≤ k0) (hk1 : k0 ≤ 4611686018427387904) (h : TripAt w a n (asc k0 (n * 3))) :
    Calls Tryd.prog 27 #[.slice a n c, .int .i64 k0] w fun e w' => e = .returned (.int .i64 (k0 + (n : Int) * 3)) ∧ Below w.heap.size w w' := by
  have HH : Hid (TripAt w a n (asc k0 (n * 3))) := h
  have hn := h.2.1
  clear h
  go_enter Tryd.func27, Tryd.ntmps27
  go_wp2
  go_loopw [1, 5] (fun q i wr => ∃ j : Nat, j ≤ n ∧ q = .int .i64 (k0 + (j : Int) * 3) ∧ i = .int .i64 (j : Int) ∧ Below w.heap.size w wr) (fun _ i _ => n - (intOf i).toNat)
  case atStart => exact ⟨0, Nat.zero_le _, by simp, rfl, Below.refl _ _⟩
  case round =>
    obtain ⟨j, hj, rfl, rfl, hb⟩ := hrel
    have HB : Hid (Below w.heap.size w wr) := hb
    by_cases hlt : j < n
    · have hj0 : (0 : Int) ≤ (j : Int) := by omega
      have hj1 : (j : Int) < (n : Int) := by omega
      rcases (HH.out.below hb (Nat.le_refl _)).2.2 with h0 | ⟨p1, o1, rfl, g1⟩
      · omega
      have e1 := g1 (j * 3) (by omega)
      have e2 := g1 (j * 3 + 1) (by omega)
      have e3 := g1 (j * 3 + 2) (by omega)
      obtain ⟨q, hq⟩ : ∃ q : Int, k0 + (j : Int) * 3 = q := ⟨_, rfl⟩
      have HQ : Hid (k0 + (j : Int) * 3 = q) := hq
      have hq0 : 0 ≤ q := by omega
      have hq1 : q ≤ 4611686021573115904 := by omega
      rw [asc_at (by omega), show k0 + ((j * 3 : Nat) : Int) = q by push_cast; omega] at e1
      rw [asc_at (by omega), show k0 + ((j * 3 + 1 : Nat) : Int) = q + 1 by push_cast; omega, ← Nat.add_assoc] at e2
      rw [asc_at (by omega), show k0 + ((j * 3 + 2 : Nat) : Int) = q + 1 + 1 by push_cast; omega, ← Nat.add_assoc] at e3
      rw [hq]
      clear g1 hq hb
      go_wp2
      exact ⟨⟨j + 1, by omega, by have := HQ.out; congr 1; push_cast; omega, by go_num, HB.out⟩, by simp [intOf]; omega⟩
    · obtain rfl : j = n := by omega
      go_wp2
      go_ret
      exact ⟨rfl, HB.out⟩
set_option maxHeartbeats 1000000 in
theorem heldEntryS_o (a : Option Addr) (n c : Nat) (k0 : Int) (w : World) (hk0 : 0 ≤ k0) (hk1 : k0 ≤ 4611686018427387904) (h : TripAt w a n (asc k0 (n * 3))) :
    Calls Tryd.prog 54 #[.slice a n c, .int .i64 k0] w fun e w' => e = .returned (.int .i64 (k0 + (n : Int) * 3)) ∧ Below w.heap.size w w' := by
  have HH : Hid (TripAt w a n (asc k0 (n * 3))) := h
  have hn := h.2.1
  clear h
  go_enter Tryd.func54, Tryd.ntmps54
  go_wp2
  go_loopw [1, 5] (fun q i wr => ∃ j : Nat, j ≤ n ∧ q = .int .i64 (k0 + (j : Int) * 3) ∧ i = .int .i64 (j : Int) ∧ Below w.heap.size w wr) (fun _ i _ => n - (intOf i).toNat)
  case atStart => exact ⟨0, Nat.zero_le _, by simp, rfl, Below.refl _ _⟩
  case round =>
    obtain ⟨j, hj, rfl, rfl, hb⟩ := hrel
    have HB : Hid (Below w.heap.size w wr) := hb
    by_cases hlt : j < n
    · have hj0 : (0 : Int) ≤ (j : Int) := by omega
      have hj1 : (j : Int) < (n : Int) := by omega
      rcases (HH.out.below hb (Nat.le_refl _)).2.2 with h0 | ⟨p1, o1, rfl, g1⟩
      · omega
      have e1 := g1 (j * 3) (by omega)
      have e2 := g1 (j * 3 + 1) (by omega)
      have e3 := g1 (j * 3 + 2) (by omega)
      obtain ⟨q, hq⟩ : ∃ q : Int, k0 + (j : Int) * 3 = q := ⟨_, rfl⟩
      have HQ : Hid (k0 + (j : Int) * 3 = q) := hq
      have hq0 : 0 ≤ q := by omega
      have hq1 : q ≤ 4611686021573115904 := by omega
      rw [asc_at (by omega), show k0 + ((j * 3 : Nat) : Int) = q by push_cast; omega] at e1
      rw [asc_at (by omega), show k0 + ((j * 3 + 1 : Nat) : Int) = q + 1 by push_cast; omega, ← Nat.add_assoc] at e2
      rw [asc_at (by omega), show k0 + ((j * 3 + 2 : Nat) : Int) = q + 1 + 1 by push_cast; omega, ← Nat.add_assoc] at e3
      rw [hq]
      clear g1 hq hb
      go_wp2
      exact ⟨⟨j + 1, by omega, by have := HQ.out; congr 1; push_cast; omega, by go_num, HB.out⟩, by simp [intOf]; omega⟩
    · obtain rfl : j = n := by omega
      go_wp2
      go_ret
      exact ⟨rfl, HB.out⟩
set_option maxHeartbeats 1000000 in
theorem heldIntS_o (a : Option Addr) (n c : Nat) (k0 : Int) (w : World) (hk0 : 0 ≤ k0) (hk1 : k0 ≤ 4611686018427387904) (hn : n ≤ 1048576) (h : IntAt w a n (asc k0 n)) :
    Calls Tryd.prog 55 #[.slice a n c, .int .i64 k0] w fun e w' => e = .returned (.int .i64 (k0 + (n : Int))) ∧ Below w.heap.size w w' := by
  have HH : Hid (IntAt w a n (asc k0 n)) := h
  clear h
  go_enter Tryd.func55, Tryd.ntmps55
  go_wp2
  go_loopw [1, 5] (fun q i wr => ∃ j : Nat, j ≤ n ∧ q = .int .i64 (k0 + (j : Int)) ∧ i = .int .i64 (j : Int) ∧ Below w.heap.size w wr) (fun _ i _ => n - (intOf i).toNat)
  case atStart => exact ⟨0, Nat.zero_le _, by simp, rfl, Below.refl _ _⟩
  case round =>
    obtain ⟨j, hj, rfl, rfl, hb⟩ := hrel
    have HB : Hid (Below w.heap.size w wr) := hb
    by_cases hlt : j < n
    · have hj0 : (0 : Int) ≤ (j : Int) := by omega
      have hj1 : (j : Int) < (n : Int) := by omega
      rcases (HH.out.below hb (Nat.le_refl _)).2.2 with h0 | ⟨p1, o1, rfl, g1⟩
      · omega
      have e1 := g1 j (by omega)
      obtain ⟨q, hq⟩ : ∃ q : Int, k0 + (j : Int) = q := ⟨_, rfl⟩
      have HQ : Hid (k0 + (j : Int) = q) := hq
      have hq0 : 0 ≤ q := by omega
      have hq1 : q ≤ 4611686021573115904 := by omega
      rw [asc_at (by omega), hq] at e1
      rw [hq]
      clear g1 hq hb
      go_wp2
      exact ⟨⟨j + 1, by omega, by have := HQ.out; congr 1; push_cast; omega, by go_num, HB.out⟩, by simp [intOf]; omega⟩
    · obtain rfl : j = n := by omega
      go_wp2
      go_ret
      exact ⟨rfl, HB.out⟩
end Go.Proofs.YtbdfopokimpeiaqDoor

/- The laws' own marking of Descs and of a Mem, with what is laid; and whether it is held. -/
namespace Go.Proofs.YtbdfopokimpeiaqDoor
open Go.ChangeShapes Go.WideShapes Go.ChangeAt Go.RowKit Go.Joins

/-- How many numbers the first i Descs hold. -/
def offN (ds : List DK) : Nat → Nat
  | 0 => 0
  | i + 1 => offN ds i + 3 + (dk ds i).en * 3 + (dk ds i).rn
theorem offN_le {ds : List DK} {n : Nat} (hs : Small n ds) : ∀ i, i ≤ n → offN ds i ≤ i * 4194307
  | 0, _ => by simp [offN]
  | i + 1, h => by
    have h1 := offN_le hs i (by omega)
    have h2 := hs i (by omega)
    unfold offN
    omega
/-- A Desc whose numbers are marked from k on. -/
def markD (k : Int) (d : DK) : DK := ⟨k, k + 1, d.en, asc (k + 1 + 1) (d.en * 3), k + 1 + 1 + (d.en : Int) * 3, d.rn, asc (k + 1 + 1 + (d.en : Int) * 3 + 1) d.rn⟩
def mixDs (k0 : Int) (ds : List DK) (n j : Nat) : List DK := (List.range n).map fun i => if i < j then markD (k0 + (offN ds i : Int)) (dk ds i) else dk ds i
def markDs (k0 : Int) (ds : List DK) (n : Nat) : List DK := mixDs k0 ds n n
theorem mixDs_at {k0 : Int} {ds : List DK} {n j i : Nat} (h : i < n) : dk (mixDs k0 ds n j) i = if i < j then markD (k0 + (offN ds i : Int)) (dk ds i) else dk ds i := dk_map h
theorem markDs_at {k0 : Int} {ds : List DK} {n i : Nat} (h : i < n) : dk (markDs k0 ds n) i = markD (k0 + (offN ds i : Int)) (dk ds i) := by
  unfold markDs
  rw [mixDs_at h, if_pos h]
theorem markDs_small {k0 : Int} {ds : List DK} {n : Nat} (h : Small n ds) : Small n (markDs k0 ds n) := fun i hi => by
  rw [markDs_at hi]
  exact h i hi
theorem DescO.congr {w : World} {base : Nat} {F : Nat → Value} {n : Nat} {ds ds' : List DK} (h : DescO w base F n ds) (hl : ds'.length = n) (he : ∀ i, i < n → dk ds' i = dk ds i) : DescO w base F n ds' := by
  obtain ⟨vs, h1, h2⟩ := h.descs
  exact ⟨hl, ⟨vs, h1, fun i hi => by rw [he i hi]; exact h2 i hi⟩, fun i hi => by rw [he i hi]; exact h.ents i hi, fun i hi => by rw [he i hi]; exact h.ints i hi, h.sep⟩
/-- While Descs are marked. -/
structure MarkDs (w : World) (base : Nat) (F : Nat → Value) (n : Nat) (ds : List DK) (wr : World) : Prop where
  own : DescO wr base F n ds
  bel : Below base w wr
  size : wr.heap.size = w.heap.size
  oth : ∀ b, (∀ a, 1 ≤ a → a < 2 + 2 * n → (F a).ownBlock ≠ some b) → wr.heap[b]? = w.heap[b]?
theorem atF_mark {vs : List Value} {k : Nat} {d : DK} {v u : Value} {q : Int} (h : AtF vs k d v u) : AtF (((vs.set (k * 5) (I q)).set (k * 5 + 1) (I (q + 1))).set (k * 5 + 3) (I (q + 1 + 1 + (d.en : Int) * 3))) k (markD q d) v u := by
  obtain ⟨h0, h1, h2, h3, h4⟩ := h
  have hl : k * 5 + 4 < vs.length := (List.getElem?_eq_some_iff.1 h4).1
  refine ⟨?_, ?_, ?_, ?_, ?_⟩
  · rw [List.getElem?_set_ne (by omega), List.getElem?_set_ne (by omega), List.getElem?_set_self (by omega)]; rfl
  · rw [List.getElem?_set_ne (by omega), List.getElem?_set_self (by simp; omega)]; rfl
  · rw [List.getElem?_set_ne (by omega), List.getElem?_set_ne (by omega), List.getElem?_set_ne (by omega)]; exact h2
  · rw [List.getElem?_set_self (by simp; omega)]; rfl
  · rw [List.getElem?_set_ne (by omega), List.getElem?_set_ne (by omega), List.getElem?_set_ne (by omega)]; exact h4
set_option maxHeartbeats 4000000 in
theorem markDescS_o (base : Nat) (F : Nat → Value) (n : Nat) (ds : List DK) (k0 : Int) (w : World) (hn : n ≤ 1048576) (hk0 : 0 ≤ k0) (hk1 : k0 ≤ 1099511627776) (hs : Small n ds) (h : DescO w base F n ds) :
    Calls Tryd.prog 26 #[F 1, .int .i64 k0] w fun e w' => e = .returned (.int .i64 (k0 + (offN ds n : Int))) ∧ MarkDs w base F n (markDs k0 ds n) w' := by
  have HS : Hid (Small n ds) := hs
  have ST0 : Hid (MarkDs w base F n (mixDs k0 ds n 0) w) := ⟨h.congr (by simp [mixDs]) (fun i hi => by rw [mixDs_at hi, if_neg (by omega)]), Below.refl _ _, rfl, fun _ _ => rfl⟩
  have HOFF : Hid (∀ i, i ≤ n → offN ds i ≤ i * 4194307) := offN_le hs
  obtain ⟨vs0, hd0, _⟩ := h.descs
  obtain ⟨fa, fc, hF1, hfc⟩ := owns_slice hd0
  have HF1 : Hid (F 1 = .slice fa n fc) := hF1
  rw [hF1]
  have HFG : Hid (0 < n → ∃ g, fa = some ⟨g, 0, none⟩ ∧ base ≤ g) := fun hn0 => by
    rcases owns_forms hd0 with ⟨_, h2⟩ | ⟨g, cap, h2⟩
    · omega
    · rw [hF1] at h2
      rw [hF1] at hd0
      cases h2
      exact ⟨g, rfl, (hd0.lt g rfl).1⟩
  clear h hs hd0 hF1
  go_enter Tryd.func26, Tryd.ntmps26
  go_wp2
  go_loopw [1, 5] (fun q i wr => ∃ (j : Nat), j ≤ n ∧ q = .int .i64 (k0 + (offN ds j : Int)) ∧ i = .int .i64 (j : Int) ∧ MarkDs w base F n (mixDs k0 ds n j) wr) (fun _ i _ => n - (intOf i).toNat)
  case atStart => exact ⟨0, Nat.zero_le _, by simp [offN], rfl, ST0.out⟩
  case round =>
    obtain ⟨k, hk, rfl, rfl, hst⟩ := hrel
    have ST : Hid (MarkDs w base F n (mixDs k0 ds n k) wr) := hst
    clear ST0 hst
    by_cases hlt : k < n
    · have hk0' : (0 : Int) ≤ (k : Int) := by omega
      have hk1' : (k : Int) < (n : Int) := by omega
      have hoff := HOFF.out k hk
      obtain ⟨q, hq⟩ : ∃ q : Int, k0 + (offN ds k : Int) = q := ⟨_, rfl⟩
      have HQ : Hid (k0 + (offN ds k : Int) = q) := hq
      have hq0 : 0 ≤ q := by omega
      have hq2 : q ≤ 4398050705409 + 1099511627776 := by omega
      obtain ⟨g, rfl, hbg⟩ := HFG.out (by omega)
      obtain ⟨vs, ho, hv⟩ := ST.out.own.descs
      have SP : Hid (Sep F (2 + 2 * n)) := ST.out.own.sep
      rw [HF1.out] at ho
      have hvk := hv k hlt
      rw [mixDs_at hlt, if_neg (Nat.lt_irrefl _)] at hvk
      have hek := ST.out.own.ents k hlt
      have hik := ST.out.own.ints k hlt
      rw [mixDs_at hlt, if_neg (Nat.lt_irrefl _)] at hek hik
      obtain ⟨V, hV⟩ : ∃ V, F (2 + 2 * k) = V := ⟨_, rfl⟩
      obtain ⟨U, hU⟩ : ∃ U, F (3 + 2 * k) = U := ⟨_, rfl⟩
      have HV : Hid (F (2 + 2 * k) = V) := hV
      have HU : Hid (F (3 + 2 * k) = U) := hU
      rw [hV, hU] at hvk
      rw [hV] at hek
      rw [hU] at hik
      have sV : Hid (V.ownBlock ≠ some g) := fun e => SP.out (2 + 2 * k) 1 (by omega) (by omega) (by omega) g (by rw [HV.out]; exact e) (by rw [HF1.out]; rfl)
      have sU : Hid (U.ownBlock ≠ some g) := fun e => SP.out (3 + 2 * k) 1 (by omega) (by omega) (by omega) g (by rw [HU.out]; exact e) (by rw [HF1.out]; rfl)
      have sUV : Hid (∀ b, U.ownBlock = some b → V.ownBlock ≠ some b) := fun b e => by rw [← HV.out]; exact SP.out (3 + 2 * k) (2 + 2 * k) (by omega) (by omega) (by omega) b (by rw [HU.out]; exact e)
      have hl : vs.length = n * 5 := ho.1
      have z0 := ho.frozenAt (k * 5)
      have z1 := ho.frozenAt (k * 5 + 1)
      have c2 := own_cellV ho hvk.2.2.1
      obtain ⟨u0, hu0⟩ : ∃ u, wr.cell? ⟨g, k * 5, none⟩ = some u := ⟨_, own_cellV ho hvk.1⟩
      obtain ⟨u1, hu1⟩ : ∃ u, wr.cell? ⟨g, k * 5 + 1, none⟩ = some u := ⟨_, own_cellV ho hvk.2.1⟩
      have O1 : Hid (((wr.setCell ⟨g, k * 5, none⟩ (I q)).setCell ⟨g, k * 5 + 1, none⟩ (I (q + 1))).ownsRow base 59 5 (.slice (some ⟨g, 0, none⟩) n fc) n ((vs.set (k * 5) (I q)).set (k * 5 + 1) (I (q + 1)))) := ((ho.stored _ (I q)).1.stored _ (I (q + 1))).1
      have E1 : Hid (((wr.setCell ⟨g, k * 5, none⟩ (I q)).setCell ⟨g, k * 5 + 1, none⟩ (I (q + 1))).ownsRow base 62 3 V (dk ds k).en ((dk ds k).es.map I)) := own_setCell_far (own_setCell_far hek sV.out _) sV.out _
      have I1 : Hid (((wr.setCell ⟨g, k * 5, none⟩ (I q)).setCell ⟨g, k * 5 + 1, none⟩ (I (q + 1))).ownsRow base 3 1 U (dk ds k).rn ((dk ds k).rs.map I)) := own_setCell_far (own_setCell_far hik sU.out _) sU.out _
      have HVS : Hid (AtF vs k (dk ds k) V U ∧ vs.length = n * 5 ∧ ∀ i, i < n → AtF vs i (dk (mixDs k0 ds n k) i) (F (2 + 2 * i)) (F (3 + 2 * i))) := ⟨hvk, hl, hv⟩
      obtain ⟨he, hr⟩ := HS.out k hlt
      obtain ⟨D, hD⟩ : ∃ D, dk ds k = D := ⟨_, rfl⟩
      have HD : Hid (dk ds k = D) := hD
      rw [hD] at E1 I1 he hr
      rw [hq]
      clear ho hv hvk hl hD hek hik hq hV hU
      go_wp2_with fail
      refine (markEntryS_o base V D.en (q + 1 + 1) D.es _ he (by omega) (by omega) E1.out).mono ?_
      rintro e w2 ⟨rfl, oe2, ob2⟩
      have O2 : Hid (w2.ownsRow base 59 5 (.slice (some ⟨g, 0, none⟩) n fc) n ((vs.set (k * 5) (I q)).set (k * 5 + 1) (I (q + 1)))) := owns_heap O1.out (fun b hb => ob2.oth b (fun e => by cases hb; exact sV.out e))
      have I2 : Hid (w2.ownsRow base 3 1 U D.rn (D.rs.map I)) := owns_heap I1.out (fun b hb => ob2.oth b (sUV.out b hb))
      have E2 : Hid (w2.ownsRow base 62 3 V D.en ((asc (q + 1 + 1) (D.en * 3)).map I)) := oe2
      have OB2 : Hid (OnlyV base V ((wr.setCell ⟨g, k * 5, none⟩ (I q)).setCell ⟨g, k * 5 + 1, none⟩ (I (q + 1))) w2) := ob2
      have y3 := O2.out.frozenAt (k * 5 + 3)
      obtain ⟨u3, hu3⟩ : ∃ u, w2.cell? ⟨g, k * 5 + 3, none⟩ = some u := ⟨_, own_cellV O2.out (List.getElem?_eq_getElem (by simp; have := HVS.out.2.1; omega))⟩
      have c4 : w2.cell? ⟨g, k * 5 + 4, none⟩ = some U := by
        refine own_cellV O2.out ?_
        rw [List.getElem?_set_ne (by omega), List.getElem?_set_ne (by omega)]
        exact HVS.out.1.2.2.2.2
      obtain ⟨r2, hr2⟩ : ∃ r2 : Int, q + 1 + 1 + (D.en : Int) * 3 = r2 := ⟨_, rfl⟩
      have HR2 : Hid (q + 1 + 1 + (D.en : Int) * 3 = r2) := hr2
      have hr20 : 0 ≤ r2 := by omega
      have hr21 : r2 ≤ q + 3145730 := by omega
      have I3 : Hid ((w2.setCell ⟨g, k * 5 + 3, none⟩ (I r2)).ownsRow base 3 1 U D.rn (D.rs.map I)) := own_setCell_far I2.out sU.out _
      rw [hr2]
      clear ob2 oe2 z0 z1 c2 hu0 hu1 hr2 E1 I1 I2
      go_wp2_with fail
      refine (markIntS_o base U D.rn (r2 + 1) D.rs _ hr (by omega) (by omega) I3.out).mono ?_
      rintro e w4 ⟨rfl, oi4, ob4⟩
      have NEXT : Hid (MarkDs w base F n (mixDs k0 ds n (k + 1)) w4) := by
        have OTH : ∀ b, b ≠ g → V.ownBlock ≠ some b → U.ownBlock ≠ some b → w4.heap[b]? = wr.heap[b]? := fun b h1 h2 h3 => by
          rw [ob4.oth b h3, Below.heap_setCell _ _ _ _ h1, OB2.out.oth b h2, Below.heap_setCell _ _ _ _ h1, Below.heap_setCell _ _ _ _ h1]
        have FAR : ∀ a, a < 2 + 2 * n → a ≠ 1 → a ≠ 2 + 2 * k → a ≠ 3 + 2 * k → ∀ b, (F a).ownBlock = some b → w4.heap[b]? = wr.heap[b]? := fun a ha h1 h2 h3 b hb =>
          OTH b (fun e => SP.out a 1 ha (by omega) h1 b hb (by rw [HF1.out, e]; rfl)) (by rw [← HV.out]; exact SP.out a (2 + 2 * k) ha (by omega) h2 b hb) (by rw [← HU.out]; exact SP.out a (3 + 2 * k) ha (by omega) h3 b hb)
        have MK : dk (mixDs k0 ds n (k + 1)) k = markD q D := by rw [mixDs_at hlt, if_pos (by omega), HQ.out, HD.out]
        have NE : ∀ i, i < n → i ≠ k → dk (mixDs k0 ds n (k + 1)) i = dk (mixDs k0 ds n k) i := fun i hi hik => by
          rw [mixDs_at hi, mixDs_at hi]
          by_cases h : i < k
          · rw [if_pos h, if_pos (by omega)]
          · rw [if_neg h, if_neg (by omega)]
        refine ⟨⟨by simp [mixDs], ⟨((vs.set (k * 5) (I q)).set (k * 5 + 1) (I (q + 1))).set (k * 5 + 3) (I r2), ?_, fun i hi => ?_⟩, fun i hi => ?_, fun i hi => ?_, SP.out⟩, ?_, ?_, fun b hb => ?_⟩
        · rw [HF1.out]
          exact owns_heap (O2.out.stored (k * 5 + 3) (I r2)).1 (fun b hb => ob4.oth b (fun e => by cases hb; exact sU.out e))
        · by_cases hik : i = k
          · subst hik
            rw [MK, HV.out, HU.out, ← HR2.out]
            have := HVS.out.1
            rw [HD.out] at this
            exact atF_mark this
          · rw [NE i hi hik]
            exact (((HVS.out.2.2 i hi).set (by omega) _).set (by omega) _).set (by omega) _
        · by_cases hik : i = k
          · subst hik
            rw [MK, HV.out]
            exact owns_heap (own_setCell_far E2.out sV.out _) (fun b hb => ob4.oth b (fun e => sUV.out b e hb))
          · rw [NE i hi hik]
            exact owns_heap (ST.out.own.ents i hi) (FAR _ (by omega) (by omega) (by omega) (by omega))
        · by_cases hik : i = k
          · subst hik
            rw [MK, HU.out]
            show w4.ownsRow base 3 1 U D.rn ((asc (q + 1 + 1 + (D.en : Int) * 3 + 1) D.rn).map I)
            rw [HR2.out]
            exact oi4
          · rw [NE i hi hik]
            exact owns_heap (ST.out.own.ints i hi) (FAR _ (by omega) (by omega) (by omega) (by omega))
        · exact ((((ST.out.bel.setCell hbg (I q)).setCell hbg (I (q + 1))).trans OB2.out.bel).setCell hbg (I r2)).trans ob4.bel
        · rw [ob4.size, size_setCell, OB2.out.size, size_setCell, size_setCell, ST.out.size]
        · rw [OTH b (fun e => hb 1 (by omega) (by omega) (by rw [HF1.out, e]; rfl)) (by rw [← HV.out]; exact hb _ (by omega) (by omega)) (by rw [← HU.out]; exact hb _ (by omega) (by omega))]
          exact ST.out.oth b hb
      have HR4 : Hid (r2 + 1 + (D.rn : Int) = k0 + (offN ds (k + 1) : Int)) := by
        show _ = _
        have e1 := HQ.out
        have e2 := HR2.out
        unfold offN
        rw [HD.out]
        push_cast
        omega
      clear ob4 oi4 y3 hu3 c4 O1 O2 E2 OB2 I3 HVS
      obtain ⟨r4, hr4⟩ : ∃ r4 : Int, r2 + 1 + (D.rn : Int) = r4 := ⟨_, rfl⟩
      have HR5 : Hid (r4 = k0 + (offN ds (k + 1) : Int)) := by show _ = _; rw [← hr4]; exact HR4.out
      rw [hr4]
      clear hr4 HR4
      go_wp2
      go_roundw
      case rel => exact ⟨k + 1, by omega, by rw [HR5.out], by go_num, NEXT.out⟩
      case measure => simp [intOf]; omega
    · obtain rfl : k = n := by omega
      go_wp2
      go_ret
      exact ⟨rfl, ST.out⟩
set_option maxHeartbeats 2000000 in
theorem markMem_o (base : Nat) (F : Nat → Value) (m : Nat) (fs : List Int) (n : Nat) (ds : List DK) (k0 : Int) (w : World) (hm : m ≤ 1048576) (hn : n ≤ 1048576) (hk0 : 0 ≤ k0) (hk1 : k0 ≤ 1048576) (hs : Small n ds) (h : MemO w base F m fs n ds) :
    Calls Tryd.prog 11 #[MemF F, .int .i64 k0] w fun e w' => e = .returned (.int .i64 (k0 + (m : Int) * 3 + (offN ds n : Int))) ∧ MemO w' base F m (asc k0 (m * 3)) n (markDs (k0 + (m : Int) * 3) ds n) ∧ Below (min base w.heap.size) w w' ∧ ∀ b, b < w.heap.size → (∀ a, a < 2 + 2 * n → (F a).ownBlock ≠ some b) → w'.heap[b]? = w.heap[b]? := by
  have HS : Hid (Small n ds) := hs
  obtain ⟨F0, hF0⟩ : ∃ x, F 0 = x := ⟨_, rfl⟩
  obtain ⟨F1, hF1⟩ : ∃ x, F 1 = x := ⟨_, rfl⟩
  have HF0 : Hid (F 0 = F0) := hF0
  have HF1 : Hid (F 1 = F1) := hF1
  obtain ⟨wa, wc, e0, _⟩ := owns_slice h.words
  obtain ⟨vs, hd, _⟩ := h.descO.descs
  obtain ⟨da, dc, e1, _⟩ := owns_slice hd
  rw [hF0] at e0
  rw [hF1] at e1
  obtain ⟨W, hW⟩ : ∃ W, w.alloc (.cells #[F0, F1] 29) = W := ⟨_, rfl⟩
  have hb0 : Below w.heap.size w W := by rw [← hW]; exact (Below.refl _ w).alloc (Nat.le_refl _) _
  have X0 : Hid (Box W w.heap.size #[F0, F1] 29) := by rw [← hW]; exact box_of w _ _
  have HM : Hid (MemO W base F m fs n ds) := h.below hb0 (Nat.le_refl _)
  have HBK : Hid (∀ a, a < 2 + 2 * n → ∀ k, (F a).ownBlock = some k → base ≤ k ∧ k < w.heap.size) := h.blk
  have HB0 : Hid (Below w.heap.size w W) := hb0
  have HW : Hid (w.alloc (.cells #[F0, F1] 29) = W) := hW
  rw [MemF, hF0, hF1]
  subst e0 e1
  clear h hW hb0 hs hF0 hF1 hd
  go_enter Tryd.func11, Tryd.ntmps11
  go_wp2_with fail
  rw [HW.out]
  have MW := HM.out.words
  rw [HF0.out] at MW
  refine (markWordS_o base _ m k0 fs _ hm hk0 (by omega) MW).mono ?_
  rintro e w1 ⟨rfl, ow1, ob1⟩
  have HO1 : Hid (w1.ownsRow base 42 3 (.slice wa m wc) m ((asc k0 (m * 3)).map I)) := ow1
  have HD1 : Hid (DescO w1 base F n ds) := HM.out.descO.heap fun a h1 ha k hk => ob1.oth k (fun e => HM.out.descO.sep 0 a (by omega) ha (by omega) k (by rw [HF0.out]; exact e) hk)
  have OB1 : Hid (OnlyV base (.slice wa m wc) W w1) := ob1
  have X1 : Hid (Box w1 w.heap.size #[.slice wa m wc, .slice da n dc] 29) := by
    show Box _ _ _ _
    unfold Box
    rw [ob1.oth w.heap.size (fun e => by have := HBK.out 0 (by omega) w.heap.size (by rw [HF0.out]; exact e); omega)]
    exact X0.out
  obtain ⟨x0, x1, z0, z1⟩ := X1.out.two
  obtain ⟨q, hq⟩ : ∃ q : Int, k0 + (m : Int) * 3 = q := ⟨_, rfl⟩
  rw [hq]
  clear ow1 ob1 MW
  go_wp2_with fail
  rw [← HF1.out]
  refine (markDescS_o base F n ds q _ hn (by omega) (by omega) HS.out HD1.out).mono ?_
  rintro e w2 ⟨rfl, st2⟩
  have HST : Hid (MarkDs w1 base F n (markDs q ds n) w2) := st2
  have HSP : Hid (Sep F (2 + 2 * n)) := st2.own.sep
  clear st2 x0 x1 z0 z1
  go_wp2
  go_ret
  rw [hq]
  refine ⟨rfl, ⟨?_, HST.out.own⟩, ?_, fun b hb hn' => ?_⟩
  · rw [HF0.out]
    exact owns_heap HO1.out (fun b hb => HST.out.oth b (fun a h1 ha e => HSP.out 0 a (by omega) ha (by omega) b (by rw [HF0.out]; exact hb) e))
  · exact ((HB0.out.mono (Nat.min_le_right _ _)).trans (OB1.out.bel.mono (Nat.min_le_left _ _))).trans (HST.out.bel.mono (Nat.min_le_left _ _))
  · rw [HST.out.oth b (fun a h1 ha => hn' a ha), OB1.out.oth b (by rw [← HF0.out]; exact hn' 0 (by omega)), HB0.out.block b hb]
set_option maxHeartbeats 2000000 in
theorem heldDescS_o (da : Option Addr) (n dc : Nat) (ds : List DK) (k0 : Int) (w : World) (hk0 : 0 ≤ k0) (hk1 : k0 ≤ 1099511627776) (hs : Small n ds) (h : DescAt w da n (markDs k0 ds n)) :
    Calls Tryd.prog 28 #[.slice da n dc, .int .i64 k0] w fun e w' => e = .returned (.int .i64 (k0 + (offN ds n : Int))) ∧ Below w.heap.size w w' := by
  have HS : Hid (Small n ds) := hs
  have HH : Hid (DescAt w da n (markDs k0 ds n)) := h
  have hn := h.2.1
  have HOFF : Hid (∀ i, i ≤ n → offN ds i ≤ i * 4194307) := offN_le hs
  clear h hs
  go_enter Tryd.func28, Tryd.ntmps28
  go_wp2
  go_loopw [1, 5] (fun q i wr => ∃ (j : Nat), j ≤ n ∧ q = .int .i64 (k0 + (offN ds j : Int)) ∧ i = .int .i64 (j : Int) ∧ Below w.heap.size w wr) (fun _ i _ => n - (intOf i).toNat)
  case atStart => exact ⟨0, Nat.zero_le _, by simp [offN], rfl, Below.refl _ _⟩
  case round =>
    obtain ⟨k, hk, rfl, rfl, hb⟩ := hrel
    have HB : Hid (Below w.heap.size w wr) := hb
    by_cases hlt : k < n
    · have hk0' : (0 : Int) ≤ (k : Int) := by omega
      have hk1' : (k : Int) < (n : Int) := by omega
      have hoff := HOFF.out k hk
      obtain ⟨q, hq⟩ : ∃ q : Int, k0 + (offN ds k : Int) = q := ⟨_, rfl⟩
      have HQ : Hid (k0 + (offN ds k : Int) = q) := hq
      have hq0 : 0 ≤ q := by omega
      have hq2 : q ≤ 4398050705409 + 1099511627776 := by omega
      rcases (HH.out.below hb (Nat.le_refl _)).2.2 with h0 | ⟨p1, o1, rfl, g1⟩
      · omega
      obtain ⟨ea, ec, ra, rc, h5, h6, h7⟩ := g1 k hlt
      obtain ⟨he, hr⟩ := HS.out k hlt
      rw [markDs_at hlt, hq] at h5 h6 h7
      obtain ⟨D, hD⟩ : ∃ D, dk ds k = D := ⟨_, rfl⟩
      have HD : Hid (dk ds k = D) := hD
      rw [hD] at h5 h6 h7 he hr
      have H5 : Hid (Five wr p1 (o1 + k * 5) (markD q D) ea ec ra rc) := h5
      have H6 : Hid (TripAt wr ea D.en (asc (q + 1 + 1) (D.en * 3))) := h6
      have H7 : Hid (IntAt wr ra D.rn (asc (q + 1 + 1 + (D.en : Int) * 3 + 1) D.rn)) := h7
      obtain ⟨f0, f1, f2, f3, f4⟩ := h5
      simp only [markD] at f0 f1 f2 f3 f4
      rw [hq]
      clear g1 hq hb hD h6 h7
      go_wp2_with fail
      refine (heldEntryS_o ea D.en ec (q + 1 + 1) _ (by omega) (by omega) H6.out).mono ?_
      rintro e w2 ⟨rfl, hb2⟩
      have HB2 : Hid (Below w.heap.size w w2) := HB.out.trans (hb2.mono HB.out.size)
      obtain ⟨y0, y1, y2, y3, y4⟩ := H5.out.below hb2 (Nat.le_refl _)
      simp only [markD] at y0 y1 y2 y3 y4
      obtain ⟨r2, hr2⟩ : ∃ r2 : Int, q + 1 + 1 + (D.en : Int) * 3 = r2 := ⟨_, rfl⟩
      have HR2 : Hid (q + 1 + 1 + (D.en : Int) * 3 = r2) := hr2
      have hr20 : 0 ≤ r2 := by omega
      have hr21 : r2 ≤ q + 3145730 := by omega
      have hr22 : ¬ r2 < 0 := by omega
      have I2 : Hid (IntAt w2 ra D.rn (asc (r2 + 1) D.rn)) := by show IntAt _ _ _ _; rw [← hr2]; exact H7.out.below hb2 (Nat.le_refl _)
      rw [hr2] at y3 ⊢
      clear f0 f1 f2 f3 f4 hr2 hb2
      go_wp2_with fail
      refine (heldIntS_o ra D.rn rc (r2 + 1) _ (by omega) (by omega) hr I2.out).mono ?_
      rintro e w4 ⟨rfl, hb4⟩
      have HB4 : Hid (Below w.heap.size w w4) := HB2.out.trans (hb4.mono HB2.out.size)
      obtain ⟨r4, hr4⟩ : ∃ r4 : Int, r2 + 1 + (D.rn : Int) = r4 := ⟨_, rfl⟩
      have hr40 : ¬ r4 < 0 := by omega
      have HR5 : Hid (r4 = k0 + (offN ds (k + 1) : Int)) := by
        show _ = _
        have e1 := HQ.out
        have e2 := HR2.out
        unfold offN
        rw [HD.out]
        push_cast
        omega
      rw [hr4]
      clear hr4 hb4 y0 y1 y2 y3 y4
      go_wp2
      exact ⟨⟨k + 1, by omega, by rw [HR5.out], by go_num, HB4.out⟩, by simp [intOf]; omega⟩
    · obtain rfl : k = n := by omega
      go_wp2
      go_ret
      exact ⟨rfl, HB.out⟩
set_option maxHeartbeats 2000000 in
theorem heldMem_o (wa : Option Addr) (m wc : Nat) (da : Option Addr) (n dc : Nat) (ds : List DK) (k0 : Int) (w : World) (hk0 : 0 ≤ k0) (hk1 : k0 ≤ 1048576) (hs : Small n ds) (h1 : TripAt w wa m (asc k0 (m * 3))) (h2 : DescAt w da n (markDs (k0 + (m : Int) * 3) ds n)) :
    Calls Tryd.prog 12 #[MemV wa m wc da n dc, .int .i64 k0] w fun e w' => e = .returned (.int .i64 (k0 + (m : Int) * 3 + (offN ds n : Int))) ∧ Below w.heap.size w w' := by
  have HS : Hid (Small n ds) := hs
  have hm := h1.2.1
  have hn := h2.2.1
  have hoff := offN_le hs n (Nat.le_refl _)
  obtain ⟨W, hW⟩ : ∃ W, w.alloc (.cells #[.slice wa m wc, .slice da n dc] 29) = W := ⟨_, rfl⟩
  have hb0 : Below w.heap.size w W := by rw [← hW]; exact (Below.refl _ w).alloc (Nat.le_refl _) _
  have X0 : Hid (Box W w.heap.size #[.slice wa m wc, .slice da n dc] 29) := by rw [← hW]; exact box_of w _ _
  have H1 : Hid (TripAt W wa m (asc k0 (m * 3))) := h1.below hb0 (Nat.le_refl _)
  obtain ⟨q, hq⟩ : ∃ q : Int, k0 + (m : Int) * 3 = q := ⟨_, rfl⟩
  have hq0 : 0 ≤ q := by omega
  have hq1 : q ≤ 4194304 := by omega
  have hq2 : ¬ q < 0 := by omega
  rw [hq] at h2 ⊢
  have H2 : Hid (DescAt W da n (markDs q ds n)) := h2.below hb0 (Nat.le_refl _)
  have HB0 : Hid (Below w.heap.size w W) := hb0
  have HQ : Hid (k0 + (m : Int) * 3 = q) := hq
  have HW : Hid (w.alloc (.cells #[.slice wa m wc, .slice da n dc] 29) = W) := hW
  clear h1 h2 hW hb0 hs hq
  go_enter Tryd.func12, Tryd.ntmps12
  go_wp2_with fail
  rw [HW.out]
  refine (heldWordS_o wa m wc k0 _ hk0 (by omega) H1.out).mono ?_
  rintro e w1 ⟨rfl, hb1⟩
  rw [HQ.out]
  have HB1 : Hid (Below w.heap.size w w1) := HB0.out.trans (hb1.mono HB0.out.size)
  obtain ⟨x0, x1, _, _⟩ := (X0.out.below hb1 X0.out.lt).two
  have D1 : Hid (DescAt w1 da n (markDs q ds n)) := H2.out.below hb1 (Nat.le_refl _)
  clear hb1
  go_wp2_with fail
  refine (heldDescS_o da n dc ds q _ hq0 (by omega) HS.out D1.out).mono ?_
  rintro e w2 ⟨rfl, hb2⟩
  have HB2 : Hid (Below w.heap.size w w2) := HB1.out.trans (hb2.mono HB1.out.size)
  have hr : ¬ q + (offN ds n : Int) < 0 := by omega
  clear hb2 x0 x1
  go_wp2
  go_ret
  exact ⟨rfl, HB2.out⟩
end Go.Proofs.YtbdfopokimpeiaqDoor

/- The table of names, from the row's condition to memory and back. -/
namespace Go.Proofs.YtbdfopokimpeiaqDoor
open Go.ChangeShapes Go.WideShapes Go.ChangeAt Go.RowKit

def namesD {H : Type} : DataW H := .agg (nmL.map fun p => .agg [.lit (.int .i64 p.1), .lit (.int .i64 p.2)])

theorem reads_names {H : Type} (enc : TypeId × Value → H) (W : World) (base : Nat) (sp : Nat → Bool) (held : Bool) : DataW.trod enc Tryd.prog W base sp held 4 80 nmCells.toList = some (namesD, []) := by kernel_rfl

theorem cells_name : Tryd.prog.cellsOf 76 = 2 := by kernel_rfl
theorem cells_names : Tryd.prog.cellsOf 80 = 40 := by kernel_rfl

theorem nm_cells (i : Nat) (hi : i < 20) (r : Nat) (hr : r < 2) : nmCells.toList[i * 2 + r]? = [Value.int .i64 (nmA i), .int .i64 (nmB i)][r]? := by
  have h : i = 0 ∨ i = 1 ∨ i = 2 ∨ i = 3 ∨ i = 4 ∨ i = 5 ∨ i = 6 ∨ i = 7 ∨ i = 8 ∨ i = 9 ∨ i = 10 ∨ i = 11 ∨ i = 12 ∨ i = 13 ∨ i = 14 ∨ i = 15 ∨ i = 16 ∨ i = 17 ∨ i = 18 ∨ i = 19 := by omega
  have h2 : r = 0 ∨ r = 1 := by omega
  rcases h2 with rfl | rfl <;> rcases h with rfl | rfl | rfl | rfl | rfl | rfl | rfl | rfl | rfl | rfl | rfl | rfl | rfl | rfl | rfl | rfl | rfl | rfl | rfl | rfl <;> rfl
theorem nm_data {H : Type} (i : Nat) (hi : i < 20) : (nmL.map fun p => (DataW.agg [.lit (.int .i64 p.1), .lit (.int .i64 p.2)] : DataW H))[i]? = some (Lib.tabData .i64 [nmA i, nmB i]) := by
  have h : i = 0 ∨ i = 1 ∨ i = 2 ∨ i = 3 ∨ i = 4 ∨ i = 5 ∨ i = 6 ∨ i = 7 ∨ i = 8 ∨ i = 9 ∨ i = 10 ∨ i = 11 ∨ i = 12 ∨ i = 13 ∨ i = 14 ∨ i = 15 ∨ i = 16 ∨ i = 17 ∨ i = 18 ∨ i = 19 := by omega
  rcases h with rfl | rfl | rfl | rfl | rfl | rfl | rfl | rfl | rfl | rfl | rfl | rfl | rfl | rfl | rfl | rfl | rfl | rfl | rfl | rfl <;> rfl

theorem names_of_trod {H : Type} {enc : TypeId × Value → H} {w : World} {base : Nat} {sp : Nat → Bool} {held : Bool} {fuel : Nat} {cs : List Value} {p : List MemPlace}
    (h : DataW.trod enc Tryd.prog w base sp held fuel 80 cs = some (namesD, p)) : cs = nmCells.toList := by
  have hl : cs.length = 40 := by
    cases fuel with
    | zero => simp [DataW.trod] at h
    | succ fuel =>
      simp only [DataW.trod, Tryd.underlying80, cells_names, cells_name] at h
      split at h
      · rename_i hl
        omega
      · cases h
  have key : ∀ i, i < 20 → (cs.drop (i * 2)).take 2 = [Value.int .i64 (nmA i), .int .i64 (nmB i)] := by
    intro i hi
    obtain ⟨fuel', d, q, hd, ht⟩ := Lib.array_elem Tryd.underlying80 h i hi
    rw [nm_data i hi] at hd
    obtain rfl := Option.some.inj hd
    rw [cells_name] at ht
    exact Lib.cells_of_tab Tryd.underlying76 Tryd.underlying3 cells_int cells_name ht
  apply List.ext_getElem?
  intro j
  by_cases hj : j < 40
  · obtain ⟨i, r, rfl, hi, hr⟩ : ∃ i r, j = i * 2 + r ∧ i < 20 ∧ r < 2 := ⟨j / 2, j % 2, by omega, by omega, by omega⟩
    rw [nm_cells i hi r hr, ← key i hi]
    simp [hr]
  · rw [List.getElem?_eq_none (by omega), List.getElem?_eq_none (by rw [show nmCells.toList.length = 40 by decide +kernel]; omega)]

theorem names_of_laid {W : World} (h : laidMet Tryd.prog [("loop.example/g00468/impl.wordNames", namesD)] W) : Names W := by
  obtain ⟨ps, ⟨g', t', cs, fuel, p, q, hg', ht', hvar, hd, _, _⟩, _⟩ := h
  obtain rfl := Option.some.inj (gNames.symm.trans hg')
  obtain rfl := Option.some.inj (gNamesType.symm.trans ht')
  have hc := names_of_trod hd
  unfold Names
  rw [hvar]
  congr 1
  cases cs
  simp_all

/-- What the table reads as, ahead of the call and behind it. -/
theorem vars_open {H : Type} {enc : TypeId × Value → H} {W : World} {sp : Nat → Bool} {gs : List (DataW H)} {q : List MemPlace} (hN : Names W)
    (hV : DataW.TrodVars enc Tryd.prog W sp ["loop.example/g00468/impl.wordNames"] gs q) : gs = [namesD] := by
  obtain ⟨g, t, cs, fuel, d, p', rfl, hg, ht, hvar, hd, rfl⟩ := trodVars_one hV
  obtain rfl := Option.some.inj (gNames.symm.trans hg)
  obtain rfl := Option.some.inj (gNamesType.symm.trans ht)
  obtain rfl : cs = nmCells := Option.some.inj (hvar.symm.trans hN)
  obtain ⟨rfl, rfl⟩ := DataW.Trod.unique (v := .agg nmCells) ⟨fuel, hd⟩ ⟨4, reads_names enc W _ _ _⟩
  rfl
theorem vars_shut {H : Type} {enc : TypeId × Value → H} {W : World} (sp : Nat → Bool) (hN : Names W) :
    DataW.TrodVars enc Tryd.prog W sp ["loop.example/g00468/impl.wordNames"] [namesD] (MemPlace.row ⟨0, 0, none⟩ nmCells.size ++ []) :=
  trodVars_mk1 gNames gNamesType hN (reads_names enc W _ _ _)
end Go.Proofs.YtbdfopokimpeiaqDoor
