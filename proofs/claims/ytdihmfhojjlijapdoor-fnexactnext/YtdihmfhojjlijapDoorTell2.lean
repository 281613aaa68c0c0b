/- The program's teller: a word stays, grows, shrinks. -/
import Derived.Test.YtdihmfhojjlijapDoorTell
namespace Go.Proofs.YtdihmfhojjlijapDoor
open Go.ChangeShapes Go.WideShapes Go.ChangeAt Go.RowKit

/-- Where a teller stands: what was told, the names and pairs, what is kept since Wb. -/
structure Sits (n₀ : Nat) (ts : List TypeId) (J : List Ent → World → Prop) (a : Option Addr) (n : Nat) (fs : List Int) (W0 Wb W : World) (pre : List Ent) : Prop where
  base : Base W0 a n fs
  low : Below W0.heap.size W0 W
  j : J pre W
  kp : Kp n₀ ts Wb W
theorem Sits.on {ts : List TypeId} {J : List Ent → World → Prop} {a : Option Addr} {n : Nat} {fs : List Int} {W0 Wb W W' : World} {pre : List Ent} (h : Sits W0.heap.size ts J a n fs W0 Wb W pre) (hj : Grows J) (hb : Below W.heap.size W W') : Sits W0.heap.size ts J a n fs W0 Wb W' pre :=
  ⟨h.base, h.low.trans (hb.mono h.low.size), hj _ _ _ h.j (far_below hb none), h.kp.trans (Kp.of_below hb h.low.size)⟩
theorem Sits.names {ts : List TypeId} {J : List Ent → World → Prop} {a : Option Addr} {n n₀ : Nat} {fs : List Int} {W0 Wb W : World} {pre : List Ent} (h : Sits n₀ ts J a n fs W0 Wb W pre) : Names W := (h.base.on h.low).names
theorem Sits.pairs {ts : List TypeId} {J : List Ent → World → Prop} {a : Option Addr} {n n₀ : Nat} {fs : List Int} {W0 Wb W : World} {pre : List Ent} (h : Sits n₀ ts J a n fs W0 Wb W pre) : PairAt W a n fs := (h.base.on h.low).pairs
theorem Sits.told {ts : List TypeId} {J : List Ent → World → Prop} {a : Option Addr} {n : Nat} {fs : List Int} {W0 Wb W W' : World} {pre q : List Ent} (h : Sits W0.heap.size ts J a n fs W0 Wb W pre) (hj : J q W') (hk : Kp W0.heap.size ts W W') : Sits W0.heap.size ts J a n fs W0 Wb W' q :=
  ⟨h.base, h.low.trans hk.low, hj, h.kp.trans hk⟩
/-- The teller's own box. -/
abbrev tellCells (a : Option Addr) (n c l : Nat) : Obj := .cells #[.slice a n c, .func (.yield l) #[] #[]] 65 (0, 0)
abbrev TBox (a : Option Addr) (n c l : Nat) (B : Nat) (w' : World) : Prop := w'.cell? ⟨B, 0, none⟩ = some (.slice a n c) ∧ w'.cell? ⟨B, 1, none⟩ = some (.func (.yield l) #[] #[])
theorem tbox_of {a : Option Addr} {n c l B : Nat} {w' : World} (h : w'.heap[B]? = some (tellCells a n c l)) : TBox a n c l B w' := ⟨by simp [World.cell?, h], by simp [World.cell?, h]⟩

set_option maxRecDepth 100000 in
set_option maxHeartbeats 2000000 in
theorem stays_any (a : Option Addr) (n c l : Nat) (p : Int) (fs : List Int) (go : Ent → Bool) (ts : List TypeId) (J Jx : List Ent → World → Prop) (pre : List Ent) (W0 W : World)
    (hG : Goes l go W0.heap.size ts J Jx) (hB : Base W0 a n fs) (hW : Below W0.heap.size W0 W) (hJ : J pre W) :
    Calls Tryd.prog 38 #[.agg #[.slice a n c, .func (.yield l) #[] #[]], .int .i64 p] W fun e W' => ∃ b, e = .returned (.bool b) ∧ Fin go W0.heap.size ts J Jx W [stayS fs n p] pre b W' := by
  have HG : Hid (Goes l go W0.heap.size ts J Jx) := hG
  obtain ⟨Wd, hWd⟩ : ∃ Wd, (W.alloc (.cells #[.slice a n c, .func (.yield l) #[] #[]] 65)).drew = Wd := ⟨_, rfl⟩
  have hx : Below W.heap.size W Wd := by rw [← hWd]; exact ((Below.refl _ _).alloc (Nat.le_refl _) _).drew
  have bx : Wd.heap[W.heap.size]? = some (tellCells a n c l) := by rw [← hWd]; exact World.alloc_heap_new W _
  have HX : Hid (Wd.heap[W.heap.size]? = some (tellCells a n c l)) := bx
  have HS : Hid (Sits W0.heap.size ts J a n fs W0 W Wd pre) := (show Sits W0.heap.size ts J a n fs W0 W W pre from ⟨hB, hW, hJ, Kp.of_below (Below.refl _ _) hW.size⟩).on hG.gj hx
  have K0 : Hid (TBox a n c l W.heap.size Wd) := tbox_of bx
  clear hG hB hW hJ hx bx
  go_enter Tryd.func38, Tryd.ntmps38
  go_wp2_with fail
  go_region_held3 (fun w' => w'.cell? ⟨W.heap.size, 0, none⟩ = some (.slice a n c) ∧ w'.cell? ⟨W.heap.size, 1, none⟩ = some (.func (.yield l) #[] #[]))
    (first | (with_reducible exact K2.out) | (with_reducible exact K1.out) | (with_reducible exact K0.out) | exact hWd ▸ K0.out | go_keep)
    (first
    | (go_at_call 59
       refine (knownAt_any a n c p fs _ (by first | exact HS.out.pairs | exact hWd ▸ HS.out.pairs)).mono ?_
       rintro e w1 ⟨rfl, hb1⟩
       have HS1 : Hid (Sits W0.heap.size ts J a n fs W0 W w1 pre) := HS.out.on HG.out.gj (by first | exact hb1 | exact hWd ▸ hb1)
       have K1h : Hid (w1.heap[W.heap.size]? = some (tellCells a n c l)) := (((by first | exact hb1 | exact hWd ▸ hb1 : Below Wd.heap.size Wd w1).block _ (Array.getElem?_eq_some_iff.1 HX.out).1).trans HX.out)
       have K1 : Hid (TBox a n c l W.heap.size w1) := tbox_of K1h.out
       clear hb1)
    | (go_at_call 51
       refine (becomes_any a n c l p (rd fs n p) fs go ts J Jx pre W0 _ HG.out HS1.out.base HS1.out.low HS1.out.j).mono ?_
       rintro e w2 ⟨b, rfl, hF⟩
       have HF : Hid (Fin go W0.heap.size ts J Jx W [becS fs n p (rd fs n p)] pre b w2) := Fin.kp HS1.out.kp hF
       have K2 : Hid (TBox a n c l W.heap.size w2) := tbox_of (hF.kx.keep _ _ _ _ K1h.out (HG.out.tt _ (by simp)))
       clear hF))
  go_wp2
  go_ret
  exact ⟨b, rfl, HF.out⟩

theorem wrapEq (x : Int) : IntKind.i64.wrap x = wrap64 x := by rw [IntKind.wrap_i64]; unfold wrap64; rfl

set_option maxRecDepth 100000 in
set_option maxHeartbeats 2000000 in
theorem grows_any (a : Option Addr) (n c l : Nat) (p : Int) (fs : List Int) (go : Ent → Bool) (ts : List TypeId) (J Jx : List Ent → World → Prop) (pre : List Ent) (W0 W : World)
    (hG : Goes l go W0.heap.size ts J Jx) (hB : Base W0 a n fs) (hW : Below W0.heap.size W0 W) (hJ : J pre W) :
    Calls Tryd.prog 43 #[.agg #[.slice a n c, .func (.yield l) #[] #[]], .int .i64 p] W fun e W' => ∃ b, e = .returned (.bool b) ∧ Fin go W0.heap.size ts J Jx W [growS fs n p] pre b W' := by
  have HG : Hid (Goes l go W0.heap.size ts J Jx) := hG
  obtain ⟨Wd, hWd⟩ : ∃ Wd, (W.alloc (.cells #[.slice a n c, .func (.yield l) #[] #[]] 65)).drew = Wd := ⟨_, rfl⟩
  have hx : Below W.heap.size W Wd := by rw [← hWd]; exact ((Below.refl _ _).alloc (Nat.le_refl _) _).drew
  have bx : Wd.heap[W.heap.size]? = some (tellCells a n c l) := by rw [← hWd]; exact World.alloc_heap_new W _
  have HX : Hid (Wd.heap[W.heap.size]? = some (tellCells a n c l)) := bx
  have HS : Hid (Sits W0.heap.size ts J a n fs W0 W Wd pre) := (show Sits W0.heap.size ts J a n fs W0 W W pre from ⟨hB, hW, hJ, Kp.of_below (Below.refl _ _) hW.size⟩).on hG.gj hx
  have K0 : Hid (TBox a n c l W.heap.size Wd) := tbox_of bx
  clear hG hB hW hJ hx bx
  go_enter Tryd.func43, Tryd.ntmps43
  go_wp2_with fail
  go_region_held3 (fun w' => w'.cell? ⟨W.heap.size, 0, none⟩ = some (.slice a n c) ∧ w'.cell? ⟨W.heap.size, 1, none⟩ = some (.func (.yield l) #[] #[]))
    (first | (with_reducible exact K2.out) | (with_reducible exact K1.out) | (with_reducible exact K0.out) | exact hWd ▸ K0.out | go_keep)
    (first
    | (go_at_call 59
       refine (knownAt_any a n c p fs _ (by first | exact HS.out.pairs | exact hWd ▸ HS.out.pairs)).mono ?_
       rintro e w1 ⟨rfl, hb1⟩
       have HS1 : Hid (Sits W0.heap.size ts J a n fs W0 W w1 pre) := HS.out.on HG.out.gj (by first | exact hb1 | exact hWd ▸ hb1)
       have K1h : Hid (w1.heap[W.heap.size]? = some (tellCells a n c l)) := (((by first | exact hb1 | exact hWd ▸ hb1 : Below Wd.heap.size Wd w1).block _ (Array.getElem?_eq_some_iff.1 HX.out).1).trans HX.out)
       have K1 : Hid (TBox a n c l W.heap.size w1) := tbox_of K1h.out
       clear hb1)
    | (go_at_call 51
       (try rw [wrapEq])
       refine (becomes_any a n c l p (wrap64 (rd fs n p + 1)) fs go ts J Jx pre W0 _ HG.out HS1.out.base HS1.out.low HS1.out.j).mono ?_
       rintro e w2 ⟨b, rfl, hF⟩
       have HF : Hid (Fin go W0.heap.size ts J Jx W [becS fs n p (wrap64 (rd fs n p + 1))] pre b w2) := Fin.kp HS1.out.kp hF
       have K2 : Hid (TBox a n c l W.heap.size w2) := tbox_of (hF.kx.keep _ _ _ _ K1h.out (HG.out.tt _ (by simp)))
       clear hF))
  go_wp2
  go_ret
  exact ⟨b, rfl, HF.out⟩


set_option maxRecDepth 100000 in
set_option maxHeartbeats 2000000 in
theorem shrinks_any (a : Option Addr) (n c l : Nat) (p : Int) (fs : List Int) (go : Ent → Bool) (ts : List TypeId) (J Jx : List Ent → World → Prop) (pre : List Ent) (W0 W : World)
    (hG : Goes l go W0.heap.size ts J Jx) (hB : Base W0 a n fs) (hW : Below W0.heap.size W0 W) (hJ : J pre W) :
    Calls Tryd.prog 58 #[.agg #[.slice a n c, .func (.yield l) #[] #[]], .int .i64 p] W fun e W' => ∃ b, e = .returned (.bool b) ∧ Fin go W0.heap.size ts J Jx W [shrinkS fs n p] pre b W' := by
  have HG : Hid (Goes l go W0.heap.size ts J Jx) := hG
  obtain ⟨Wd, hWd⟩ : ∃ Wd, (W.alloc (.cells #[.slice a n c, .func (.yield l) #[] #[]] 65)).drew = Wd := ⟨_, rfl⟩
  have hx : Below W.heap.size W Wd := by rw [← hWd]; exact ((Below.refl _ _).alloc (Nat.le_refl _) _).drew
  have bx : Wd.heap[W.heap.size]? = some (tellCells a n c l) := by rw [← hWd]; exact World.alloc_heap_new W _
  have HX : Hid (Wd.heap[W.heap.size]? = some (tellCells a n c l)) := bx
  have HS : Hid (Sits W0.heap.size ts J a n fs W0 W Wd pre) := (show Sits W0.heap.size ts J a n fs W0 W W pre from ⟨hB, hW, hJ, Kp.of_below (Below.refl _ _) hW.size⟩).on hG.gj hx
  have K0 : Hid (TBox a n c l W.heap.size Wd) := tbox_of bx
  clear hG hB hW hJ hx bx
  go_enter Tryd.func58, Tryd.ntmps58
  go_wp2_with fail
  go_region_held3 (fun w' => w'.cell? ⟨W.heap.size, 0, none⟩ = some (.slice a n c) ∧ w'.cell? ⟨W.heap.size, 1, none⟩ = some (.func (.yield l) #[] #[]))
    (first | (with_reducible exact K2.out) | (with_reducible exact K1.out) | (with_reducible exact K0.out) | exact hWd ▸ K0.out | go_keep)
    (first
    | (go_at_call 59
       refine (knownAt_any a n c p fs _ (by first | exact HS.out.pairs | exact hWd ▸ HS.out.pairs)).mono ?_
       rintro e w1 ⟨rfl, hb1⟩
       have HS1 : Hid (Sits W0.heap.size ts J a n fs W0 W w1 pre) := HS.out.on HG.out.gj (by first | exact hb1 | exact hWd ▸ hb1)
       have K1h : Hid (w1.heap[W.heap.size]? = some (tellCells a n c l)) := (((by first | exact hb1 | exact hWd ▸ hb1 : Below Wd.heap.size Wd w1).block _ (Array.getElem?_eq_some_iff.1 HX.out).1).trans HX.out)
       have K1 : Hid (TBox a n c l W.heap.size w1) := tbox_of K1h.out
       clear hb1)
    | (go_at_call 51
       (generalize hm : (if rd fs n p < 1 then (1 : Int) else rd fs n p) = m)
       have HM : Hid ((if rd fs n p < 1 then (1 : Int) else rd fs n p) = m) := hm
       clear hm
       (try rw [wrapEq])
       refine (becomes_any a n c l p (wrap64 (m - 1)) fs go ts J Jx pre W0 _ HG.out HS1.out.base HS1.out.low HS1.out.j).mono ?_
       rintro e w2 ⟨b, rfl, hF⟩
       have HF : Hid (Fin go W0.heap.size ts J Jx W [becS fs n p (wrap64 ((if rd fs n p < 1 then 1 else rd fs n p) - 1))] pre b w2) := by rw [HM.out]; exact Fin.kp HS1.out.kp hF
       have K2 : Hid (TBox a n c l W.heap.size w2) := tbox_of (hF.kx.keep _ _ _ _ K1h.out (HG.out.tt _ (by simp)))
       clear hF))
  go_wp2
  go_ret
  exact ⟨b, rfl, HF.out⟩

end Go.Proofs.YtdihmfhojjlijapDoor
