/- The program's teller: a word stays, grows, shrinks. -/
import Derived.Test.YtekafaoleniebapDoorTell
namespace Go.Proofs.YtekafaoleniebapDoor
open Go.ChangeShapes Go.WideShapes Go.ChangeAt Go.RowKit

/-- Where a teller stands: what was told, the names and pairs, what is kept since Wb. -/
structure Sits (n₀ : Nat) (ts : List TypeId) (J : List Ent → World → Prop) (a : Option Addr) (n : Nat) (fs : List Int) (W0 Wb W : World) (pre : List Ent) : Prop where
  base : Base W0 a n fs
  low : Below W0.heap.size W0 W
  j : J pre W
  kp : Kp n₀ ts Wb W
theorem Sits.on {ts : List TypeId} {J : List Ent → World → Prop} {a : Option Addr} {n : Nat} {fs : List Int} {W0 Wb W W' : World} {pre : List Ent} (h : Sits W0.heap.size ts J a n fs W0 Wb W pre) (hj : Grows J) (hb : Below W.heap.size W W') : Sits W0.heap.size ts J a n fs W0 Wb W' pre :=
  ⟨h.base, h.low.trans (hb.mono h.low.size), hj _ _ _ h.j (far_below hb none), h.kp.trans (Kp.of_below hb h.low.size)⟩
theorem Sits.names {ts : List TypeId} {J : List Ent → World → Prop} {a : Option Addr} {n n₀ : Nat} {fs : List Int} {W0 Wb W : World} {pre : List Ent} (h : Sits n₀ ts J a n fs W0 Wb W pre) : Names W := (h.base.on h.low).names
theorem Sits.pairs {ts : List TypeId} {J : List Ent → World → Prop} {a : Option Addr} {n n₀ : Nat} {fs : List Int} {W0 Wb W : World} {pre : List Ent} (h : Sits n₀ ts J a n fs W0 Wb W pre) : PairAt W a n fs := (h.base.on h.low).pairs
theorem Sits.told {ts : List TypeId} {J : List Ent → World → Prop} {a : Option Addr} {n : Nat} {fs : List Int} {W0 Wb W W' : World} {pre q : List Ent} (h : Sits W0.heap.size ts J a n fs W0 Wb W pre) (hj : J q W') (hk : Kp W0.heap.size ts W W') : Sits W0.heap.size ts J a n fs W0 Wb W' q :=
  ⟨h.base, h.low.trans hk.low, hj, h.kp.trans hk⟩
/-- The teller's own box. -/
abbrev tellCells (a : Option Addr) (n c : Nat) (F : Value) (wh : Bool) : Obj := .cells #[.slice a n c, F, .bool wh] 65 (0, 0)
abbrev TBox (a : Option Addr) (n c : Nat) (F : Value) (wh : Bool) (B : Nat) (w' : World) : Prop := w'.cell? ⟨B, 0, none⟩ = some (.slice a n c) ∧ w'.cell? ⟨B, 1, none⟩ = some F ∧ w'.cell? ⟨B, 2, none⟩ = some (.bool wh)
theorem tbox_of {a : Option Addr} {n c : Nat} {F : Value} {wh : Bool} {B : Nat} {w' : World} (h : w'.heap[B]? = some (tellCells a n c F wh)) : TBox a n c F wh B w' := ⟨by simp [World.cell?, h], by simp [World.cell?, h], by simp [World.cell?, h]⟩

set_option maxRecDepth 100000 in
set_option maxHeartbeats 2000000 in
theorem stays_any (a : Option Addr) (n c : Nat) (F : Value) (wh : Bool) (p : Int) (fs : List Int) (go : Ent → Bool) (ts : List TypeId) (J Jx : List Ent → World → Prop) (pre : List Ent) (W0 W : World)
    (hG : Goes F wh a n c fs go W0 ts J Jx) (hB : Base W0 a n fs) (hl : pre.length < 100) (hW : Below W0.heap.size W0 W) (hJ : J pre W) :
    Calls Tryd.prog 43 #[.agg #[.slice a n c, F, .bool wh], .int .i64 p] W fun e W' => ∃ b, e = .returned (.bool b) ∧ Fin wh go W0.heap.size ts J Jx W [stayS fs n p] pre b W' := by
  have HG : Hid (Goes F wh a n c fs go W0 ts J Jx) := hG
  have HL : Hid (pre.length < 100) := hl
  clear hl
  obtain ⟨Wd, hWd⟩ : ∃ Wd, (W.alloc (.cells #[.slice a n c, F, .bool wh] 65)).drew = Wd := ⟨_, rfl⟩
  have hx : Below W.heap.size W Wd := by rw [← hWd]; exact ((Below.refl _ _).alloc (Nat.le_refl _) _).drew
  have bx : Wd.heap[W.heap.size]? = some (tellCells a n c F wh) := by rw [← hWd]; exact World.alloc_heap_new W _
  have HX : Hid (Wd.heap[W.heap.size]? = some (tellCells a n c F wh)) := bx
  have HS : Hid (Sits W0.heap.size ts J a n fs W0 W Wd pre) := (show Sits W0.heap.size ts J a n fs W0 W W pre from ⟨hB, hW, hJ, Kp.of_below (Below.refl _ _) hW.size⟩).on hG.gj hx
  have K0 : Hid (TBox a n c F wh W.heap.size Wd) := tbox_of bx
  clear hG hB hW hJ hx bx
  go_enter Tryd.func43, Tryd.ntmps43
  go_wp2_with fail
  go_region_held3 (fun w' => w'.cell? ⟨W.heap.size, 0, none⟩ = some (.slice a n c) ∧ w'.cell? ⟨W.heap.size, 1, none⟩ = some F ∧ w'.cell? ⟨W.heap.size, 2, none⟩ = some (.bool wh))
    (first | (with_reducible exact K2.out) | (with_reducible exact K1.out) | (with_reducible exact K0.out) | exact hWd ▸ K0.out | go_keep)
    (first
    | (go_at_call 61
       refine (knownAt_any a n c p fs _ (by first | exact HS.out.pairs | exact hWd ▸ HS.out.pairs)).mono ?_
       rintro e w1 ⟨rfl, hb1⟩
       have HS1 : Hid (Sits W0.heap.size ts J a n fs W0 W w1 pre) := HS.out.on HG.out.gj (by first | exact hb1 | exact hWd ▸ hb1)
       have K1h : Hid (w1.heap[W.heap.size]? = some (tellCells a n c F wh)) := (((by first | exact hb1 | exact hWd ▸ hb1 : Below Wd.heap.size Wd w1).block _ (Array.getElem?_eq_some_iff.1 HX.out).1).trans HX.out)
       have K1 : Hid (TBox a n c F wh W.heap.size w1) := tbox_of K1h.out
       clear hb1)
    | (go_at_call 53
       refine (HG.out.bec p (rd fs n p) pre _ HL.out HS1.out.low HS1.out.j).mono ?_
       rintro e w2 ⟨b, rfl, hF⟩
       have HF : Hid (Fin wh go W0.heap.size ts J Jx W [becS fs n p (rd fs n p)] pre b w2) := Fin.kp HS1.out.kp hF
       have K2 : Hid (TBox a n c F wh W.heap.size w2) := tbox_of (hF.kx.keep _ _ _ _ K1h.out (HG.out.tt _ (by simp)))
       clear hF))
  go_wp2
  go_ret
  exact ⟨b, rfl, HF.out⟩

theorem wrapEq (x : Int) : IntKind.i64.wrap x = wrap64 x := by rw [IntKind.wrap_i64]; unfold wrap64; rfl

set_option maxRecDepth 100000 in
set_option maxHeartbeats 2000000 in
theorem grows_any (a : Option Addr) (n c : Nat) (F : Value) (wh : Bool) (p : Int) (fs : List Int) (go : Ent → Bool) (ts : List TypeId) (J Jx : List Ent → World → Prop) (pre : List Ent) (W0 W : World)
    (hG : Goes F wh a n c fs go W0 ts J Jx) (hB : Base W0 a n fs) (hl : pre.length < 100) (hW : Below W0.heap.size W0 W) (hJ : J pre W) :
    Calls Tryd.prog 48 #[.agg #[.slice a n c, F, .bool wh], .int .i64 p] W fun e W' => ∃ b, e = .returned (.bool b) ∧ Fin wh go W0.heap.size ts J Jx W [growS fs n p] pre b W' := by
  have HG : Hid (Goes F wh a n c fs go W0 ts J Jx) := hG
  have HL : Hid (pre.length < 100) := hl
  clear hl
  obtain ⟨Wd, hWd⟩ : ∃ Wd, (W.alloc (.cells #[.slice a n c, F, .bool wh] 65)).drew = Wd := ⟨_, rfl⟩
  have hx : Below W.heap.size W Wd := by rw [← hWd]; exact ((Below.refl _ _).alloc (Nat.le_refl _) _).drew
  have bx : Wd.heap[W.heap.size]? = some (tellCells a n c F wh) := by rw [← hWd]; exact World.alloc_heap_new W _
  have HX : Hid (Wd.heap[W.heap.size]? = some (tellCells a n c F wh)) := bx
  have HS : Hid (Sits W0.heap.size ts J a n fs W0 W Wd pre) := (show Sits W0.heap.size ts J a n fs W0 W W pre from ⟨hB, hW, hJ, Kp.of_below (Below.refl _ _) hW.size⟩).on hG.gj hx
  have K0 : Hid (TBox a n c F wh W.heap.size Wd) := tbox_of bx
  clear hG hB hW hJ hx bx
  go_enter Tryd.func48, Tryd.ntmps48
  go_wp2_with fail
  go_region_held3 (fun w' => w'.cell? ⟨W.heap.size, 0, none⟩ = some (.slice a n c) ∧ w'.cell? ⟨W.heap.size, 1, none⟩ = some F ∧ w'.cell? ⟨W.heap.size, 2, none⟩ = some (.bool wh))
    (first | (with_reducible exact K2.out) | (with_reducible exact K1.out) | (with_reducible exact K0.out) | exact hWd ▸ K0.out | go_keep)
    (first
    | (go_at_call 61
       refine (knownAt_any a n c p fs _ (by first | exact HS.out.pairs | exact hWd ▸ HS.out.pairs)).mono ?_
       rintro e w1 ⟨rfl, hb1⟩
       have HS1 : Hid (Sits W0.heap.size ts J a n fs W0 W w1 pre) := HS.out.on HG.out.gj (by first | exact hb1 | exact hWd ▸ hb1)
       have K1h : Hid (w1.heap[W.heap.size]? = some (tellCells a n c F wh)) := (((by first | exact hb1 | exact hWd ▸ hb1 : Below Wd.heap.size Wd w1).block _ (Array.getElem?_eq_some_iff.1 HX.out).1).trans HX.out)
       have K1 : Hid (TBox a n c F wh W.heap.size w1) := tbox_of K1h.out
       clear hb1)
    | (go_at_call 53
       (try rw [wrapEq])
       refine (HG.out.bec p (wrap64 (rd fs n p + 1)) pre _ HL.out HS1.out.low HS1.out.j).mono ?_
       rintro e w2 ⟨b, rfl, hF⟩
       have HF : Hid (Fin wh go W0.heap.size ts J Jx W [becS fs n p (wrap64 (rd fs n p + 1))] pre b w2) := Fin.kp HS1.out.kp hF
       have K2 : Hid (TBox a n c F wh W.heap.size w2) := tbox_of (hF.kx.keep _ _ _ _ K1h.out (HG.out.tt _ (by simp)))
       clear hF))
  go_wp2
  go_ret
  exact ⟨b, rfl, HF.out⟩


set_option maxRecDepth 100000 in
set_option maxHeartbeats 2000000 in
theorem shrinks_any (a : Option Addr) (n c : Nat) (F : Value) (wh : Bool) (p : Int) (fs : List Int) (go : Ent → Bool) (ts : List TypeId) (J Jx : List Ent → World → Prop) (pre : List Ent) (W0 W : World)
    (hG : Goes F wh a n c fs go W0 ts J Jx) (hB : Base W0 a n fs) (hl : pre.length < 100) (hW : Below W0.heap.size W0 W) (hJ : J pre W) :
    Calls Tryd.prog 60 #[.agg #[.slice a n c, F, .bool wh], .int .i64 p] W fun e W' => ∃ b, e = .returned (.bool b) ∧ Fin wh go W0.heap.size ts J Jx W [shrinkS fs n p] pre b W' := by
  have HG : Hid (Goes F wh a n c fs go W0 ts J Jx) := hG
  have HL : Hid (pre.length < 100) := hl
  clear hl
  obtain ⟨Wd, hWd⟩ : ∃ Wd, (W.alloc (.cells #[.slice a n c, F, .bool wh] 65)).drew = Wd := ⟨_, rfl⟩
  have hx : Below W.heap.size W Wd := by rw [← hWd]; exact ((Below.refl _ _).alloc (Nat.le_refl _) _).drew
  have bx : Wd.heap[W.heap.size]? = some (tellCells a n c F wh) := by rw [← hWd]; exact World.alloc_heap_new W _
  have HX : Hid (Wd.heap[W.heap.size]? = some (tellCells a n c F wh)) := bx
  have HS : Hid (Sits W0.heap.size ts J a n fs W0 W Wd pre) := (show Sits W0.heap.size ts J a n fs W0 W W pre from ⟨hB, hW, hJ, Kp.of_below (Below.refl _ _) hW.size⟩).on hG.gj hx
  have K0 : Hid (TBox a n c F wh W.heap.size Wd) := tbox_of bx
  clear hG hB hW hJ hx bx
  go_enter Tryd.func60, Tryd.ntmps60
  go_wp2_with fail
  go_region_held3 (fun w' => w'.cell? ⟨W.heap.size, 0, none⟩ = some (.slice a n c) ∧ w'.cell? ⟨W.heap.size, 1, none⟩ = some F ∧ w'.cell? ⟨W.heap.size, 2, none⟩ = some (.bool wh))
    (first | (with_reducible exact K2.out) | (with_reducible exact K1.out) | (with_reducible exact K0.out) | exact hWd ▸ K0.out | go_keep)
    (first
    | (go_at_call 61
       refine (knownAt_any a n c p fs _ (by first | exact HS.out.pairs | exact hWd ▸ HS.out.pairs)).mono ?_
       rintro e w1 ⟨rfl, hb1⟩
       have HS1 : Hid (Sits W0.heap.size ts J a n fs W0 W w1 pre) := HS.out.on HG.out.gj (by first | exact hb1 | exact hWd ▸ hb1)
       have K1h : Hid (w1.heap[W.heap.size]? = some (tellCells a n c F wh)) := (((by first | exact hb1 | exact hWd ▸ hb1 : Below Wd.heap.size Wd w1).block _ (Array.getElem?_eq_some_iff.1 HX.out).1).trans HX.out)
       have K1 : Hid (TBox a n c F wh W.heap.size w1) := tbox_of K1h.out
       clear hb1)
    | (go_at_call 53
       (generalize hm : (if rd fs n p < 1 then (1 : Int) else rd fs n p) = m)
       have HM : Hid ((if rd fs n p < 1 then (1 : Int) else rd fs n p) = m) := hm
       clear hm
       (try rw [wrapEq])
       refine (HG.out.bec p (wrap64 (m - 1)) pre _ HL.out HS1.out.low HS1.out.j).mono ?_
       rintro e w2 ⟨b, rfl, hF⟩
       have HF : Hid (Fin wh go W0.heap.size ts J Jx W [becS fs n p (wrap64 ((if rd fs n p < 1 then 1 else rd fs n p) - 1))] pre b w2) := by rw [HM.out]; exact Fin.kp HS1.out.kp hF
       have K2 : Hid (TBox a n c F wh W.heap.size w2) := tbox_of (hF.kx.keep _ _ _ _ K1h.out (HG.out.tt _ (by simp)))
       clear hF))
  go_wp2
  go_ret
  exact ⟨b, rfl, HF.out⟩

set_option maxRecDepth 100000 in
set_option maxHeartbeats 2000000 in
theorem inVia_any (a : Option Addr) (n c : Nat) (F : Value) (wh : Bool) (k : Int) (fs : List Int) (w : World) (hN : Names w) (h : PairAt w a n fs) (hk : 0 ≤ k ∧ k ≤ 3) :
    Calls Tryd.prog 57 #[.agg #[.slice a n c, F, .bool wh], .int .i64 k] w fun e w' => e = .returned (.bool (wh || decide (k + 1 < rd fs n 13))) ∧ Below w.heap.size w w' := by
  have hx : Below w.heap.size w (w.alloc (.cells #[.slice a n c, F, .bool wh] 65)) := (Below.refl _ _).alloc (Nat.le_refl _) _
  have HX : Hid (Below w.heap.size w (w.alloc (.cells #[.slice a n c, F, .bool wh] 65))) := hx
  have HP : Hid (Names (w.alloc (.cells #[.slice a n c, F, .bool wh] 65)) ∧ PairAt (w.alloc (.cells #[.slice a n c, F, .bool wh] 65)) a n fs) := ⟨hN.below hx hN.lt, h.below hx (Nat.le_refl _)⟩
  clear h hN hx
  obtain ⟨r, hr⟩ : ∃ r, rd fs n 13 = r := ⟨_, rfl⟩
  have HR : Hid (rd fs n 13 = r) := hr
  clear hr
  rw [HR.out]
  cases wh with
  | true =>
    go_enter Tryd.func57, Tryd.ntmps57
    go_wp2
    go_ret
    exact ⟨rfl, HX.out⟩
  | false =>
    go_enter Tryd.func57, Tryd.ntmps57
    go_wp2_with fail
    refine (knownState_any a n c fs _ HP.out.1 HP.out.2).mono ?_
    rintro e w1 ⟨rfl, hb1⟩
    have HB1 : Hid (Below w.heap.size w w1) := HX.out.trans (hb1.mono HX.out.size)
    clear hb1
    rw [HR.out]
    by_cases hlt : k + 1 < r
    · go_wp2
      go_ret
      exact ⟨by first | rfl | (simp; done) | (simp [hlt]; done), HB1.out⟩
    · go_wp2
      go_ret
      exact ⟨by first | rfl | (simp; done) | (simp [hlt]; done), HB1.out⟩
end Go.Proofs.YtekafaoleniebapDoor
