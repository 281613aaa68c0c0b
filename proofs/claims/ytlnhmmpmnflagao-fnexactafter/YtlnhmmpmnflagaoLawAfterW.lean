/- If After of the program answers of all rows, ops and results as the document says, then the statement of the law FnExactAfter holds. -/
import Derived.Test.YtlnhmmpmnflagaoRows
import Derived.Test.YtlnhmmpmnflagaoLawRes
import Derived.Test.YtlnhmmpmnflagaoLawOp
import Derived.Test.YtlnhmmpmnflagaoSpecAfter
import Derived.Test.YtlnhmmpmnflagaoMarkR
import Derived.Test.YtlnhmmpmnflagaoHeldRows
import Derived.Test.YtlnhmmpmnflagaoKept
import Derived.WalkKit
import Derived.ProofKit
import Derived.OpenShut
import Derived.ChangeOld
import Derived.Below
import Derived.Lib.SmallJoins
import Derived.Deep.RegionWith
import Derived.Deep.RegionHeld3
namespace Go.Proofs.Ytlnhmmpmnflagao.fnExactAfter
open Go.ChangeShapes Go.WideShapes Go.ChangeAt Go.RowKit Go.Joins

theorem own : ownKnob Try.prog.godebug = none := by kernel_rfl
theorem laidOut : laidOutB Try.prog = true := by kernel_rfl
/-- What is asked of the program's After: of lists of the caller's own (capacity as long as the list). -/
def Asked : Prop := ∀ (p1 p2 n1 n2 : Nat) (st kind k v code : Int) (xs ys : List Int) (w : World), IntAt w (some ⟨p1, 0, none⟩) n1 xs → IntAt w (some ⟨p2, 0, none⟩) n2 ys → (∀ x ∈ xs, (Lit.int .i64 x).wf = true) → (∀ x ∈ ys, (Lit.int .i64 x).wf = true) →
  (Lit.int .i64 kind).wf = true → (Lit.int .i64 k).wf = true → (Lit.int .i64 v).wf = true →
  Calls Try.prog 21 #[RowsV (some ⟨p1, 0, none⟩) n1 n1 st, OpV kind k v, ResV code (some ⟨p2, 0, none⟩) n2 n2] w fun e w' => AfterSays e w w' n1 (AfterM xs st kind k v code ys) ∧ Below w.heap.size w w'

/-- The boxes of the three arguments. -/
abbrev W0 (w : World) (st kind k v code : Int) (a1 a2 : Option Addr) (n1 n2 c1 c2 : Nat) : World := ((w.alloc (.cells #[.slice a1 n1 c1, .int .i64 st] 37)).alloc (.cells #[.int .i64 kind, .int .i64 k, .int .i64 v] 23)).alloc (.cells #[.int .i64 code, .slice a2 n2 c2] 30)
theorem boxes {w w' : World} {st kind k v code : Int} {a1 a2 : Option Addr} {n1 n2 c1 c2 : Nat} (hb : Below (w.heap.size + 1 + 1 + 1) (W0 w st kind k v code a1 a2 n1 n2 c1 c2) w') :
    (w'.cell? ⟨w.heap.size, 0, none⟩ = some (.slice a1 n1 c1) ∧ w'.cell? ⟨w.heap.size, 1, none⟩ = some (.int .i64 st) ∧ w'.cell? ⟨w.heap.size + 1, 0, none⟩ = some (.int .i64 kind) ∧ w'.cell? ⟨w.heap.size + 1, 1, none⟩ = some (.int .i64 k) ∧ w'.cell? ⟨w.heap.size + 1, 2, none⟩ = some (.int .i64 v) ∧ w'.cell? ⟨w.heap.size + 1 + 1, 0, none⟩ = some (.int .i64 code) ∧ w'.cell? ⟨w.heap.size + 1 + 1, 1, none⟩ = some (.slice a2 n2 c2)) ∧ Below w.heap.size w w' := by
  have h := args_at w _ _ _ _ _ _ w' hb
  exact ⟨⟨h.1 0 _ rfl, h.1 1 _ rfl, h.2.1 0 _ rfl, h.2.1 1 _ rfl, h.2.1 2 _ rfl, h.2.2 0 _ rfl, h.2.2 1 _ rfl⟩, ((((Below.refl _ w).alloc (Nat.le_refl _) _).alloc (by simp) _).alloc (by simp; omega) _).trans (hb.mono (by omega))⟩

set_option maxHeartbeats 8000000 in
set_option maxRecDepth 100000 in
theorem walk (hI : Asked) (a1 a2 : Option Addr) (n1 n2 c1 c2 : Nat) (st kind k v code : Int) (xs ys : List Int) (w : World) (hA : n1 ≤ 1099511627776 → IntAt w a1 n1 xs) (hB : n2 ≤ 1099511627776 → IntAt w a2 n2 ys)
    (hm1 : n1 ≤ 9223372036854775807) (hm2 : n2 ≤ 9223372036854775807) (hx : ∀ x ∈ xs, (Lit.int .i64 x).wf = true) (hy : ∀ x ∈ ys, (Lit.int .i64 x).wf = true) (hw : (Lit.int .i64 kind).wf = true ∧ (Lit.int .i64 k).wf = true ∧ (Lit.int .i64 v).wf = true) :
    Calls Try.prog 6 #[RowsV a1 n1 c1 st, OpV kind k v, ResV code a2 n2 c2] w fun e w' => e = .returned (.bool true) ∧ Below w.heap.size w w' := by
  have HI : Hid Asked := hI
  have HW : Hid ((Lit.int .i64 kind).wf = true ∧ (Lit.int .i64 k).wf = true ∧ (Lit.int .i64 v).wf = true) := hw
  clear hI hw
  have HBX : Hid (∀ {w' : World}, Below (w.heap.size + 1 + 1 + 1) (W0 w st kind k v code a1 a2 n1 n2 c1 c2) w' → (w'.cell? ⟨w.heap.size, 0, none⟩ = some (.slice a1 n1 c1) ∧ w'.cell? ⟨w.heap.size, 1, none⟩ = some (.int .i64 st) ∧ w'.cell? ⟨w.heap.size + 1, 0, none⟩ = some (.int .i64 kind) ∧ w'.cell? ⟨w.heap.size + 1, 1, none⟩ = some (.int .i64 k) ∧ w'.cell? ⟨w.heap.size + 1, 2, none⟩ = some (.int .i64 v) ∧ w'.cell? ⟨w.heap.size + 1 + 1, 0, none⟩ = some (.int .i64 code) ∧ w'.cell? ⟨w.heap.size + 1 + 1, 1, none⟩ = some (.slice a2 n2 c2)) ∧ Below w.heap.size w w') := fun {w'} hb => boxes hb
  by_cases hn1 : n1 ≤ 1048576
  case neg =>
    go_enter Try.func6, Try.ntmps6
    go_wp2_with fail
    refine (szRows_big a1 n1 c1 st _ hn1 hm1).mono ?_
    rintro e w1 ⟨rfl, hb1⟩
    simp only [World.size_alloc] at hb1
    have hall := (HBX.out hb1).2
    go_wp2
    go_ret
    exact ⟨rfl, hall⟩
  have hA0 : Hid (IntAt w a1 n1 xs) := hA (by omega)
  clear hA
  by_cases hn2 : (n2 : Int) ≤ 1048576 - (n1 : Int)
  case neg =>
    go_enter Try.func6, Try.ntmps6
    go_wp2_with fail
    refine (szRows_at a1 n1 c1 st _ hn1).mono ?_
    rintro e w1 ⟨rfl, hb1⟩
    simp only [World.size_alloc] at hb1
    obtain ⟨⟨d0, d1, d2, d3, d4, d5, d6⟩, _⟩ := HBX.out hb1
    have hs1 : w.heap.size + 1 + 1 + 1 ≤ w1.heap.size := by simpa using hb1.size
    have h0 : ¬ (1048576 - (n1 : Int) < 0) := by omega
    go_wp2_with fail
    refine (szRes_big a2 n2 c2 code _ _ (by omega) (by omega) (by omega) hm2).mono ?_
    rintro e w2 ⟨rfl, hb2⟩
    have hall := (HBX.out (hb1.trans (hb2.mono hs1))).2
    go_wp2
    go_ret
    exact ⟨rfl, hall⟩
  have hB0 : Hid (IntAt w a2 n2 ys) := hB (by omega)
  clear hB
  have HX : Hid (∀ x ∈ xs, (Lit.int .i64 x).wf = true) := hx
  have HY : Hid (∀ x ∈ ys, (Lit.int .i64 x).wf = true) := hy
  clear hx hy
  have h0 : ¬ (1048576 - (n1 : Int) < 0) := by omega
  have h1 : ¬ (1048576 - (n1 : Int) - (n2 : Int) < 0) := by omega
  go_enter Try.func6, Try.ntmps6
  go_wp2_with fail
  refine (szRows_at a1 n1 c1 st _ hn1).mono ?_
  rintro e w1 ⟨rfl, hb1⟩
  simp only [World.size_alloc] at hb1
  obtain ⟨⟨d0, d1, d2, d3, d4, d5, d6⟩, _⟩ := HBX.out hb1
  have hs1 : w.heap.size + 1 + 1 + 1 ≤ w1.heap.size := by simpa using hb1.size
  go_wp2_with fail
  refine (szRes_fits a2 n2 c2 code _ _ (by omega) (by omega) (by omega)).mono ?_
  rintro e w2 ⟨rfl, hb2⟩
  have hb02 := hb1.trans (hb2.mono hs1)
  have hs2 : w.heap.size + 1 + 1 + 1 ≤ w2.heap.size := by simpa using hb02.size
  clear hb1 hb2 hs1 d0 d1 d2 d3 d4 d5 d6
  obtain ⟨⟨d0, d1, d2, d3, d4, d5, d6⟩, bw2⟩ := HBX.out hb02
  go_wp2_with fail
  refine Code.wp_mono (Q := Exit.then (fun a' w' => ∃ (b q1 q2 : Nat) (zs : List Int) (st' : Int) (aw : Option Addr) (cw : Nat), a' = ⟨List.toArray (RowsV a1 n1 c1 st :: OpV kind k v :: ResV code a2 n2 c2 :: Value.pointer (some ⟨w.heap.size, 0, none⟩) :: Value.pointer (some ⟨w.heap.size + 1, 0, none⟩) :: Value.pointer (some ⟨w.heap.size + 1 + 1, 0, none⟩) :: Value.bool false :: Value.int IntKind.i64 (1048576 - (n1 : Int) - (n2 : Int)) :: Value.pointer (some ⟨b, 0, none⟩) :: undef :: undef :: undef :: undef :: undef :: undef :: undef :: Value.agg #[Value.slice a1 n1 c1, Value.int IntKind.i64 st] :: Value.int IntKind.i64 1048576 :: Value.int IntKind.i64 (1048576 - (n1 : Int)) :: Value.int IntKind.i64 (1048576 - (n1 : Int)) :: Value.bool (decide (1048576 - (n1 : Int) < 0)) :: Value.agg #[Value.int IntKind.i64 code, Value.slice a2 n2 c2] :: Value.int IntKind.i64 (1048576 - (n1 : Int)) :: Value.int IntKind.i64 (1048576 - (n1 : Int) - (n2 : Int)) :: Value.int IntKind.i64 (1048576 - (n1 : Int) - (n2 : Int)) :: Value.bool (decide (1048576 - (n1 : Int) - (n2 : Int) < 0)) :: Value.agg #[Value.slice a1 n1 c1, Value.int IntKind.i64 st] :: RowsV (some ⟨q1, 0, none⟩) n1 n1 st :: Value.agg #[Value.int IntKind.i64 kind, Value.int IntKind.i64 k, Value.int IntKind.i64 v] :: OpV kind k v :: Value.agg #[Value.int IntKind.i64 code, Value.slice a2 n2 c2] :: ResV code (some ⟨q2, 0, none⟩) n2 n2 :: Value.agg #[Value.slice aw n1 cw, Value.int IntKind.i64 st'] :: undef :: undef :: undef :: undef :: undef :: undef :: undef :: undef :: undef :: undef :: undef :: undef :: undef :: undef :: undef :: undef :: undef :: undef :: undef :: undef :: undef :: undef :: undef :: undef :: undef :: undef :: undef :: undef :: undef :: undef :: undef :: undef :: undef :: undef :: undef :: undef :: undef :: undef :: undef :: undef :: undef :: undef :: undef :: undef :: undef :: undef :: undef :: undef :: undef :: undef :: undef :: undef :: undef :: undef :: undef :: undef :: undef :: undef :: undef :: undef :: undef :: undef :: undef :: undef :: undef :: undef :: undef :: []), []⟩ ∧ Below (w.heap.size + 1 + 1 + 1) (W0 w st kind k v code a1 a2 n1 n2 c1 c2) w' ∧ BoxAt w' (w.heap.size + 1 + 1 + 1) b (.slice aw n1 cw) (.int .i64 st') ∧ w'.ownsRow (w.heap.size + 1 + 1 + 1) 3 1 (.slice aw n1 cw) n1 (zs.map I) ∧ AfterM xs st kind k v code ys zs st' ∧ (∀ k, (Value.slice aw n1 cw).ownBlock = some k → k ≠ b)) (fun _ _ _ => False)) ?rest1 ?reg1
  case reg1 =>
    go_region_held3 (fun w' => (w'.cell? ⟨w.heap.size, 0, none⟩ = some (.slice a1 n1 c1) ∧ w'.cell? ⟨w.heap.size, 1, none⟩ = some (.int .i64 st) ∧ w'.cell? ⟨w.heap.size + 1, 0, none⟩ = some (.int .i64 kind) ∧ w'.cell? ⟨w.heap.size + 1, 1, none⟩ = some (.int .i64 k) ∧ w'.cell? ⟨w.heap.size + 1, 2, none⟩ = some (.int .i64 v) ∧ w'.cell? ⟨w.heap.size + 1 + 1, 0, none⟩ = some (.int .i64 code) ∧ w'.cell? ⟨w.heap.size + 1 + 1, 1, none⟩ = some (.slice a2 n2 c2)))
      (first | (exact (HBX.out hb03).1) | (exact (HBX.out (hb03.alloc hs3 _)).1) | (exact (HBX.out hb03o).1) | (exact (HBX.out (hb03o.alloc hs3o _)).1) | (exact (HBX.out hb04).1) | (exact (HBX.out (hb04.alloc hs4 _)).1) | (exact (HBX.out hb05).1) | (exact (HBX.out (hb05.alloc hs5 _)).1) | (exact (HBX.out (hb02.alloc hs2 _).drew).1) | (exact (HBX.out (hb05.setCell bge _)).1) | (exact (HBX.out ((hb05.setCell bge _).setCell bge _)).1) | go_keep)
      (first
      | (go_at_call 17
         refine (toRows_g a1 n1 c1 st xs _ (hA0.out.below (HBX.out (by first | exact hb02.drew | exact (hb02.alloc hs2 _).drew)).2 (Nat.le_refl _))).mono ?_
         rintro e w3 ⟨q1, rfl, _, own3, hb3⟩
         have hb03 : Below (w.heap.size + 1 + 1 + 1) (W0 w st kind k v code a1 a2 n1 n2 c1 c2) w3 := by first | exact hb02.drew.trans (hb3.mono hs2) | exact (hb02.alloc hs2 _).drew.trans (hb3.mono (by simp; omega))
         have hs3 : w.heap.size + 1 + 1 + 1 ≤ w3.heap.size := by simpa using hb03.size
         first | (have bx3 := box_new_drew hb3 hs2) | skip)
      | (go_at_call 8
         refine (toOp_any kind k v _).mono ?_
         rintro e w3o ⟨rfl, hb3o⟩
         have hb03o : Below (w.heap.size + 1 + 1 + 1) (W0 w st kind k v code a1 a2 n1 n2 c1 c2) w3o := by first | exact hb03.trans (hb3o.mono hs3) | exact (hb03.alloc hs3 _).trans (hb3o.mono (by simp; omega))
         have hs3o : w.heap.size + 1 + 1 + 1 ≤ w3o.heap.size := by simpa using hb03o.size
         have own3o : w3o.ownsRow q1 3 1 (.slice (some ⟨q1, 0, none⟩) n1 n1) n1 (xs.map I) := by first | exact owns_below own3 hb3o (Nat.le_refl _) | exact owns_below (own3.alloc _) hb3o (Nat.le_refl _)
         first | (have bx3o := box_new hb3o hs3) | (have bx3o := bx3.carry hb3o) | skip)
      | (go_at_call 12
         refine (toRes_g a2 n2 c2 code ys _ (hB0.out.below (HBX.out (by first | exact hb03o | exact hb03o.alloc hs3o _)).2 (Nat.le_refl _))).mono ?_
         rintro e w4 ⟨q2, rfl, _, own4, hb4⟩
         have hb04 : Below (w.heap.size + 1 + 1 + 1) (W0 w st kind k v code a1 a2 n1 n2 c1 c2) w4 := by first | exact hb03o.trans (hb4.mono hs3o) | exact (hb03o.alloc hs3o _).trans (hb4.mono (by simp; omega))
         have hs4 : w.heap.size + 1 + 1 + 1 ≤ w4.heap.size := by simpa using hb04.size
         have own34 : w4.ownsRow q1 3 1 (.slice (some ⟨q1, 0, none⟩) n1 n1) n1 (xs.map I) := by first | exact owns_below own3o hb4 (Nat.le_refl _) | exact owns_below (own3o.alloc _) hb4 (Nat.le_refl _)
         first | (have bx4 := box_new hb4 hs3o) | (have bx4 := bx3o.carry hb4) | skip)
      | (go_at_call 20
         refine (specAfter_any _ _ 0 n1 n1 n2 n2 st kind k v code xs ys _ (own_intAt (by first | exact own34 | exact own34.alloc _) (by omega)) (own_intAt (by first | exact own4 | exact own4.alloc _) (by omega))).mono ?_
         rintro e w5 ⟨⟨zs, st', aw, cw, rfl, hAM, ownw⟩, hb5⟩
         have hb05 : Below (w.heap.size + 1 + 1 + 1) (W0 w st kind k v code a1 a2 n1 n2 c1 c2) w5 := by first | exact hb04.trans (hb5.mono hs4) | exact (hb04.alloc hs4 _).trans (hb5.mono (by simp; omega))
         have hs5 : w.heap.size + 1 + 1 + 1 ≤ w5.heap.size := by simpa using hb05.size
         first | (have bx5 := box_new hb5 hs4; have hne := apart_new ownw) | (have bx5 := bx4.carry hb5; have hne := apart_of bx4 ownw) | skip
         have ownx : w5.ownsRow (w.heap.size + 1 + 1 + 1) 3 1 (.slice aw n1 cw) n1 (zs.map I) := own_weaken ownw (by first | exact hs4 | (simp; omega))
         first | (have bx5' := bx5; obtain ⟨⟨bc0, bc1⟩, ⟨bf0, bf1⟩, bge, blt⟩ := bx5) | skip))
    all_goals first
      | exact ⟨_, q1, q2, zs, st', aw, cw, rfl, hb05.alloc hs5 _, box_made hs5, ownx.alloc _, hAM, fun k hk => Nat.ne_of_lt (ownx.lt k hk).2⟩
      | exact ⟨_, q1, q2, zs, st', aw, cw, rfl, (hb05.setCell bge _).setCell bge _, bx5'.stored _ _, own_boxed ownx hne, hAM, hne⟩
  case rest1 =>
    clear hb02 hs2 bw2 d0 d1 d2 d3 d4 d5 d6
    intro ex a' w5 h
    cases ex
    case normal =>
      obtain ⟨b5, q1, q2, zs, st', aw, cw, rfl, hb05, bx5, ownw, hAM, hne⟩ := h
      have hs5 : w.heap.size + 1 + 1 + 1 ≤ w5.heap.size := by simpa using hb05.size
      have hb5lt : b5 < w5.heap.size := bx5.2.2.2
      have hb5ge : w.heap.size + 1 + 1 + 1 ≤ b5 := bx5.2.2.1
      have HAM : Hid (AfterM xs st kind k v code ys zs st') := hAM
      have HNE : Hid (∀ k, (Value.slice aw n1 cw).ownBlock = some k → (w.heap.size + 1 + 1 + 1 ≤ k ∧ k < w5.heap.size) ∧ k ≠ b5) := fun k hk => ⟨ownw.lt k hk, hne k hk⟩
      have BX5 : Hid (BoxAt w5 (w.heap.size + 1 + 1 + 1) b5 (.slice aw n1 cw) (.int .i64 st')) := bx5
      have OW5 : Hid (w5.ownsRow (w.heap.size + 1 + 1 + 1) 3 1 (.slice aw n1 cw) n1 (zs.map I)) := ownw
      clear hAM ownw hne bx5
      obtain ⟨⟨d0, d1, d2, d3, d4, d5, d6⟩, bw5⟩ := HBX.out hb05
      go_wp2_with fail
      refine (toRows_g a1 n1 c1 st xs _ (hA0.out.below bw5 (Nat.le_refl _))).mono ?_
      rintro e w6 ⟨g1, rfl, hg1, own6, hb6⟩
      have hs56 : w5.heap.size ≤ w6.heap.size := hb6.size
      have hg16 : g1 < w6.heap.size := (own_base own6).2
      have hb06 := (hb05.trans (hb6.mono (by omega))).alloc (by omega) (.cells #[.slice (some ⟨g1, 0, none⟩) n1 n1, .int .i64 st] 40)
      have hb56 := hb6.alloc (by omega) (.cells #[.slice (some ⟨g1, 0, none⟩) n1 n1, .int .i64 st] 40)
      have O6 : Hid ((w6.alloc (.cells #[.slice (some ⟨g1, 0, none⟩) n1 n1, .int .i64 st] 40)).ownsRow g1 3 1 (.slice (some ⟨g1, 0, none⟩) n1 n1) n1 (xs.map I)) := own6.alloc _
      have OW6 : Hid ((w6.alloc (.cells #[.slice (some ⟨g1, 0, none⟩) n1 n1, .int .i64 st] 40)).ownsRow (w.heap.size + 1 + 1 + 1) 3 1 (.slice aw n1 cw) n1 (zs.map I)) := owns_below OW5.out hb56 (Nat.le_refl _)
      have BX6 : Hid (BoxAt (w6.alloc (.cells #[.slice (some ⟨g1, 0, none⟩) n1 n1, .int .i64 st] 40)) (w.heap.size + 1 + 1 + 1) b5 (.slice aw n1 cw) (.int .i64 st')) := BX5.out.carry hb56
      clear hb05 hb6 d0 d1 d2 d3 d4 d5 d6 bw5 own6 OW5 BX5 hb56
      obtain ⟨⟨d0, d1, d2, d3, d4, d5, d6⟩, bw6⟩ := HBX.out hb06
      go_wp2_with fail
      refine (toRes_g a2 n2 c2 code ys _ (hB0.out.below bw6 (Nat.le_refl _))).mono ?_
      rintro e w7 ⟨g2, rfl, hg2, own7, hb7⟩
      simp only [World.size_alloc] at hg2
      have hs7 : w6.heap.size + 1 ≤ w7.heap.size := by simpa using hb7.size
      have hg27 : g2 < w7.heap.size := (own_base own7).2
      have hb07 := (hb06.trans (hb7.mono (by simp; omega))).alloc (by omega) (.cells #[.int .i64 code, .slice (some ⟨g2, 0, none⟩) n2 n2] 33)
      have hb67 := hb7.alloc (by simp; omega) (.cells #[.int .i64 code, .slice (some ⟨g2, 0, none⟩) n2 n2] 33)
      have O67 : Hid ((w7.alloc (.cells #[.int .i64 code, .slice (some ⟨g2, 0, none⟩) n2 n2] 33)).ownsRow g1 3 1 (.slice (some ⟨g1, 0, none⟩) n1 n1) n1 (xs.map I)) := owns_below O6.out hb67 (Nat.le_refl _)
      have OW7 : Hid ((w7.alloc (.cells #[.int .i64 code, .slice (some ⟨g2, 0, none⟩) n2 n2] 33)).ownsRow (w.heap.size + 1 + 1 + 1) 3 1 (.slice aw n1 cw) n1 (zs.map I)) := owns_below OW6.out hb67 (Nat.le_refl _)
      have BX7 : Hid (BoxAt (w7.alloc (.cells #[.int .i64 code, .slice (some ⟨g2, 0, none⟩) n2 n2] 33)) (w.heap.size + 1 + 1 + 1) b5 (.slice aw n1 cw) (.int .i64 st')) := BX6.out.carry hb67
      have O7 : Hid ((w7.alloc (.cells #[.int .i64 code, .slice (some ⟨g2, 0, none⟩) n2 n2] 33)).ownsRow g2 3 1 (.slice (some ⟨g2, 0, none⟩) n2 n2) n2 (ys.map I)) := own7.alloc _
      have e0 : (w7.alloc (.cells #[.int .i64 code, .slice (some ⟨g2, 0, none⟩) n2 n2] 33)).cell? ⟨w6.heap.size, 0, none⟩ = some (.slice (some ⟨g1, 0, none⟩) n1 n1) := by rw [hb67.cell (by simp)]; simp
      have e1 : (w7.alloc (.cells #[.int .i64 code, .slice (some ⟨g2, 0, none⟩) n2 n2] 33)).cell? ⟨w6.heap.size, 1, none⟩ = some (.int .i64 st) := by rw [hb67.cell (by simp)]; simp
      clear hb06 hb7 d0 d1 d2 d3 d4 d5 d6 bw6 own7 hb67 O6 OW6 BX6
      have ALL : Hid (∀ {w' : World}, Below (w7.heap.size + 1) (w7.alloc (.cells #[.int .i64 code, .slice (some ⟨g2, 0, none⟩) n2 n2] 33)) w' → (w'.cell? ⟨w.heap.size, 0, none⟩ = some (.slice a1 n1 c1) ∧ w'.cell? ⟨w.heap.size, 1, none⟩ = some (.int .i64 st) ∧ w'.cell? ⟨w.heap.size + 1, 0, none⟩ = some (.int .i64 kind) ∧ w'.cell? ⟨w.heap.size + 1, 1, none⟩ = some (.int .i64 k) ∧ w'.cell? ⟨w.heap.size + 1, 2, none⟩ = some (.int .i64 v) ∧ w'.cell? ⟨w.heap.size + 1 + 1, 0, none⟩ = some (.int .i64 code) ∧ w'.cell? ⟨w.heap.size + 1 + 1, 1, none⟩ = some (.slice a2 n2 c2) ∧ w'.cell? ⟨b5, 0, none⟩ = some (.slice aw n1 cw) ∧ w'.cell? ⟨b5, 1, none⟩ = some (.int .i64 st') ∧ w'.cell? ⟨w6.heap.size, 0, none⟩ = some (.slice (some ⟨g1, 0, none⟩) n1 n1) ∧ w'.cell? ⟨w6.heap.size, 1, none⟩ = some (.int .i64 st) ∧ w'.cell? ⟨w7.heap.size, 0, none⟩ = some (.int .i64 code) ∧ w'.cell? ⟨w7.heap.size, 1, none⟩ = some (.slice (some ⟨g2, 0, none⟩) n2 n2)) ∧ w7.heap.size + 1 ≤ w'.heap.size ∧ Below w.heap.size w w' ∧ w'.ownsRow g1 3 1 (.slice (some ⟨g1, 0, none⟩) n1 n1) n1 (xs.map I) ∧ w'.ownsRow g2 3 1 (.slice (some ⟨g2, 0, none⟩) n2 n2) n2 (ys.map I) ∧ w'.ownsRow (w.heap.size + 1 + 1 + 1) 3 1 (.slice aw n1 cw) n1 (zs.map I)) := fun {w'} hb => by
        obtain ⟨⟨q0, q1, q2, q3, q4, q5, q6⟩, bw⟩ := HBX.out (hb07.trans (hb.mono (by omega)))
        exact ⟨⟨q0, q1, q2, q3, q4, q5, q6, (hb.cell (show b5 < w7.heap.size + 1 by omega)).trans BX7.out.1.1, (hb.cell (show b5 < w7.heap.size + 1 by omega)).trans BX7.out.1.2, (hb.cell (show w6.heap.size < w7.heap.size + 1 by omega)).trans e0, (hb.cell (show w6.heap.size < w7.heap.size + 1 by omega)).trans e1, by rw [hb.cell (by simp)]; simp, by rw [hb.cell (by simp)]; simp⟩, by simpa using hb.size, bw,
          owns_below O67.out hb (by simp), owns_below O7.out hb (by simp), owns_below OW7.out hb (by simp)⟩
      have hb7r : Below (w7.heap.size + 1) (w7.alloc (.cells #[.int .i64 code, .slice (some ⟨g2, 0, none⟩) n2 n2] 33)) (w7.alloc (.cells #[.int .i64 code, .slice (some ⟨g2, 0, none⟩) n2 n2] 33)) := Below.refl _ _
      obtain ⟨⟨d0, d1, d2, d3, d4, d5, d6, d7, d8, d9, d10, d11, d12⟩, hs70, bw7, _⟩ := ALL.out hb7r
      clear hb07 e0 e1 O67 O7 OW7 BX7
      go_wp2_with fail
      refine Code.wp_mono (Q := Exit.then (fun a' w' => ∃ (b8 : Nat) (ag : Option Addr) (cg : Nat), a' = ⟨List.toArray (RowsV a1 n1 c1 st :: OpV kind k v :: ResV code a2 n2 c2 :: Value.pointer (some ⟨w.heap.size, 0, none⟩) :: Value.pointer (some ⟨w.heap.size + 1, 0, none⟩) :: Value.pointer (some ⟨w.heap.size + 1 + 1, 0, none⟩) :: Value.bool false :: Value.int IntKind.i64 (1048576 - (n1 : Int) - (n2 : Int)) :: Value.pointer (some ⟨b5, 0, none⟩) :: Value.pointer (some ⟨w6.heap.size, 0, none⟩) :: Value.pointer (some ⟨w7.heap.size, 0, none⟩) :: Value.pointer (some ⟨b8, 0, none⟩) :: undef :: undef :: undef :: undef :: Value.agg #[Value.slice a1 n1 c1, Value.int IntKind.i64 st] :: Value.int IntKind.i64 1048576 :: Value.int IntKind.i64 (1048576 - (n1 : Int)) :: Value.int IntKind.i64 (1048576 - (n1 : Int)) :: Value.bool (decide (1048576 - (n1 : Int) < 0)) :: Value.agg #[Value.int IntKind.i64 code, Value.slice a2 n2 c2] :: Value.int IntKind.i64 (1048576 - (n1 : Int)) :: Value.int IntKind.i64 (1048576 - (n1 : Int) - (n2 : Int)) :: Value.int IntKind.i64 (1048576 - (n1 : Int) - (n2 : Int)) :: Value.bool (decide (1048576 - (n1 : Int) - (n2 : Int) < 0)) :: Value.agg #[Value.slice a1 n1 c1, Value.int IntKind.i64 st] :: RowsV (some ⟨q1, 0, none⟩) n1 n1 st :: Value.agg #[Value.int IntKind.i64 kind, Value.int IntKind.i64 k, Value.int IntKind.i64 v] :: OpV kind k v :: Value.agg #[Value.int IntKind.i64 code, Value.slice a2 n2 c2] :: ResV code (some ⟨q2, 0, none⟩) n2 n2 :: Value.agg #[Value.slice aw n1 cw, Value.int IntKind.i64 st'] :: Value.agg #[Value.slice a1 n1 c1, Value.int IntKind.i64 st] :: RowsV (some ⟨g1, 0, none⟩) n1 n1 st :: Value.agg #[Value.int IntKind.i64 code, Value.slice a2 n2 c2] :: ResV code (some ⟨g2, 0, none⟩) n2 n2 :: Value.agg #[Value.slice (some ⟨g1, 0, none⟩) n1 n1, Value.int IntKind.i64 st] :: Value.agg #[Value.int IntKind.i64 kind, Value.int IntKind.i64 k, Value.int IntKind.i64 v] :: OpV kind k v :: Value.agg #[Value.int IntKind.i64 code, Value.slice (some ⟨g2, 0, none⟩) n2 n2] :: Value.agg #[Value.slice ag n1 cg, Value.int IntKind.i64 st'] :: undef :: undef :: undef :: undef :: undef :: undef :: undef :: undef :: undef :: undef :: undef :: undef :: undef :: undef :: undef :: undef :: undef :: undef :: undef :: undef :: undef :: undef :: undef :: undef :: undef :: undef :: undef :: undef :: undef :: undef :: undef :: undef :: undef :: undef :: undef :: undef :: undef :: undef :: undef :: undef :: undef :: undef :: undef :: undef :: undef :: undef :: undef :: undef :: undef :: undef :: undef :: undef :: undef :: undef :: undef :: undef :: undef :: undef :: []), []⟩ ∧ Below (w7.heap.size + 1) (w7.alloc (.cells #[.int .i64 code, .slice (some ⟨g2, 0, none⟩) n2 n2] 33)) w' ∧ BoxAt w' (w7.heap.size + 1) b8 (.slice ag n1 cg) (.int .i64 st') ∧ w'.ownsRow (w7.heap.size + 1) 3 1 (.slice ag n1 cg) n1 (zs.map I) ∧ (∀ k, (Value.slice ag n1 cg).ownBlock = some k → k ≠ b8)) (fun _ _ _ => False)) ?rest2 ?reg2
      case reg2 =>
        go_region_held3 (fun w' => (w'.cell? ⟨w.heap.size, 0, none⟩ = some (.slice a1 n1 c1) ∧ w'.cell? ⟨w.heap.size, 1, none⟩ = some (.int .i64 st) ∧ w'.cell? ⟨w.heap.size + 1, 0, none⟩ = some (.int .i64 kind) ∧ w'.cell? ⟨w.heap.size + 1, 1, none⟩ = some (.int .i64 k) ∧ w'.cell? ⟨w.heap.size + 1, 2, none⟩ = some (.int .i64 v) ∧ w'.cell? ⟨w.heap.size + 1 + 1, 0, none⟩ = some (.int .i64 code) ∧ w'.cell? ⟨w.heap.size + 1 + 1, 1, none⟩ = some (.slice a2 n2 c2) ∧ w'.cell? ⟨b5, 0, none⟩ = some (.slice aw n1 cw) ∧ w'.cell? ⟨b5, 1, none⟩ = some (.int .i64 st') ∧ w'.cell? ⟨w6.heap.size, 0, none⟩ = some (.slice (some ⟨g1, 0, none⟩) n1 n1) ∧ w'.cell? ⟨w6.heap.size, 1, none⟩ = some (.int .i64 st) ∧ w'.cell? ⟨w7.heap.size, 0, none⟩ = some (.int .i64 code) ∧ w'.cell? ⟨w7.heap.size, 1, none⟩ = some (.slice (some ⟨g2, 0, none⟩) n2 n2)))
          (first | (exact (ALL.out hb8o).1) | (exact (ALL.out (hb8o.alloc (ALL.out hb8o).2.1 _)).1) | (exact (ALL.out hb8).1) | (exact (ALL.out (hb8.alloc (ALL.out hb8).2.1 _)).1) | (exact (ALL.out (hb7r.alloc (by simp) _).drew).1) | (exact (ALL.out (hb8.setCell bge _)).1) | (exact (ALL.out ((hb8.setCell bge _).setCell bge _)).1) | go_keep)
          (first
          | (go_at_call 8
             refine (toOp_any kind k v _).mono ?_
             rintro e w8o ⟨rfl, hb8o'⟩
             have hb8o : Below (w7.heap.size + 1) (w7.alloc (.cells #[.int .i64 code, .slice (some ⟨g2, 0, none⟩) n2 n2] 33)) w8o := by first | exact hb7r.drew.trans (hb8o'.mono (by simp)) | exact (hb7r.alloc (by simp) _).drew.trans (hb8o'.mono (by simp))
             have hs8o : w7.heap.size + 1 ≤ w8o.heap.size := (ALL.out hb8o).2.1
             first | (have bx8o := box_new_drew (lo := w7.heap.size + 1) hb8o' (by simp); simp only [World.size_alloc] at bx8o) | skip)
          | (go_at_call 21
             refine (HI.out g1 g2 n1 n2 st kind k v code xs ys _ (own_intAt (by first | exact (ALL.out hb8o).2.2.2.1 | exact (ALL.out hb8o).2.2.2.1.alloc _) (by omega)) (own_intAt (by first | exact (ALL.out hb8o).2.2.2.2.1 | exact (ALL.out hb8o).2.2.2.2.1.alloc _) (by omega)) HX.out HY.out HW.out.1 HW.out.2.1 HW.out.2.2).mono ?_
             rintro e w8 ⟨⟨zs2, st2, ag, cg, rfl, hAM2, owng⟩, hb8'⟩
             obtain ⟨rfl, rfl⟩ := HAM.out.one hAM2
             have hb8 : Below (w7.heap.size + 1) (w7.alloc (.cells #[.int .i64 code, .slice (some ⟨g2, 0, none⟩) n2 n2] 33)) w8 := by first | exact hb8o.trans (hb8'.mono hs8o) | exact (hb8o.alloc hs8o _).trans (hb8'.mono (by simp; omega))
             first | (have bx8 := box_new (lo := w7.heap.size + 1) hb8' hs8o; have hne := apart_new owng) | (have bx8 := bx8o.carry hb8'; have hne := apart_of bx8o owng) | skip
             have ownx : w8.ownsRow (w7.heap.size + 1) 3 1 (.slice ag n1 cg) n1 (zs.map I) := own_weaken owng (by first | exact hs8o | (simp; omega))
             first | (have bx8' := bx8; obtain ⟨⟨bc0, bc1⟩, ⟨bf0, bf1⟩, bge, blt⟩ := bx8) | skip))
        all_goals first
          | exact ⟨_, ag, cg, rfl, hb8.alloc (ALL.out hb8).2.1 _, box_made (ALL.out hb8).2.1, ownx.alloc _, fun k hk => Nat.ne_of_lt (ownx.lt k hk).2⟩
          | exact ⟨_, ag, cg, rfl, (hb8.setCell (Nat.le_trans (Nat.le_refl _) bge) _).setCell bge _, bx8'.stored _ _, own_boxed ownx hne, hne⟩
      case rest2 =>
        clear hb7r d0 d1 d2 d3 d4 d5 d6 d7 d8 d9 d10 d11 d12 hs70 bw7
        intro ex a' w8 h
        cases ex
        case normal =>
          obtain ⟨b8, ag, cg, rfl, hb8, bx8, owng, hne8⟩ := h
          have hs8 : w7.heap.size + 1 ≤ w8.heap.size := (ALL.out hb8).2.1
          have hb8ge : w7.heap.size + 1 ≤ b8 := bx8.2.2.1
          have hb8lt : b8 < w8.heap.size := bx8.2.2.2
          have ALL8 : Hid (∀ {w' : World}, Below w8.heap.size w8 w' → (w'.cell? ⟨w.heap.size, 0, none⟩ = some (.slice a1 n1 c1) ∧ w'.cell? ⟨w.heap.size, 1, none⟩ = some (.int .i64 st) ∧ w'.cell? ⟨w.heap.size + 1, 0, none⟩ = some (.int .i64 kind) ∧ w'.cell? ⟨w.heap.size + 1, 1, none⟩ = some (.int .i64 k) ∧ w'.cell? ⟨w.heap.size + 1, 2, none⟩ = some (.int .i64 v) ∧ w'.cell? ⟨w.heap.size + 1 + 1, 0, none⟩ = some (.int .i64 code) ∧ w'.cell? ⟨w.heap.size + 1 + 1, 1, none⟩ = some (.slice a2 n2 c2) ∧ w'.cell? ⟨b5, 0, none⟩ = some (.slice aw n1 cw) ∧ w'.cell? ⟨b5, 1, none⟩ = some (.int .i64 st') ∧ w'.cell? ⟨w6.heap.size, 0, none⟩ = some (.slice (some ⟨g1, 0, none⟩) n1 n1) ∧ w'.cell? ⟨w6.heap.size, 1, none⟩ = some (.int .i64 st) ∧ w'.cell? ⟨w7.heap.size, 0, none⟩ = some (.int .i64 code) ∧ w'.cell? ⟨w7.heap.size, 1, none⟩ = some (.slice (some ⟨g2, 0, none⟩) n2 n2) ∧ w'.cell? ⟨b8, 0, none⟩ = some (.slice ag n1 cg) ∧ w'.cell? ⟨b8, 1, none⟩ = some (.int .i64 st')) ∧ w8.heap.size ≤ w'.heap.size ∧ Below w.heap.size w w' ∧ w'.ownsRow g1 3 1 (.slice (some ⟨g1, 0, none⟩) n1 n1) n1 (xs.map I) ∧ w'.ownsRow g2 3 1 (.slice (some ⟨g2, 0, none⟩) n2 n2) n2 (ys.map I) ∧ w'.ownsRow (w.heap.size + 1 + 1 + 1) 3 1 (.slice aw n1 cw) n1 (zs.map I) ∧ w'.ownsRow (w7.heap.size + 1) 3 1 (.slice ag n1 cg) n1 (zs.map I)) := fun {w'} hb => by
            obtain ⟨⟨q0, q1, q2, q3, q4, q5, q6, q7, q8, q9, q10, q11, q12⟩, h1, h2, h3, h4, h5⟩ := ALL.out (hb8.trans (hb.mono hs8))
            have hbx := bx8.carry hb
            exact ⟨⟨q0, q1, q2, q3, q4, q5, q6, q7, q8, q9, q10, q11, q12, hbx.1.1, hbx.1.2⟩, hb.size, h2, h3, h4, h5, owns_below owng hb (Nat.le_refl _)⟩
          have HG8 : Hid (∀ k, (Value.slice ag n1 cg).ownBlock = some k → w7.heap.size + 1 ≤ k ∧ k ≠ b8) := fun k hk => ⟨(owng.lt k hk).1, hne8 k hk⟩
          have hb8r : Below w8.heap.size w8 w8 := Below.refl _ _
          obtain ⟨⟨d0, d1, d2, d3, d4, d5, d6, d7, d8, d9, d10, d11, d12, d13, d14⟩, _, bw8, _⟩ := ALL8.out hb8r
          clear hb8 bx8 owng hne8 ALL
          go_wp2_with fail
          refine (eqRows_same _ _ n1 n1 cg cw st' zs _ ((own_at (ALL8.out hb8r).2.2.2.2.2.2 (by omega)).elim fun _ h => h.elim fun _ h => by cases h.1; exact h.2) ((own_at (ALL8.out hb8r).2.2.2.2.2.1 (by omega)).elim fun _ h => h.elim fun _ h => by cases h.1; exact h.2)).mono ?_
          rintro e w9 ⟨rfl, hb9⟩
          have hs9 : w8.heap.size ≤ w9.heap.size := hb9.size
          clear d0 d1 d2 d3 d4 d5 d6 d7 d8 d9 d10 d11 d12 d13 d14 bw8
          obtain ⟨⟨d0, d1, d2, d3, d4, d5, d6, d7, d8, d9, d10, d11, d12, d13, d14⟩, _, bw9, _⟩ := ALL8.out hb9
          go_wp2_with fail
          go_region_held3 (fun w' => (w'.cell? ⟨w.heap.size, 0, none⟩ = some (.slice a1 n1 c1) ∧ w'.cell? ⟨w.heap.size, 1, none⟩ = some (.int .i64 st) ∧ w'.cell? ⟨w.heap.size + 1, 0, none⟩ = some (.int .i64 kind) ∧ w'.cell? ⟨w.heap.size + 1, 1, none⟩ = some (.int .i64 k) ∧ w'.cell? ⟨w.heap.size + 1, 2, none⟩ = some (.int .i64 v) ∧ w'.cell? ⟨w.heap.size + 1 + 1, 0, none⟩ = some (.int .i64 code) ∧ w'.cell? ⟨w.heap.size + 1 + 1, 1, none⟩ = some (.slice a2 n2 c2) ∧ w'.cell? ⟨b5, 0, none⟩ = some (.slice aw n1 cw) ∧ w'.cell? ⟨b5, 1, none⟩ = some (.int .i64 st') ∧ w'.cell? ⟨w6.heap.size, 0, none⟩ = some (.slice (some ⟨g1, 0, none⟩) n1 n1) ∧ w'.cell? ⟨w6.heap.size, 1, none⟩ = some (.int .i64 st) ∧ w'.cell? ⟨w7.heap.size, 0, none⟩ = some (.int .i64 code) ∧ w'.cell? ⟨w7.heap.size, 1, none⟩ = some (.slice (some ⟨g2, 0, none⟩) n2 n2) ∧ w'.cell? ⟨b8, 0, none⟩ = some (.slice ag n1 cg) ∧ w'.cell? ⟨b8, 1, none⟩ = some (.int .i64 st')))
            (first | (exact (ALL8.out hb10).1) | (exact (ALL8.out hb11).1) | go_keep)
            (first
            | (go_at_call 17
               refine (toRows_g a1 n1 c1 st xs _ (hA0.out.below bw9.drew (Nat.le_refl _))).mono ?_
               rintro e w10 ⟨g3, rfl, _, own10, hb10'⟩
               have hb10 := hb9.drew.trans (hb10'.mono hs9))
            | (go_at_call 19
               refine (eqRows_same _ _ n1 n1 n1 n1 st xs _ (own_intAt (ALL8.out hb10).2.2.2.1 (by omega)) (own_intAt own10 (by omega))).mono ?_
               rintro e w11 ⟨rfl, hb11'⟩
               have hb11 := hb10.trans (hb11'.mono (ALL8.out hb10).2.1)))
          have hs11 : w8.heap.size ≤ w11.heap.size := (ALL8.out hb11).2.1
          clear d0 d1 d2 d3 d4 d5 d6 d7 d8 d9 d10 d11 d12 d13 d14 bw9 hb9 hb10 hb10' hb11' own10 hs9
          obtain ⟨⟨d0, d1, d2, d3, d4, d5, d6, d7, d8, d9, d10, d11, d12, d13, d14⟩, _, bw11, _⟩ := ALL8.out hb11
          go_wp2_with fail
          go_region_held3 (fun w' => (w'.cell? ⟨w.heap.size, 0, none⟩ = some (.slice a1 n1 c1) ∧ w'.cell? ⟨w.heap.size, 1, none⟩ = some (.int .i64 st) ∧ w'.cell? ⟨w.heap.size + 1, 0, none⟩ = some (.int .i64 kind) ∧ w'.cell? ⟨w.heap.size + 1, 1, none⟩ = some (.int .i64 k) ∧ w'.cell? ⟨w.heap.size + 1, 2, none⟩ = some (.int .i64 v) ∧ w'.cell? ⟨w.heap.size + 1 + 1, 0, none⟩ = some (.int .i64 code) ∧ w'.cell? ⟨w.heap.size + 1 + 1, 1, none⟩ = some (.slice a2 n2 c2) ∧ w'.cell? ⟨b5, 0, none⟩ = some (.slice aw n1 cw) ∧ w'.cell? ⟨b5, 1, none⟩ = some (.int .i64 st') ∧ w'.cell? ⟨w6.heap.size, 0, none⟩ = some (.slice (some ⟨g1, 0, none⟩) n1 n1) ∧ w'.cell? ⟨w6.heap.size, 1, none⟩ = some (.int .i64 st) ∧ w'.cell? ⟨w7.heap.size, 0, none⟩ = some (.int .i64 code) ∧ w'.cell? ⟨w7.heap.size, 1, none⟩ = some (.slice (some ⟨g2, 0, none⟩) n2 n2) ∧ w'.cell? ⟨b8, 0, none⟩ = some (.slice ag n1 cg) ∧ w'.cell? ⟨b8, 1, none⟩ = some (.int .i64 st')))
            (first | (exact (ALL8.out hb12).1) | (exact (ALL8.out hb13).1) | go_keep)
            (first
            | (go_at_call 12
               refine (toRes_g a2 n2 c2 code ys _ (hB0.out.below bw11.drew (Nat.le_refl _))).mono ?_
               rintro e w12 ⟨g4, rfl, _, own12, hb12'⟩
               have hb12 := hb11.drew.trans (hb12'.mono hs11))
            | (go_at_call 14
               refine (eqRes_same _ _ n2 n2 n2 n2 code ys _ (own_intAt (ALL8.out hb12).2.2.2.2.1 (by omega)) (own_intAt own12 (by omega))).mono ?_
               rintro e w13 ⟨rfl, hb13'⟩
               have hb13 := hb12.trans (hb13'.mono (ALL8.out hb12).2.1)))
          clear d0 d1 d2 d3 d4 d5 d6 d7 d8 d9 d10 d11 d12 d13 d14 bw11 hb11 hb12 hb12' hb13' own12 hs11
          obtain ⟨⟨d0, d1, d2, d3, d4, d5, d6, d7, d8, d9, d10, d11, d12, d13, d14⟩, hs13, bw13, ox13, oy13, ow13, og13⟩ := ALL8.out hb13
          have CELLS : Hid (∀ {w' : World}, Kept w13 w' g1 g2 (Value.slice ag n1 cg).ownBlock → (w'.cell? ⟨w.heap.size, 0, none⟩ = some (.slice a1 n1 c1) ∧ w'.cell? ⟨w.heap.size, 1, none⟩ = some (.int .i64 st) ∧ w'.cell? ⟨w.heap.size + 1, 0, none⟩ = some (.int .i64 kind) ∧ w'.cell? ⟨w.heap.size + 1, 1, none⟩ = some (.int .i64 k) ∧ w'.cell? ⟨w.heap.size + 1, 2, none⟩ = some (.int .i64 v) ∧ w'.cell? ⟨w.heap.size + 1 + 1, 0, none⟩ = some (.int .i64 code) ∧ w'.cell? ⟨w.heap.size + 1 + 1, 1, none⟩ = some (.slice a2 n2 c2) ∧ w'.cell? ⟨b5, 0, none⟩ = some (.slice aw n1 cw) ∧ w'.cell? ⟨b5, 1, none⟩ = some (.int .i64 st') ∧ w'.cell? ⟨w6.heap.size, 0, none⟩ = some (.slice (some ⟨g1, 0, none⟩) n1 n1) ∧ w'.cell? ⟨w6.heap.size, 1, none⟩ = some (.int .i64 st) ∧ w'.cell? ⟨w7.heap.size, 0, none⟩ = some (.int .i64 code) ∧ w'.cell? ⟨w7.heap.size, 1, none⟩ = some (.slice (some ⟨g2, 0, none⟩) n2 n2) ∧ w'.cell? ⟨b8, 0, none⟩ = some (.slice ag n1 cg) ∧ w'.cell? ⟨b8, 1, none⟩ = some (.int .i64 st')) ∧ w'.ownsRow (w.heap.size + 1 + 1 + 1) 3 1 (.slice aw n1 cw) n1 (zs.map I)) := fun {w'} hk => by
            have hgg : ∀ b, b < w7.heap.size + 1 ∨ b = b8 → (Value.slice ag n1 cg).ownBlock ≠ some b := fun b hb e => by
              have := HG8.out b e
              omega
            exact ⟨⟨hk.cell d0 (by omega) (by omega) (hgg _ (by omega)), hk.cell d1 (by omega) (by omega) (hgg _ (by omega)), hk.cell d2 (by omega) (by omega) (hgg _ (by omega)), hk.cell d3 (by omega) (by omega) (hgg _ (by omega)), hk.cell d4 (by omega) (by omega) (hgg _ (by omega)), hk.cell d5 (by omega) (by omega) (hgg _ (by omega)), hk.cell d6 (by omega) (by omega) (hgg _ (by omega)), hk.cell d7 (by omega) (by omega) (hgg _ (by omega)), hk.cell d8 (by omega) (by omega) (hgg _ (by omega)), hk.cell d9 (by omega) (by omega) (hgg _ (by omega)), hk.cell d10 (by omega) (by omega) (hgg _ (by omega)), hk.cell d11 (by omega) (by omega) (hgg _ (by omega)), hk.cell d12 (by omega) (by omega) (hgg _ (by omega)), hk.cell d13 (by omega) (by omega) (hgg _ (by omega)), hk.cell d14 (by omega) (by omega) (hgg _ (by omega))⟩,
              hk.owns ow13 (fun k hk => by have := HNE.out k hk; exact ⟨by omega, by omega, hgg _ (by omega)⟩)⟩
          have OX : Hid (w13.ownsRow g1 3 1 (.slice (some ⟨g1, 0, none⟩) n1 n1) n1 (xs.map I)) := ox13
          have OY : Hid (w13.ownsRow g2 3 1 (.slice (some ⟨g2, 0, none⟩) n2 n2) n2 (ys.map I)) := oy13
          have OG : Hid (w13.ownsRow (w7.heap.size + 1) 3 1 (.slice ag n1 cg) n1 (zs.map I)) := og13
          clear ox13 oy13 ow13 og13 ALL8 hb8r hb13
          go_wp2_with fail
          have hx1 : xs.length = n1 := hA0.out.1
          have hx2 : ys.length = n2 := hB0.out.1
          have hx3 : zs.length = n1 := by have := OG.out.1; simpa using this
          have HX3 : Hid (zs.length = n1) := hx3
          refine (markRows_row g1 (some ⟨g1, 0, none⟩) n1 n1 st xs _ hx1 (by omega) OX.out).mono ?_
          rintro e w14 ⟨rfl, _, hg14'⟩
          have hg14 : w13.grownBy w14 (some g1) := hg14'
          have kept14 : Kept w13 w14 g1 g2 (Value.slice ag n1 cg).ownBlock := (Kept.refl _ _ _ _).grown hg14 (.inl rfl)
          have OY14 : Hid (w14.ownsRow g2 3 1 (.slice (some ⟨g2, 0, none⟩) n2 n2) n2 (ys.map I)) := OY.out.kept hg14 (.inr (fun e => by simp [Value.ownBlock] at e; omega))
          have OG14 : Hid (w14.ownsRow (w7.heap.size + 1) 3 1 (.slice ag n1 cg) n1 (zs.map I)) := OG.out.kept hg14 (.inr (fun e => by have := HG8.out g1 e; omega))
          have bw14 : Below w.heap.size w w14 := below_marked bw13 hg14 (fun k e => by cases e; omega)
          clear d0 d1 d2 d3 d4 d5 d6 d7 d8 d9 d10 d11 d12 d13 d14 hg14 hg14' bw13 OX OY OG
          obtain ⟨⟨d0, d1, d2, d3, d4, d5, d6, d7, d8, d9, d10, d11, d12, d13, d14⟩, _⟩ := CELLS.out kept14
          go_wp2_with fail
          refine (markRes_from g2 n2 n2 code _ ys _ hx2 (by omega) (by omega) (by omega) OY14.out).mono ?_
          rintro e w15 ⟨rfl, hg15⟩
          have kept15 := kept14.grown hg15 (.inr (.inl rfl))
          have OG15 : Hid (w15.ownsRow (w7.heap.size + 1) 3 1 (.slice ag n1 cg) n1 (zs.map I)) := OG14.out.kept hg15 (.inr (fun e => by have := HG8.out g2 e; omega))
          have bw15 : Below w.heap.size w w15 := below_marked bw14 hg15 (fun k e => by cases e; omega)
          clear d0 d1 d2 d3 d4 d5 d6 d7 d8 d9 d10 d11 d12 d13 d14 hg15 bw14 OY14 OG14 kept14
          obtain ⟨⟨d0, d1, d2, d3, d4, d5, d6, d7, d8, d9, d10, d11, d12, d13, d14⟩, ow15⟩ := CELLS.out kept15
          have hk0 : ¬ ((n1 : Int) + 1 + (n2 : Int) < 0) := by omega
          go_wp2_with fail
          refine (eqRows_same _ _ n1 n1 cg cw st' zs _ ((own_at OG15.out (by omega)).elim fun _ h => h.elim fun _ h => by cases h.1; exact h.2) ((own_at ow15 (by omega)).elim fun _ h => h.elim fun _ h => by cases h.1; exact h.2)).mono ?_
          rintro e w16 ⟨rfl, hb16⟩
          have kept16 := kept15.below hb16 kept15.2
          have OG16 : Hid (w16.ownsRow (w7.heap.size + 1) 3 1 (.slice ag n1 cg) n1 (zs.map I)) := owns_below OG15.out hb16 (Nat.le_refl _)
          have bw16 : Below w.heap.size w w16 := bw15.trans (hb16.mono bw15.size)
          clear d0 d1 d2 d3 d4 d5 d6 d7 d8 d9 d10 d11 d12 d13 d14 hb16 bw15 OG15 kept15 ow15
          obtain ⟨⟨d0, d1, d2, d3, d4, d5, d6, d7, d8, d9, d10, d11, d12, d13, d14⟩, _⟩ := CELLS.out kept16
          go_wp2_with fail
          refine (markRows_row (w7.heap.size + 1) ag n1 cg st' zs _ HX3.out (by omega) OG16.out).mono ?_
          rintro e w17 ⟨rfl, og17, hg17⟩
          have kept17 := kept16.grown hg17 (.inr (.inr rfl))
          have OG17 : Hid (w17.ownsRow (w7.heap.size + 1) 3 1 (.slice ag n1 cg) n1 ((marksI n1).map I)) := og17
          have bw17 : Below w.heap.size w w17 := below_marked bw16 hg17 (fun k e => by have := HG8.out k e; omega)
          clear d0 d1 d2 d3 d4 d5 d6 d7 d8 d9 d10 d11 d12 d13 d14 hg17 bw16 OG16 kept16 og17
          obtain ⟨⟨d0, d1, d2, d3, d4, d5, d6, d7, d8, d9, d10, d11, d12, d13, d14⟩, _⟩ := CELLS.out kept17
          go_wp2_with fail
          refine (heldRows_any ag n1 cg st' _ ((own_at OG17.out (by omega)).elim fun _ h => h.elim fun _ h => by cases h.1; exact h.2)).mono ?_
          rintro e w18 ⟨rfl, hb18⟩
          have kept18 := kept17.below hb18 kept17.2
          have OG18 : Hid (w18.ownsRow (w7.heap.size + 1) 3 1 (.slice ag n1 cg) n1 ((marksI n1).map I)) := owns_below OG17.out hb18 (Nat.le_refl _)
          have bw18 : Below w.heap.size w w18 := bw17.trans (hb18.mono bw17.size)
          clear d0 d1 d2 d3 d4 d5 d6 d7 d8 d9 d10 d11 d12 d13 d14 hb18 bw17 OG17 kept17
          obtain ⟨⟨d0, d1, d2, d3, d4, d5, d6, d7, d8, d9, d10, d11, d12, d13, d14⟩, _⟩ := CELLS.out kept18
          have hk1 : ¬ ((n1 : Int) + 1 < 0) := by omega
          have hk2 : ((n1 : Int) + 1 != (n1 : Int) + 1) = false := by simp
          go_wp2_with fail
          have hb18r : Below w18.heap.size w18 w18 := Below.refl _ _
          have hs18 := kept18.2
          have ALL18 : Hid (∀ {w' : World}, Below w18.heap.size w18 w' → (w'.cell? ⟨w.heap.size, 0, none⟩ = some (.slice a1 n1 c1) ∧ w'.cell? ⟨w.heap.size, 1, none⟩ = some (.int .i64 st) ∧ w'.cell? ⟨w.heap.size + 1, 0, none⟩ = some (.int .i64 kind) ∧ w'.cell? ⟨w.heap.size + 1, 1, none⟩ = some (.int .i64 k) ∧ w'.cell? ⟨w.heap.size + 1, 2, none⟩ = some (.int .i64 v) ∧ w'.cell? ⟨w.heap.size + 1 + 1, 0, none⟩ = some (.int .i64 code) ∧ w'.cell? ⟨w.heap.size + 1 + 1, 1, none⟩ = some (.slice a2 n2 c2) ∧ w'.cell? ⟨b5, 0, none⟩ = some (.slice aw n1 cw) ∧ w'.cell? ⟨b5, 1, none⟩ = some (.int .i64 st') ∧ w'.cell? ⟨w6.heap.size, 0, none⟩ = some (.slice (some ⟨g1, 0, none⟩) n1 n1) ∧ w'.cell? ⟨w6.heap.size, 1, none⟩ = some (.int .i64 st) ∧ w'.cell? ⟨w7.heap.size, 0, none⟩ = some (.int .i64 code) ∧ w'.cell? ⟨w7.heap.size, 1, none⟩ = some (.slice (some ⟨g2, 0, none⟩) n2 n2) ∧ w'.cell? ⟨b8, 0, none⟩ = some (.slice ag n1 cg) ∧ w'.cell? ⟨b8, 1, none⟩ = some (.int .i64 st')) ∧ w18.heap.size ≤ w'.heap.size ∧ Below w.heap.size w w' ∧ w'.ownsRow (w.heap.size + 1 + 1 + 1) 3 1 (.slice aw n1 cw) n1 (zs.map I) ∧ w'.ownsRow (w7.heap.size + 1) 3 1 (.slice ag n1 cg) n1 ((marksI n1).map I)) := fun {w'} hb => by
            obtain ⟨h1, h2⟩ := CELLS.out (kept18.below hb kept18.2)
            exact ⟨h1, hb.size, bw18.trans (hb.mono bw18.size), h2, owns_below OG18.out hb (Nat.le_refl _)⟩
          clear CELLS
          refine Code.wp_mono (Q := Exit.then (fun a' w' => ∃ (bh p1 p2 : Nat) (ah : Option Addr) (ch : Nat), a' = ⟨List.toArray (RowsV a1 n1 c1 st :: OpV kind k v :: ResV code a2 n2 c2 :: Value.pointer (some ⟨w.heap.size, 0, none⟩) :: Value.pointer (some ⟨w.heap.size + 1, 0, none⟩) :: Value.pointer (some ⟨w.heap.size + 1 + 1, 0, none⟩) :: Value.bool false :: Value.int IntKind.i64 (1048576 - (n1 : Int) - (n2 : Int)) :: Value.pointer (some ⟨b5, 0, none⟩) :: Value.pointer (some ⟨w6.heap.size, 0, none⟩) :: Value.pointer (some ⟨w7.heap.size, 0, none⟩) :: Value.pointer (some ⟨b8, 0, none⟩) :: Value.int IntKind.i64 ((n1 : Int) + 1 + (n2 : Int)) :: Value.int IntKind.i64 ((n1 : Int) + 1) :: Value.int IntKind.i64 ((n1 : Int) + 1) :: Value.pointer (some ⟨bh, 0, none⟩) :: Value.agg #[Value.slice a1 n1 c1, Value.int IntKind.i64 st] :: Value.int IntKind.i64 1048576 :: Value.int IntKind.i64 (1048576 - (n1 : Int)) :: Value.int IntKind.i64 (1048576 - (n1 : Int)) :: Value.bool (decide (1048576 - (n1 : Int) < 0)) :: Value.agg #[Value.int IntKind.i64 code, Value.slice a2 n2 c2] :: Value.int IntKind.i64 (1048576 - (n1 : Int)) :: Value.int IntKind.i64 (1048576 - (n1 : Int) - (n2 : Int)) :: Value.int IntKind.i64 (1048576 - (n1 : Int) - (n2 : Int)) :: Value.bool (decide (1048576 - (n1 : Int) - (n2 : Int) < 0)) :: Value.agg #[Value.slice a1 n1 c1, Value.int IntKind.i64 st] :: RowsV (some ⟨q1, 0, none⟩) n1 n1 st :: Value.agg #[Value.int IntKind.i64 kind, Value.int IntKind.i64 k, Value.int IntKind.i64 v] :: OpV kind k v :: Value.agg #[Value.int IntKind.i64 code, Value.slice a2 n2 c2] :: ResV code (some ⟨q2, 0, none⟩) n2 n2 :: Value.agg #[Value.slice aw n1 cw, Value.int IntKind.i64 st'] :: Value.agg #[Value.slice a1 n1 c1, Value.int IntKind.i64 st] :: RowsV (some ⟨g1, 0, none⟩) n1 n1 st :: Value.agg #[Value.int IntKind.i64 code, Value.slice a2 n2 c2] :: ResV code (some ⟨g2, 0, none⟩) n2 n2 :: Value.agg #[Value.slice (some ⟨g1, 0, none⟩) n1 n1, Value.int IntKind.i64 st] :: Value.agg #[Value.int IntKind.i64 kind, Value.int IntKind.i64 k, Value.int IntKind.i64 v] :: OpV kind k v :: Value.agg #[Value.int IntKind.i64 code, Value.slice (some ⟨g2, 0, none⟩) n2 n2] :: Value.agg #[Value.slice ag n1 cg, Value.int IntKind.i64 st'] :: Value.agg #[Value.slice ag n1 cg, Value.int IntKind.i64 st'] :: Value.agg #[Value.slice aw n1 cw, Value.int IntKind.i64 st'] :: Value.bool true :: Value.bool false :: Value.agg #[Value.slice (some ⟨g1, 0, none⟩) n1 n1, Value.int IntKind.i64 st] :: Value.agg #[Value.slice a1 n1 c1, Value.int IntKind.i64 st] :: RowsV (some ⟨g3, 0, none⟩) n1 n1 st :: Value.bool true :: Value.bool false :: Value.agg #[Value.int IntKind.i64 code, Value.slice (some ⟨g2, 0, none⟩) n2 n2] :: Value.agg #[Value.int IntKind.i64 code, Value.slice a2 n2 c2] :: ResV code (some ⟨g4, 0, none⟩) n2 n2 :: Value.bool true :: Value.bool false :: Value.agg #[Value.slice (some ⟨g1, 0, none⟩) n1 n1, Value.int IntKind.i64 st] :: Value.int IntKind.i64 1 :: Value.int IntKind.i64 ((n1 : Int) + 1) :: Value.agg #[Value.int IntKind.i64 code, Value.slice (some ⟨g2, 0, none⟩) n2 n2] :: Value.int IntKind.i64 ((n1 : Int) + 1) :: Value.int IntKind.i64 ((n1 : Int) + 1 + (n2 : Int)) :: Value.int IntKind.i64 ((n1 : Int) + 1 + (n2 : Int)) :: Value.bool (decide ((n1 : Int) + 1 + (n2 : Int) < 0)) :: Value.bool (decide ((n1 : Int) + 1 + (n2 : Int) < 0)) :: Value.agg #[Value.slice ag n1 cg, Value.int IntKind.i64 st'] :: Value.agg #[Value.slice aw n1 cw, Value.int IntKind.i64 st'] :: Value.bool true :: Value.bool false :: Value.bool (decide ((n1 : Int) + 1 + (n2 : Int) < 0)) :: Value.agg #[Value.slice ag n1 cg, Value.int IntKind.i64 st'] :: Value.int IntKind.i64 1 :: Value.int IntKind.i64 ((n1 : Int) + 1) :: Value.agg #[Value.slice ag n1 cg, Value.int IntKind.i64 st'] :: Value.int IntKind.i64 1 :: Value.int IntKind.i64 ((n1 : Int) + 1) :: Value.int IntKind.i64 ((n1 : Int) + 1) :: Value.bool (decide ((n1 : Int) + 1 < 0)) :: Value.int IntKind.i64 ((n1 : Int) + 1) :: Value.int IntKind.i64 ((n1 : Int) + 1) :: Value.bool false :: Value.agg #[Value.slice a1 n1 c1, Value.int IntKind.i64 st] :: RowsV (some ⟨p1, 0, none⟩) n1 n1 st :: Value.agg #[Value.int IntKind.i64 kind, Value.int IntKind.i64 k, Value.int IntKind.i64 v] :: OpV kind k v :: Value.agg #[Value.int IntKind.i64 code, Value.slice a2 n2 c2] :: ResV code (some ⟨p2, 0, none⟩) n2 n2 :: Value.agg #[Value.slice ah n1 ch, Value.int IntKind.i64 st'] :: undef :: undef :: undef :: undef :: undef :: undef :: undef :: undef :: undef :: undef :: undef :: undef :: []), []⟩ ∧ Below w18.heap.size w18 w' ∧ BoxAt w' w18.heap.size bh (.slice ah n1 ch) (.int .i64 st') ∧ w'.ownsRow w18.heap.size 3 1 (.slice ah n1 ch) n1 (zs.map I)) (fun _ _ _ => False)) ?rest3 ?reg3
          case reg3 =>
            go_region_held3 (fun w' => (w'.cell? ⟨w.heap.size, 0, none⟩ = some (.slice a1 n1 c1) ∧ w'.cell? ⟨w.heap.size, 1, none⟩ = some (.int .i64 st) ∧ w'.cell? ⟨w.heap.size + 1, 0, none⟩ = some (.int .i64 kind) ∧ w'.cell? ⟨w.heap.size + 1, 1, none⟩ = some (.int .i64 k) ∧ w'.cell? ⟨w.heap.size + 1, 2, none⟩ = some (.int .i64 v) ∧ w'.cell? ⟨w.heap.size + 1 + 1, 0, none⟩ = some (.int .i64 code) ∧ w'.cell? ⟨w.heap.size + 1 + 1, 1, none⟩ = some (.slice a2 n2 c2) ∧ w'.cell? ⟨b5, 0, none⟩ = some (.slice aw n1 cw) ∧ w'.cell? ⟨b5, 1, none⟩ = some (.int .i64 st') ∧ w'.cell? ⟨w6.heap.size, 0, none⟩ = some (.slice (some ⟨g1, 0, none⟩) n1 n1) ∧ w'.cell? ⟨w6.heap.size, 1, none⟩ = some (.int .i64 st) ∧ w'.cell? ⟨w7.heap.size, 0, none⟩ = some (.int .i64 code) ∧ w'.cell? ⟨w7.heap.size, 1, none⟩ = some (.slice (some ⟨g2, 0, none⟩) n2 n2) ∧ w'.cell? ⟨b8, 0, none⟩ = some (.slice ag n1 cg) ∧ w'.cell? ⟨b8, 1, none⟩ = some (.int .i64 st')))
              (first | (exact (ALL18.out hb19).1) | (exact (ALL18.out (hb19.alloc hs19 _)).1) | (exact (ALL18.out hb19o).1) | (exact (ALL18.out (hb19o.alloc hs19o _)).1) | (exact (ALL18.out hb20).1) | (exact (ALL18.out (hb20.alloc hs20 _)).1) | (exact (ALL18.out hb21).1) | (exact (ALL18.out (hb21.alloc hs21 _)).1) | (exact (ALL18.out (hb18r.alloc (Nat.le_refl _) _).drew).1) | (exact (ALL18.out (hb21.setCell bge _)).1) | (exact (ALL18.out ((hb21.setCell bge _).setCell bge _)).1) | go_keep)
              (first
              | (go_at_call 17
                 refine (toRows_g a1 n1 c1 st xs _ (hA0.out.below (ALL18.out (by first | exact hb18r.drew | exact (hb18r.alloc (Nat.le_refl _) _).drew)).2.2.1 (Nat.le_refl _))).mono ?_
                 rintro e w19 ⟨p1, rfl, _, own19, hb19'⟩
                 have hb19 : Below w18.heap.size w18 w19 := by first | exact hb18r.drew.trans (hb19'.mono (by simp)) | exact (hb18r.alloc (Nat.le_refl _) _).drew.trans (hb19'.mono (by simp))
                 have hs19 : w18.heap.size ≤ w19.heap.size := hb19.size
                 first | (have bx19 := box_new_drew hb19' (Nat.le_refl w18.heap.size)) | skip)
              | (go_at_call 8
                 refine (toOp_any kind k v _).mono ?_
                 rintro e w19o ⟨rfl, hb19o'⟩
                 have hb19o : Below w18.heap.size w18 w19o := by first | exact hb19.trans (hb19o'.mono hs19) | exact (hb19.alloc hs19 _).trans (hb19o'.mono (by simp; omega))
                 have hs19o : w18.heap.size ≤ w19o.heap.size := hb19o.size
                 have own19o : w19o.ownsRow p1 3 1 (.slice (some ⟨p1, 0, none⟩) n1 n1) n1 (xs.map I) := by first | exact owns_below own19 hb19o' (Nat.le_refl _) | exact owns_below (own19.alloc _) hb19o' (Nat.le_refl _)
                 first | (have bx19o := box_new hb19o' hs19) | (have bx19o := bx19.carry hb19o') | skip)
              | (go_at_call 12
                 refine (toRes_g a2 n2 c2 code ys _ (hB0.out.below (ALL18.out (by first | exact hb19o | exact hb19o.alloc hs19o _)).2.2.1 (Nat.le_refl _))).mono ?_
                 rintro e w20 ⟨p2, rfl, _, own20, hb20'⟩
                 have hb20 : Below w18.heap.size w18 w20 := by first | exact hb19o.trans (hb20'.mono hs19o) | exact (hb19o.alloc hs19o _).trans (hb20'.mono (by simp; omega))
                 have hs20 : w18.heap.size ≤ w20.heap.size := hb20.size
                 have own1920 : w20.ownsRow p1 3 1 (.slice (some ⟨p1, 0, none⟩) n1 n1) n1 (xs.map I) := by first | exact owns_below own19o hb20' (Nat.le_refl _) | exact owns_below (own19o.alloc _) hb20' (Nat.le_refl _)
                 first | (have bx20 := box_new hb20' hs19o) | (have bx20 := bx19o.carry hb20') | skip)
              | (go_at_call 21
                 refine (HI.out p1 p2 n1 n2 st kind k v code xs ys _ (own_intAt (by first | exact own1920 | exact own1920.alloc _) (by omega)) (own_intAt (by first | exact own20 | exact own20.alloc _) (by omega)) HX.out HY.out HW.out.1 HW.out.2.1 HW.out.2.2).mono ?_
                 rintro e w21 ⟨⟨zs3, st3, ah, ch, rfl, hAM3, ownh⟩, hb21'⟩
                 obtain ⟨rfl, rfl⟩ := HAM.out.one hAM3
                 have hb21 : Below w18.heap.size w18 w21 := by first | exact hb20.trans (hb21'.mono hs20) | exact (hb20.alloc hs20 _).trans (hb21'.mono (by simp; omega))
                 have hs21 : w18.heap.size ≤ w21.heap.size := hb21.size
                 first | (have bx21 := box_new hb21' hs20; have hne := apart_new ownh) | (have bx21 := bx20.carry hb21'; have hne := apart_of bx20 ownh) | skip
                 have ownx : w21.ownsRow w18.heap.size 3 1 (.slice ah n1 ch) n1 (zs.map I) := own_weaken ownh (by first | exact hs20 | (simp; omega))
                 first | (have bx21' := bx21; obtain ⟨⟨bc0, bc1⟩, ⟨bf0, bf1⟩, bge, blt⟩ := bx21) | skip))
            all_goals first
              | exact ⟨_, p1, p2, ah, ch, rfl, hb21.alloc hs21 _, box_made hs21, ownx.alloc _⟩
              | exact ⟨_, p1, p2, ah, ch, rfl, (hb21.setCell bge _).setCell bge _, bx21'.stored _ _, own_boxed ownx hne⟩
          case rest3 =>
            clear d0 d1 d2 d3 d4 d5 d6 d7 d8 d9 d10 d11 d12 d13 d14 hb18r bw18 kept18 OG18 HI HX HY HW HAM HNE HBX hs18
            intro ex a' w22 h
            cases ex
            case normal =>
              obtain ⟨bh, p1, p2, ah, ch, rfl, hb22, bx22, own22⟩ := h
              obtain ⟨⟨d0, d1, d2, d3, d4, d5, d6, d7, d8, d9, d10, d11, d12, d13, d14⟩, hs22, bw22, ow22, og22⟩ := ALL18.out hb22
              obtain ⟨⟨bc0, bc1⟩, _, _, _⟩ := bx22
              have OH : Hid (w22.ownsRow w18.heap.size 3 1 (.slice ah n1 ch) n1 (zs.map I)) := own22
              clear own22 og22
              go_wp2_with fail
              refine (eqRows_same _ _ n1 n1 ch cw st' zs _ ((own_at OH.out (by omega)).elim fun _ h => h.elim fun _ h => by cases h.1; exact h.2) ((own_at ow22 (by omega)).elim fun _ h => h.elim fun _ h => by cases h.1; exact h.2)).mono ?_
              rintro e w23 ⟨rfl, hb23⟩
              have hb023 := hb22.trans (hb23.mono hs22)
              clear d0 d1 d2 d3 d4 d5 d6 d7 d8 d9 d10 d11 d12 d13 d14 hs22 bw22 ow22 bc0 bc1 hb23 hb22 OH
              obtain ⟨⟨d0, d1, d2, d3, d4, d5, d6, d7, d8, d9, d10, d11, d12, d13, d14⟩, hs23, bw23, _, og23⟩ := ALL18.out hb023
              go_wp2_with fail
              refine (heldRows_any ag n1 cg st' _ ((own_at og23 (by omega)).elim fun _ h => h.elim fun _ h => by cases h.1; exact h.2)).mono ?_
              rintro e w24 ⟨rfl, hb24⟩
              have hall : Below w.heap.size w w24 := bw23.trans (hb24.mono bw23.size)
              clear d0 d1 d2 d3 d4 d5 d6 d7 d8 d9 d10 d11 d12 d13 d14 hs23 bw23 og23 hb24 hb023 ALL18
              have hk1 : ¬ ((n1 : Int) + 1 < 0) := by omega
              have hk2 : ((n1 : Int) + 1 != (n1 : Int) + 1) = false := by simp
              go_wp2
              go_ret
              exact ⟨rfl, hall⟩
            all_goals exact h.elim
        all_goals exact h.elim
    all_goals exact h.elim

set_option maxRecDepth 100000 in
theorem lifted (hI : Asked) (os : Os) (started : os.Started) (H : Type) (enc : TypeId × Value → H) :
    ReturnsInHanded {} Try.checked os 6 .any (Rows.fnExactAfterSpec.pre6 enc Try.prog Try.f6 Rows.fnExactAfterRow.domain false) (Rows.fnExactAfterSpec.post enc Try.prog Try.f6 false true false false) := by
  refine returnsInHanded_of_change (C := Try.checked) own started (by kernel_rfl) Try.func6
    (ChangeSpec.witness6 (enc := enc) (C := Try.checked) false ⟨#[], #[.agg #[.slice none 0 0, .int .i64 0], .agg #[.int .i64 0, .int .i64 0, .int .i64 0], .agg #[.int .i64 0, .slice none 0 0]], []⟩ 8 (by kernel_rfl) (by kernel_rfl) (by kernel_rfl) (by kernel_rfl)) ?_
  intro W base args ds gs before hval0 hW hcnd _
  have hval : ∀ (j : Nat) t v, Try.f6.params[j]? = some t → args[j]? = some v → Value.okWide Try.prog W .any base t v := hval0
  have hW' := hW
  obtain ⟨p, q, hA0, hV, rfl, hfz, hnd⟩ := hW
  have hA : DataW.TrodAll enc Try.prog W 0 (fun _ => true) true Try.f6.params.toList args.toList ds p := hA0
  rw [Try.params6] at hA hval
  obtain ⟨v0, v1, v2, d0, d1, d2, p0, p1, p2, rfl, rfl, rfl, h0, h1, h2⟩ := trodAll_three hA
  obtain ⟨rfl, rfl⟩ := trodVars_none hV
  have k0 := h0
  have k1 := h1
  have k2 := h2
  have lt0 : ∀ x ∈ p0, x.block < W.heap.size := by obtain ⟨m, hm⟩ := k0; exact DataW.trod_lt m _ _ _ hm
  have lt1 : ∀ x ∈ p1, x.block < W.heap.size := by obtain ⟨m, hm⟩ := k1; exact DataW.trod_lt m _ _ _ hm
  have lt2 : ∀ x ∈ p2, x.block < W.heap.size := by obtain ⟨m, hm⟩ := k2; exact DataW.trod_lt m _ _ _ hm
  obtain ⟨a0, n0, c0, s0, xs, rfl, hm0, hi0, hL0⟩ := open_rows (hval 0 37 v0 rfl rfl) h0
  obtain ⟨kind, k, v, rfl, hw0, hw1, hw2⟩ := open_op (hval 1 23 v1 rfl rfl) h1
  obtain ⟨a1, n1, c1, s1, ys, rfl, hm1, hi1, hL1⟩ := open_res (hval 2 30 v2 rfl rfl) h2
  refine (walk hI a0 a1 n0 n1 c0 c1 s0 kind k v s1 xs ys W hL0 hL1 hm0 hm1 hi0 hi1 ⟨hw0, hw1, hw2⟩).mono fun e W' ⟨he, bel⟩ => ?_
  subst he
  exact ⟨_, rfl, _, _, _, [], _, [], hW', trodAll_mk1 (shut_bool Try.underlying4 _), (trodAll_cons_mk (Below.trod laidOut (by kernel_rfl) (of_decide_eq_true (by kernel_rfl)) k0 bel lt0) (trodAll_cons_mk (Below.trod laidOut (by kernel_rfl) (of_decide_eq_true (by kernel_rfl)) k1 bel lt1) (trodAll_cons_mk (Below.trod laidOut (by kernel_rfl) (of_decide_eq_true (by kernel_rfl)) k2 bel lt2) trodAll_mk0))), rfl, bel.frame _, fun h => by cases h⟩

theorem over (hI : Asked) : Rows.FnExactAfterSaid :=
  OpenClaim.holds_of_wide 6 Try.f6 rfl rfl rfl rfl rfl rfl rfl ⟨rfl, rfl, rfl, rfl, rfl⟩ rfl rfl rfl rfl rfl (by kernel_rfl) Try.func6 (by kernel_rfl)
    (of_decide_eq_true (by kernel_rfl)) (by unfold Func.isWrapper; first | (rw [if_pos (by decide +kernel)]; kernel_rfl) | (rw [if_neg (by decide +kernel)]; exact ⟨rfl, rfl⟩))
    (fun os started H enc _ => lifted hI os started H enc)
end Go.Proofs.Ytlnhmmpmnflagao.fnExactAfter
