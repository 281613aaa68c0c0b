/- If Next of the program answers of every op and every list of pairs as the document says, then the card of the law FnExactNext holds. -/
import Derived.Test.YtekafaoleniebapDoorRows
import Derived.Test.YtekafaoleniebapDoorTie
import Derived.Test.YtekafaoleniebapDoorCards
import Derived.Test.YtekafaoleniebapDoorSpecNext3
import Derived.Test.YtekafaoleniebapDoorLawPairs
import Derived.Test.YtekafaoleniebapDoorLawOp
import Derived.Test.YtekafaoleniebapDoorLaid
import Derived.WalkKit
import Derived.ProofKit
import Derived.OpenShut
import Derived.Below
import Derived.LaidMore
import Derived.Stop.Joined
import Derived.Stop.LaidErr
import Derived.Lib.LaidTab
import Derived.Lib.SmallJoins
import Derived.MakeChecks
import Derived.SevenTiedAt
namespace Go.Proofs.YtekafaoleniebapDoor
open Go.ChangeShapes Go.WideShapes Go.ChangeAt Go.RowKit Go.Joins

namespace fnExactNext
theorem own : ownKnob Tryd.prog.godebug = none := by kernel_rfl
theorem laidOut : laidOutB Tryd.prog = true := by kernel_rfl
/-- What is asked of the program's Next, where its table of names is as its text lays it. -/
def Asked : Prop := ∀ (p n : Nat) (kind k v : Int) (fs : List Int) (w : World), Names w → PairAt w (some ⟨p, 0, none⟩) n fs → (∀ x ∈ fs, (Lit.int .i64 x).wf = true) → (Lit.int .i64 kind).wf = true → (Lit.int .i64 k).wf = true → (Lit.int .i64 v).wf = true →
  Calls Tryd.prog 8 #[OpV kind k v, .slice (some ⟨p, 0, none⟩) n n] w fun e w' => e = .returned (.int .i64 (nextM fs n kind k v)) ∧ Below w.heap.size w w'

set_option maxHeartbeats 2000000 in
set_option maxRecDepth 100000 in
theorem walk (hI : Asked) (a : Option Addr) (n c : Nat) (kind k v : Int) (fs : List Int) (w : World) (hN : Names w) (hA : n ≤ 1099511627776 → PairAt w a n fs) (hm : n ≤ 9223372036854775807) (hx : ∀ x ∈ fs, (Lit.int .i64 x).wf = true) (hw : (Lit.int .i64 kind).wf = true ∧ (Lit.int .i64 k).wf = true ∧ (Lit.int .i64 v).wf = true) :
    Calls Tryd.prog 3 #[OpV kind k v, .slice a n c] w fun e w' => e = .returned (.bool true) ∧ Below w.heap.size w w' := by
  have HI : Hid Asked := hI
  have HN : Hid (Names w) := hN
  have HW : Hid ((∀ x ∈ fs, (Lit.int .i64 x).wf = true) ∧ (Lit.int .i64 kind).wf = true ∧ (Lit.int .i64 k).wf = true ∧ (Lit.int .i64 v).wf = true) := ⟨hx, hw⟩
  clear hI hx hw hN
  by_cases hn : n ≤ 1048576
  case neg =>
    clear hA
    go_enter Tryd.func3, Tryd.ntmps3
    go_wp2_with fail
    refine (szPairS_big a n c _ hn hm).mono ?_
    rintro e w1 ⟨rfl, hw1⟩
    rw [hw1]
    clear hw1
    go_wp2
    go_ret
    exact ⟨rfl, (Below.refl _ _).alloc (Nat.le_refl _) _⟩
  have HA : Hid (PairAt w a n fs) := hA (by omega)
  clear hA hm
  obtain ⟨r, hr⟩ : ∃ r, nextM fs n kind k v = r := ⟨_, rfl⟩
  have HR : Hid (nextM fs n kind k v = r) := hr
  clear hr
  go_enter Tryd.func3, Tryd.ntmps3
  go_wp2_with fail
  refine (szPairS_at a n c _ hn).mono ?_
  rintro e w1 ⟨rfl, hw1⟩
  rw [hw1]
  clear hw1
  have h0 : ¬ (1048576 - (n : Int) < 0) := by omega
  go_wp2_with fail
  have HBX : Hid (∀ w', Below (w.heap.size + 1) (w.alloc (.cells #[.int .i64 kind, .int .i64 k, .int .i64 v] 23)) w' → (w'.cell? ⟨w.heap.size, 0, none⟩ = some (.int .i64 kind) ∧ w'.cell? ⟨w.heap.size, 1, none⟩ = some (.int .i64 k) ∧ w'.cell? ⟨w.heap.size, 2, none⟩ = some (.int .i64 v)) ∧ Below w.heap.size w w') := fun w' hb => by
    refine ⟨⟨?_, ?_, ?_⟩, ((Below.refl _ w).alloc (Nat.le_refl _) _).trans (hb.mono (by omega))⟩
    · rw [hb.cell (show w.heap.size < _ by omega)]; simp
    · rw [hb.cell (show w.heap.size < _ by omega)]; simp
    · rw [hb.cell (show w.heap.size < _ by omega)]; simp
  have HB1 : Hid (Below (w.heap.size + 1) (w.alloc (.cells #[.int .i64 kind, .int .i64 k, .int .i64 v] 23)) (w.alloc (.cells #[.int .i64 kind, .int .i64 k, .int .i64 v] 23))) := Below.refl _ _
  refine (toOp_any kind k v _).mono ?_
  rintro e w2 ⟨rfl, hb2⟩
  have HB2 : Hid (Below (w.heap.size + 1) (w.alloc (.cells #[.int .i64 kind, .int .i64 k, .int .i64 v] 23)) w2) := by
    have h := hb2
    simp only [World.size_alloc] at h
    exact h
  clear hb2
  have hs2 : (w.heap.size + 1) ≤ w2.heap.size := by have h := HB2.out.size; simpa using h
  go_wp2_with fail
  refine (toPairS_any a n c fs _ (HA.out.below (HBX.out _ HB2.out).2 (Nat.le_refl _)) hn).mono ?_
  rintro e w3 ⟨rfl, own3, hb3⟩
  have OWN3 : Hid _ := own3
  have HB3 : Hid (Below (w.heap.size + 1) (w.alloc (.cells #[.int .i64 kind, .int .i64 k, .int .i64 v] 23)) w3) := HB2.out.trans (hb3.mono hs2)
  have hs3 : (w.heap.size + 1) ≤ w3.heap.size := by have h := HB3.out.size; simp at h; omega
  clear own3 hb3
  go_wp2_with fail
  refine (specNext_any _ n n kind k v fs _ (own_pairAt OWN3.out (by omega))).mono ?_
  rintro e w4 ⟨rfl, hb4⟩
  rw [HR.out]
  have HB4 : Hid (Below (w.heap.size + 1) (w.alloc (.cells #[.int .i64 kind, .int .i64 k, .int .i64 v] 23)) w4) := HB3.out.trans (hb4.mono hs3)
  have hs4 : (w.heap.size + 1) ≤ w4.heap.size := by have h := HB4.out.size; simp at h; omega
  clear hb4 OWN3
  go_wp2_with fail
  refine (toPairS_any a n c fs _ (HA.out.below (HBX.out _ HB4.out).2 (Nat.le_refl _)) hn).mono ?_
  rintro e w5 ⟨rfl, own5, hb5⟩
  have OWN5 : Hid _ := own5
  have HB5 : Hid (Below (w.heap.size + 1) (w.alloc (.cells #[.int .i64 kind, .int .i64 k, .int .i64 v] 23)) w5) := HB4.out.trans (hb5.mono hs4)
  have hs5 : (w.heap.size + 1) ≤ w5.heap.size := by have h := HB5.out.size; simp at h; omega
  clear own5 hb5
  obtain ⟨⟨o0, o1, o2⟩, -⟩ := HBX.out _ HB5.out
  go_wp2_with fail
  refine (toOp_any kind k v _).mono ?_
  rintro e w6 ⟨rfl, hb6⟩
  have HB6 : Hid (Below (w.heap.size + 1) (w.alloc (.cells #[.int .i64 kind, .int .i64 k, .int .i64 v] 23)) w6) := HB5.out.trans (hb6.mono hs5)
  have hs6 : (w.heap.size + 1) ≤ w6.heap.size := by have h := HB6.out.size; simp at h; omega
  have OWN6 : Hid _ := owns_below OWN5.out hb6 (Nat.le_refl _)
  clear hb6 OWN5 o0 o1 o2
  go_wp2_with fail
  refine (HI.out _ n kind k v fs _ (HN.out.below (HBX.out _ HB6.out).2 HN.out.lt) (own_pairAt OWN6.out (by omega)) HW.out.1 HW.out.2.1 HW.out.2.2.1 HW.out.2.2.2).mono ?_
  rintro e w7 ⟨rfl, hb7⟩
  rw [HR.out]
  have HB7 : Hid (Below (w.heap.size + 1) (w.alloc (.cells #[.int .i64 kind, .int .i64 k, .int .i64 v] 23)) w7) := HB6.out.trans (hb7.mono hs6)
  have hs7 : (w.heap.size + 1) ≤ w7.heap.size := by have h := HB7.out.size; simp at h; omega
  have OWN7 : Hid _ := owns_below OWN6.out hb7 (Nat.le_refl _)
  clear hb7 OWN6
  go_wp2_with fail
  refine (toPairS_any a n c fs _ (HA.out.below (HBX.out _ HB7.out).2 (Nat.le_refl _)) hn).mono ?_
  rintro e w8 ⟨rfl, own8, hb8⟩
  have OWN8 : Hid _ := own8
  have OWN8' : Hid _ := owns_below OWN7.out hb8 (Nat.le_refl _)
  have HB8 : Hid (Below (w.heap.size + 1) (w.alloc (.cells #[.int .i64 kind, .int .i64 k, .int .i64 v] 23)) w8) := HB7.out.trans (hb8.mono hs7)
  have hs8 : (w.heap.size + 1) ≤ w8.heap.size := by have h := HB8.out.size; simp at h; omega
  clear own8 hb8 OWN7
  go_wp2_with fail
  refine (eqPairS_any _ _ n n n n fs fs _ (own_pairAt OWN8'.out (by omega)) (own_pairAt OWN8.out (by omega))).mono ?_
  rintro e w9 ⟨rfl, hb9⟩
  rw [show decide (fs = fs) = true from decide_eq_true rfl]
  have HB9 : Hid (Below w.heap.size w w9) := (HBX.out _ (HB8.out.trans (hb9.mono hs8))).2
  clear hb9
  go_wp2
  go_ret
  exact ⟨rfl, HB9.out⟩

/-- The heap that the door's own run leaves meets the row's condition on the table. -/
theorem door_met (os : Os) (args : Array Value) : laidMetH Tryd.prog Rows.fnExactNextRow.laid ((World.doorLaid Tryd.prog 64 os).forCall (fun _ _ => 0) ⟨#[], args, []⟩).memory :=
  laidMetH_of_parts3 (fuel := 8) (laidMet_of_run' 8 (by kernel_rfl) (by kernel_rfl)) (by kernel_rfl) (by kernel_rfl)

theorem of_laid {W : World} (h : laidMetH Tryd.prog Rows.fnExactNextRow.laid W) : Names W := by
  rw [MakeChecks.laidMetH_plain _ _ _ (by kernel_rfl)] at h
  exact names_of_laid h

set_option maxRecDepth 100000 in
theorem lifted (hI : Asked) (os : Os) (started : os.Started) (H : Type) (enc : TypeId × Value → H) :
    ReturnsInHanded {} Tryd.checked os 3 .any (fun w args => (Rows.fnExactNextSpec.pre enc Tryd.prog Tryd.f3 [] false w args ∧ laidMetH Tryd.prog Rows.fnExactNextRow.laid w) ∧ sizedMet enc Tryd.prog Tryd.f3 (OpenSpec.ofChange Rows.fnExactNextSpec) false w args)
      (Rows.fnExactNextSpec.post enc Tryd.prog Tryd.f3 false true false false) := by
  refine returnsInHanded_of_change_and (C := Tryd.checked) (X := fun w _ => laidMetH Tryd.prog Rows.fnExactNextRow.laid w) (fun _ _ _ hh h => h.of_heap hh) own started (by kernel_rfl) Tryd.func3
    (ChangeSpec.witness_shaped (enc := enc) (C := Tryd.checked) (os := os) (X := fun w _ => laidMetH Tryd.prog Rows.fnExactNextRow.laid w) false (World.doorLaid Tryd.prog 64 os) #[.agg #[.int .i64 0, .int .i64 0, .int .i64 0], .slice none 0 0] 8 rfl (World.shaped_of_RefB (by kernel_rfl) (by kernel_rfl)) (by kernel_rfl) (by kernel_rfl) (by kernel_rfl) (door_met os _)) ?_
  intro W base args ds gs before hval0 hW _ _ hL _
  have hval : ∀ (j : Nat) t v, Tryd.f3.params[j]? = some t → args[j]? = some v → Value.okWide Tryd.prog W .any base t v := hval0
  have hW' := hW
  obtain ⟨p, q, hA0, hV0, rfl, hfz, hnd⟩ := hW
  have hA : DataW.TrodAll enc Tryd.prog W 0 (fun _ => true) true Tryd.f3.params.toList args.toList ds p := hA0
  have hV : DataW.TrodVars enc Tryd.prog W (fun _ => true) ["loop.example/g00468/impl.wordNames"] gs q := hV0
  have hN := of_laid hL
  obtain rfl := vars_open hN hV
  rw [Tryd.params3] at hA hval
  obtain ⟨v0, v1, d0, d1, p0, p1, rfl, rfl, rfl, h0, h1⟩ := trodAll_two hA
  have k0 := h0
  have k1 := h1
  have lt0 : ∀ x ∈ p0, x.block < W.heap.size := by obtain ⟨m, hm⟩ := k0; exact DataW.trod_lt m _ _ _ hm
  have lt1 : ∀ x ∈ p1, x.block < W.heap.size := by obtain ⟨m, hm⟩ := k1; exact DataW.trod_lt m _ _ _ hm
  obtain ⟨kind, k, v, rfl, wk, wl, wv⟩ := open_op (hval 0 23 v0 rfl rfl) h0
  obtain ⟨a0, n0, c0, fs, rfl, hm0, hi0, hL0⟩ := open_pairs (hval 1 24 v1 rfl rfl) h1
  clear hA0 hV0 hval0
  refine (walk hI a0 n0 c0 kind k v fs W hN hL0 hm0 hi0 ⟨wk, wl, wv⟩).mono fun e W' ⟨he, bel⟩ => ?_
  subst he
  exact ⟨_, rfl, _, _, _, [], _, _, hW', trodAll_mk1 (shut_bool Tryd.underlying4 _), (trodAll_cons_mk (Below.trod laidOut (by kernel_rfl) (of_decide_eq_true (by kernel_rfl)) k0 bel lt0) (trodAll_cons_mk (Below.trod laidOut (by kernel_rfl) (of_decide_eq_true (by kernel_rfl)) k1 bel lt1) trodAll_mk0)), vars_shut _ (hN.below bel hN.lt), bel.frame _, fun h => by cases h⟩

theorem row_over (hI : Asked) : Rows.FnExactNextSaid :=
  OpenClaim.holds_of_wide 3 Tryd.f3 rfl rfl rfl rfl rfl rfl rfl ⟨rfl, rfl, rfl, rfl, rfl⟩ rfl rfl rfl rfl rfl (by kernel_rfl) Tryd.func3 (by kernel_rfl)
    (of_decide_eq_true (by kernel_rfl)) (by unfold Func.isWrapper; first | (rw [if_pos (by decide +kernel)]; kernel_rfl) | (rw [if_neg (by decide +kernel)]; exact ⟨rfl, rfl⟩))
    (fun os started H enc _ => lifted hI os started H enc)
end fnExactNext

theorem fnExactNext_over (hI : fnExactNext.Asked) : Rows.FnExactNextCardSaid :=
  Claim7.holds_tied_plain_at .later [] [.data] true Rows.fnExactNextCard.stood.harness Rows.fnExactNextCard.stood.looks
    (fnExactNext.row_over hI) (fun _ h => by cases h) (by kernel_rfl) (fun _ h => by cases h) fnExactNext_row_tie rfl ⟨rfl, rfl⟩ (by kernel_rfl) rfl
    (fun f fn hf hfn => by
      obtain rfl : f = 3 := Option.some.inj ((show Tryd.prog.funcNamed Rows.fnExactNextRow.func = some 3 by kernel_rfl).symm.trans hf) |>.symm
      obtain rfl : fn = Tryd.f3 := (Option.some.inj (Tryd.func3.symm.trans hfn)).symm
      exact ⟨by kernel_rfl, fun j t ht => by
        rw [Tryd.params3] at ht
        have hm : t ∈ [23, 24] := by simpa using Array.mem_of_getElem? ht
        have hall : ([23, 24].all fun u => !Tryd.prog.wantsStandIn u) = true := by kernel_rfl
        exact (show Tryd.prog.wantsStandIn t = false by simpa using List.all_eq_true.1 hall t hm)⟩)
    (by kernel_rfl)
end Go.Proofs.YtekafaoleniebapDoor
