/- If Read of the program answers of every list of pairs and every place as the document says, then the statement of the law FnExactRead holds. -/
import Derived.Test.YtekafaoleniebapRows
import Derived.Test.YtekafaoleniebapLawPairs
import Derived.Deep.RegionHeld3
namespace Go.Proofs.Ytekafaoleniebap.fnExactRead
open Go.ChangeShapes Go.WideShapes Go.ChangeAt Go.RowKit Go.Joins

theorem own : ownKnob Try.prog.godebug = none := by kernel_rfl
theorem laidOut : laidOutB Try.prog = true := by kernel_rfl
/-- What is asked of the program's Read. -/
def Asked : Prop := ∀ (p n : Nat) (at_ : Int) (fs : List Int) (w : World), PairAt w (some ⟨p, 0, none⟩) n fs → (∀ x ∈ fs, (Lit.int .i64 x).wf = true) → (Lit.int .i64 at_).wf = true →
  Calls Try.prog 7 #[.slice (some ⟨p, 0, none⟩) n n, .int .i64 at_] w fun e w' => e = .returned (.tuple #[.int .i64 (readF fs at_ n).1, .bool (readF fs at_ n).2]) ∧ Below w.heap.size w w'

set_option maxHeartbeats 2000000 in
set_option maxRecDepth 100000 in
theorem walk (hI : Asked) (a : Option Addr) (n c : Nat) (at_ : Int) (fs : List Int) (w : World) (hA : n ≤ 1099511627776 → PairAt w a n fs) (hm : n ≤ 9223372036854775807) (hx : ∀ x ∈ fs, (Lit.int .i64 x).wf = true) (hw : (Lit.int .i64 at_).wf = true) :
    Calls Try.prog 3 #[.slice a n c, .int .i64 at_] w fun e w' => e = .returned (.bool true) ∧ Below w.heap.size w w' := by
  have HI : Hid Asked := hI
  have HW : Hid ((∀ x ∈ fs, (Lit.int .i64 x).wf = true) ∧ (Lit.int .i64 at_).wf = true) := ⟨hx, hw⟩
  clear hI hx hw
  by_cases hn : n ≤ 1048576
  case neg =>
    clear hA
    go_enter Try.func3, Try.ntmps3
    go_wp2_with fail
    refine (szPairS_big a n c _ hn hm).mono ?_
    rintro e w1 ⟨rfl, rfl⟩
    go_wp2
    go_ret
    exact ⟨rfl, Below.refl _ _⟩
  have HA : Hid (PairAt w a n fs) := hA (by omega)
  clear hA hm
  obtain ⟨r, hr⟩ : ∃ r, readF fs at_ n = r := ⟨_, rfl⟩
  have HR : Hid (readF fs at_ n = r) := hr
  clear hr
  obtain ⟨r1, r2⟩ := r
  go_enter Try.func3, Try.ntmps3
  go_wp2_with fail
  refine (szPairS_at a n c _ hn).mono ?_
  rintro e w1 ⟨rfl, rfl⟩
  have h0 : ¬ (1048576 - (n : Int) < 0) := by omega
  go_wp2_with fail
  refine (toPairS_any a n c fs _ HA.out hn).mono ?_
  rintro e w2 ⟨rfl, own2, hb2⟩
  have OWN2 : Hid _ := own2
  have HB2 : Hid (Below w1.heap.size w1 w2) := hb2
  clear own2 hb2
  go_wp2_with fail
  refine (specRead_any _ n n at_ fs _ (own_pairAt OWN2.out (by omega))).mono ?_
  rintro e w3 ⟨rfl, hb3⟩
  rw [HR.out]
  have HB3 : Hid (Below w1.heap.size w1 w3) := HB2.out.trans (hb3.mono HB2.out.size)
  clear hb3 OWN2 HB2
  go_wp2_with fail
  refine (toPairS_any a n c fs _ (HA.out.below HB3.out (Nat.le_refl _)) hn).mono ?_
  rintro e w4 ⟨rfl, own4, hb4⟩
  have OWN4 : Hid _ := own4
  have HB4 : Hid (Below w1.heap.size w1 w4) := HB3.out.trans (hb4.mono HB3.out.size)
  clear own4 hb4
  go_wp2_with fail
  refine (HI.out _ n at_ fs _ (own_pairAt OWN4.out (by omega)) HW.out.1 HW.out.2).mono ?_
  rintro e w5 ⟨rfl, hb5⟩
  rw [HR.out]
  have OWN5 : Hid _ := owns_below OWN4.out hb5 (Nat.le_refl _)
  have HB5 : Hid (Below w1.heap.size w1 w5) := HB4.out.trans (hb5.mono HB4.out.size)
  clear hb5 OWN4
  go_wp2_with fail
  refine (toPairS_any a n c fs _ (HA.out.below HB5.out (Nat.le_refl _)) hn).mono ?_
  rintro e w6 ⟨rfl, own6, hb6⟩
  have OWN6 : Hid _ := own6
  have OWN6' : Hid _ := owns_below OWN5.out hb6 (Nat.le_refl _)
  have HB6 : Hid (Below w1.heap.size w1 w6) := HB5.out.trans (hb6.mono HB5.out.size)
  clear own6 hb6 OWN5
  go_wp2_with fail
  refine (eqPairS_any _ _ n n n n fs fs _ (own_pairAt OWN6'.out (by omega)) (own_pairAt OWN6.out (by omega))).mono ?_
  rintro e w7 ⟨rfl, hb7⟩
  rw [show decide (fs = fs) = true from decide_eq_true rfl]
  have HB7 : Hid (Below w1.heap.size w1 w7) := HB6.out.trans (hb7.mono HB6.out.size)
  clear hb7
  go_wp2
  go_ret
  exact ⟨rfl, HB7.out⟩

theorem lifted (hI : Asked) (os : Os) (started : os.Started) (H : Type) (enc : TypeId × Value → H) :
    ReturnsInHanded {} Try.checked os 3 .any (Rows.fnExactReadSpec.pre6 enc Try.prog Try.f3 Rows.fnExactReadRow.domain false) (Rows.fnExactReadSpec.post enc Try.prog Try.f3 false true false false) := by
  refine returnsInHanded_of_change (C := Try.checked) own started (by kernel_rfl) Try.func3
    (ChangeSpec.witness6 (enc := enc) (C := Try.checked) false ⟨#[], #[.slice none 0 0, .int .i64 0], []⟩ 8 (by kernel_rfl) (by kernel_rfl) (by kernel_rfl) (by kernel_rfl)) ?_
  intro W base args ds gs before hval0 hW hcnd _
  have hval : ∀ (j : Nat) t v, Try.f3.params[j]? = some t → args[j]? = some v → Value.okWide Try.prog W .any base t v := hval0
  have hW' := hW
  obtain ⟨p, q, hA0, hV, rfl, hfz, hnd⟩ := hW
  have hA : DataW.TrodAll enc Try.prog W 0 (fun _ => true) true Try.f3.params.toList args.toList ds p := hA0
  rw [Try.params3] at hA hval
  obtain ⟨v0, v1, d0, d1, p0, p1, rfl, rfl, rfl, h0, h1⟩ := trodAll_two hA
  obtain ⟨rfl, rfl⟩ := trodVars_none hV
  have k0 := h0
  have k1 := h1
  have lt0 : ∀ x ∈ p0, x.block < W.heap.size := by obtain ⟨m, hm⟩ := k0; exact DataW.trod_lt m _ _ _ hm
  have lt1 : ∀ x ∈ p1, x.block < W.heap.size := by obtain ⟨m, hm⟩ := k1; exact DataW.trod_lt m _ _ _ hm
  obtain ⟨a0, n0, c0, fs, rfl, hm0, hi0, hL0⟩ := open_pairs (hval 0 22 v0 rfl rfl) h0
  obtain ⟨at_, rfl, w1⟩ : ∃ at_ : Int, v1 = .int .i64 at_ ∧ (Lit.int .i64 at_).wf = true := by
    obtain ⟨i, rfl⟩ := okWide_int Try.underlying3 (hval 1 3 v1 rfl rfl)
    obtain ⟨fuel, hf⟩ := h1
    obtain ⟨x, e, _, hx⟩ := DataW.trod_int Try.underlying3 hf
    obtain rfl : i = x := by simpa [Value.cells] using e
    exact ⟨i, rfl, hx⟩
  refine (walk hI a0 n0 c0 at_ fs W hL0 hm0 hi0 w1).mono fun e W' ⟨he, bel⟩ => ?_
  subst he
  exact ⟨_, rfl, _, _, _, [], _, [], hW', trodAll_mk1 (shut_bool Try.underlying4 _), (trodAll_cons_mk (Below.trod laidOut (by kernel_rfl) (of_decide_eq_true (by kernel_rfl)) k0 bel lt0) (trodAll_cons_mk (Below.trod laidOut (by kernel_rfl) (of_decide_eq_true (by kernel_rfl)) k1 bel lt1) trodAll_mk0)), rfl, bel.frame _, fun h => by cases h⟩

theorem over (hI : Asked) : Rows.FnExactReadSaid :=
  OpenClaim.holds_of_wide 3 Try.f3 rfl rfl rfl rfl rfl rfl rfl ⟨rfl, rfl, rfl, rfl, rfl⟩ rfl rfl rfl rfl rfl (by kernel_rfl) Try.func3 (by kernel_rfl)
    (of_decide_eq_true (by kernel_rfl)) (by unfold Func.isWrapper; first | (rw [if_pos (by decide +kernel)]; kernel_rfl) | (rw [if_neg (by decide +kernel)]; exact ⟨rfl, rfl⟩))
    (fun os started H enc _ => lifted hI os started H enc)
end Go.Proofs.Ytekafaoleniebap.fnExactRead
