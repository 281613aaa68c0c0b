/- The law FnExactQuiet, from what is asked of the program's Quiet: of every Mem the program's Quiet answers as the specification's does. -/
import Derived.Test.YtbdfopokimpeiarRows
import Derived.Test.YtbdfopokimpeiarLawMem
import Derived.Test.YtbdfopokimpeiarSpecQuiet
import Derived.Deep.RegionHeld3
namespace Go.Proofs.Ytbdfopokimpeiar.fnExactQuiet
open Go.ChangeShapes Go.WideShapes Go.ChangeAt Go.RowKit Go.Joins

/-- What is asked of the program's Quiet. -/
def Asked : Prop := ∀ (wa : Option Addr) (m : Nat) (fs : List Int) (da : Option Addr) (n : Nat) (ds : List DK) (w : World), TripAt w wa m fs → DescAt w da n ds → CapAt w da n ds →
  Calls Try.prog 7 #[MemV wa m m da n n] w fun e w' => ∃ ok, (e = .returned (.bool ok) ∧ (ok = true ↔ QuietM fs m ds)) ∧ Below w.heap.size w w'
theorem own : ownKnob Try.prog.godebug = none := by kernel_rfl
theorem laidOut : laidOutB Try.prog = true := by kernel_rfl
set_option maxHeartbeats 4000000 in
set_option maxRecDepth 100000 in
theorem walk (ask : Asked) (wa : Option Addr) (m wc : Nat) (fs : List Int) (da : Option Addr) (n dc : Nat) (ds : List DK) (w : World) (hm : m ≤ 9223372036854775807) (hn : n ≤ 9223372036854775807) (hA : m ≤ 1048576 → TripAt w wa m fs) (hD : n ≤ 1048576 → DescPre w da n ds) :
    Calls Try.prog 3 #[MemV wa m wc da n dc] w fun e w' => e = .returned (.bool true) ∧ Below w.heap.size w w' := by
  have ASK : Hid Asked := ask
  obtain ⟨W, hW⟩ : ∃ W, w.alloc (.cells #[.slice wa m wc, .slice da n dc] 25) = W := ⟨_, rfl⟩
  have hb0 : Below w.heap.size w W := by rw [← hW]; exact (Below.refl _ w).alloc (Nat.le_refl _) _
  have HB0 : Hid (Below w.heap.size w W) := hb0
  have HW : Hid (w.alloc (.cells #[.slice wa m wc, .slice da n dc] 25) = W) := hW
  have X0 : Hid (Box W w.heap.size #[.slice wa m wc, .slice da n dc] 25) := by rw [← hW]; exact box_of w _ _
  have HA : Hid (m ≤ 1048576 → TripAt W wa m fs) := fun h => (hA h).below hb0 (Nat.le_refl _)
  have HD : Hid (n ≤ 1048576 → DescPre W da n ds) := fun h => (hD h).below hb0 (Nat.le_refl _)
  clear hA hD hW hb0 ask
  go_enter Try.func3, Try.ntmps3
  go_wp2_with fail
  rw [HW.out]
  refine (szMem_any wa m wc fs da n dc ds 1048576 _ hm hn HA.out HD.out (by omega) (by omega)).mono ?_
  rintro e w1 ⟨hb1, rfl | ⟨r, rfl, hr0, hr1, hT, hAt, hsz⟩⟩
  · have hall : Below w.heap.size w w1 := HB0.out.trans (hb1.mono HB0.out.size)
    clear hb1
    go_wp2
    go_ret
    exact ⟨rfl, hall⟩
  have hr2 : ¬ r < 0 := by omega
  have HT : Hid (TripAt W wa m fs) := hT
  have HDD : Hid (DescAt W da n ds) := hAt
  have HS : Hid (∀ i, i < n → (dk ds i).en ≤ 1048576 ∧ (dk ds i).rn ≤ 1048576) := hsz
  have hn1 : n ≤ 1048576 := hAt.2.1
  have hm1 : m ≤ 1048576 := hT.2.1
  have HDL : Hid (ds.length = n) := hAt.1
  have HB1 : Hid (Below W.heap.size W w1) := hb1
  have X1 : Hid (Box w1 w.heap.size #[.slice wa m wc, .slice da n dc] 25) := X0.out.below hb1 X0.out.lt
  obtain ⟨x0, x1, _, _⟩ := X1.out.two
  clear hT hAt hsz HA HD hb1 HW
  go_wp2_with fail
  refine (toMem_any wa m wc fs da n dc ds _ (HT.out.below HB1.out (Nat.le_refl _)) (HDD.out.below HB1.out (Nat.le_refl _))).mono ?_
  rintro e w2 ⟨g2, h2, rfl, hg2, hh2, o2, p2, hb2⟩
  have HB2 : Hid (Below W.heap.size W w2) := HB1.out.trans (hb2.mono HB1.out.size)
  have X2 : Hid (Box w2 w.heap.size #[.slice wa m wc, .slice da n dc] 25) := X1.out.below hb2 X1.out.lt
  have T2 : Hid (TripAt w2 (some ⟨g2, 0, none⟩) m fs ∧ DescAt w2 (some ⟨h2, 0, none⟩) n ds) := ⟨own_tripAt o2 hm1, p2.at HDL.out hn1 HS.out⟩
  clear hb2 o2 p2 x0 x1 X1 HB1 hg2 hh2
  go_wp2_with fail
  refine (specQuiet_any _ m m fs _ n n ds _ T2.out.1 T2.out.2).mono ?_
  rintro e w3 ⟨ok, ⟨rfl, hok⟩, hb3⟩
  have HOK : Hid (ok = true ↔ QuietM fs m ds) := hok
  have HB3 : Hid (Below W.heap.size W w3) := HB2.out.trans (hb3.mono HB2.out.size)
  have X3 : Hid (Box w3 w.heap.size #[.slice wa m wc, .slice da n dc] 25) := X2.out.below hb3 X2.out.lt
  obtain ⟨x0, x1, _, _⟩ := X3.out.two
  clear hb3 X2 T2 HB2 hok
  go_wp2_with fail
  refine (toMem_any wa m wc fs da n dc ds _ (HT.out.below HB3.out (Nat.le_refl _)) (HDD.out.below HB3.out (Nat.le_refl _))).mono ?_
  rintro e w4 ⟨g4, h4, rfl, hg4, hh4, o4, p4, hb4⟩
  obtain ⟨W4, hW4⟩ : ∃ W4, w4.alloc (.cells #[.slice (some ⟨g4, 0, none⟩) m m, .slice (some ⟨h4, 0, none⟩) n n] 31) = W4 := ⟨_, rfl⟩
  have b4 : Below w4.heap.size w4 W4 := by rw [← hW4]; exact (Below.refl _ w4).alloc (Nat.le_refl _) _
  have HB4 : Hid (Below W.heap.size W W4) := (HB3.out.trans (hb4.mono HB3.out.size)).trans (b4.mono (Nat.le_trans HB3.out.size hb4.size))
  have X4 : Hid (Box W4 w.heap.size #[.slice wa m wc, .slice da n dc] 25) := (X3.out.below hb4 X3.out.lt).below b4 (X3.out.below hb4 X3.out.lt).lt
  have Y4 : Hid (Box W4 w4.heap.size #[.slice (some ⟨g4, 0, none⟩) m m, .slice (some ⟨h4, 0, none⟩) n n] 31) := by rw [← hW4]; exact box_of w4 _ _
  have T4 : Hid (TripAt W4 (some ⟨g4, 0, none⟩) m fs ∧ DescAt W4 (some ⟨h4, 0, none⟩) n ds) := ⟨(own_tripAt o4 hm1).below b4 (Nat.le_refl _), (p4.at HDL.out hn1 HS.out).below b4 (Nat.le_refl _)⟩
  have C4 : Hid (CapAt W4 (some ⟨h4, 0, none⟩) n ds) := p4.caps.below b4 (Nat.le_refl _)
  have HW4 : Hid (w4.alloc (.cells #[.slice (some ⟨g4, 0, none⟩) m m, .slice (some ⟨h4, 0, none⟩) n n] 31) = W4) := hW4
  clear hb4 o4 p4 x0 x1 X3 HB3 hg4 hh4 b4 hW4
  go_wp2_with fail
  rw [HW4.out]
  refine (ASK.out _ m fs _ n ds _ T4.out.1 T4.out.2 C4.out).mono ?_
  rintro e w5 ⟨ok', ⟨rfl, hok'⟩, hb5⟩
  obtain rfl : ok' = ok := by
    have := hok'.trans HOK.out.symm
    cases ok <;> cases ok' <;> simp_all
  have HB5 : Hid (Below W.heap.size W w5) := HB4.out.trans (hb5.mono HB4.out.size)
  have X5 : Hid (Box w5 w.heap.size #[.slice wa m wc, .slice da n dc] 25) := X4.out.below hb5 X4.out.lt
  have Y5 : Hid (Box w5 w4.heap.size #[.slice (some ⟨g4, 0, none⟩) m m, .slice (some ⟨h4, 0, none⟩) n n] 31) := Y4.out.below hb5 Y4.out.lt
  have T5 : Hid (TripAt w5 (some ⟨g4, 0, none⟩) m fs ∧ DescAt w5 (some ⟨h4, 0, none⟩) n ds) := ⟨T4.out.1.below hb5 (Nat.le_refl _), T4.out.2.below hb5 (Nat.le_refl _)⟩
  obtain ⟨b5, hb5'⟩ : ∃ b, w4.heap.size = b := ⟨_, rfl⟩
  rw [hb5'] at Y5 ⊢
  have hsx : w.heap.size < w5.heap.size := X5.out.lt
  have hsy : b5 < w5.heap.size := Y5.out.lt
  obtain ⟨x0, x1, _, _⟩ := X5.out.two
  obtain ⟨y0, y1, _, _⟩ := Y5.out.two
  have K0 : Hid ((w5.cell? ⟨w.heap.size, 0, none⟩ = some (.slice wa m wc) ∧ w5.cell? ⟨w.heap.size, 1, none⟩ = some (.slice da n dc)) ∧ w5.cell? ⟨b5, 0, none⟩ = some (.slice (some ⟨g4, 0, none⟩) m m) ∧ w5.cell? ⟨b5, 1, none⟩ = some (.slice (some ⟨h4, 0, none⟩) n n)) := ⟨⟨x0, x1⟩, y0, y1⟩
  clear hb5 X4 Y4 T4 C4 HB4 hb5' hok' HOK HW4
  rcases ok' with _ | _
  all_goals
    go_wp2_with fail
    go_region_held3 (fun w' => (w'.cell? ⟨w.heap.size, 0, none⟩ = some (.slice wa m wc) ∧ w'.cell? ⟨w.heap.size, 1, none⟩ = some (.slice da n dc)) ∧ w'.cell? ⟨b5, 0, none⟩ = some (.slice (some ⟨g4, 0, none⟩) m m) ∧ w'.cell? ⟨b5, 1, none⟩ = some (.slice (some ⟨h4, 0, none⟩) n n))
      (first | (with_reducible exact K2.out) | (with_reducible exact K1.out) | (with_reducible exact K0.out) | go_keep)
      (first
      | (go_at_call 6
         refine (toMem_any wa m wc fs da n dc ds _ (HT.out.below HB5.out.drew (Nat.le_refl _)) (HDD.out.below HB5.out.drew (Nat.le_refl _))).mono ?_
         rintro e w6 ⟨g6, h6, rfl, hg6, hh6, o6, p6, hb6⟩
         have hb6' : Below w5.heap.size w5 w6 := (Below.refl _ w5).drew.trans hb6
         have HB6 : Hid (Below W.heap.size W w6) := HB5.out.trans (hb6'.mono HB5.out.size)
         have T6 : Hid (TripAt w6 (some ⟨g6, 0, none⟩) m fs ∧ DescAt w6 (some ⟨h6, 0, none⟩) n ds) := ⟨own_tripAt o6 hm1, p6.at HDL.out hn1 HS.out⟩
         have T6' : Hid (TripAt w6 (some ⟨g4, 0, none⟩) m fs ∧ DescAt w6 (some ⟨h4, 0, none⟩) n ds) := ⟨T5.out.1.below hb6' (Nat.le_refl _), T5.out.2.below hb6' (Nat.le_refl _)⟩
         have K1 : Hid ((w6.cell? ⟨w.heap.size, 0, none⟩ = some (.slice wa m wc) ∧ w6.cell? ⟨w.heap.size, 1, none⟩ = some (.slice da n dc)) ∧ w6.cell? ⟨b5, 0, none⟩ = some (.slice (some ⟨g4, 0, none⟩) m m) ∧ w6.cell? ⟨b5, 1, none⟩ = some (.slice (some ⟨h4, 0, none⟩) n n)) :=
           ⟨⟨(hb6'.cell hsx).trans x0, (hb6'.cell hsx).trans x1⟩, (hb6'.cell hsy).trans y0, (hb6'.cell hsy).trans y1⟩
         clear hb6 o6 p6 hg6 hh6)
      | (go_at_call 8
         refine (eqMem_same _ _ _ _ m n m m n n fs ds _ T6'.out.1 T6.out.1 T6'.out.2 T6.out.2).mono ?_
         rintro e w7 ⟨rfl, hb7⟩
         have hs6 := hb6'.size
         have HB7 : Hid (Below W.heap.size W w7) := HB6.out.trans (hb7.mono HB6.out.size)
         have K2 : Hid ((w7.cell? ⟨w.heap.size, 0, none⟩ = some (.slice wa m wc) ∧ w7.cell? ⟨w.heap.size, 1, none⟩ = some (.slice da n dc)) ∧ w7.cell? ⟨b5, 0, none⟩ = some (.slice (some ⟨g4, 0, none⟩) m m) ∧ w7.cell? ⟨b5, 1, none⟩ = some (.slice (some ⟨h4, 0, none⟩) n n)) :=
           ⟨⟨(hb7.cell (Nat.lt_of_lt_of_le hsx hs6)).trans K1.out.1.1, (hb7.cell (Nat.lt_of_lt_of_le hsx hs6)).trans K1.out.1.2⟩, (hb7.cell (Nat.lt_of_lt_of_le hsy hs6)).trans K1.out.2.1, (hb7.cell (Nat.lt_of_lt_of_le hsy hs6)).trans K1.out.2.2⟩
         clear hb7 hs6))
    clear K0 K1 K2 x0 x1 y0 y1
    go_wp2
    go_ret
    exact ⟨rfl, HB0.out.trans (HB7.out.mono HB0.out.size)⟩

set_option maxRecDepth 100000 in
theorem lifted (ask : Asked) (os : Os) (started : os.Started) (H : Type) (enc : TypeId × Value → H) :
    ReturnsInHanded {} Try.checked os 3 .any (Rows.fnExactQuietSpec.pre6 enc Try.prog Try.f3 Rows.fnExactQuietRow.domain false) (Rows.fnExactQuietSpec.post enc Try.prog Try.f3 false true false false) := by
  refine returnsInHanded_of_change (C := Try.checked) own started (by kernel_rfl) Try.func3
    (ChangeSpec.witness6 (enc := enc) (C := Try.checked) false ⟨#[], #[.agg #[.slice none 0 0, .slice none 0 0]], []⟩ 8 (by kernel_rfl) (by kernel_rfl) (by kernel_rfl) (by kernel_rfl)) ?_
  intro W base args ds gs before hval0 hW hcnd _
  have hval : ∀ (j : Nat) t v, Try.f3.params[j]? = some t → args[j]? = some v → Value.okWide Try.prog W .any base t v := hval0
  have hW' := hW
  obtain ⟨p, q, hA0, hV, rfl, hfz, hnd⟩ := hW
  have hA : DataW.TrodAll enc Try.prog W 0 (fun _ => true) true Try.f3.params.toList args.toList ds p := hA0
  rw [Try.params3] at hA hval
  obtain ⟨v0, d0, rfl, rfl, h0⟩ := trodAll_one hA
  obtain ⟨rfl, rfl⟩ := trodVars_none hV
  have k0 := h0
  have lt0 : ∀ x ∈ p, x.block < W.heap.size := by obtain ⟨m, hm⟩ := k0; exact DataW.trod_lt m _ _ _ hm
  obtain ⟨wa, m, wc, fs, da, n, dc, dsl, rfl, hm, hn, hT, hD⟩ := open_mem (hval 0 25 v0 rfl rfl) h0
  refine (walk ask wa m wc fs da n dc dsl W hm hn hT hD).mono fun e W' ⟨he, bel⟩ => ?_
  subst he
  exact ⟨_, rfl, _, _, _, [], _, [], hW', trodAll_mk1 (shut_bool Try.underlying4 _), (trodAll_cons_mk (Below.trod laidOut (by kernel_rfl) (of_decide_eq_true (by kernel_rfl)) k0 bel lt0) trodAll_mk0), rfl, bel.frame _, fun h => by cases h⟩
/-- The statement, of what is asked. -/
theorem over (ask : Asked) : Rows.FnExactQuietSaid :=
  OpenClaim.holds_of_wide 3 Try.f3 rfl rfl rfl rfl rfl rfl rfl ⟨rfl, rfl, rfl, rfl, rfl⟩ rfl rfl rfl rfl rfl (by kernel_rfl) Try.func3 (by kernel_rfl)
    (of_decide_eq_true (by kernel_rfl)) (by unfold Func.isWrapper; first | (rw [if_pos (by decide +kernel)]; kernel_rfl) | (rw [if_neg (by decide +kernel)]; exact ⟨rfl, rfl⟩))
    (fun os started H enc _ => lifted ask os started H enc)
end Go.Proofs.Ytbdfopokimpeiar.fnExactQuiet
