/- impl.memAnew, walked. -/
import Derived.Test.YtbdfopokimpeiaqAnewS
import Derived.Test.YtbdfopokimpeiaqRegTail
namespace Go.Proofs.Ytbdfopokimpeiaq
open Go.ChangeShapes Go.WideShapes Go.ChangeAt Go.RowKit Go.Joins

/-- The lists of the Descs: what is no list has no room. -/
def NilAt (w : World) (a : Option Addr) (n : Nat) (ds : List DK) : Prop :=
  n = 0 ∨ ∃ b o, a = some ⟨b, o, none⟩ ∧ ∀ i, i < n → ∃ ea ec ra rc, w.cell? ⟨b, o + i * 5 + 2, none⟩ = some (.slice ea (dk ds i).en ec) ∧ w.cell? ⟨b, o + i * 5 + 4, none⟩ = some (.slice ra (dk ds i).rn rc) ∧ (ea = none → ec = 0) ∧ (ra = none → rc = 0)
theorem NilAt.below {w w' : World} {a : Option Addr} {n : Nat} {ds : List DK} (h : NilAt w a n ds) {B : Nat} (hb : Below B w w') (hB : w.heap.size ≤ B) : NilAt w' a n ds := by
  rcases h with h | ⟨b, o, h1, h2⟩
  · exact .inl h
  · refine .inr ⟨b, o, h1, fun i hi => ?_⟩
    obtain ⟨ea, ec, ra, rc, h3, h4, h5, h6⟩ := h2 i hi
    have hlt : b < B := Nat.lt_of_lt_of_le (World.block_lt_of_cell? w _ h3) hB
    exact ⟨ea, ec, ra, rc, (hb.cell hlt).trans h3, (hb.cell hlt).trans h4, h5, h6⟩
theorem DescOwn.nils {w : World} {g n : Nat} {ds : List DK} (h : DescOwn w g n ds n) : NilAt w (some ⟨g, 0, none⟩) n ds := by
  obtain ⟨vs, P, Q, h1, h2⟩ := h
  refine .inr ⟨g, 0, rfl, fun i hi => ?_⟩
  obtain ⟨⟨⟨_, _, a2, _, a4⟩, _, _, _, _⟩, _⟩ := h2 i hi
  exact ⟨_, _, _, _, by rw [Nat.zero_add]; exact own_cellV h1 a2, by rw [Nat.zero_add]; exact own_cellV h1 a4, (fun e => by cases e), (fun e => by cases e)⟩
/-- The cells of a list of Descs. -/
theorem desc_src {w : World} {a : Option Addr} {n : Nat} {ds : List DK} (h : DescAt w a n ds) : ∃ vs : List Value, (vs.length = n * 5 ∧ (∀ ad, a = some ad → ∀ j u, vs[j]? = some u → w.cell? (ad.add j) = some u) ∧ ∀ u ∈ vs, u.oneCell' = true) ∧ ∀ i, i < n → ∃ x y, AtF vs i (dk ds i) x y := by
  rcases h.2.2 with h0 | ⟨b, o, rfl, g⟩
  · subst h0
    exact ⟨[], ⟨rfl, fun ad _ j u hj => by simp at hj, fun u hu => by cases hu⟩, fun i hi => by omega⟩
  · have C : ∀ j, j < n * 5 → ∃ u, w.cell? ⟨b, o + j, none⟩ = some u ∧ u.oneCell' = true := fun j hj => by
      obtain ⟨ea, ec, ra, rc, ⟨f0, f1, f2, f3, f4⟩, _, _⟩ := g (j / 5) (by omega)
      have hr : j % 5 = 0 ∨ j % 5 = 1 ∨ j % 5 = 2 ∨ j % 5 = 3 ∨ j % 5 = 4 := by omega
      rcases hr with h1 | h1 | h1 | h1 | h1
      · exact ⟨_, by rw [show o + j = o + j / 5 * 5 by omega]; exact f0, rfl⟩
      · exact ⟨_, by rw [show o + j = o + j / 5 * 5 + 1 by omega]; exact f1, rfl⟩
      · exact ⟨_, by rw [show o + j = o + j / 5 * 5 + 2 by omega]; exact f2, rfl⟩
      · exact ⟨_, by rw [show o + j = o + j / 5 * 5 + 3 by omega]; exact f3, rfl⟩
      · exact ⟨_, by rw [show o + j = o + j / 5 * 5 + 4 by omega]; exact f4, rfl⟩
    have AT : ∀ j, j < n * 5 → ((List.range (n * 5)).map fun j => (w.cell? ⟨b, o + j, none⟩).getD undef)[j]? = w.cell? ⟨b, o + j, none⟩ := fun j hj => by
      obtain ⟨u, hu, _⟩ := C j hj
      simp [hj, hu]
    refine ⟨(List.range (n * 5)).map fun j => (w.cell? ⟨b, o + j, none⟩).getD undef, ⟨by simp, fun ad had j u hj => ?_, fun u hu => ?_⟩, fun i hi => ?_⟩
    · cases had
      have hl : j < n * 5 := by
        rcases Nat.lt_or_ge j (n * 5) with h1 | h1
        · exact h1
        · rw [List.getElem?_eq_none (by simpa using h1)] at hj; cases hj
      rw [AT j hl] at hj
      have e : (⟨b, o, none⟩ : Addr).add j = ⟨b, o + j, none⟩ := by simp [Addr.add]
      rw [e]
      exact hj
    · obtain ⟨j, hj⟩ := List.mem_iff_getElem?.1 hu
      have hl : j < n * 5 := by
        rcases Nat.lt_or_ge j (n * 5) with h1 | h1
        · exact h1
        · rw [List.getElem?_eq_none (by simpa using h1)] at hj; cases hj
      rw [AT j hl] at hj
      obtain ⟨u', hu', ho⟩ := C j hl
      rw [hu'] at hj
      cases hj
      exact ho
    · obtain ⟨ea, ec, ra, rc, ⟨f0, f1, f2, f3, f4⟩, _, _⟩ := g i hi
      refine ⟨.slice ea (dk ds i).en ec, .slice ra (dk ds i).rn rc, (AT _ (by omega)).trans f0, (AT _ (by omega)).trans ?_, (AT _ (by omega)).trans ?_, (AT _ (by omega)).trans ?_, (AT _ (by omega)).trans ?_⟩
      · rw [← Nat.add_assoc]; exact f1
      · rw [← Nat.add_assoc]; exact f2
      · rw [← Nat.add_assoc]; exact f3
      · rw [← Nat.add_assoc]; exact f4
def F2 (v d : Value) : Nat → Value := fun a => if a = 0 then v else d
theorem anew_start {W w' : World} {b : Nat} {v d : Value} {m : Nat} {fs : List Int} {n : Nat} {ds : List DK} {vs : List Value} (hx : Box w' b #[v, d] 46) (hb : W.heap.size ≤ b) (hv : w'.ownsRow W.heap.size 80 3 v m (fs.map I)) (hd : w'.ownsRow W.heap.size 82 5 d n vs)
    (hat : ∀ i, i < n → ∃ x y, AtF vs i (dk ds i) x y) (hvd : ∀ k, v.ownBlock = some k → d.ownBlock ≠ some k) (hvb : v.ownBlock ≠ some b) (hdb : d.ownBlock ≠ some b) (hbl : Below W.heap.size W w') : AnewSt W W.heap.size b (F2 v d) m fs n ds 0 w' := by
  refine ⟨hx, hb, hv, ⟨vs, hd, fun i hi => by omega, fun i _ hi => hat i hi⟩, fun i hi => by omega, fun i hi => by omega, ?_, fun a ha => ?_, hbl⟩
  · intro a c ha hc hac k h1 h2
    unfold F2 at h1 h2
    by_cases e : a = 0
    · rw [if_pos e] at h1
      rw [if_neg (by omega)] at h2
      exact hvd k h1 h2
    · rw [if_neg e] at h1
      rw [if_pos (by omega)] at h2
      exact hvd k h2 h1
  · unfold F2
    split
    · exact hvb
    · exact hdb
theorem int_far {w : World} {a : Option Addr} {n g j : Nat} {rs : List Int} {u : Value} (h : IntAt w a n rs) (hne : ∀ p, a = some p → 0 < n → p.block ≠ g) : IntAt (w.setCell ⟨g, j, none⟩ u) a n rs := by
  refine ⟨h.1, h.2.1, ?_⟩
  rcases h.2.2 with h0 | ⟨p, o, rfl, c⟩
  · exact .inl h0
  · by_cases hn : n = 0
    · exact .inl hn
    · exact .inr ⟨p, o, rfl, fun i hi => by rw [World.cell?_of_block (Below.heap_setCell _ _ _ _ (hne _ rfl (by omega)))]; exact c i hi⟩
/-- The operations of the region that copies both lists. -/
noncomputable def anewL : List Oper := match Try.f64.body with
  | some (.seq _ (.seq (.region _ ops _) _)) => ops.toList
  | _ => []
set_option maxHeartbeats 8000000 in
set_option maxRecDepth 100000 in
theorem memAnew_o (wa : Option Addr) (m wc : Nat) (fs : List Int) (da : Option Addr) (n dc : Nat) (ds : List DK) (w : World) (h1 : TripAt w wa m fs) (h2 : DescAt w da n ds) (h3 : NilAt w da n ds) (hwn : wa = none → wc = 0) (hdn : da = none → dc = 0) :
    Calls Try.prog 64 #[MemV wa m wc da n dc] w fun e w' => ∃ F, e = .returned (MemF F) ∧ MemO w' w.heap.size F m fs n ds ∧ Below w.heap.size w w' := by
  have hm := h1.2.1
  have hn := h2.2.1
  have HL : Hid (ds.length = n) := h2.1
  obtain ⟨W, hW⟩ : ∃ W, ((w.alloc (.cells #[.slice wa m wc, .slice da n dc] 46)).alloc (.cells #[.slice none 0 0, .slice none 0 0] 46)) = W := ⟨_, rfl⟩
  have hb0 : Below w.heap.size w W := by rw [← hW]; exact ((Below.refl _ w).alloc (Nat.le_refl _) _).alloc (by simp) _
  have hsz : W.heap.size = w.heap.size + 2 := by rw [← hW]; simp
  have HSZ : Hid (W.heap.size = w.heap.size + 2) := hsz
  have X0 : Hid (Box W w.heap.size #[.slice wa m wc, .slice da n dc] 46) := by rw [← hW]; exact (box_of w _ _).alloc _
  have R0 : Hid (Box W (w.heap.size + 1) #[.slice none 0 0, .slice none 0 0] 46) := by
    have := box_of (w.alloc (.cells #[.slice wa m wc, .slice da n dc] 46)) #[.slice none 0 0, .slice none 0 0] 46
    rw [hW] at this
    show Box _ _ _ _
    simpa using this
  have H1 : Hid (TripAt W wa m fs) := h1.below hb0 (Nat.le_refl _)
  have H2 : Hid (DescAt W da n ds) := h2.below hb0 (Nat.le_refl _)
  have H3 : Hid (NilAt W da n ds) := h3.below hb0 (Nat.le_refl _)
  have HB0 : Hid (Below w.heap.size w W) := hb0
  have HWN : Hid (wa = none → wc = 0) := hwn
  have HDN : Hid (da = none → dc = 0) := hdn
  have HW : Hid (((w.alloc (.cells #[.slice wa m wc, .slice da n dc] 46)).alloc (.cells #[.slice none 0 0, .slice none 0 0] 46)) = W) := hW
  have BOX : Hid (∀ w', Below W.heap.size W w' → w'.cell? ⟨w.heap.size, 0, none⟩ = some (.slice wa m wc) ∧ w'.cell? ⟨w.heap.size, 1, none⟩ = some (.slice da n dc)) := fun w' hb => ⟨(X0.out.below hb X0.out.lt).two.1, (X0.out.below hb X0.out.lt).two.2.1⟩
  obtain ⟨x0, x1, _, _⟩ := X0.out.two
  clear h1 h2 h3 hwn hdn hW hb0 hsz
  go_enter Try.func64, Try.ntmps64
  go_wp2_with fail
  rw [HW.out]
  refine Code.wp_mono (Q := Exit.then (fun a' w' => ∃ (b : Nat) (va : Option Addr) (vc : Nat) (ea : Option Addr) (ec : Nat), a' = ⟨List.toArray (MemV wa m wc da n dc :: .pointer (some ⟨w.heap.size, 0, none⟩) :: .pointer (some ⟨w.heap.size + 1, 0, none⟩) :: .pointer (some ⟨b, 0, none⟩) :: undef :: undef :: .pointer (some ⟨w.heap.size, 0, none⟩) :: .slice wa m wc :: .slice va m vc :: .pointer (some ⟨w.heap.size, 1, none⟩) :: .slice da n dc :: .slice ea n ec :: .agg #[.slice va m vc, .slice ea n ec] :: undef :: undef :: undef :: undef :: undef :: undef :: undef :: undef :: undef :: undef :: undef :: undef :: undef :: undef :: undef :: undef :: undef :: undef :: undef :: undef :: undef :: undef :: undef :: undef :: undef :: undef :: []), []⟩ ∧ AnewSt W W.heap.size b (F2 (.slice va m vc) (.slice ea n ec)) m fs n ds 0 w') (fun _ _ _ => False)) ?rest ?reg
  case reg =>
    change (Code.region _ (List.toArray anewL) true).wp _ _ _ _
    refine wp_region_held_drew (S := fun w' => w'.cell? ⟨w.heap.size, 0, none⟩ = some (.slice wa m wc) ∧ w'.cell? ⟨w.heap.size, 1, none⟩ = some (.slice da n dc)) (by kernel_rfl) ?_ (fun hHeld => ?_)
    · exact ⟨x0, x1⟩
    refine wpAnyH_take (i := 0) (oi := _) (v := .pointer (some ⟨w.heap.size, 0, none⟩)) (by rw [List.getElem?_toArray]; exact rfl) (by kernel_rfl) (by kernel_rfl) (by kernel_rfl) (by intro _ _ _ h; exact h) (Or.inl ⟨by kernel_rfl, ?_⟩) hHeld ?_
    · intro w hSw; obtain ⟨s1, s2⟩ := hSw; go_simp
    (try simp only [Act.put, List.setIfInBounds_toArray, List.set_cons_zero, List.set_cons_succ])
    refine wpAnyH_take (i := 1) (oi := _) (v := .slice wa m wc) (by rw [List.getElem?_toArray]; exact rfl) (by kernel_rfl) (by kernel_rfl) (by kernel_rfl) (by intro _ _ _ h; exact h) (Or.inl ⟨by kernel_rfl, ?_⟩) hHeld ?_
    · intro w hSw; obtain ⟨s1, s2⟩ := hSw; go_simp
    (try simp only [Act.put, List.setIfInBounds_toArray, List.set_cons_zero, List.set_cons_succ])
    refine wpAnyH_take (i := 3) (oi := _) (v := .pointer (some ⟨w.heap.size, 1, none⟩)) (by rw [List.getElem?_toArray]; exact rfl) (by kernel_rfl) (by kernel_rfl) (by kernel_rfl) (by intro _ _ _ h; exact h) (Or.inl ⟨by kernel_rfl, ?_⟩) hHeld ?_
    · intro w hSw; obtain ⟨s1, s2⟩ := hSw; go_simp
    (try simp only [Act.put, List.setIfInBounds_toArray, List.set_cons_zero, List.set_cons_succ])
    refine wpAnyH_take (i := 4) (oi := _) (v := .slice da n dc) (by rw [List.getElem?_toArray]; exact rfl) (by kernel_rfl) (by kernel_rfl) (by kernel_rfl) (by intro _ _ _ h; exact h) (Or.inl ⟨by kernel_rfl, ?_⟩) hHeld ?_
    · intro w hSw; obtain ⟨s1, s2⟩ := hSw; go_simp
    (try simp only [Act.put, List.setIfInBounds_toArray, List.set_cons_zero, List.set_cons_succ])
    refine wpAnyH_ready (rs := [2, 7]) (by kernel_rfl) (by simp) ?_
    refine AllReadyH.cons (o := _) (by rw [List.getElem?_toArray]; exact rfl) (fun K hK => ?_) (AllReadyH.cons (o := _) (by rw [List.getElem?_toArray]; exact rfl) (fun K hK => ?_) AllReadyH.nil)
    · rw [if_pos (by kernel_rfl)]
      go_simp
      refine (cloneW_o wa m wc fs _ (H1.out.below ((Below.refl W.heap.size W).drew) (Nat.le_refl _)) HWN.out).mono ?_
      rintro e w2 ⟨v, rfl, own2, hb2⟩
      obtain ⟨va, vc, rfl, _⟩ := owns_slice own2
      have hB2 : Below W.heap.size W w2 := (Below.refl W.heap.size W).drew.trans hb2
      refine hK.out _ _ (BOX.out _ hB2) (fun hHeld => ?_)
      clear hK K
      (try simp only [Act.put, List.setIfInBounds_toArray, List.set_cons_zero, List.set_cons_succ])
      refine wpAnyH_ready (rs := [5, 7]) (by kernel_rfl) (by simp) ?_
      refine AllReadyH.cons (o := _) (by rw [List.getElem?_toArray]; exact rfl) (fun K hK => ?_) (AllReadyH.cons (o := _) (by rw [List.getElem?_toArray]; exact rfl) (fun K hK => ?_) AllReadyH.nil)
      · rw [if_pos (by kernel_rfl)]
        go_simp
        obtain ⟨vs, hvs, hat⟩ := desc_src (H2.out.below (hB2) (Nat.le_refl _))
        refine (cloneD_o da n dc ds _ (H2.out.below (hB2) (Nat.le_refl _)) HDN.out vs hvs).mono ?_
        rintro e w5 ⟨d, rfl, own5, hb5⟩
        obtain ⟨ea, ec, rfl, _⟩ := owns_slice own5
        have hB5 : Below W.heap.size W w5 := hB2.trans (hb5.mono hB2.size)
        refine hK.out _ _ (BOX.out _ hB5) (fun hHeld => ?_)
        clear hK K
        (try simp only [Act.put, List.setIfInBounds_toArray, List.set_cons_zero, List.set_cons_succ])
        refine wpAnyH_take (i := 6) (oi := _) (v := .agg #[.slice va m vc, .slice ea n ec]) (by rw [List.getElem?_toArray]; exact rfl) (by kernel_rfl) (by kernel_rfl) (by kernel_rfl) (by intro _ _ _ h; exact h) (Or.inl ⟨by kernel_rfl, ?_⟩) hHeld ?_
        · intro w hSw; go_simp
        (try simp only [Act.put, List.setIfInBounds_toArray, List.set_cons_zero, List.set_cons_succ])
        refine wpAnyH_ready (rs := [7]) (by kernel_rfl) (by simp) ?_
        refine AllReadyH.cons (o := _) (by rw [List.getElem?_toArray]; exact rfl) (fun K hK => ?_) AllReadyH.nil
        rw [if_pos (by kernel_rfl)]
        go_simp
        refine hK.out _ _ (BOX.out _ (hB5.alloc hB5.size _)) (fun hHeld => ?_)
        clear hK K
        (try simp only [Act.put, List.setIfInBounds_toArray, List.set_cons_zero, List.set_cons_succ])
        refine wpAnyH_ready (rs := [8]) (by kernel_rfl) (by simp) ?_
        refine AllReadyH.cons (o := _) (by rw [List.getElem?_toArray]; exact rfl) (fun K hK => ?_) AllReadyH.nil
        rw [if_pos (by kernel_rfl)]
        go_simp
        refine hK.out _ _ ?_ (fun hHeld => ?_)
        · exact BOX.out _ (hB5.alloc hB5.size _)
        clear hK K
        (try simp only [Act.put, List.setIfInBounds_toArray, List.set_cons_zero, List.set_cons_succ])
        refine wpAnyH_done (by kernel_rfl) ?_ _
        refine ⟨_, va, vc, ea, ec, rfl, anew_start (box_of w5 _ _) hB5.size ((owns_below own2 hb5 (Nat.le_refl _)).alloc _) ((own_weaken own5 hB2.size).alloc _) hat (fun k e1 e2 => ?_) (fun e => ?_) (fun e => ?_) (hB5.alloc hB5.size _)⟩
        · have l1 := (own2.lt k e1).2; have l2 := (own5.lt k e2).1; omega
        · have l1 := ((owns_below own2 hb5 (Nat.le_refl _)).lt _ e).2; omega
        · have l1 := (own5.lt _ e).2; omega
      · rw [if_pos (by kernel_rfl)]
        go_simp
        have hBa : Below W.heap.size W (w2.alloc (.cells #[.slice none 0 0, .slice none 0 0] 46)) := hB2.alloc hB2.size _
        refine hK.out _ _ (BOX.out _ hBa) (fun hHeld => ?_)
        clear hK K
        (try simp only [Act.put, List.setIfInBounds_toArray, List.set_cons_zero, List.set_cons_succ])
        refine wpAnyH_ready (rs := [5]) (by kernel_rfl) (by simp) ?_
        refine AllReadyH.cons (o := _) (by rw [List.getElem?_toArray]; exact rfl) (fun K hK => ?_) AllReadyH.nil
        rw [if_pos (by kernel_rfl)]
        go_simp
        obtain ⟨vs, hvs, hat⟩ := desc_src (H2.out.below (hBa) (Nat.le_refl _))
        refine (cloneD_o da n dc ds _ (H2.out.below (hBa) (Nat.le_refl _)) HDN.out vs hvs).mono ?_
        rintro e w5 ⟨d, rfl, own5, hb5⟩
        obtain ⟨ea, ec, rfl, _⟩ := owns_slice own5
        have hB5 : Below W.heap.size W w5 := hBa.trans (hb5.mono hBa.size)
        have s2 := hB2.size
        have X5 := (box_of w2 #[.slice none 0 0, .slice none 0 0] 46).below hb5 (by simp)
        obtain ⟨y0, y1, z0, z1⟩ := X5.two
        have nv : (Value.slice va m vc).ownBlock ≠ some w2.heap.size := fun e => by have := (own2.lt _ e).2; omega
        have nd : (Value.slice ea n ec).ownBlock ≠ some w2.heap.size := fun e => by have := (own5.lt _ e).1; simp at this; omega
        have OV5 := owns_below (own2.alloc (.cells #[.slice none 0 0, .slice none 0 0] 46)) hb5 (Nat.le_refl _)
        have OD5 := own_weaken own5 hBa.size
        refine hK.out _ _ (BOX.out _ hB5) (fun hHeld => ?_)
        clear hK K
        (try simp only [Act.put, List.setIfInBounds_toArray, List.set_cons_zero, List.set_cons_succ])
        refine wpAnyH_take (i := 6) (oi := _) (v := .agg #[.slice va m vc, .slice ea n ec]) (by rw [List.getElem?_toArray]; exact rfl) (by kernel_rfl) (by kernel_rfl) (by kernel_rfl) (by intro _ _ _ h; exact h) (Or.inl ⟨by kernel_rfl, ?_⟩) hHeld ?_
        · intro w hSw; go_simp
        (try simp only [Act.put, List.setIfInBounds_toArray, List.set_cons_zero, List.set_cons_succ])
        refine wpAnyH_ready (rs := [8]) (by kernel_rfl) (by simp) ?_
        refine AllReadyH.cons (o := _) (by rw [List.getElem?_toArray]; exact rfl) (fun K hK => ?_) AllReadyH.nil
        rw [if_pos (by kernel_rfl)]
        go_simp
        refine hK.out _ _ ?_ (fun hHeld => ?_)
        · exact BOX.out _ ((hB5.setCell (show W.heap.size ≤ w2.heap.size by omega) _).setCell (show W.heap.size ≤ w2.heap.size by omega) _)
        clear hK K
        (try simp only [Act.put, List.setIfInBounds_toArray, List.set_cons_zero, List.set_cons_succ])
        refine wpAnyH_done (by kernel_rfl) ?_ _
        refine ⟨w2.heap.size, va, vc, ea, ec, rfl, anew_start ((X5.put 0 _).put 1 _) (by omega) (own_setCell_far (own_setCell_far OV5 nv _) nv _) (own_setCell_far (own_setCell_far OD5 nd _) nd _) hat (fun k e1 e2 => ?_) nv nd ((hB5.setCell (show W.heap.size ≤ w2.heap.size by omega) _).setCell (show W.heap.size ≤ w2.heap.size by omega) _)⟩
        have l1 := (own2.lt k e1).2; have l2 := (own5.lt k e2).1; (try simp at l2); omega
    · rw [if_pos (by kernel_rfl)]
      go_simp
      have hBa : Below W.heap.size W (W.alloc (.cells #[.slice none 0 0, .slice none 0 0] 46)).drew := ((Below.refl W.heap.size W).alloc (Nat.le_refl _) _).drew
      refine hK.out _ _ (BOX.out _ hBa) (fun hHeld => ?_)
      clear hK K
      (try simp only [Act.put, List.setIfInBounds_toArray, List.set_cons_zero, List.set_cons_succ])
      refine wpAnyH_ready (rs := [2]) (by kernel_rfl) (by simp) ?_
      refine AllReadyH.cons (o := _) (by rw [List.getElem?_toArray]; exact rfl) (fun K hK => ?_) AllReadyH.nil
      rw [if_pos (by kernel_rfl)]
      go_simp
      refine (cloneW_o wa m wc fs _ (H1.out.below (hBa) (Nat.le_refl _)) HWN.out).mono ?_
      rintro e w2 ⟨v, rfl, own2, hb2⟩
      obtain ⟨va, vc, rfl, _⟩ := owns_slice own2
      have hB2 : Below W.heap.size W w2 := hBa.trans (hb2.mono hBa.size)
      refine hK.out _ _ (BOX.out _ hB2) (fun hHeld => ?_)
      clear hK K
      (try simp only [Act.put, List.setIfInBounds_toArray, List.set_cons_zero, List.set_cons_succ])
      refine wpAnyH_ready (rs := [5]) (by kernel_rfl) (by simp) ?_
      refine AllReadyH.cons (o := _) (by rw [List.getElem?_toArray]; exact rfl) (fun K hK => ?_) AllReadyH.nil
      rw [if_pos (by kernel_rfl)]
      go_simp
      obtain ⟨vs, hvs, hat⟩ := desc_src (H2.out.below (hB2) (Nat.le_refl _))
      refine (cloneD_o da n dc ds _ (H2.out.below (hB2) (Nat.le_refl _)) HDN.out vs hvs).mono ?_
      rintro e w5 ⟨d, rfl, own5, hb5⟩
      obtain ⟨ea, ec, rfl, _⟩ := owns_slice own5
      have hB5 : Below W.heap.size W w5 := hB2.trans (hb5.mono hB2.size)
      have X2 : Box w2 W.heap.size #[.slice none 0 0, .slice none 0 0] 46 := (box_of W _ _).drew.below hb2 (by show W.heap.size < (W.alloc _).heap.size; simp)
      have X5 := X2.below hb5 X2.lt
      obtain ⟨y0, y1, z0, z1⟩ := X5.two
      have nv : (Value.slice va m vc).ownBlock ≠ some W.heap.size := fun e => by have := (own2.lt _ e).1; simp at this; omega
      have nd : (Value.slice ea n ec).ownBlock ≠ some W.heap.size := fun e => by have h1 := (own5.lt _ e).1; have h2 := hb2.size; simp at h2; omega
      have OV5 := own_weaken (owns_below own2 hb5 (Nat.le_refl _)) hBa.size
      have OD5 := own_weaken own5 hB2.size
      refine hK.out _ _ (BOX.out _ hB5) (fun hHeld => ?_)
      clear hK K
      (try simp only [Act.put, List.setIfInBounds_toArray, List.set_cons_zero, List.set_cons_succ])
      refine wpAnyH_take (i := 6) (oi := _) (v := .agg #[.slice va m vc, .slice ea n ec]) (by rw [List.getElem?_toArray]; exact rfl) (by kernel_rfl) (by kernel_rfl) (by kernel_rfl) (by intro _ _ _ h; exact h) (Or.inl ⟨by kernel_rfl, ?_⟩) hHeld ?_
      · intro w hSw; go_simp
      (try simp only [Act.put, List.setIfInBounds_toArray, List.set_cons_zero, List.set_cons_succ])
      refine wpAnyH_ready (rs := [8]) (by kernel_rfl) (by simp) ?_
      refine AllReadyH.cons (o := _) (by rw [List.getElem?_toArray]; exact rfl) (fun K hK => ?_) AllReadyH.nil
      rw [if_pos (by kernel_rfl)]
      go_simp
      refine hK.out _ _ ?_ (fun hHeld => ?_)
      · exact BOX.out _ ((hB5.setCell (show W.heap.size ≤ W.heap.size by omega) _).setCell (show W.heap.size ≤ W.heap.size by omega) _)
      clear hK K
      (try simp only [Act.put, List.setIfInBounds_toArray, List.set_cons_zero, List.set_cons_succ])
      refine wpAnyH_done (by kernel_rfl) ?_ _
      refine ⟨W.heap.size, va, vc, ea, ec, rfl, anew_start ((X5.put 0 _).put 1 _) (by omega) (own_setCell_far (own_setCell_far OV5 nv _) nv _) (own_setCell_far (own_setCell_far OD5 nd _) nd _) hat (fun k e1 e2 => ?_) nv nd ((hB5.setCell (show W.heap.size ≤ W.heap.size by omega) _).setCell (show W.heap.size ≤ W.heap.size by omega) _)⟩
      have l1 := (own2.lt k e1).2; have l2 := (own5.lt k e2).1; (try simp at l2); omega
  case rest =>
    intro ex a' w9 h
    cases ex
    case normal =>
      obtain ⟨b, va, vc, ea, ec, rfl, st0⟩ := h
      have ST0 : Hid (AnewSt W W.heap.size b (F2 (.slice va m vc) (.slice ea n ec)) m fs n ds 0 w9) := st0
      clear st0
      obtain ⟨x0, x1, _, _⟩ := (X0.out.below ST0.out.bel X0.out.lt).two
      go_wp2
      clear x0 x1
      go_loopw [16] (fun i wr => ∃ k : Nat, k ≤ n ∧ i = .int .i64 (k : Int) ∧ ∃ F, F 0 = .slice va m vc ∧ F 1 = .slice ea n ec ∧ AnewSt W W.heap.size b F m fs n ds k wr) (fun i _ => n - (intOf i).toNat)
      case atStart => exact ⟨0, Nat.zero_le _, rfl, _, rfl, rfl, ST0.out⟩
      case round =>
        obtain ⟨k, hk, rfl, F, hF0, hF1, hst⟩ := hrel
        have ST : Hid (AnewSt W W.heap.size b F m fs n ds k wr) := hst
        have HF0 : Hid (F 0 = .slice va m vc) := hF0
        have HF1 : Hid (F 1 = .slice ea n ec) := hF1
        have XB : Hid (Box wr b #[.slice va m vc, .slice ea n ec] 46) := by
          have := hst.box
          rw [hF0, hF1] at this
          exact this
        clear ST0 hst
        by_cases hlt : k < n
        · have hk0 : (0 : Int) ≤ (k : Int) := by omega
          have hk1 : (k : Int) < (n : Int) := by omega
          obtain ⟨vs, hd, _, _⟩ := ST.out.descs
          rw [hF1] at hd
          obtain ⟨g, cap, he⟩ : ∃ g cap, Value.slice ea n ec = .slice (some ⟨g, 0, none⟩) n cap := by
            rcases owns_forms hd with ⟨_, h0⟩ | ⟨g, cap, h0⟩
            · omega
            · exact ⟨g, cap, h0⟩
          cases he
          have HD : Hid (wr.ownsRow W.heap.size 82 5 (.slice (some ⟨g, 0, none⟩) n ec) n vs) := hd
          have hg : W.heap.size ≤ g ∧ g < wr.heap.size := hd.lt g rfl
          have hbg : b ≠ g := fun e => ST.out.nbx 1 (by omega) (by rw [HF1.out, e]; rfl)
          have hbl := XB.out.lt
          have hvl : vs.length = n * 5 := hd.1
          rcases H2.out.2.2 with h0 | ⟨q1, o2, rfl, g2⟩
          · omega
          rcases H3.out with h0 | ⟨q1', o2', he3, g3⟩
          · omega
          obtain ⟨rfl, rfl⟩ : q1 = q1' ∧ o2 = o2' := by simpa using he3
          obtain ⟨eA, eC, rA, rC, h5, h6W, h7W⟩ := g2 k hlt
          have h6 := h6W.below ST.out.bel (Nat.le_refl _)
          have h7 := h7W.below ST.out.bel (Nat.le_refl _)
          obtain ⟨eA', eC', rA', rC', h8, h9, nE, nR⟩ := g3 k hlt
          obtain ⟨rfl, rfl⟩ : eA = eA' ∧ eC = eC' := by
            have := h5.2.2.1.symm.trans h8
            simpa using this
          obtain ⟨rfl, rfl⟩ : rA = rA' ∧ rC = rC' := by
            have := h5.2.2.2.2.symm.trans h9
            simpa using this
          have h5r := h5.below ST.out.bel (Nat.le_refl _)
          obtain ⟨f0, f1, f2, f3, f4⟩ := h5r
          have H2b : Hid (∀ p, rA = some p → 0 < (dk ds k).rn → p.block < W.heap.size) := fun p e hp => by
            subst e
            rcases h7W.2.2 with h0 | ⟨p', o', he, c⟩
            · omega
            · cases he
              exact World.block_lt_of_cell? W _ (c 0 hp)
          obtain ⟨D, hD⟩ : ∃ D, dk ds k = D := ⟨_, rfl⟩
          have HDk : Hid (dk ds k = D) := hD
          rw [hD] at f0 f1 f2 f3 f4 h6 h7 H2b
          obtain ⟨W1, hW1⟩ : ∃ W1, wr.alloc (.cells (DescC D.sq D.st eA D.en eC D.cd rA D.rn rC) 82) = W1 := ⟨_, rfl⟩
          have hb1 : Below wr.heap.size wr W1 := by rw [← hW1]; exact (Below.refl _ _).alloc (Nat.le_refl _) _
          have hs1 : wr.heap.size < W1.heap.size := by rw [← hW1]; simp
          have XD : Hid (Box W1 wr.heap.size (DescC D.sq D.st eA D.en eC D.cd rA D.rn rC) 82) := by rw [← hW1]; exact box_of wr _ _
          have HW1 : Hid (wr.alloc (.cells (DescC D.sq D.st eA D.en eC D.cd rA D.rn rC) 82) = W1) := hW1
          have HB1 : Hid (Below wr.heap.size wr W1) := hb1
          have XB1 : Hid (Box W1 b #[.slice va m vc, .slice (some ⟨g, 0, none⟩) n ec] 46) := XB.out.below hb1 hbl
          have T1 : Hid (TripAt W1 eA D.en D.es ∧ IntAt W1 rA D.rn D.rs) := ⟨h6.below hb1 (Nat.le_refl _), h7.below hb1 (Nat.le_refl _)⟩
          have NE : Hid ((eA = none → eC = 0) ∧ (rA = none → rC = 0)) := ⟨nE, nR⟩
          obtain ⟨bd, hbd⟩ : ∃ bd, wr.heap.size = bd := ⟨_, rfl⟩
          have hbdg : bd ≠ g := by omega
          have HBD : Hid (wr.heap.size = bd) := hbd
          obtain ⟨_, y1, _, _⟩ := XB1.out.two
          obtain ⟨_, _, t2, t3, t4⟩ := XD.out.desc
          rw [hbd] at t2 t3 t4
          have K0 : Hid (W1.drew.cell? ⟨b, 1, none⟩ = some (.slice (some ⟨g, 0, none⟩) n ec) ∧ W1.drew.cell? ⟨bd, 2, none⟩ = some (.slice eA D.en eC)) := ⟨y1, t2⟩
          clear h6 h7 h6W h7W h5 h8 h9 nE nR g2 g3 hD hW1 hb1 hd he3 y1 t2 t3 t4 hbd
          go_wp2_with fail
          rw [HW1.out]
          (try rw [HBD.out])
          go_region_held3 (fun w' => w'.cell? ⟨b, 1, none⟩ = some (.slice (some ⟨g, 0, none⟩) n ec) ∧ w'.cell? ⟨bd, 2, none⟩ = some (.slice eA D.en eC))
            (first | (with_reducible exact K2.out) | (with_reducible exact K1.out) | (with_reducible exact K0.out) | go_keep)
            (first
            | (go_at_call 74
               refine (cloneE_o eA D.en eC D.es _ (T1.out.1.below (Below.refl W1.heap.size W1).drew (Nat.le_refl _)) NE.out.1).mono ?_
               rintro e w2 ⟨V, rfl, ownV, hb2⟩
               have hb2' : Below W1.heap.size W1 w2 := (Below.refl W1.heap.size W1).drew.trans hb2
               have HB2 : Hid (Below W1.heap.size W1 w2) := hb2'
               obtain ⟨Va, Vc, rfl, _⟩ := owns_slice ownV
               have OV : Hid (w2.ownsRow W1.heap.size 84 3 (.slice Va D.en Vc) D.en (D.es.map I)) := ownV
               have HD2 : Hid (w2.ownsRow W.heap.size 82 5 (.slice (some ⟨g, 0, none⟩) n ec) n vs) := owns_below (owns_below HD.out HB1.out (Nat.le_refl _)) hb2' (Nat.le_refl _)
               have XB2 : Hid (Box w2 b #[.slice va m vc, .slice (some ⟨g, 0, none⟩) n ec] 46) := XB1.out.below hb2' XB1.out.lt
               have XD2 : Hid (Box w2 bd (DescC D.sq D.st eA D.en eC D.cd rA D.rn rC) 82) := HBD.out ▸ XD.out.below hb2' XD.out.lt
               have zg := HD2.out.frozenAt (k * 5 + 2)
               obtain ⟨ug, hug⟩ : ∃ u, w2.cell? ⟨g, k * 5 + 2, none⟩ = some u := ⟨_, own_cellV HD2.out (List.getElem?_eq_getElem (by omega))⟩
               have K1 : Hid (w2.cell? ⟨b, 1, none⟩ = some (.slice (some ⟨g, 0, none⟩) n ec) ∧ w2.cell? ⟨bd, 2, none⟩ = some (.slice eA D.en eC)) := ⟨XB2.out.two.2.1, XD2.out.desc.2.2.1⟩
               have XB3 : Hid (Box (w2.setCell ⟨g, k * 5 + 2, none⟩ (.slice Va D.en Vc)) b #[.slice va m vc, .slice (some ⟨g, 0, none⟩) n ec] 46) := XB2.out.set hbg _
               have XD3 : Hid (Box (w2.setCell ⟨g, k * 5 + 2, none⟩ (.slice Va D.en Vc)) bd (DescC D.sq D.st eA D.en eC D.cd rA D.rn rC) 82) := XD2.out.set hbdg _
               have K2 : Hid ((w2.setCell ⟨g, k * 5 + 2, none⟩ (.slice Va D.en Vc)).cell? ⟨b, 1, none⟩ = some (.slice (some ⟨g, 0, none⟩) n ec) ∧ (w2.setCell ⟨g, k * 5 + 2, none⟩ (.slice Va D.en Vc)).cell? ⟨bd, 2, none⟩ = some (.slice eA D.en eC)) := ⟨XB3.out.two.2.1, XD3.out.desc.2.2.1⟩
               clear ownV hb2 hb2'))
          obtain ⟨w3, hw3⟩ : ∃ w3, w2.setCell ⟨g, k * 5 + 2, none⟩ (.slice Va D.en Vc) = w3 := ⟨_, rfl⟩
          have HW3 : Hid (w2.setCell ⟨g, k * 5 + 2, none⟩ (.slice Va D.en Vc) = w3) := hw3
          rw [hw3] at XB3 XD3
          have s3 : w3.heap.size = w2.heap.size := by rw [← hw3, size_setCell]
          have OD3 : Hid (w3.ownsRow W.heap.size 82 5 (.slice (some ⟨g, 0, none⟩) n ec) n (vs.set (k * 5 + 2) (.slice Va D.en Vc))) := by rw [← hw3]; exact (HD2.out.stored (k * 5 + 2) _).1
          have T3 : Hid (IntAt w3 rA D.rn D.rs) := by
            have h7 : IntAt w2 rA D.rn D.rs := T1.out.2.below HB2.out (Nat.le_refl _)
            rw [← hw3]
            exact int_far h7 (fun p e hp => by have := H2b.out p e hp; omega)
          have K3 : Hid (w3.drew.cell? ⟨b, 1, none⟩ = some (.slice (some ⟨g, 0, none⟩) n ec) ∧ w3.drew.cell? ⟨bd, 3, none⟩ = some (.int .i64 D.cd) ∧ w3.drew.cell? ⟨bd, 4, none⟩ = some (.slice rA D.rn rC)) := ⟨XB3.out.two.2.1, XD3.out.desc.2.2.2.1, XD3.out.desc.2.2.2.2.1⟩
          clear K0 K1 K2 zg hug hw3
          go_wp2_with fail
          rw [HW3.out]
          go_region_held3 (fun w' => w'.cell? ⟨b, 1, none⟩ = some (.slice (some ⟨g, 0, none⟩) n ec) ∧ w'.cell? ⟨bd, 3, none⟩ = some (.int .i64 D.cd) ∧ w'.cell? ⟨bd, 4, none⟩ = some (.slice rA D.rn rC))
            (first | (with_reducible exact K5.out) | (with_reducible exact K4.out) | (with_reducible exact K3.out) | go_keep)
            (first
            | (go_at_call 75
               refine (resAnew_o D.cd rA D.rn rC D.rs _ (T3.out.below (Below.refl w3.heap.size w3).drew (Nat.le_refl _)) NE.out.2).mono ?_
               rintro e w4 ⟨U, rfl, ownU, hb4⟩
               have hb4' : Below w3.heap.size w3 w4 := (Below.refl w3.heap.size w3).drew.trans hb4
               have HB4 : Hid (Below w3.heap.size w3 w4) := hb4'
               obtain ⟨Ua, Uc, rfl, _⟩ := owns_slice ownU
               have OU : Hid (w4.ownsRow w3.heap.size 3 1 (.slice Ua D.rn Uc) D.rn (D.rs.map I)) := ownU
               have HD4 : Hid (w4.ownsRow W.heap.size 82 5 (.slice (some ⟨g, 0, none⟩) n ec) n (vs.set (k * 5 + 2) (.slice Va D.en Vc))) := owns_below OD3.out hb4' (Nat.le_refl _)
               have XB4 : Hid (Box w4 b #[.slice va m vc, .slice (some ⟨g, 0, none⟩) n ec] 46) := XB3.out.below hb4' XB3.out.lt
               have XD4 : Hid (Box w4 bd (DescC D.sq D.st eA D.en eC D.cd rA D.rn rC) 82) := XD3.out.below hb4' XD3.out.lt
               have zg3 := HD4.out.frozenAt (k * 5 + 3)
               have zg4 := HD4.out.frozenAt (k * 5 + 4)
               obtain ⟨ug3, hug3⟩ : ∃ u, w4.cell? ⟨g, k * 5 + 3, none⟩ = some u := ⟨_, own_cellV HD4.out (List.getElem?_eq_getElem (by simp; omega))⟩
               obtain ⟨ug4, hug4⟩ : ∃ u, w4.cell? ⟨g, k * 5 + 4, none⟩ = some u := ⟨_, own_cellV HD4.out (List.getElem?_eq_getElem (by simp; omega))⟩
               have K4 : Hid (w4.cell? ⟨b, 1, none⟩ = some (.slice (some ⟨g, 0, none⟩) n ec) ∧ w4.cell? ⟨bd, 3, none⟩ = some (.int .i64 D.cd) ∧ w4.cell? ⟨bd, 4, none⟩ = some (.slice rA D.rn rC)) := ⟨XB4.out.two.2.1, XD4.out.desc.2.2.2.1, XD4.out.desc.2.2.2.2.1⟩
               have XB5 := (XB4.out.set (q := ⟨g, k * 5 + 3, none⟩) hbg (.int .i64 D.cd)).set (q := ⟨g, k * 5 + 4, none⟩) hbg (.slice Ua D.rn Uc)
               have XD5 := (XD4.out.set (q := ⟨g, k * 5 + 3, none⟩) hbdg (.int .i64 D.cd)).set (q := ⟨g, k * 5 + 4, none⟩) hbdg (.slice Ua D.rn Uc)
               have K5 : Hid (((w4.setCell ⟨g, k * 5 + 3, none⟩ (.int .i64 D.cd)).setCell ⟨g, k * 5 + 4, none⟩ (.slice Ua D.rn Uc)).cell? ⟨b, 1, none⟩ = some (.slice (some ⟨g, 0, none⟩) n ec) ∧ ((w4.setCell ⟨g, k * 5 + 3, none⟩ (.int .i64 D.cd)).setCell ⟨g, k * 5 + 4, none⟩ (.slice Ua D.rn Uc)).cell? ⟨bd, 3, none⟩ = some (.int .i64 D.cd) ∧ ((w4.setCell ⟨g, k * 5 + 3, none⟩ (.int .i64 D.cd)).setCell ⟨g, k * 5 + 4, none⟩ (.slice Ua D.rn Uc)).cell? ⟨bd, 4, none⟩ = some (.slice rA D.rn rC)) := ⟨XB5.two.2.1, XD5.desc.2.2.2.1, XD5.desc.2.2.2.2.1⟩
               clear ownU hb4 hb4' XB5 XD5))
          have NX : Hid (AnewSt W W.heap.size b (extF F k (.slice Va D.en Vc) (.slice Ua D.rn Uc)) m fs n ds (k + 1) ((w4.setCell ⟨g, k * 5 + 3, none⟩ (I D.cd)).setCell ⟨g, k * 5 + 4, none⟩ (.slice Ua D.rn Uc))) := by
            have hV := OV.out
            have hU := OU.out
            rw [s3] at hU
            have h4 := HB4.out
            rw [s3, ← HW3.out] at h4
            have e := HDk.out
            rw [← e] at hV hU h4 ⊢
            exact ST.out.next hlt HF1.out HB1.out HB2.out hV h4 hU
          have NF : Hid (extF F k (.slice Va D.en Vc) (.slice Ua D.rn Uc) 0 = .slice va m vc ∧ extF F k (.slice Va D.en Vc) (.slice Ua D.rn Uc) 1 = .slice (some ⟨g, 0, none⟩) n ec) := ⟨by rw [extF_old (by omega)]; exact HF0.out, by rw [extF_old (by omega)]; exact HF1.out⟩
          clear K3 K4 K5 zg3 zg4 hug3 hug4
          go_wp2
          exact ⟨⟨k + 1, by omega, by go_num, _, NF.out.1, NF.out.2, NX.out⟩, by simp [intOf]; omega⟩
        · obtain rfl : k = n := by omega
          have MO : Hid (MemO wr W.heap.size F m fs k ds) := ST.out.done HL.out
          have hW2 := HSZ.out
          obtain ⟨y0, y1, _, _⟩ := XB.out.two
          have RR : Hid (Box wr (w.heap.size + 1) #[.slice none 0 0, .slice none 0 0] 46) := R0.out.below ST.out.bel (by omega)
          obtain ⟨r0, r1, z0, z1⟩ := RR.out.two
          obtain ⟨e0, e1, _, _⟩ := ((RR.out.put 0 (.slice va m vc)).put 1 (.slice ea k ec)).two
          go_wp2
          (try simp only [Exit.inBlock, Exit.then])
          refine bodyPost_ret (by simp [results, Try.results64, go_sem, e0, e1]; try rfl) rfl ?_
          refine ⟨F, by rw [MemF, HF0.out, HF1.out], ?_, ((HB0.out.trans (ST.out.bel.mono HB0.out.size)).setCell (by simp) _).setCell (by simp) _⟩
          refine (MO.out.heap fun a ha b' hb' => ?_).weaken HB0.out.size
          have h1 := (MO.out.blk a ha b' hb').1
          rw [Below.heap_setCell _ _ _ _ (show b' ≠ w.heap.size + 1 by omega), Below.heap_setCell _ _ _ _ (show b' ≠ w.heap.size + 1 by omega)]
    all_goals exact h.elim
end Go.Proofs.Ytbdfopokimpeiaq
