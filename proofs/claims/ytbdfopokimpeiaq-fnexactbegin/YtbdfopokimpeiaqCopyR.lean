/- spec.l6Res, spec.l6Desc: copied, with memory of their own (of lists that are there). -/
import Derived.Test.YtbdfopokimpeiaqAnewM
namespace Go.Proofs.Ytbdfopokimpeiaq
open Go.ChangeShapes Go.WideShapes Go.ChangeAt Go.RowKit Go.Joins

theorem own_emptyD {w : World} {base : Nat} {T : TypeId} {size : Nat} (hb : base ≤ w.heap.size) : (w.alloc (.cells #[] T)).drew.ownsRow base T size (.slice (some ⟨w.heap.size, 0, none⟩) 0 0) 0 [] := own_emptyT hb
theorem own_ge {g n c k : Nat} (e : (Value.slice (some ⟨g, 0, none⟩) n c).ownBlock = some k) : g ≤ k := by
  have h1 : g = k := by simpa [Value.ownBlock] using e
  omega
noncomputable def l6ResL : List Oper := match Try.f70.body with
  | some (.seq _ (.seq (.region _ ops _) _)) => ops.toList
  | _ => []
noncomputable def l6DescL : List Oper := match Try.f100.body with
  | some (.seq _ (.seq (.region _ ops _) _)) => ops.toList
  | _ => []
set_option maxHeartbeats 2000000 in
set_option maxRecDepth 100000 in
theorem l6Res_o (code : Int) (ad : Addr) (n c : Nat) (rs : List Int) (w : World) (h : IntAt w (some ad) n rs) (hn : n ≤ 1048576) :
    Calls Try.prog 70 #[ResV code (some ad) n c] w fun e w' => ∃ v, e = .returned (.agg #[.int .i64 code, v]) ∧ w'.ownsRow w.heap.size 3 1 v n (rs.map I) ∧ Below w.heap.size w w' := by
  obtain ⟨i0, hi0, hz0, hz1, hz2⟩ := info_parts infoInt
  obtain ⟨W, hW⟩ : ∃ W, ((w.alloc (.cells #[.int .i64 code, .slice (some ad) n c] 68)).alloc (.cells #[.int .i64 0, .slice none 0 0] 68)) = W := ⟨_, rfl⟩
  have hb0 : Below w.heap.size w W := by rw [← hW]; exact ((Below.refl _ w).alloc (Nat.le_refl _) _).alloc (by simp) _
  have hsz : W.heap.size = w.heap.size + 2 := by rw [← hW]; simp
  have HSZ : Hid (W.heap.size = w.heap.size + 2) := hsz
  have X0 : Hid (Box W w.heap.size #[.int .i64 code, .slice (some ad) n c] 68) := by rw [← hW]; exact (box_of w _ _).alloc _
  have R0 : Hid (Box W (w.heap.size + 1) #[.int .i64 0, .slice none 0 0] 68) := by
    have := box_of (w.alloc (.cells #[.int .i64 code, .slice (some ad) n c] 68)) #[.int .i64 0, .slice none 0 0] 68
    rw [hW] at this
    show Box _ _ _ _
    simpa using this
  have HA : Hid (IntAt W (some ad) n rs) := h.below hb0 (Nat.le_refl _)
  have HB0 : Hid (Below w.heap.size w W) := hb0
  have HW : Hid (((w.alloc (.cells #[.int .i64 code, .slice (some ad) n c] 68)).alloc (.cells #[.int .i64 0, .slice none 0 0] 68)) = W) := hW
  have BOX : Hid (∀ w', Below W.heap.size W w' → w'.cell? ⟨w.heap.size, 0, none⟩ = some (.int .i64 code) ∧ w'.cell? ⟨w.heap.size, 1, none⟩ = some (.slice (some ad) n c)) := fun w' hb => ⟨(X0.out.below hb X0.out.lt).two.1, (X0.out.below hb X0.out.lt).two.2.1⟩
  have SRC : Hid ((rs.map I).length = n * 1 ∧ ∀ j u, (rs.map I)[j]? = some u → (W.alloc (.cells #[] 3)).cell? (ad.add j) = some u) := ⟨by rw [List.length_map, HA.out.1]; omega, fun j u hj => int_cell HA.out hj⟩
  clear h hW hb0 hsz
  go_enter Try.func70, Try.ntmps70
  go_wp2_with fail
  rw [HW.out]
  change (Code.region _ (List.toArray l6ResL) true).wp _ _ _ _
  refine wp_region_held_drew (S := fun w' => w'.cell? ⟨w.heap.size, 0, none⟩ = some (.int .i64 code) ∧ w'.cell? ⟨w.heap.size, 1, none⟩ = some (.slice (some ad) n c)) (by kernel_rfl) ?_ (fun hHeld => ?_)
  · exact BOX.out _ (Below.refl _ _).drew
  refine wpAnyH_take (i := 0) (oi := _) (v := .pointer (some ⟨w.heap.size, 0, none⟩)) (by rw [List.getElem?_toArray]; exact rfl) (by kernel_rfl) (by kernel_rfl) (by kernel_rfl) (by intro _ _ _ h; exact h) (Or.inl ⟨by kernel_rfl, ?_⟩) hHeld ?_
  · intro w hSw; obtain ⟨s1, s2⟩ := hSw; go_simp
  (try simp only [Act.put, List.setIfInBounds_toArray, List.set_cons_zero, List.set_cons_succ])
  refine wpAnyH_take (i := 1) (oi := _) (v := .int .i64 code) (by rw [List.getElem?_toArray]; exact rfl) (by kernel_rfl) (by kernel_rfl) (by kernel_rfl) (by intro _ _ _ h; exact h) (Or.inl ⟨by kernel_rfl, ?_⟩) hHeld ?_
  · intro w hSw; obtain ⟨s1, s2⟩ := hSw; go_simp
  (try simp only [Act.put, List.setIfInBounds_toArray, List.set_cons_zero, List.set_cons_succ])
  refine wpAnyH_take (i := 3) (oi := _) (v := .pointer (some ⟨w.heap.size, 1, none⟩)) (by rw [List.getElem?_toArray]; exact rfl) (by kernel_rfl) (by kernel_rfl) (by kernel_rfl) (by intro _ _ _ h; exact h) (Or.inl ⟨by kernel_rfl, ?_⟩) hHeld ?_
  · intro w hSw; obtain ⟨s1, s2⟩ := hSw; go_simp
  (try simp only [Act.put, List.setIfInBounds_toArray, List.set_cons_zero, List.set_cons_succ])
  refine wpAnyH_take (i := 4) (oi := _) (v := .slice (some ad) n c) (by rw [List.getElem?_toArray]; exact rfl) (by kernel_rfl) (by kernel_rfl) (by kernel_rfl) (by intro _ _ _ h; exact h) (Or.inl ⟨by kernel_rfl, ?_⟩) hHeld ?_
  · intro w hSw; obtain ⟨s1, s2⟩ := hSw; go_simp
  (try simp only [Act.put, List.setIfInBounds_toArray, List.set_cons_zero, List.set_cons_succ])
  refine wpAnyH_ready (rs := [2]) (by kernel_rfl) (by simp) ?_
  refine AllReadyH.cons (o := _) (by rw [List.getElem?_toArray]; exact rfl) (fun K hK => ?_) AllReadyH.nil
  rw [if_pos (by kernel_rfl)]
  go_simp
  have hBa : Below W.heap.size W (W.alloc (.cells #[] 3)).drew := ((Below.refl W.heap.size W).alloc (Nat.le_refl _) _).drew
  refine hK.out _ _ (BOX.out _ hBa) (fun hHeld => ?_)
  clear hK K
  (try simp only [Act.put, List.setIfInBounds_toArray, List.set_cons_zero, List.set_cons_succ])
  refine wpAnyH_ready (rs := [5]) (by kernel_rfl) (by simp) ?_
  refine AllReadyH.cons (o := _) (by rw [List.getElem?_toArray]; exact rfl) (fun K hK => ?_) AllReadyH.nil
  refine step_append_own _ (by rfl) _ _ 34 (by rfl) W.heap.size 3 i0 (.int .i64 0) 1 8 Try.underlying34 hi0 hz0 hz1 hz2 (by rfl) (by decide) (.slice (some ⟨W.heap.size, 0, none⟩) 0 0) 0 [] (by rfl) (own_emptyD (Nat.le_refl _)) ad n c (rs.map I) (by rfl) SRC.out.1 SRC.out.2 news_one (by unfold maxLen; omega) (by omega) (by show W.heap.size ≤ (W.alloc _).heap.size; simp) ?_
  intro v' w2 own2 grow2 _
  rw [Nat.zero_add, List.nil_append] at own2
  have hB2 : Below W.heap.size W w2 := hBa.grown grow2 (by show W.heap.size ≤ (W.alloc _).heap.size; simp) (fun k e => own_ge e)
  obtain ⟨va, vc, rfl, _⟩ := owns_slice own2
  refine hK.out _ _ (BOX.out _ hB2) (fun hHeld => ?_)
  clear hK K
  (try simp only [Act.put, List.setIfInBounds_toArray, List.set_cons_zero, List.set_cons_succ])
  refine wpAnyH_take (i := 6) (oi := _) (v := .agg #[.int .i64 code, .slice va n vc]) (by rw [List.getElem?_toArray]; exact rfl) (by kernel_rfl) (by kernel_rfl) (by kernel_rfl) (by intro _ _ _ h; exact h) (Or.inl ⟨by kernel_rfl, ?_⟩) hHeld ?_
  · intro w hSw; go_simp
  (try simp only [Act.put, List.setIfInBounds_toArray, List.set_cons_zero, List.set_cons_succ])
  obtain ⟨r0, r1, z0, z1⟩ := (R0.out.below hB2 R0.out.lt).two
  refine wpAnyH_ready (rs := [7]) (by kernel_rfl) (by simp) ?_
  refine AllReadyH.cons (o := _) (by rw [List.getElem?_toArray]; exact rfl) (fun K hK => ?_) AllReadyH.nil
  rw [if_pos (by kernel_rfl)]
  go_simp
  refine hK.out _ _ ?_ (fun hHeld => ?_)
  · exact ⟨((((X0.out.below hB2 X0.out.lt).set (q := ⟨w.heap.size + 1, 0, none⟩) (show w.heap.size ≠ w.heap.size + 1 by omega) _).set (q := ⟨w.heap.size + 1, 1, none⟩) (show w.heap.size ≠ w.heap.size + 1 by omega) _).two).1, ((((X0.out.below hB2 X0.out.lt).set (q := ⟨w.heap.size + 1, 0, none⟩) (show w.heap.size ≠ w.heap.size + 1 by omega) _).set (q := ⟨w.heap.size + 1, 1, none⟩) (show w.heap.size ≠ w.heap.size + 1 by omega) _).two).2.1⟩
  clear hK K
  (try simp only [Act.put, List.setIfInBounds_toArray, List.set_cons_zero, List.set_cons_succ])
  refine wpAnyH_done (by kernel_rfl) ?_ _
  obtain ⟨e0, e1, _, _⟩ := (((R0.out.below hB2 R0.out.lt).put 0 (.int .i64 code)).put 1 (.slice va n vc)).two
  go_wp2
  (try simp only [Exit.inBlock, Exit.then])
  refine bodyPost_ret (by simp [results, Try.results70, go_sem, e0, e1]; try rfl) rfl ?_
  have hs := HSZ.out
  have hwb : (Value.slice va n vc).ownBlock ≠ some (w.heap.size + 1) := fun e => by have := (own2.lt _ e).1; omega
  exact ⟨.slice va n vc, rfl, own_setCell_far (own_setCell_far (own_weaken own2 HB0.out.size) hwb _) hwb _, ((HB0.out.trans (hB2.mono HB0.out.size)).setCell (by simp) _).setCell (by simp) _⟩
set_option maxHeartbeats 4000000 in
set_option maxRecDepth 100000 in
theorem l6Desc_o (sq st : Int) (ea : Addr) (en ec : Nat) (es : List Int) (cd : Int) (ra : Addr) (rn rc : Nat) (rs : List Int) (w : World) (h1 : TripAt w (some ea) en es) (h2 : IntAt w (some ra) rn rs) (hr : rn ≤ 1048576) :
    Calls Try.prog 100 #[DescV sq st (some ea) en ec cd (some ra) rn rc] w fun e w' => ∃ Va Vc Ua Uc mid, e = .returned (DescV sq st Va en Vc cd Ua rn Uc) ∧ w'.ownsRow w.heap.size 84 3 (.slice Va en Vc) en (es.map I) ∧ w'.ownsRow w.heap.size 3 1 (.slice Ua rn Uc) rn (rs.map I) ∧ (w.heap.size ≤ mid ∧ (∀ b, (Value.slice Va en Vc).ownBlock = some b → w.heap.size ≤ b ∧ b < mid) ∧ ∀ b, (Value.slice Ua rn Uc).ownBlock = some b → mid ≤ b) ∧ Below w.heap.size w w' := by
  obtain ⟨i0, hi0, hz0, hz1, hz2⟩ := info_parts infoEntry
  have hen := h1.2.1
  obtain ⟨W, hW⟩ : ∃ W, ((w.alloc (.cells (DescC sq st (some ea) en ec cd (some ra) rn rc) 82)).alloc (.cells (DescC 0 0 none 0 0 0 none 0 0) 82)) = W := ⟨_, rfl⟩
  have hb0 : Below w.heap.size w W := by rw [← hW]; exact ((Below.refl _ w).alloc (Nat.le_refl _) _).alloc (by simp) _
  have hsz : W.heap.size = w.heap.size + 2 := by rw [← hW]; simp
  have HSZ : Hid (W.heap.size = w.heap.size + 2) := hsz
  have X0 : Hid (Box W w.heap.size (DescC sq st (some ea) en ec cd (some ra) rn rc) 82) := by rw [← hW]; exact (box_of w _ _).alloc _
  have R0 : Hid (Box W (w.heap.size + 1) (DescC 0 0 none 0 0 0 none 0 0) 82) := by
    have := box_of (w.alloc (.cells (DescC sq st (some ea) en ec cd (some ra) rn rc) 82)) (DescC 0 0 none 0 0 0 none 0 0) 82
    rw [hW] at this
    show Box _ _ _ _
    simpa using this
  have H1 : Hid (TripAt W (some ea) en es) := h1.below hb0 (Nat.le_refl _)
  have H2 : Hid (IntAt W (some ra) rn rs) := h2.below hb0 (Nat.le_refl _)
  have HB0 : Hid (Below w.heap.size w W) := hb0
  have HW : Hid (((w.alloc (.cells (DescC sq st (some ea) en ec cd (some ra) rn rc) 82)).alloc (.cells (DescC 0 0 none 0 0 0 none 0 0) 82)) = W) := hW
  have BOX : Hid (∀ w', Below W.heap.size W w' → w'.cell? ⟨w.heap.size, 0, none⟩ = some (.int .i64 sq) ∧ w'.cell? ⟨w.heap.size, 1, none⟩ = some (.int .i64 st) ∧ w'.cell? ⟨w.heap.size, 2, none⟩ = some (.slice (some ea) en ec) ∧ w'.cell? ⟨w.heap.size, 3, none⟩ = some (.int .i64 cd) ∧ w'.cell? ⟨w.heap.size, 4, none⟩ = some (.slice (some ra) rn rc)) := fun w' hb => by
    obtain ⟨a0, a1, a2, a3, a4, _⟩ := (X0.out.below hb X0.out.lt).desc
    exact ⟨a0, a1, a2, a3, a4⟩
  have SRC : Hid ((es.map I).length = en * 3 ∧ ∀ j u, (es.map I)[j]? = some u → (W.alloc (.cells #[] 84)).cell? (ea.add j) = some u) := ⟨by rw [List.length_map]; exact H1.out.1, fun j u hj => trip_cell H1.out hj⟩
  clear h1 h2 hW hb0 hsz
  go_enter Try.func100, Try.ntmps100
  go_wp2_with fail
  rw [HW.out]
  change (Code.region _ (List.toArray l6DescL) true).wp _ _ _ _
  refine wp_region_held_drew (S := fun w' => w'.cell? ⟨w.heap.size, 0, none⟩ = some (.int .i64 sq) ∧ w'.cell? ⟨w.heap.size, 1, none⟩ = some (.int .i64 st) ∧ w'.cell? ⟨w.heap.size, 2, none⟩ = some (.slice (some ea) en ec) ∧ w'.cell? ⟨w.heap.size, 3, none⟩ = some (.int .i64 cd) ∧ w'.cell? ⟨w.heap.size, 4, none⟩ = some (.slice (some ra) rn rc)) (by kernel_rfl) ?_ (fun hHeld => ?_)
  · exact BOX.out _ (Below.refl _ _).drew
  refine wpAnyH_take (i := 0) (oi := _) (v := .pointer (some ⟨w.heap.size, 0, none⟩)) (by rw [List.getElem?_toArray]; exact rfl) (by kernel_rfl) (by kernel_rfl) (by kernel_rfl) (by intro _ _ _ h; exact h) (Or.inl ⟨by kernel_rfl, ?_⟩) hHeld ?_
  · intro w hSw; obtain ⟨s1, s2, s3, s4, s5⟩ := hSw; go_simp
  (try simp only [Act.put, List.setIfInBounds_toArray, List.set_cons_zero, List.set_cons_succ])
  refine wpAnyH_take (i := 1) (oi := _) (v := .int .i64 sq) (by rw [List.getElem?_toArray]; exact rfl) (by kernel_rfl) (by kernel_rfl) (by kernel_rfl) (by intro _ _ _ h; exact h) (Or.inl ⟨by kernel_rfl, ?_⟩) hHeld ?_
  · intro w hSw; obtain ⟨s1, s2, s3, s4, s5⟩ := hSw; go_simp
  (try simp only [Act.put, List.setIfInBounds_toArray, List.set_cons_zero, List.set_cons_succ])
  refine wpAnyH_take (i := 2) (oi := _) (v := .pointer (some ⟨w.heap.size, 1, none⟩)) (by rw [List.getElem?_toArray]; exact rfl) (by kernel_rfl) (by kernel_rfl) (by kernel_rfl) (by intro _ _ _ h; exact h) (Or.inl ⟨by kernel_rfl, ?_⟩) hHeld ?_
  · intro w hSw; obtain ⟨s1, s2, s3, s4, s5⟩ := hSw; go_simp
  (try simp only [Act.put, List.setIfInBounds_toArray, List.set_cons_zero, List.set_cons_succ])
  refine wpAnyH_take (i := 3) (oi := _) (v := .int .i64 st) (by rw [List.getElem?_toArray]; exact rfl) (by kernel_rfl) (by kernel_rfl) (by kernel_rfl) (by intro _ _ _ h; exact h) (Or.inl ⟨by kernel_rfl, ?_⟩) hHeld ?_
  · intro w hSw; obtain ⟨s1, s2, s3, s4, s5⟩ := hSw; go_simp
  (try simp only [Act.put, List.setIfInBounds_toArray, List.set_cons_zero, List.set_cons_succ])
  refine wpAnyH_take (i := 5) (oi := _) (v := .pointer (some ⟨w.heap.size, 2, none⟩)) (by rw [List.getElem?_toArray]; exact rfl) (by kernel_rfl) (by kernel_rfl) (by kernel_rfl) (by intro _ _ _ h; exact h) (Or.inl ⟨by kernel_rfl, ?_⟩) hHeld ?_
  · intro w hSw; obtain ⟨s1, s2, s3, s4, s5⟩ := hSw; go_simp
  (try simp only [Act.put, List.setIfInBounds_toArray, List.set_cons_zero, List.set_cons_succ])
  refine wpAnyH_take (i := 6) (oi := _) (v := .slice (some ea) en ec) (by rw [List.getElem?_toArray]; exact rfl) (by kernel_rfl) (by kernel_rfl) (by kernel_rfl) (by intro _ _ _ h; exact h) (Or.inl ⟨by kernel_rfl, ?_⟩) hHeld ?_
  · intro w hSw; obtain ⟨s1, s2, s3, s4, s5⟩ := hSw; go_simp
  (try simp only [Act.put, List.setIfInBounds_toArray, List.set_cons_zero, List.set_cons_succ])
  refine wpAnyH_take (i := 8) (oi := _) (v := .pointer (some ⟨w.heap.size, 3, none⟩)) (by rw [List.getElem?_toArray]; exact rfl) (by kernel_rfl) (by kernel_rfl) (by kernel_rfl) (by intro _ _ _ h; exact h) (Or.inl ⟨by kernel_rfl, ?_⟩) hHeld ?_
  · intro w hSw; obtain ⟨s1, s2, s3, s4, s5⟩ := hSw; go_simp
  (try simp only [Act.put, List.setIfInBounds_toArray, List.set_cons_zero, List.set_cons_succ])
  refine wpAnyH_take (i := 9) (oi := _) (v := ResV cd (some ra) rn rc) (by rw [List.getElem?_toArray]; exact rfl) (by kernel_rfl) (by kernel_rfl) (by kernel_rfl) (by intro _ _ _ h; exact h) (Or.inl ⟨by kernel_rfl, ?_⟩) hHeld ?_
  · intro w hSw; obtain ⟨s1, s2, s3, s4, s5⟩ := hSw; go_simp
  (try simp only [Act.put, List.setIfInBounds_toArray, List.set_cons_zero, List.set_cons_succ])
  refine wpAnyH_ready (rs := [4]) (by kernel_rfl) (by simp) ?_
  refine AllReadyH.cons (o := _) (by rw [List.getElem?_toArray]; exact rfl) (fun K hK => ?_) AllReadyH.nil
  rw [if_pos (by kernel_rfl)]
  go_simp
  have hBa : Below W.heap.size W (W.alloc (.cells #[] 84)).drew := ((Below.refl W.heap.size W).alloc (Nat.le_refl _) _).drew
  refine hK.out _ _ (BOX.out _ hBa) (fun hHeld => ?_)
  clear hK K
  (try simp only [Act.put, List.setIfInBounds_toArray, List.set_cons_zero, List.set_cons_succ])
  refine wpAnyH_ready (rs := [7]) (by kernel_rfl) (by simp) ?_
  refine AllReadyH.cons (o := _) (by rw [List.getElem?_toArray]; exact rfl) (fun K hK => ?_) AllReadyH.nil
  refine step_append_own _ (by rfl) _ _ 66 (by rfl) W.heap.size 84 i0 (.agg #[.int .i64 0, .int .i64 0, .int .i64 0]) 3 24 Try.underlying66 hi0 hz0 hz1 hz2 (by rfl) (by decide) (.slice (some ⟨W.heap.size, 0, none⟩) 0 0) 0 [] (by rfl) (own_emptyD (Nat.le_refl _)) ea en ec (es.map I) (by rfl) SRC.out.1 SRC.out.2 news3 (by unfold maxLen; omega) (by omega) (by show W.heap.size ≤ (W.alloc _).heap.size; simp) ?_
  intro v' w2 own2 grow2 _
  rw [Nat.zero_add, List.nil_append] at own2
  have hB2 : Below W.heap.size W w2 := hBa.grown grow2 (by show W.heap.size ≤ (W.alloc _).heap.size; simp) (fun k e => own_ge e)
  obtain ⟨Va, Vc, rfl, _⟩ := owns_slice own2
  refine hK.out _ _ (BOX.out _ hB2) (fun hHeld => ?_)
  clear hK K
  (try simp only [Act.put, List.setIfInBounds_toArray, List.set_cons_zero, List.set_cons_succ])
  refine wpAnyH_ready (rs := [10]) (by kernel_rfl) (by simp) ?_
  refine AllReadyH.cons (o := _) (by rw [List.getElem?_toArray]; exact rfl) (fun K hK => ?_) AllReadyH.nil
  rw [if_pos (by kernel_rfl)]
  go_simp
  refine (l6Res_o cd ra rn rc rs _ (H2.out.below hB2 (Nat.le_refl _)) hr).mono ?_
  rintro e w3 ⟨U, rfl, own3, hb3⟩
  obtain ⟨Ua, Uc, rfl, _⟩ := owns_slice own3
  have hB3 : Below W.heap.size W w3 := hB2.trans (hb3.mono hB2.size)
  refine hK.out _ _ (BOX.out _ hB3) (fun hHeld => ?_)
  clear hK K
  (try simp only [Act.put, List.setIfInBounds_toArray, List.set_cons_zero, List.set_cons_succ])
  refine wpAnyH_take (i := 11) (oi := _) (v := DescV sq st Va en Vc cd Ua rn Uc) (by rw [List.getElem?_toArray]; exact rfl) (by kernel_rfl) (by kernel_rfl) (by kernel_rfl) (by intro _ _ _ h; exact h) (Or.inl ⟨by kernel_rfl, ?_⟩) hHeld ?_
  · intro w hSw; go_simp
  (try simp only [Act.put, List.setIfInBounds_toArray, List.set_cons_zero, List.set_cons_succ])
  have RX := R0.out.below hB3 R0.out.lt
  obtain ⟨r0, r1, r2, r3, r4, z0, z1, z2, z3, z4⟩ := RX.desc
  refine wpAnyH_ready (rs := [12]) (by kernel_rfl) (by simp) ?_
  refine AllReadyH.cons (o := _) (by rw [List.getElem?_toArray]; exact rfl) (fun K hK => ?_) AllReadyH.nil
  rw [if_pos (by kernel_rfl)]
  go_simp
  refine hK.out _ _ ?_ (fun hHeld => ?_)
  · obtain ⟨a0, a1, a2, a3, a4, _⟩ := ((((((X0.out.below hB3 X0.out.lt).set (q := ⟨w.heap.size + 1, 0, none⟩) (show w.heap.size ≠ w.heap.size + 1 by omega) _).set (q := ⟨w.heap.size + 1, 1, none⟩) (show w.heap.size ≠ w.heap.size + 1 by omega) _).set (q := ⟨w.heap.size + 1, 2, none⟩) (show w.heap.size ≠ w.heap.size + 1 by omega) _).set (q := ⟨w.heap.size + 1, 3, none⟩) (show w.heap.size ≠ w.heap.size + 1 by omega) _).set (q := ⟨w.heap.size + 1, 4, none⟩) (show w.heap.size ≠ w.heap.size + 1 by omega) _).desc
    exact ⟨a0, a1, a2, a3, a4⟩
  clear hK K
  (try simp only [Act.put, List.setIfInBounds_toArray, List.set_cons_zero, List.set_cons_succ])
  refine wpAnyH_done (by kernel_rfl) ?_ _
  obtain ⟨e0, e1, e2, e3, e4, _⟩ := (((((RX.put 0 (.int .i64 sq)).put 1 (.int .i64 st)).put 2 (.slice Va en Vc)).put 3 (.int .i64 cd)).put 4 (.slice Ua rn Uc)).desc
  go_wp2
  (try simp only [Exit.inBlock, Exit.then])
  refine bodyPost_ret (by simp [results, Try.results100, go_sem, e0, e1, e2, e3, e4]; try rfl) rfl ?_
  have hs := HSZ.out
  have hs2 := hB2.size
  have nv : (Value.slice Va en Vc).ownBlock ≠ some (w.heap.size + 1) := fun e => by have := (own2.lt _ e).1; omega
  have nu : (Value.slice Ua rn Uc).ownBlock ≠ some (w.heap.size + 1) := fun e => by have := (own3.lt _ e).1; omega
  refine ⟨Va, Vc, Ua, Uc, w2.heap.size, rfl, ?_, ?_, ⟨by omega, fun b e => ⟨by have := (own2.lt b e).1; omega, (own2.lt b e).2⟩, fun b e => (own3.lt b e).1⟩, ?_⟩
  · exact own_setCell_far (own_setCell_far (own_setCell_far (own_setCell_far (own_setCell_far (own_weaken (owns_below own2 hb3 (Nat.le_refl _)) HB0.out.size) nv _) nv _) nv _) nv _) nv _
  · exact own_setCell_far (own_setCell_far (own_setCell_far (own_setCell_far (own_setCell_far (own_weaken own3 (by omega)) nu _) nu _) nu _) nu _) nu _
  · exact (((((HB0.out.trans (hB3.mono HB0.out.size)).setCell (by simp) _).setCell (by simp) _).setCell (by simp) _).setCell (by simp) _).setCell (by simp) _
end Go.Proofs.Ytbdfopokimpeiaq
