/- impl.tryOf, (*try).meansAt and impl.ValueAt, walked at any words, Descs and place. -/
import Derived.Test.YtenlapppaimkkaqSpecVal
import Derived.Test.YtenlapppaimkkaqCutAt
import Derived.Test.YtenlapppaimkkaqWithin
import Derived.Test.YtenlapppaimkkaqIsMark
import Derived.Test.YtenlapppaimkkaqCopy3
import Derived.Deep.RegionHeld3
namespace Go.Proofs.Ytenlapppaimkkaq
open Go.ChangeShapes Go.WideShapes Go.ChangeAt Go.RowKit

theorem own_block {w : World} {base : Nat} {e : TypeId} {size g n cap : Nat} {xs : List Value} (h : w.ownsRow base e size (.slice (some ⟨g, 0, none⟩) n cap) n xs) : ∃ cur, w.heap[g]? = some (.cells cur e (0, 0)) ∧ cur.size = cap * size := by
  rcases h.2 with ⟨h0, _⟩ | ⟨g', cap', cur, hv, _, hh, _, _, hs, _⟩
  · cases h0
  · cases hv
    exact ⟨cur, hh, hs⟩
theorem trip_src {w : World} {a : Option Addr} {n : Nat} {es : List Int} (h : TripAt w a n es) : n = 0 ∨ ∃ ad, a = some ad ∧ ∀ j v, (es.map I)[j]? = some v → w.cell? (ad.add j) = some v := by
  rcases h.2.2 with h0 | ⟨b, o, rfl, g⟩
  · exact .inl h0
  · refine .inr ⟨_, rfl, fun j v hj => ?_⟩
    have hl := h.1
    have hjl : j < es.length := by
      rcases Nat.lt_or_ge j es.length with h1 | h1
      · exact h1
      · rw [List.getElem?_eq_none (by simpa using h1)] at hj; cases hj
    rw [show (⟨b, o, none⟩ : Addr).add j = ⟨b, o + j, none⟩ by simp [Addr.add], g j (by omega)]
    rw [List.getElem?_map, List.getElem?_eq_getElem hjl] at hj
    simpa [List.getD, hjl] using hj
theorem trip_block {w : World} {g n : Nat} {t : TypeId} {es : List Int} (h : w.heap[g]? = some (.cells (es.map I).toArray t (0, 0))) (hl : es.length = n * 3) (hn : n ≤ 1048576) : TripAt w (some ⟨g, 0, none⟩) n es := by
  refine ⟨hl, hn, .inr ⟨g, 0, rfl, fun i hi => ?_⟩⟩
  simp [World.cell?, h, List.getD, show i < es.length by omega]
theorem news3 {es : List Int} : ∀ v ∈ es.map I, v.oneCell' = true := by
  intro u hu
  simp at hu
  obtain ⟨x, _, rfl⟩ := hu
  rfl
theorem size3 : (Try.prog.info? 64).map (·.size) = some 3 := by kernel_rfl
theorem tryOf_none (x t s : Int) (da : Option Addr) (dn dc : Nat) (w : World) (h : inB t 1 (dn : Int) = false) :
    Calls Try.prog 32 #[WordV x t s, .slice da dn dc] w fun e w' => e = .returned (.pointer none) ∧ Below w.heap.size w w' := by
  have HT : Hid (inB t 1 (dn : Int) = false) := h
  clear h
  go_enter Try.func32, Try.ntmps32
  go_wp2_with fail
  refine (within_g t 1 _ _).mono ?_
  rintro e w1 ⟨rfl, rfl⟩
  rw [HT.out]
  go_wp2
  go_ret
  exact ⟨rfl, (Below.refl _ w).alloc (Nat.le_refl _) _⟩
/-- The cells of a try. -/
abbrev TryC (sq : Int) (y : Bool) (g n : Nat) : Array Value := #[.int .i64 sq, .bool y, .slice (some ⟨g, 0, none⟩) n n]
set_option maxHeartbeats 2000000 in
set_option maxRecDepth 100000 in
theorem tryOf_some (x s : Int) (j : Nat) (b o dn dc : Nat) (d : DK) (ea : Option Addr) (ec : Nat) (ra : Option Addr) (rc : Nat) (w : World) (hj : j < dn) (hdn : dn ≤ 1048576) (h5 : Five w b (o + j * 5) d ea ec ra rc) (h6 : TripAt w ea d.en d.es) :
    Calls Try.prog 32 #[WordV x ((j : Int) + 1) s, .slice (some ⟨b, o, none⟩) dn dc] w fun e w' => ∃ t g : Nat, e = .returned (.pointer (some ⟨t, 0, none⟩)) ∧ Box w' t (TryC d.sq (d.st == 2) g d.en) 84 ∧ TripAt w' (some ⟨g, 0, none⟩) d.en d.es ∧ Below w.heap.size w w' := by
  obtain ⟨dsq, dst, den, des, dcd, drn, drs⟩ := d
  dsimp only at h6 ⊢
  obtain ⟨f0, f1, f2, f3, f4⟩ := h5
  dsimp only at f0 f1 f2 f3 f4
  have H6 : Hid (TripAt w ea den des) := h6
  have hen := h6.2.1
  have HL : Hid (des.length = den * 3) := h6.1
  have hq1 : b < w.heap.size := World.block_lt_of_cell? w _ f0
  have hj0 : (0 : Int) ≤ (j : Int) := by omega
  have hj1 : (j : Int) < (dn : Int) := by omega
  have HT : Hid (inB ((j : Int) + 1) 1 (dn : Int) = true) := inB_yes (by omega)
  have HB2 : Hid (Below w.heap.size w ((w.alloc (.cells #[.int .i64 x, .int .i64 ((j : Int) + 1), .int .i64 s] 58)).alloc (.cells (DescC dsq dst ea den ec dcd ra drn rc) 62))) := ((Below.refl _ w).alloc (Nat.le_refl _) _).alloc (by simp) _
  have Y0 : Hid (Box ((w.alloc (.cells #[.int .i64 x, .int .i64 ((j : Int) + 1), .int .i64 s] 58)).alloc (.cells (DescC dsq dst ea den ec dcd ra drn rc) 62)) (w.heap.size + 1) (DescC dsq dst ea den ec dcd ra drn rc) 62) := by
    have := box_of (w.alloc (.cells #[.int .i64 x, .int .i64 ((j : Int) + 1), .int .i64 s] 58)) (DescC dsq dst ea den ec dcd ra drn rc) 62
    simp at this
    exact this
  obtain ⟨i0, hi, hz0, hz1, hz2⟩ := info_parts infoEntry
  clear h6
  go_enter Try.func32, Try.ntmps32
  go_wp2_with fail
  refine (within_g _ 1 _ _).mono ?_
  rintro e w0 ⟨rfl, rfl⟩
  rw [HT.out]
  go_wp2_with (first
    | (at_make
       refine wpList_make_full _ rfl _ _ 59 rfl (w.heap.size + 1 + 1) 64 i0 (.agg #[.int .i64 0, .int .i64 0, .int .i64 0]) 3 Try.underlying59 hi hz0 hz1 .i64 .i64 _ _ den rfl rfl rfl rfl (by rw [hz2]; omega) (by unfold maxLen; omega) (by simp) ?_
       intro w1 own1 grow1
       have HB1' := HB2.out.grown grow1 (by simp; omega) (fun k e => by cases e)
       have HB1 : Hid (Below w.heap.size w w1) := HB1'
       have Y1 : Hid (Box w1 (w.heap.size + 1) (DescC dsq dst ea den ec dcd ra drn rc) 62) := Y0.out.below ((Below.refl (w.heap.size + 1 + 1) _).grown grow1 (by simp) (fun k e => by cases e)) (by omega)
       obtain ⟨cur, hcur, hsz⟩ := own_block own1
       simp only [World.size_alloc] at hcur
       obtain ⟨_, _, u2, _, _, _, _, _, _, _⟩ := Y1.out.desc
       clear own1 grow1 HB1'))
  obtain ⟨w2, hrun, hg2, hf2⟩ := run_copy3 (P := Try.prog) w1 59 59 3 64 (w.heap.size + 1 + 1) den den ea ec cur _ (des.map I) Try.underlying59 size3 hcur hsz (by rw [List.length_map]; exact HL.out) (trip_src (H6.out.below HB1.out (Nat.le_refl _))) news3
  rw [hrun]
  have T2 : Hid (TripAt w2 (some ⟨w.heap.size + 1 + 1, 0, none⟩) den des) := trip_block hg2 HL.out hen
  have BB : Hid (Below w.heap.size w w2) := hf2 _ _ HB1.out (by omega)
  have Y2 : Hid (Box w2 (w.heap.size + 1) (DescC dsq dst ea den ec dcd ra drn rc) 62) := Y1.out.below (hf2 (w.heap.size + 1 + 1) w1 (Below.refl _ _) (Nat.le_refl _)) (by omega)
  have hlt2 : w.heap.size + 1 < w2.heap.size := Y2.out.lt
  obtain ⟨y0, y1, y2, y3, y4, _, _, _, _, _⟩ := Y2.out.desc
  clear hcur hsz hrun hg2 hf2 HB1 Y1 Y0 HB2 u2
  go_wp2
  go_ret
  refine ⟨w2.heap.size, w.heap.size + 1 + 1, rfl, box_of w2 _ _, T2.out.below ((Below.refl w2.heap.size w2).alloc (Nat.le_refl _) _) (Nat.le_refl _), BB.out.alloc BB.out.size _⟩
set_option maxHeartbeats 2000000 in
theorem meansAt_nil (sq at_ : Int) (w : World) : Calls Try.prog 33 #[.pointer none, .int .i64 sq, .int .i64 at_] w fun e w' => e = .returned (.int .i64 0) ∧ Below w.heap.size w w' := by
  go_enter Try.func33, Try.ntmps33
  go_wp2
  go_ret
  exact ⟨rfl, Below.refl _ _⟩
theorem Box.try3 {w : World} {b : Nat} {T : TypeId} {sq : Int} {y : Bool} {g n : Nat} (h : Box w b (TryC sq y g n) T) :
    w.cell? ⟨b, 0, none⟩ = some (.int .i64 sq) ∧ w.cell? ⟨b, 1, none⟩ = some (.bool y) ∧ w.cell? ⟨b, 2, none⟩ = some (.slice (some ⟨g, 0, none⟩) n n) := ⟨h.cell 0, h.cell 1, h.cell 2⟩
set_option maxHeartbeats 2000000 in
theorem meansAt_some (t g : Nat) (dsq dst : Int) (en : Nat) (es : List Int) (sq at_ : Int) (w : World) (hbx : Box w t (TryC dsq (dst == 2) g en) 84) (h6 : TripAt w (some ⟨g, 0, none⟩) en es) :
    Calls Try.prog 33 #[.pointer (some ⟨t, 0, none⟩), .int .i64 sq, .int .i64 at_] w fun e w' => e = .returned (.int .i64 (if dsq = sq ∧ dst = 2 then (entM es en at_).2.2.1 else (entM es en at_).2.1)) ∧ Below w.heap.size w w' := by
  obtain ⟨V, hV⟩ : ∃ V, (if dsq = sq ∧ dst = 2 then (entM es en at_).2.2.1 else (entM es en at_).2.1) = V := ⟨_, rfl⟩
  rw [hV]
  have HV : Hid ((if dsq = sq ∧ dst = 2 then (entM es en at_).2.2.1 else (entM es en at_).2.1) = V) := hV
  have H6 : Hid (TripAt w (some ⟨g, 0, none⟩) en es) := h6
  have HX : Hid (Box w t (TryC dsq (dst == 2) g en) 84) := hbx
  obtain ⟨x0, x1, x2⟩ := hbx.try3
  have hen := h6.2.1
  clear hV h6 hbx
  by_cases hk : idxE es en at_ < en
  · obtain ⟨k, hK⟩ : ∃ k, idxE es en at_ = k := ⟨_, rfl⟩
    have HK : Hid (idxE es en at_ = k) := hK
    have hlt : k < en := hK ▸ hk
    rw [entM_yes hK hlt] at HV
    clear hk hK
    go_enter Try.func33, Try.ntmps33
    go_wp2_with fail
    refine (cutAt_some at_ g 0 en en k es _ H6.out (Nat.le_refl _) HK.out hlt).mono ?_
    rintro e w1 ⟨rfl, hb1⟩
    have HB : Hid (Below w.heap.size w w1) := hb1
    obtain ⟨y0, y1, y2⟩ := (HX.out.below hb1 HX.out.lt).try3
    rcases (H6.out.below hb1 (Nat.le_refl _)).2.2 with h0 | ⟨p1, o1, e0, g1⟩
    · omega
    cases e0
    have e1 := g1 (k * 3) (by omega)
    have e2 := g1 (k * 3 + 1) (by omega)
    have e3 := g1 (k * 3 + 2) (by omega)
    obtain ⟨x, hx⟩ : ∃ x, es.getD (k * 3) 0 = x := ⟨_, rfl⟩
    obtain ⟨y, hy⟩ : ∃ y, es.getD (k * 3 + 1) 0 = y := ⟨_, rfl⟩
    obtain ⟨z, hz⟩ : ∃ z, es.getD (k * 3 + 2) 0 = z := ⟨_, rfl⟩
    rw [hy, hz] at HV
    rw [hx] at e1
    rw [hy, ← Nat.add_assoc] at e2
    rw [hz, ← Nat.add_assoc] at e3
    simp only [Nat.zero_add] at e1 e2 e3
    clear g1 hx hy hz hb1 x0 x1 x2
    by_cases hst : dst = 2
    · have hst' : (dst == 2) = true := by simpa using hst
      rw [hst'] at y1
      by_cases hsq : dsq = sq
      · have hsq' : (dsq == sq) = true := by simpa using hsq
        obtain rfl : V = z := by rw [← HV.out, if_pos ⟨hsq, hst⟩]
        clear hst hsq HV hst'
        go_wp2
        go_ret
        exact ⟨rfl, HB.out⟩
      · have hsq' : (dsq == sq) = false := by simpa using hsq
        obtain rfl : V = y := by rw [← HV.out, if_neg (fun h => hsq h.1)]
        clear hst hsq HV hst'
        go_wp2
        go_ret
        exact ⟨rfl, HB.out⟩
    · have hst' : (dst == 2) = false := by simpa using hst
      rw [hst'] at y1
      obtain rfl : V = y := by rw [← HV.out, if_neg (fun h => hst h.2)]
      clear hst HV hst'
      go_wp2
      go_ret
      exact ⟨rfl, HB.out⟩
  · have HK : Hid (¬ idxE es en at_ < en) := hk
    obtain rfl : V = 0 := by rw [← HV.out]; unfold entM; rw [if_neg hk]; simp
    clear hk HV
    go_enter Try.func33, Try.ntmps33
    go_wp2_with fail
    refine (cutAt_none at_ _ en en es _ H6.out HK.out).mono ?_
    rintro e w1 ⟨rfl, hb1⟩
    have HB : Hid (Below w.heap.size w w1) := hb1
    clear hb1
    go_wp2
    go_ret
    exact ⟨rfl, HB.out⟩
end Go.Proofs.Ytenlapppaimkkaq
