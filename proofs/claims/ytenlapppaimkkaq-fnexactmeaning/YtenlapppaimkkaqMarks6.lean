/- The laws' own marking of words, entries and Descs: what is laid is not told, only where. -/
import Derived.Test.YtenlapppaimkkaqDescs2
import Derived.Test.YtenlapppaimkkaqWrds
namespace Go.Proofs.Ytenlapppaimkkaq
open Go.ChangeShapes Go.WideShapes Go.ChangeAt Go.RowKit Go.Joins

theorem owns_same {w w' : World} {base : Nat} {e : TypeId} {size g n cap : Nat} {xs : List Value} (h : w.ownsRow base e size (.slice (some ⟨g, 0, none⟩) n cap) n xs) (he : w'.heap[g]? = w.heap[g]?) : w'.ownsRow base e size (.slice (some ⟨g, 0, none⟩) n cap) n xs := by
  refine ⟨h.1, ?_⟩
  rcases h.2 with h2 | ⟨g', cap', cur, hv, hg, hh, r⟩
  · exact .inl h2
  · cases hv
    exact .inr ⟨g, cap, cur, rfl, hg, by rw [he]; exact hh, r⟩
/-- Only block g has changed, and nothing was made. -/
structure OnlyB (g : Nat) (w w' : World) : Prop where
  bel : Below g w w'
  size : w'.heap.size = w.heap.size
  oth : ∀ k, k ≠ g → w'.heap[k]? = w.heap[k]?
theorem OnlyB.refl (g : Nat) (w : World) : OnlyB g w w := ⟨Below.refl _ _, rfl, fun _ _ => rfl⟩
theorem OnlyB.set {g : Nat} {w w' : World} (h : OnlyB g w w') (j : Nat) (u : Value) : OnlyB g w (w'.setCell ⟨g, j, none⟩ u) :=
  ⟨h.bel.setCell (Nat.le_refl _) _, by rw [size_setCell]; exact h.size, fun k hk => (Below.heap_setCell _ _ _ _ hk).trans (h.oth k hk)⟩
section
variable (T : TypeId)
theorem own_set3 {w : World} {g n : Nat} {zs : List Int} (h : w.ownsRow g T 3 (SL g n) n (zs.map I)) (j : Nat) (a b c : Int) :
    (((w.setCell ⟨g, j * 3, none⟩ (I a)).setCell ⟨g, j * 3 + 1, none⟩ (I b)).setCell ⟨g, j * 3 + 2, none⟩ (I c)).ownsRow g T 3 (SL g n) n ((((zs.set (j * 3) a).set (j * 3 + 1) b).set (j * 3 + 2) c).map I) := by
  have h1 := (((h.stored (j * 3) (I a)).1.stored (j * 3 + 1) (I b)).1.stored (j * 3 + 2) (I c)).1
  rw [← List.map_set, ← List.map_set, ← List.map_set] at h1
  exact h1
end
set_option maxHeartbeats 1000000 in
theorem markWordS_from (g n : Nat) (k0 : Int) (zs0 : List Int) (w : World) (hn : n ≤ 1048576) (hk0 : 0 ≤ k0) (hk1 : k0 ≤ 4611686018427387904) (hown : w.ownsRow g 58 3 (SL g n) n (zs0.map I)) :
    Calls Try.prog 17 #[SL g n, .int .i64 k0] w fun e w' => e = .returned (.int .i64 (k0 + (n : Int) * 3)) ∧ OnlyB g w w' := by
  go_enter Try.func17, Try.ntmps17
  go_wp2
  go_loopw [1, 5] (fun q i wr => ∃ j : Nat, j ≤ n ∧ q = .int .i64 (k0 + (j : Int) * 3) ∧ i = .int .i64 (j : Int) ∧ (∃ zs : List Int, wr.ownsRow g 58 3 (SL g n) n (zs.map I)) ∧ OnlyB g w wr) (fun _ i _ => n - (intOf i).toNat)
  case atStart => exact ⟨0, Nat.zero_le _, by simp, rfl, ⟨zs0, hown⟩, OnlyB.refl _ _⟩
  case round =>
    obtain ⟨j, hj, rfl, rfl, ⟨zs, ho⟩, hob⟩ := hrel
    have HOB : Hid (OnlyB g w wr) := hob
    clear hown hob
    by_cases hlt : j < n
    · have hj0 : (0 : Int) ≤ (j : Int) := by omega
      have hj1 : (j : Int) < (n : Int) := by omega
      have z0 := ho.frozenAt (j * 3)
      have z1 := ho.frozenAt (j * 3 + 1)
      have z2 := ho.frozenAt (j * 3 + 2)
      have hl : (zs.map I).length = n * 3 := ho.1
      obtain ⟨u0, hu0⟩ : ∃ u, wr.cell? ⟨g, j * 3, none⟩ = some u := ⟨_, own_cellV ho (List.getElem?_eq_getElem (by omega))⟩
      obtain ⟨u1, hu1⟩ : ∃ u, wr.cell? ⟨g, j * 3 + 1, none⟩ = some u := ⟨_, own_cellV ho (List.getElem?_eq_getElem (by omega))⟩
      obtain ⟨u2, hu2⟩ : ∃ u, wr.cell? ⟨g, j * 3 + 2, none⟩ = some u := ⟨_, own_cellV ho (List.getElem?_eq_getElem (by omega))⟩
      obtain ⟨q, hq⟩ : ∃ q : Int, k0 + (j : Int) * 3 = q := ⟨_, rfl⟩
      have HQ : Hid (k0 + (j : Int) * 3 = q) := hq
      have hq0 : 0 ≤ q := by omega
      have hq1 : q ≤ 4611686021573115904 := by omega
      have HO3 : Hid _ := own_set3 _ ho j q (q + 1) (q + 1 + 1)
      rw [hq]
      clear ho hq hl
      go_wp2
      go_roundw
      case rel => exact ⟨j + 1, by omega, by have := HQ.out; congr 1; push_cast; omega, by go_num, ⟨_, HO3.out⟩, ((HOB.out.set _ _).set _ _).set _ _⟩
      case measure => simp [intOf]; omega
    · obtain rfl : j = n := by omega
      go_wp2
      go_ret
      exact ⟨rfl, HOB.out⟩
set_option maxHeartbeats 1000000 in
theorem markEntryS_from (g n : Nat) (k0 : Int) (zs0 : List Int) (w : World) (hn : n ≤ 1048576) (hk0 : 0 ≤ k0) (hk1 : k0 ≤ 4611686018427387904) (hown : w.ownsRow g 64 3 (SL g n) n (zs0.map I)) :
    Calls Try.prog 36 #[SL g n, .int .i64 k0] w fun e w' => e = .returned (.int .i64 (k0 + (n : Int) * 3)) ∧ OnlyB g w w' := by
  go_enter Try.func36, Try.ntmps36
  go_wp2
  go_loopw [1, 5] (fun q i wr => ∃ j : Nat, j ≤ n ∧ q = .int .i64 (k0 + (j : Int) * 3) ∧ i = .int .i64 (j : Int) ∧ (∃ zs : List Int, wr.ownsRow g 64 3 (SL g n) n (zs.map I)) ∧ OnlyB g w wr) (fun _ i _ => n - (intOf i).toNat)
  case atStart => exact ⟨0, Nat.zero_le _, by simp, rfl, ⟨zs0, hown⟩, OnlyB.refl _ _⟩
  case round =>
    obtain ⟨j, hj, rfl, rfl, ⟨zs, ho⟩, hob⟩ := hrel
    have HOB : Hid (OnlyB g w wr) := hob
    clear hown hob
    by_cases hlt : j < n
    · have hj0 : (0 : Int) ≤ (j : Int) := by omega
      have hj1 : (j : Int) < (n : Int) := by omega
      have z0 := ho.frozenAt (j * 3)
      have z1 := ho.frozenAt (j * 3 + 1)
      have z2 := ho.frozenAt (j * 3 + 2)
      have hl : (zs.map I).length = n * 3 := ho.1
      obtain ⟨u0, hu0⟩ : ∃ u, wr.cell? ⟨g, j * 3, none⟩ = some u := ⟨_, own_cellV ho (List.getElem?_eq_getElem (by omega))⟩
      obtain ⟨u1, hu1⟩ : ∃ u, wr.cell? ⟨g, j * 3 + 1, none⟩ = some u := ⟨_, own_cellV ho (List.getElem?_eq_getElem (by omega))⟩
      obtain ⟨u2, hu2⟩ : ∃ u, wr.cell? ⟨g, j * 3 + 2, none⟩ = some u := ⟨_, own_cellV ho (List.getElem?_eq_getElem (by omega))⟩
      obtain ⟨q, hq⟩ : ∃ q : Int, k0 + (j : Int) * 3 = q := ⟨_, rfl⟩
      have HQ : Hid (k0 + (j : Int) * 3 = q) := hq
      have hq0 : 0 ≤ q := by omega
      have hq1 : q ≤ 4611686021573115904 := by omega
      have HO3 : Hid _ := own_set3 _ ho j q (q + 1) (q + 1 + 1)
      rw [hq]
      clear ho hq hl
      go_wp2
      go_roundw
      case rel => exact ⟨j + 1, by omega, by have := HQ.out; congr 1; push_cast; omega, by go_num, ⟨_, HO3.out⟩, ((HOB.out.set _ _).set _ _).set _ _⟩
      case measure => simp [intOf]; omega
    · obtain rfl : j = n := by omega
      go_wp2
      go_ret
      exact ⟨rfl, HOB.out⟩
set_option maxHeartbeats 1000000 in
theorem markIntS_far (g n : Nat) (k0 : Int) (zs0 : List Int) (w : World) (hn : n ≤ 1048576) (hk0 : 0 ≤ k0) (hk1 : k0 ≤ 4611686018427387904) (hown : w.ownsRow g 3 1 (SL g n) n (zs0.map I)) :
    Calls Try.prog 19 #[SL g n, .int .i64 k0] w fun e w' => e = .returned (.int .i64 (k0 + (n : Int))) ∧ OnlyB g w w' := by
  go_enter Try.func19, Try.ntmps19
  go_wp2
  go_loopw [1, 5] (fun q i wr => ∃ j : Nat, j ≤ n ∧ q = .int .i64 (k0 + (j : Int)) ∧ i = .int .i64 (j : Int) ∧ (∃ zs : List Int, wr.ownsRow g 3 1 (SL g n) n (zs.map I)) ∧ OnlyB g w wr) (fun _ i _ => n - (intOf i).toNat)
  case atStart => exact ⟨0, Nat.zero_le _, by simp, rfl, ⟨zs0, hown⟩, OnlyB.refl _ _⟩
  case round =>
    obtain ⟨j, hj, rfl, rfl, ⟨zs, ho⟩, hob⟩ := hrel
    have HOB : Hid (OnlyB g w wr) := hob
    clear hown hob
    by_cases hlt : j < n
    · have hf1 := ho.frozenAt j
      obtain ⟨u, hc1⟩ := own_cell ho hlt
      have ho1 := ho.stored j (I (k0 + (j : Int)))
      rw [← List.map_set] at ho1
      have HO1 : Hid ((wr.setCell ⟨g, j, none⟩ (I (k0 + (j : Int)))).ownsRow g 3 1 (SL g n) n ((zs.set j (k0 + (j : Int))).map I)) := ho1.1
      clear ho ho1
      go_wp2
      go_roundw
      case rel => exact ⟨j + 1, by omega, by go_num, by go_num, ⟨_, HO1.out⟩, HOB.out.set _ _⟩
      case measure => simp [intOf]; omega
    · obtain rfl : j = n := by omega
      go_wp2
      go_ret
      exact ⟨rfl, HOB.out⟩

/-- While a list of Descs of the call's own is marked: the headers stand; the lists behind place k are as they were. -/
structure MarkSt (w : World) (g n : Nat) (ds : List DK) (P Q : Nat → Nat) (hi k : Nat) (wr : World) : Prop where
  own : ∃ vs, wr.ownsRow g 62 5 (SL g n) n vs ∧ ∀ i, i < n → vs[i * 5 + 2]? = some (SL (P i) (dk ds i).en) ∧ vs[i * 5 + 4]? = some (SL (Q i) (dk ds i).rn)
  ents : ∀ i, k ≤ i → i < n → wr.ownsRow (P i) 64 3 (SL (P i) (dk ds i).en) (dk ds i).en ((dk ds i).es.map I)
  ints : ∀ i, k ≤ i → i < n → wr.ownsRow (Q i) 3 1 (SL (Q i) (dk ds i).rn) (dk ds i).rn ((dk ds i).rs.map I)
  bel : Below g w wr
  size : wr.heap.size = w.heap.size
  oth : ∀ b, hi ≤ b → wr.heap[b]? = w.heap[b]?
/-- Where the lists lie. -/
structure Laid5 (g n : Nat) (P Q : Nat → Nat) (hi : Nat) : Prop where
  gp : ∀ i, i < n → g < P i
  pq : ∀ i, i < n → P i < Q i
  asc : ∀ i j, j < i → i < n → Q j < P i
  top : ∀ i, i < n → Q i < hi
  gh : g < hi
/-- A list of Descs of the call's own, all that belongs to it below hi. -/
def DescTo (w : World) (g n : Nat) (ds : List DK) (hi : Nat) : Prop :=
  ∃ (vs : List Value) (P Q : Nat → Nat), w.ownsRow g 62 5 (SL g n) n vs ∧ ∀ i, i < n → Own5 w g vs (dk ds i) i (P i) (Q i) ∧ (∀ j, j < i → Q j < P i) ∧ Q i < hi
theorem DescOwn.to {w : World} {g n : Nat} {ds : List DK} (h : DescOwn w g n ds n) : DescTo w g n ds w.heap.size := by
  obtain ⟨vs, P, Q, h1, h2⟩ := h
  exact ⟨vs, P, Q, h1, fun i hi => ⟨(h2 i hi).1, (h2 i hi).2, ((h2 i hi).1.ints.lt (Q i) rfl).2⟩⟩
theorem DescTo.below {w w' : World} {g n hi : Nat} {ds : List DK} (h : DescTo w g n ds hi) {B : Nat} (hb : Below B w w') (hB : w.heap.size ≤ B) : DescTo w' g n ds hi := by
  obtain ⟨vs, P, Q, h1, h2⟩ := h
  exact ⟨vs, P, Q, owns_below h1 hb hB, fun i hi => ⟨(h2 i hi).1.below hb hB, (h2 i hi).2⟩⟩
theorem DescTo.only {w w' : World} {g n hi x : Nat} {ds : List DK} (h : DescTo w g n ds hi) (hx : x < g) (ho : OnlyB x w w') : DescTo w' g n ds hi := by
  obtain ⟨vs, P, Q, h1, h2⟩ := h
  refine ⟨vs, P, Q, owns_same h1 (ho.oth _ (by omega)), fun i hi => ⟨?_, (h2 i hi).2⟩⟩
  obtain ⟨a, b, c, d, e⟩ := (h2 i hi).1
  exact ⟨a, b, c, owns_same d (ho.oth _ (by omega)), owns_same e (ho.oth _ (by omega))⟩
theorem DescTo.at {w : World} {g n hi : Nat} {ds : List DK} (h : DescTo w g n ds hi) (hl : ds.length = n) (hn : n ≤ 1048576) (hs : ∀ i, i < n → (dk ds i).en ≤ 1048576 ∧ (dk ds i).rn ≤ 1048576) : DescAt w (some ⟨g, 0, none⟩) n ds := by
  obtain ⟨vs, P, Q, h1, h2⟩ := h
  exact DescOwn.at ⟨vs, P, Q, h1, fun i hi => ⟨(h2 i hi).1, (h2 i hi).2.1⟩⟩ hl hn hs
set_option maxHeartbeats 4000000 in
theorem markDescS_from (g n : Nat) (ds : List DK) (k0 : Int) (hi : Nat) (w : World) (hn : n ≤ 1048576) (hk0 : 0 ≤ k0) (hk1 : k0 ≤ 1099511627776) (hs : ∀ i, i < n → (dk ds i).en ≤ 1048576 ∧ (dk ds i).rn ≤ 1048576) (h : DescTo w g n ds hi) (hgh : g < hi) :
    Calls Try.prog 18 #[SL g n, .int .i64 k0] w fun e w' => ∃ r : Int, e = .returned (.int .i64 r) ∧ 0 ≤ r ∧ Below g w w' ∧ w'.heap.size = w.heap.size ∧ ∀ b, hi ≤ b → w'.heap[b]? = w.heap[b]? := by
  obtain ⟨vs0, P, Q, ho0, h0⟩ := h
  have HL : Hid (Laid5 g n P Q hi) := ⟨fun i hi => (h0 i hi).1.gp, fun i hi => (h0 i hi).1.pq, fun i j hj hi => (h0 i hi).2.1 j hj, fun i hi => (h0 i hi).2.2, hgh⟩
  have HS : Hid (∀ i, i < n → (dk ds i).en ≤ 1048576 ∧ (dk ds i).rn ≤ 1048576) := hs
  have ST0 : Hid (MarkSt w g n ds P Q hi 0 w) := ⟨⟨vs0, ho0, fun i hi => ⟨(h0 i hi).1.at5.2.2.1, (h0 i hi).1.at5.2.2.2.2⟩⟩, fun i _ hi => (h0 i hi).1.ents, fun i _ hi => (h0 i hi).1.ints, Below.refl _ _, rfl, fun _ _ => rfl⟩
  clear ho0 h0 hs
  go_enter Try.func18, Try.ntmps18
  go_wp2
  go_loopw [1, 5] (fun q i wr => ∃ (j : Nat) (r : Int), j ≤ n ∧ q = .int .i64 r ∧ 0 ≤ r ∧ r ≤ k0 + (j : Int) * 4194307 ∧ i = .int .i64 (j : Int) ∧ MarkSt w g n ds P Q hi j wr) (fun _ i _ => n - (intOf i).toNat)
  case atStart => exact ⟨0, k0, Nat.zero_le _, rfl, hk0, by simp, rfl, ST0.out⟩
  case round =>
    obtain ⟨k, q, hk, rfl, hq0, hq1, rfl, hst⟩ := hrel
    have ST : Hid (MarkSt w g n ds P Q hi k wr) := hst
    clear ST0 hst
    by_cases hlt : k < n
    · have hk0' : (0 : Int) ≤ (k : Int) := by omega
      have hk1' : (k : Int) < (n : Int) := by omega
      have hq2 : q ≤ 4398050705409 + 1099511627776 := by omega
      obtain ⟨vs, ho, hv⟩ := ST.out.own
      obtain ⟨v2, v4⟩ := hv k hlt
      have hl : vs.length = n * 5 := ho.1
      have hgP := HL.out.gp k hlt
      have hPQ := HL.out.pq k hlt
      have z0 := ho.frozenAt (k * 5)
      have z1 := ho.frozenAt (k * 5 + 1)
      have c2 := own_cellV ho v2
      obtain ⟨u0, hu0⟩ : ∃ u, wr.cell? ⟨g, k * 5, none⟩ = some u := ⟨_, own_cellV ho (List.getElem?_eq_getElem (by omega))⟩
      obtain ⟨u1, hu1⟩ : ∃ u, wr.cell? ⟨g, k * 5 + 1, none⟩ = some u := ⟨_, own_cellV ho (List.getElem?_eq_getElem (by omega))⟩
      have O1 : Hid (((wr.setCell ⟨g, k * 5, none⟩ (I q)).setCell ⟨g, k * 5 + 1, none⟩ (I (q + 1))).ownsRow g 62 5 (SL g n) n ((vs.set (k * 5) (I q)).set (k * 5 + 1) (I (q + 1)))) := ((ho.stored _ (I q)).1.stored _ (I (q + 1))).1
      have HV : Hid (vs.length = n * 5 ∧ ∀ i, i < n → vs[i * 5 + 2]? = some (SL (P i) (dk ds i).en) ∧ vs[i * 5 + 4]? = some (SL (Q i) (dk ds i).rn)) := ⟨hl, hv⟩
      have E1 : Hid (((wr.setCell ⟨g, k * 5, none⟩ (I q)).setCell ⟨g, k * 5 + 1, none⟩ (I (q + 1))).ownsRow (P k) 64 3 (SL (P k) (dk ds k).en) (dk ds k).en ((dk ds k).es.map I)) := ownsRow_setCell_below (ownsRow_setCell_below (ST.out.ents k (Nat.le_refl _) hlt) hgP _) hgP _
      obtain ⟨he, hr⟩ := HS.out k hlt
      obtain ⟨D, hD⟩ : ∃ D, dk ds k = D := ⟨_, rfl⟩
      have HD : Hid (dk ds k = D) := hD
      rw [hD] at c2 E1 he hr
      clear ho hv v2 v4 hl hD
      go_wp2_with fail
      refine (markEntryS_from (P k) D.en (q + 1 + 1) D.es _ he (by omega) (by omega) E1.out).mono ?_
      rintro e w2 ⟨rfl, ob2⟩
      have O2 : Hid (w2.ownsRow g 62 5 (SL g n) n ((vs.set (k * 5) (I q)).set (k * 5 + 1) (I (q + 1)))) := owns_same O1.out (ob2.oth g (by omega))
      have OB2 : Hid (OnlyB (P k) ((wr.setCell ⟨g, k * 5, none⟩ (I q)).setCell ⟨g, k * 5 + 1, none⟩ (I (q + 1))) w2) := ob2
      have y3 := O2.out.frozenAt (k * 5 + 3)
      obtain ⟨u3, hu3⟩ : ∃ u, w2.cell? ⟨g, k * 5 + 3, none⟩ = some u := ⟨_, own_cellV O2.out (List.getElem?_eq_getElem (by simp; have := HV.out.1; omega))⟩
      have c4 : w2.cell? ⟨g, k * 5 + 4, none⟩ = some (SL (Q k) D.rn) := by
        refine own_cellV O2.out ?_
        rw [List.getElem?_set_ne (by omega), List.getElem?_set_ne (by omega), (HV.out.2 k hlt).2, HD.out]
      obtain ⟨r2, hr2⟩ : ∃ r2 : Int, q + 1 + 1 + (D.en : Int) * 3 = r2 := ⟨_, rfl⟩
      have hr20 : 0 ≤ r2 := by omega
      have hr21 : r2 ≤ q + 3145730 := by omega
      rw [hr2]
      clear ob2 z0 z1 c2 hu0 hu1 hr2
      have I2 : Hid ((w2.setCell ⟨g, k * 5 + 3, none⟩ (I r2)).ownsRow (Q k) 3 1 (SL (Q k) D.rn) D.rn (D.rs.map I)) := by
        show World.ownsRow _ _ _ _ _ _ _
        have h1 := ST.out.ints k (Nat.le_refl _) hlt
        rw [HD.out] at h1
        have h2 := ownsRow_setCell_below (ownsRow_setCell_below h1 (show (⟨g, k * 5, none⟩ : Addr).block < Q k from Nat.lt_trans hgP hPQ) (I q)) (show (⟨g, k * 5 + 1, none⟩ : Addr).block < Q k from Nat.lt_trans hgP hPQ) (I (q + 1))
        exact ownsRow_setCell_below (owns_same h2 (OB2.out.oth _ (by omega))) (show (⟨g, k * 5 + 3, none⟩ : Addr).block < Q k from Nat.lt_trans hgP hPQ) _
      go_wp2_with fail
      refine (markIntS_far (Q k) D.rn (r2 + 1) D.rs _ hr (by omega) (by omega) I2.out).mono ?_
      rintro e w4 ⟨rfl, ob4⟩
      have NEXT : Hid (MarkSt w g n ds P Q hi (k + 1) w4) := by
        have OTH : ∀ b, b ≠ g → b ≠ P k → b ≠ Q k → w4.heap[b]? = wr.heap[b]? := fun b h1 h2 h3 => by
          rw [ob4.oth b h3, Below.heap_setCell _ _ _ _ h1, OB2.out.oth b h2, Below.heap_setCell _ _ _ _ h1, Below.heap_setCell _ _ _ _ h1]
        refine ⟨⟨((vs.set (k * 5) (I q)).set (k * 5 + 1) (I (q + 1))).set (k * 5 + 3) (I r2), owns_same (O2.out.stored (k * 5 + 3) (I r2)).1 (ob4.oth g (by omega)), fun i hi => ?_⟩, fun i hik hin => ?_, fun i hik hin => ?_, ?_, ?_, fun b hb => ?_⟩
        · rw [List.getElem?_set_ne (by omega), List.getElem?_set_ne (by omega), List.getElem?_set_ne (by omega), List.getElem?_set_ne (by omega), List.getElem?_set_ne (by omega), List.getElem?_set_ne (by omega)]
          exact HV.out.2 i hi
        · have a1 := HL.out.gp i hin
          have a2 := HL.out.asc i k (by omega) hin
          exact owns_same (ST.out.ents i (by omega) hin) (OTH _ (by omega) (by omega) (by omega))
        · have a1 := HL.out.gp i hin
          have a2 := HL.out.asc i k (by omega) hin
          have a3 := HL.out.pq i hin
          exact owns_same (ST.out.ints i (by omega) hin) (OTH _ (by omega) (by omega) (by omega))
        · exact ((((ST.out.bel.setCell (Nat.le_refl _) (I q)).setCell (Nat.le_refl _) (I (q + 1))).trans (OB2.out.bel.mono (Nat.le_of_lt hgP))).setCell (Nat.le_refl _) (I r2)).trans (ob4.bel.mono (by omega))
        · rw [ob4.size, size_setCell, OB2.out.size, size_setCell, size_setCell, ST.out.size]
        · have b1 := HL.out.top k hlt
          have b2 := HL.out.gh
          rw [OTH b (by omega) (by omega) (by omega)]
          exact ST.out.oth b hb
      obtain ⟨r4, hr4⟩ : ∃ r4 : Int, r2 + 1 + (D.rn : Int) = r4 := ⟨_, rfl⟩
      have hr40 : 0 ≤ r4 := by omega
      have hr41 : r4 ≤ q + 4194307 := by omega
      rw [hr4]
      clear ob4 y3 hu3 c4 hr4
      go_wp2
      go_roundw
      case rel => exact ⟨k + 1, r4, by omega, rfl, hr40, by push_cast; omega, by go_num, NEXT.out⟩
      case measure => simp [intOf]; omega
    · obtain rfl : k = n := by omega
      go_wp2
      go_ret
      exact ⟨q, rfl, hq0, ST.out.bel, ST.out.size, ST.out.oth⟩
end Go.Proofs.Ytenlapppaimkkaq
