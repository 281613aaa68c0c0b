/- slices.Clone: lists that are copied, with memory of their own. -/
import Derived.Test.YtbdfopokimpeiaqMemO
import Derived.Lib.LazyBuf
namespace Go.Proofs.Ytbdfopokimpeiaq
open Go.ChangeShapes Go.WideShapes Go.ChangeAt Go.RowKit Go.Joins

theorem own_emptyT {w : World} {base : Nat} {T : TypeId} {size : Nat} (hb : base ≤ w.heap.size) : (w.alloc (.cells #[] T)).ownsRow base T size (.slice (some ⟨w.heap.size, 0, none⟩) 0 0) 0 [] :=
  ⟨by simp, .inr ⟨w.heap.size, 0, #[], rfl, hb, (by show (w.heap.push _)[w.heap.size]? = _; simp), Nat.le_refl _, by unfold maxLen; omega, by simp, by simp⟩⟩
theorem eql_nil {P : Program} (w : World) {t e : TypeId} {a : Option Addr} {l c : Nat} (h : P.underlying t = some (.slice e)) : (binOp .eql t (.slice a l c) (.slice none 0 0)).run P w = .ok (.bool a.isNone) w := by
  simp [binOp, run_equal_slice_nil w t e a l c h]
theorem cell_alloc {w : World} {q : Addr} {u : Value} {o : Obj} (h : w.cell? q = some u) : (w.alloc o).cell? q = some u := by
  rw [World.cell?_of_block (Below.heap_alloc _ _ _ (World.block_lt_of_cell? w _ h))]
  exact h
theorem trip_src' {w : World} {ad : Addr} {n : Nat} {es : List Int} (h : TripAt w (some ad) n es) : ∀ j v, (es.map I)[j]? = some v → w.cell? (ad.add j) = some v := by
  intro j v hj
  rw [List.getElem?_map] at hj
  rcases h.2.2 with h0 | ⟨b, o, he, g⟩
  · have hl := h.1
    rw [List.getElem?_eq_none (by omega)] at hj
    cases hj
  · cases he
    have hl : j < es.length := by
      rcases Nat.lt_or_ge j es.length with h1 | h1
      · exact h1
      · rw [List.getElem?_eq_none h1] at hj; cases hj
    have h1 := g j (by have := h.1; omega)
    have e : (⟨b, o, none⟩ : Addr).add j = ⟨b, o + j, none⟩ := by simp [Addr.add]
    rw [e, h1]
    rw [List.getElem?_eq_getElem hl] at hj
    simpa [List.getD, hl] using hj
theorem trip_cell {w : World} {ad : Addr} {n : Nat} {es : List Int} {o : Obj} (h : TripAt w (some ad) n es) {j : Nat} {v : Value} (hj : (es.map I)[j]? = some v) : (w.alloc o).cell? (ad.add j) = some v := cell_alloc (trip_src' h j v hj)
theorem int_cell {w : World} {ad : Addr} {n : Nat} {es : List Int} {o : Obj} (h : IntAt w (some ad) n es) {j : Nat} {v : Value} (hj : (es.map I)[j]? = some v) : (w.alloc o).cell? (ad.add j) = some v := by
  refine cell_alloc ?_
  rw [List.getElem?_map] at hj
  have hl : j < es.length := by
    rcases Nat.lt_or_ge j es.length with h1 | h1
    · exact h1
    · rw [List.getElem?_eq_none h1] at hj; cases hj
  rcases h.2.2 with h0 | ⟨b, o, he, g⟩
  · have := h.1; omega
  · cases he
    have h1 := g j (by have := h.1; omega)
    have e : (⟨b, o, none⟩ : Addr).add j = ⟨b, o + j, none⟩ := by simp [Addr.add]
    rw [e, h1]
    rw [List.getElem?_eq_getElem hl] at hj
    simpa [List.getD, hl] using hj
theorem news3 {es : List Int} : ∀ v ∈ es.map I, v.oneCell' = true := by
  intro v hv
  simp at hv
  obtain ⟨x, _, rfl⟩ := hv
  rfl
set_option maxHeartbeats 1000000 in
set_option maxRecDepth 100000 in
theorem cloneW_o (a : Option Addr) (n c : Nat) (es : List Int) (w : World) (h : TripAt w a n es) (ha : a = none → c = 0) :
    Calls Try.prog 83 #[.slice a n c] w fun e w' => ∃ v, e = .returned v ∧ w'.ownsRow w.heap.size 80 3 v n (es.map I) ∧ Below w.heap.size w w' := by
  obtain ⟨i0, hi, hz0, hz1, hz2⟩ := info_parts infoWord
  rcases a with _ | ad
  · obtain rfl : c = 0 := ha rfl
    obtain rfl : n = 0 := by
      rcases h.2.2 with h0 | ⟨_, _, he, _⟩
      · exact h0
      · cases he
    have HV : Hid ((es.map I) = []) := by
      show _ = []
      rw [show es = [] from List.length_eq_zero_iff.1 (by have := h.1; simpa using this)]; rfl
    have hE : ∀ w : World, (binOp .eql 27 (.slice none 0 0) (.slice none 0 0)).run Try.prog w = .ok (.bool true) w := fun w => eql_nil w Try.underlying27
    clear h ha
    go_enter Try.func83, Try.ntmps83
    go_wp2
    go_ret
    exact ⟨_, rfl, by rw [HV.out]; exact World.ownsRow_nil _ _ _ _, Below.refl _ _⟩
  have hn := h.2.1
  have HS : Hid (((es.map I)).length = n * 3 ∧ (∀ j u, ((es.map I))[j]? = some u → (w.alloc (.cells #[] 80)).cell? (ad.add j) = some u) ∧ ∀ u ∈ (es.map I), u.oneCell' = true) := by
    exact ⟨by rw [List.length_map]; exact h.1, fun j u hj => trip_cell h hj, news3⟩
  have hE : ∀ w : World, (binOp .eql 27 (.slice (some ad) n c) (.slice none 0 0)).run Try.prog w = .ok (.bool false) w := fun w => eql_nil w Try.underlying27
  clear h ha
  go_enter Try.func83, Try.ntmps83
  go_wp2_with
    (at_builtin
     refine wpList_append_own _ rfl _ _ 27 rfl w.heap.size 80 i0 (.agg #[.int .i64 0, .int .i64 0, .int .i64 0]) 3 24 Try.underlying27 hi hz0 hz1 hz2 rfl (by decide) (.slice (some ⟨w.heap.size, 0, none⟩) 0 0) 0 [] rfl (own_emptyT (Nat.le_refl _)) ad n c ((es.map I)) rfl HS.out.1 HS.out.2.1 HS.out.2.2 (by unfold maxLen; omega) (by omega) (by simp) ?_
     intro v' w2 own2 grow2 _)
  have hb2 : Below w.heap.size w w2 := ((Below.refl _ w).alloc (Nat.le_refl _) _).grown grow2 (by simp) (fun k e => by
    have h1 : w.heap.size = k := by simpa [Value.ownBlock] using e
    omega)
  rw [Nat.zero_add, List.nil_append] at own2
  go_ret
  exact ⟨_, rfl, own2, hb2⟩
set_option maxHeartbeats 1000000 in
set_option maxRecDepth 100000 in
theorem cloneE_o (a : Option Addr) (n c : Nat) (es : List Int) (w : World) (h : TripAt w a n es) (ha : a = none → c = 0) :
    Calls Try.prog 74 #[.slice a n c] w fun e w' => ∃ v, e = .returned v ∧ w'.ownsRow w.heap.size 84 3 v n (es.map I) ∧ Below w.heap.size w w' := by
  obtain ⟨i0, hi, hz0, hz1, hz2⟩ := info_parts infoEntry
  rcases a with _ | ad
  · obtain rfl : c = 0 := ha rfl
    obtain rfl : n = 0 := by
      rcases h.2.2 with h0 | ⟨_, _, he, _⟩
      · exact h0
      · cases he
    have HV : Hid ((es.map I) = []) := by
      show _ = []
      rw [show es = [] from List.length_eq_zero_iff.1 (by have := h.1; simpa using this)]; rfl
    have hE : ∀ w : World, (binOp .eql 66 (.slice none 0 0) (.slice none 0 0)).run Try.prog w = .ok (.bool true) w := fun w => eql_nil w Try.underlying66
    clear h ha
    go_enter Try.func74, Try.ntmps74
    go_wp2
    go_ret
    exact ⟨_, rfl, by rw [HV.out]; exact World.ownsRow_nil _ _ _ _, Below.refl _ _⟩
  have hn := h.2.1
  have HS : Hid (((es.map I)).length = n * 3 ∧ (∀ j u, ((es.map I))[j]? = some u → (w.alloc (.cells #[] 84)).cell? (ad.add j) = some u) ∧ ∀ u ∈ (es.map I), u.oneCell' = true) := by
    exact ⟨by rw [List.length_map]; exact h.1, fun j u hj => trip_cell h hj, news3⟩
  have hE : ∀ w : World, (binOp .eql 66 (.slice (some ad) n c) (.slice none 0 0)).run Try.prog w = .ok (.bool false) w := fun w => eql_nil w Try.underlying66
  clear h ha
  go_enter Try.func74, Try.ntmps74
  go_wp2_with
    (at_builtin
     refine wpList_append_own _ rfl _ _ 66 rfl w.heap.size 84 i0 (.agg #[.int .i64 0, .int .i64 0, .int .i64 0]) 3 24 Try.underlying66 hi hz0 hz1 hz2 rfl (by decide) (.slice (some ⟨w.heap.size, 0, none⟩) 0 0) 0 [] rfl (own_emptyT (Nat.le_refl _)) ad n c ((es.map I)) rfl HS.out.1 HS.out.2.1 HS.out.2.2 (by unfold maxLen; omega) (by omega) (by simp) ?_
     intro v' w2 own2 grow2 _)
  have hb2 : Below w.heap.size w w2 := ((Below.refl _ w).alloc (Nat.le_refl _) _).grown grow2 (by simp) (fun k e => by
    have h1 : w.heap.size = k := by simpa [Value.ownBlock] using e
    omega)
  rw [Nat.zero_add, List.nil_append] at own2
  go_ret
  exact ⟨_, rfl, own2, hb2⟩
set_option maxHeartbeats 1000000 in
set_option maxRecDepth 100000 in
theorem cloneI_o (a : Option Addr) (n c : Nat) (es : List Int) (w : World) (h : IntAt w a n es) (ha : a = none → c = 0) :
    Calls Try.prog 96 #[.slice a n c] w fun e w' => ∃ v, e = .returned v ∧ w'.ownsRow w.heap.size 3 1 v n (es.map I) ∧ Below w.heap.size w w' := by
  obtain ⟨i0, hi, hz0, hz1, hz2⟩ := info_parts infoInt
  rcases a with _ | ad
  · obtain rfl : c = 0 := ha rfl
    obtain rfl : n = 0 := by
      rcases h.2.2 with h0 | ⟨_, _, he, _⟩
      · exact h0
      · cases he
    have HV : Hid ((es.map I) = []) := by
      show _ = []
      rw [show es = [] from List.length_eq_zero_iff.1 (by have := h.1; simpa using this)]; rfl
    have hE : ∀ w : World, (binOp .eql 34 (.slice none 0 0) (.slice none 0 0)).run Try.prog w = .ok (.bool true) w := fun w => eql_nil w Try.underlying34
    clear h ha
    go_enter Try.func96, Try.ntmps96
    go_wp2
    go_ret
    exact ⟨_, rfl, by rw [HV.out]; exact World.ownsRow_nil _ _ _ _, Below.refl _ _⟩
  have hn := h.2.1
  have HS : Hid (((es.map I)).length = n * 1 ∧ (∀ j u, ((es.map I))[j]? = some u → (w.alloc (.cells #[] 3)).cell? (ad.add j) = some u) ∧ ∀ u ∈ (es.map I), u.oneCell' = true) := by
    exact ⟨by rw [List.length_map, h.1]; omega, fun j u hj => int_cell h hj, news_one⟩
  have hE : ∀ w : World, (binOp .eql 34 (.slice (some ad) n c) (.slice none 0 0)).run Try.prog w = .ok (.bool false) w := fun w => eql_nil w Try.underlying34
  clear h ha
  go_enter Try.func96, Try.ntmps96
  go_wp2_with
    (at_builtin
     refine wpList_append_own _ rfl _ _ 34 rfl w.heap.size 3 i0 (.int .i64 0) 1 8 Try.underlying34 hi hz0 hz1 hz2 rfl (by decide) (.slice (some ⟨w.heap.size, 0, none⟩) 0 0) 0 [] rfl (own_emptyT (Nat.le_refl _)) ad n c ((es.map I)) rfl HS.out.1 HS.out.2.1 HS.out.2.2 (by unfold maxLen; omega) (by omega) (by simp) ?_
     intro v' w2 own2 grow2 _)
  have hb2 : Below w.heap.size w w2 := ((Below.refl _ w).alloc (Nat.le_refl _) _).grown grow2 (by simp) (fun k e => by
    have h1 : w.heap.size = k := by simpa [Value.ownBlock] using e
    omega)
  rw [Nat.zero_add, List.nil_append] at own2
  go_ret
  exact ⟨_, rfl, own2, hb2⟩
set_option maxHeartbeats 1000000 in
set_option maxRecDepth 100000 in
theorem cloneD_o (a : Option Addr) (n c : Nat) (es : List DK) (w : World) (h : DescAt w a n es) (ha : a = none → c = 0) (vs : List Value) (hvs : vs.length = n * 5 ∧ (∀ ad, a = some ad → ∀ j u, vs[j]? = some u → w.cell? (ad.add j) = some u) ∧ ∀ u ∈ vs, u.oneCell' = true) :
    Calls Try.prog 84 #[.slice a n c] w fun e w' => ∃ v, e = .returned v ∧ w'.ownsRow w.heap.size 82 5 v n vs ∧ Below w.heap.size w w' := by
  obtain ⟨i0, hi, hz0, hz1, hz2⟩ := info_parts infoDesc
  rcases a with _ | ad
  · obtain rfl : c = 0 := ha rfl
    obtain rfl : n = 0 := by
      rcases h.2.2 with h0 | ⟨_, _, he, _⟩
      · exact h0
      · cases he
    have HV : Hid (vs = []) := by
      show _ = []
      exact List.length_eq_zero_iff.1 (by have := hvs.1; omega)
    have hE : ∀ w : World, (binOp .eql 29 (.slice none 0 0) (.slice none 0 0)).run Try.prog w = .ok (.bool true) w := fun w => eql_nil w Try.underlying29
    clear h ha hvs
    go_enter Try.func84, Try.ntmps84
    go_wp2
    go_ret
    exact ⟨_, rfl, by rw [HV.out]; exact World.ownsRow_nil _ _ _ _, Below.refl _ _⟩
  have hn := h.2.1
  have HS : Hid ((vs).length = n * 5 ∧ (∀ j u, (vs)[j]? = some u → (w.alloc (.cells #[] 82)).cell? (ad.add j) = some u) ∧ ∀ u ∈ vs, u.oneCell' = true) := by
    exact ⟨hvs.1, fun j u hj => cell_alloc (hvs.2.1 ad rfl j u hj), hvs.2.2⟩
  have hE : ∀ w : World, (binOp .eql 29 (.slice (some ad) n c) (.slice none 0 0)).run Try.prog w = .ok (.bool false) w := fun w => eql_nil w Try.underlying29
  clear h ha hvs
  go_enter Try.func84, Try.ntmps84
  go_wp2_with
    (at_builtin
     refine wpList_append_own _ rfl _ _ 29 rfl w.heap.size 82 i0 (.agg (DescC 0 0 none 0 0 0 none 0 0)) 5 72 Try.underlying29 hi hz0 hz1 hz2 rfl (by decide) (.slice (some ⟨w.heap.size, 0, none⟩) 0 0) 0 [] rfl (own_emptyT (Nat.le_refl _)) ad n c (vs) rfl HS.out.1 HS.out.2.1 HS.out.2.2 (by unfold maxLen; omega) (by omega) (by simp) ?_
     intro v' w2 own2 grow2 _)
  have hb2 : Below w.heap.size w w2 := ((Below.refl _ w).alloc (Nat.le_refl _) _).grown grow2 (by simp) (fun k e => by
    have h1 : w.heap.size = k := by simpa [Value.ownBlock] using e
    omega)
  rw [Nat.zero_add, List.nil_append] at own2
  go_ret
  exact ⟨_, rfl, own2, hb2⟩
end Go.Proofs.Ytbdfopokimpeiaq
