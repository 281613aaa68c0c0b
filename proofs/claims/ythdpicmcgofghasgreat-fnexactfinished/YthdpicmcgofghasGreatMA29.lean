/- Texts joined: MchB. -/
import Derived.Test.YthdpicmcgofghasGreatMA28
/- A machine that is read: its parts lie there. No program. -/
namespace Go.Proofs.YthdpicmcgofghasGreat
open Go.ChangeShapes Go.WideShapes Go.ChangeAt Go.RowKit Go.Joins

theorem i1 : ∀ t ∈ ([.i] : List Ty), t = .i := int_all rfl
theorem iOp : ∀ t ∈ tyOp, t = .i := int_all rfl
theorem iPair : ∀ t ∈ tyPair, t = .i := int_all rfl
theorem iHelp : ∀ t ∈ tyHelp, t = .i := int_all rfl
theorem iEntry : ∀ t ∈ tyEntry, t = .i := int_all rfl
theorem iWord : ∀ t ∈ tyWord, t = .i := int_all rfl
theorem at_thread {w : World} {b p : Nat} {us : List Value} {r : List Cel} (h : AtL true w us r) (hs : HasL r tyThread) (hc : ∀ i, i < 5 → w.cell? ⟨b, p + i, none⟩ = us[i]?) :
    ∃ a0 c0 a1 c1 a2 c2, ThC w b p (thD r) a0 c0 a1 c1 a2 c2 ∧ ThL w a0 a1 a2 (thD r) ∧ (thD r).n0 ≤ c0 ∧ (thD r).n1 ≤ c1 ∧ (thD r).n2 ≤ c2 := by
  obtain ⟨x0, r0, rfl, T0, hH0⟩ := hs.cons
  obtain ⟨x1, r1, rfl, T1, hH1⟩ := hH0.cons
  obtain ⟨x2, r2, rfl, T2, hH2⟩ := hH1.cons
  obtain ⟨x3, r3, rfl, T3, hH3⟩ := hH2.cons
  obtain ⟨x4, r4, rfl, T4, hH4⟩ := hH3.cons
  obtain rfl := hH4.nil
  obtain ⟨v0, vr0, rfl, A0, hA0⟩ := h.consE
  obtain ⟨v1, vr1, rfl, A1, hA1⟩ := hA0.consE
  obtain ⟨v2, vr2, rfl, A2, hA2⟩ := hA1.consE
  obtain ⟨v3, vr3, rfl, A3, hA3⟩ := hA2.consE
  obtain ⟨v4, vr4, rfl, A4, hA4⟩ := hA3.consE
  obtain rfl := hA4.nilE
  obtain ⟨n0, l0, rfl, _⟩ := T0.list
  obtain ⟨y1, rfl⟩ := T1.int
  obtain ⟨y2, rfl⟩ := T2.bool
  obtain ⟨n3, l3, rfl, _⟩ := T3.list
  obtain ⟨n4, l4, rfl, _⟩ := T4.list
  obtain rfl := A1.int
  obtain rfl := A2.bool
  obtain ⟨a0, c0, rfl⟩ := A0.slice
  obtain ⟨a3, c3, rfl⟩ := A3.slice
  obtain ⟨a4, c4, rfl⟩ := A4.slice
  exact ⟨a0, c0, a3, c3, a4, c4, ⟨hc 0 (by omega), hc 1 (by omega), hc 2 (by omega), hc 3 (by omega), hc 4 (by omega)⟩, ⟨at_kAt A0 T0 iOp, at_kAt A3 T3 iPair, at_kAt A4 T4 iHelp⟩, at_cap A0, at_cap A3, at_cap A4⟩
theorem at_call {w : World} {b p : Nat} {us : List Value} {r : List Cel} (h : AtL true w us r) (hs : HasL r tyCall) (hc : ∀ i, i < 9 → w.cell? ⟨b, p + i, none⟩ = us[i]?) : ∃ ra rn rc, CaC w b p (caD r) (.slice ra rn rc) := by
  obtain ⟨x0, r0, rfl, T0, hH0⟩ := hs.cons
  obtain ⟨x1, r1, rfl, T1, hH1⟩ := hH0.cons
  obtain ⟨x2, r2, rfl, T2, hH2⟩ := hH1.cons
  obtain ⟨x3, r3, rfl, T3, hH3⟩ := hH2.cons
  obtain ⟨x4, r4, rfl, T4, hH4⟩ := hH3.cons
  obtain ⟨x5, r5, rfl, T5, hH5⟩ := hH4.cons
  obtain ⟨x6, r6, rfl, T6, hH6⟩ := hH5.cons
  obtain ⟨x7, r7, rfl, T7, hH7⟩ := hH6.cons
  obtain ⟨x8, r8, rfl, T8, hH8⟩ := hH7.cons
  obtain rfl := hH8.nil
  obtain ⟨v0, vr0, rfl, A0, hA0⟩ := h.consE
  obtain ⟨v1, vr1, rfl, A1, hA1⟩ := hA0.consE
  obtain ⟨v2, vr2, rfl, A2, hA2⟩ := hA1.consE
  obtain ⟨v3, vr3, rfl, A3, hA3⟩ := hA2.consE
  obtain ⟨v4, vr4, rfl, A4, hA4⟩ := hA3.consE
  obtain ⟨v5, vr5, rfl, A5, hA5⟩ := hA4.consE
  obtain ⟨v6, vr6, rfl, A6, hA6⟩ := hA5.consE
  obtain ⟨v7, vr7, rfl, A7, hA7⟩ := hA6.consE
  obtain ⟨v8, vr8, rfl, A8, hA8⟩ := hA7.consE
  obtain rfl := hA8.nilE
  obtain ⟨y0, rfl⟩ := T0.int
  obtain ⟨y1, rfl⟩ := T1.int
  obtain ⟨y2, rfl⟩ := T2.int
  obtain ⟨y3, rfl⟩ := T3.int
  obtain ⟨y4, rfl⟩ := T4.int
  obtain ⟨y5, rfl⟩ := T5.int
  obtain ⟨y6, rfl⟩ := T6.int
  obtain ⟨y7, rfl⟩ := T7.int
  obtain ⟨n8, l8, rfl, _⟩ := T8.list
  obtain rfl := A0.int
  obtain rfl := A1.int
  obtain rfl := A2.int
  obtain rfl := A3.int
  obtain rfl := A4.int
  obtain rfl := A5.int
  obtain rfl := A6.int
  obtain rfl := A7.int
  obtain ⟨a8, c8, rfl⟩ := A8.slice
  exact ⟨a8, n8, c8, hc 0 (by omega), hc 1 (by omega), hc 2 (by omega), hc 3 (by omega), hc 4 (by omega), hc 5 (by omega), hc 6 (by omega), hc 7 (by omega), hc 8 (by omega)⟩
theorem at_desc {w : World} {b p : Nat} {us : List Value} {r : List Cel} (h : AtL true w us r) (hs : HasL r tyDesc) (hb : ∀ (j : Nat) (c : Cel), r[j]? = some c → c.big ≤ 1048576) (hc : ∀ i, i < 5 → w.cell? ⟨b, p + i, none⟩ = us[i]?) :
    ∃ ea ec ra rc, Five w b p (dkD r) ea ec ra rc ∧ TripAt w ea (dkD r).en (dkD r).es ∧ IntAt w ra (dkD r).rn (dkD r).rs ∧ (dkD r).en ≤ ec := by
  obtain ⟨x0, r0, rfl, T0, hH0⟩ := hs.cons
  obtain ⟨x1, r1, rfl, T1, hH1⟩ := hH0.cons
  obtain ⟨x2, r2, rfl, T2, hH2⟩ := hH1.cons
  obtain ⟨x3, r3, rfl, T3, hH3⟩ := hH2.cons
  obtain ⟨x4, r4, rfl, T4, hH4⟩ := hH3.cons
  obtain rfl := hH4.nil
  obtain ⟨v0, vr0, rfl, A0, hA0⟩ := h.consE
  obtain ⟨v1, vr1, rfl, A1, hA1⟩ := hA0.consE
  obtain ⟨v2, vr2, rfl, A2, hA2⟩ := hA1.consE
  obtain ⟨v3, vr3, rfl, A3, hA3⟩ := hA2.consE
  obtain ⟨v4, vr4, rfl, A4, hA4⟩ := hA3.consE
  obtain rfl := hA4.nilE
  obtain ⟨y0, rfl⟩ := T0.int
  obtain ⟨y1, rfl⟩ := T1.int
  obtain ⟨n2, l2, rfl, _⟩ := T2.list
  obtain ⟨y3, rfl⟩ := T3.int
  obtain ⟨n4, l4, rfl, _⟩ := T4.list
  obtain rfl := A0.int
  obtain rfl := A1.int
  obtain rfl := A3.int
  obtain ⟨a2, c2, rfl⟩ := A2.slice
  obtain ⟨a4, c4, rfl⟩ := A4.slice
  have hb2 := hb 2 _ rfl
  have := big_len (T := 98) (k := 3) (n := n2) (cs := l2)
  exact ⟨a2, c2, a4, c4, ⟨hc 0 (by omega), hc 1 (by omega), hc 2 (by omega), hc 3 (by omega), hc 4 (by omega)⟩, (at_kAt A2 T2 iEntry).trip (by omega), (at_kAt A4 T4 i1).ints, at_cap A2⟩

theorem at_machine {w : World} {us : List Value} {cs : List Cel} (h : AtL true w us cs) (hs : HasL cs tyMachine) (hb : bigL cs ≤ 1048576) :
    ∃ wa wc da dc ta tc ca cc oa oc ha hc, .agg us.toArray = MaV wa wc da dc ta tc ca cc oa oc ha hc (maD cs) ∧ MaAt w wa da ta ca oa ha (maD cs) ∧ CapAt w da (maD cs).nd (maD cs).ds ∧ (maD cs).nh ≤ hc := by
  obtain ⟨x0, r0, rfl, T0, hH0⟩ := hs.cons
  obtain ⟨x1, r1, rfl, T1, hH1⟩ := hH0.cons
  obtain ⟨x2, r2, rfl, T2, hH2⟩ := hH1.cons
  obtain ⟨x3, r3, rfl, T3, hH3⟩ := hH2.cons
  obtain ⟨x4, r4, rfl, T4, hH4⟩ := hH3.cons
  obtain ⟨x5, r5, rfl, T5, hH5⟩ := hH4.cons
  obtain ⟨x6, r6, rfl, T6, hH6⟩ := hH5.cons
  obtain ⟨x7, r7, rfl, T7, hH7⟩ := hH6.cons
  obtain rfl := hH7.nil
  obtain ⟨v0, vr0, rfl, A0, hA0⟩ := h.consE
  obtain ⟨v1, vr1, rfl, A1, hA1⟩ := hA0.consE
  obtain ⟨v2, vr2, rfl, A2, hA2⟩ := hA1.consE
  obtain ⟨v3, vr3, rfl, A3, hA3⟩ := hA2.consE
  obtain ⟨v4, vr4, rfl, A4, hA4⟩ := hA3.consE
  obtain ⟨v5, vr5, rfl, A5, hA5⟩ := hA4.consE
  obtain ⟨v6, vr6, rfl, A6, hA6⟩ := hA5.consE
  obtain ⟨v7, vr7, rfl, A7, hA7⟩ := hA6.consE
  obtain rfl := hA7.nilE
  obtain ⟨n0, l0, rfl, e0⟩ := T0.list
  obtain ⟨n1, l1, rfl, e1⟩ := T1.list
  obtain ⟨n2, l2, rfl, e2⟩ := T2.list
  obtain ⟨y3, rfl⟩ := T3.int
  obtain ⟨n4, l4, rfl, e4⟩ := T4.list
  obtain ⟨n5, l5, rfl, e5⟩ := T5.list
  obtain ⟨n6, l6, rfl, e6⟩ := T6.list
  obtain ⟨y7, rfl⟩ := T7.int
  obtain rfl := A3.int
  obtain rfl := A7.int
  obtain ⟨a0, c0, rfl⟩ := A0.slice
  obtain ⟨a1, c1, rfl⟩ := A1.slice
  obtain ⟨a2, c2, rfl⟩ := A2.slice
  obtain ⟨a4, c4, rfl⟩ := A4.slice
  obtain ⟨a5, c5, rfl⟩ := A5.slice
  obtain ⟨a6, c6, rfl⟩ := A6.slice
  have g0 := big_len (T := 95) (k := 3) (n := n0) (cs := l0)
  have g1 := big_len (T := 93) (k := 5) (n := n1) (cs := l1)
  simp only [bigL] at hb
  have hl1 : bigL l1 ≤ 1048576 := by
    have : bigL l1 ≤ (Cel.l 93 5 n1 l1).big := by simp only [Cel.big]; omega
    omega
  have N2 : n2 ≤ 2097152 := by obtain ⟨_, _, _, _, _, _, hn, _⟩ := A2.openL; exact hn
  have N4 : n4 ≤ 2097152 := by obtain ⟨_, _, _, _, _, _, hn, _⟩ := A4.openL; exact hn
  have HD : n1 = 0 ∨ ∃ b o, a1 = some ⟨b, o, none⟩ ∧ ∀ i, i < n1 → ∃ ea ec ra rc, Five w b (o + i * 5) (dkD (row l1 5 i)) ea ec ra rc ∧ TripAt w ea (dkD (row l1 5 i)).en (dkD (row l1 5 i)).es ∧ IntAt w ra (dkD (row l1 5 i)).rn (dkD (row l1 5 i)).rs ∧ (dkD (row l1 5 i)).en ≤ ec := by
    rcases at_rows A1 with h0 | ⟨b, o, rfl, hr⟩
    · exact .inl h0
    · refine .inr ⟨b, o, rfl, fun i hi => ?_⟩
      obtain ⟨us, hu, hc⟩ := hr i hi
      exact at_desc hu (T1.rowL hi) (fun j c hj => Nat.le_trans (row_mem_big e1 hi hj) hl1) hc
  have DK1 : ∀ i, i < n1 → dk ((List.range n1).map fun i => dkD (row l1 5 i)) i = dkD (row l1 5 i) := fun i hi => by
    unfold dk
    simp [List.getD, hi]
  refine ⟨a0, c0, a1, c1, a2, c2, a4, c4, a5, c5, a6, c6, rfl, ⟨(at_kAt A0 T0 iWord).trip (by show n0 ≤ _; omega), ⟨by show (List.map _ (List.range n1)).length = n1; simp, by show n1 ≤ _; omega, ?_⟩, ⟨N2, ?_⟩, ⟨N4, ?_⟩, (at_kAt A5 T5 i1).ints, (at_kAt A6 T6 i1).ints⟩, ?_, at_cap A6⟩
  · rcases HD with h0 | ⟨b, o, rfl, hr⟩
    · exact .inl h0
    · refine .inr ⟨b, o, rfl, fun i hi => ?_⟩
      obtain ⟨ea, ec, ra, rc, h5, h6, h7, _⟩ := hr i hi
      show ∃ ea ec ra rc, Five w b (o + i * 5) (dk ((List.range n1).map fun i => dkD (row l1 5 i)) i) ea ec ra rc ∧ TripAt w ea (dk ((List.range n1).map fun i => dkD (row l1 5 i)) i).en (dk ((List.range n1).map fun i => dkD (row l1 5 i)) i).es ∧ IntAt w ra (dk ((List.range n1).map fun i => dkD (row l1 5 i)) i).rn (dk ((List.range n1).map fun i => dkD (row l1 5 i)) i).rs
      rw [DK1 i hi]
      exact ⟨ea, ec, ra, rc, h5, h6, h7⟩
  · rcases at_rows A2 with h0 | ⟨b, o, rfl, hr⟩
    · exact .inl h0
    · refine .inr ⟨b, o, rfl, fun i hi => ?_⟩
      obtain ⟨us, hu, hc⟩ := hr i hi
      exact at_thread hu (T2.rowL hi) hc
  · rcases at_rows A4 with h0 | ⟨b, o, rfl, hr⟩
    · exact .inl h0
    · refine .inr ⟨b, o, rfl, fun i hi => ?_⟩
      obtain ⟨us, hu, hc⟩ := hr i hi
      exact at_call hu (T4.rowL hi) hc
  · rcases HD with h0 | ⟨b, o, rfl, hr⟩
    · exact .inl h0
    · refine .inr ⟨b, o, rfl, fun i hi => ?_⟩
      obtain ⟨ea, ec, ra, rc, h5, _, _, h8⟩ := hr i hi
      show ∃ ea ec, w.cell? ⟨b, o + i * 5 + 2, none⟩ = some (.slice ea (dk ((List.range n1).map fun i => dkD (row l1 5 i)) i).en ec) ∧ (dk ((List.range n1).map fun i => dkD (row l1 5 i)) i).en ≤ ec
      rw [DK1 i hi]
      exact ⟨ea, ec, h5.2.2.1, h8⟩
theorem forms8 {q : Bool} {w : World} {us : List Value} {cs : List Cel} (h : AtL q w us cs) (hs : HasL cs tyMachine) :
    ∃ b0 m0 k0 b1 m1 k1 b2 m2 k2 j3 b4 m4 k4 b5 m5 k5 b6 m6 k6 j7, us = [.slice b0 m0 k0, .slice b1 m1 k1, .slice b2 m2 k2, .int .i64 j3, .slice b4 m4 k4, .slice b5 m5 k5, .slice b6 m6 k6, .int .i64 j7] := by
  obtain ⟨x0, r0, rfl, T0, hH0⟩ := hs.cons
  obtain ⟨x1, r1, rfl, T1, hH1⟩ := hH0.cons
  obtain ⟨x2, r2, rfl, T2, hH2⟩ := hH1.cons
  obtain ⟨x3, r3, rfl, T3, hH3⟩ := hH2.cons
  obtain ⟨x4, r4, rfl, T4, hH4⟩ := hH3.cons
  obtain ⟨x5, r5, rfl, T5, hH5⟩ := hH4.cons
  obtain ⟨x6, r6, rfl, T6, hH6⟩ := hH5.cons
  obtain ⟨x7, r7, rfl, T7, hH7⟩ := hH6.cons
  obtain rfl := hH7.nil
  obtain ⟨v0, vr0, rfl, A0, hA0⟩ := h.consE
  obtain ⟨v1, vr1, rfl, A1, hA1⟩ := hA0.consE
  obtain ⟨v2, vr2, rfl, A2, hA2⟩ := hA1.consE
  obtain ⟨v3, vr3, rfl, A3, hA3⟩ := hA2.consE
  obtain ⟨v4, vr4, rfl, A4, hA4⟩ := hA3.consE
  obtain ⟨v5, vr5, rfl, A5, hA5⟩ := hA4.consE
  obtain ⟨v6, vr6, rfl, A6, hA6⟩ := hA5.consE
  obtain ⟨v7, vr7, rfl, A7, hA7⟩ := hA6.consE
  obtain rfl := hA7.nilE
  obtain ⟨n0, l0, rfl, e0⟩ := T0.list
  obtain ⟨n1, l1, rfl, e1⟩ := T1.list
  obtain ⟨n2, l2, rfl, e2⟩ := T2.list
  obtain ⟨y3, rfl⟩ := T3.int
  obtain ⟨n4, l4, rfl, e4⟩ := T4.list
  obtain ⟨n5, l5, rfl, e5⟩ := T5.list
  obtain ⟨n6, l6, rfl, e6⟩ := T6.list
  obtain ⟨y7, rfl⟩ := T7.int
  obtain rfl := A3.int
  obtain rfl := A7.int
  obtain ⟨a0, c0, rfl⟩ := A0.slice
  obtain ⟨a1, c1, rfl⟩ := A1.slice
  obtain ⟨a2, c2, rfl⟩ := A2.slice
  obtain ⟨a4, c4, rfl⟩ := A4.slice
  obtain ⟨a5, c5, rfl⟩ := A5.slice
  obtain ⟨a6, c6, rfl⟩ := A6.slice
  exact ⟨_, _, _, _, _, _, _, _, _, _, _, _, _, _, _, _, _, _, _, _, rfl⟩
theorem wf_held {cs : List Cel} (hw : WfL cs) (hs : HasL cs tyMachine) : ∀ x ∈ (maD cs).hs, (Lit.int .i64 x).wf = true := by
  intro x hx
  obtain ⟨x0, r0, rfl, T0, hH0⟩ := hs.cons
  obtain ⟨x1, r1, rfl, T1, hH1⟩ := hH0.cons
  obtain ⟨x2, r2, rfl, T2, hH2⟩ := hH1.cons
  obtain ⟨x3, r3, rfl, T3, hH3⟩ := hH2.cons
  obtain ⟨x4, r4, rfl, T4, hH4⟩ := hH3.cons
  obtain ⟨x5, r5, rfl, T5, hH5⟩ := hH4.cons
  obtain ⟨x6, r6, rfl, T6, hH6⟩ := hH5.cons
  obtain ⟨n6, l6, rfl, e6⟩ := T6.list
  have h6 := hw 6 _ rfl
  have hx : x ∈ nums l6 := hx
  unfold nums at hx
  obtain ⟨c, hc, rfl⟩ := List.mem_map.1 hx
  obtain ⟨j, hj, rfl⟩ := List.getElem_of_mem hc
  cases h6 with
  | l _ _ _ _ h =>
    have hcj := h j _ (List.getElem?_eq_getElem hj)
    cases T6 with
    | l _ _ _ _ _ hk hl hh =>
      have ht := hh j _ .i (List.getElem?_eq_getElem hj) (by rw [Nat.mod_one]; rfl)
      obtain ⟨y, hy⟩ := ht.int
      rw [hy] at hcj ⊢
      cases hcj with
      | i _ h => exact h
end Go.Proofs.YthdpicmcgofghasGreat
