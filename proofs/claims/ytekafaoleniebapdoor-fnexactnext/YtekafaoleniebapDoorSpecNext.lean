/- spec.l5Know and what goes through an op's words, walked. -/
import Derived.Test.YtekafaoleniebapDoorNextM
import Derived.Test.YtekafaoleniebapDoorFar
import Derived.Test.YtekafaoleniebapDoorRowAt
import Derived.Test.YtekafaoleniebapDoorOwnerAt
import Derived.Test.YtekafaoleniebapDoorCountAt
import Derived.Test.YtekafaoleniebapDoorStateAt
import Derived.Test.YtekafaoleniebapDoorViaAt
import Derived.Test.YtekafaoleniebapDoorKeyOk
import Derived.Test.YtekafaoleniebapDoorValOk
namespace Go.Proofs.YtekafaoleniebapDoor
open Go.ChangeShapes Go.WideShapes Go.ChangeAt Go.RowKit

/-- How far one has come, in its block. -/
def WBox (w : World) (b : Nat) (a : Option Addr) (n c : Nat) (s : Work) : Prop := w.heap[b]? = some (.cells #[.slice a n c, .int .i64 s.1, .bool s.2] 35)
theorem WBox.facts {w : World} {b n c : Nat} {a : Option Addr} {s : Work} (h : WBox w b a n c s) : w.cell? ⟨b, 0, none⟩ = some (.slice a n c) ∧ w.cell? ⟨b, 1, none⟩ = some (.int .i64 s.1) ∧ w.cell? ⟨b, 2, none⟩ = some (.bool s.2) ∧ w.frozen? ⟨b, 1, none⟩ = false ∧ w.frozen? ⟨b, 2, none⟩ = false ∧ b < w.heap.size := by
  unfold WBox at h
  exact ⟨by simp [World.cell?, h], by simp [World.cell?, h], by simp [World.cell?, h], by simp [World.frozen?, h], by simp [World.frozen?, h], (Array.getElem?_eq_some_iff.1 h).1⟩
theorem WBox.bel {w w' : World} {b n c : Nat} {a : Option Addr} {s : Work} (h : WBox w b a n c s) (hb : Below w.heap.size w w') : WBox w' b a n c s := by
  unfold WBox at h ⊢
  rw [hb.block b (Array.getElem?_eq_some_iff.1 h).1]
  exact h
theorem WBox.put1 {w : World} {b n c : Nat} {a : Option Addr} {s : Work} (h : WBox w b a n c s) (x : Int) : WBox (w.setCell ⟨b, 1, none⟩ (.int .i64 x)) b a n c (x, s.2) := by
  unfold WBox at h ⊢
  obtain ⟨hlt, h'⟩ := Array.getElem?_eq_some_iff.1 h
  show (w.heap.modify b _)[b]? = _
  rw [Array.getElem?_eq_getElem (by simpa using hlt), Array.getElem_modify_self, h']
  rfl
theorem WBox.put2 {w : World} {b n c : Nat} {a : Option Addr} {s : Work} (h : WBox w b a n c s) (x : Bool) : WBox (w.setCell ⟨b, 2, none⟩ (.bool x)) b a n c (s.1, x) := by
  unfold WBox at h ⊢
  obtain ⟨hlt, h'⟩ := Array.getElem?_eq_some_iff.1 h
  show (w.heap.modify b _)[b]? = _
  rw [Array.getElem?_eq_getElem (by simpa using hlt), Array.getElem_modify_self, h']
  rfl
/-- All but block b is as it was: a store there. -/
theorem far_own {w0 w : World} {b : Nat} (h : w0.grownBy w (some b)) (o : Nat) (v : Value) : w0.grownBy (w.setCell ⟨b, o, none⟩ v) (some b) :=
  ⟨h.os, h.tape, h.output, by simpa [World.setCell] using h.size, fun k hk hr => by rw [Below.heap_setCell _ _ _ _ (fun e => hr (by rw [e]))]; exact h.block k hk hr⟩
theorem PairAt.far {w w' : World} {b : Nat} {a : Option Addr} {n : Nat} {fs : List Int} (h : PairAt w a n fs) (hg : w.grownBy w' (some b)) (hq : ∀ q, a = some q → n ≠ 0 → q.block ≠ b) : PairAt w' a n fs := by
  obtain ⟨h1, h2, h3 | ⟨p, o, h3, h4⟩⟩ := h
  · exact ⟨h1, h2, .inl h3⟩
  · by_cases h0 : n = 0
    · exact ⟨h1, h2, .inl h0⟩
    have hp : p ≠ b := hq ⟨p, o, none⟩ h3 h0
    exact ⟨h1, h2, .inr ⟨p, o, h3, fun i hi => far_cell hg (h4 i hi) hp⟩⟩

set_option maxHeartbeats 1000000 in
theorem l5Know_any (b : Nat) (a : Option Addr) (n c : Nat) (s : Work) (at_ : Int) (fs : List Int) (w : World) (hW : WBox w b a n c s) (hP : PairAt w a n fs) :
    Calls Tryd.prog 26 #[.pointer (some ⟨b, 0, none⟩), .int .i64 at_] w fun e w' => e = .returned (.int .i64 (knowM fs n s at_).2) ∧ WBox w' b a n c (knowM fs n s at_).1 ∧ w.grownBy w' (some b) := by
  have HW : Hid (WBox w b a n c s) := hW
  have HP : Hid (PairAt w a n fs) := hP
  obtain ⟨c0, c1, c2, f1, f2, bl⟩ := hW.facts
  clear hW hP
  obtain ⟨s1, s2⟩ := s
  obtain ⟨R, hR⟩ : ∃ R, knowM fs n (s1, s2) at_ = R := ⟨_, rfl⟩
  have HR : Hid (knowM fs n (s1, s2) at_ = R) := hR
  rw [hR]
  clear hR
  cases s2
  · go_enter Tryd.func26, Tryd.ntmps26
    go_wp2_with fail
    refine (specRead_any a n c at_ fs _ HP.out).mono ?_
    rintro e w1 ⟨rfl, hb1⟩
    obtain ⟨q, hq⟩ : ∃ q, readF fs at_ n = q := ⟨_, rfl⟩
    have HQ : Hid (readF fs at_ n = q) := hq
    rw [hq]
    clear hq
    obtain ⟨q1, q2⟩ := q
    have hW1 := HW.out.bel hb1
    have HF : Hid (w.grownBy w1 (some b)) := far_below hb1 _
    clear c0 c1 c2 f1 f2 bl
    obtain ⟨c0, c1, c2, f1, f2, bl⟩ := hW1.facts
    have HW1 : Hid (WBox w1 b a n c (s1, false)) := hW1
    clear hb1 hW1
    cases q2
    · have HE : Hid (R = ((at_, true), 0)) := HR.out.symm.trans (by unfold knowM; rw [HQ.out]; simp)
      go_wp2
      go_ret
      rw [HE.out]
      exact ⟨rfl, (HW1.out.put2 true).put1 at_, far_own (far_own HF.out 2 _) 1 _⟩
    · by_cases hat : at_ < 0
      · have HE : Hid (R = ((at_, true), 0)) := HR.out.symm.trans (by unfold knowM; rw [HQ.out]; simp [hat])
        go_wp2
        go_ret
        rw [HE.out]
        exact ⟨rfl, (HW1.out.put2 true).put1 at_, far_own (far_own HF.out 2 _) 1 _⟩
      · have HE : Hid (R = ((s1, false), q1)) := HR.out.symm.trans (by unfold knowM; rw [HQ.out]; simp [hat])
        go_wp2
        go_ret
        rw [HE.out]
        exact ⟨rfl, HW1.out, HF.out⟩
  · have HE : Hid (R = ((s1, true), 0)) := HR.out.symm.trans rfl
    go_enter Tryd.func26, Tryd.ntmps26
    go_wp2
    go_ret
    rw [HE.out]
    exact ⟨rfl, HW.out, World.grownBy.refl _ _⟩

set_option maxHeartbeats 1000000 in
theorem l5If_any (b : Nat) (a : Option Addr) (n c : Nat) (s : Work) (x : Bool) (w : World) (hW : WBox w b a n c s) :
    Calls Tryd.prog 32 #[.pointer (some ⟨b, 0, none⟩), .bool x] w fun e w' => e = .returned (.tuple #[]) ∧ WBox w' b a n c (s.1, s.2 || x) ∧ w.grownBy w' (some b) := by
  have HW : Hid (WBox w b a n c s) := hW
  obtain ⟨c0, c1, c2, f1, f2, bl⟩ := hW.facts
  clear hW
  obtain ⟨s1, s2⟩ := s
  cases s2 <;> cases x
  all_goals
    go_enter Tryd.func32, Tryd.ntmps32
    go_wp2
    go_end0
    exact ⟨rfl, HW.out.put2 _, far_own (World.grownBy.refl _ _) 2 _⟩

/-- While an op's words are gone through. -/
structure NextSt (w : World) (b : Nat) (a : Option Addr) (n c : Nat) (fs : List Int) (wr : World) (s : Work) : Prop where
  box : WBox wr b a n c s
  ps : PairAt wr a n fs
  far : w.grownBy wr (some b)
theorem NextSt.know {w wr wr' : World} {b n c : Nat} {a : Option Addr} {fs : List Int} {s s' : Work} (h : NextSt w b a n c fs wr s) (hq : ∀ q, a = some q → n ≠ 0 → q.block ≠ b) (hW : WBox wr' b a n c s') (hf : wr.grownBy wr' (some b)) : NextSt w b a n c fs wr' s' :=
  ⟨hW, h.ps.far hf hq, h.far.trans hf⟩

set_option maxHeartbeats 2000000 in
theorem l5Via_any (b : Nat) (a : Option Addr) (n c : Nat) (s : Work) (k : Int) (g : Nat) (vs : List Int) (m : Nat) (fs : List Int) (w : World) (hq : ∀ q, a = some q → n ≠ 0 → q.block ≠ b) (hW : WBox w b a n c s) (hP : PairAt w a n fs) (hk : 0 ≤ k ∧ k ≤ 3) (hg : g ≠ b) (hm : m ≤ 2) (hv : IntAt w (some ⟨g, 0, none⟩) m vs) :
    Calls Tryd.prog 38 #[.pointer (some ⟨b, 0, none⟩), .int .i64 k, .slice (some ⟨g, 0, none⟩) m m] w fun e w' => e = .returned (.tuple #[]) ∧ WBox w' b a n c (viaM fs n s k vs) ∧ w.grownBy w' (some b) := by
  have HV : Hid (IntAt w (some ⟨g, 0, none⟩) m vs) := hv
  have HQ : Hid (∀ q, a = some q → n ≠ 0 → q.block ≠ b) := hq
  have HS : Hid (NextSt w b a n c fs w s) := ⟨hW, hP, World.grownBy.refl _ _⟩
  have hl := hv.1
  clear hW hP hv hq
  go_enter Tryd.func38, Tryd.ntmps38
  go_wp2_with fail
  refine (specStateAt_any _).mono ?_
  rintro e w0 ⟨rfl, rfl⟩
  go_wp2_with fail
  refine (l5Know_any b a n c s 13 fs _ HS.out.box HS.out.ps).mono ?_
  rintro e w1 ⟨rfl, hW1, hf1⟩
  obtain ⟨r, hr⟩ : ∃ r, knowM fs n s 13 = r := ⟨_, rfl⟩
  rw [hr] at hW1
  rw [hr]
  have HV2 : Hid (viaM fs n s k vs = if k + 1 < r.2 then vs.foldl (fun s v => (knowM fs n s (placeN 5 v)).1) r.1 else r.1) := by rw [← hr]; rfl
  have HS1 : Hid (NextSt w0 b a n c fs w1 r.1) := HS.out.know HQ.out hW1 hf1
  clear hr hW1 hf1 HS
  obtain ⟨r1, r2⟩ := r
  by_cases hn : k + 1 < r2
  · have HV3 : Hid (viaM fs n s k vs = vs.foldl (fun s v => (knowM fs n s (placeN 5 v)).1) r1) := HV2.out.trans (if_pos hn)
    have hn1 : decide (k + 1 < r2) = true := decide_eq_true hn
    clear HV2
    go_wp2_with fail
    go_loopw [7] (fun i wr => ∃ j : Nat, j ≤ m ∧ i = .int .i64 j ∧ NextSt w0 b a n c fs wr ((vs.take j).foldl (fun s v => (knowM fs n s (placeN 5 v)).1) r1)) (fun i _ => m - (intOf i).toNat)
    case atStart => exact ⟨0, Nat.zero_le _, rfl, HS1.out⟩
    case round =>
      obtain ⟨j, hj, rfl, hS⟩ := hrel
      have HSj : Hid (NextSt w0 b a n c fs wr ((vs.take j).foldl (fun s v => (knowM fs n s (placeN 5 v)).1) r1)) := hS
      clear hS
      by_cases hlt : j < m
      · have hj0 : (0 : Int) ≤ (j : Int) := by omega
        have hj1 : (j : Int) < (m : Int) := by omega
        obtain ⟨x, hx⟩ : ∃ x, vs.getD j 0 = x := ⟨_, rfl⟩
        have e1 : wr.cell? ⟨g, 0 + j, none⟩ = some (I (vs.getD j 0)) := far_cell HSj.out.far (HV.out.cells j hlt) hg
        rw [hx, Nat.zero_add] at e1
        have HX : Hid ((vs.take (j + 1)).foldl (fun s v => (knowM fs n s (placeN 5 v)).1) r1 = (knowM fs n ((vs.take j).foldl (fun s v => (knowM fs n s (placeN 5 v)).1) r1) (placeN 5 x)).1) := by
          have hj' : j < vs.length := by omega
          have ex : vs[j] = x := by rw [← hx]; simp [List.getD, hj']
          show (vs.take (j + 1)).foldl _ r1 = _
          rw [List.take_succ_eq_append_getElem hj', List.foldl_append, ex]
          rfl
        clear hx
        go_wp2_with fail
        refine (specViaAt_any x _).mono ?_
        rintro e w2 ⟨rfl, rfl⟩
        go_wp2_with fail
        refine (l5Know_any b a n c _ (placeN 5 x) fs _ HSj.out.box HSj.out.ps).mono ?_
        rintro e w3 ⟨rfl, hW3, hf3⟩
        have HS3 : Hid (NextSt w0 b a n c fs w3 ((vs.take (j + 1)).foldl (fun s v => (knowM fs n s (placeN 5 v)).1) r1)) := by
          show NextSt w0 b a n c fs w3 _
          rw [HX.out]
          exact HSj.out.know HQ.out hW3 hf3
        clear hW3 hf3 e1
        go_wp2
        exact ⟨⟨j + 1, by omega, by go_num, HS3.out⟩, by simp [intOf]; omega⟩
      · obtain rfl : j = m := by omega
        have HT : Hid (vs.take j = vs) := List.take_of_length_le (by omega)
        go_wp2
        go_end0
        rw [HV3.out]
        have h := HSj.out
        rw [HT.out] at h
        exact ⟨rfl, h.box, h.far⟩
  · have HV3 : Hid (viaM fs n s k vs = r1) := HV2.out.trans (if_neg hn)
    have hn1 : decide (k + 1 < r2) = false := decide_eq_false hn
    clear HV2
    go_wp2_with fail
    go_loopw [7] (fun i wr => i = .int .i64 0 ∧ NextSt w0 b a n c fs wr r1) (fun _ _ => 0)
    case atStart => exact ⟨rfl, HS1.out⟩
    case round =>
      obtain ⟨rfl, hS⟩ := hrel
      have HSj : Hid (NextSt w0 b a n c fs wr r1) := hS
      clear hS
      by_cases hm0 : m = 0
      · subst hm0
        go_wp2
        go_end0
        rw [HV3.out]
        exact ⟨rfl, HSj.out.box, HSj.out.far⟩
      · have hm1 : (0 : Int) < (m : Int) := by omega
        go_wp2
        go_end0
        rw [HV3.out]
        exact ⟨rfl, HSj.out.box, HSj.out.far⟩
end Go.Proofs.YtekafaoleniebapDoor
