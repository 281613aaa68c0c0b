/- The law FnAllowed, walked: what comes of an op that is allowed of drawn rows leaves them right; what is refused leaves them as they were. -/
import Derived.Test.YtlnhmmpmnflagadDrawSame
import Derived.Test.YtlnhmmpmnflagadImplAfter
import Derived.Test.YtlnhmmpmnflagadRowsRoom
import Derived.Test.YtlnhmmpmnflagadAfterOk
namespace Go.Proofs.Ytlnhmmpmnflagad
open Go.ChangeShapes Go.WideShapes Go.ChangeAt Go.RowKit

theorem RBox.bel {w w' : World} {b n c : Nat} {a : Option Addr} {st : Int} (h : RBox w b a n c st) (hb : Below w.heap.size w w') : RBox w' b a n c st := h.far (p := w.heap.size) (far_below hb _) (by have := h.facts.2.2.2.2; omega)
theorem OBox.bel {w w' : World} {b : Nat} {kind k v : Int} (h : OBox w b kind k v) (hb : Below w.heap.size w w') : OBox w' b kind k v := h.far (p := w.heap.size) (far_below hb _) (by have := h.facts.2.2.2.2.2.2; omega)
theorem SBox.bel {w w' : World} {b n c : Nat} {a : Option Addr} {code : Int} (h : SBox w b code a n c) (hb : Below w.heap.size w w') : SBox w' b code a n c := h.far (p := w.heap.size) (far_below hb _) (by have := h.facts.2.2.2.2; omega)

set_option maxHeartbeats 1000000 in
theorem sameInts_any (a1 a2 : Option Addr) (n1 n2 c1 c2 : Nat) (xs ys : List Int) (w : World) (h1 : IntAt w a1 n1 xs) (h2 : IntAt w a2 n2 ys) :
    Calls Try.prog 12 #[.slice a1 n1 c1, .slice a2 n2 c2] w fun e w' => e = .returned (.bool (decide (xs = ys))) ∧ Below w.heap.size w w' := by
  have H1 : Hid (IntAt w a1 n1 xs) := h1
  have H2 : Hid (IntAt w a2 n2 ys) := h2
  have L1 : Hid (xs.length = n1) := h1.1
  have L2 : Hid (ys.length = n2) := h2.1
  have b1 := h1.2.1
  have b2 := h2.2.1
  obtain ⟨B, hB⟩ : ∃ B, decide (xs = ys) = B := ⟨_, rfl⟩
  rw [hB]
  have HB : Hid (decide (xs = ys) = B) := hB
  clear h1 h2 hB
  by_cases hn : n1 = n2
  · subst hn
    go_enter Try.func12, Try.ntmps12
    go_wp2
    go_loopw [5] (fun i wr => ∃ k : Nat, k ≤ n1 ∧ i = .int .i64 k ∧ xs.take k = ys.take k ∧ Below w.heap.size w wr) (fun i _ => n1 - (intOf i).toNat)
    case atStart => exact ⟨0, Nat.zero_le _, rfl, rfl, Below.refl _ _⟩
    case round =>
      obtain ⟨k, hk1, rfl, ht, hb⟩ := hrel
      have HT : Hid (xs.take k = ys.take k) := ht
      clear ht
      by_cases hlt1 : k < n1
      · rcases (H1.out.below hb (Nat.le_refl _)).2.2 with h | ⟨p1, o1, rfl, g1⟩
        · omega
        rcases (H2.out.below hb (Nat.le_refl _)).2.2 with h | ⟨p2, o2, rfl, g2⟩
        · omega
        obtain ⟨x, hx⟩ : ∃ x, xs.getD k 0 = x := ⟨_, rfl⟩
        obtain ⟨y, hy⟩ : ∃ y, ys.getD k 0 = y := ⟨_, rfl⟩
        have e1 := g1 k hlt1
        have e2 := g2 k hlt1
        rw [hx] at e1
        rw [hy] at e2
        have HX : Hid (xs.getD k 0 = x) := hx
        have HY : Hid (ys.getD k 0 = y) := hy
        clear g1 g2 hx hy
        go_wp2
        go_region
        go_wp2
        · have hd : (x != y) = true := by assumption
          go_ret
          refine ⟨?_, hb.drew⟩
          have e : xs ≠ ys := fun e => by rw [← HX.out, ← HY.out, e] at hd; simp at hd
          rw [← HB.out]
          simp [e]
        · have hd : (x != y) = false := by assumption
          have l1 := L1.out
          have l2 := L2.out
          exact ⟨⟨k + 1, by omega, by go_num, take_nextI (by omega) (by omega) HT.out (by rw [HX.out, HY.out]; simpa using hd), hb.drew⟩, by simp [intOf]; omega⟩
      · obtain rfl : k = n1 := by omega
        go_wp2
        go_ret
        refine ⟨?_, hb⟩
        have l1 := L1.out
        have l2 := L2.out
        have e : xs = ys := by
          have e0 := HT.out
          rwa [List.take_of_length_le (by omega), List.take_of_length_le (by omega)] at e0
        rw [← HB.out]
        simp [e]
  · have hne : ((n1 : Int) != (n2 : Int)) = true := by simp; omega
    have hxy : xs ≠ ys := fun e => by have l1 := L1.out; have l2 := L2.out; rw [e] at l1; omega
    have HX : Hid (xs ≠ ys) := hxy
    clear hxy
    go_enter Try.func12, Try.ntmps12
    go_wp2
    go_ret
    refine ⟨?_, Below.refl _ _⟩
    rw [← HB.out]
    simp [HX.out]

theorem big_no (a : Option Addr) (n c : Nat) (w : World) (h : n ≤ 1048576) : Calls Try.prog 4 #[.slice a n c] w fun e w' => e = .returned (.bool false) ∧ w' = w := by
  have hn' : ¬ 1048576 < n := by omega
  go_enter Try.func4, Try.ntmps4
  go_wp2
  go_ret
  refine ⟨?_, rfl⟩
  show Ending.returned (.bool (decide ((1048576 : Int) < (n : Int)))) = _
  rw [decide_eq_false (by omega)]

theorem after_same {xs : List Int} {st kind k v code : Int} {ys zs : List Int} {st' : Int} (h : AfterM xs st kind k v code ys zs st') (hn : ¬ (AllowM xs st kind k v code ys ∧ code = 0)) : zs = xs ∧ st' = st := by
  rcases h with ⟨h1, h2, _⟩ | ⟨_, h⟩
  · exact absurd ⟨h1, h2⟩ hn
  · exact h
theorem ok_wf {xs : List Int} {st : Int} (h : OkRows xs st) : ∀ x ∈ xs, (Lit.int .i64 x).wf = true := by
  obtain ⟨y0, y1, y2, y3, rfl⟩ := four_of h.1
  have hf := ((okFour_iff y0 y1 y2 y3 st).1 h).2
  unfold OkFour at hf
  intro x hx
  simp only [List.mem_cons, List.not_mem_nil, or_false] at hx
  exact WalkArith.wf_i64 (by omega)

/-- The drawn rows, op and result in their boxes. -/
structure L1 (w : World) (g m : Nat) (st : Int) (xs : List Int) (kind k v code : Int) (a' : Option Addr) (m' c' : Nat) (ys : List Int) (br bo bs : Nat) (wr : World) : Prop where
  rb : RBox wr br (some ⟨g, 0, none⟩) m 4 st
  ob : OBox wr bo kind k v
  sb : SBox wr bs code a' m' c'
  ri : IntAt wr (some ⟨g, 0, none⟩) m xs
  si : IntAt wr a' m' ys
  bel : Below w.heap.size w wr
theorem L1.bel' {w wr wr' : World} {g m : Nat} {st : Int} {xs : List Int} {kind k v code : Int} {a' : Option Addr} {m' c' : Nat} {ys : List Int} {br bo bs : Nat} (h : L1 w g m st xs kind k v code a' m' c' ys br bo bs wr) (hb : Below wr.heap.size wr wr') : L1 w g m st xs kind k v code a' m' c' ys br bo bs wr' :=
  ⟨h.rb.bel hb, h.ob.bel hb, h.sb.bel hb, h.ri.below hb (Nat.le_refl _), h.si.below hb (Nat.le_refl _), h.bel.trans (hb.mono h.bel.size)⟩

/-- .. and what After made of them, twice. -/
structure L3 (w : World) (g m : Nat) (st : Int) (xs : List Int) (kind k v code : Int) (a' : Option Addr) (m' c' : Nat) (ys : List Int) (br bo bs : Nat) (aa : Option Addr) (ca : Nat) (ab : Option Addr) (cb : Nat) (sta : Int) (zs : List Int) (ba bb : Nat) (wr : World) : Prop where
  l1 : L1 w g m st xs kind k v code a' m' c' ys br bo bs wr
  ra : RBox wr ba aa m ca sta
  ai : IntAt wr aa m zs
  rb2 : RBox wr bb ab m cb sta
  bi : IntAt wr ab m zs
theorem L3.bel' {w wr wr' : World} {g m : Nat} {st : Int} {xs : List Int} {kind k v code : Int} {a' : Option Addr} {m' c' : Nat} {ys : List Int} {br bo bs : Nat} {aa : Option Addr} {ca : Nat} {ab : Option Addr} {cb : Nat} {sta : Int} {zs : List Int} {ba bb : Nat} (h : L3 w g m st xs kind k v code a' m' c' ys br bo bs aa ca ab cb sta zs ba bb wr) (hb : Below wr.heap.size wr wr') : L3 w g m st xs kind k v code a' m' c' ys br bo bs aa ca ab cb sta zs ba bb wr' :=
  ⟨h.l1.bel' hb, h.ra.bel hb, h.ai.below hb (Nat.le_refl _), h.rb2.bel hb, h.bi.below hb (Nat.le_refl _)⟩
/-- Two results in their boxes. -/
structure XY (k1 : Int) (a1 : Option Addr) (n1 c1 : Nat) (k2 : Int) (a2 : Option Addr) (n2 c2 : Nat) (us vs : List Int) (bx b_y : Nat) (wr : World) : Prop where
  x : SBox wr bx k1 a1 n1 c1
  y : SBox wr b_y k2 a2 n2 c2
  xi : IntAt wr a1 n1 us
  yi : IntAt wr a2 n2 vs
theorem XY.bel' {wr wr' : World} {k1 : Int} {a1 : Option Addr} {n1 c1 : Nat} {k2 : Int} {a2 : Option Addr} {n2 c2 : Nat} {us vs : List Int} {bx b_y : Nat} (h : XY k1 a1 n1 c1 k2 a2 n2 c2 us vs bx b_y wr) (hb : Below wr.heap.size wr wr') : XY k1 a1 n1 c1 k2 a2 n2 c2 us vs bx b_y wr' :=
  ⟨h.x.bel hb, h.y.bel hb, h.xi.below hb (Nat.le_refl _), h.yi.below hb (Nat.le_refl _)⟩

set_option maxHeartbeats 4000000 in
set_option maxRecDepth 100000 in
theorem walkAllowed (a : Option Addr) (n c : Nat) (w : World) (hB : BytesAt w w.heap.size a n) :
    Calls Try.prog 3 #[.slice a n c] w fun e w' => e = .returned (.bool true) ∧ Below w.heap.size w w' := by
  have HB : Hid (BytesAt w w.heap.size a n) := hB
  clear hB
  by_cases hn : n ≤ 1048576
  case neg =>
    go_enter Try.func3, Try.ntmps3
    go_wp2
    go_ret
    exact ⟨rfl, Below.refl _ _⟩
  go_enter Try.func3, Try.ntmps3
  go_wp2_with fail
  refine (big_no a n c _ hn).mono ?_
  rintro e w0 ⟨rfl, rfl⟩
  go_wp2_with fail
  refine (drawAllowed_any a n c _ hn HB.out).mono ?_
  rintro e w1 ⟨g, m, st, xs, kind, k, v, code, a', m', c', ys, rfl, hm, hI, hsm, hst, hJ, hb1⟩
  have HSM : Hid ((m = 4 ∨ m = 2) ∧ Small xs) := ⟨hm, hsm⟩
  have HI1 : Hid (IntAt w1 (some ⟨g, 0, none⟩) m xs) := hI
  have HJ1 : Hid (IntAt w1 a' m' ys) := hJ
  have HB1 : Hid (Below w0.heap.size w0 w1) := hb1
  clear hI hJ hsm hst hb1 hm
  go_wp2_with fail
  obtain ⟨W1, hW1⟩ : ∃ W1, W1 = ((w1.alloc (.cells #[.slice (some ⟨g, 0, none⟩) m 4, .int .i64 st] 26)).alloc (.cells #[.int .i64 kind, .int .i64 k, .int .i64 v] 28)).alloc (.cells #[.int .i64 code, .slice a' m' c'] 30) := ⟨_, rfl⟩
  have hbW : Below w1.heap.size w1 W1 := by rw [hW1]; exact (((Below.refl _ w1).alloc (Nat.le_refl _) _).alloc (by simp) _).alloc (by simp; omega) _
  have h1 : RBox W1 w1.heap.size (some ⟨g, 0, none⟩) m 4 st := by
    rw [hW1]
    exact ((rbox_new w1 _ _ _ _).bel ((Below.refl _ _).alloc (Nat.le_refl _) _)).bel ((Below.refl _ _).alloc (Nat.le_refl _) _)
  have h2 : OBox W1 (w1.heap.size + 1) kind k v := by
    rw [hW1]
    have h := (obox_new (w1.alloc (.cells #[.slice (some ⟨g, 0, none⟩) m 4, .int .i64 st] 26)) kind k v).bel ((Below.refl _ _).alloc (Nat.le_refl _) (.cells #[.int .i64 code, .slice a' m' c'] 30))
    simpa using h
  have h3 : SBox W1 (w1.heap.size + 1 + 1) code a' m' c' := by
    rw [hW1]
    have h := sbox_new ((w1.alloc (.cells #[.slice (some ⟨g, 0, none⟩) m 4, .int .i64 st] 26)).alloc (.cells #[.int .i64 kind, .int .i64 k, .int .i64 v] 28)) code a' m' c'
    simpa using h
  have S1 : Hid (L1 w0 g m st xs kind k v code a' m' c' ys w1.heap.size (w1.heap.size + 1) (w1.heap.size + 1 + 1) W1) := ⟨h1, h2, h3, HI1.out.below hbW (Nat.le_refl _), HJ1.out.below hbW (Nat.le_refl _), HB1.out.trans (hbW.mono HB1.out.size)⟩
  rw [← hW1]
  clear hW1 hbW h1 h2 h3 HI1 HJ1 HB1
  refine (implAllowed_cap g 0 m 4 m' c' a' st kind k v code xs ys _ (fun _ => rfl) S1.out.ri S1.out.si HSM.out.2.wf).mono ?_
  rintro e w2 ⟨⟨ok, rfl, hok⟩, hb2⟩
  have S2 : Hid (L1 w0 g m st xs kind k v code a' m' c' ys w1.heap.size (w1.heap.size + 1) (w1.heap.size + 1 + 1) w2) := S1.out.bel' hb2
  have HOK : Hid (ok = true ↔ AllowM xs st kind k v code ys) := hok
  clear hok hb2 S1
  obtain ⟨r0, r1, -⟩ := S2.out.rb.facts
  obtain ⟨o0, o1, o2, -⟩ := S2.out.ob.facts
  obtain ⟨s0, s1, -⟩ := S2.out.sb.facts
  go_wp2_with fail
  refine (implAfter_cap a' g 0 m 4 m' c' st kind k v code xs ys _ (fun _ => rfl) S2.out.ri S2.out.si HSM.out.2.wf).mono ?_
  rintro e w3 ⟨⟨zs, sta, aa, ca, rfl, hAM, own3⟩, hb3⟩
  obtain ⟨a9, c9, e9, hai⟩ := own_at own3 S2.out.ri.2.1
  cases e9
  have HAM : Hid (AfterM xs st kind k v code ys zs sta) := hAM
  have hb3a : Below w2.heap.size w2 (w3.alloc (.cells #[.slice aa m ca, .int .i64 sta] 26)) := hb3.alloc hb3.size _
  have S3 : Hid (L1 w0 g m st xs kind k v code a' m' c' ys w1.heap.size (w1.heap.size + 1) (w1.heap.size + 1 + 1) (w3.alloc (.cells #[.slice aa m ca, .int .i64 sta] 26))) := S2.out.bel' hb3a
  have R3 : Hid (RBox (w3.alloc (.cells #[.slice aa m ca, .int .i64 sta] 26)) w3.heap.size aa m ca sta ∧ IntAt (w3.alloc (.cells #[.slice aa m ca, .int .i64 sta] 26)) aa m zs) := ⟨rbox_new _ _ _ _ _, int_alloc hai _⟩
  have HCA : Hid (m ≤ ca) := by
    show m ≤ ca
    rcases own3.2 with ⟨h, h0⟩ | ⟨g', cap, cur, hv, _, _, hle, _⟩
    · simp only [Value.slice.injEq] at h
      obtain ⟨_, h1, h2⟩ := h
      omega
    · simp only [Value.slice.injEq] at hv
      obtain ⟨_, _, h2⟩ := hv
      omega
  clear r0 r1 o0 o1 o2 s0 s1
  obtain ⟨r0, r1, -⟩ := S3.out.rb.facts
  obtain ⟨o0, o1, o2, -⟩ := S3.out.ob.facts
  obtain ⟨s0, s1, -⟩ := S3.out.sb.facts
  clear hAM own3 hai hb3 hb3a S2
  go_wp2_with fail
  refine (specAfter_any a' g 0 m 4 m' c' st kind k v code xs ys _ S3.out.ri S3.out.si).mono ?_
  rintro e w4 ⟨⟨zs2, stb, ab, cb, rfl, hBM, own4⟩, hb4⟩
  obtain ⟨rfl, rfl⟩ := AfterM.one HAM.out hBM
  obtain ⟨a9, c9, e9, hbi⟩ := own_at own4 S3.out.ri.2.1
  cases e9
  have hb4a := hb4.alloc hb4.size (.cells #[.slice ab m cb, .int .i64 sta] 26)
  have S4 : Hid (L3 w0 g m st xs kind k v code a' m' c' ys w1.heap.size (w1.heap.size + 1) (w1.heap.size + 1 + 1) aa ca ab cb sta zs w3.heap.size w4.heap.size (w4.alloc (.cells #[.slice ab m cb, .int .i64 sta] 26))) := ⟨S3.out.bel' hb4a, R3.out.1.bel hb4a, R3.out.2.below hb4a (Nat.le_refl _), rbox_new _ _ _ _ _, int_alloc hbi _⟩
  clear hBM own4 hbi hb4 hb4a S3 R3 r0 r1 o0 o1 o2 s0 s1
  go_wp2_with fail
  refine (drawResSame_any a n c _ hn (bytes_now2 HB.out S4.out.l1.bel)).mono ?_
  rintro e w5 ⟨k1, k2, a1, a2, n1, c1, n2, c2, us, vs, rfl, hU, hV, hb5⟩
  have hb5a := (hb5.alloc hb5.size (.cells #[.int .i64 k1, .slice a1 n1 c1] 30)).alloc (by have := hb5.size; simp at this ⊢; omega) (.cells #[.int .i64 k2, .slice a2 n2 c2] 30)
  have S5 : Hid (L3 w0 g m st xs kind k v code a' m' c' ys w1.heap.size (w1.heap.size + 1) (w1.heap.size + 1 + 1) aa ca ab cb sta zs w3.heap.size w4.heap.size ((w5.alloc (.cells #[.int .i64 k1, .slice a1 n1 c1] 30)).alloc (.cells #[.int .i64 k2, .slice a2 n2 c2] 30))) := S4.out.bel' hb5a
  have hy5 : SBox ((w5.alloc (.cells #[.int .i64 k1, .slice a1 n1 c1] 30)).alloc (.cells #[.int .i64 k2, .slice a2 n2 c2] 30)) (w5.heap.size + 1) k2 a2 n2 c2 := by
    have h := sbox_new (w5.alloc (.cells #[.int .i64 k1, .slice a1 n1 c1] 30)) k2 a2 n2 c2
    simpa using h
  have X5 : Hid (XY k1 a1 n1 c1 k2 a2 n2 c2 us vs w5.heap.size (w5.heap.size + 1) ((w5.alloc (.cells #[.int .i64 k1, .slice a1 n1 c1] 30)).alloc (.cells #[.int .i64 k2, .slice a2 n2 c2] 30))) := ⟨(sbox_new w5 _ _ _ _).bel ((Below.refl _ _).alloc (Nat.le_refl _) _), hy5, int_alloc (int_alloc hU _) _, int_alloc (int_alloc hV _) _⟩
  clear hU hV hb5 hb5a hy5 S4
  go_wp2_with fail
  refine (drawOpOk_any a n c _ hn (bytes_now2 HB.out S5.out.l1.bel)).mono ?_
  rintro e w6 ⟨kp, pk, pv, rfl, hb6⟩
  have hb6a := hb6.alloc hb6.size (.cells #[.int .i64 kp, .int .i64 pk, .int .i64 pv] 28)
  obtain ⟨W6, hW6⟩ : ∃ W6, W6 = w6.alloc (.cells #[.int .i64 kp, .int .i64 pk, .int .i64 pv] 28) := ⟨_, rfl⟩
  have P6 : Hid (OBox W6 w6.heap.size kp pk pv) := by rw [hW6]; exact obox_new _ _ _ _
  rw [← hW6] at hb6a
  have S6 : Hid (L3 w0 g m st xs kind k v code a' m' c' ys w1.heap.size (w1.heap.size + 1) (w1.heap.size + 1 + 1) aa ca ab cb sta zs w3.heap.size w4.heap.size W6) := S5.out.bel' hb6a
  have X6 : Hid (XY k1 a1 n1 c1 k2 a2 n2 c2 us vs w5.heap.size (w5.heap.size + 1) W6) := X5.out.bel' hb6a
  clear hb6 hb6a S5 X5
  obtain ⟨D1, hD1⟩ : ∃ D1, decide (k1 = k2 ∧ us = vs) = D1 := ⟨_, rfl⟩
  obtain ⟨D2, hD2⟩ : ∃ D2, decide (OpGood kp pk pv) = D2 := ⟨_, rfl⟩
  have HD1 : Hid (decide (k1 = k2 ∧ us = vs) = D1) := hD1
  have HD2 : Hid (decide (OpGood kp pk pv) = D2) := hD2
  clear hD1 hD2
  go_wp2_with fail
  rw [← hW6]
  clear hW6
  obtain ⟨⟨r0, r1⟩, ⟨o0, o1, o2⟩, ⟨s0, s1⟩, ⟨A0, A1⟩, ⟨B0, B1⟩, ⟨x0, x1⟩, ⟨y0, y1⟩, ⟨p0, p1, p2⟩⟩ : (W6.cell? ⟨w1.heap.size, 0, none⟩ = some (.slice (some ⟨g, 0, none⟩) m 4) ∧ W6.cell? ⟨w1.heap.size, 1, none⟩ = some (.int .i64 st)) ∧ (W6.cell? ⟨w1.heap.size + 1, 0, none⟩ = some (.int .i64 kind) ∧ W6.cell? ⟨w1.heap.size + 1, 1, none⟩ = some (.int .i64 k) ∧ W6.cell? ⟨w1.heap.size + 1, 2, none⟩ = some (.int .i64 v)) ∧ (W6.cell? ⟨w1.heap.size + 1 + 1, 0, none⟩ = some (.int .i64 code) ∧ W6.cell? ⟨w1.heap.size + 1 + 1, 1, none⟩ = some (.slice a' m' c')) ∧ (W6.cell? ⟨w3.heap.size, 0, none⟩ = some (.slice aa m ca) ∧ W6.cell? ⟨w3.heap.size, 1, none⟩ = some (.int .i64 sta)) ∧ (W6.cell? ⟨w4.heap.size, 0, none⟩ = some (.slice ab m cb) ∧ W6.cell? ⟨w4.heap.size, 1, none⟩ = some (.int .i64 sta)) ∧ (W6.cell? ⟨w5.heap.size, 0, none⟩ = some (.int .i64 k1) ∧ W6.cell? ⟨w5.heap.size, 1, none⟩ = some (.slice a1 n1 c1)) ∧ (W6.cell? ⟨w5.heap.size + 1, 0, none⟩ = some (.int .i64 k2) ∧ W6.cell? ⟨w5.heap.size + 1, 1, none⟩ = some (.slice a2 n2 c2)) ∧ (W6.cell? ⟨w6.heap.size, 0, none⟩ = some (.int .i64 kp) ∧ W6.cell? ⟨w6.heap.size, 1, none⟩ = some (.int .i64 pk) ∧ W6.cell? ⟨w6.heap.size, 2, none⟩ = some (.int .i64 pv)) := ⟨⟨S6.out.l1.rb.facts.1, S6.out.l1.rb.facts.2.1⟩, ⟨S6.out.l1.ob.facts.1, S6.out.l1.ob.facts.2.1, S6.out.l1.ob.facts.2.2.1⟩, ⟨S6.out.l1.sb.facts.1, S6.out.l1.sb.facts.2.1⟩, ⟨S6.out.ra.facts.1, S6.out.ra.facts.2.1⟩, ⟨S6.out.rb2.facts.1, S6.out.rb2.facts.2.1⟩, ⟨X6.out.x.facts.1, X6.out.x.facts.2.1⟩, ⟨X6.out.y.facts.1, X6.out.y.facts.2.1⟩, ⟨P6.out.facts.1, P6.out.facts.2.1, P6.out.facts.2.2.1⟩⟩
  go_region_held3 (fun w' => (w'.cell? ⟨w1.heap.size, 0, none⟩ = some (.slice (some ⟨g, 0, none⟩) m 4) ∧ w'.cell? ⟨w1.heap.size, 1, none⟩ = some (.int .i64 st)) ∧ (w'.cell? ⟨w1.heap.size + 1, 0, none⟩ = some (.int .i64 kind) ∧ w'.cell? ⟨w1.heap.size + 1, 1, none⟩ = some (.int .i64 k) ∧ w'.cell? ⟨w1.heap.size + 1, 2, none⟩ = some (.int .i64 v)) ∧ (w'.cell? ⟨w1.heap.size + 1 + 1, 0, none⟩ = some (.int .i64 code) ∧ w'.cell? ⟨w1.heap.size + 1 + 1, 1, none⟩ = some (.slice a' m' c')) ∧ (w'.cell? ⟨w3.heap.size, 0, none⟩ = some (.slice aa m ca) ∧ w'.cell? ⟨w3.heap.size, 1, none⟩ = some (.int .i64 sta)) ∧ (w'.cell? ⟨w4.heap.size, 0, none⟩ = some (.slice ab m cb) ∧ w'.cell? ⟨w4.heap.size, 1, none⟩ = some (.int .i64 sta)) ∧ (w'.cell? ⟨w5.heap.size, 0, none⟩ = some (.int .i64 k1) ∧ w'.cell? ⟨w5.heap.size, 1, none⟩ = some (.slice a1 n1 c1)) ∧ (w'.cell? ⟨w5.heap.size + 1, 0, none⟩ = some (.int .i64 k2) ∧ w'.cell? ⟨w5.heap.size + 1, 1, none⟩ = some (.slice a2 n2 c2)) ∧ (w'.cell? ⟨w6.heap.size, 0, none⟩ = some (.int .i64 kp) ∧ w'.cell? ⟨w6.heap.size, 1, none⟩ = some (.int .i64 pk) ∧ w'.cell? ⟨w6.heap.size, 2, none⟩ = some (.int .i64 pv)))
    (first | (with_reducible exact K12.out) | (with_reducible exact K11.out) | (with_reducible exact K10.out) | (with_reducible exact K9.out) | (with_reducible exact K8.out) | (with_reducible exact K7.out) | go_keep)
    (first
    | (go_at_call 11
       refine (specAllowed_any _ a' m 4 m' c' st kind k v code xs ys W6.drew (by exact S6.out.l1.ri) (by exact S6.out.l1.si)).mono ?_
       rintro e w7 ⟨⟨ok2, rfl, hok2⟩, hb7⟩
       have hb7' : Below W6.heap.size W6 w7 := ((Below.refl _ W6).drew.trans hb7)
       have S7 : Hid (L3 w0 g m st xs kind k v code a' m' c' ys w1.heap.size (w1.heap.size + 1) (w1.heap.size + 1 + 1) aa ca ab cb sta zs w3.heap.size w4.heap.size w7) := S6.out.bel' hb7'
       have X7 : Hid (XY k1 a1 n1 c1 k2 a2 n2 c2 us vs w5.heap.size (w5.heap.size + 1) w7) := X6.out.bel' hb7'
       have P7 : Hid (OBox w7 w6.heap.size kp pk pv) := P6.out.bel hb7'
       have K7 : Hid ((w7.cell? ⟨w1.heap.size, 0, none⟩ = some (.slice (some ⟨g, 0, none⟩) m 4) ∧ w7.cell? ⟨w1.heap.size, 1, none⟩ = some (.int .i64 st)) ∧ (w7.cell? ⟨w1.heap.size + 1, 0, none⟩ = some (.int .i64 kind) ∧ w7.cell? ⟨w1.heap.size + 1, 1, none⟩ = some (.int .i64 k) ∧ w7.cell? ⟨w1.heap.size + 1, 2, none⟩ = some (.int .i64 v)) ∧ (w7.cell? ⟨w1.heap.size + 1 + 1, 0, none⟩ = some (.int .i64 code) ∧ w7.cell? ⟨w1.heap.size + 1 + 1, 1, none⟩ = some (.slice a' m' c')) ∧ (w7.cell? ⟨w3.heap.size, 0, none⟩ = some (.slice aa m ca) ∧ w7.cell? ⟨w3.heap.size, 1, none⟩ = some (.int .i64 sta)) ∧ (w7.cell? ⟨w4.heap.size, 0, none⟩ = some (.slice ab m cb) ∧ w7.cell? ⟨w4.heap.size, 1, none⟩ = some (.int .i64 sta)) ∧ (w7.cell? ⟨w5.heap.size, 0, none⟩ = some (.int .i64 k1) ∧ w7.cell? ⟨w5.heap.size, 1, none⟩ = some (.slice a1 n1 c1)) ∧ (w7.cell? ⟨w5.heap.size + 1, 0, none⟩ = some (.int .i64 k2) ∧ w7.cell? ⟨w5.heap.size + 1, 1, none⟩ = some (.slice a2 n2 c2)) ∧ (w7.cell? ⟨w6.heap.size, 0, none⟩ = some (.int .i64 kp) ∧ w7.cell? ⟨w6.heap.size, 1, none⟩ = some (.int .i64 pk) ∧ w7.cell? ⟨w6.heap.size, 2, none⟩ = some (.int .i64 pv))) := ⟨⟨S7.out.l1.rb.facts.1, S7.out.l1.rb.facts.2.1⟩, ⟨S7.out.l1.ob.facts.1, S7.out.l1.ob.facts.2.1, S7.out.l1.ob.facts.2.2.1⟩, ⟨S7.out.l1.sb.facts.1, S7.out.l1.sb.facts.2.1⟩, ⟨S7.out.ra.facts.1, S7.out.ra.facts.2.1⟩, ⟨S7.out.rb2.facts.1, S7.out.rb2.facts.2.1⟩, ⟨X7.out.x.facts.1, X7.out.x.facts.2.1⟩, ⟨X7.out.y.facts.1, X7.out.y.facts.2.1⟩, ⟨P7.out.facts.1, P7.out.facts.2.1, P7.out.facts.2.2.1⟩⟩
       obtain rfl : ok2 = ok := Bool.eq_iff_iff.2 (hok2.trans HOK.out.symm)
       clear hok2
       clear hb7 hb7')
    | (go_at_call 12
       refine (sameInts_any aa ab m m ca cb zs zs _ S7.out.ai S7.out.bi).mono ?_
       rintro e w8 ⟨rfl, hb8⟩
       have hb8' : Below w7.heap.size w7 w8 := hb8
       have S8 : Hid (L3 w0 g m st xs kind k v code a' m' c' ys w1.heap.size (w1.heap.size + 1) (w1.heap.size + 1 + 1) aa ca ab cb sta zs w3.heap.size w4.heap.size w8) := S7.out.bel' hb8'
       have X8 : Hid (XY k1 a1 n1 c1 k2 a2 n2 c2 us vs w5.heap.size (w5.heap.size + 1) w8) := X7.out.bel' hb8'
       have P8 : Hid (OBox w8 w6.heap.size kp pk pv) := P7.out.bel hb8'
       have K8 : Hid ((w8.cell? ⟨w1.heap.size, 0, none⟩ = some (.slice (some ⟨g, 0, none⟩) m 4) ∧ w8.cell? ⟨w1.heap.size, 1, none⟩ = some (.int .i64 st)) ∧ (w8.cell? ⟨w1.heap.size + 1, 0, none⟩ = some (.int .i64 kind) ∧ w8.cell? ⟨w1.heap.size + 1, 1, none⟩ = some (.int .i64 k) ∧ w8.cell? ⟨w1.heap.size + 1, 2, none⟩ = some (.int .i64 v)) ∧ (w8.cell? ⟨w1.heap.size + 1 + 1, 0, none⟩ = some (.int .i64 code) ∧ w8.cell? ⟨w1.heap.size + 1 + 1, 1, none⟩ = some (.slice a' m' c')) ∧ (w8.cell? ⟨w3.heap.size, 0, none⟩ = some (.slice aa m ca) ∧ w8.cell? ⟨w3.heap.size, 1, none⟩ = some (.int .i64 sta)) ∧ (w8.cell? ⟨w4.heap.size, 0, none⟩ = some (.slice ab m cb) ∧ w8.cell? ⟨w4.heap.size, 1, none⟩ = some (.int .i64 sta)) ∧ (w8.cell? ⟨w5.heap.size, 0, none⟩ = some (.int .i64 k1) ∧ w8.cell? ⟨w5.heap.size, 1, none⟩ = some (.slice a1 n1 c1)) ∧ (w8.cell? ⟨w5.heap.size + 1, 0, none⟩ = some (.int .i64 k2) ∧ w8.cell? ⟨w5.heap.size + 1, 1, none⟩ = some (.slice a2 n2 c2)) ∧ (w8.cell? ⟨w6.heap.size, 0, none⟩ = some (.int .i64 kp) ∧ w8.cell? ⟨w6.heap.size, 1, none⟩ = some (.int .i64 pk) ∧ w8.cell? ⟨w6.heap.size, 2, none⟩ = some (.int .i64 pv))) := ⟨⟨S8.out.l1.rb.facts.1, S8.out.l1.rb.facts.2.1⟩, ⟨S8.out.l1.ob.facts.1, S8.out.l1.ob.facts.2.1, S8.out.l1.ob.facts.2.2.1⟩, ⟨S8.out.l1.sb.facts.1, S8.out.l1.sb.facts.2.1⟩, ⟨S8.out.ra.facts.1, S8.out.ra.facts.2.1⟩, ⟨S8.out.rb2.facts.1, S8.out.rb2.facts.2.1⟩, ⟨X8.out.x.facts.1, X8.out.x.facts.2.1⟩, ⟨X8.out.y.facts.1, X8.out.y.facts.2.1⟩, ⟨P8.out.facts.1, P8.out.facts.2.1, P8.out.facts.2.2.1⟩⟩
       rw [show decide (zs = zs) = true from decide_eq_true rfl]
       clear hb8 hb8')
    | (go_at_call 13
       refine (implResSame_any a1 a2 n1 n2 c1 c2 k1 k2 us vs _ X8.out.xi X8.out.yi).mono ?_
       rintro e w9 ⟨rfl, hb9⟩
       have hb9' : Below w8.heap.size w8 w9 := hb9
       have S9 : Hid (L3 w0 g m st xs kind k v code a' m' c' ys w1.heap.size (w1.heap.size + 1) (w1.heap.size + 1 + 1) aa ca ab cb sta zs w3.heap.size w4.heap.size w9) := S8.out.bel' hb9'
       have X9 : Hid (XY k1 a1 n1 c1 k2 a2 n2 c2 us vs w5.heap.size (w5.heap.size + 1) w9) := X8.out.bel' hb9'
       have P9 : Hid (OBox w9 w6.heap.size kp pk pv) := P8.out.bel hb9'
       have K9 : Hid ((w9.cell? ⟨w1.heap.size, 0, none⟩ = some (.slice (some ⟨g, 0, none⟩) m 4) ∧ w9.cell? ⟨w1.heap.size, 1, none⟩ = some (.int .i64 st)) ∧ (w9.cell? ⟨w1.heap.size + 1, 0, none⟩ = some (.int .i64 kind) ∧ w9.cell? ⟨w1.heap.size + 1, 1, none⟩ = some (.int .i64 k) ∧ w9.cell? ⟨w1.heap.size + 1, 2, none⟩ = some (.int .i64 v)) ∧ (w9.cell? ⟨w1.heap.size + 1 + 1, 0, none⟩ = some (.int .i64 code) ∧ w9.cell? ⟨w1.heap.size + 1 + 1, 1, none⟩ = some (.slice a' m' c')) ∧ (w9.cell? ⟨w3.heap.size, 0, none⟩ = some (.slice aa m ca) ∧ w9.cell? ⟨w3.heap.size, 1, none⟩ = some (.int .i64 sta)) ∧ (w9.cell? ⟨w4.heap.size, 0, none⟩ = some (.slice ab m cb) ∧ w9.cell? ⟨w4.heap.size, 1, none⟩ = some (.int .i64 sta)) ∧ (w9.cell? ⟨w5.heap.size, 0, none⟩ = some (.int .i64 k1) ∧ w9.cell? ⟨w5.heap.size, 1, none⟩ = some (.slice a1 n1 c1)) ∧ (w9.cell? ⟨w5.heap.size + 1, 0, none⟩ = some (.int .i64 k2) ∧ w9.cell? ⟨w5.heap.size + 1, 1, none⟩ = some (.slice a2 n2 c2)) ∧ (w9.cell? ⟨w6.heap.size, 0, none⟩ = some (.int .i64 kp) ∧ w9.cell? ⟨w6.heap.size, 1, none⟩ = some (.int .i64 pk) ∧ w9.cell? ⟨w6.heap.size, 2, none⟩ = some (.int .i64 pv))) := ⟨⟨S9.out.l1.rb.facts.1, S9.out.l1.rb.facts.2.1⟩, ⟨S9.out.l1.ob.facts.1, S9.out.l1.ob.facts.2.1, S9.out.l1.ob.facts.2.2.1⟩, ⟨S9.out.l1.sb.facts.1, S9.out.l1.sb.facts.2.1⟩, ⟨S9.out.ra.facts.1, S9.out.ra.facts.2.1⟩, ⟨S9.out.rb2.facts.1, S9.out.rb2.facts.2.1⟩, ⟨X9.out.x.facts.1, X9.out.x.facts.2.1⟩, ⟨X9.out.y.facts.1, X9.out.y.facts.2.1⟩, ⟨P9.out.facts.1, P9.out.facts.2.1, P9.out.facts.2.2.1⟩⟩
       rw [HD1.out]
       clear hb9 hb9')
    | (go_at_call 14
       refine (specResSame_any a1 a2 n1 n2 c1 c2 k1 k2 us vs _ X9.out.xi X9.out.yi).mono ?_
       rintro e w10 ⟨rfl, hb10⟩
       have hb10' : Below w9.heap.size w9 w10 := hb10
       have S10 : Hid (L3 w0 g m st xs kind k v code a' m' c' ys w1.heap.size (w1.heap.size + 1) (w1.heap.size + 1 + 1) aa ca ab cb sta zs w3.heap.size w4.heap.size w10) := S9.out.bel' hb10'
       have X10 : Hid (XY k1 a1 n1 c1 k2 a2 n2 c2 us vs w5.heap.size (w5.heap.size + 1) w10) := X9.out.bel' hb10'
       have P10 : Hid (OBox w10 w6.heap.size kp pk pv) := P9.out.bel hb10'
       have K10 : Hid ((w10.cell? ⟨w1.heap.size, 0, none⟩ = some (.slice (some ⟨g, 0, none⟩) m 4) ∧ w10.cell? ⟨w1.heap.size, 1, none⟩ = some (.int .i64 st)) ∧ (w10.cell? ⟨w1.heap.size + 1, 0, none⟩ = some (.int .i64 kind) ∧ w10.cell? ⟨w1.heap.size + 1, 1, none⟩ = some (.int .i64 k) ∧ w10.cell? ⟨w1.heap.size + 1, 2, none⟩ = some (.int .i64 v)) ∧ (w10.cell? ⟨w1.heap.size + 1 + 1, 0, none⟩ = some (.int .i64 code) ∧ w10.cell? ⟨w1.heap.size + 1 + 1, 1, none⟩ = some (.slice a' m' c')) ∧ (w10.cell? ⟨w3.heap.size, 0, none⟩ = some (.slice aa m ca) ∧ w10.cell? ⟨w3.heap.size, 1, none⟩ = some (.int .i64 sta)) ∧ (w10.cell? ⟨w4.heap.size, 0, none⟩ = some (.slice ab m cb) ∧ w10.cell? ⟨w4.heap.size, 1, none⟩ = some (.int .i64 sta)) ∧ (w10.cell? ⟨w5.heap.size, 0, none⟩ = some (.int .i64 k1) ∧ w10.cell? ⟨w5.heap.size, 1, none⟩ = some (.slice a1 n1 c1)) ∧ (w10.cell? ⟨w5.heap.size + 1, 0, none⟩ = some (.int .i64 k2) ∧ w10.cell? ⟨w5.heap.size + 1, 1, none⟩ = some (.slice a2 n2 c2)) ∧ (w10.cell? ⟨w6.heap.size, 0, none⟩ = some (.int .i64 kp) ∧ w10.cell? ⟨w6.heap.size, 1, none⟩ = some (.int .i64 pk) ∧ w10.cell? ⟨w6.heap.size, 2, none⟩ = some (.int .i64 pv))) := ⟨⟨S10.out.l1.rb.facts.1, S10.out.l1.rb.facts.2.1⟩, ⟨S10.out.l1.ob.facts.1, S10.out.l1.ob.facts.2.1, S10.out.l1.ob.facts.2.2.1⟩, ⟨S10.out.l1.sb.facts.1, S10.out.l1.sb.facts.2.1⟩, ⟨S10.out.ra.facts.1, S10.out.ra.facts.2.1⟩, ⟨S10.out.rb2.facts.1, S10.out.rb2.facts.2.1⟩, ⟨X10.out.x.facts.1, X10.out.x.facts.2.1⟩, ⟨X10.out.y.facts.1, X10.out.y.facts.2.1⟩, ⟨P10.out.facts.1, P10.out.facts.2.1, P10.out.facts.2.2.1⟩⟩
       rw [HD1.out]
       clear hb10 hb10')
    | (go_at_call 15
       refine (implOpOk_any kp pk pv _).mono ?_
       rintro e w11 ⟨rfl, hb11⟩
       have hb11' : Below w10.heap.size w10 w11 := hb11
       have S11 : Hid (L3 w0 g m st xs kind k v code a' m' c' ys w1.heap.size (w1.heap.size + 1) (w1.heap.size + 1 + 1) aa ca ab cb sta zs w3.heap.size w4.heap.size w11) := S10.out.bel' hb11'
       have X11 : Hid (XY k1 a1 n1 c1 k2 a2 n2 c2 us vs w5.heap.size (w5.heap.size + 1) w11) := X10.out.bel' hb11'
       have P11 : Hid (OBox w11 w6.heap.size kp pk pv) := P10.out.bel hb11'
       have K11 : Hid ((w11.cell? ⟨w1.heap.size, 0, none⟩ = some (.slice (some ⟨g, 0, none⟩) m 4) ∧ w11.cell? ⟨w1.heap.size, 1, none⟩ = some (.int .i64 st)) ∧ (w11.cell? ⟨w1.heap.size + 1, 0, none⟩ = some (.int .i64 kind) ∧ w11.cell? ⟨w1.heap.size + 1, 1, none⟩ = some (.int .i64 k) ∧ w11.cell? ⟨w1.heap.size + 1, 2, none⟩ = some (.int .i64 v)) ∧ (w11.cell? ⟨w1.heap.size + 1 + 1, 0, none⟩ = some (.int .i64 code) ∧ w11.cell? ⟨w1.heap.size + 1 + 1, 1, none⟩ = some (.slice a' m' c')) ∧ (w11.cell? ⟨w3.heap.size, 0, none⟩ = some (.slice aa m ca) ∧ w11.cell? ⟨w3.heap.size, 1, none⟩ = some (.int .i64 sta)) ∧ (w11.cell? ⟨w4.heap.size, 0, none⟩ = some (.slice ab m cb) ∧ w11.cell? ⟨w4.heap.size, 1, none⟩ = some (.int .i64 sta)) ∧ (w11.cell? ⟨w5.heap.size, 0, none⟩ = some (.int .i64 k1) ∧ w11.cell? ⟨w5.heap.size, 1, none⟩ = some (.slice a1 n1 c1)) ∧ (w11.cell? ⟨w5.heap.size + 1, 0, none⟩ = some (.int .i64 k2) ∧ w11.cell? ⟨w5.heap.size + 1, 1, none⟩ = some (.slice a2 n2 c2)) ∧ (w11.cell? ⟨w6.heap.size, 0, none⟩ = some (.int .i64 kp) ∧ w11.cell? ⟨w6.heap.size, 1, none⟩ = some (.int .i64 pk) ∧ w11.cell? ⟨w6.heap.size, 2, none⟩ = some (.int .i64 pv))) := ⟨⟨S11.out.l1.rb.facts.1, S11.out.l1.rb.facts.2.1⟩, ⟨S11.out.l1.ob.facts.1, S11.out.l1.ob.facts.2.1, S11.out.l1.ob.facts.2.2.1⟩, ⟨S11.out.l1.sb.facts.1, S11.out.l1.sb.facts.2.1⟩, ⟨S11.out.ra.facts.1, S11.out.ra.facts.2.1⟩, ⟨S11.out.rb2.facts.1, S11.out.rb2.facts.2.1⟩, ⟨X11.out.x.facts.1, X11.out.x.facts.2.1⟩, ⟨X11.out.y.facts.1, X11.out.y.facts.2.1⟩, ⟨P11.out.facts.1, P11.out.facts.2.1, P11.out.facts.2.2.1⟩⟩
       rw [HD2.out]
       clear hb11 hb11')
    | (go_at_call 16
       refine (specOpOk_any kp pk pv _).mono ?_
       rintro e w12 ⟨rfl, hb12⟩
       have hb12' : Below w11.heap.size w11 w12 := hb12
       have S12 : Hid (L3 w0 g m st xs kind k v code a' m' c' ys w1.heap.size (w1.heap.size + 1) (w1.heap.size + 1 + 1) aa ca ab cb sta zs w3.heap.size w4.heap.size w12) := S11.out.bel' hb12'
       have X12 : Hid (XY k1 a1 n1 c1 k2 a2 n2 c2 us vs w5.heap.size (w5.heap.size + 1) w12) := X11.out.bel' hb12'
       have P12 : Hid (OBox w12 w6.heap.size kp pk pv) := P11.out.bel hb12'
       have K12 : Hid ((w12.cell? ⟨w1.heap.size, 0, none⟩ = some (.slice (some ⟨g, 0, none⟩) m 4) ∧ w12.cell? ⟨w1.heap.size, 1, none⟩ = some (.int .i64 st)) ∧ (w12.cell? ⟨w1.heap.size + 1, 0, none⟩ = some (.int .i64 kind) ∧ w12.cell? ⟨w1.heap.size + 1, 1, none⟩ = some (.int .i64 k) ∧ w12.cell? ⟨w1.heap.size + 1, 2, none⟩ = some (.int .i64 v)) ∧ (w12.cell? ⟨w1.heap.size + 1 + 1, 0, none⟩ = some (.int .i64 code) ∧ w12.cell? ⟨w1.heap.size + 1 + 1, 1, none⟩ = some (.slice a' m' c')) ∧ (w12.cell? ⟨w3.heap.size, 0, none⟩ = some (.slice aa m ca) ∧ w12.cell? ⟨w3.heap.size, 1, none⟩ = some (.int .i64 sta)) ∧ (w12.cell? ⟨w4.heap.size, 0, none⟩ = some (.slice ab m cb) ∧ w12.cell? ⟨w4.heap.size, 1, none⟩ = some (.int .i64 sta)) ∧ (w12.cell? ⟨w5.heap.size, 0, none⟩ = some (.int .i64 k1) ∧ w12.cell? ⟨w5.heap.size, 1, none⟩ = some (.slice a1 n1 c1)) ∧ (w12.cell? ⟨w5.heap.size + 1, 0, none⟩ = some (.int .i64 k2) ∧ w12.cell? ⟨w5.heap.size + 1, 1, none⟩ = some (.slice a2 n2 c2)) ∧ (w12.cell? ⟨w6.heap.size, 0, none⟩ = some (.int .i64 kp) ∧ w12.cell? ⟨w6.heap.size, 1, none⟩ = some (.int .i64 pk) ∧ w12.cell? ⟨w6.heap.size, 2, none⟩ = some (.int .i64 pv))) := ⟨⟨S12.out.l1.rb.facts.1, S12.out.l1.rb.facts.2.1⟩, ⟨S12.out.l1.ob.facts.1, S12.out.l1.ob.facts.2.1, S12.out.l1.ob.facts.2.2.1⟩, ⟨S12.out.l1.sb.facts.1, S12.out.l1.sb.facts.2.1⟩, ⟨S12.out.ra.facts.1, S12.out.ra.facts.2.1⟩, ⟨S12.out.rb2.facts.1, S12.out.rb2.facts.2.1⟩, ⟨X12.out.x.facts.1, X12.out.x.facts.2.1⟩, ⟨X12.out.y.facts.1, X12.out.y.facts.2.1⟩, ⟨P12.out.facts.1, P12.out.facts.2.1, P12.out.facts.2.2.1⟩⟩
       rw [HD2.out]
       clear hb12 hb12'))
  clear K7 K8 K9 K10 K11 S6 S7 S8 S9 S10 S11 X6 X7 X8 X9 X10 X11 X12 P6 P7 P8 P9 P10 P11 P12 HD1 HD2 r0 r1 o0 o1 o2 s0 s1 A0 A1 B0 B1 x0 x1 y0 y1 p0 p1 p2
  obtain ⟨⟨r0, r1⟩, -, ⟨s0, s1⟩, ⟨A0, A1⟩, -⟩ := K12.out
  clear K12
  by_cases hyes : ok2 = true ∧ code = 0
  · obtain ⟨rfl, rfl⟩ := hyes
    have hal := HOK.out.1 rfl
    obtain rfl : m = 4 := by rw [← S12.out.l1.ri.1]; exact hal.1.1
    have HZ : Hid (OkRows zs sta) := after_ok hal HAM.out
    clear hal HOK HAM
    go_wp2_with fail
    refine (implRowsOk_room aa 4 ca HCA.out sta zs _ S12.out.ai (ok_wf HZ.out)).mono ?_
    rintro e w13 ⟨⟨ok3, rfl, hok3⟩, hb13⟩
    obtain rfl : ok3 = true := hok3.2 HZ.out
    have hall : Below w0.heap.size w0 w13 := S12.out.l1.bel.trans (hb13.mono S12.out.l1.bel.size)
    clear hok3 hb13
    go_wp2
    go_ret
    exact ⟨rfl, hall⟩
  · obtain ⟨rfl, rfl⟩ := after_same HAM.out (fun h => hyes ⟨HOK.out.2 h.1, h.2⟩)
    have hcond : (ok2 = false ∧ (!ok2) = true) ∨ (ok2 = true ∧ (code != 0) = true) := by
      cases ok2
      · exact .inl ⟨rfl, rfl⟩
      · exact .inr ⟨rfl, by simpa using hyes⟩
    clear hyes HOK HAM
    rcases hcond with ⟨rfl, -⟩ | ⟨rfl, hc⟩
    all_goals
      go_wp2_with fail
      refine (sameInts_any aa (some ⟨g, 0, none⟩) m m ca 4 zs zs _ S12.out.ai S12.out.l1.ri).mono ?_
      rintro e w13 ⟨rfl, hb13⟩
      rw [show decide (zs = zs) = true from decide_eq_true rfl]
      have S13 := S12.out.bel' hb13
      clear r0 r1 s0 s1 A0 A1
      obtain ⟨r0, r1, -⟩ := S13.l1.rb.facts
      obtain ⟨A0, A1, -⟩ := S13.ra.facts
      have hall : Below w0.heap.size w0 w13 := S13.l1.bel
      clear S13 hb13
      go_wp2
      go_ret
      exact ⟨by simp, hall⟩
end Go.Proofs.Ytlnhmmpmnflagad
