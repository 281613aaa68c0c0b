/- Texts joined: SameT, SameI, KeyL, LawSchs. -/
import Derived.Test.YtmgofehafjogfaaSH01
import Derived.Test.YtmgofehafjogfaaSH03
import Derived.Test.YtmgofehafjogfaaSH13
import Derived.Deep.RegionHeld3
import Derived.Handy
import Derived.Below
import Derived.Test.YtmgofehafjogfaaSH07
import Derived.Test.YtmgofehafjogfaaRows
import Derived.Test.YtmgofehafjogfaaSH08
import Derived.Test.YtmgofehafjogfaaSH14
import Derived.Test.YtmgofehafjogfaaSH09
import Derived.Test.YtmgofehafjogfaaSH15
import Derived.Test.YtmgofehafjogfaaSH18
import Derived.WalkKit
import Derived.ProofKit
import Derived.OpenShut
import Derived.ChangeOld
import Derived.Lib.SmallJoins
import Derived.Deep.Cut
set_option maxHeartbeats 16000000
set_option maxRecDepth 100000
namespace Go.Proofs.Ytmgofehafjogfaa
section
open Go.ChangeShapes Go.WideShapes Go.ChangeAt Go.RowKit
theorem neq_va (k n : Int) (s : ByteArray) (k' n' : Int) (s' : ByteArray) (w : World) : (binOp .neq 43 (.agg #[.int .i64 k, .int .i64 n, .string s]) (.agg #[.int .i64 k', .int .i64 n', .string s'])).run Try.prog w = .ok (.bool (!sameV k n s k' n' s')) w := by
  rw [run_neq_struct, equalIn_va]
  rfl
theorem take_nextT {L M : List Va3} {k : Nat} {x y : Va3} (hx : L[k]? = some x) (hy : M[k]? = some y) (h : L.take k = M.take k) (e : x = y) : L.take (k + 1) = M.take (k + 1) := by
  rw [List.take_add_one, List.take_add_one, h, hx, hy, e]
theorem sameT_any (a1 a2 : Option Addr) (n1 n2 c1 c2 : Nat) (L M : List Va3) (w : World) (h1 : VasAt w a1 n1 L) (h2 : VasAt w a2 n2 M) :
    Calls Try.prog 23 #[.slice a1 n1 c1, .slice a2 n2 c2] w fun e w' => e = .returned (.bool (decide (L = M))) ∧ Below w.heap.size w w' := by
  have H1 : Hid (VasAt w a1 n1 L) := h1
  have H2 : Hid (VasAt w a2 n2 M) := h2
  have L1 : Hid (L.length = n1) := h1.1
  have L2 : Hid (M.length = n2) := h2.1
  have b1 := h1.2.1
  have b2 := h2.2.1
  obtain ⟨B, hB⟩ : ∃ B, decide (L = M) = B := ⟨_, rfl⟩
  rw [hB]
  have HB : Hid (decide (L = M) = B) := hB
  clear h1 h2 hB
  by_cases hn : n1 = n2
  · subst hn
    go_enter Try.func23, Try.ntmps23
    go_wp2
    go_loopw [5] (fun i wr => ∃ k : Nat, k ≤ n1 ∧ i = .int .i64 k ∧ L.take k = M.take k ∧ Below w.heap.size w wr) (fun i _ => n1 - (RowKit.intOf i).toNat)
    case atStart => exact ⟨0, Nat.zero_le _, rfl, rfl, Below.refl _ _⟩
    case round =>
      obtain ⟨k, hk1, rfl, ht, hb⟩ := hrel
      have HT : Hid (L.take k = M.take k) := ht
      have HBW : Hid (Below w.heap.size w wr) := hb
      clear ht hb
      by_cases hlt1 : k < n1
      · rcases (H1.out.below HBW.out (Nat.le_refl _)).2.2 with h | ⟨p1, o1, rfl, g1⟩
        · omega
        rcases (H2.out.below HBW.out (Nat.le_refl _)).2.2 with h | ⟨p2, o2, rfl, g2⟩
        · omega
        obtain ⟨x, hx⟩ : ∃ x, L[k]? = some x := ⟨_, List.getElem?_eq_getElem (by have := L1.out; omega)⟩
        obtain ⟨y, hy⟩ : ∃ y, M[k]? = some y := ⟨_, List.getElem?_eq_getElem (by have := L2.out; omega)⟩
        obtain ⟨e0, e1, e2⟩ := g1 k x hx
        obtain ⟨f0, f1, f2⟩ := g2 k y hy
        have HX : Hid (L[k]? = some x) := hx
        have HY : Hid (M[k]? = some y) := hy
        obtain ⟨x0, x1, x2⟩ := x
        obtain ⟨y0, y1, y2⟩ := y
        dsimp only at e0 e1 e2 f0 f1 f2
        obtain ⟨b, hb⟩ : ∃ b, (!sameV x0 x1 x2 y0 y1 y2) = b := ⟨_, rfl⟩
        have hne : ∀ w : World, (binOp .neq 43 (.agg #[.int .i64 x0, .int .i64 x1, .string x2]) (.agg #[.int .i64 y0, .int .i64 y1, .string y2])).run Try.prog w = .ok (.bool b) w := fun w => by rw [← hb]; exact neq_va x0 x1 x2 y0 y1 y2 w
        have HBB : Hid ((!sameV x0 x1 x2 y0 y1 y2) = b) := hb
        clear g1 g2 hx hy hb
        go_wp2
        go_region
        rcases b with _ | _
        · go_wp2
          have hs : sameV x0 x1 x2 y0 y1 y2 = true := by have := HBB.out; simpa using this
          have hxy := of_decide_eq_true hs
          exact ⟨⟨k + 1, by omega, by go_num, take_nextT HX.out HY.out HT.out (by rw [hxy.1, hxy.2.1, hxy.2.2]), HBW.out.drew⟩, by simp [RowKit.intOf]; omega⟩
        · go_wp2
          go_ret
          refine ⟨?_, HBW.out.drew⟩
          have hs : sameV x0 x1 x2 y0 y1 y2 = false := by have := HBB.out; simpa using this
          have hxy := of_decide_eq_false hs
          have e : L ≠ M := fun e => by
            have h1 := HX.out
            rw [e, HY.out] at h1
            injection h1 with h1
            injection h1 with h1 h2
            injection h2 with h2 h3
            exact hxy ⟨h1.symm, h2.symm, h3.symm⟩
          rw [← HB.out]
          simp [e]
      · obtain rfl : k = n1 := by omega
        go_wp2
        go_ret
        refine ⟨?_, HBW.out⟩
        have l1 := L1.out
        have l2 := L2.out
        have e : L = M := by
          have e0 := HT.out
          rwa [List.take_of_length_le (by omega), List.take_of_length_le (by omega)] at e0
        rw [← HB.out]
        simp [e]
  · have hne : ((n1 : Int) != (n2 : Int)) = true := by simp; omega
    have hxy : L ≠ M := fun e => by have l1 := L1.out; have l2 := L2.out; rw [e] at l1; omega
    have HX : Hid (L ≠ M) := hxy
    clear hxy
    go_enter Try.func23, Try.ntmps23
    go_wp2
    go_ret
    refine ⟨?_, Below.refl _ _⟩
    rw [← HB.out]
    simp [HX.out]
theorem bigI (a : Option Addr) (n c : Nat) (w : World) : Calls Try.prog 9 #[.slice a n c] w fun e w' => e = .returned (.bool (decide (1048576 < n))) ∧ w' = w := by
  obtain ⟨B, hB⟩ : ∃ B, decide (1048576 < n) = B := ⟨_, rfl⟩
  rw [hB]
  have HB : Hid (decide ((1048576 : Int) < (n : Int)) = B) := by
    show _ = _
    rw [← hB, decide_eq_decide]
    omega
  clear hB
  go_enter Try.func9, Try.ntmps9
  go_wp2
  go_ret
  refine ⟨?_, rfl⟩
  rw [← HB.out]
  first | rfl | simp
end
section
open Go.ChangeShapes Go.WideShapes Go.ChangeAt Go.RowKit Go.Joins
theorem proj_in (L : List Va3) : ∀ xs : List Int, (∀ x ∈ xs, 0 ≤ x ∧ x < (L.length : Int)) → (projL L xs).length = xs.length ∧ ∀ y ∈ projL L xs, ∃ x ∈ xs, L[x.toNat]? = some y
  | [], _ => ⟨rfl, fun y hy => by cases hy⟩
  | x :: xs, h => by
    obtain ⟨h1, h2⟩ := proj_in L xs fun y hy => h y (by simp [hy])
    obtain ⟨h3, h4⟩ := h x (by simp)
    have ho : projOne L x = [L.getD x.toNat default] := by unfold projOne; rw [if_pos (by omega)]
    have hx : L[x.toNat]? = some (L.getD x.toNat default) := by
      rw [List.getD_eq_getElem?_getD, List.getElem?_eq_getElem (by omega), Option.getD_some]
    unfold projL at h1 h2 ⊢
    rw [List.flatMap_cons, ho]
    refine ⟨by simp [h1], fun y hy => ?_⟩
    rcases List.mem_append.1 hy with h5 | h5
    · rw [List.mem_singleton.1 h5]; exact ⟨x, by simp, hx⟩
    · obtain ⟨z, hz, h6⟩ := h2 y h5
      exact ⟨z, by simp [hz], h6⟩
theorem key_right {S : SchD} {L : List Va3} (h : RowGood S L) : (projL L S.key).length = S.key.length ∧ (∀ y ∈ projL L S.key, ¬ y.1 = 0) ∧ TupGood (projL L S.key) := by
  obtain ⟨hs, hl, hz⟩ := h
  obtain ⟨h1, -, -, ⟨h4, -, -, h6⟩, -, h5⟩ := hs
  obtain ⟨k1, k2⟩ := proj_in L S.key fun x hx => by have := h4 x hx; omega
  have key : ∀ y ∈ projL L S.key, VaGood y.1 y.2.1 y.2.2 ∧ ¬ y.1 = 0 := fun y hy => by
    obtain ⟨x, hx, hy⟩ := k2 y hy
    have hr := h4 x hx
    obtain ⟨c, hc⟩ : ∃ c, S.cols[x.toNat]? = some c := ⟨_, List.getElem?_eq_getElem (by omega)⟩
    have hf := hz _ (List.mem_of_getElem? (zip_at hy hc))
    have hn : c.2.2 = false := by
      have h7 := h5 x hx
      unfold fast at h7
      rw [List.getD_eq_getElem?_getD, hc, Option.getD_some] at h7
      exact h7
    have hk := (h1 c (List.mem_of_getElem? hc)).2
    refine ⟨hf.1, fun e => ?_⟩
    rcases hf.2 with h8 | h8
    · have h8 : y.1 = c.2.1 := h8
      omega
    · have h8 : c.2.2 = true := h8.1
      rw [hn] at h8
      cases h8
  exact ⟨k1, fun y hy => (key y hy).2, fun y hy => (key y hy).1, by rw [k1]; exact h6⟩
end
end Go.Proofs.Ytmgofehafjogfaa
namespace Go.Proofs.Ytmgofehafjogfaa
open Go.ChangeShapes Go.WideShapes Go.ChangeAt Go.RowKit Go.Joins

namespace fnSchemas
theorem own : ownKnob Try.prog.godebug = none := by kernel_rfl
theorem laidOut : laidOutB Try.prog = true := by kernel_rfl
theorem walk (a : Option Addr) (n c : Nat) (w : World) (hB : BytesAt w w.heap.size a n) :
    Calls Try.prog 3 #[.slice a n c] w fun e w' => e = .returned (.bool true) ∧ Below w.heap.size w w' := by
  obtain ⟨w0, hw0⟩ : ∃ w0, w = w0 := ⟨_, rfl⟩
  rw [hw0] at hB ⊢
  have HB : Hid (BytesAt w0 w0.heap.size a n) := hB
  clear hB hw0 w
  by_cases hbig : 1048576 < n
  · go_enter Try.func3, Try.ntmps3
    go_wp2_with fail
    refine (bigI a n c w0).mono ?_
    rintro e w1 ⟨rfl, hw⟩
    rw [hw, decide_eq_true hbig]
    go_wp2
    go_ret
    exact ⟨rfl, Below.refl _ _⟩
  have hn : n ≤ 1048576 := by omega
  go_enter Try.func3, Try.ntmps3
  go_wp2_with fail
  refine (bigI a n c w0).mono ?_
  rintro e w1 ⟨rfl, hw⟩
  rw [hw, decide_eq_false hbig]
  clear hw hbig
  have B0 : Hid (Below w0.heap.size w0 w0) := Below.refl _ _
  go_upto_region 4 with
    (go_at_call 10
     refine (drawRowOk_any a n c _ hn (bytes_now HB.out B0.out)).mono ?_
     rintro e u1 ⟨D1, us, T1, v1, L1, rfl, hdr, ho, hv, hl, hb⟩
     have hsz1 : SchSz D1 := ⟨fun x hx => Nat.le_trans (hdr.2.2.1 x hx) (by decide), fun x hx => Nat.le_trans (hdr.2.2.2 x hx).1 (by decide)⟩
     obtain ⟨p11, m11, d11, p12, m12, d12, p13, m13, d13, rfl, hs⟩ := own_sch ho
     have SZ1 : Hid (SchSz D1) := hsz1
     have HSI1 : Hid (∀ x ∈ D1.idx, x.1.size ≤ 9223372036854775807) := fun x hx => Nat.le_trans (hsz1.idx x hx) (by decide)
     have HSC1 : Hid (∀ x ∈ D1.cols, x.1.size ≤ 9223372036854775807) := fun x hx => Nat.le_trans (hsz1.cols x hx) (by decide)
     have HKY1 : Hid (D1.key.length ≤ 2) := hdr.2.1.1
     have SU1 : Hid (SchAt u1 p11 m11 d11 p12 m12 d12 p13 m13 d13 D1) := hs
     obtain ⟨ra1, rc1, rfl, hrc, hra⟩ := own_vas hv (by have := hl.1; omega)
     have RU1 : Hid (VasAt u1 ra1 L1.length L1) := hra
     have RC1 : Hid (L1.length ≤ rc1) := hrc
     have RZ1 : Hid (VasSz L1) := fun x hx => Nat.le_trans (hl.2 x hx) (by decide)
     have RL1 : Hid (L1.length ≤ 5) := hl.1
     clear hv hl hrc hra
     have HB1 : Hid (Below w0.heap.size w0 u1) := hb
     clear ho hs hdr hb hsz1)
  obtain ⟨g1, hg⟩ : ∃ g, u1.heap.size = g := ⟨_, rfl⟩
  obtain ⟨w1, hw⟩ : ∃ W, u1.alloc (.cells #[.slice p11 m11 d11, .slice p12 m12 d12, .slice p13 m13 d13] 28) = W := ⟨_, rfl⟩
  have G1 : Hid (u1.heap.size = g1) := hg
  have HW1 : Hid (u1.alloc (.cells #[.slice p11 m11 d11, .slice p12 m12 d12, .slice p13 m13 d13] 28) = w1) := hw
  have A1 : Hid (Below u1.heap.size u1 w1) := by rw [← hw]; exact (Below.refl _ _).alloc (Nat.le_refl _) _
  have X1 : Hid (Box w1 g1 #[.slice p11 m11 d11, .slice p12 m12 d12, .slice p13 m13 d13] 28) := by rw [← hw, ← hg]; exact box_of _ _ _
  have BS1 : Hid (Below w0.heap.size w0 w1) := HB1.out.trans (A1.out.mono HB1.out.size)
  have B1 : Hid (Below w0.heap.size w0 w1) := B0.out.trans (BS1.out.mono B0.out.size)
  rw [HW1.out, G1.out]
  clear hw hg
  go_upto_region 5 with (first
    | (go_at_call 11
       refine (drawSchemaOk_any a n c _ hn (bytes_now HB.out B1.out)).mono ?_
       rintro e t2 ⟨D2, us, T2, rfl, hdr, ho, hb⟩
       have hsz2 : SchSz D2 := ⟨fun x hx => Nat.le_trans (hdr.2.2.1 x hx) (by decide), fun x hx => Nat.le_trans (hdr.2.2.2 x hx).1 (by decide)⟩
       obtain ⟨p21, m21, d21, p22, m22, d22, p23, m23, d23, rfl, hs⟩ := own_sch ho
       have SZ2 : Hid (SchSz D2) := hsz2
       have HSI2 : Hid (∀ x ∈ D2.idx, x.1.size ≤ 9223372036854775807) := fun x hx => Nat.le_trans (hsz2.idx x hx) (by decide)
       have HSC2 : Hid (∀ x ∈ D2.cols, x.1.size ≤ 9223372036854775807) := fun x hx => Nat.le_trans (hsz2.cols x hx) (by decide)
       have HKY2 : Hid (D2.key.length ≤ 2) := hdr.2.1.1
       have SU2 : Hid (SchAt t2 p21 m21 d21 p22 m22 d22 p23 m23 d23 D2) := hs
       have HT2 : Hid (Below w1.heap.size w1 t2) := hb
       have BT2 : Hid (Below w0.heap.size w0 t2) := B1.out.trans (hb.mono B1.out.size)
       clear ho hs hdr hb hsz2)
    | (go_at_call 12
       refine (drawColNameOk_any a n c _ hn (bytes_now HB.out BT2.out)).mono ?_
       rintro e u2 ⟨⟨nm, rfl, hnm⟩, hb⟩
       have HNM : Hid (nm.size ≤ 13) := hnm
       have HU2 : Hid (Below t2.heap.size t2 u2) := hb
       have HB2 : Hid (Below w1.heap.size w1 u2) := HT2.out.trans (hb.mono HT2.out.size)
       clear hb hnm))
  obtain ⟨g2, hg⟩ : ∃ g, u2.heap.size = g := ⟨_, rfl⟩
  obtain ⟨w2, hw⟩ : ∃ W, u2.alloc (.cells #[.slice p21 m21 d21, .slice p22 m22 d22, .slice p23 m23 d23] 28) = W := ⟨_, rfl⟩
  have G2 : Hid (u2.heap.size = g2) := hg
  have HW2 : Hid (u2.alloc (.cells #[.slice p21 m21 d21, .slice p22 m22 d22, .slice p23 m23 d23] 28) = w2) := hw
  have A2 : Hid (Below u2.heap.size u2 w2) := by rw [← hw]; exact (Below.refl _ _).alloc (Nat.le_refl _) _
  have X2 : Hid (Box w2 g2 #[.slice p21 m21 d21, .slice p22 m22 d22, .slice p23 m23 d23] 28) := by rw [← hw, ← hg]; exact box_of _ _ _
  have BS2 : Hid (Below w1.heap.size w1 w2) := HB2.out.trans (A2.out.mono HB2.out.size)
  have B2 : Hid (Below w0.heap.size w0 w2) := B1.out.trans (BS2.out.mono B1.out.size)
  rw [HW2.out, G2.out]
  clear hw hg
  go_upto_region 6 with
    (go_at_call 13
     refine (drawColAt_any a n c _ hn (bytes_now HB.out B2.out)).mono ?_
     rintro e u3 ⟨D3, us, T3, t, rfl, hdr, ho, ht, hb⟩
     have hsz3 : SchSz D3 := ⟨fun x hx => Nat.le_trans (hdr.2.2.1 x hx) (by decide), fun x hx => Nat.le_trans (hdr.2.2.2 x hx).1 (by decide)⟩
     obtain ⟨p31, m31, d31, p32, m32, d32, p33, m33, d33, rfl, hs⟩ := own_sch ho
     have SZ3 : Hid (SchSz D3) := hsz3
     have HSI3 : Hid (∀ x ∈ D3.idx, x.1.size ≤ 9223372036854775807) := fun x hx => Nat.le_trans (hsz3.idx x hx) (by decide)
     have HSC3 : Hid (∀ x ∈ D3.cols, x.1.size ≤ 9223372036854775807) := fun x hx => Nat.le_trans (hsz3.cols x hx) (by decide)
     have HKY3 : Hid (D3.key.length ≤ 2) := hdr.2.1.1
     have SU3 : Hid (SchAt u3 p31 m31 d31 p32 m32 d32 p33 m33 d33 D3) := hs
     have HT : Hid (t.size ≤ 13) := ht
     clear ht
     have HB3 : Hid (Below w2.heap.size w2 u3) := hb
     clear ho hs hdr hb hsz3)
  obtain ⟨g3, hg⟩ : ∃ g, u3.heap.size = g := ⟨_, rfl⟩
  obtain ⟨w3, hw⟩ : ∃ W, u3.alloc (.cells #[.slice p31 m31 d31, .slice p32 m32 d32, .slice p33 m33 d33] 28) = W := ⟨_, rfl⟩
  have G3 : Hid (u3.heap.size = g3) := hg
  have HW3 : Hid (u3.alloc (.cells #[.slice p31 m31 d31, .slice p32 m32 d32, .slice p33 m33 d33] 28) = w3) := hw
  have A3 : Hid (Below u3.heap.size u3 w3) := by rw [← hw]; exact (Below.refl _ _).alloc (Nat.le_refl _) _
  have X3 : Hid (Box w3 g3 #[.slice p31 m31 d31, .slice p32 m32 d32, .slice p33 m33 d33] 28) := by rw [← hw, ← hg]; exact box_of _ _ _
  have BS3 : Hid (Below w2.heap.size w2 w3) := HB3.out.trans (A3.out.mono HB3.out.size)
  have B3 : Hid (Below w0.heap.size w0 w3) := B2.out.trans (BS3.out.mono B2.out.size)
  rw [HW3.out, G3.out]
  clear hw hg
  go_upto_region 7 with
    (go_at_call 14
     refine (drawKeyOfRow_any a n c _ hn (bytes_now HB.out B3.out)).mono ?_
     rintro e u4 ⟨D4, us, T4, v4, L4, rfl, hdr, ho, hv, hl, hb⟩
     have hsz4 : SchSz D4 := ⟨fun x hx => Nat.le_trans (hdr.2.2.1 x hx) (by decide), fun x hx => Nat.le_trans (hdr.2.2.2 x hx).1 (by decide)⟩
     obtain ⟨p41, m41, d41, p42, m42, d42, p43, m43, d43, rfl, hs⟩ := own_sch ho
     have SZ4 : Hid (SchSz D4) := hsz4
     have HSI4 : Hid (∀ x ∈ D4.idx, x.1.size ≤ 9223372036854775807) := fun x hx => Nat.le_trans (hsz4.idx x hx) (by decide)
     have HSC4 : Hid (∀ x ∈ D4.cols, x.1.size ≤ 9223372036854775807) := fun x hx => Nat.le_trans (hsz4.cols x hx) (by decide)
     have HKY4 : Hid (D4.key.length ≤ 2) := hdr.2.1.1
     have SU4 : Hid (SchAt u4 p41 m41 d41 p42 m42 d42 p43 m43 d43 D4) := hs
     obtain ⟨ra4, rc4, rfl, hrc, hra⟩ := own_vas hv (by have := hl.1; omega)
     have RU4 : Hid (VasAt u4 ra4 L4.length L4) := hra
     have RC4 : Hid (L4.length ≤ rc4) := hrc
     have RZ4 : Hid (VasSz L4) := fun x hx => Nat.le_trans (hl.2 x hx) (by decide)
     have RL4 : Hid (L4.length ≤ 5) := hl.1
     clear hv hl hrc hra
     have HB4 : Hid (Below w3.heap.size w3 u4) := hb
     clear ho hs hdr hb hsz4)
  obtain ⟨g4, hg⟩ : ∃ g, u4.heap.size = g := ⟨_, rfl⟩
  obtain ⟨w4, hw⟩ : ∃ W, u4.alloc (.cells #[.slice p41 m41 d41, .slice p42 m42 d42, .slice p43 m43 d43] 28) = W := ⟨_, rfl⟩
  have G4 : Hid (u4.heap.size = g4) := hg
  have HW4 : Hid (u4.alloc (.cells #[.slice p41 m41 d41, .slice p42 m42 d42, .slice p43 m43 d43] 28) = w4) := hw
  have A4 : Hid (Below u4.heap.size u4 w4) := by rw [← hw]; exact (Below.refl _ _).alloc (Nat.le_refl _) _
  have X4 : Hid (Box w4 g4 #[.slice p41 m41 d41, .slice p42 m42 d42, .slice p43 m43 d43] 28) := by rw [← hw, ← hg]; exact box_of _ _ _
  have BS4 : Hid (Below w3.heap.size w3 w4) := HB4.out.trans (A4.out.mono HB4.out.size)
  have B4 : Hid (Below w0.heap.size w0 w4) := B3.out.trans (BS4.out.mono B3.out.size)
  rw [HW4.out, G4.out]
  clear hw hg
  have SA1 : Hid (SchAt w4 p11 m11 d11 p12 m12 d12 p13 m13 d13 D1) := ((((SU1.out.below A1.out (Nat.le_refl _)).below BS2.out (Nat.le_refl _)).below BS3.out (Nat.le_refl _)).below BS4.out (Nat.le_refl _))
  have SA3 : Hid (SchAt w4 p31 m31 d31 p32 m32 d32 p33 m33 d33 D3) := ((SU3.out.below A3.out (Nat.le_refl _)).below BS4.out (Nat.le_refl _))
  have SA4 : Hid (SchAt w4 p41 m41 d41 p42 m42 d42 p43 m43 d43 D4) := (SU4.out.below A4.out (Nat.le_refl _))
  have SA2 : Hid (SchAt w4 p21 m21 d21 p22 m22 d22 p23 m23 d23 D2) := ((((SU2.out.below HU2.out (Nat.le_refl _)).below A2.out (Nat.le_refl _)).below BS3.out (Nat.le_refl _)).below BS4.out (Nat.le_refl _))
  have RA1 : Hid (VasAt w4 ra1 L1.length L1) := ((((RU1.out.below A1.out (Nat.le_refl _)).below BS2.out (Nat.le_refl _)).below BS3.out (Nat.le_refl _)).below BS4.out (Nat.le_refl _))
  have RA4 : Hid (VasAt w4 ra4 L4.length L4) := (RU4.out.below A4.out (Nat.le_refl _))
  have Y1 : Hid (Box w4 g1 #[.slice p11 m11 d11, .slice p12 m12 d12, .slice p13 m13 d13] 28) := boxB (boxB (boxB X1 BS2) BS3) BS4
  have Y2 : Hid (Box w4 g2 #[.slice p21 m21 d21, .slice p22 m22 d22, .slice p23 m23 d23] 28) := boxB (boxB X2 BS3) BS4
  have Y3 : Hid (Box w4 g3 #[.slice p31 m31 d31, .slice p32 m32 d32, .slice p33 m33 d33] 28) := boxB X3 BS4
  have KS4 : Hid (∀ z, Below w4.heap.size w4 z → z.cell? ⟨g1, 0, none⟩ = some (.slice p11 m11 d11) ∧ z.cell? ⟨g1, 1, none⟩ = some (.slice p12 m12 d12) ∧ z.cell? ⟨g1, 2, none⟩ = some (.slice p13 m13 d13) ∧ z.cell? ⟨g2, 0, none⟩ = some (.slice p21 m21 d21) ∧ z.cell? ⟨g2, 1, none⟩ = some (.slice p22 m22 d22) ∧ z.cell? ⟨g2, 2, none⟩ = some (.slice p23 m23 d23) ∧ z.cell? ⟨g3, 0, none⟩ = some (.slice p31 m31 d31) ∧ z.cell? ⟨g3, 1, none⟩ = some (.slice p32 m32 d32) ∧ z.cell? ⟨g3, 2, none⟩ = some (.slice p33 m33 d33) ∧ z.cell? ⟨g4, 0, none⟩ = some (.slice p41 m41 d41) ∧ z.cell? ⟨g4, 1, none⟩ = some (.slice p42 m42 d42) ∧ z.cell? ⟨g4, 2, none⟩ = some (.slice p43 m43 d43)) := fun z hb => by
    obtain ⟨a1, a2, a3⟩ := (Y1.out.below hb Y1.out.lt).triV
    obtain ⟨a4, a5, a6⟩ := (Y2.out.below hb Y2.out.lt).triV
    obtain ⟨a7, a8, a9⟩ := (Y3.out.below hb Y3.out.lt).triV
    obtain ⟨b1, b2, b3⟩ := (X4.out.below hb X4.out.lt).triV
    exact ⟨a1, a2, a3, a4, a5, a6, a7, a8, a9, b1, b2, b3⟩
  obtain ⟨bo, hbo⟩ : ∃ bo, decide (RowGood D1 L1) = bo := ⟨_, rfl⟩
  obtain ⟨bs, hbs⟩ : ∃ bs, decide (ScGood D2) = bs := ⟨_, rfl⟩
  obtain ⟨bn, hbn⟩ : ∃ bn, decide (CnGood nm) = bn := ⟨_, rfl⟩
  obtain ⟨ca, hca⟩ : ∃ ca, colAt D3.cols t = ca := ⟨_, rfl⟩
  have HBO : Hid (decide (RowGood D1 L1) = bo) := hbo
  have HBS : Hid (decide (ScGood D2) = bs) := hbs
  have HBN : Hid (decide (CnGood nm) = bn) := hbn
  have HCA : Hid (colAt D3.cols t = ca) := hca
  have HPL : Hid ((projL L4 D4.key).length ≤ 2) := Nat.le_trans (proj_len _ _) HKY4.out
  clear hbo hbs hbn hca
  obtain ⟨c11, c12, c13, -⟩ := KS4.out _ (Below.refl _ _)
  go_upto_region 8 with
    (go_at_call 15
     refine (implRowOk_any p11 m11 d11 p12 m12 d12 p13 m13 d13 D1 ra1 L1.length rc1 L1 w4 SA1.out SZ1.out RA1.out RC1.out).mono ?_
     rintro e w5 ⟨rfl, hb⟩
     rw [HBO.out]
     have BS5 : Hid (Below w4.heap.size w4 w5) := hb
     have B5 : Hid (Below w0.heap.size w0 w5) := B4.out.trans (hb.mono B4.out.size)
     clear hb)
  clear c11 c12 c13
  have KS : Hid (∀ z, Below w5.heap.size w5 z → z.cell? ⟨g1, 0, none⟩ = some (.slice p11 m11 d11) ∧ z.cell? ⟨g1, 1, none⟩ = some (.slice p12 m12 d12) ∧ z.cell? ⟨g1, 2, none⟩ = some (.slice p13 m13 d13) ∧ z.cell? ⟨g2, 0, none⟩ = some (.slice p21 m21 d21) ∧ z.cell? ⟨g2, 1, none⟩ = some (.slice p22 m22 d22) ∧ z.cell? ⟨g2, 2, none⟩ = some (.slice p23 m23 d23) ∧ z.cell? ⟨g3, 0, none⟩ = some (.slice p31 m31 d31) ∧ z.cell? ⟨g3, 1, none⟩ = some (.slice p32 m32 d32) ∧ z.cell? ⟨g3, 2, none⟩ = some (.slice p33 m33 d33) ∧ z.cell? ⟨g4, 0, none⟩ = some (.slice p41 m41 d41) ∧ z.cell? ⟨g4, 1, none⟩ = some (.slice p42 m42 d42) ∧ z.cell? ⟨g4, 2, none⟩ = some (.slice p43 m43 d43)) := fun z hb => KS4.out z (BS5.out.trans (hb.mono BS5.out.size))
  have SB1 : Hid (SchAt w5 p11 m11 d11 p12 m12 d12 p13 m13 d13 D1) := SA1.out.below BS5.out (Nat.le_refl _)
  have SB2 : Hid (SchAt w5 p21 m21 d21 p22 m22 d22 p23 m23 d23 D2) := SA2.out.below BS5.out (Nat.le_refl _)
  have SB3 : Hid (SchAt w5 p31 m31 d31 p32 m32 d32 p33 m33 d33 D3) := SA3.out.below BS5.out (Nat.le_refl _)
  have SB4 : Hid (SchAt w5 p41 m41 d41 p42 m42 d42 p43 m43 d43 D4) := SA4.out.below BS5.out (Nat.le_refl _)
  have RB1 : Hid (VasAt w5 ra1 L1.length L1) := RA1.out.below BS5.out (Nat.le_refl _)
  have RB4 : Hid (VasAt w5 ra4 L4.length L4) := RA4.out.below BS5.out (Nat.le_refl _)
  have K0 : Hid (w5.drew.cell? ⟨g1, 0, none⟩ = some (.slice p11 m11 d11) ∧ w5.drew.cell? ⟨g1, 1, none⟩ = some (.slice p12 m12 d12) ∧ w5.drew.cell? ⟨g1, 2, none⟩ = some (.slice p13 m13 d13) ∧ w5.drew.cell? ⟨g2, 0, none⟩ = some (.slice p21 m21 d21) ∧ w5.drew.cell? ⟨g2, 1, none⟩ = some (.slice p22 m22 d22) ∧ w5.drew.cell? ⟨g2, 2, none⟩ = some (.slice p23 m23 d23) ∧ w5.drew.cell? ⟨g3, 0, none⟩ = some (.slice p31 m31 d31) ∧ w5.drew.cell? ⟨g3, 1, none⟩ = some (.slice p32 m32 d32) ∧ w5.drew.cell? ⟨g3, 2, none⟩ = some (.slice p33 m33 d33) ∧ w5.drew.cell? ⟨g4, 0, none⟩ = some (.slice p41 m41 d41) ∧ w5.drew.cell? ⟨g4, 1, none⟩ = some (.slice p42 m42 d42) ∧ w5.drew.cell? ⟨g4, 2, none⟩ = some (.slice p43 m43 d43)) := KS.out _ (Below.refl _ _).drew
  have n1 : (bo != bo) = false := by cases bo <;> rfl
  have n2 : (bs != bs) = false := by cases bs <;> rfl
  have n3 : (bn != bn) = false := by cases bn <;> rfl
  have n4 : (ca != ca) = false := by simp
  go_region_held3 (fun w' => w'.cell? ⟨g1, 0, none⟩ = some (.slice p11 m11 d11) ∧ w'.cell? ⟨g1, 1, none⟩ = some (.slice p12 m12 d12) ∧ w'.cell? ⟨g1, 2, none⟩ = some (.slice p13 m13 d13) ∧ w'.cell? ⟨g2, 0, none⟩ = some (.slice p21 m21 d21) ∧ w'.cell? ⟨g2, 1, none⟩ = some (.slice p22 m22 d22) ∧ w'.cell? ⟨g2, 2, none⟩ = some (.slice p23 m23 d23) ∧ w'.cell? ⟨g3, 0, none⟩ = some (.slice p31 m31 d31) ∧ w'.cell? ⟨g3, 1, none⟩ = some (.slice p32 m32 d32) ∧ w'.cell? ⟨g3, 2, none⟩ = some (.slice p33 m33 d33) ∧ w'.cell? ⟨g4, 0, none⟩ = some (.slice p41 m41 d41) ∧ w'.cell? ⟨g4, 1, none⟩ = some (.slice p42 m42 d42) ∧ w'.cell? ⟨g4, 2, none⟩ = some (.slice p43 m43 d43))
    (first | (with_reducible exact K10.out) | (with_reducible exact K9.out) | (with_reducible exact K8.out) | (with_reducible exact K7.out) | (with_reducible exact K6.out) | (with_reducible exact K5.out) | (with_reducible exact K4.out) | (with_reducible exact K3.out) | (with_reducible exact K2.out) | (with_reducible exact K1.out) | (with_reducible exact K0.out))
    (first
    | (go_at_call 16
       refine (specRowOk_any p11 m11 d11 p12 m12 d12 p13 m13 d13 D1 HSI1.out HSC1.out ra1 L1.length rc1 L1 _ (SB1.out.below (Below.refl _ w5).drew (Nat.le_refl _)) (RB1.out.below (Below.refl _ w5).drew (Nat.le_refl _))).mono ?_
       rintro e z1 ⟨rfl, hb⟩
       have hb' : Below w5.heap.size w5 z1 := (Below.refl _ w5).drew.trans hb
       have ZB1 : Hid (Below w5.heap.size w5 z1) := hb'
       have K1 : Hid (z1.cell? ⟨g1, 0, none⟩ = some (.slice p11 m11 d11) ∧ z1.cell? ⟨g1, 1, none⟩ = some (.slice p12 m12 d12) ∧ z1.cell? ⟨g1, 2, none⟩ = some (.slice p13 m13 d13) ∧ z1.cell? ⟨g2, 0, none⟩ = some (.slice p21 m21 d21) ∧ z1.cell? ⟨g2, 1, none⟩ = some (.slice p22 m22 d22) ∧ z1.cell? ⟨g2, 2, none⟩ = some (.slice p23 m23 d23) ∧ z1.cell? ⟨g3, 0, none⟩ = some (.slice p31 m31 d31) ∧ z1.cell? ⟨g3, 1, none⟩ = some (.slice p32 m32 d32) ∧ z1.cell? ⟨g3, 2, none⟩ = some (.slice p33 m33 d33) ∧ z1.cell? ⟨g4, 0, none⟩ = some (.slice p41 m41 d41) ∧ z1.cell? ⟨g4, 1, none⟩ = some (.slice p42 m42 d42) ∧ z1.cell? ⟨g4, 2, none⟩ = some (.slice p43 m43 d43)) := KS.out _ hb'
       rw [HBO.out]
       clear hb hb')
    | (go_at_call 17
       refine (implSchemaOk_any p21 m21 d21 p22 m22 d22 p23 m23 d23 D2 _ (SB2.out.below ZB1.out (Nat.le_refl _)) SZ2.out).mono ?_
       rintro e z2 ⟨rfl, hb⟩
       have hb' : Below w5.heap.size w5 z2 := ZB1.out.trans (hb.mono ZB1.out.size)
       have ZB2 : Hid (Below w5.heap.size w5 z2) := hb'
       have K2 : Hid (z2.cell? ⟨g1, 0, none⟩ = some (.slice p11 m11 d11) ∧ z2.cell? ⟨g1, 1, none⟩ = some (.slice p12 m12 d12) ∧ z2.cell? ⟨g1, 2, none⟩ = some (.slice p13 m13 d13) ∧ z2.cell? ⟨g2, 0, none⟩ = some (.slice p21 m21 d21) ∧ z2.cell? ⟨g2, 1, none⟩ = some (.slice p22 m22 d22) ∧ z2.cell? ⟨g2, 2, none⟩ = some (.slice p23 m23 d23) ∧ z2.cell? ⟨g3, 0, none⟩ = some (.slice p31 m31 d31) ∧ z2.cell? ⟨g3, 1, none⟩ = some (.slice p32 m32 d32) ∧ z2.cell? ⟨g3, 2, none⟩ = some (.slice p33 m33 d33) ∧ z2.cell? ⟨g4, 0, none⟩ = some (.slice p41 m41 d41) ∧ z2.cell? ⟨g4, 1, none⟩ = some (.slice p42 m42 d42) ∧ z2.cell? ⟨g4, 2, none⟩ = some (.slice p43 m43 d43)) := KS.out _ hb'
       rw [HBS.out]
       clear hb hb')
    | (go_at_call 18
       refine (specSchemaOk_any p21 m21 d21 p22 m22 d22 p23 m23 d23 D2 HSI2.out HSC2.out _ (SB2.out.below ZB2.out (Nat.le_refl _))).mono ?_
       rintro e z3 ⟨rfl, hb⟩
       have hb' : Below w5.heap.size w5 z3 := ZB2.out.trans (hb.mono ZB2.out.size)
       have ZB3 : Hid (Below w5.heap.size w5 z3) := hb'
       have K3 : Hid (z3.cell? ⟨g1, 0, none⟩ = some (.slice p11 m11 d11) ∧ z3.cell? ⟨g1, 1, none⟩ = some (.slice p12 m12 d12) ∧ z3.cell? ⟨g1, 2, none⟩ = some (.slice p13 m13 d13) ∧ z3.cell? ⟨g2, 0, none⟩ = some (.slice p21 m21 d21) ∧ z3.cell? ⟨g2, 1, none⟩ = some (.slice p22 m22 d22) ∧ z3.cell? ⟨g2, 2, none⟩ = some (.slice p23 m23 d23) ∧ z3.cell? ⟨g3, 0, none⟩ = some (.slice p31 m31 d31) ∧ z3.cell? ⟨g3, 1, none⟩ = some (.slice p32 m32 d32) ∧ z3.cell? ⟨g3, 2, none⟩ = some (.slice p33 m33 d33) ∧ z3.cell? ⟨g4, 0, none⟩ = some (.slice p41 m41 d41) ∧ z3.cell? ⟨g4, 1, none⟩ = some (.slice p42 m42 d42) ∧ z3.cell? ⟨g4, 2, none⟩ = some (.slice p43 m43 d43)) := KS.out _ hb'
       rw [HBS.out]
       clear hb hb')
    | (go_at_call 19
       refine (implColNameOk_any nm _ (Nat.le_trans HNM.out (by decide))).mono ?_
       rintro e z4 ⟨rfl, hb⟩
       have hb' : Below w5.heap.size w5 z4 := ZB3.out.trans (hb.mono ZB3.out.size)
       have ZB4 : Hid (Below w5.heap.size w5 z4) := hb'
       have K4 : Hid (z4.cell? ⟨g1, 0, none⟩ = some (.slice p11 m11 d11) ∧ z4.cell? ⟨g1, 1, none⟩ = some (.slice p12 m12 d12) ∧ z4.cell? ⟨g1, 2, none⟩ = some (.slice p13 m13 d13) ∧ z4.cell? ⟨g2, 0, none⟩ = some (.slice p21 m21 d21) ∧ z4.cell? ⟨g2, 1, none⟩ = some (.slice p22 m22 d22) ∧ z4.cell? ⟨g2, 2, none⟩ = some (.slice p23 m23 d23) ∧ z4.cell? ⟨g3, 0, none⟩ = some (.slice p31 m31 d31) ∧ z4.cell? ⟨g3, 1, none⟩ = some (.slice p32 m32 d32) ∧ z4.cell? ⟨g3, 2, none⟩ = some (.slice p33 m33 d33) ∧ z4.cell? ⟨g4, 0, none⟩ = some (.slice p41 m41 d41) ∧ z4.cell? ⟨g4, 1, none⟩ = some (.slice p42 m42 d42) ∧ z4.cell? ⟨g4, 2, none⟩ = some (.slice p43 m43 d43)) := KS.out _ hb'
       rw [HBN.out]
       clear hb hb')
    | (go_at_call 20
       refine (specColNameOk_any nm (Nat.le_trans HNM.out (by decide)) _).mono ?_
       rintro e z5 ⟨rfl, hw⟩
       have hb : Below z4.heap.size z4 z5 := by rw [hw]; exact Below.refl _ _
       have hb' : Below w5.heap.size w5 z5 := ZB4.out.trans (hb.mono ZB4.out.size)
       have ZB5 : Hid (Below w5.heap.size w5 z5) := hb'
       have K5 : Hid (z5.cell? ⟨g1, 0, none⟩ = some (.slice p11 m11 d11) ∧ z5.cell? ⟨g1, 1, none⟩ = some (.slice p12 m12 d12) ∧ z5.cell? ⟨g1, 2, none⟩ = some (.slice p13 m13 d13) ∧ z5.cell? ⟨g2, 0, none⟩ = some (.slice p21 m21 d21) ∧ z5.cell? ⟨g2, 1, none⟩ = some (.slice p22 m22 d22) ∧ z5.cell? ⟨g2, 2, none⟩ = some (.slice p23 m23 d23) ∧ z5.cell? ⟨g3, 0, none⟩ = some (.slice p31 m31 d31) ∧ z5.cell? ⟨g3, 1, none⟩ = some (.slice p32 m32 d32) ∧ z5.cell? ⟨g3, 2, none⟩ = some (.slice p33 m33 d33) ∧ z5.cell? ⟨g4, 0, none⟩ = some (.slice p41 m41 d41) ∧ z5.cell? ⟨g4, 1, none⟩ = some (.slice p42 m42 d42) ∧ z5.cell? ⟨g4, 2, none⟩ = some (.slice p43 m43 d43)) := KS.out _ hb'
       rw [HBN.out]
       clear hb hb' hw)
    | (go_at_call 21
       refine (implColAt_any p31 m31 d31 p32 m32 d32 p33 m33 d33 D3 t _ (SB3.out.below ZB5.out (Nat.le_refl _)) SZ3.out (Nat.le_trans HT.out (by decide))).mono ?_
       rintro e z6 ⟨rfl, hb⟩
       have hb' : Below w5.heap.size w5 z6 := ZB5.out.trans (hb.mono ZB5.out.size)
       have ZB6 : Hid (Below w5.heap.size w5 z6) := hb'
       have K6 : Hid (z6.cell? ⟨g1, 0, none⟩ = some (.slice p11 m11 d11) ∧ z6.cell? ⟨g1, 1, none⟩ = some (.slice p12 m12 d12) ∧ z6.cell? ⟨g1, 2, none⟩ = some (.slice p13 m13 d13) ∧ z6.cell? ⟨g2, 0, none⟩ = some (.slice p21 m21 d21) ∧ z6.cell? ⟨g2, 1, none⟩ = some (.slice p22 m22 d22) ∧ z6.cell? ⟨g2, 2, none⟩ = some (.slice p23 m23 d23) ∧ z6.cell? ⟨g3, 0, none⟩ = some (.slice p31 m31 d31) ∧ z6.cell? ⟨g3, 1, none⟩ = some (.slice p32 m32 d32) ∧ z6.cell? ⟨g3, 2, none⟩ = some (.slice p33 m33 d33) ∧ z6.cell? ⟨g4, 0, none⟩ = some (.slice p41 m41 d41) ∧ z6.cell? ⟨g4, 1, none⟩ = some (.slice p42 m42 d42) ∧ z6.cell? ⟨g4, 2, none⟩ = some (.slice p43 m43 d43)) := KS.out _ hb'
       rw [HCA.out]
       clear hb hb')
    | (go_at_call 22
       refine (specColAt_any p31 m31 d31 p32 m32 d32 p33 m33 d33 D3 t _ (SB3.out.below ZB6.out (Nat.le_refl _))).mono ?_
       rintro e z7 ⟨rfl, hb⟩
       have hb' : Below w5.heap.size w5 z7 := ZB6.out.trans (hb.mono ZB6.out.size)
       have ZB7 : Hid (Below w5.heap.size w5 z7) := hb'
       have K7 : Hid (z7.cell? ⟨g1, 0, none⟩ = some (.slice p11 m11 d11) ∧ z7.cell? ⟨g1, 1, none⟩ = some (.slice p12 m12 d12) ∧ z7.cell? ⟨g1, 2, none⟩ = some (.slice p13 m13 d13) ∧ z7.cell? ⟨g2, 0, none⟩ = some (.slice p21 m21 d21) ∧ z7.cell? ⟨g2, 1, none⟩ = some (.slice p22 m22 d22) ∧ z7.cell? ⟨g2, 2, none⟩ = some (.slice p23 m23 d23) ∧ z7.cell? ⟨g3, 0, none⟩ = some (.slice p31 m31 d31) ∧ z7.cell? ⟨g3, 1, none⟩ = some (.slice p32 m32 d32) ∧ z7.cell? ⟨g3, 2, none⟩ = some (.slice p33 m33 d33) ∧ z7.cell? ⟨g4, 0, none⟩ = some (.slice p41 m41 d41) ∧ z7.cell? ⟨g4, 1, none⟩ = some (.slice p42 m42 d42) ∧ z7.cell? ⟨g4, 2, none⟩ = some (.slice p43 m43 d43)) := KS.out _ hb'
       rw [HCA.out]
       clear hb hb')
    | (go_at_call 24
       refine (implKeyOfRow_any p41 m41 d41 p42 m42 d42 p43 m43 d43 D4 ra4 L4.length rc4 L4 _ (SB4.out.below ZB7.out (Nat.le_refl _)) SZ4.out (RB4.out.below ZB7.out (Nat.le_refl _)) RC4.out RZ4.out).mono ?_
       rintro e z8 ⟨⟨v8, rfl, ho⟩, hb⟩
       have hb' : Below w5.heap.size w5 z8 := ZB7.out.trans (hb.mono ZB7.out.size)
       have ZB8 : Hid (Below w5.heap.size w5 z8) := hb'
       have K8 : Hid (z8.cell? ⟨g1, 0, none⟩ = some (.slice p11 m11 d11) ∧ z8.cell? ⟨g1, 1, none⟩ = some (.slice p12 m12 d12) ∧ z8.cell? ⟨g1, 2, none⟩ = some (.slice p13 m13 d13) ∧ z8.cell? ⟨g2, 0, none⟩ = some (.slice p21 m21 d21) ∧ z8.cell? ⟨g2, 1, none⟩ = some (.slice p22 m22 d22) ∧ z8.cell? ⟨g2, 2, none⟩ = some (.slice p23 m23 d23) ∧ z8.cell? ⟨g3, 0, none⟩ = some (.slice p31 m31 d31) ∧ z8.cell? ⟨g3, 1, none⟩ = some (.slice p32 m32 d32) ∧ z8.cell? ⟨g3, 2, none⟩ = some (.slice p33 m33 d33) ∧ z8.cell? ⟨g4, 0, none⟩ = some (.slice p41 m41 d41) ∧ z8.cell? ⟨g4, 1, none⟩ = some (.slice p42 m42 d42) ∧ z8.cell? ⟨g4, 2, none⟩ = some (.slice p43 m43 d43)) := KS.out _ hb'
       obtain ⟨xa, xac, rfl, xah, ax⟩ := own_vas ho (by have := HPL.out; omega)
       have Vxa : Hid (VasAt z8 xa (projL L4 D4.key).length (projL L4 D4.key)) := ax
       clear ho ax xah
       clear hb hb')
    | (go_at_call 25
       refine (specKeyOfRow_any p41 m41 d41 p42 m42 d42 p43 m43 d43 D4 ra4 L4.length rc4 L4 _ (SB4.out.below ZB8.out (Nat.le_refl _)) (RB4.out.below ZB8.out (Nat.le_refl _))).mono ?_
       rintro e z9 ⟨⟨v9, rfl, ho⟩, hb⟩
       have hb' : Below w5.heap.size w5 z9 := ZB8.out.trans (hb.mono ZB8.out.size)
       have ZB9 : Hid (Below w5.heap.size w5 z9) := hb'
       have K9 : Hid (z9.cell? ⟨g1, 0, none⟩ = some (.slice p11 m11 d11) ∧ z9.cell? ⟨g1, 1, none⟩ = some (.slice p12 m12 d12) ∧ z9.cell? ⟨g1, 2, none⟩ = some (.slice p13 m13 d13) ∧ z9.cell? ⟨g2, 0, none⟩ = some (.slice p21 m21 d21) ∧ z9.cell? ⟨g2, 1, none⟩ = some (.slice p22 m22 d22) ∧ z9.cell? ⟨g2, 2, none⟩ = some (.slice p23 m23 d23) ∧ z9.cell? ⟨g3, 0, none⟩ = some (.slice p31 m31 d31) ∧ z9.cell? ⟨g3, 1, none⟩ = some (.slice p32 m32 d32) ∧ z9.cell? ⟨g3, 2, none⟩ = some (.slice p33 m33 d33) ∧ z9.cell? ⟨g4, 0, none⟩ = some (.slice p41 m41 d41) ∧ z9.cell? ⟨g4, 1, none⟩ = some (.slice p42 m42 d42) ∧ z9.cell? ⟨g4, 2, none⟩ = some (.slice p43 m43 d43)) := KS.out _ hb'
       have Vxb : Hid (VasAt z9 xa (projL L4 D4.key).length (projL L4 D4.key)) := Vxa.out.below hb (Nat.le_refl _)
       obtain ⟨ya, yac, rfl, yah, ax⟩ := own_vas ho (by have := HPL.out; omega)
       have Vya : Hid (VasAt z9 ya (projL L4 D4.key).length (projL L4 D4.key)) := ax
       clear ho ax yah
       clear hb hb')
    | (go_at_call 23
       refine (sameT_any xa ya (projL L4 D4.key).length (projL L4 D4.key).length xac yac (projL L4 D4.key) (projL L4 D4.key) _ Vxb.out Vya.out).mono ?_
       rintro e z10 ⟨rfl, hb⟩
       have hb' : Below w5.heap.size w5 z10 := ZB9.out.trans (hb.mono ZB9.out.size)
       have ZB10 : Hid (Below w5.heap.size w5 z10) := hb'
       have K10 : Hid (z10.cell? ⟨g1, 0, none⟩ = some (.slice p11 m11 d11) ∧ z10.cell? ⟨g1, 1, none⟩ = some (.slice p12 m12 d12) ∧ z10.cell? ⟨g1, 2, none⟩ = some (.slice p13 m13 d13) ∧ z10.cell? ⟨g2, 0, none⟩ = some (.slice p21 m21 d21) ∧ z10.cell? ⟨g2, 1, none⟩ = some (.slice p22 m22 d22) ∧ z10.cell? ⟨g2, 2, none⟩ = some (.slice p23 m23 d23) ∧ z10.cell? ⟨g3, 0, none⟩ = some (.slice p31 m31 d31) ∧ z10.cell? ⟨g3, 1, none⟩ = some (.slice p32 m32 d32) ∧ z10.cell? ⟨g3, 2, none⟩ = some (.slice p33 m33 d33) ∧ z10.cell? ⟨g4, 0, none⟩ = some (.slice p41 m41 d41) ∧ z10.cell? ⟨g4, 1, none⟩ = some (.slice p42 m42 d42) ∧ z10.cell? ⟨g4, 2, none⟩ = some (.slice p43 m43 d43)) := KS.out _ hb'
       rw [decide_eq_true (rfl : projL L4 D4.key = projL L4 D4.key)]
       clear hb hb'))
  have BZ : Hid (Below w0.heap.size w0 z10) := B5.out.trans (ZB10.out.mono B5.out.size)
  have SC1 : Hid (SchAt z10 p11 m11 d11 p12 m12 d12 p13 m13 d13 D1) := SB1.out.below ZB10.out (Nat.le_refl _)
  have RC1' : Hid (VasAt z10 ra1 L1.length L1) := RB1.out.below ZB10.out (Nat.le_refl _)
  obtain ⟨c11, c12, c13, -⟩ := K10.out
  clear K0 K1 K2 K3 K4 K5 K6 K7 K8 K9 K10 n1 n2 n3 n4
  cases bo
  case false =>
    go_wp2
    go_ret
    exact ⟨rfl, BZ.out⟩
  have HRG : Hid (RowGood D1 L1) := by show RowGood D1 L1; exact of_decide_eq_true HBO.out
  obtain ⟨hkl, hk0, hkt⟩ := key_right HRG.out
  obtain ⟨P, hP⟩ : ∃ P, projL L1 D1.key = P := ⟨_, rfl⟩
  rw [hP] at hkl hk0 hkt
  have HP : Hid (projL L1 D1.key = P) := hP
  have HKL : Hid (P.length = D1.key.length ∧ P.length ≤ 2) := by have := HKY1.out; show _ ∧ _; omega
  have HK0 : Hid (∀ y ∈ P, ¬ y.1 = 0) := hk0
  have HKT : Hid (TupGood P) := hkt
  have HM : Hid (m12 = D1.key.length) := SC1.out.key.1.symm
  clear hkl hk0 hkt hP
  go_wp2_with
    (go_at_call 24
     refine (implKeyOfRow_any p11 m11 d11 p12 m12 d12 p13 m13 d13 D1 ra1 L1.length rc1 L1 _ SC1.out SZ1.out RC1'.out RC1.out RZ1.out).mono ?_
     rintro e z11 ⟨⟨v11, rfl, ho⟩, hb⟩
     rw [HP.out] at ho
     obtain ⟨ka, kc, rfl, -, ax⟩ := own_vas ho (by have := HKL.out; omega)
     have VK : Hid (VasAt z11 ka P.length P) := ax
     have ZC : Hid (Below w5.heap.size w5 z11) := ZB10.out.trans (hb.mono ZB10.out.size)
     have BZ11 : Hid (Below w0.heap.size w0 z11) := BZ.out.trans (hb.mono BZ.out.size)
     clear hb ho ax c11 c12 c13)
  go_loopw [13] (fun i wr => ∃ j : Nat, j ≤ P.length ∧ i = .int .i64 (j : Int) ∧ wr = z11) (fun i _ => P.length - (RowKit.intOf i).toNat)
  case atStart => exact ⟨0, Nat.zero_le _, rfl, rfl⟩
  case round =>
    obtain ⟨j, hj, rfl, rfl⟩ := hrel
    by_cases hlt : j < P.length
    · rcases VK.out.2.2 with h0 | ⟨pb, po, rfl, g1⟩
      · omega
      obtain ⟨y, hy⟩ : ∃ y, P[j]? = some y := ⟨_, List.getElem?_eq_getElem hlt⟩
      have e0 := (g1 j y hy).1
      have hne := HK0.out y (List.mem_of_getElem? hy)
      obtain ⟨k, hk⟩ : ∃ k, y.1 = k := ⟨_, rfl⟩
      rw [hk] at e0 hne
      have hkb : (k == 0) = false := by simpa using hne
      have hi0 : (0 : Int) ≤ (j : Int) := by omega
      have hi1 : (j : Int) < (P.length : Int) := by omega
      have hi2 : (P.length : Int) ≤ 2 := by have := HKL.out; omega
      clear g1 hy hk hne
      go_wp2
      go_roundw
      case rel => exact ⟨j + 1, by omega, by go_num, trivial⟩
      case measure => simp [RowKit.intOf]; omega
    · obtain rfl : j = P.length := by omega
      have hml : P.length = m12 := by rw [HM.out]; exact HKL.out.1
      have hbe : ((P.length : Int) == (m12 : Int)) = true := by simp [hml]
      obtain ⟨c11, c12, c13, -⟩ := KS.out _ ZC.out
      clear hml
      go_wp2_with (first
        | (go_at_call 26
           refine (implTupleOk_any ka P.length kc P _ VK.out).mono ?_
           rintro e z12 ⟨rfl, hb⟩
           rw [decide_eq_true HKT.out]
           have ZD : Hid (Below w5.heap.size w5 z12) := ZC.out.trans (hb.mono ZC.out.size)
           have BZ12 : Hid (Below w0.heap.size w0 z12) := BZ11.out.trans (hb.mono BZ11.out.size)
           clear hb c11 c12 c13
           obtain ⟨c11, c12, c13, -⟩ := KS.out _ ZD.out)
        | (go_at_call 17
           refine (implSchemaOk_any p11 m11 d11 p12 m12 d12 p13 m13 d13 D1 _ (SB1.out.below ZD.out (Nat.le_refl _)) SZ1.out).mono ?_
           rintro e z13 ⟨rfl, hb⟩
           rw [decide_eq_true HRG.out.1]
           have BZ13 : Hid (Below w0.heap.size w0 z13) := BZ12.out.trans (hb.mono BZ12.out.size)
           clear hb c11 c12 c13))
      go_ret
      exact ⟨rfl, BZ13.out⟩
theorem lifted  (os : Os) (started : os.Started) (H : Type) (enc : TypeId × Value → H) :
    ReturnsInHanded {} Try.checked os 3 .any (Rows.fnSchemasSpec.pre6 enc Try.prog Try.f3 Rows.fnSchemasRow.domain false) (Rows.fnSchemasSpec.post enc Try.prog Try.f3 false true false false) := by
  refine returnsInHanded_of_change (C := Try.checked) own started (by kernel_rfl) Try.func3
    (ChangeSpec.witness6 (enc := enc) (C := Try.checked) false ⟨#[], #[.slice none 0 0], []⟩ 8 (by kernel_rfl) (by kernel_rfl) (by kernel_rfl) (by kernel_rfl)) ?_
  intro W base args ds gs before hval0 hW hcnd _
  have hval : ∀ (j : Nat) t v, Try.f3.params[j]? = some t → args[j]? = some v → Value.okWide Try.prog W .any base t v := hval0
  have hW' := hW
  obtain ⟨p, q, hA0, hV, rfl, hfz, hnd⟩ := hW
  have hA : DataW.TrodAll enc Try.prog W 0 (fun _ => true) true Try.f3.params.toList args.toList ds p := hA0
  rw [Try.params3] at hA hval
  obtain ⟨v0, d0, rfl, rfl, h0⟩ := trodAll_one hA
  obtain ⟨rfl, rfl⟩ := trodVars_none hV
  obtain ⟨a0, n, c, rfl⟩ := okWide_slice Try.underlying22 (hval 0 22 v0 rfl rfl)
  have k0 := h0
  have lt0 : ∀ x ∈ p, x.block < W.heap.size := by obtain ⟨m, hm⟩ := k0; exact DataW.trod_lt m _ _ _ hm
  have hB : BytesAt W W.heap.size a0 n := by
    obtain ⟨fuel, hf⟩ := h0
    rcases open_ints Try.underlying22 Try.underlying5 (by kernel_rfl) hf with ⟨hcs, _⟩ | ⟨x, l, cc, zs, hcs, _, hl, hm, hz, _, hcell, hwz⟩
    · simp [Value.cells] at hcs
      obtain ⟨rfl, rfl, rfl⟩ := hcs
      exact .inl rfl
    · simp [Value.cells] at hcs
      obtain ⟨rfl, rfl, rfl⟩ := hcs
      by_cases h0 : n = 0
      · exact .inl h0
      · simp at hz
        obtain ⟨b, o, rfl, hc⟩ := ints_at hcell (by omega)
        refine .inr ⟨b, o, rfl, World.block_lt_of_cell? W _ (hc 0 (by omega)), fun i hi => ?_⟩
        have hzi : i < zs.length := by omega
        have bd := bounds_u8 (hwz zs[i] (List.getElem_mem hzi))
        refine ⟨zs[i].toNat, by omega, ?_⟩
        rw [hc i hzi, show ((zs[i].toNat : Nat) : Int) = zs[i] by omega]
        simp [List.getD, hzi]
  refine (walk a0 n c W hB ).mono fun e W' ⟨he, bel⟩ => ?_
  subst he
  exact ⟨_, rfl, _, _, _, [], _, [], hW', trodAll_mk1 (shut_bool Try.underlying4 _), (trodAll_cons_mk (Below.trod laidOut (by kernel_rfl) (of_decide_eq_true (by kernel_rfl)) k0 bel lt0) trodAll_mk0), rfl, bel.frame _, fun h => by cases h⟩

theorem over  : Rows.FnSchemasSaid :=
  OpenClaim.holds_of_wide 3 Try.f3 rfl rfl rfl rfl rfl rfl rfl ⟨rfl, rfl, rfl, rfl, rfl⟩ rfl rfl rfl rfl rfl (by kernel_rfl) Try.func3 (by kernel_rfl)
    (of_decide_eq_true (by kernel_rfl)) (by unfold Func.isWrapper; first | (rw [if_pos (by decide +kernel)]; kernel_rfl) | (rw [if_neg (by decide +kernel)]; exact ⟨rfl, rfl⟩))
    (fun os started H enc _ => lifted  os started H enc)

end fnSchemas
end Go.Proofs.Ytmgofehafjogfaa
