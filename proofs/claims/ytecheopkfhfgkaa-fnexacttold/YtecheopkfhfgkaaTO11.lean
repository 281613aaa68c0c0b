/- Texts joined: DatE. -/
import Derived.Test.YtecheopkfhfgkaaTO02
import Derived.Deep.RegionHeld3
import Derived.Deep.Cut
import Derived.Handy
set_option maxHeartbeats 2000000
set_option maxRecDepth 100000
namespace Go.Proofs.Ytecheopkfhfgkaa
section
open Go.ChangeShapes Go.WideShapes Go.ChangeAt Go.RowKit Go.Joins
theorem dEqIntS (v u : Value) (n : Nat) (cs : List Cel) (w : World) (h : At false w v (.l 3 1 n cs)) (h' : At false w u (.l 3 1 n cs)) (hs : Has (.l 3 1 n cs) (.l 3 1 [.i])) :
   Calls Try.prog 39 #[v, u] w (Yes w) := by
 obtain ⟨a, c, vs, rfl, h1, h2, hn, -, h3, h4⟩ := h.openL
 have SRC : Hid (n = 0 ∨ ∃ b o, a = some ⟨b, o, none⟩ ∧ ∀ j, j < n * 1 → w.cell? ⟨b, o + j, none⟩ = vs[j]?) := h3
 have HV : Hid (∀ j, j < n → AtL false w ((vs.drop (j * 1)).take 1) (row cs 1 j)) := fun j hj => rowVals h1 h2 h4 hj
 have Lvs : Hid (vs.length = n * 1) := h1
 clear h1 h2 h3 h4 hn
 obtain ⟨a', c', us, rfl, h1, h2, hn, -, h3, h4⟩ := h'.openL
 have SRD : Hid (n = 0 ∨ ∃ b o, a' = some ⟨b, o, none⟩ ∧ ∀ j, j < n * 1 → w.cell? ⟨b, o + j, none⟩ = us[j]?) := h3
 have HU : Hid (∀ j, j < n → AtL false w ((us.drop (j * 1)).take 1) (row cs 1 j)) := fun j hj => rowVals h1 h2 h4 hj
 have Lus : Hid (us.length = n * 1) := h1
 clear h1 h2 h3 h4
 have HR : Hid (∀ j, j < n → HasL (row cs 1 j) [.i]) := fun j hj => hs.rowL hj
 clear h h' hs
 go_enter Try.func39, Try.ntmps39
 go_wp2
 go_loopw [5] (fun i wr => ∃ j : Nat, j ≤ n ∧ i = .int .i64 j ∧ Below w.heap.size w wr) (fun i _ => n - (intOf i).toNat)
 case atStart => exact ⟨0, Nat.zero_le _, rfl, Below.refl _ _⟩
 case round =>
   obtain ⟨j, hj, rfl, hb⟩ := hrel
   by_cases hlt : j < n
   · have hk0 : (0 : Int) ≤ (j : Int) := by omega
     have hk1 : (j : Int) < (n : Int) := by omega
     have hle : j * 1 + 1 ≤ n * 1 := by omega
     have hH := HR.out j hlt
     obtain ⟨rs, hrs⟩ : ∃ rs, row cs 1 j = rs := ⟨_, rfl⟩
     rw [hrs] at hH
     rcases SRC.out with h0 | ⟨p1, o1, rfl, g1⟩
     · omega
     have hA := HV.out j hlt
     have ce := rowAt hb hlt g1 Lvs.out
     obtain ⟨ws, hws⟩ : ∃ ws, (vs.drop (j * 1)).take 1 = ws := ⟨_, rfl⟩
     rw [hrs] at hA
     rw [hws] at hA ce
     clear g1 hws
     rcases SRD.out with h0 | ⟨p2, o2, rfl, g2⟩
     · omega
     have hB := HU.out j hlt
     have cf := rowAt hb hlt g2 Lus.out
     obtain ⟨ws', hws⟩ : ∃ ws, (us.drop (j * 1)).take 1 = ws := ⟨_, rfl⟩
     rw [hrs] at hB
     rw [hws] at hB cf
     clear g2 hws
     obtain ⟨c0, rfl, T0⟩ := hH.c1
     have HL0 : Hid (HasL [c0] [.i]) := hH
     obtain ⟨v0, rfl, A0⟩ := hA.c1
     obtain ⟨u0, rfl, B0⟩ := hB.c1
     have HA0 : Hid (AtL false w [v0] [c0]) := hA
     have HB0 : Hid (AtL false w [u0] [c0]) := hB
     have e0 : wr.cell? ⟨p1, o1 + j * 1, none⟩ = some v0 := ce 0 (by omega)
     have f0 : wr.cell? ⟨p2, o2 + j * 1, none⟩ = some u0 := cf 0 (by omega)
     obtain ⟨x0, rfl⟩ := T0.int
     obtain rfl := A0.int
     obtain rfl := B0.int
     simp only [Nat.mul_one] at e0 f0
     have ne0 : (x0 != x0) = false := by simp
     clear ce cf hrs hA hB hH T0 A0 B0
     go_wp2
     go_region
     go_wp2
     exact ⟨⟨j + 1, by omega, by go_num, hb.drew⟩, by simp [intOf]; omega⟩
   · obtain rfl : j = n := by omega
     go_wp2
     go_ret
     exact ⟨rfl, hb⟩
theorem dEqOp (vs us : List Value) (cs : List Cel) (w : World) (h : AtL false w vs cs) (h' : AtL false w us cs) (hs : HasL cs tyOp) : Calls Try.prog 23 #[.agg vs.toArray, .agg us.toArray] w (Yes w) := by
 obtain ⟨c0, c1, c2, rfl, T0, T1, T2⟩ := hs.c3
 obtain ⟨v0, v1, v2, rfl, A0, A1, A2⟩ := h.c3
 obtain ⟨u0, u1, u2, rfl, B0, B1, B2⟩ := h'.c3
 obtain ⟨x0, rfl⟩ := T0.int
 obtain rfl := A0.int
 obtain rfl := B0.int
 have ne0 : (x0 != x0) = false := by simp
 obtain ⟨x1, rfl⟩ := T1.int
 obtain rfl := A1.int
 obtain rfl := B1.int
 have ne1 : (x1 != x1) = false := by simp
 obtain ⟨x2, rfl⟩ := T2.int
 obtain rfl := A2.int
 obtain rfl := B2.int
 have ne2 : (x2 != x2) = false := by simp
 clear hs h h' T0 A0 B0 T1 A1 B1 T2 A2 B2
 obtain ⟨W, hW⟩ : ∃ W, (w.alloc (.cells #[.int .i64 x0, .int .i64 x1, .int .i64 x2] 31)).alloc (.cells #[.int .i64 x0, .int .i64 x1, .int .i64 x2] 31) = W := ⟨_, rfl⟩
 have t0 : Hid (Two w W #[.int .i64 x0, .int .i64 x1, .int .i64 x2] #[.int .i64 x0, .int .i64 x1, .int .i64 x2] 31) := by rw [← hW]; exact two_new w _ _ _
 have HW : Hid _ := hW
 clear hW
 go_enter Try.func23, Try.ntmps23
 go_upto_region 1 with (fail)
 rw [HW.out]
 have ax0 := t0.out.a.at 0 (.int .i64 x0) rfl
 have bx0 := t0.out.b.at 0 (.int .i64 x0) rfl
 have ax1 := t0.out.a.at 1 (.int .i64 x1) rfl
 have bx1 := t0.out.b.at 1 (.int .i64 x1) rfl
 have ax2 := t0.out.a.at 2 (.int .i64 x2) rfl
 have bx2 := t0.out.b.at 2 (.int .i64 x2) rfl
 go_wp2
 go_ret
 exact ⟨rfl, t0.out.on⟩
theorem dEqOpS (v u : Value) (n : Nat) (cs : List Cel) (w : World) (h : At false w v (.l 31 3 n cs)) (h' : At false w u (.l 31 3 n cs)) (hs : Has (.l 31 3 n cs) (.l 31 3 tyOp)) :
   Calls Try.prog 75 #[v, u] w (Yes w) := by
 obtain ⟨a, c, vs, rfl, h1, h2, hn, -, h3, h4⟩ := h.openL
 have SRC : Hid (n = 0 ∨ ∃ b o, a = some ⟨b, o, none⟩ ∧ ∀ j, j < n * 3 → w.cell? ⟨b, o + j, none⟩ = vs[j]?) := h3
 have HV : Hid (∀ j, j < n → AtL false w ((vs.drop (j * 3)).take 3) (row cs 3 j)) := fun j hj => rowVals h1 h2 h4 hj
 have Lvs : Hid (vs.length = n * 3) := h1
 clear h1 h2 h3 h4 hn
 obtain ⟨a', c', us, rfl, h1, h2, hn, -, h3, h4⟩ := h'.openL
 have SRD : Hid (n = 0 ∨ ∃ b o, a' = some ⟨b, o, none⟩ ∧ ∀ j, j < n * 3 → w.cell? ⟨b, o + j, none⟩ = us[j]?) := h3
 have HU : Hid (∀ j, j < n → AtL false w ((us.drop (j * 3)).take 3) (row cs 3 j)) := fun j hj => rowVals h1 h2 h4 hj
 have Lus : Hid (us.length = n * 3) := h1
 clear h1 h2 h3 h4
 have HR : Hid (∀ j, j < n → HasL (row cs 3 j) tyOp) := fun j hj => hs.rowL hj
 clear h h' hs
 go_enter Try.func75, Try.ntmps75
 go_wp2
 go_loopw [5] (fun i wr => ∃ j : Nat, j ≤ n ∧ i = .int .i64 j ∧ Below w.heap.size w wr) (fun i _ => n - (intOf i).toNat)
 case atStart => exact ⟨0, Nat.zero_le _, rfl, Below.refl _ _⟩
 case round =>
   obtain ⟨j, hj, rfl, hb⟩ := hrel
   by_cases hlt : j < n
   · have hk0 : (0 : Int) ≤ (j : Int) := by omega
     have hk1 : (j : Int) < (n : Int) := by omega
     have hle : j * 3 + 3 ≤ n * 3 := by omega
     have hH := HR.out j hlt
     obtain ⟨rs, hrs⟩ : ∃ rs, row cs 3 j = rs := ⟨_, rfl⟩
     rw [hrs] at hH
     rcases SRC.out with h0 | ⟨p1, o1, rfl, g1⟩
     · omega
     have hA := HV.out j hlt
     have ce := rowAt hb hlt g1 Lvs.out
     obtain ⟨ws, hws⟩ : ∃ ws, (vs.drop (j * 3)).take 3 = ws := ⟨_, rfl⟩
     rw [hrs] at hA
     rw [hws] at hA ce
     clear g1 hws
     rcases SRD.out with h0 | ⟨p2, o2, rfl, g2⟩
     · omega
     have hB := HU.out j hlt
     have cf := rowAt hb hlt g2 Lus.out
     obtain ⟨ws', hws⟩ : ∃ ws, (us.drop (j * 3)).take 3 = ws := ⟨_, rfl⟩
     rw [hrs] at hB
     rw [hws] at hB cf
     clear g2 hws
     obtain ⟨c0, c1, c2, rfl, T0, T1, T2⟩ := hH.c3
     have HL0 : Hid (HasL [c0, c1, c2] tyOp) := hH
     obtain ⟨v0, v1, v2, rfl, A0, A1, A2⟩ := hA.c3
     obtain ⟨u0, u1, u2, rfl, B0, B1, B2⟩ := hB.c3
     have HA0 : Hid (AtL false w [v0, v1, v2] [c0, c1, c2]) := hA
     have HB0 : Hid (AtL false w [u0, u1, u2] [c0, c1, c2]) := hB
     have e0 : wr.cell? ⟨p1, o1 + j * 3, none⟩ = some v0 := ce 0 (by omega)
     have f0 : wr.cell? ⟨p2, o2 + j * 3, none⟩ = some u0 := cf 0 (by omega)
     have e1 : wr.cell? ⟨p1, o1 + j * 3 + 1, none⟩ = some v1 := ce 1 (by omega)
     have f1 : wr.cell? ⟨p2, o2 + j * 3 + 1, none⟩ = some u1 := cf 1 (by omega)
     have e2 : wr.cell? ⟨p1, o1 + j * 3 + 2, none⟩ = some v2 := ce 2 (by omega)
     have f2 : wr.cell? ⟨p2, o2 + j * 3 + 2, none⟩ = some u2 := cf 2 (by omega)
     clear ce cf hrs T0 A0 B0 T1 A1 B1 T2 A2 B2 hA hB hH
     have q1 : p1 < wr.heap.size := World.block_lt_of_cell? wr _ e0
     have q2 : p2 < wr.heap.size := World.block_lt_of_cell? wr _ f0
     go_wp2_with fail
     go_region_held3 (fun w' => w'.cell? ⟨p1, o1 + j * 3, none⟩ = some v0 ∧ w'.cell? ⟨p1, o1 + j * 3 + 1, none⟩ = some v1 ∧ w'.cell? ⟨p1, o1 + j * 3 + 2, none⟩ = some v2 ∧ w'.cell? ⟨p2, o2 + j * 3, none⟩ = some u0 ∧ w'.cell? ⟨p2, o2 + j * 3 + 1, none⟩ = some u1 ∧ w'.cell? ⟨p2, o2 + j * 3 + 2, none⟩ = some u2)
       (first | (with_reducible exact K2.out) | go_keep)
       (first
       | (go_at_call 23
          refine (dEqOp [v0, v1, v2] [u0, u1, u2] [c0, c1, c2] _ (HA0.out.on (hb.drew) (Nat.le_refl _)) (HB0.out.on (hb.drew) (Nat.le_refl _)) HL0.out).mono ?_
          rintro e w2 ⟨rfl, hb2⟩
          have hb2' : Below wr.heap.size wr w2 := (Below.refl _ wr).drew.trans hb2
          have K2 : Hid (w2.cell? ⟨p1, o1 + j * 3, none⟩ = some v0 ∧ w2.cell? ⟨p1, o1 + j * 3 + 1, none⟩ = some v1 ∧ w2.cell? ⟨p1, o1 + j * 3 + 2, none⟩ = some v2 ∧ w2.cell? ⟨p2, o2 + j * 3, none⟩ = some u0 ∧ w2.cell? ⟨p2, o2 + j * 3 + 1, none⟩ = some u1 ∧ w2.cell? ⟨p2, o2 + j * 3 + 2, none⟩ = some u2) := ⟨(hb2'.cell (show p1 < _ from q1)).trans e0, (hb2'.cell (show p1 < _ from q1)).trans e1, (hb2'.cell (show p1 < _ from q1)).trans e2, (hb2'.cell (show p2 < _ from q2)).trans f0, (hb2'.cell (show p2 < _ from q2)).trans f1, (hb2'.cell (show p2 < _ from q2)).trans f2⟩
          have hb02 : Below w.heap.size w w2 := hb.trans (hb2'.mono hb.size)
          clear hb2 hb2'))
     clear e0 f0 e1 f1 e2 f2 K2
     go_wp2
     exact ⟨⟨j + 1, by omega, by go_num, hb02⟩, by simp [intOf]; omega⟩
   · obtain rfl : j = n := by omega
     go_wp2
     go_ret
     exact ⟨rfl, hb⟩
theorem dEqPair (vs us : List Value) (cs : List Cel) (w : World) (h : AtL false w vs cs) (h' : AtL false w us cs) (hs : HasL cs tyPair) : Calls Try.prog 84 #[.agg vs.toArray, .agg us.toArray] w (Yes w) := by
 obtain ⟨c0, c1, rfl, T0, T1⟩ := hs.c2
 obtain ⟨v0, v1, rfl, A0, A1⟩ := h.c2
 obtain ⟨u0, u1, rfl, B0, B1⟩ := h'.c2
 obtain ⟨x0, rfl⟩ := T0.int
 obtain rfl := A0.int
 obtain rfl := B0.int
 have ne0 : (x0 != x0) = false := by simp
 obtain ⟨x1, rfl⟩ := T1.int
 obtain rfl := A1.int
 obtain rfl := B1.int
 have ne1 : (x1 != x1) = false := by simp
 clear hs h h' T0 A0 B0 T1 A1 B1
 obtain ⟨W, hW⟩ : ∃ W, (w.alloc (.cells #[.int .i64 x0, .int .i64 x1] 138)).alloc (.cells #[.int .i64 x0, .int .i64 x1] 138) = W := ⟨_, rfl⟩
 have t0 : Hid (Two w W #[.int .i64 x0, .int .i64 x1] #[.int .i64 x0, .int .i64 x1] 138) := by rw [← hW]; exact two_new w _ _ _
 have HW : Hid _ := hW
 clear hW
 go_enter Try.func84, Try.ntmps84
 go_upto_region 1 with (fail)
 rw [HW.out]
 have ax0 := t0.out.a.at 0 (.int .i64 x0) rfl
 have bx0 := t0.out.b.at 0 (.int .i64 x0) rfl
 have ax1 := t0.out.a.at 1 (.int .i64 x1) rfl
 have bx1 := t0.out.b.at 1 (.int .i64 x1) rfl
 go_wp2
 go_ret
 exact ⟨rfl, t0.out.on⟩
theorem dEqPairS (v u : Value) (n : Nat) (cs : List Cel) (w : World) (h : At false w v (.l 138 2 n cs)) (h' : At false w u (.l 138 2 n cs)) (hs : Has (.l 138 2 n cs) (.l 138 2 tyPair)) :
   Calls Try.prog 76 #[v, u] w (Yes w) := by
 obtain ⟨a, c, vs, rfl, h1, h2, hn, -, h3, h4⟩ := h.openL
 have SRC : Hid (n = 0 ∨ ∃ b o, a = some ⟨b, o, none⟩ ∧ ∀ j, j < n * 2 → w.cell? ⟨b, o + j, none⟩ = vs[j]?) := h3
 have HV : Hid (∀ j, j < n → AtL false w ((vs.drop (j * 2)).take 2) (row cs 2 j)) := fun j hj => rowVals h1 h2 h4 hj
 have Lvs : Hid (vs.length = n * 2) := h1
 clear h1 h2 h3 h4 hn
 obtain ⟨a', c', us, rfl, h1, h2, hn, -, h3, h4⟩ := h'.openL
 have SRD : Hid (n = 0 ∨ ∃ b o, a' = some ⟨b, o, none⟩ ∧ ∀ j, j < n * 2 → w.cell? ⟨b, o + j, none⟩ = us[j]?) := h3
 have HU : Hid (∀ j, j < n → AtL false w ((us.drop (j * 2)).take 2) (row cs 2 j)) := fun j hj => rowVals h1 h2 h4 hj
 have Lus : Hid (us.length = n * 2) := h1
 clear h1 h2 h3 h4
 have HR : Hid (∀ j, j < n → HasL (row cs 2 j) tyPair) := fun j hj => hs.rowL hj
 clear h h' hs
 go_enter Try.func76, Try.ntmps76
 go_wp2
 go_loopw [5] (fun i wr => ∃ j : Nat, j ≤ n ∧ i = .int .i64 j ∧ Below w.heap.size w wr) (fun i _ => n - (intOf i).toNat)
 case atStart => exact ⟨0, Nat.zero_le _, rfl, Below.refl _ _⟩
 case round =>
   obtain ⟨j, hj, rfl, hb⟩ := hrel
   by_cases hlt : j < n
   · have hk0 : (0 : Int) ≤ (j : Int) := by omega
     have hk1 : (j : Int) < (n : Int) := by omega
     have hle : j * 2 + 2 ≤ n * 2 := by omega
     have hH := HR.out j hlt
     obtain ⟨rs, hrs⟩ : ∃ rs, row cs 2 j = rs := ⟨_, rfl⟩
     rw [hrs] at hH
     rcases SRC.out with h0 | ⟨p1, o1, rfl, g1⟩
     · omega
     have hA := HV.out j hlt
     have ce := rowAt hb hlt g1 Lvs.out
     obtain ⟨ws, hws⟩ : ∃ ws, (vs.drop (j * 2)).take 2 = ws := ⟨_, rfl⟩
     rw [hrs] at hA
     rw [hws] at hA ce
     clear g1 hws
     rcases SRD.out with h0 | ⟨p2, o2, rfl, g2⟩
     · omega
     have hB := HU.out j hlt
     have cf := rowAt hb hlt g2 Lus.out
     obtain ⟨ws', hws⟩ : ∃ ws, (us.drop (j * 2)).take 2 = ws := ⟨_, rfl⟩
     rw [hrs] at hB
     rw [hws] at hB cf
     clear g2 hws
     obtain ⟨c0, c1, rfl, T0, T1⟩ := hH.c2
     have HL0 : Hid (HasL [c0, c1] tyPair) := hH
     obtain ⟨v0, v1, rfl, A0, A1⟩ := hA.c2
     obtain ⟨u0, u1, rfl, B0, B1⟩ := hB.c2
     have HA0 : Hid (AtL false w [v0, v1] [c0, c1]) := hA
     have HB0 : Hid (AtL false w [u0, u1] [c0, c1]) := hB
     have e0 : wr.cell? ⟨p1, o1 + j * 2, none⟩ = some v0 := ce 0 (by omega)
     have f0 : wr.cell? ⟨p2, o2 + j * 2, none⟩ = some u0 := cf 0 (by omega)
     have e1 : wr.cell? ⟨p1, o1 + j * 2 + 1, none⟩ = some v1 := ce 1 (by omega)
     have f1 : wr.cell? ⟨p2, o2 + j * 2 + 1, none⟩ = some u1 := cf 1 (by omega)
     clear ce cf hrs T0 A0 B0 T1 A1 B1 hA hB hH
     have q1 : p1 < wr.heap.size := World.block_lt_of_cell? wr _ e0
     have q2 : p2 < wr.heap.size := World.block_lt_of_cell? wr _ f0
     go_wp2_with fail
     go_region_held3 (fun w' => w'.cell? ⟨p1, o1 + j * 2, none⟩ = some v0 ∧ w'.cell? ⟨p1, o1 + j * 2 + 1, none⟩ = some v1 ∧ w'.cell? ⟨p2, o2 + j * 2, none⟩ = some u0 ∧ w'.cell? ⟨p2, o2 + j * 2 + 1, none⟩ = some u1)
       (first | (with_reducible exact K2.out) | go_keep)
       (first
       | (go_at_call 84
          refine (dEqPair [v0, v1] [u0, u1] [c0, c1] _ (HA0.out.on (hb.drew) (Nat.le_refl _)) (HB0.out.on (hb.drew) (Nat.le_refl _)) HL0.out).mono ?_
          rintro e w2 ⟨rfl, hb2⟩
          have hb2' : Below wr.heap.size wr w2 := (Below.refl _ wr).drew.trans hb2
          have K2 : Hid (w2.cell? ⟨p1, o1 + j * 2, none⟩ = some v0 ∧ w2.cell? ⟨p1, o1 + j * 2 + 1, none⟩ = some v1 ∧ w2.cell? ⟨p2, o2 + j * 2, none⟩ = some u0 ∧ w2.cell? ⟨p2, o2 + j * 2 + 1, none⟩ = some u1) := ⟨(hb2'.cell (show p1 < _ from q1)).trans e0, (hb2'.cell (show p1 < _ from q1)).trans e1, (hb2'.cell (show p2 < _ from q2)).trans f0, (hb2'.cell (show p2 < _ from q2)).trans f1⟩
          have hb02 : Below w.heap.size w w2 := hb.trans (hb2'.mono hb.size)
          clear hb2 hb2'))
     clear e0 f0 e1 f1 K2
     go_wp2
     exact ⟨⟨j + 1, by omega, by go_num, hb02⟩, by simp [intOf]; omega⟩
   · obtain rfl : j = n := by omega
     go_wp2
     go_ret
     exact ⟨rfl, hb⟩
theorem dEqHelp (vs us : List Value) (cs : List Cel) (w : World) (h : AtL false w vs cs) (h' : AtL false w us cs) (hs : HasL cs tyHelp) : Calls Try.prog 85 #[.agg vs.toArray, .agg us.toArray] w (Yes w) := by
 obtain ⟨c0, c1, c2, c3, rfl, T0, T1, T2, T3⟩ := hs.c4
 obtain ⟨v0, v1, v2, v3, rfl, A0, A1, A2, A3⟩ := h.c4
 obtain ⟨u0, u1, u2, u3, rfl, B0, B1, B2, B3⟩ := h'.c4
 obtain ⟨x0, rfl⟩ := T0.int
 obtain rfl := A0.int
 obtain rfl := B0.int
 have ne0 : (x0 != x0) = false := by simp
 obtain ⟨x1, rfl⟩ := T1.int
 obtain rfl := A1.int
 obtain rfl := B1.int
 have ne1 : (x1 != x1) = false := by simp
 obtain ⟨x2, rfl⟩ := T2.int
 obtain rfl := A2.int
 obtain rfl := B2.int
 have ne2 : (x2 != x2) = false := by simp
 obtain ⟨x3, rfl⟩ := T3.int
 obtain rfl := A3.int
 obtain rfl := B3.int
 have ne3 : (x3 != x3) = false := by simp
 clear hs h h' T0 A0 B0 T1 A1 B1 T2 A2 B2 T3 A3 B3
 obtain ⟨W, hW⟩ : ∃ W, (w.alloc (.cells #[.int .i64 x0, .int .i64 x1, .int .i64 x2, .int .i64 x3] 140)).alloc (.cells #[.int .i64 x0, .int .i64 x1, .int .i64 x2, .int .i64 x3] 140) = W := ⟨_, rfl⟩
 have t0 : Hid (Two w W #[.int .i64 x0, .int .i64 x1, .int .i64 x2, .int .i64 x3] #[.int .i64 x0, .int .i64 x1, .int .i64 x2, .int .i64 x3] 140) := by rw [← hW]; exact two_new w _ _ _
 have HW : Hid _ := hW
 clear hW
 go_enter Try.func85, Try.ntmps85
 go_upto_region 1 with (fail)
 rw [HW.out]
 have ax0 := t0.out.a.at 0 (.int .i64 x0) rfl
 have bx0 := t0.out.b.at 0 (.int .i64 x0) rfl
 have ax1 := t0.out.a.at 1 (.int .i64 x1) rfl
 have bx1 := t0.out.b.at 1 (.int .i64 x1) rfl
 have ax2 := t0.out.a.at 2 (.int .i64 x2) rfl
 have bx2 := t0.out.b.at 2 (.int .i64 x2) rfl
 have ax3 := t0.out.a.at 3 (.int .i64 x3) rfl
 have bx3 := t0.out.b.at 3 (.int .i64 x3) rfl
 go_wp2
 go_ret
 exact ⟨rfl, t0.out.on⟩
theorem dEqHelpS (v u : Value) (n : Nat) (cs : List Cel) (w : World) (h : At false w v (.l 140 4 n cs)) (h' : At false w u (.l 140 4 n cs)) (hs : Has (.l 140 4 n cs) (.l 140 4 tyHelp)) :
   Calls Try.prog 77 #[v, u] w (Yes w) := by
 obtain ⟨a, c, vs, rfl, h1, h2, hn, -, h3, h4⟩ := h.openL
 have SRC : Hid (n = 0 ∨ ∃ b o, a = some ⟨b, o, none⟩ ∧ ∀ j, j < n * 4 → w.cell? ⟨b, o + j, none⟩ = vs[j]?) := h3
 have HV : Hid (∀ j, j < n → AtL false w ((vs.drop (j * 4)).take 4) (row cs 4 j)) := fun j hj => rowVals h1 h2 h4 hj
 have Lvs : Hid (vs.length = n * 4) := h1
 clear h1 h2 h3 h4 hn
 obtain ⟨a', c', us, rfl, h1, h2, hn, -, h3, h4⟩ := h'.openL
 have SRD : Hid (n = 0 ∨ ∃ b o, a' = some ⟨b, o, none⟩ ∧ ∀ j, j < n * 4 → w.cell? ⟨b, o + j, none⟩ = us[j]?) := h3
 have HU : Hid (∀ j, j < n → AtL false w ((us.drop (j * 4)).take 4) (row cs 4 j)) := fun j hj => rowVals h1 h2 h4 hj
 have Lus : Hid (us.length = n * 4) := h1
 clear h1 h2 h3 h4
 have HR : Hid (∀ j, j < n → HasL (row cs 4 j) tyHelp) := fun j hj => hs.rowL hj
 clear h h' hs
 go_enter Try.func77, Try.ntmps77
 go_wp2
 go_loopw [5] (fun i wr => ∃ j : Nat, j ≤ n ∧ i = .int .i64 j ∧ Below w.heap.size w wr) (fun i _ => n - (intOf i).toNat)
 case atStart => exact ⟨0, Nat.zero_le _, rfl, Below.refl _ _⟩
 case round =>
   obtain ⟨j, hj, rfl, hb⟩ := hrel
   by_cases hlt : j < n
   · have hk0 : (0 : Int) ≤ (j : Int) := by omega
     have hk1 : (j : Int) < (n : Int) := by omega
     have hle : j * 4 + 4 ≤ n * 4 := by omega
     have hH := HR.out j hlt
     obtain ⟨rs, hrs⟩ : ∃ rs, row cs 4 j = rs := ⟨_, rfl⟩
     rw [hrs] at hH
     rcases SRC.out with h0 | ⟨p1, o1, rfl, g1⟩
     · omega
     have hA := HV.out j hlt
     have ce := rowAt hb hlt g1 Lvs.out
     obtain ⟨ws, hws⟩ : ∃ ws, (vs.drop (j * 4)).take 4 = ws := ⟨_, rfl⟩
     rw [hrs] at hA
     rw [hws] at hA ce
     clear g1 hws
     rcases SRD.out with h0 | ⟨p2, o2, rfl, g2⟩
     · omega
     have hB := HU.out j hlt
     have cf := rowAt hb hlt g2 Lus.out
     obtain ⟨ws', hws⟩ : ∃ ws, (us.drop (j * 4)).take 4 = ws := ⟨_, rfl⟩
     rw [hrs] at hB
     rw [hws] at hB cf
     clear g2 hws
     obtain ⟨c0, c1, c2, c3, rfl, T0, T1, T2, T3⟩ := hH.c4
     have HL0 : Hid (HasL [c0, c1, c2, c3] tyHelp) := hH
     obtain ⟨v0, v1, v2, v3, rfl, A0, A1, A2, A3⟩ := hA.c4
     obtain ⟨u0, u1, u2, u3, rfl, B0, B1, B2, B3⟩ := hB.c4
     have HA0 : Hid (AtL false w [v0, v1, v2, v3] [c0, c1, c2, c3]) := hA
     have HB0 : Hid (AtL false w [u0, u1, u2, u3] [c0, c1, c2, c3]) := hB
     have e0 : wr.cell? ⟨p1, o1 + j * 4, none⟩ = some v0 := ce 0 (by omega)
     have f0 : wr.cell? ⟨p2, o2 + j * 4, none⟩ = some u0 := cf 0 (by omega)
     have e1 : wr.cell? ⟨p1, o1 + j * 4 + 1, none⟩ = some v1 := ce 1 (by omega)
     have f1 : wr.cell? ⟨p2, o2 + j * 4 + 1, none⟩ = some u1 := cf 1 (by omega)
     have e2 : wr.cell? ⟨p1, o1 + j * 4 + 2, none⟩ = some v2 := ce 2 (by omega)
     have f2 : wr.cell? ⟨p2, o2 + j * 4 + 2, none⟩ = some u2 := cf 2 (by omega)
     have e3 : wr.cell? ⟨p1, o1 + j * 4 + 3, none⟩ = some v3 := ce 3 (by omega)
     have f3 : wr.cell? ⟨p2, o2 + j * 4 + 3, none⟩ = some u3 := cf 3 (by omega)
     clear ce cf hrs T0 A0 B0 T1 A1 B1 T2 A2 B2 T3 A3 B3 hA hB hH
     have q1 : p1 < wr.heap.size := World.block_lt_of_cell? wr _ e0
     have q2 : p2 < wr.heap.size := World.block_lt_of_cell? wr _ f0
     go_wp2_with fail
     go_region_held3 (fun w' => w'.cell? ⟨p1, o1 + j * 4, none⟩ = some v0 ∧ w'.cell? ⟨p1, o1 + j * 4 + 1, none⟩ = some v1 ∧ w'.cell? ⟨p1, o1 + j * 4 + 2, none⟩ = some v2 ∧ w'.cell? ⟨p1, o1 + j * 4 + 3, none⟩ = some v3 ∧ w'.cell? ⟨p2, o2 + j * 4, none⟩ = some u0 ∧ w'.cell? ⟨p2, o2 + j * 4 + 1, none⟩ = some u1 ∧ w'.cell? ⟨p2, o2 + j * 4 + 2, none⟩ = some u2 ∧ w'.cell? ⟨p2, o2 + j * 4 + 3, none⟩ = some u3)
       (first | (with_reducible exact K2.out) | go_keep)
       (first
       | (go_at_call 85
          refine (dEqHelp [v0, v1, v2, v3] [u0, u1, u2, u3] [c0, c1, c2, c3] _ (HA0.out.on (hb.drew) (Nat.le_refl _)) (HB0.out.on (hb.drew) (Nat.le_refl _)) HL0.out).mono ?_
          rintro e w2 ⟨rfl, hb2⟩
          have hb2' : Below wr.heap.size wr w2 := (Below.refl _ wr).drew.trans hb2
          have K2 : Hid (w2.cell? ⟨p1, o1 + j * 4, none⟩ = some v0 ∧ w2.cell? ⟨p1, o1 + j * 4 + 1, none⟩ = some v1 ∧ w2.cell? ⟨p1, o1 + j * 4 + 2, none⟩ = some v2 ∧ w2.cell? ⟨p1, o1 + j * 4 + 3, none⟩ = some v3 ∧ w2.cell? ⟨p2, o2 + j * 4, none⟩ = some u0 ∧ w2.cell? ⟨p2, o2 + j * 4 + 1, none⟩ = some u1 ∧ w2.cell? ⟨p2, o2 + j * 4 + 2, none⟩ = some u2 ∧ w2.cell? ⟨p2, o2 + j * 4 + 3, none⟩ = some u3) := ⟨(hb2'.cell (show p1 < _ from q1)).trans e0, (hb2'.cell (show p1 < _ from q1)).trans e1, (hb2'.cell (show p1 < _ from q1)).trans e2, (hb2'.cell (show p1 < _ from q1)).trans e3, (hb2'.cell (show p2 < _ from q2)).trans f0, (hb2'.cell (show p2 < _ from q2)).trans f1, (hb2'.cell (show p2 < _ from q2)).trans f2, (hb2'.cell (show p2 < _ from q2)).trans f3⟩
          have hb02 : Below w.heap.size w w2 := hb.trans (hb2'.mono hb.size)
          clear hb2 hb2'))
     clear e0 f0 e1 f1 e2 f2 e3 f3 K2
     go_wp2
     exact ⟨⟨j + 1, by omega, by go_num, hb02⟩, by simp [intOf]; omega⟩
   · obtain rfl : j = n := by omega
     go_wp2
     go_ret
     exact ⟨rfl, hb⟩
theorem dEqEntry (vs us : List Value) (cs : List Cel) (w : World) (h : AtL false w vs cs) (h' : AtL false w us cs) (hs : HasL cs tyEntry) : Calls Try.prog 87 #[.agg vs.toArray, .agg us.toArray] w (Yes w) := by
 obtain ⟨c0, c1, c2, rfl, T0, T1, T2⟩ := hs.c3
 obtain ⟨v0, v1, v2, rfl, A0, A1, A2⟩ := h.c3
 obtain ⟨u0, u1, u2, rfl, B0, B1, B2⟩ := h'.c3
 obtain ⟨x0, rfl⟩ := T0.int
 obtain rfl := A0.int
 obtain rfl := B0.int
 have ne0 : (x0 != x0) = false := by simp
 obtain ⟨x1, rfl⟩ := T1.int
 obtain rfl := A1.int
 obtain rfl := B1.int
 have ne1 : (x1 != x1) = false := by simp
 obtain ⟨x2, rfl⟩ := T2.int
 obtain rfl := A2.int
 obtain rfl := B2.int
 have ne2 : (x2 != x2) = false := by simp
 clear hs h h' T0 A0 B0 T1 A1 B1 T2 A2 B2
 obtain ⟨W, hW⟩ : ∃ W, (w.alloc (.cells #[.int .i64 x0, .int .i64 x1, .int .i64 x2] 151)).alloc (.cells #[.int .i64 x0, .int .i64 x1, .int .i64 x2] 151) = W := ⟨_, rfl⟩
 have t0 : Hid (Two w W #[.int .i64 x0, .int .i64 x1, .int .i64 x2] #[.int .i64 x0, .int .i64 x1, .int .i64 x2] 151) := by rw [← hW]; exact two_new w _ _ _
 have HW : Hid _ := hW
 clear hW
 go_enter Try.func87, Try.ntmps87
 go_upto_region 1 with (fail)
 rw [HW.out]
 have ax0 := t0.out.a.at 0 (.int .i64 x0) rfl
 have bx0 := t0.out.b.at 0 (.int .i64 x0) rfl
 have ax1 := t0.out.a.at 1 (.int .i64 x1) rfl
 have bx1 := t0.out.b.at 1 (.int .i64 x1) rfl
 have ax2 := t0.out.a.at 2 (.int .i64 x2) rfl
 have bx2 := t0.out.b.at 2 (.int .i64 x2) rfl
 go_wp2
 go_ret
 exact ⟨rfl, t0.out.on⟩
theorem dEqEntryS (v u : Value) (n : Nat) (cs : List Cel) (w : World) (h : At false w v (.l 151 3 n cs)) (h' : At false w u (.l 151 3 n cs)) (hs : Has (.l 151 3 n cs) (.l 151 3 tyEntry)) :
   Calls Try.prog 83 #[v, u] w (Yes w) := by
 obtain ⟨a, c, vs, rfl, h1, h2, hn, -, h3, h4⟩ := h.openL
 have SRC : Hid (n = 0 ∨ ∃ b o, a = some ⟨b, o, none⟩ ∧ ∀ j, j < n * 3 → w.cell? ⟨b, o + j, none⟩ = vs[j]?) := h3
 have HV : Hid (∀ j, j < n → AtL false w ((vs.drop (j * 3)).take 3) (row cs 3 j)) := fun j hj => rowVals h1 h2 h4 hj
 have Lvs : Hid (vs.length = n * 3) := h1
 clear h1 h2 h3 h4 hn
 obtain ⟨a', c', us, rfl, h1, h2, hn, -, h3, h4⟩ := h'.openL
 have SRD : Hid (n = 0 ∨ ∃ b o, a' = some ⟨b, o, none⟩ ∧ ∀ j, j < n * 3 → w.cell? ⟨b, o + j, none⟩ = us[j]?) := h3
 have HU : Hid (∀ j, j < n → AtL false w ((us.drop (j * 3)).take 3) (row cs 3 j)) := fun j hj => rowVals h1 h2 h4 hj
 have Lus : Hid (us.length = n * 3) := h1
 clear h1 h2 h3 h4
 have HR : Hid (∀ j, j < n → HasL (row cs 3 j) tyEntry) := fun j hj => hs.rowL hj
 clear h h' hs
 go_enter Try.func83, Try.ntmps83
 go_wp2
 go_loopw [5] (fun i wr => ∃ j : Nat, j ≤ n ∧ i = .int .i64 j ∧ Below w.heap.size w wr) (fun i _ => n - (intOf i).toNat)
 case atStart => exact ⟨0, Nat.zero_le _, rfl, Below.refl _ _⟩
 case round =>
   obtain ⟨j, hj, rfl, hb⟩ := hrel
   by_cases hlt : j < n
   · have hk0 : (0 : Int) ≤ (j : Int) := by omega
     have hk1 : (j : Int) < (n : Int) := by omega
     have hle : j * 3 + 3 ≤ n * 3 := by omega
     have hH := HR.out j hlt
     obtain ⟨rs, hrs⟩ : ∃ rs, row cs 3 j = rs := ⟨_, rfl⟩
     rw [hrs] at hH
     rcases SRC.out with h0 | ⟨p1, o1, rfl, g1⟩
     · omega
     have hA := HV.out j hlt
     have ce := rowAt hb hlt g1 Lvs.out
     obtain ⟨ws, hws⟩ : ∃ ws, (vs.drop (j * 3)).take 3 = ws := ⟨_, rfl⟩
     rw [hrs] at hA
     rw [hws] at hA ce
     clear g1 hws
     rcases SRD.out with h0 | ⟨p2, o2, rfl, g2⟩
     · omega
     have hB := HU.out j hlt
     have cf := rowAt hb hlt g2 Lus.out
     obtain ⟨ws', hws⟩ : ∃ ws, (us.drop (j * 3)).take 3 = ws := ⟨_, rfl⟩
     rw [hrs] at hB
     rw [hws] at hB cf
     clear g2 hws
     obtain ⟨c0, c1, c2, rfl, T0, T1, T2⟩ := hH.c3
     have HL0 : Hid (HasL [c0, c1, c2] tyEntry) := hH
     obtain ⟨v0, v1, v2, rfl, A0, A1, A2⟩ := hA.c3
     obtain ⟨u0, u1, u2, rfl, B0, B1, B2⟩ := hB.c3
     have HA0 : Hid (AtL false w [v0, v1, v2] [c0, c1, c2]) := hA
     have HB0 : Hid (AtL false w [u0, u1, u2] [c0, c1, c2]) := hB
     have e0 : wr.cell? ⟨p1, o1 + j * 3, none⟩ = some v0 := ce 0 (by omega)
     have f0 : wr.cell? ⟨p2, o2 + j * 3, none⟩ = some u0 := cf 0 (by omega)
     have e1 : wr.cell? ⟨p1, o1 + j * 3 + 1, none⟩ = some v1 := ce 1 (by omega)
     have f1 : wr.cell? ⟨p2, o2 + j * 3 + 1, none⟩ = some u1 := cf 1 (by omega)
     have e2 : wr.cell? ⟨p1, o1 + j * 3 + 2, none⟩ = some v2 := ce 2 (by omega)
     have f2 : wr.cell? ⟨p2, o2 + j * 3 + 2, none⟩ = some u2 := cf 2 (by omega)
     clear ce cf hrs T0 A0 B0 T1 A1 B1 T2 A2 B2 hA hB hH
     have q1 : p1 < wr.heap.size := World.block_lt_of_cell? wr _ e0
     have q2 : p2 < wr.heap.size := World.block_lt_of_cell? wr _ f0
     go_wp2_with fail
     go_region_held3 (fun w' => w'.cell? ⟨p1, o1 + j * 3, none⟩ = some v0 ∧ w'.cell? ⟨p1, o1 + j * 3 + 1, none⟩ = some v1 ∧ w'.cell? ⟨p1, o1 + j * 3 + 2, none⟩ = some v2 ∧ w'.cell? ⟨p2, o2 + j * 3, none⟩ = some u0 ∧ w'.cell? ⟨p2, o2 + j * 3 + 1, none⟩ = some u1 ∧ w'.cell? ⟨p2, o2 + j * 3 + 2, none⟩ = some u2)
       (first | (with_reducible exact K2.out) | go_keep)
       (first
       | (go_at_call 87
          refine (dEqEntry [v0, v1, v2] [u0, u1, u2] [c0, c1, c2] _ (HA0.out.on (hb.drew) (Nat.le_refl _)) (HB0.out.on (hb.drew) (Nat.le_refl _)) HL0.out).mono ?_
          rintro e w2 ⟨rfl, hb2⟩
          have hb2' : Below wr.heap.size wr w2 := (Below.refl _ wr).drew.trans hb2
          have K2 : Hid (w2.cell? ⟨p1, o1 + j * 3, none⟩ = some v0 ∧ w2.cell? ⟨p1, o1 + j * 3 + 1, none⟩ = some v1 ∧ w2.cell? ⟨p1, o1 + j * 3 + 2, none⟩ = some v2 ∧ w2.cell? ⟨p2, o2 + j * 3, none⟩ = some u0 ∧ w2.cell? ⟨p2, o2 + j * 3 + 1, none⟩ = some u1 ∧ w2.cell? ⟨p2, o2 + j * 3 + 2, none⟩ = some u2) := ⟨(hb2'.cell (show p1 < _ from q1)).trans e0, (hb2'.cell (show p1 < _ from q1)).trans e1, (hb2'.cell (show p1 < _ from q1)).trans e2, (hb2'.cell (show p2 < _ from q2)).trans f0, (hb2'.cell (show p2 < _ from q2)).trans f1, (hb2'.cell (show p2 < _ from q2)).trans f2⟩
          have hb02 : Below w.heap.size w w2 := hb.trans (hb2'.mono hb.size)
          clear hb2 hb2'))
     clear e0 f0 e1 f1 e2 f2 K2
     go_wp2
     exact ⟨⟨j + 1, by omega, by go_num, hb02⟩, by simp [intOf]; omega⟩
   · obtain rfl : j = n := by omega
     go_wp2
     go_ret
     exact ⟨rfl, hb⟩
theorem dEqWord (vs us : List Value) (cs : List Cel) (w : World) (h : AtL false w vs cs) (h' : AtL false w us cs) (hs : HasL cs tyWord) : Calls Try.prog 73 #[.agg vs.toArray, .agg us.toArray] w (Yes w) := by
 obtain ⟨c0, c1, c2, rfl, T0, T1, T2⟩ := hs.c3
 obtain ⟨v0, v1, v2, rfl, A0, A1, A2⟩ := h.c3
 obtain ⟨u0, u1, u2, rfl, B0, B1, B2⟩ := h'.c3
 obtain ⟨x0, rfl⟩ := T0.int
 obtain rfl := A0.int
 obtain rfl := B0.int
 have ne0 : (x0 != x0) = false := by simp
 obtain ⟨x1, rfl⟩ := T1.int
 obtain rfl := A1.int
 obtain rfl := B1.int
 have ne1 : (x1 != x1) = false := by simp
 obtain ⟨x2, rfl⟩ := T2.int
 obtain rfl := A2.int
 obtain rfl := B2.int
 have ne2 : (x2 != x2) = false := by simp
 clear hs h h' T0 A0 B0 T1 A1 B1 T2 A2 B2
 obtain ⟨W, hW⟩ : ∃ W, (w.alloc (.cells #[.int .i64 x0, .int .i64 x1, .int .i64 x2] 121)).alloc (.cells #[.int .i64 x0, .int .i64 x1, .int .i64 x2] 121) = W := ⟨_, rfl⟩
 have t0 : Hid (Two w W #[.int .i64 x0, .int .i64 x1, .int .i64 x2] #[.int .i64 x0, .int .i64 x1, .int .i64 x2] 121) := by rw [← hW]; exact two_new w _ _ _
 have HW : Hid _ := hW
 clear hW
 go_enter Try.func73, Try.ntmps73
 go_upto_region 1 with (fail)
 rw [HW.out]
 have ax0 := t0.out.a.at 0 (.int .i64 x0) rfl
 have bx0 := t0.out.b.at 0 (.int .i64 x0) rfl
 have ax1 := t0.out.a.at 1 (.int .i64 x1) rfl
 have bx1 := t0.out.b.at 1 (.int .i64 x1) rfl
 have ax2 := t0.out.a.at 2 (.int .i64 x2) rfl
 have bx2 := t0.out.b.at 2 (.int .i64 x2) rfl
 go_wp2
 go_ret
 exact ⟨rfl, t0.out.on⟩
theorem dEqWordS (v u : Value) (n : Nat) (cs : List Cel) (w : World) (h : At false w v (.l 121 3 n cs)) (h' : At false w u (.l 121 3 n cs)) (hs : Has (.l 121 3 n cs) (.l 121 3 tyWord)) :
   Calls Try.prog 55 #[v, u] w (Yes w) := by
 obtain ⟨a, c, vs, rfl, h1, h2, hn, -, h3, h4⟩ := h.openL
 have SRC : Hid (n = 0 ∨ ∃ b o, a = some ⟨b, o, none⟩ ∧ ∀ j, j < n * 3 → w.cell? ⟨b, o + j, none⟩ = vs[j]?) := h3
 have HV : Hid (∀ j, j < n → AtL false w ((vs.drop (j * 3)).take 3) (row cs 3 j)) := fun j hj => rowVals h1 h2 h4 hj
 have Lvs : Hid (vs.length = n * 3) := h1
 clear h1 h2 h3 h4 hn
 obtain ⟨a', c', us, rfl, h1, h2, hn, -, h3, h4⟩ := h'.openL
 have SRD : Hid (n = 0 ∨ ∃ b o, a' = some ⟨b, o, none⟩ ∧ ∀ j, j < n * 3 → w.cell? ⟨b, o + j, none⟩ = us[j]?) := h3
 have HU : Hid (∀ j, j < n → AtL false w ((us.drop (j * 3)).take 3) (row cs 3 j)) := fun j hj => rowVals h1 h2 h4 hj
 have Lus : Hid (us.length = n * 3) := h1
 clear h1 h2 h3 h4
 have HR : Hid (∀ j, j < n → HasL (row cs 3 j) tyWord) := fun j hj => hs.rowL hj
 clear h h' hs
 go_enter Try.func55, Try.ntmps55
 go_wp2
 go_loopw [5] (fun i wr => ∃ j : Nat, j ≤ n ∧ i = .int .i64 j ∧ Below w.heap.size w wr) (fun i _ => n - (intOf i).toNat)
 case atStart => exact ⟨0, Nat.zero_le _, rfl, Below.refl _ _⟩
 case round =>
   obtain ⟨j, hj, rfl, hb⟩ := hrel
   by_cases hlt : j < n
   · have hk0 : (0 : Int) ≤ (j : Int) := by omega
     have hk1 : (j : Int) < (n : Int) := by omega
     have hle : j * 3 + 3 ≤ n * 3 := by omega
     have hH := HR.out j hlt
     obtain ⟨rs, hrs⟩ : ∃ rs, row cs 3 j = rs := ⟨_, rfl⟩
     rw [hrs] at hH
     rcases SRC.out with h0 | ⟨p1, o1, rfl, g1⟩
     · omega
     have hA := HV.out j hlt
     have ce := rowAt hb hlt g1 Lvs.out
     obtain ⟨ws, hws⟩ : ∃ ws, (vs.drop (j * 3)).take 3 = ws := ⟨_, rfl⟩
     rw [hrs] at hA
     rw [hws] at hA ce
     clear g1 hws
     rcases SRD.out with h0 | ⟨p2, o2, rfl, g2⟩
     · omega
     have hB := HU.out j hlt
     have cf := rowAt hb hlt g2 Lus.out
     obtain ⟨ws', hws⟩ : ∃ ws, (us.drop (j * 3)).take 3 = ws := ⟨_, rfl⟩
     rw [hrs] at hB
     rw [hws] at hB cf
     clear g2 hws
     obtain ⟨c0, c1, c2, rfl, T0, T1, T2⟩ := hH.c3
     have HL0 : Hid (HasL [c0, c1, c2] tyWord) := hH
     obtain ⟨v0, v1, v2, rfl, A0, A1, A2⟩ := hA.c3
     obtain ⟨u0, u1, u2, rfl, B0, B1, B2⟩ := hB.c3
     have HA0 : Hid (AtL false w [v0, v1, v2] [c0, c1, c2]) := hA
     have HB0 : Hid (AtL false w [u0, u1, u2] [c0, c1, c2]) := hB
     have e0 : wr.cell? ⟨p1, o1 + j * 3, none⟩ = some v0 := ce 0 (by omega)
     have f0 : wr.cell? ⟨p2, o2 + j * 3, none⟩ = some u0 := cf 0 (by omega)
     have e1 : wr.cell? ⟨p1, o1 + j * 3 + 1, none⟩ = some v1 := ce 1 (by omega)
     have f1 : wr.cell? ⟨p2, o2 + j * 3 + 1, none⟩ = some u1 := cf 1 (by omega)
     have e2 : wr.cell? ⟨p1, o1 + j * 3 + 2, none⟩ = some v2 := ce 2 (by omega)
     have f2 : wr.cell? ⟨p2, o2 + j * 3 + 2, none⟩ = some u2 := cf 2 (by omega)
     clear ce cf hrs T0 A0 B0 T1 A1 B1 T2 A2 B2 hA hB hH
     have q1 : p1 < wr.heap.size := World.block_lt_of_cell? wr _ e0
     have q2 : p2 < wr.heap.size := World.block_lt_of_cell? wr _ f0
     go_wp2_with fail
     go_region_held3 (fun w' => w'.cell? ⟨p1, o1 + j * 3, none⟩ = some v0 ∧ w'.cell? ⟨p1, o1 + j * 3 + 1, none⟩ = some v1 ∧ w'.cell? ⟨p1, o1 + j * 3 + 2, none⟩ = some v2 ∧ w'.cell? ⟨p2, o2 + j * 3, none⟩ = some u0 ∧ w'.cell? ⟨p2, o2 + j * 3 + 1, none⟩ = some u1 ∧ w'.cell? ⟨p2, o2 + j * 3 + 2, none⟩ = some u2)
       (first | (with_reducible exact K2.out) | go_keep)
       (first
       | (go_at_call 73
          refine (dEqWord [v0, v1, v2] [u0, u1, u2] [c0, c1, c2] _ (HA0.out.on (hb.drew) (Nat.le_refl _)) (HB0.out.on (hb.drew) (Nat.le_refl _)) HL0.out).mono ?_
          rintro e w2 ⟨rfl, hb2⟩
          have hb2' : Below wr.heap.size wr w2 := (Below.refl _ wr).drew.trans hb2
          have K2 : Hid (w2.cell? ⟨p1, o1 + j * 3, none⟩ = some v0 ∧ w2.cell? ⟨p1, o1 + j * 3 + 1, none⟩ = some v1 ∧ w2.cell? ⟨p1, o1 + j * 3 + 2, none⟩ = some v2 ∧ w2.cell? ⟨p2, o2 + j * 3, none⟩ = some u0 ∧ w2.cell? ⟨p2, o2 + j * 3 + 1, none⟩ = some u1 ∧ w2.cell? ⟨p2, o2 + j * 3 + 2, none⟩ = some u2) := ⟨(hb2'.cell (show p1 < _ from q1)).trans e0, (hb2'.cell (show p1 < _ from q1)).trans e1, (hb2'.cell (show p1 < _ from q1)).trans e2, (hb2'.cell (show p2 < _ from q2)).trans f0, (hb2'.cell (show p2 < _ from q2)).trans f1, (hb2'.cell (show p2 < _ from q2)).trans f2⟩
          have hb02 : Below w.heap.size w w2 := hb.trans (hb2'.mono hb.size)
          clear hb2 hb2'))
     clear e0 f0 e1 f1 e2 f2 K2
     go_wp2
     exact ⟨⟨j + 1, by omega, by go_num, hb02⟩, by simp [intOf]; omega⟩
   · obtain rfl : j = n := by omega
     go_wp2
     go_ret
     exact ⟨rfl, hb⟩
theorem dEqThread (vs us : List Value) (cs : List Cel) (w : World) (h : AtL false w vs cs) (h' : AtL false w us cs) (hs : HasL cs tyThread) : Calls Try.prog 57 #[.agg vs.toArray, .agg us.toArray] w (Yes w) := by
 obtain ⟨c0, c1, c2, c3, c4, rfl, T0, T1, T2, T3, T4⟩ := hs.c5
 obtain ⟨v0, v1, v2, v3, v4, rfl, A0, A1, A2, A3, A4⟩ := h.c5
 obtain ⟨u0, u1, u2, u3, u4, rfl, B0, B1, B2, B3, B4⟩ := h'.c5
 obtain ⟨n0, cs0, rfl, -⟩ := T0.list
 have HT0 : Hid (Has (.l 31 3 n0 cs0) (.l 31 3 tyOp)) := T0
 obtain ⟨p0, d0, rfl⟩ := A0.slice
 obtain ⟨q0, e0, rfl⟩ := B0.slice
 have hA0' : Hid (At false w (.slice p0 n0 d0) (.l 31 3 n0 cs0)) := A0
 have hB0' : Hid (At false w (.slice q0 n0 e0) (.l 31 3 n0 cs0)) := B0
 obtain ⟨x1, rfl⟩ := T1.int
 obtain rfl := A1.int
 obtain rfl := B1.int
 have ne1 : (x1 != x1) = false := by simp
 obtain ⟨x2, rfl⟩ := T2.bool
 obtain rfl := A2.bool
 obtain rfl := B2.bool
 have ne2 : (x2 != x2) = false := by simp
 obtain ⟨n3, cs3, rfl, -⟩ := T3.list
 have HT3 : Hid (Has (.l 138 2 n3 cs3) (.l 138 2 tyPair)) := T3
 obtain ⟨p3, d3, rfl⟩ := A3.slice
 obtain ⟨q3, e3, rfl⟩ := B3.slice
 have hA3' : Hid (At false w (.slice p3 n3 d3) (.l 138 2 n3 cs3)) := A3
 have hB3' : Hid (At false w (.slice q3 n3 e3) (.l 138 2 n3 cs3)) := B3
 obtain ⟨n4, cs4, rfl, -⟩ := T4.list
 have HT4 : Hid (Has (.l 140 4 n4 cs4) (.l 140 4 tyHelp)) := T4
 obtain ⟨p4, d4, rfl⟩ := A4.slice
 obtain ⟨q4, e4, rfl⟩ := B4.slice
 have hA4' : Hid (At false w (.slice p4 n4 d4) (.l 140 4 n4 cs4)) := A4
 have hB4' : Hid (At false w (.slice q4 n4 e4) (.l 140 4 n4 cs4)) := B4
 clear hs h h' T0 A0 B0 T1 A1 B1 T2 A2 B2 T3 A3 B3 T4 A4 B4
 obtain ⟨W, hW⟩ : ∃ W, (w.alloc (.cells #[.slice p0 n0 d0, .int .i64 x1, .bool x2, .slice p3 n3 d3, .slice p4 n4 d4] 103)).alloc (.cells #[.slice q0 n0 e0, .int .i64 x1, .bool x2, .slice q3 n3 e3, .slice q4 n4 e4] 103) = W := ⟨_, rfl⟩
 have t0 : Hid (Two w W #[.slice p0 n0 d0, .int .i64 x1, .bool x2, .slice p3 n3 d3, .slice p4 n4 d4] #[.slice q0 n0 e0, .int .i64 x1, .bool x2, .slice q3 n3 e3, .slice q4 n4 e4] 103) := by rw [← hW]; exact two_new w _ _ _
 have HW : Hid _ := hW
 clear hW
 go_enter Try.func57, Try.ntmps57
 go_upto_region 1 with (fail)
 rw [HW.out]
 have ax0 := t0.out.a.at 0 (.slice p0 n0 d0) rfl
 have bx0 := t0.out.b.at 0 (.slice q0 n0 e0) rfl
 have ax1 := t0.out.a.at 1 (.int .i64 x1) rfl
 have bx1 := t0.out.b.at 1 (.int .i64 x1) rfl
 have ax2 := t0.out.a.at 2 (.bool x2) rfl
 have bx2 := t0.out.b.at 2 (.bool x2) rfl
 have ax3 := t0.out.a.at 3 (.slice p3 n3 d3) rfl
 have bx3 := t0.out.b.at 3 (.slice q3 n3 e3) rfl
 have ax4 := t0.out.a.at 4 (.slice p4 n4 d4) rfl
 have bx4 := t0.out.b.at 4 (.slice q4 n4 e4) rfl
 go_wp2_with fail
 refine (dEqOpS _ _ n0 cs0 _ (hA0'.out.on t0.out.on (Nat.le_refl _)) (hB0'.out.on t0.out.on (Nat.le_refl _)) HT0.out).mono ?_
 rintro e w1 ⟨rfl, hb⟩
 have t1 : Hid (Two w w1 #[.slice p0 n0 d0, .int .i64 x1, .bool x2, .slice p3 n3 d3, .slice p4 n4 d4] #[.slice q0 n0 e0, .int .i64 x1, .bool x2, .slice q3 n3 e3, .slice q4 n4 e4] 103) := t0.out.call hb
 clear hb ax0 bx0 ax1 bx1 ax2 bx2 ax3 bx3 ax4 bx4
 have ax0 := t1.out.a.at 0 (.slice p0 n0 d0) rfl
 have bx0 := t1.out.b.at 0 (.slice q0 n0 e0) rfl
 have ax1 := t1.out.a.at 1 (.int .i64 x1) rfl
 have bx1 := t1.out.b.at 1 (.int .i64 x1) rfl
 have ax2 := t1.out.a.at 2 (.bool x2) rfl
 have bx2 := t1.out.b.at 2 (.bool x2) rfl
 have ax3 := t1.out.a.at 3 (.slice p3 n3 d3) rfl
 have bx3 := t1.out.b.at 3 (.slice q3 n3 e3) rfl
 have ax4 := t1.out.a.at 4 (.slice p4 n4 d4) rfl
 have bx4 := t1.out.b.at 4 (.slice q4 n4 e4) rfl
 go_wp2_with fail
 refine (dEqPairS _ _ n3 cs3 _ (hA3'.out.on t1.out.on (Nat.le_refl _)) (hB3'.out.on t1.out.on (Nat.le_refl _)) HT3.out).mono ?_
 rintro e w2 ⟨rfl, hb⟩
 have t2 : Hid (Two w w2 #[.slice p0 n0 d0, .int .i64 x1, .bool x2, .slice p3 n3 d3, .slice p4 n4 d4] #[.slice q0 n0 e0, .int .i64 x1, .bool x2, .slice q3 n3 e3, .slice q4 n4 e4] 103) := t1.out.call hb
 clear hb ax0 bx0 ax1 bx1 ax2 bx2 ax3 bx3 ax4 bx4
 have ax0 := t2.out.a.at 0 (.slice p0 n0 d0) rfl
 have bx0 := t2.out.b.at 0 (.slice q0 n0 e0) rfl
 have ax1 := t2.out.a.at 1 (.int .i64 x1) rfl
 have bx1 := t2.out.b.at 1 (.int .i64 x1) rfl
 have ax2 := t2.out.a.at 2 (.bool x2) rfl
 have bx2 := t2.out.b.at 2 (.bool x2) rfl
 have ax3 := t2.out.a.at 3 (.slice p3 n3 d3) rfl
 have bx3 := t2.out.b.at 3 (.slice q3 n3 e3) rfl
 have ax4 := t2.out.a.at 4 (.slice p4 n4 d4) rfl
 have bx4 := t2.out.b.at 4 (.slice q4 n4 e4) rfl
 go_wp2_with fail
 refine (dEqHelpS _ _ n4 cs4 _ (hA4'.out.on t2.out.on (Nat.le_refl _)) (hB4'.out.on t2.out.on (Nat.le_refl _)) HT4.out).mono ?_
 rintro e w3 ⟨rfl, hb⟩
 have t3 : Hid (Two w w3 #[.slice p0 n0 d0, .int .i64 x1, .bool x2, .slice p3 n3 d3, .slice p4 n4 d4] #[.slice q0 n0 e0, .int .i64 x1, .bool x2, .slice q3 n3 e3, .slice q4 n4 e4] 103) := t2.out.call hb
 clear hb ax0 bx0 ax1 bx1 ax2 bx2 ax3 bx3 ax4 bx4
 have ax0 := t3.out.a.at 0 (.slice p0 n0 d0) rfl
 have bx0 := t3.out.b.at 0 (.slice q0 n0 e0) rfl
 have ax1 := t3.out.a.at 1 (.int .i64 x1) rfl
 have bx1 := t3.out.b.at 1 (.int .i64 x1) rfl
 have ax2 := t3.out.a.at 2 (.bool x2) rfl
 have bx2 := t3.out.b.at 2 (.bool x2) rfl
 have ax3 := t3.out.a.at 3 (.slice p3 n3 d3) rfl
 have bx3 := t3.out.b.at 3 (.slice q3 n3 e3) rfl
 have ax4 := t3.out.a.at 4 (.slice p4 n4 d4) rfl
 have bx4 := t3.out.b.at 4 (.slice q4 n4 e4) rfl
 go_wp2
 go_ret
 exact ⟨rfl, t3.out.on⟩
theorem dEqThreadS (v u : Value) (n : Nat) (cs : List Cel) (w : World) (h : At false w v (.l 103 5 n cs)) (h' : At false w u (.l 103 5 n cs)) (hs : Has (.l 103 5 n cs) (.l 103 5 tyThread)) :
   Calls Try.prog 38 #[v, u] w (Yes w) := by
 obtain ⟨a, c, vs, rfl, h1, h2, hn, -, h3, h4⟩ := h.openL
 have SRC : Hid (n = 0 ∨ ∃ b o, a = some ⟨b, o, none⟩ ∧ ∀ j, j < n * 5 → w.cell? ⟨b, o + j, none⟩ = vs[j]?) := h3
 have HV : Hid (∀ j, j < n → AtL false w ((vs.drop (j * 5)).take 5) (row cs 5 j)) := fun j hj => rowVals h1 h2 h4 hj
 have Lvs : Hid (vs.length = n * 5) := h1
 clear h1 h2 h3 h4 hn
 obtain ⟨a', c', us, rfl, h1, h2, hn, -, h3, h4⟩ := h'.openL
 have SRD : Hid (n = 0 ∨ ∃ b o, a' = some ⟨b, o, none⟩ ∧ ∀ j, j < n * 5 → w.cell? ⟨b, o + j, none⟩ = us[j]?) := h3
 have HU : Hid (∀ j, j < n → AtL false w ((us.drop (j * 5)).take 5) (row cs 5 j)) := fun j hj => rowVals h1 h2 h4 hj
 have Lus : Hid (us.length = n * 5) := h1
 clear h1 h2 h3 h4
 have HR : Hid (∀ j, j < n → HasL (row cs 5 j) tyThread) := fun j hj => hs.rowL hj
 clear h h' hs
 go_enter Try.func38, Try.ntmps38
 go_wp2
 go_loopw [5] (fun i wr => ∃ j : Nat, j ≤ n ∧ i = .int .i64 j ∧ Below w.heap.size w wr) (fun i _ => n - (intOf i).toNat)
 case atStart => exact ⟨0, Nat.zero_le _, rfl, Below.refl _ _⟩
 case round =>
   obtain ⟨j, hj, rfl, hb⟩ := hrel
   by_cases hlt : j < n
   · have hk0 : (0 : Int) ≤ (j : Int) := by omega
     have hk1 : (j : Int) < (n : Int) := by omega
     have hle : j * 5 + 5 ≤ n * 5 := by omega
     have hH := HR.out j hlt
     obtain ⟨rs, hrs⟩ : ∃ rs, row cs 5 j = rs := ⟨_, rfl⟩
     rw [hrs] at hH
     rcases SRC.out with h0 | ⟨p1, o1, rfl, g1⟩
     · omega
     have hA := HV.out j hlt
     have ce := rowAt hb hlt g1 Lvs.out
     obtain ⟨ws, hws⟩ : ∃ ws, (vs.drop (j * 5)).take 5 = ws := ⟨_, rfl⟩
     rw [hrs] at hA
     rw [hws] at hA ce
     clear g1 hws
     rcases SRD.out with h0 | ⟨p2, o2, rfl, g2⟩
     · omega
     have hB := HU.out j hlt
     have cf := rowAt hb hlt g2 Lus.out
     obtain ⟨ws', hws⟩ : ∃ ws, (us.drop (j * 5)).take 5 = ws := ⟨_, rfl⟩
     rw [hrs] at hB
     rw [hws] at hB cf
     clear g2 hws
     obtain ⟨c0, c1, c2, c3, c4, rfl, T0, T1, T2, T3, T4⟩ := hH.c5
     have HL0 : Hid (HasL [c0, c1, c2, c3, c4] tyThread) := hH
     obtain ⟨v0, v1, v2, v3, v4, rfl, A0, A1, A2, A3, A4⟩ := hA.c5
     obtain ⟨u0, u1, u2, u3, u4, rfl, B0, B1, B2, B3, B4⟩ := hB.c5
     have HA0 : Hid (AtL false w [v0, v1, v2, v3, v4] [c0, c1, c2, c3, c4]) := hA
     have HB0 : Hid (AtL false w [u0, u1, u2, u3, u4] [c0, c1, c2, c3, c4]) := hB
     have e0 : wr.cell? ⟨p1, o1 + j * 5, none⟩ = some v0 := ce 0 (by omega)
     have f0 : wr.cell? ⟨p2, o2 + j * 5, none⟩ = some u0 := cf 0 (by omega)
     have e1 : wr.cell? ⟨p1, o1 + j * 5 + 1, none⟩ = some v1 := ce 1 (by omega)
     have f1 : wr.cell? ⟨p2, o2 + j * 5 + 1, none⟩ = some u1 := cf 1 (by omega)
     have e2 : wr.cell? ⟨p1, o1 + j * 5 + 2, none⟩ = some v2 := ce 2 (by omega)
     have f2 : wr.cell? ⟨p2, o2 + j * 5 + 2, none⟩ = some u2 := cf 2 (by omega)
     have e3 : wr.cell? ⟨p1, o1 + j * 5 + 3, none⟩ = some v3 := ce 3 (by omega)
     have f3 : wr.cell? ⟨p2, o2 + j * 5 + 3, none⟩ = some u3 := cf 3 (by omega)
     have e4 : wr.cell? ⟨p1, o1 + j * 5 + 4, none⟩ = some v4 := ce 4 (by omega)
     have f4 : wr.cell? ⟨p2, o2 + j * 5 + 4, none⟩ = some u4 := cf 4 (by omega)
     clear ce cf hrs T0 A0 B0 T1 A1 B1 T2 A2 B2 T3 A3 B3 T4 A4 B4 hA hB hH
     have q1 : p1 < wr.heap.size := World.block_lt_of_cell? wr _ e0
     have q2 : p2 < wr.heap.size := World.block_lt_of_cell? wr _ f0
     go_wp2_with fail
     go_region_held3 (fun w' => w'.cell? ⟨p1, o1 + j * 5, none⟩ = some v0 ∧ w'.cell? ⟨p1, o1 + j * 5 + 1, none⟩ = some v1 ∧ w'.cell? ⟨p1, o1 + j * 5 + 2, none⟩ = some v2 ∧ w'.cell? ⟨p1, o1 + j * 5 + 3, none⟩ = some v3 ∧ w'.cell? ⟨p1, o1 + j * 5 + 4, none⟩ = some v4 ∧ w'.cell? ⟨p2, o2 + j * 5, none⟩ = some u0 ∧ w'.cell? ⟨p2, o2 + j * 5 + 1, none⟩ = some u1 ∧ w'.cell? ⟨p2, o2 + j * 5 + 2, none⟩ = some u2 ∧ w'.cell? ⟨p2, o2 + j * 5 + 3, none⟩ = some u3 ∧ w'.cell? ⟨p2, o2 + j * 5 + 4, none⟩ = some u4)
       (first | (with_reducible exact K2.out) | go_keep)
       (first
       | (go_at_call 57
          refine (dEqThread [v0, v1, v2, v3, v4] [u0, u1, u2, u3, u4] [c0, c1, c2, c3, c4] _ (HA0.out.on (hb.drew) (Nat.le_refl _)) (HB0.out.on (hb.drew) (Nat.le_refl _)) HL0.out).mono ?_
          rintro e w2 ⟨rfl, hb2⟩
          have hb2' : Below wr.heap.size wr w2 := (Below.refl _ wr).drew.trans hb2
          have K2 : Hid (w2.cell? ⟨p1, o1 + j * 5, none⟩ = some v0 ∧ w2.cell? ⟨p1, o1 + j * 5 + 1, none⟩ = some v1 ∧ w2.cell? ⟨p1, o1 + j * 5 + 2, none⟩ = some v2 ∧ w2.cell? ⟨p1, o1 + j * 5 + 3, none⟩ = some v3 ∧ w2.cell? ⟨p1, o1 + j * 5 + 4, none⟩ = some v4 ∧ w2.cell? ⟨p2, o2 + j * 5, none⟩ = some u0 ∧ w2.cell? ⟨p2, o2 + j * 5 + 1, none⟩ = some u1 ∧ w2.cell? ⟨p2, o2 + j * 5 + 2, none⟩ = some u2 ∧ w2.cell? ⟨p2, o2 + j * 5 + 3, none⟩ = some u3 ∧ w2.cell? ⟨p2, o2 + j * 5 + 4, none⟩ = some u4) := ⟨(hb2'.cell (show p1 < _ from q1)).trans e0, (hb2'.cell (show p1 < _ from q1)).trans e1, (hb2'.cell (show p1 < _ from q1)).trans e2, (hb2'.cell (show p1 < _ from q1)).trans e3, (hb2'.cell (show p1 < _ from q1)).trans e4, (hb2'.cell (show p2 < _ from q2)).trans f0, (hb2'.cell (show p2 < _ from q2)).trans f1, (hb2'.cell (show p2 < _ from q2)).trans f2, (hb2'.cell (show p2 < _ from q2)).trans f3, (hb2'.cell (show p2 < _ from q2)).trans f4⟩
          have hb02 : Below w.heap.size w w2 := hb.trans (hb2'.mono hb.size)
          clear hb2 hb2'))
     clear e0 f0 e1 f1 e2 f2 e3 f3 e4 f4 K2
     go_wp2
     exact ⟨⟨j + 1, by omega, by go_num, hb02⟩, by simp [intOf]; omega⟩
   · obtain rfl : j = n := by omega
     go_wp2
     go_ret
     exact ⟨rfl, hb⟩
theorem dEqRes (vs us : List Value) (cs : List Cel) (w : World) (h : AtL false w vs cs) (h' : AtL false w us cs) (hs : HasL cs tyRes) : Calls Try.prog 24 #[.agg vs.toArray, .agg us.toArray] w (Yes w) := by
 obtain ⟨c0, c1, rfl, T0, T1⟩ := hs.c2
 obtain ⟨v0, v1, rfl, A0, A1⟩ := h.c2
 obtain ⟨u0, u1, rfl, B0, B1⟩ := h'.c2
 obtain ⟨x0, rfl⟩ := T0.int
 obtain rfl := A0.int
 obtain rfl := B0.int
 have ne0 : (x0 != x0) = false := by simp
 obtain ⟨n1, cs1, rfl, -⟩ := T1.list
 have HT1 : Hid (Has (.l 3 1 n1 cs1) (.l 3 1 [.i])) := T1
 obtain ⟨p1, d1, rfl⟩ := A1.slice
 obtain ⟨q1, e1, rfl⟩ := B1.slice
 have hA1' : Hid (At false w (.slice p1 n1 d1) (.l 3 1 n1 cs1)) := A1
 have hB1' : Hid (At false w (.slice q1 n1 e1) (.l 3 1 n1 cs1)) := B1
 clear hs h h' T0 A0 B0 T1 A1 B1
 obtain ⟨W, hW⟩ : ∃ W, (w.alloc (.cells #[.int .i64 x0, .slice p1 n1 d1] 32)).alloc (.cells #[.int .i64 x0, .slice q1 n1 e1] 32) = W := ⟨_, rfl⟩
 have t0 : Hid (Two w W #[.int .i64 x0, .slice p1 n1 d1] #[.int .i64 x0, .slice q1 n1 e1] 32) := by rw [← hW]; exact two_new w _ _ _
 have HW : Hid _ := hW
 clear hW
 go_enter Try.func24, Try.ntmps24
 go_upto_region 1 with (fail)
 rw [HW.out]
 have ax0 := t0.out.a.at 0 (.int .i64 x0) rfl
 have bx0 := t0.out.b.at 0 (.int .i64 x0) rfl
 have ax1 := t0.out.a.at 1 (.slice p1 n1 d1) rfl
 have bx1 := t0.out.b.at 1 (.slice q1 n1 e1) rfl
 go_wp2_with fail
 refine (dEqIntS _ _ n1 cs1 _ (hA1'.out.on t0.out.on (Nat.le_refl _)) (hB1'.out.on t0.out.on (Nat.le_refl _)) HT1.out).mono ?_
 rintro e w1 ⟨rfl, hb⟩
 have t1 : Hid (Two w w1 #[.int .i64 x0, .slice p1 n1 d1] #[.int .i64 x0, .slice q1 n1 e1] 32) := t0.out.call hb
 clear hb ax0 bx0 ax1 bx1
 have ax0 := t1.out.a.at 0 (.int .i64 x0) rfl
 have bx0 := t1.out.b.at 0 (.int .i64 x0) rfl
 have ax1 := t1.out.a.at 1 (.slice p1 n1 d1) rfl
 have bx1 := t1.out.b.at 1 (.slice q1 n1 e1) rfl
 go_wp2
 go_ret
 exact ⟨rfl, t1.out.on⟩
theorem dEqRows (vs us : List Value) (cs : List Cel) (w : World) (h : AtL false w vs cs) (h' : AtL false w us cs) (hs : HasL cs tyRows) : Calls Try.prog 40 #[.agg vs.toArray, .agg us.toArray] w (Yes w) := by
 obtain ⟨c0, c1, rfl, T0, T1⟩ := hs.c2
 obtain ⟨v0, v1, rfl, A0, A1⟩ := h.c2
 obtain ⟨u0, u1, rfl, B0, B1⟩ := h'.c2
 obtain ⟨n0, cs0, rfl, -⟩ := T0.list
 have HT0 : Hid (Has (.l 3 1 n0 cs0) (.l 3 1 [.i])) := T0
 obtain ⟨p0, d0, rfl⟩ := A0.slice
 obtain ⟨q0, e0, rfl⟩ := B0.slice
 have hA0' : Hid (At false w (.slice p0 n0 d0) (.l 3 1 n0 cs0)) := A0
 have hB0' : Hid (At false w (.slice q0 n0 e0) (.l 3 1 n0 cs0)) := B0
 obtain ⟨x1, rfl⟩ := T1.int
 obtain rfl := A1.int
 obtain rfl := B1.int
 have ne1 : (x1 != x1) = false := by simp
 clear hs h h' T0 A0 B0 T1 A1 B1
 obtain ⟨W, hW⟩ : ∃ W, (w.alloc (.cells #[.slice p0 n0 d0, .int .i64 x1] 55)).alloc (.cells #[.slice q0 n0 e0, .int .i64 x1] 55) = W := ⟨_, rfl⟩
 have t0 : Hid (Two w W #[.slice p0 n0 d0, .int .i64 x1] #[.slice q0 n0 e0, .int .i64 x1] 55) := by rw [← hW]; exact two_new w _ _ _
 have HW : Hid _ := hW
 clear hW
 go_enter Try.func40, Try.ntmps40
 go_upto_region 1 with (fail)
 rw [HW.out]
 have ax0 := t0.out.a.at 0 (.slice p0 n0 d0) rfl
 have bx0 := t0.out.b.at 0 (.slice q0 n0 e0) rfl
 have ax1 := t0.out.a.at 1 (.int .i64 x1) rfl
 have bx1 := t0.out.b.at 1 (.int .i64 x1) rfl
 go_wp2_with fail
 refine (dEqIntS _ _ n0 cs0 _ (hA0'.out.on t0.out.on (Nat.le_refl _)) (hB0'.out.on t0.out.on (Nat.le_refl _)) HT0.out).mono ?_
 rintro e w1 ⟨rfl, hb⟩
 have t1 : Hid (Two w w1 #[.slice p0 n0 d0, .int .i64 x1] #[.slice q0 n0 e0, .int .i64 x1] 55) := t0.out.call hb
 clear hb ax0 bx0 ax1 bx1
 have ax0 := t1.out.a.at 0 (.slice p0 n0 d0) rfl
 have bx0 := t1.out.b.at 0 (.slice q0 n0 e0) rfl
 have ax1 := t1.out.a.at 1 (.int .i64 x1) rfl
 have bx1 := t1.out.b.at 1 (.int .i64 x1) rfl
 go_wp2
 go_ret
 exact ⟨rfl, t1.out.on⟩
theorem dEqDesc (vs us : List Value) (cs : List Cel) (w : World) (h : AtL false w vs cs) (h' : AtL false w us cs) (hs : HasL cs tyDesc) : Calls Try.prog 74 #[.agg vs.toArray, .agg us.toArray] w (Yes w) := by
 obtain ⟨c0, c1, c2, c3, c4, rfl, T0, T1, T2, T3, T4⟩ := hs.c5
 obtain ⟨v0, v1, v2, v3, v4, rfl, A0, A1, A2, A3, A4⟩ := h.c5
 obtain ⟨u0, u1, u2, u3, u4, rfl, B0, B1, B2, B3, B4⟩ := h'.c5
 obtain ⟨x0, rfl⟩ := T0.int
 obtain rfl := A0.int
 obtain rfl := B0.int
 have ne0 : (x0 != x0) = false := by simp
 obtain ⟨x1, rfl⟩ := T1.int
 obtain rfl := A1.int
 obtain rfl := B1.int
 have ne1 : (x1 != x1) = false := by simp
 obtain ⟨n2, cs2, rfl, -⟩ := T2.list
 have HT2 : Hid (Has (.l 151 3 n2 cs2) (.l 151 3 tyEntry)) := T2
 obtain ⟨p2, d2, rfl⟩ := A2.slice
 obtain ⟨q2, e2, rfl⟩ := B2.slice
 have hA2' : Hid (At false w (.slice p2 n2 d2) (.l 151 3 n2 cs2)) := A2
 have hB2' : Hid (At false w (.slice q2 n2 e2) (.l 151 3 n2 cs2)) := B2
 obtain ⟨x3, rfl⟩ := T3.int
 obtain rfl := A3.int
 obtain rfl := B3.int
 have ne3 : (x3 != x3) = false := by simp
 obtain ⟨n4, cs4, rfl, -⟩ := T4.list
 have HT4 : Hid (Has (.l 3 1 n4 cs4) (.l 3 1 [.i])) := T4
 obtain ⟨p4, d4, rfl⟩ := A4.slice
 obtain ⟨q4, e4, rfl⟩ := B4.slice
 have hA4' : Hid (At false w (.slice p4 n4 d4) (.l 3 1 n4 cs4)) := A4
 have hB4' : Hid (At false w (.slice q4 n4 e4) (.l 3 1 n4 cs4)) := B4
 have HN3 : Hid (AtL false w [.int .i64 x3, .slice p4 n4 d4] [.i x3, .l 3 1 n4 cs4]) := AtL.cons (.i x3) (AtL.cons (hA4'.out) (AtL.nil))
 have HH3 : Hid (HasL [.i x3, .l 3 1 n4 cs4] tyRes) := ⟨rfl, fun j c t hc ht => by
   have hj : j < 2 := by have := (List.getElem?_eq_some_iff.1 hc).1; simpa using this
   rcases (show j = 0 ∨ j = 1 by omega) with rfl | rfl <;> (simp [tyRes] at hc ht; subst hc ht)
   · exact .i x3
   · exact HT4.out⟩
 have HM3 : Hid (AtL false w [.int .i64 x3, .slice q4 n4 e4] [.i x3, .l 3 1 n4 cs4]) := AtL.cons (.i x3) (AtL.cons (hB4'.out) (AtL.nil))
 clear hs h h' T0 A0 B0 T1 A1 B1 T2 A2 B2 T3 A3 B3 T4 A4 B4
 obtain ⟨W, hW⟩ : ∃ W, (w.alloc (.cells #[.int .i64 x0, .int .i64 x1, .slice p2 n2 d2, .int .i64 x3, .slice p4 n4 d4] 126)).alloc (.cells #[.int .i64 x0, .int .i64 x1, .slice q2 n2 e2, .int .i64 x3, .slice q4 n4 e4] 126) = W := ⟨_, rfl⟩
 have t0 : Hid (Two w W #[.int .i64 x0, .int .i64 x1, .slice p2 n2 d2, .int .i64 x3, .slice p4 n4 d4] #[.int .i64 x0, .int .i64 x1, .slice q2 n2 e2, .int .i64 x3, .slice q4 n4 e4] 126) := by rw [← hW]; exact two_new w _ _ _
 have HW : Hid _ := hW
 clear hW
 go_enter Try.func74, Try.ntmps74
 go_upto_region 1 with (fail)
 rw [HW.out]
 have ax0 := t0.out.a.at 0 (.int .i64 x0) rfl
 have bx0 := t0.out.b.at 0 (.int .i64 x0) rfl
 have ax1 := t0.out.a.at 1 (.int .i64 x1) rfl
 have bx1 := t0.out.b.at 1 (.int .i64 x1) rfl
 have ax2 := t0.out.a.at 2 (.slice p2 n2 d2) rfl
 have bx2 := t0.out.b.at 2 (.slice q2 n2 e2) rfl
 have ax3 := t0.out.a.at 3 (.int .i64 x3) rfl
 have bx3 := t0.out.b.at 3 (.int .i64 x3) rfl
 have ax4 := t0.out.a.at 4 (.slice p4 n4 d4) rfl
 have bx4 := t0.out.b.at 4 (.slice q4 n4 e4) rfl
 go_wp2_with fail
 refine (dEqEntryS _ _ n2 cs2 _ (hA2'.out.on t0.out.on (Nat.le_refl _)) (hB2'.out.on t0.out.on (Nat.le_refl _)) HT2.out).mono ?_
 rintro e w1 ⟨rfl, hb⟩
 have t1 : Hid (Two w w1 #[.int .i64 x0, .int .i64 x1, .slice p2 n2 d2, .int .i64 x3, .slice p4 n4 d4] #[.int .i64 x0, .int .i64 x1, .slice q2 n2 e2, .int .i64 x3, .slice q4 n4 e4] 126) := t0.out.call hb
 clear hb ax0 bx0 ax1 bx1 ax2 bx2 ax3 bx3 ax4 bx4
 have ax0 := t1.out.a.at 0 (.int .i64 x0) rfl
 have bx0 := t1.out.b.at 0 (.int .i64 x0) rfl
 have ax1 := t1.out.a.at 1 (.int .i64 x1) rfl
 have bx1 := t1.out.b.at 1 (.int .i64 x1) rfl
 have ax2 := t1.out.a.at 2 (.slice p2 n2 d2) rfl
 have bx2 := t1.out.b.at 2 (.slice q2 n2 e2) rfl
 have ax3 := t1.out.a.at 3 (.int .i64 x3) rfl
 have bx3 := t1.out.b.at 3 (.int .i64 x3) rfl
 have ax4 := t1.out.a.at 4 (.slice p4 n4 d4) rfl
 have bx4 := t1.out.b.at 4 (.slice q4 n4 e4) rfl
 go_wp2_with fail
 refine (dEqRes [.int .i64 x3, .slice p4 n4 d4] [.int .i64 x3, .slice q4 n4 e4] [.i x3, .l 3 1 n4 cs4] _ (HN3.out.on t1.out.on (Nat.le_refl _)) (HM3.out.on t1.out.on (Nat.le_refl _)) HH3.out).mono ?_
 rintro e w2 ⟨rfl, hb⟩
 have t2 : Hid (Two w w2 #[.int .i64 x0, .int .i64 x1, .slice p2 n2 d2, .int .i64 x3, .slice p4 n4 d4] #[.int .i64 x0, .int .i64 x1, .slice q2 n2 e2, .int .i64 x3, .slice q4 n4 e4] 126) := t1.out.call hb
 clear hb ax0 bx0 ax1 bx1 ax2 bx2 ax3 bx3 ax4 bx4
 have ax0 := t2.out.a.at 0 (.int .i64 x0) rfl
 have bx0 := t2.out.b.at 0 (.int .i64 x0) rfl
 have ax1 := t2.out.a.at 1 (.int .i64 x1) rfl
 have bx1 := t2.out.b.at 1 (.int .i64 x1) rfl
 have ax2 := t2.out.a.at 2 (.slice p2 n2 d2) rfl
 have bx2 := t2.out.b.at 2 (.slice q2 n2 e2) rfl
 have ax3 := t2.out.a.at 3 (.int .i64 x3) rfl
 have bx3 := t2.out.b.at 3 (.int .i64 x3) rfl
 have ax4 := t2.out.a.at 4 (.slice p4 n4 d4) rfl
 have bx4 := t2.out.b.at 4 (.slice q4 n4 e4) rfl
 go_wp2
 go_ret
 exact ⟨rfl, t2.out.on⟩
theorem dEqDescS (v u : Value) (n : Nat) (cs : List Cel) (w : World) (h : At false w v (.l 126 5 n cs)) (h' : At false w u (.l 126 5 n cs)) (hs : Has (.l 126 5 n cs) (.l 126 5 tyDesc)) :
   Calls Try.prog 56 #[v, u] w (Yes w) := by
 obtain ⟨a, c, vs, rfl, h1, h2, hn, -, h3, h4⟩ := h.openL
 have SRC : Hid (n = 0 ∨ ∃ b o, a = some ⟨b, o, none⟩ ∧ ∀ j, j < n * 5 → w.cell? ⟨b, o + j, none⟩ = vs[j]?) := h3
 have HV : Hid (∀ j, j < n → AtL false w ((vs.drop (j * 5)).take 5) (row cs 5 j)) := fun j hj => rowVals h1 h2 h4 hj
 have Lvs : Hid (vs.length = n * 5) := h1
 clear h1 h2 h3 h4 hn
 obtain ⟨a', c', us, rfl, h1, h2, hn, -, h3, h4⟩ := h'.openL
 have SRD : Hid (n = 0 ∨ ∃ b o, a' = some ⟨b, o, none⟩ ∧ ∀ j, j < n * 5 → w.cell? ⟨b, o + j, none⟩ = us[j]?) := h3
 have HU : Hid (∀ j, j < n → AtL false w ((us.drop (j * 5)).take 5) (row cs 5 j)) := fun j hj => rowVals h1 h2 h4 hj
 have Lus : Hid (us.length = n * 5) := h1
 clear h1 h2 h3 h4
 have HR : Hid (∀ j, j < n → HasL (row cs 5 j) tyDesc) := fun j hj => hs.rowL hj
 clear h h' hs
 go_enter Try.func56, Try.ntmps56
 go_wp2
 go_loopw [5] (fun i wr => ∃ j : Nat, j ≤ n ∧ i = .int .i64 j ∧ Below w.heap.size w wr) (fun i _ => n - (intOf i).toNat)
 case atStart => exact ⟨0, Nat.zero_le _, rfl, Below.refl _ _⟩
 case round =>
   obtain ⟨j, hj, rfl, hb⟩ := hrel
   by_cases hlt : j < n
   · have hk0 : (0 : Int) ≤ (j : Int) := by omega
     have hk1 : (j : Int) < (n : Int) := by omega
     have hle : j * 5 + 5 ≤ n * 5 := by omega
     have hH := HR.out j hlt
     obtain ⟨rs, hrs⟩ : ∃ rs, row cs 5 j = rs := ⟨_, rfl⟩
     rw [hrs] at hH
     rcases SRC.out with h0 | ⟨p1, o1, rfl, g1⟩
     · omega
     have hA := HV.out j hlt
     have ce := rowAt hb hlt g1 Lvs.out
     obtain ⟨ws, hws⟩ : ∃ ws, (vs.drop (j * 5)).take 5 = ws := ⟨_, rfl⟩
     rw [hrs] at hA
     rw [hws] at hA ce
     clear g1 hws
     rcases SRD.out with h0 | ⟨p2, o2, rfl, g2⟩
     · omega
     have hB := HU.out j hlt
     have cf := rowAt hb hlt g2 Lus.out
     obtain ⟨ws', hws⟩ : ∃ ws, (us.drop (j * 5)).take 5 = ws := ⟨_, rfl⟩
     rw [hrs] at hB
     rw [hws] at hB cf
     clear g2 hws
     obtain ⟨c0, c1, c2, c3, c4, rfl, T0, T1, T2, T3, T4⟩ := hH.c5
     have HL0 : Hid (HasL [c0, c1, c2, c3, c4] tyDesc) := hH
     obtain ⟨v0, v1, v2, v3, v4, rfl, A0, A1, A2, A3, A4⟩ := hA.c5
     obtain ⟨u0, u1, u2, u3, u4, rfl, B0, B1, B2, B3, B4⟩ := hB.c5
     have HA0 : Hid (AtL false w [v0, v1, v2, v3, v4] [c0, c1, c2, c3, c4]) := hA
     have HB0 : Hid (AtL false w [u0, u1, u2, u3, u4] [c0, c1, c2, c3, c4]) := hB
     have e0 : wr.cell? ⟨p1, o1 + j * 5, none⟩ = some v0 := ce 0 (by omega)
     have f0 : wr.cell? ⟨p2, o2 + j * 5, none⟩ = some u0 := cf 0 (by omega)
     have e1 : wr.cell? ⟨p1, o1 + j * 5 + 1, none⟩ = some v1 := ce 1 (by omega)
     have f1 : wr.cell? ⟨p2, o2 + j * 5 + 1, none⟩ = some u1 := cf 1 (by omega)
     have e2 : wr.cell? ⟨p1, o1 + j * 5 + 2, none⟩ = some v2 := ce 2 (by omega)
     have f2 : wr.cell? ⟨p2, o2 + j * 5 + 2, none⟩ = some u2 := cf 2 (by omega)
     have e3 : wr.cell? ⟨p1, o1 + j * 5 + 3, none⟩ = some v3 := ce 3 (by omega)
     have f3 : wr.cell? ⟨p2, o2 + j * 5 + 3, none⟩ = some u3 := cf 3 (by omega)
     have e4 : wr.cell? ⟨p1, o1 + j * 5 + 4, none⟩ = some v4 := ce 4 (by omega)
     have f4 : wr.cell? ⟨p2, o2 + j * 5 + 4, none⟩ = some u4 := cf 4 (by omega)
     clear ce cf hrs T0 A0 B0 T1 A1 B1 T2 A2 B2 T3 A3 B3 T4 A4 B4 hA hB hH
     have q1 : p1 < wr.heap.size := World.block_lt_of_cell? wr _ e0
     have q2 : p2 < wr.heap.size := World.block_lt_of_cell? wr _ f0
     go_wp2_with fail
     go_region_held3 (fun w' => w'.cell? ⟨p1, o1 + j * 5, none⟩ = some v0 ∧ w'.cell? ⟨p1, o1 + j * 5 + 1, none⟩ = some v1 ∧ w'.cell? ⟨p1, o1 + j * 5 + 2, none⟩ = some v2 ∧ w'.cell? ⟨p1, o1 + j * 5 + 3, none⟩ = some v3 ∧ w'.cell? ⟨p1, o1 + j * 5 + 4, none⟩ = some v4 ∧ w'.cell? ⟨p2, o2 + j * 5, none⟩ = some u0 ∧ w'.cell? ⟨p2, o2 + j * 5 + 1, none⟩ = some u1 ∧ w'.cell? ⟨p2, o2 + j * 5 + 2, none⟩ = some u2 ∧ w'.cell? ⟨p2, o2 + j * 5 + 3, none⟩ = some u3 ∧ w'.cell? ⟨p2, o2 + j * 5 + 4, none⟩ = some u4)
       (first | (with_reducible exact K2.out) | go_keep)
       (first
       | (go_at_call 74
          refine (dEqDesc [v0, v1, v2, v3, v4] [u0, u1, u2, u3, u4] [c0, c1, c2, c3, c4] _ (HA0.out.on (hb.drew) (Nat.le_refl _)) (HB0.out.on (hb.drew) (Nat.le_refl _)) HL0.out).mono ?_
          rintro e w2 ⟨rfl, hb2⟩
          have hb2' : Below wr.heap.size wr w2 := (Below.refl _ wr).drew.trans hb2
          have K2 : Hid (w2.cell? ⟨p1, o1 + j * 5, none⟩ = some v0 ∧ w2.cell? ⟨p1, o1 + j * 5 + 1, none⟩ = some v1 ∧ w2.cell? ⟨p1, o1 + j * 5 + 2, none⟩ = some v2 ∧ w2.cell? ⟨p1, o1 + j * 5 + 3, none⟩ = some v3 ∧ w2.cell? ⟨p1, o1 + j * 5 + 4, none⟩ = some v4 ∧ w2.cell? ⟨p2, o2 + j * 5, none⟩ = some u0 ∧ w2.cell? ⟨p2, o2 + j * 5 + 1, none⟩ = some u1 ∧ w2.cell? ⟨p2, o2 + j * 5 + 2, none⟩ = some u2 ∧ w2.cell? ⟨p2, o2 + j * 5 + 3, none⟩ = some u3 ∧ w2.cell? ⟨p2, o2 + j * 5 + 4, none⟩ = some u4) := ⟨(hb2'.cell (show p1 < _ from q1)).trans e0, (hb2'.cell (show p1 < _ from q1)).trans e1, (hb2'.cell (show p1 < _ from q1)).trans e2, (hb2'.cell (show p1 < _ from q1)).trans e3, (hb2'.cell (show p1 < _ from q1)).trans e4, (hb2'.cell (show p2 < _ from q2)).trans f0, (hb2'.cell (show p2 < _ from q2)).trans f1, (hb2'.cell (show p2 < _ from q2)).trans f2, (hb2'.cell (show p2 < _ from q2)).trans f3, (hb2'.cell (show p2 < _ from q2)).trans f4⟩
          have hb02 : Below w.heap.size w w2 := hb.trans (hb2'.mono hb.size)
          clear hb2 hb2'))
     clear e0 f0 e1 f1 e2 f2 e3 f3 e4 f4 K2
     go_wp2
     exact ⟨⟨j + 1, by omega, by go_num, hb02⟩, by simp [intOf]; omega⟩
   · obtain rfl : j = n := by omega
     go_wp2
     go_ret
     exact ⟨rfl, hb⟩
end
end Go.Proofs.Ytecheopkfhfgkaa
