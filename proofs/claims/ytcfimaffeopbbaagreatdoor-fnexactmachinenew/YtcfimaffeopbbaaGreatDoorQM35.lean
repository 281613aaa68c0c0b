/- Texts joined: DatL. -/
import Derived.Test.YtcfimaffeopbbaaGreatDoorQM03
import Derived.Deep.RegionHeld3
import Derived.Deep.Cut
import Derived.Handy
set_option maxHeartbeats 2000000
set_option maxRecDepth 100000
namespace Go.Proofs.YtcfimaffeopbbaaGreatDoor
section
open Go.ChangeShapes Go.WideShapes Go.ChangeAt Go.RowKit Go.Joins
set_option linter.unusedSimpArgs false
theorem dHeldIntS (tx : Int → ByteArray) (v : Value) (n : Nat) (cs : List Cel) (k0 : Int) (w : World) (h : At false w v (.l 3 1 n (markL tx cs k0))) (hs : Has (.l 3 1 n cs) (.l 3 1 [.i])) (hk0 : 0 ≤ k0) (hk1 : k0 + (cntL cs : Int) ≤ 4611686018427387904) :
   Calls Tryz.prog 42 #[v, .int .i64 k0] w (SaysD w (k0 + (cntL cs : Int))) := by
 obtain ⟨a, c, vs, rfl, h1, h2, hn, -, h3, h4⟩ := h.openL
 have SRC : Hid (n = 0 ∨ ∃ b o, a = some ⟨b, o, none⟩ ∧ ∀ j, j < n * 1 → w.cell? ⟨b, o + j, none⟩ = vs[j]?) := h3
 have HV : Hid (∀ j, j < n → AtL false w ((vs.drop (j * 1)).take 1) (markL tx (row cs 1 j) (k0 + (cntL (cs.take (j * 1)) : Int)))) := fun j hj => by
   have h5 := rowVals h1 h2 h4 hj
   rwa [row_mark] at h5
 have L1 : Hid (vs.length = n * 1) := h1
 have L2 : Hid (cs.length = n * 1) := by rw [markL_len] at h2; exact h2
 have HR : Hid (∀ j, j < n → HasL (row cs 1 j) [.i]) := fun j hj => hs.rowL hj
 have HK : Hid (∀ p, k0 + (cntL (cs.take p) : Int) ≤ 4611686018427387904) := fun p => by have := cnt_le (cs := cs) (p := p); show _ ≤ _; omega
 clear h h1 h2 h3 h4 hs hk1
 go_enter Tryz.func42, Tryz.ntmps42
 go_wp2
 go_loopw [1, 5] (fun q i wr => ∃ j : Nat, j ≤ n ∧ q = .int .i64 (k0 + (cntL (cs.take (j * 1)) : Int)) ∧ i = .int .i64 (j : Int) ∧ Below w.heap.size w wr) (fun _ i _ => n - (intOf i).toNat)
 case atStart => exact ⟨0, Nat.zero_le _, by simp [cntL], rfl, Below.refl _ _⟩
 case round =>
   obtain ⟨j, hj, rfl, rfl, hb⟩ := hrel
   have HB : Hid (Below w.heap.size w wr) := hb
   by_cases hlt : j < n
   · have hj0 : (0 : Int) ≤ (j : Int) := by omega
     have hj1 : (j : Int) < (n : Int) := by omega
     have hle : j * 1 + 1 ≤ n * 1 := by omega
     rcases SRC.out with h0' | ⟨p1, o1, rfl, g1⟩
     · omega
     have hA := HV.out j hlt
     have hH := HR.out j hlt
     have CS : Hid (cntL (cs.take ((j + 1) * 1)) = cntL (cs.take (j * 1)) + cntL (row cs 1 j)) := cnt_split
     have hkN := HK.out ((j + 1) * 1)
     have hkM := HK.out (j * 1)
     rw [CS.out] at hkN
     have ce := rowAt hb hlt g1 L1.out
     obtain ⟨rs, hrs⟩ : ∃ rs, row cs 1 j = rs := ⟨_, rfl⟩
     obtain ⟨ws, hws⟩ : ∃ ws, (vs.drop (j * 1)).take 1 = ws := ⟨_, rfl⟩
     have HRS : Hid (row cs 1 j = rs) := hrs
     obtain ⟨q, hq⟩ : ∃ q : Int, k0 + (cntL (cs.take (j * 1)) : Int) = q := ⟨_, rfl⟩
     have HQ : Hid (k0 + (cntL (cs.take (j * 1)) : Int) = q) := hq
     rw [hrs] at hH hA hkN
     rw [hws] at hA ce
     rw [hq] at hA
     rw [hq]
     have hq0 : 0 ≤ q := by omega
     have hq1 : q ≤ 4611686018427387904 := by omega
     have hqN : q + (cntL rs : Int) ≤ 4611686018427387904 := by push_cast at hkN; omega
     clear g1 hq hkN hkM hrs hws
     obtain ⟨c0, rfl, T0⟩ := hH.c1
     obtain ⟨x0, rfl⟩ := T0.int
     simp only [cntL, Cel.cnt, Nat.add_zero] at hqN
     push_cast at hqN
     simp only [markL, Cel.mark, Cel.cnt] at hA
     (try push_cast at hA)
     obtain ⟨v0, rfl, A0⟩ := hA.c1
     obtain rfl := A0.int
     have e0 : wr.cell? ⟨p1, o1 + j * 1, none⟩ = some (.int .i64 (q)) := ce 0 (by omega)
     have pq : p1 < wr.heap.size := World.block_lt_of_cell? wr _ e0
     clear ce hA hH hb
     simp only [Nat.mul_one] at e0
     go_wp2
     exact ⟨⟨j + 1, by omega, by
       have h5 := HQ.out
       rw [CS.out, HRS.out]
       simp only [cntL, Cel.cnt]
       congr 1; push_cast; omega, by go_num, HB.out⟩, by simp [intOf]; omega⟩
   · obtain rfl : j = n := by omega
     have HE : Hid (cs.take (j * 1) = cs) := List.take_of_length_le (by have := L2.out; omega)
     go_wp2
     go_ret
     exact ⟨by rw [HE.out]; rfl, hb⟩
theorem dHeldOpS (tx : Int → ByteArray) (v : Value) (n : Nat) (cs : List Cel) (k0 : Int) (w : World) (h : At false w v (.l 82 3 n (markL tx cs k0))) (hs : Has (.l 82 3 n cs) (.l 82 3 tyOp)) (hk0 : 0 ≤ k0) (hk1 : k0 + (cntL cs : Int) ≤ 4611686018427387904) :
   Calls Tryz.prog 73 #[v, .int .i64 k0] w (SaysD w (k0 + (cntL cs : Int))) := by
 obtain ⟨a, c, vs, rfl, h1, h2, hn, -, h3, h4⟩ := h.openL
 have SRC : Hid (n = 0 ∨ ∃ b o, a = some ⟨b, o, none⟩ ∧ ∀ j, j < n * 3 → w.cell? ⟨b, o + j, none⟩ = vs[j]?) := h3
 have HV : Hid (∀ j, j < n → AtL false w ((vs.drop (j * 3)).take 3) (markL tx (row cs 3 j) (k0 + (cntL (cs.take (j * 3)) : Int)))) := fun j hj => by
   have h5 := rowVals h1 h2 h4 hj
   rwa [row_mark] at h5
 have L1 : Hid (vs.length = n * 3) := h1
 have L2 : Hid (cs.length = n * 3) := by rw [markL_len] at h2; exact h2
 have HR : Hid (∀ j, j < n → HasL (row cs 3 j) tyOp) := fun j hj => hs.rowL hj
 have HK : Hid (∀ p, k0 + (cntL (cs.take p) : Int) ≤ 4611686018427387904) := fun p => by have := cnt_le (cs := cs) (p := p); show _ ≤ _; omega
 clear h h1 h2 h3 h4 hs hk1
 go_enter Tryz.func73, Tryz.ntmps73
 go_wp2
 go_loopw [1, 5] (fun q i wr => ∃ j : Nat, j ≤ n ∧ q = .int .i64 (k0 + (cntL (cs.take (j * 3)) : Int)) ∧ i = .int .i64 (j : Int) ∧ Below w.heap.size w wr) (fun _ i _ => n - (intOf i).toNat)
 case atStart => exact ⟨0, Nat.zero_le _, by simp [cntL], rfl, Below.refl _ _⟩
 case round =>
   obtain ⟨j, hj, rfl, rfl, hb⟩ := hrel
   have HB : Hid (Below w.heap.size w wr) := hb
   by_cases hlt : j < n
   · have hj0 : (0 : Int) ≤ (j : Int) := by omega
     have hj1 : (j : Int) < (n : Int) := by omega
     have hle : j * 3 + 3 ≤ n * 3 := by omega
     rcases SRC.out with h0' | ⟨p1, o1, rfl, g1⟩
     · omega
     have hA := HV.out j hlt
     have hH := HR.out j hlt
     have CS : Hid (cntL (cs.take ((j + 1) * 3)) = cntL (cs.take (j * 3)) + cntL (row cs 3 j)) := cnt_split
     have hkN := HK.out ((j + 1) * 3)
     have hkM := HK.out (j * 3)
     rw [CS.out] at hkN
     have ce := rowAt hb hlt g1 L1.out
     obtain ⟨rs, hrs⟩ : ∃ rs, row cs 3 j = rs := ⟨_, rfl⟩
     obtain ⟨ws, hws⟩ : ∃ ws, (vs.drop (j * 3)).take 3 = ws := ⟨_, rfl⟩
     have HRS : Hid (row cs 3 j = rs) := hrs
     obtain ⟨q, hq⟩ : ∃ q : Int, k0 + (cntL (cs.take (j * 3)) : Int) = q := ⟨_, rfl⟩
     have HQ : Hid (k0 + (cntL (cs.take (j * 3)) : Int) = q) := hq
     rw [hrs] at hH hA hkN
     rw [hws] at hA ce
     rw [hq] at hA
     rw [hq]
     have hq0 : 0 ≤ q := by omega
     have hq1 : q ≤ 4611686018427387904 := by omega
     have hqN : q + (cntL rs : Int) ≤ 4611686018427387904 := by push_cast at hkN; omega
     clear g1 hq hkN hkM hrs hws
     obtain ⟨c0, c1, c2, rfl, T0, T1, T2⟩ := hH.c3
     obtain ⟨x0, rfl⟩ := T0.int
     obtain ⟨x1, rfl⟩ := T1.int
     obtain ⟨x2, rfl⟩ := T2.int
     simp only [cntL, Cel.cnt, Nat.add_zero] at hqN
     push_cast at hqN
     simp only [markL, Cel.mark, Cel.cnt] at hA
     (try push_cast at hA)
     obtain ⟨v0, v1, v2, rfl, A0, A1, A2⟩ := hA.c3
     obtain rfl := A0.int
     obtain rfl := A1.int
     obtain rfl := A2.int
     have e0 : wr.cell? ⟨p1, o1 + j * 3, none⟩ = some (.int .i64 (q)) := ce 0 (by omega)
     have e1 : wr.cell? ⟨p1, o1 + j * 3 + 1, none⟩ = some (.int .i64 (q + 1)) := ce 1 (by omega)
     have e2 : wr.cell? ⟨p1, o1 + j * 3 + 2, none⟩ = some (.int .i64 (q + 1 + 1)) := ce 2 (by omega)
     have pq : p1 < wr.heap.size := World.block_lt_of_cell? wr _ e0
     clear ce hA hH hb
     go_wp2
     exact ⟨⟨j + 1, by omega, by
       have h5 := HQ.out
       rw [CS.out, HRS.out]
       simp only [cntL, Cel.cnt]
       congr 1; push_cast; omega, by go_num, HB.out⟩, by simp [intOf]; omega⟩
   · obtain rfl : j = n := by omega
     have HE : Hid (cs.take (j * 3) = cs) := List.take_of_length_le (by have := L2.out; omega)
     go_wp2
     go_ret
     exact ⟨by rw [HE.out]; rfl, hb⟩
theorem dHeldPairS (tx : Int → ByteArray) (v : Value) (n : Nat) (cs : List Cel) (k0 : Int) (w : World) (h : At false w v (.l 115 2 n (markL tx cs k0))) (hs : Has (.l 115 2 n cs) (.l 115 2 tyPair)) (hk0 : 0 ≤ k0) (hk1 : k0 + (cntL cs : Int) ≤ 4611686018427387904) :
   Calls Tryz.prog 74 #[v, .int .i64 k0] w (SaysD w (k0 + (cntL cs : Int))) := by
 obtain ⟨a, c, vs, rfl, h1, h2, hn, -, h3, h4⟩ := h.openL
 have SRC : Hid (n = 0 ∨ ∃ b o, a = some ⟨b, o, none⟩ ∧ ∀ j, j < n * 2 → w.cell? ⟨b, o + j, none⟩ = vs[j]?) := h3
 have HV : Hid (∀ j, j < n → AtL false w ((vs.drop (j * 2)).take 2) (markL tx (row cs 2 j) (k0 + (cntL (cs.take (j * 2)) : Int)))) := fun j hj => by
   have h5 := rowVals h1 h2 h4 hj
   rwa [row_mark] at h5
 have L1 : Hid (vs.length = n * 2) := h1
 have L2 : Hid (cs.length = n * 2) := by rw [markL_len] at h2; exact h2
 have HR : Hid (∀ j, j < n → HasL (row cs 2 j) tyPair) := fun j hj => hs.rowL hj
 have HK : Hid (∀ p, k0 + (cntL (cs.take p) : Int) ≤ 4611686018427387904) := fun p => by have := cnt_le (cs := cs) (p := p); show _ ≤ _; omega
 clear h h1 h2 h3 h4 hs hk1
 go_enter Tryz.func74, Tryz.ntmps74
 go_wp2
 go_loopw [1, 5] (fun q i wr => ∃ j : Nat, j ≤ n ∧ q = .int .i64 (k0 + (cntL (cs.take (j * 2)) : Int)) ∧ i = .int .i64 (j : Int) ∧ Below w.heap.size w wr) (fun _ i _ => n - (intOf i).toNat)
 case atStart => exact ⟨0, Nat.zero_le _, by simp [cntL], rfl, Below.refl _ _⟩
 case round =>
   obtain ⟨j, hj, rfl, rfl, hb⟩ := hrel
   have HB : Hid (Below w.heap.size w wr) := hb
   by_cases hlt : j < n
   · have hj0 : (0 : Int) ≤ (j : Int) := by omega
     have hj1 : (j : Int) < (n : Int) := by omega
     have hle : j * 2 + 2 ≤ n * 2 := by omega
     rcases SRC.out with h0' | ⟨p1, o1, rfl, g1⟩
     · omega
     have hA := HV.out j hlt
     have hH := HR.out j hlt
     have CS : Hid (cntL (cs.take ((j + 1) * 2)) = cntL (cs.take (j * 2)) + cntL (row cs 2 j)) := cnt_split
     have hkN := HK.out ((j + 1) * 2)
     have hkM := HK.out (j * 2)
     rw [CS.out] at hkN
     have ce := rowAt hb hlt g1 L1.out
     obtain ⟨rs, hrs⟩ : ∃ rs, row cs 2 j = rs := ⟨_, rfl⟩
     obtain ⟨ws, hws⟩ : ∃ ws, (vs.drop (j * 2)).take 2 = ws := ⟨_, rfl⟩
     have HRS : Hid (row cs 2 j = rs) := hrs
     obtain ⟨q, hq⟩ : ∃ q : Int, k0 + (cntL (cs.take (j * 2)) : Int) = q := ⟨_, rfl⟩
     have HQ : Hid (k0 + (cntL (cs.take (j * 2)) : Int) = q) := hq
     rw [hrs] at hH hA hkN
     rw [hws] at hA ce
     rw [hq] at hA
     rw [hq]
     have hq0 : 0 ≤ q := by omega
     have hq1 : q ≤ 4611686018427387904 := by omega
     have hqN : q + (cntL rs : Int) ≤ 4611686018427387904 := by push_cast at hkN; omega
     clear g1 hq hkN hkM hrs hws
     obtain ⟨c0, c1, rfl, T0, T1⟩ := hH.c2
     obtain ⟨x0, rfl⟩ := T0.int
     obtain ⟨x1, rfl⟩ := T1.int
     simp only [cntL, Cel.cnt, Nat.add_zero] at hqN
     push_cast at hqN
     simp only [markL, Cel.mark, Cel.cnt] at hA
     (try push_cast at hA)
     obtain ⟨v0, v1, rfl, A0, A1⟩ := hA.c2
     obtain rfl := A0.int
     obtain rfl := A1.int
     have e0 : wr.cell? ⟨p1, o1 + j * 2, none⟩ = some (.int .i64 (q)) := ce 0 (by omega)
     have e1 : wr.cell? ⟨p1, o1 + j * 2 + 1, none⟩ = some (.int .i64 (q + 1)) := ce 1 (by omega)
     have pq : p1 < wr.heap.size := World.block_lt_of_cell? wr _ e0
     clear ce hA hH hb
     go_wp2
     exact ⟨⟨j + 1, by omega, by
       have h5 := HQ.out
       rw [CS.out, HRS.out]
       simp only [cntL, Cel.cnt]
       congr 1; push_cast; omega, by go_num, HB.out⟩, by simp [intOf]; omega⟩
   · obtain rfl : j = n := by omega
     have HE : Hid (cs.take (j * 2) = cs) := List.take_of_length_le (by have := L2.out; omega)
     go_wp2
     go_ret
     exact ⟨by rw [HE.out]; rfl, hb⟩
theorem dHeldHelpS (tx : Int → ByteArray) (v : Value) (n : Nat) (cs : List Cel) (k0 : Int) (w : World) (h : At false w v (.l 117 4 n (markL tx cs k0))) (hs : Has (.l 117 4 n cs) (.l 117 4 tyHelp)) (hk0 : 0 ≤ k0) (hk1 : k0 + (cntL cs : Int) ≤ 4611686018427387904) :
   Calls Tryz.prog 75 #[v, .int .i64 k0] w (SaysD w (k0 + (cntL cs : Int))) := by
 obtain ⟨a, c, vs, rfl, h1, h2, hn, -, h3, h4⟩ := h.openL
 have SRC : Hid (n = 0 ∨ ∃ b o, a = some ⟨b, o, none⟩ ∧ ∀ j, j < n * 4 → w.cell? ⟨b, o + j, none⟩ = vs[j]?) := h3
 have HV : Hid (∀ j, j < n → AtL false w ((vs.drop (j * 4)).take 4) (markL tx (row cs 4 j) (k0 + (cntL (cs.take (j * 4)) : Int)))) := fun j hj => by
   have h5 := rowVals h1 h2 h4 hj
   rwa [row_mark] at h5
 have L1 : Hid (vs.length = n * 4) := h1
 have L2 : Hid (cs.length = n * 4) := by rw [markL_len] at h2; exact h2
 have HR : Hid (∀ j, j < n → HasL (row cs 4 j) tyHelp) := fun j hj => hs.rowL hj
 have HK : Hid (∀ p, k0 + (cntL (cs.take p) : Int) ≤ 4611686018427387904) := fun p => by have := cnt_le (cs := cs) (p := p); show _ ≤ _; omega
 clear h h1 h2 h3 h4 hs hk1
 go_enter Tryz.func75, Tryz.ntmps75
 go_wp2
 go_loopw [1, 5] (fun q i wr => ∃ j : Nat, j ≤ n ∧ q = .int .i64 (k0 + (cntL (cs.take (j * 4)) : Int)) ∧ i = .int .i64 (j : Int) ∧ Below w.heap.size w wr) (fun _ i _ => n - (intOf i).toNat)
 case atStart => exact ⟨0, Nat.zero_le _, by simp [cntL], rfl, Below.refl _ _⟩
 case round =>
   obtain ⟨j, hj, rfl, rfl, hb⟩ := hrel
   have HB : Hid (Below w.heap.size w wr) := hb
   by_cases hlt : j < n
   · have hj0 : (0 : Int) ≤ (j : Int) := by omega
     have hj1 : (j : Int) < (n : Int) := by omega
     have hle : j * 4 + 4 ≤ n * 4 := by omega
     rcases SRC.out with h0' | ⟨p1, o1, rfl, g1⟩
     · omega
     have hA := HV.out j hlt
     have hH := HR.out j hlt
     have CS : Hid (cntL (cs.take ((j + 1) * 4)) = cntL (cs.take (j * 4)) + cntL (row cs 4 j)) := cnt_split
     have hkN := HK.out ((j + 1) * 4)
     have hkM := HK.out (j * 4)
     rw [CS.out] at hkN
     have ce := rowAt hb hlt g1 L1.out
     obtain ⟨rs, hrs⟩ : ∃ rs, row cs 4 j = rs := ⟨_, rfl⟩
     obtain ⟨ws, hws⟩ : ∃ ws, (vs.drop (j * 4)).take 4 = ws := ⟨_, rfl⟩
     have HRS : Hid (row cs 4 j = rs) := hrs
     obtain ⟨q, hq⟩ : ∃ q : Int, k0 + (cntL (cs.take (j * 4)) : Int) = q := ⟨_, rfl⟩
     have HQ : Hid (k0 + (cntL (cs.take (j * 4)) : Int) = q) := hq
     rw [hrs] at hH hA hkN
     rw [hws] at hA ce
     rw [hq] at hA
     rw [hq]
     have hq0 : 0 ≤ q := by omega
     have hq1 : q ≤ 4611686018427387904 := by omega
     have hqN : q + (cntL rs : Int) ≤ 4611686018427387904 := by push_cast at hkN; omega
     clear g1 hq hkN hkM hrs hws
     obtain ⟨c0, c1, c2, c3, rfl, T0, T1, T2, T3⟩ := hH.c4
     obtain ⟨x0, rfl⟩ := T0.int
     obtain ⟨x1, rfl⟩ := T1.int
     obtain ⟨x2, rfl⟩ := T2.int
     obtain ⟨x3, rfl⟩ := T3.int
     simp only [cntL, Cel.cnt, Nat.add_zero] at hqN
     push_cast at hqN
     simp only [markL, Cel.mark, Cel.cnt] at hA
     (try push_cast at hA)
     obtain ⟨v0, v1, v2, v3, rfl, A0, A1, A2, A3⟩ := hA.c4
     obtain rfl := A0.int
     obtain rfl := A1.int
     obtain rfl := A2.int
     obtain rfl := A3.int
     have e0 : wr.cell? ⟨p1, o1 + j * 4, none⟩ = some (.int .i64 (q)) := ce 0 (by omega)
     have e1 : wr.cell? ⟨p1, o1 + j * 4 + 1, none⟩ = some (.int .i64 (q + 1)) := ce 1 (by omega)
     have e2 : wr.cell? ⟨p1, o1 + j * 4 + 2, none⟩ = some (.int .i64 (q + 1 + 1)) := ce 2 (by omega)
     have e3 : wr.cell? ⟨p1, o1 + j * 4 + 3, none⟩ = some (.int .i64 (q + 1 + 1 + 1)) := ce 3 (by omega)
     have pq : p1 < wr.heap.size := World.block_lt_of_cell? wr _ e0
     clear ce hA hH hb
     go_wp2
     exact ⟨⟨j + 1, by omega, by
       have h5 := HQ.out
       rw [CS.out, HRS.out]
       simp only [cntL, Cel.cnt]
       congr 1; push_cast; omega, by go_num, HB.out⟩, by simp [intOf]; omega⟩
   · obtain rfl : j = n := by omega
     have HE : Hid (cs.take (j * 4) = cs) := List.take_of_length_le (by have := L2.out; omega)
     go_wp2
     go_ret
     exact ⟨by rw [HE.out]; rfl, hb⟩
theorem dHeldEntryS (tx : Int → ByteArray) (v : Value) (n : Nat) (cs : List Cel) (k0 : Int) (w : World) (h : At false w v (.l 107 3 n (markL tx cs k0))) (hs : Has (.l 107 3 n cs) (.l 107 3 tyEntry)) (hk0 : 0 ≤ k0) (hk1 : k0 + (cntL cs : Int) ≤ 4611686018427387904) :
   Calls Tryz.prog 119 #[v, .int .i64 k0] w (SaysD w (k0 + (cntL cs : Int))) := by
 obtain ⟨a, c, vs, rfl, h1, h2, hn, -, h3, h4⟩ := h.openL
 have SRC : Hid (n = 0 ∨ ∃ b o, a = some ⟨b, o, none⟩ ∧ ∀ j, j < n * 3 → w.cell? ⟨b, o + j, none⟩ = vs[j]?) := h3
 have HV : Hid (∀ j, j < n → AtL false w ((vs.drop (j * 3)).take 3) (markL tx (row cs 3 j) (k0 + (cntL (cs.take (j * 3)) : Int)))) := fun j hj => by
   have h5 := rowVals h1 h2 h4 hj
   rwa [row_mark] at h5
 have L1 : Hid (vs.length = n * 3) := h1
 have L2 : Hid (cs.length = n * 3) := by rw [markL_len] at h2; exact h2
 have HR : Hid (∀ j, j < n → HasL (row cs 3 j) tyEntry) := fun j hj => hs.rowL hj
 have HK : Hid (∀ p, k0 + (cntL (cs.take p) : Int) ≤ 4611686018427387904) := fun p => by have := cnt_le (cs := cs) (p := p); show _ ≤ _; omega
 clear h h1 h2 h3 h4 hs hk1
 go_enter Tryz.func119, Tryz.ntmps119
 go_wp2
 go_loopw [1, 5] (fun q i wr => ∃ j : Nat, j ≤ n ∧ q = .int .i64 (k0 + (cntL (cs.take (j * 3)) : Int)) ∧ i = .int .i64 (j : Int) ∧ Below w.heap.size w wr) (fun _ i _ => n - (intOf i).toNat)
 case atStart => exact ⟨0, Nat.zero_le _, by simp [cntL], rfl, Below.refl _ _⟩
 case round =>
   obtain ⟨j, hj, rfl, rfl, hb⟩ := hrel
   have HB : Hid (Below w.heap.size w wr) := hb
   by_cases hlt : j < n
   · have hj0 : (0 : Int) ≤ (j : Int) := by omega
     have hj1 : (j : Int) < (n : Int) := by omega
     have hle : j * 3 + 3 ≤ n * 3 := by omega
     rcases SRC.out with h0' | ⟨p1, o1, rfl, g1⟩
     · omega
     have hA := HV.out j hlt
     have hH := HR.out j hlt
     have CS : Hid (cntL (cs.take ((j + 1) * 3)) = cntL (cs.take (j * 3)) + cntL (row cs 3 j)) := cnt_split
     have hkN := HK.out ((j + 1) * 3)
     have hkM := HK.out (j * 3)
     rw [CS.out] at hkN
     have ce := rowAt hb hlt g1 L1.out
     obtain ⟨rs, hrs⟩ : ∃ rs, row cs 3 j = rs := ⟨_, rfl⟩
     obtain ⟨ws, hws⟩ : ∃ ws, (vs.drop (j * 3)).take 3 = ws := ⟨_, rfl⟩
     have HRS : Hid (row cs 3 j = rs) := hrs
     obtain ⟨q, hq⟩ : ∃ q : Int, k0 + (cntL (cs.take (j * 3)) : Int) = q := ⟨_, rfl⟩
     have HQ : Hid (k0 + (cntL (cs.take (j * 3)) : Int) = q) := hq
     rw [hrs] at hH hA hkN
     rw [hws] at hA ce
     rw [hq] at hA
     rw [hq]
     have hq0 : 0 ≤ q := by omega
     have hq1 : q ≤ 4611686018427387904 := by omega
     have hqN : q + (cntL rs : Int) ≤ 4611686018427387904 := by push_cast at hkN; omega
     clear g1 hq hkN hkM hrs hws
     obtain ⟨c0, c1, c2, rfl, T0, T1, T2⟩ := hH.c3
     obtain ⟨x0, rfl⟩ := T0.int
     obtain ⟨x1, rfl⟩ := T1.int
     obtain ⟨x2, rfl⟩ := T2.int
     simp only [cntL, Cel.cnt, Nat.add_zero] at hqN
     push_cast at hqN
     simp only [markL, Cel.mark, Cel.cnt] at hA
     (try push_cast at hA)
     obtain ⟨v0, v1, v2, rfl, A0, A1, A2⟩ := hA.c3
     obtain rfl := A0.int
     obtain rfl := A1.int
     obtain rfl := A2.int
     have e0 : wr.cell? ⟨p1, o1 + j * 3, none⟩ = some (.int .i64 (q)) := ce 0 (by omega)
     have e1 : wr.cell? ⟨p1, o1 + j * 3 + 1, none⟩ = some (.int .i64 (q + 1)) := ce 1 (by omega)
     have e2 : wr.cell? ⟨p1, o1 + j * 3 + 2, none⟩ = some (.int .i64 (q + 1 + 1)) := ce 2 (by omega)
     have pq : p1 < wr.heap.size := World.block_lt_of_cell? wr _ e0
     clear ce hA hH hb
     go_wp2
     exact ⟨⟨j + 1, by omega, by
       have h5 := HQ.out
       rw [CS.out, HRS.out]
       simp only [cntL, Cel.cnt]
       congr 1; push_cast; omega, by go_num, HB.out⟩, by simp [intOf]; omega⟩
   · obtain rfl : j = n := by omega
     have HE : Hid (cs.take (j * 3) = cs) := List.take_of_length_le (by have := L2.out; omega)
     go_wp2
     go_ret
     exact ⟨by rw [HE.out]; rfl, hb⟩
theorem dHeldWordS (tx : Int → ByteArray) (v : Value) (n : Nat) (cs : List Cel) (k0 : Int) (w : World) (h : At false w v (.l 75 3 n (markL tx cs k0))) (hs : Has (.l 75 3 n cs) (.l 75 3 tyWord)) (hk0 : 0 ≤ k0) (hk1 : k0 + (cntL cs : Int) ≤ 4611686018427387904) :
   Calls Tryz.prog 71 #[v, .int .i64 k0] w (SaysD w (k0 + (cntL cs : Int))) := by
 obtain ⟨a, c, vs, rfl, h1, h2, hn, -, h3, h4⟩ := h.openL
 have SRC : Hid (n = 0 ∨ ∃ b o, a = some ⟨b, o, none⟩ ∧ ∀ j, j < n * 3 → w.cell? ⟨b, o + j, none⟩ = vs[j]?) := h3
 have HV : Hid (∀ j, j < n → AtL false w ((vs.drop (j * 3)).take 3) (markL tx (row cs 3 j) (k0 + (cntL (cs.take (j * 3)) : Int)))) := fun j hj => by
   have h5 := rowVals h1 h2 h4 hj
   rwa [row_mark] at h5
 have L1 : Hid (vs.length = n * 3) := h1
 have L2 : Hid (cs.length = n * 3) := by rw [markL_len] at h2; exact h2
 have HR : Hid (∀ j, j < n → HasL (row cs 3 j) tyWord) := fun j hj => hs.rowL hj
 have HK : Hid (∀ p, k0 + (cntL (cs.take p) : Int) ≤ 4611686018427387904) := fun p => by have := cnt_le (cs := cs) (p := p); show _ ≤ _; omega
 clear h h1 h2 h3 h4 hs hk1
 go_enter Tryz.func71, Tryz.ntmps71
 go_wp2
 go_loopw [1, 5] (fun q i wr => ∃ j : Nat, j ≤ n ∧ q = .int .i64 (k0 + (cntL (cs.take (j * 3)) : Int)) ∧ i = .int .i64 (j : Int) ∧ Below w.heap.size w wr) (fun _ i _ => n - (intOf i).toNat)
 case atStart => exact ⟨0, Nat.zero_le _, by simp [cntL], rfl, Below.refl _ _⟩
 case round =>
   obtain ⟨j, hj, rfl, rfl, hb⟩ := hrel
   have HB : Hid (Below w.heap.size w wr) := hb
   by_cases hlt : j < n
   · have hj0 : (0 : Int) ≤ (j : Int) := by omega
     have hj1 : (j : Int) < (n : Int) := by omega
     have hle : j * 3 + 3 ≤ n * 3 := by omega
     rcases SRC.out with h0' | ⟨p1, o1, rfl, g1⟩
     · omega
     have hA := HV.out j hlt
     have hH := HR.out j hlt
     have CS : Hid (cntL (cs.take ((j + 1) * 3)) = cntL (cs.take (j * 3)) + cntL (row cs 3 j)) := cnt_split
     have hkN := HK.out ((j + 1) * 3)
     have hkM := HK.out (j * 3)
     rw [CS.out] at hkN
     have ce := rowAt hb hlt g1 L1.out
     obtain ⟨rs, hrs⟩ : ∃ rs, row cs 3 j = rs := ⟨_, rfl⟩
     obtain ⟨ws, hws⟩ : ∃ ws, (vs.drop (j * 3)).take 3 = ws := ⟨_, rfl⟩
     have HRS : Hid (row cs 3 j = rs) := hrs
     obtain ⟨q, hq⟩ : ∃ q : Int, k0 + (cntL (cs.take (j * 3)) : Int) = q := ⟨_, rfl⟩
     have HQ : Hid (k0 + (cntL (cs.take (j * 3)) : Int) = q) := hq
     rw [hrs] at hH hA hkN
     rw [hws] at hA ce
     rw [hq] at hA
     rw [hq]
     have hq0 : 0 ≤ q := by omega
     have hq1 : q ≤ 4611686018427387904 := by omega
     have hqN : q + (cntL rs : Int) ≤ 4611686018427387904 := by push_cast at hkN; omega
     clear g1 hq hkN hkM hrs hws
     obtain ⟨c0, c1, c2, rfl, T0, T1, T2⟩ := hH.c3
     obtain ⟨x0, rfl⟩ := T0.int
     obtain ⟨x1, rfl⟩ := T1.int
     obtain ⟨x2, rfl⟩ := T2.int
     simp only [cntL, Cel.cnt, Nat.add_zero] at hqN
     push_cast at hqN
     simp only [markL, Cel.mark, Cel.cnt] at hA
     (try push_cast at hA)
     obtain ⟨v0, v1, v2, rfl, A0, A1, A2⟩ := hA.c3
     obtain rfl := A0.int
     obtain rfl := A1.int
     obtain rfl := A2.int
     have e0 : wr.cell? ⟨p1, o1 + j * 3, none⟩ = some (.int .i64 (q)) := ce 0 (by omega)
     have e1 : wr.cell? ⟨p1, o1 + j * 3 + 1, none⟩ = some (.int .i64 (q + 1)) := ce 1 (by omega)
     have e2 : wr.cell? ⟨p1, o1 + j * 3 + 2, none⟩ = some (.int .i64 (q + 1 + 1)) := ce 2 (by omega)
     have pq : p1 < wr.heap.size := World.block_lt_of_cell? wr _ e0
     clear ce hA hH hb
     go_wp2
     exact ⟨⟨j + 1, by omega, by
       have h5 := HQ.out
       rw [CS.out, HRS.out]
       simp only [cntL, Cel.cnt]
       congr 1; push_cast; omega, by go_num, HB.out⟩, by simp [intOf]; omega⟩
   · obtain rfl : j = n := by omega
     have HE : Hid (cs.take (j * 3) = cs) := List.take_of_length_le (by have := L2.out; omega)
     go_wp2
     go_ret
     exact ⟨by rw [HE.out]; rfl, hb⟩
theorem dHeldThreadS (tx : Int → ByteArray) (v : Value) (n : Nat) (cs : List Cel) (k0 : Int) (w : World) (h : At false w v (.l 59 5 n (markL tx cs k0))) (hs : Has (.l 59 5 n cs) (.l 59 5 tyThread)) (hk0 : 0 ≤ k0) (hk1 : k0 + (cntL cs : Int) ≤ 4611686018427387904) :
   Calls Tryz.prog 40 #[v, .int .i64 k0] w (SaysD w (k0 + (cntL cs : Int))) := by
 obtain ⟨a, c, vs, rfl, h1, h2, hn, -, h3, h4⟩ := h.openL
 have SRC : Hid (n = 0 ∨ ∃ b o, a = some ⟨b, o, none⟩ ∧ ∀ j, j < n * 5 → w.cell? ⟨b, o + j, none⟩ = vs[j]?) := h3
 have HV : Hid (∀ j, j < n → AtL false w ((vs.drop (j * 5)).take 5) (markL tx (row cs 5 j) (k0 + (cntL (cs.take (j * 5)) : Int)))) := fun j hj => by
   have h5 := rowVals h1 h2 h4 hj
   rwa [row_mark] at h5
 have L1 : Hid (vs.length = n * 5) := h1
 have L2 : Hid (cs.length = n * 5) := by rw [markL_len] at h2; exact h2
 have HR : Hid (∀ j, j < n → HasL (row cs 5 j) tyThread) := fun j hj => hs.rowL hj
 have HK : Hid (∀ p, k0 + (cntL (cs.take p) : Int) ≤ 4611686018427387904) := fun p => by have := cnt_le (cs := cs) (p := p); show _ ≤ _; omega
 clear h h1 h2 h3 h4 hs hk1
 go_enter Tryz.func40, Tryz.ntmps40
 go_wp2
 go_loopw [1, 5] (fun q i wr => ∃ j : Nat, j ≤ n ∧ q = .int .i64 (k0 + (cntL (cs.take (j * 5)) : Int)) ∧ i = .int .i64 (j : Int) ∧ Below w.heap.size w wr) (fun _ i _ => n - (intOf i).toNat)
 case atStart => exact ⟨0, Nat.zero_le _, by simp [cntL], rfl, Below.refl _ _⟩
 case round =>
   obtain ⟨j, hj, rfl, rfl, hb⟩ := hrel
   have HB : Hid (Below w.heap.size w wr) := hb
   by_cases hlt : j < n
   · have hj0 : (0 : Int) ≤ (j : Int) := by omega
     have hj1 : (j : Int) < (n : Int) := by omega
     have hle : j * 5 + 5 ≤ n * 5 := by omega
     rcases SRC.out with h0' | ⟨p1, o1, rfl, g1⟩
     · omega
     have hA := HV.out j hlt
     have hH := HR.out j hlt
     have CS : Hid (cntL (cs.take ((j + 1) * 5)) = cntL (cs.take (j * 5)) + cntL (row cs 5 j)) := cnt_split
     have hkN := HK.out ((j + 1) * 5)
     have hkM := HK.out (j * 5)
     rw [CS.out] at hkN
     have ce := rowAt hb hlt g1 L1.out
     obtain ⟨rs, hrs⟩ : ∃ rs, row cs 5 j = rs := ⟨_, rfl⟩
     obtain ⟨ws, hws⟩ : ∃ ws, (vs.drop (j * 5)).take 5 = ws := ⟨_, rfl⟩
     have HRS : Hid (row cs 5 j = rs) := hrs
     obtain ⟨q, hq⟩ : ∃ q : Int, k0 + (cntL (cs.take (j * 5)) : Int) = q := ⟨_, rfl⟩
     have HQ : Hid (k0 + (cntL (cs.take (j * 5)) : Int) = q) := hq
     rw [hrs] at hH hA hkN
     rw [hws] at hA ce
     rw [hq] at hA
     rw [hq]
     have hq0 : 0 ≤ q := by omega
     have hq1 : q ≤ 4611686018427387904 := by omega
     have hqN : q + (cntL rs : Int) ≤ 4611686018427387904 := by push_cast at hkN; omega
     clear g1 hq hkN hkM hrs hws
     obtain ⟨c0, c1, c2, c3, c4, rfl, T0, T1, T2, T3, T4⟩ := hH.c5
     obtain ⟨n0, cs0, rfl, -⟩ := T0.list
     have HT0 : Hid (Has (.l 82 3 n0 cs0) (.l 82 3 tyOp)) := T0
     obtain ⟨x1, rfl⟩ := T1.int
     obtain ⟨x2, rfl⟩ := T2.bool
     obtain ⟨n3, cs3, rfl, -⟩ := T3.list
     have HT3 : Hid (Has (.l 115 2 n3 cs3) (.l 115 2 tyPair)) := T3
     obtain ⟨n4, cs4, rfl, -⟩ := T4.list
     have HT4 : Hid (Has (.l 117 4 n4 cs4) (.l 117 4 tyHelp)) := T4
     simp only [cntL, Cel.cnt, Nat.add_zero] at hqN
     push_cast at hqN
     simp only [markL, Cel.mark, Cel.cnt] at hA
     (try push_cast at hA)
     obtain ⟨q1, hq1⟩ : ∃ q' : Int, q + (cntL cs0 : Int) = q' := ⟨_, rfl⟩
     have HQ1 : Hid (q + (cntL cs0 : Int) = q1) := hq1
     have hb1 : ¬ q1 < 0 := by omega
     have hc1 : q1 ≤ 4611686018427387904 := by omega
     (try rw [hq1] at hA)
     obtain ⟨q2, hq2⟩ : ∃ q' : Int, q1 + 1 + 1 + (cntL cs3 : Int) = q' := ⟨_, rfl⟩
     have HQ2 : Hid (q1 + 1 + 1 + (cntL cs3 : Int) = q2) := hq2
     have hb2 : ¬ q2 < 0 := by omega
     have hc2 : q2 ≤ 4611686018427387904 := by omega
     (try rw [hq2] at hA)
     obtain ⟨q3, hq3⟩ : ∃ q' : Int, q2 + (cntL cs4 : Int) = q' := ⟨_, rfl⟩
     have HQ3 : Hid (q2 + (cntL cs4 : Int) = q3) := hq3
     have hb3 : ¬ q3 < 0 := by omega
     have hc3 : q3 ≤ 4611686018427387904 := by omega
     (try rw [hq3] at hA)
     obtain ⟨v0, v1, v2, v3, v4, rfl, A0, A1, A2, A3, A4⟩ := hA.c5
     have HA0 : Hid (At false w v0 (.l 82 3 n0 (markL tx cs0 (q)))) := A0
     obtain rfl := A1.int
     obtain rfl := A2.bool
     have HA3 : Hid (At false w v3 (.l 115 2 n3 (markL tx cs3 (q1 + 1 + 1)))) := A3
     have HA4 : Hid (At false w v4 (.l 117 4 n4 (markL tx cs4 (q2)))) := A4
     have e0 : wr.cell? ⟨p1, o1 + j * 5, none⟩ = some (v0) := ce 0 (by omega)
     have e1 : wr.cell? ⟨p1, o1 + j * 5 + 1, none⟩ = some (.int .i64 (q1)) := ce 1 (by omega)
     have e2 : wr.cell? ⟨p1, o1 + j * 5 + 2, none⟩ = some (.bool ((q1 + 1) % 3 == 0)) := ce 2 (by omega)
     have e3 : wr.cell? ⟨p1, o1 + j * 5 + 3, none⟩ = some (v3) := ce 3 (by omega)
     have e4 : wr.cell? ⟨p1, o1 + j * 5 + 4, none⟩ = some (v4) := ce 4 (by omega)
     have pq : p1 < wr.heap.size := World.block_lt_of_cell? wr _ e0
     clear ce hA hH hb T0 A0 T3 A3 T4 A4
     go_wp2_with fail
     refine (dHeldOpS tx v0 n0 cs0 _ _ (HA0.out.on HB.out (Nat.le_refl _)) HT0.out (by omega) (by omega)).mono ?_
     rintro e w1 ⟨rfl, hb⟩
     rw [HQ1.out]
     have HB1 : Hid (Below w.heap.size w w1) := HB.out.trans (hb.mono HB.out.size)
     have e0' : w1.cell? ⟨p1, o1 + j * 5, none⟩ = some (v0) := (hb.cell (show p1 < _ from pq)).trans e0
     have e1' : w1.cell? ⟨p1, o1 + j * 5 + 1, none⟩ = some (.int .i64 (q1)) := (hb.cell (show p1 < _ from pq)).trans e1
     have e2' : w1.cell? ⟨p1, o1 + j * 5 + 2, none⟩ = some (.bool ((q1 + 1) % 3 == 0)) := (hb.cell (show p1 < _ from pq)).trans e2
     have e3' : w1.cell? ⟨p1, o1 + j * 5 + 3, none⟩ = some (v3) := (hb.cell (show p1 < _ from pq)).trans e3
     have e4' : w1.cell? ⟨p1, o1 + j * 5 + 4, none⟩ = some (v4) := (hb.cell (show p1 < _ from pq)).trans e4
     have pq' : p1 < w1.heap.size := World.block_lt_of_cell? w1 _ e0'
     clear pq hb e0 e1 e2 e3 e4
     have pq := pq'
     have e0 := e0'
     have e1 := e1'
     have e2 := e2'
     have e3 := e3'
     have e4 := e4'
     clear pq' e0' e1' e2' e3' e4'
     go_wp2_with fail
     refine (dHeldPairS tx v3 n3 cs3 _ _ (HA3.out.on HB1.out (Nat.le_refl _)) HT3.out (by omega) (by omega)).mono ?_
     rintro e w2 ⟨rfl, hb⟩
     rw [HQ2.out]
     have HB2 : Hid (Below w.heap.size w w2) := HB1.out.trans (hb.mono HB1.out.size)
     have e0' : w2.cell? ⟨p1, o1 + j * 5, none⟩ = some (v0) := (hb.cell (show p1 < _ from pq)).trans e0
     have e1' : w2.cell? ⟨p1, o1 + j * 5 + 1, none⟩ = some (.int .i64 (q1)) := (hb.cell (show p1 < _ from pq)).trans e1
     have e2' : w2.cell? ⟨p1, o1 + j * 5 + 2, none⟩ = some (.bool ((q1 + 1) % 3 == 0)) := (hb.cell (show p1 < _ from pq)).trans e2
     have e3' : w2.cell? ⟨p1, o1 + j * 5 + 3, none⟩ = some (v3) := (hb.cell (show p1 < _ from pq)).trans e3
     have e4' : w2.cell? ⟨p1, o1 + j * 5 + 4, none⟩ = some (v4) := (hb.cell (show p1 < _ from pq)).trans e4
     have pq' : p1 < w2.heap.size := World.block_lt_of_cell? w2 _ e0'
     clear pq hb e0 e1 e2 e3 e4
     have pq := pq'
     have e0 := e0'
     have e1 := e1'
     have e2 := e2'
     have e3 := e3'
     have e4 := e4'
     clear pq' e0' e1' e2' e3' e4'
     go_wp2_with fail
     refine (dHeldHelpS tx v4 n4 cs4 _ _ (HA4.out.on HB2.out (Nat.le_refl _)) HT4.out (by omega) (by omega)).mono ?_
     rintro e w3 ⟨rfl, hb⟩
     rw [HQ3.out]
     have HB3 : Hid (Below w.heap.size w w3) := HB2.out.trans (hb.mono HB2.out.size)
     have e0' : w3.cell? ⟨p1, o1 + j * 5, none⟩ = some (v0) := (hb.cell (show p1 < _ from pq)).trans e0
     have e1' : w3.cell? ⟨p1, o1 + j * 5 + 1, none⟩ = some (.int .i64 (q1)) := (hb.cell (show p1 < _ from pq)).trans e1
     have e2' : w3.cell? ⟨p1, o1 + j * 5 + 2, none⟩ = some (.bool ((q1 + 1) % 3 == 0)) := (hb.cell (show p1 < _ from pq)).trans e2
     have e3' : w3.cell? ⟨p1, o1 + j * 5 + 3, none⟩ = some (v3) := (hb.cell (show p1 < _ from pq)).trans e3
     have e4' : w3.cell? ⟨p1, o1 + j * 5 + 4, none⟩ = some (v4) := (hb.cell (show p1 < _ from pq)).trans e4
     have pq' : p1 < w3.heap.size := World.block_lt_of_cell? w3 _ e0'
     clear pq hb e0 e1 e2 e3 e4
     have pq := pq'
     have e0 := e0'
     have e1 := e1'
     have e2 := e2'
     have e3 := e3'
     have e4 := e4'
     clear pq' e0' e1' e2' e3' e4'
     go_wp2
     exact ⟨⟨j + 1, by omega, by
       have h5 := HQ.out
       have h61 := HQ1.out
       have h62 := HQ2.out
       have h63 := HQ3.out
       rw [CS.out, HRS.out]
       simp only [cntL, Cel.cnt]
       congr 1; push_cast; omega, by go_num, HB3.out⟩, by simp [intOf]; omega⟩
   · obtain rfl : j = n := by omega
     have HE : Hid (cs.take (j * 5) = cs) := List.take_of_length_le (by have := L2.out; omega)
     go_wp2
     go_ret
     exact ⟨by rw [HE.out]; rfl, hb⟩
end
end Go.Proofs.YtcfimaffeopbbaaGreatDoor
