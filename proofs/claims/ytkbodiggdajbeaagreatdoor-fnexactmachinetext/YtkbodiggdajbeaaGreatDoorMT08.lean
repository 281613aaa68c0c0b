/- Texts joined: ImplMt, WfD, MachT, Laid, DatT. -/
import Derived.Test.YtkbodiggdajbeaaGreatDoorMT06
import Derived.Test.YtkbodiggdajbeaaGreatDoorMT07
import Derived.Test.YtkbodiggdajbeaaGreatDoorMT02
import Derived.Laws.AppendOwn
import Derived.Deep.Cut
import Derived.Test.YtkbodiggdajbeaaGreatDoorMT01
import Derived.Test.YtkbodiggdajbeaaGreatDoorRows
import Derived.Test.YtkbodiggdajbeaaGreatDoorMT04
import Derived.ChangeVars
import Derived.ChangeReads
import Derived.Lib.LaidTab
import Derived.Lib.LaidU8
import Derived.LaidMore
import Derived.MakeChecks
import Derived.Test.YtkbodiggdajbeaaGreatDoorMT05
import Derived.Deep.RegionHeld3
import Derived.Handy
/- The program's MachineText, walked: a list of lines that grows, and shown. -/
namespace Go.Proofs.YtkbodiggdajbeaaGreatDoor
open Go.ChangeShapes Go.WideShapes Go.ChangeAt Go.RowKit
open Go.Lib (itoa itoa_length_le)

theorem infoPart : (Tryz.prog.info? 112).map (fun i => (i.zero, i.size, i.bytes)) = some (some .nilIface, 1, 16) := by kernel_rfl
/-- The lines of a machine. -/
def linesP (f : Nat → CaD) (rs : Nat → List Int) (s0 : ByteArray) : Nat → List Pt
  | 0 => [.ln s0]
  | n + 1 => linesP f rs s0 n ++ [.ln ⟨(callB (f n) (rs n)).toArray⟩]
theorem linesP_len (f : Nat → CaD) (rs : Nat → List Int) (s0 : ByteArray) : ∀ n, (linesP f rs s0 n).length = n + 1
  | 0 => rfl
  | n + 1 => by rw [linesP, List.length_append, linesP_len f rs s0 n]; rfl
theorem linesP_ok (f : Nat → CaD) (rs : Nat → List Int) (s0 : ByteArray) : ∀ n, ∀ x ∈ linesP f rs s0 n, PtOk x
  | 0 => fun x hx => by simp [linesP] at hx; subst hx; trivial
  | n + 1 => fun x hx => by
    rw [linesP] at hx
    rcases List.mem_append.1 hx with h | h
    · exact linesP_ok f rs s0 n x h
    · simp at h; subst h; trivial
theorem linesP_shown (f : Nat → CaD) (rs : Nat → List Int) (s0 : ByteArray) : ∀ n, shownB (linesP f rs s0 n) = s0.data.toList ++ 10 :: callsB f rs n
  | 0 => by simp [linesP, shownB, ptB, callsB]
  | n + 1 => by
    rw [linesP, callsB]
    have h := linesP_shown f rs s0 n
    unfold shownB at h ⊢
    rw [List.flatMap_append, h]
    simp [ptB]
theorem own_single {w : World} {base : Nat} {T : TypeId} {x : Value} (hb : base ≤ w.heap.size) : (w.alloc (.cells #[x] T)).ownsRow base T 1 (.slice (some ⟨w.heap.size, 0, none⟩) 1 1) 1 [x] :=
  ⟨rfl, .inr ⟨w.heap.size, 1, #[x], rfl, hb, (by show (w.heap.push _)[w.heap.size]? = _; simp), Nat.le_refl _, by unfold maxLen; omega, rfl, rfl⟩⟩
theorem one_newM (w : World) (x : Value) (T : TypeId) : ∀ (j : Nat) (u : Value), [x][j]? = some u → (w.alloc (.cells #[x] T)).cell? ((⟨w.heap.size, 0, none⟩ : Addr).add j) = some u := by
  intro j u hj
  match j, hj with
  | 0, hj =>
    simp at hj
    subst hj
    exact (box_of w #[x] T).cell 0
  | j + 1, hj => simp at hj
/-- The tables that a machine is written by. -/
def TabsM (w : World) : Prop := Names w ∧ Tabs15 w
theorem TabsM.below {w w' : World} {B : Nat} (h : TabsM w) (hb : Below B w w') (hB : w.heap.size ≤ B) : TabsM w' := ⟨h.1.below hb (Nat.lt_of_lt_of_le h.1.lt hB), h.2.below hb hB⟩
set_option maxHeartbeats 16000000 in
set_option maxRecDepth 100000 in
theorem implMachineText_any (wa : Option Addr) (wc : Nat) (da : Option Addr) (dc : Nat) (ta : Option Addr) (tc : Nat) (ca : Option Addr) (cc : Nat) (oa : Option Addr) (oc : Nat) (ha : Option Addr) (hc : Nat) (M : MaD) (rs : Nat → List Int) (w : World) (h : MaAt w wa da ta ca oa ha M) (hr : CasR w ca M.nc M.f rs)
    (hw : RowsWf (wordsMt M)) (hf : CallsWf M.nc M.f rs) (hT : TabsM w) (hcn : M.nc ≤ 1048576) :
    Calls Tryz.prog 7 #[MaV wa wc da dc ta tc ca cc oa oc ha hc M] w fun e w' => TextSays e (machB M rs) ∧ Below w.heap.size w w' := by
  have HCR : Hid (CasR w ca M.nc M.f rs) := hr
  have HWD : Hid (TripAt w wa M.nw M.ws ∧ DescAt w da M.nd M.ds) := ⟨h.words, h.descs⟩
  have HT : Hid (TabsM w) := hT
  obtain ⟨WS, hWS⟩ : ∃ WS, wordsMt M = WS := ⟨_, rfl⟩
  have HWS : Hid (meanM M.ws M.nw M.ds = WS) := hWS
  have HMB : Hid (machB M rs = rowsB (inX WS) (inS WS) ++ 10 :: callsB M.f rs M.nc) := by show _ = _; unfold machB; rw [hWS]
  have HRW : Hid (RowsWf WS) := by rw [← hWS]; exact hw
  have HF : Hid (CallsWf M.nc M.f rs) := hf
  have HNW : Hid (M.nw ≤ 1099511627776) := by have := h.words.2.1; show _ ≤ _; omega
  obtain ⟨TX, hTX⟩ : ∃ TX, machB M rs = TX := ⟨_, rfl⟩
  rw [hTX] at HMB ⊢
  clear hTX hWS hw hf h hr hT
  obtain ⟨nw, ws, nd, ds, nt, ts, tm, nc, f, no, os, nh, hs, st⟩ := M
  dsimp only at HCR HWD HWS HMB HF HNW hcn
  show Calls Tryz.prog 7 #[.agg #[.slice wa nw wc, .slice da nd dc, .slice ta nt tc, .int .i64 tm, .slice ca nc cc, .slice oa no oc, .slice ha nh hc, .int .i64 st]] w fun e w' => TextSays e TX ∧ Below w.heap.size w w'
  obtain ⟨sz, hsz⟩ : ∃ sz, w.heap.size = sz := ⟨_, rfl⟩
  obtain ⟨W, hW⟩ : ∃ W, w.alloc (.cells #[.slice wa nw wc, .slice da nd dc, .slice ta nt tc, .int .i64 tm, .slice ca nc cc, .slice oa no oc, .slice ha nh hc, .int .i64 st] 43) = W := ⟨_, rfl⟩
  have BM : Hid (Box W sz #[.slice wa nw wc, .slice da nd dc, .slice ta nt tc, .int .i64 tm, .slice ca nc cc, .slice oa no oc, .slice ha nh hc, .int .i64 st] 43) := by rw [← hW, ← hsz]; exact box_of w _ _
  have HB0 : Hid (Below sz w W) := by rw [← hW, ← hsz]; exact (Below.refl _ w).alloc (Nat.le_refl _) _
  have HW : Hid (w.alloc (.cells #[.slice wa nw wc, .slice da nd dc, .slice ta nt tc, .int .i64 tm, .slice ca nc cc, .slice oa no oc, .slice ha nh hc, .int .i64 st] 43) = W) := hW
  have HSZ : Hid (w.heap.size = sz) := hsz
  have HLE : Hid (w.heap.size ≤ sz) := by show _ ≤ _; omega
  rw [show (fun e w' => TextSays e TX ∧ Below w.heap.size w w') = (fun e w' => TextSays e TX ∧ Below sz w w') by rw [hsz]]
  clear hW hsz
  obtain ⟨i0, hi, hz0, hz1, hz2⟩ := info_parts infoPart
  obtain ⟨z0, z1, z2, z3, z4, z5, z6, z7⟩ := eight_of BM.out
  go_enter Tryz.func7, Tryz.ntmps7
  go_upto_region 1 with (fail)
  rw [HW.out]
  (try rw [HSZ.out])
  go_wp2_with fail
  refine (implMeaning_any wa nw wc ws da nd dc ds W (HWD.out.1.below HB0.out HLE.out) (HWD.out.2.below HB0.out HLE.out)).mono ?_
  rintro e w1 ⟨rfl, ho1, hb1⟩
  have hI1 : IntAt w1 (some ⟨W.heap.size, 0, none⟩) nw WS := by
    rw [HWS.out] at ho1
    obtain ⟨a', c', e1, h1⟩ := own_at ho1 HNW.out
    cases e1
    exact h1
  have HB1 : Hid (Below sz w w1) := HB0.out.trans (hb1.mono (by have := BM.out.lt; omega))
  have BM1 : Hid (Box w1 sz #[.slice wa nw wc, .slice da nd dc, .slice ta nt tc, .int .i64 tm, .slice ca nc cc, .slice oa no oc, .slice ha nh hc, .int .i64 st] 43) := BM.out.below hb1 BM.out.lt
  clear ho1 hb1 z0 z1 z2 z3 z4 z5 z6 z7
  go_wp2_with fail
  refine (implRowsIn_any (some ⟨W.heap.size, 0, none⟩) nw nw WS w1 hI1 (Nat.le_refl _) (HT.out.below HB1.out HLE.out).1).mono ?_
  rintro e w2 ⟨hsay, hb2⟩
  obtain ⟨a2, c2, rfl, hc2, hI2⟩ := hsay.at
  have HB2 : Hid (Below sz w w2) := HB1.out.trans (hb2.mono (by have := BM1.out.lt; omega))
  have BM2 : Hid (Box w2 sz #[.slice wa nw wc, .slice da nd dc, .slice ta nt tc, .int .i64 tm, .slice ca nc cc, .slice oa no oc, .slice ha nh hc, .int .i64 st] 43) := BM1.out.below hb2 BM1.out.lt
  clear hb2 hsay hI1
  -- the box of the rows
  obtain ⟨rb, hrb⟩ : ∃ rb, w2.heap.size = rb := ⟨_, rfl⟩
  obtain ⟨W2, hW2⟩ : ∃ W2, w2.alloc (.cells #[.slice a2 (inX WS).length c2, .int .i64 (inS WS)] 41) = W2 := ⟨_, rfl⟩
  have hb22 : Below w2.heap.size w2 W2 := by rw [← hW2]; exact (Below.refl _ _).alloc (Nat.le_refl _) _
  have BR : Hid (Box W2 rb #[.slice a2 (inX WS).length c2, .int .i64 (inS WS)] 41) := by rw [← hW2, ← hrb]; exact box_of w2 _ _
  have HB22 : Hid (Below sz w W2) := HB2.out.trans (hb22.mono (by have := BM2.out.lt; omega))
  have BM22 : Hid (Box W2 sz #[.slice wa nw wc, .slice da nd dc, .slice ta nt tc, .int .i64 tm, .slice ca nc cc, .slice oa no oc, .slice ha nh hc, .int .i64 st] 43) := BM2.out.below hb22 BM2.out.lt
  have HI2 : Hid (IntAt W2 a2 (inX WS).length (inX WS)) := hI2.below hb22 (Nat.le_refl _)
  have HW2 : Hid (w2.alloc (.cells #[.slice a2 (inX WS).length c2, .int .i64 (inS WS)] 41) = W2) := hW2
  have HRB : Hid (w2.heap.size = rb) := hrb
  clear hb22 hW2 hrb hI2
  go_upto_region 2 with (fail)
  rw [HW2.out]
  (try rw [HRB.out])
  clear HW2
  obtain ⟨r0, r1, _, _⟩ := BR.out.two
  go_wp2_with fail
  refine (implRowsText_any a2 (inX WS).length c2 (inS WS) (inX WS) W2 HI2.out HRW.out.1 HRW.out.2 (by have := inX_le WS; omega) (HT.out.below HB22.out HLE.out).2.2.2).mono ?_
  rintro e w3 ⟨⟨s3, rfl, hs3⟩, hb3⟩
  have HS3 : Hid (s3.data.toList = rowsB (inX WS) (inS WS)) := hs3
  have HB3 : Hid (Below sz w w3) := HB22.out.trans (hb3.mono (by have := BM22.out.lt; omega))
  have BM3 : Hid (Box w3 sz #[.slice wa nw wc, .slice da nd dc, .slice ta nt tc, .int .i64 tm, .slice ca nc cc, .slice oa no oc, .slice ha nh hc, .int .i64 st] 43) := BM22.out.below hb3 BM22.out.lt
  clear hb3 hs3 HI2 r0 r1
  -- the list of lines, of one
  obtain ⟨g4, hg4⟩ : ∃ g4, w3.heap.size = g4 := ⟨_, rfl⟩
  obtain ⟨W4, hW4⟩ : ∃ W4, w3.alloc (.cells #[ptV (.ln s3)] 112) = W4 := ⟨_, rfl⟩
  have hb4 : Below w3.heap.size w3 W4 := by rw [← hW4]; exact (Below.refl _ _).alloc (Nat.le_refl _) _
  have hs34 : sz < w3.heap.size := BM3.out.lt
  have HO4 : Hid (W4.ownsRow (sz + 1) 112 1 (.slice (some ⟨g4, 0, none⟩) 1 1) (0 + 1) ((linesP f rs s3 0).map ptV)) := by rw [← hW4, ← hg4]; exact own_single (by omega)
  have HB4 : Hid (Below sz w W4) := HB3.out.trans (hb4.mono (by omega))
  have BM4 : Hid (Box W4 sz #[.slice wa nw wc, .slice da nd dc, .slice ta nt tc, .int .i64 tm, .slice ca nc cc, .slice oa no oc, .slice ha nh hc, .int .i64 st] 43) := BM3.out.below hb4 BM3.out.lt
  have HW4 : Hid (w3.alloc (.cells #[.iface 67 (.string s3)] 112) = W4) := hW4
  have HG4 : Hid (w3.heap.size = g4) := hg4
  clear hb4 hW4 hg4 hs34
  go_upto_region 3 with (fail)
  rw [HW4.out]
  (try rw [HG4.out])
  clear HW4 HG4
  obtain ⟨z0, z1, z2, z3, z4, z5, z6, z7⟩ := eight_of BM4.out
  go_wp2
  go_loopw [4, 22] (fun v i wr => ∃ j : Nat, j ≤ nc ∧ i = .int .i64 (j : Int) ∧ wr.ownsRow (sz + 1) 112 1 v (j + 1) ((linesP f rs s3 j).map ptV) ∧ Below sz w wr ∧ Box wr sz #[.slice wa nw wc, .slice da nd dc, .slice ta nt tc, .int .i64 tm, .slice ca nc cc, .slice oa no oc, .slice ha nh hc, .int .i64 st] 43) (fun _ i _ => nc - (intOf i).toNat)
  case atStart => exact ⟨0, Nat.zero_le _, rfl, HO4.out, HB4.out, BM4.out⟩
  case round =>
    obtain ⟨j, hj, rfl, ho, hb, hbx⟩ := hrel
    have HO : Hid (wr.ownsRow (sz + 1) 112 1 u4 (j + 1) ((linesP f rs s3 j).map ptV)) := ho
    have HB : Hid (Below sz w wr) := hb
    have BMR : Hid (Box wr sz _ _) := hbx
    have hszr : sz < wr.heap.size := hbx.lt
    clear ho hb hbx z0 z1 z2 z3 z4 z5 z6 z7
    by_cases hlt : j < nc
    · rcases HCR.out.below HB.out HLE.out with h0 | ⟨p1, o1, rfl, g2⟩
      · omega
      obtain ⟨ra, rn, rc, ⟨e0, e1, e2, e3, e4, e5, e6, e7, e8⟩, hres⟩ := g2 j hlt
      obtain ⟨L, hL⟩ : ∃ L, rs j = L := ⟨_, rfl⟩
      obtain ⟨C, hC⟩ : ∃ C, f j = C := ⟨_, rfl⟩
      obtain ⟨hw1, hw2, hw3⟩ := HF.out j hlt
      have HNX : Hid (linesP f rs s3 (j + 1) = linesP f rs s3 j ++ [.ln ⟨(callB C L).toArray⟩]) := by show _ = _; rw [linesP, hC, hL]
      rw [hL] at hres hw2 hw3
      rw [hC] at e0 e1 e2 e3 e4 e5 e6 e7 hw1
      have HW1 : Hid (I64 C.t) := hw1
      have HW2 : Hid (In64s L) := hw2
      have hrn : rn ≤ 1048576 := by have := hres.1; omega
      obtain ⟨x0, x1, x2, x3, x4, x5, x6, x7⟩ := C
      dsimp only at e0 e1 e2 e3 e4 e5 e6 e7
      obtain ⟨q5, hq5⟩ : ∃ q5, wr.heap.size = q5 := ⟨_, rfl⟩
      obtain ⟨W5, hW5⟩ : ∃ W5, wr.alloc (.cells #[.int .i64 x0, .int .i64 x1, .int .i64 x2, .int .i64 x3, .int .i64 x4, .int .i64 x5, .int .i64 x6, .int .i64 x7, .slice ra rn rc] 61) = W5 := ⟨_, rfl⟩
      have hb5 : Below wr.heap.size wr W5 := by rw [← hW5]; exact (Below.refl _ _).alloc (Nat.le_refl _) _
      have BC5 : Hid (Box W5 q5 #[.int .i64 x0, .int .i64 x1, .int .i64 x2, .int .i64 x3, .int .i64 x4, .int .i64 x5, .int .i64 x6, .int .i64 x7, .slice ra rn rc] 61) := by rw [← hW5, ← hq5]; exact box_of wr _ _
      have HRES : Hid (IntAt W5 ra rn L) := hres.below hb5 (Nat.le_refl _)
      have HB5 : Hid (Below sz w W5) := HB.out.trans (hb5.mono (by omega))
      have HO5 : Hid (W5.ownsRow (sz + 1) 112 1 u4 (j + 1) ((linesP f rs s3 j).map ptV)) := owns_below HO.out hb5 (Nat.le_refl _)
      have BM5 : Hid (Box W5 sz _ _) := BMR.out.below hb5 BMR.out.lt
      have HW5 : Hid (wr.alloc (.cells #[.int .i64 x0, .int .i64 x1, .int .i64 x2, .int .i64 x3, .int .i64 x4, .int .i64 x5, .int .i64 x6, .int .i64 x7, .slice ra rn rc] 61) = W5) := hW5
      have HQ5 : Hid (wr.heap.size = q5) := hq5
      clear g2 hC hL hw1 hw2 hw3 hres hb5 hW5 hq5 HO
      go_upto_region 6 with (fail)
      rw [HW5.out]
      (try rw [HQ5.out])
      clear HW5 e0 e1 e2 e3 e4 e5 e6 e7 e8
      obtain ⟨c0, c1, c2, c3, c4, c5, c6, c7, c8⟩ := nine_of BC5.out
      go_wp2_with fail
      refine (implCallText_any ⟨x0, x1, x2, x3, x4, x5, x6, x7⟩ ra rn rc L W5 HRES.out HW2.out HW1.out hrn (HT.out.below HB5.out HLE.out).2).mono ?_
      rintro e w6 ⟨⟨s6, rfl, hs6⟩, hb6⟩
      have HPV : Hid (Value.iface 67 (.string s6) = ptV (.ln ⟨(callB ⟨x0, x1, x2, x3, x4, x5, x6, x7⟩ L).toArray⟩)) := by
        have h1 : s6 = ⟨(callB ⟨x0, x1, x2, x3, x4, x5, x6, x7⟩ L).toArray⟩ := str_eq hs6
        rw [h1]
        rfl
      have hlq : sz < W5.heap.size := BM5.out.lt
      have HB6 : Hid (Below sz w w6) := HB5.out.trans (hb6.mono (by omega))
      have HO6 : Hid (w6.ownsRow (sz + 1) 112 1 u4 (j + 1) ((linesP f rs s3 j).map ptV)) := owns_below HO5.out hb6 (Nat.le_refl _)
      have BM6 : Hid (Box w6 sz _ _) := BM5.out.below hb6 BM5.out.lt
      have hs6z : sz < w6.heap.size := BM6.out.lt
      clear hs6 hb6 c0 c1 c2 c3 c4 c5 c6 c7 c8 hlq HO5
      go_wp2_with (at_builtin; go_loud (refine wpList_append_own _ rfl _ _ 68 rfl (sz + 1) 112 i0 .nilIface 1 16 Tryz.underlying68 hi hz0 hz1 hz2 rfl (by decide) _ _ _ rfl (HO6.out.alloc _) ⟨w6.heap.size, 0, none⟩ 1 1 [.iface 67 (.string s6)] rfl rfl (one_newM _ _ _) (by intro u hu; simp at hu; subst hu; rfl) (by unfold maxLen; omega) (by omega) (by simp; omega) ?_))
      · intro v7 w7 hown7 hgrow _
        have hlow := HO6.out
        have HB7 : Hid (Below sz w w7) := by
          refine (HB6.out.alloc (by omega) _).grown hgrow (by simp; omega) fun k e => ?_
          have := (hlow.lt _ e).1
          omega
        have BM7 : Hid (Box w7 sz #[.slice wa nw wc, .slice da nd dc, .slice ta nt tc, .int .i64 tm, .slice (some ⟨p1, o1, none⟩) nc cc, .slice oa no oc, .slice ha nh hc, .int .i64 st] 43) := by
          have h1 := (BM6.out.alloc (.cells #[.iface 67 (.string s6)] 112))
          have hne : u4.ownBlock ≠ some sz := fun e => by have := (hlow.lt _ e).1; omega
          exact (hgrow.block sz (by simp; omega) (fun e => hne e.symm)).trans h1
        have HO7 : Hid (w7.ownsRow (sz + 1) 112 1 v7 (j + 1 + 1) ((linesP f rs s3 (j + 1)).map ptV)) := by
          rw [HNX.out, List.map_append]
          rw [HPV.out] at hown7
          exact hown7
        clear hown7 hgrow hlow
        go_wp2
        exact ⟨⟨j + 1, by omega, by go_num, HO7.out, HB7.out, BM7.out⟩, by simp [intOf]; omega⟩
    · obtain rfl : j = nc := by omega
      obtain ⟨av, cv, rfl, _, hpts⟩ := own_pts HO.out (linesP_len f rs s3 j)
      have HPT : Hid (PtsAt wr av (j + 1) (linesP f rs s3 j)) := hpts
      clear hpts
      have HLN : Hid ((shownB (linesP f rs s3 j)).length ≤ 70368744177664) := by
        have h1 := rowsB_le HRW.out.1 HRW.out.2
        have h2 := inX_le WS
        have h3 := callsB_le HF.out
        show _ ≤ _
        rw [linesP_shown, HS3.out, List.length_append, List.length_cons]
        have h4 : j * 23068722 ≤ 1048576 * 23068722 := Nat.mul_le_mul_right _ hcn
        omega
      go_wp2_with fail
      refine (implShown_any av (j + 1) cv (linesP f rs s3 j) wr HPT.out (linesP_ok f rs s3 j) (by omega) HLN.out (HT.out.below HB.out HLE.out).2.2.2).mono ?_
      rintro e w9 ⟨⟨s9, rfl, hs9⟩, hb9⟩
      have HS9 : Hid (s9.data.toList = shownB (linesP f rs s3 j)) := hs9
      have HB9 : Hid (Below sz w w9) := HB.out.trans (hb9.mono (by omega))
      clear hs9 hb9
      go_wp2
      go_ret
      refine ⟨⟨s9, rfl, ?_⟩, HB9.out⟩
      rw [HS9.out, linesP_shown, HS3.out, HMB.out]
end Go.Proofs.YtkbodiggdajbeaaGreatDoor

/- Data that are well formed: their numbers lie in 64 bits; how long their lists are. No program. -/
namespace Go.Proofs.YtkbodiggdajbeaaGreatDoor
open Go.ChangeShapes Go.WideShapes Go.ChangeAt Go.RowKit Go.Joins

theorem i64_zero : I64 0 := ⟨by decide, by decide⟩
theorem i64_num {c : Cel} (h : WfC c) : I64 (numC c) := by
  cases h with
  | i x h => exact bounds_i64 h
  | b x => exact i64_zero
  | s x => exact i64_zero
  | l T k n cs h => exact i64_zero
theorem i64_nums {cs : List Cel} (h : WfL cs) : In64s (nums cs) := by
  intro x hx
  unfold nums at hx
  obtain ⟨c, hc, rfl⟩ := List.mem_map.1 hx
  obtain ⟨j, hj, rfl⟩ := List.getElem_of_mem hc
  exact i64_num (h j _ (List.getElem?_eq_getElem hj))
theorem wf_list {c : Cel} (h : WfC c) : WfL (listC c) := by
  cases h with
  | i x h => exact .nil
  | b x => exact .nil
  | s x => exact .nil
  | l T k n cs h => exact h
theorem wf_nth {cs : List Cel} (h : WfL cs) (i : Nat) : WfC (nthC cs i) := by
  unfold nthC
  rcases Nat.lt_or_ge i cs.length with hi | hi
  · rw [List.getD_eq_getElem?_getD, List.getElem?_eq_getElem hi, Option.getD_some]
    exact h i _ (List.getElem?_eq_getElem hi)
  · rw [List.getD_eq_getElem?_getD, List.getElem?_eq_none hi, Option.getD_none]
    exact .i 0 (by decide)
theorem wf_row {cs : List Cel} (h : WfL cs) (k i : Nat) : WfL (row cs k i) := by
  intro j c hc
  have hj : j < k := by
    rcases Nat.lt_or_ge j k with h1 | h1
    · exact h1
    · unfold row at hc
      rw [List.getElem?_take, if_neg (by omega)] at hc
      cases hc
  rw [row_at hj] at hc
  exact h _ _ hc
theorem big_nth (cs : List Cel) (i : Nat) : (nthC cs i).big ≤ bigL cs := by
  unfold nthC
  rcases Nat.lt_or_ge i cs.length with hi | hi
  · rw [List.getD_eq_getElem?_getD, List.getElem?_eq_getElem hi, Option.getD_some]
    exact big_mem (List.getElem?_eq_getElem hi)
  · rw [List.getD_eq_getElem?_getD, List.getElem?_eq_none hi, Option.getD_none]
    simp [Cel.big]
theorem big_list (c : Cel) : bigL (listC c) ≤ c.big := by
  cases c <;> simp [listC, Cel.big, bigL]
theorem big_row (cs : List Cel) (k i : Nat) : bigL (row cs k i) ≤ bigL cs := by
  have h1 : bigL cs = bigL (cs.take (i * k)) + bigL (cs.drop (i * k)) := by rw [← bigL_append, List.take_append_drop]
  have h2 : bigL (cs.drop (i * k)) = bigL ((cs.drop (i * k)).take k) + bigL ((cs.drop (i * k)).drop k) := by rw [← bigL_append, List.take_append_drop]
  unfold row
  omega
theorem len_big (c : Cel) : lenC c ≤ c.big := by
  cases c <;> simp [lenC, Cel.big]
end Go.Proofs.YtkbodiggdajbeaaGreatDoor

/- A machine's data that are well formed can be written. No program. -/
namespace Go.Proofs.YtkbodiggdajbeaaGreatDoor
open Go.ChangeShapes Go.WideShapes Go.ChangeAt Go.RowKit Go.Joins

theorem i64_getD {xs : List Int} (h : In64s xs) (i : Nat) : I64 (xs.getD i 0) := by
  rcases Nat.lt_or_ge i xs.length with hi | hi
  · rw [List.getD_eq_getElem?_getD, List.getElem?_eq_getElem hi, Option.getD_some]
    exact h _ (List.getElem_mem hi)
  · rw [List.getD_eq_getElem?_getD, List.getElem?_eq_none hi, Option.getD_none]
    exact i64_zero
theorem dk_i64 {ds : List DK} (h : ∀ d ∈ ds, In64s d.es) (i : Nat) : In64s (dk ds i).es := by
  unfold dk
  rcases Nat.lt_or_ge i ds.length with hi | hi
  · rw [List.getD_eq_getElem?_getD, List.getElem?_eq_getElem hi, Option.getD_some]
    exact h _ (List.getElem_mem hi)
  · rw [List.getD_eq_getElem?_getD, List.getElem?_eq_none hi, Option.getD_none]
    intro x hx
    cases hx
theorem entM_i64 {es : List Int} (h : In64s es) (n : Nat) (a : Int) : I64 (entM es n a).2.1 ∧ I64 (entM es n a).2.2.1 := by
  unfold entM
  split
  · exact ⟨i64_getD h _, i64_getD h _⟩
  · exact ⟨i64_zero, i64_zero⟩
theorem valM_i64 {fs : List Int} {m : Nat} {ds : List DK} (h1 : In64s fs) (h2 : ∀ d ∈ ds, In64s d.es) (a : Int) : I64 (valM fs m ds a) := by
  unfold valM wordM
  split
  · split
    · exact i64_getD h1 _
    · split
      · split
        · exact (entM_i64 (dk_i64 h2 _) _ _).2
        · exact (entM_i64 (dk_i64 h2 _) _ _).1
      · exact i64_zero
  · exact i64_zero
theorem meanM_i64 {fs : List Int} {m : Nat} {ds : List DK} (h1 : In64s fs) (h2 : ∀ d ∈ ds, In64s d.es) : In64s (meanM fs m ds) := by
  intro x hx
  unfold meanM at hx
  obtain ⟨i, _, rfl⟩ := List.mem_map.1 hx
  exact valM_i64 h1 h2 _
theorem rowsWf_of {cs : List Cel} (hw : WfL cs) : RowsWf (wordsMt (maD cs)) := by
  have h1 : In64s (maD cs).ws := i64_nums (wf_list (wf_nth hw 0))
  have h2 : ∀ d ∈ (maD cs).ds, In64s d.es := by
    intro d hd
    obtain ⟨i, _, rfl⟩ := List.mem_map.1 (show d ∈ (List.range (lenC (nthC cs 1))).map fun i => dkD (row (listC (nthC cs 1)) 5 i) from hd)
    exact i64_nums (wf_list (wf_nth (wf_row (wf_list (wf_nth hw 1)) 5 i) 2))
  have h3 : In64s (wordsMt (maD cs)) := meanM_i64 h1 h2
  constructor
  · unfold inX
    split
    · exact fun x hx => h3 x (List.mem_of_mem_take hx)
    · intro x hx
      cases hx
  · unfold inS
    split
    · exact i64_getD h3 _
    · exact i64_zero
theorem call_len {r : List Cel} (hs : HasL r tyCall) : (nums (listC (nthC r 8))).length = lenC (nthC r 8) := by
  obtain ⟨x0, r0, rfl, T0, hH0⟩ := hs.cons
  obtain ⟨x1, r1, rfl, T1, hH1⟩ := hH0.cons
  obtain ⟨x2, r2, rfl, T2, hH2⟩ := hH1.cons
  obtain ⟨x3, r3, rfl, T3, hH3⟩ := hH2.cons
  obtain ⟨x4, r4, rfl, T4, hH4⟩ := hH3.cons
  obtain ⟨x5, r5, rfl, T5, hH5⟩ := hH4.cons
  obtain ⟨x6, r6, rfl, T6, hH6⟩ := hH5.cons
  obtain ⟨x7, r7, rfl, T7, hH7⟩ := hH6.cons
  obtain ⟨x8, r8, rfl, T8, hH8⟩ := hH7.cons
  obtain ⟨n8, l8, rfl, e8⟩ := T8.list
  show (nums l8).length = n8
  unfold nums
  rw [List.length_map, e8]
  omega
theorem callsWf_of {cs : List Cel} (hs : HasL cs tyMachine) (hw : WfL cs) (hb : bigL cs ≤ 1048576) : CallsWf (maD cs).nc (maD cs).f (rsD cs) ∧ (maD cs).nc ≤ 1048576 := by
  have hb4 := big_nth cs 4
  have hw4 := wf_nth hw 4
  obtain ⟨x0, r0, rfl, T0, hH0⟩ := hs.cons
  obtain ⟨x1, r1, rfl, T1, hH1⟩ := hH0.cons
  obtain ⟨x2, r2, rfl, T2, hH2⟩ := hH1.cons
  obtain ⟨x3, r3, rfl, T3, hH3⟩ := hH2.cons
  obtain ⟨x4, r4, rfl, T4, hH4⟩ := hH3.cons
  obtain ⟨n4, l4, rfl, e4⟩ := T4.list
  have hb4 : (Cel.l 61 9 n4 l4).big ≤ 1048576 := Nat.le_trans hb4 hb
  have hl4 := len_big (Cel.l 61 9 n4 l4)
  have hll := big_list (Cel.l 61 9 n4 l4)
  refine ⟨fun i hi => ?_, by show n4 ≤ _; exact Nat.le_trans hl4 hb4⟩
  have hi : i < n4 := hi
  have hr : HasL (row l4 9 i) tyCall := T4.rowL hi
  have hwr : WfL (row l4 9 i) := wf_row (wf_list hw4) 9 i
  have hbr : bigL (row l4 9 i) ≤ 1048576 := Nat.le_trans (big_row l4 9 i) (Nat.le_trans hll hb4)
  refine ⟨i64_num (wf_nth hwr 0), i64_nums (wf_list (wf_nth hwr 8)), ?_⟩
  have h1 := call_len hr
  have h2 := len_big (nthC (row l4 9 i) 8)
  have h3 := big_nth (row l4 9 i) 8
  show (nums (listC (nthC (row l4 9 i) 8))).length ≤ _
  omega
end Go.Proofs.YtkbodiggdajbeaaGreatDoor

/- The table of names, from the row's condition to memory and back. -/
namespace Go.Proofs.YtkbodiggdajbeaaGreatDoor
open Go.ChangeShapes Go.WideShapes Go.ChangeAt Go.RowKit

def namesD {H : Type} : DataW H := .agg (nmL.map fun p => .agg [.lit (.int .i64 p.1), .lit (.int .i64 p.2)])

theorem reads_names {H : Type} (enc : TypeId × Value → H) (W : World) (base : Nat) (sp : Nat → Bool) (held : Bool) : DataW.trod enc Tryz.prog W base sp held 4 183 nmCells.toList = some (namesD, []) := by kernel_rfl

theorem cells_name : Tryz.prog.cellsOf 156 = 2 := by kernel_rfl
theorem cells_names : Tryz.prog.cellsOf 183 = 40 := by kernel_rfl

theorem nm_cells (i : Nat) (hi : i < 20) (r : Nat) (hr : r < 2) : nmCells.toList[i * 2 + r]? = [Value.int .i64 (nmA i), .int .i64 (nmB i)][r]? := by
  have h : i = 0 ∨ i = 1 ∨ i = 2 ∨ i = 3 ∨ i = 4 ∨ i = 5 ∨ i = 6 ∨ i = 7 ∨ i = 8 ∨ i = 9 ∨ i = 10 ∨ i = 11 ∨ i = 12 ∨ i = 13 ∨ i = 14 ∨ i = 15 ∨ i = 16 ∨ i = 17 ∨ i = 18 ∨ i = 19 := by omega
  have h2 : r = 0 ∨ r = 1 := by omega
  rcases h2 with rfl | rfl <;> rcases h with rfl | rfl | rfl | rfl | rfl | rfl | rfl | rfl | rfl | rfl | rfl | rfl | rfl | rfl | rfl | rfl | rfl | rfl | rfl | rfl <;> rfl
theorem nm_data {H : Type} (i : Nat) (hi : i < 20) : (nmL.map fun p => (DataW.agg [.lit (.int .i64 p.1), .lit (.int .i64 p.2)] : DataW H))[i]? = some (Lib.tabData .i64 [nmA i, nmB i]) := by
  have h : i = 0 ∨ i = 1 ∨ i = 2 ∨ i = 3 ∨ i = 4 ∨ i = 5 ∨ i = 6 ∨ i = 7 ∨ i = 8 ∨ i = 9 ∨ i = 10 ∨ i = 11 ∨ i = 12 ∨ i = 13 ∨ i = 14 ∨ i = 15 ∨ i = 16 ∨ i = 17 ∨ i = 18 ∨ i = 19 := by omega
  rcases h with rfl | rfl | rfl | rfl | rfl | rfl | rfl | rfl | rfl | rfl | rfl | rfl | rfl | rfl | rfl | rfl | rfl | rfl | rfl | rfl <;> rfl

theorem names_of_trod {H : Type} {enc : TypeId × Value → H} {w : World} {base : Nat} {sp : Nat → Bool} {held : Bool} {fuel : Nat} {cs : List Value} {p : List MemPlace}
    (h : DataW.trod enc Tryz.prog w base sp held fuel 183 cs = some (namesD, p)) : cs = nmCells.toList := by
  have hl : cs.length = 40 := by
    cases fuel with
    | zero => simp [DataW.trod] at h
    | succ fuel =>
      simp only [DataW.trod, Tryz.underlying183, cells_names, cells_name] at h
      split at h
      · rename_i hl
        omega
      · cases h
  have key : ∀ i, i < 20 → (cs.drop (i * 2)).take 2 = [Value.int .i64 (nmA i), .int .i64 (nmB i)] := by
    intro i hi
    obtain ⟨fuel', d, q, hd, ht⟩ := Lib.array_elem Tryz.underlying183 h i hi
    rw [nm_data i hi] at hd
    obtain rfl := Option.some.inj hd
    rw [cells_name] at ht
    exact Lib.cells_of_tab Tryz.underlying156 Tryz.underlying3 cells_int cells_name ht
  apply List.ext_getElem?
  intro j
  by_cases hj : j < 40
  · obtain ⟨i, r, rfl, hi, hr⟩ : ∃ i r, j = i * 2 + r ∧ i < 20 ∧ r < 2 := ⟨j / 2, j % 2, by omega, by omega, by omega⟩
    rw [nm_cells i hi r hr, ← key i hi]
    simp [hr]
  · rw [List.getElem?_eq_none (by omega), List.getElem?_eq_none (by rw [show nmCells.toList.length = 40 by decide +kernel]; omega)]

theorem names_of_laid_r {r : List (String × DataW Unit)} {W : World} (h : laidMet Tryz.prog (("loop.example/g00468/impl.wordNames", namesD) :: r) W) : Names W := by
  obtain ⟨ps, ⟨g', t', cs, fuel, p, q, hg', ht', hvar, hd, _, _⟩, _⟩ := h
  obtain rfl := Option.some.inj (gNames.symm.trans hg')
  obtain rfl := Option.some.inj (gNamesType.symm.trans ht')
  have hc := names_of_trod hd
  unfold Names
  rw [hvar]
  congr 1
  cases cs
  simp_all

theorem names_of_laid {W : World} (h : laidMet Tryz.prog [("loop.example/g00468/impl.wordNames", namesD)] W) : Names W := names_of_laid_r h

/-- What the table reads as, ahead of the call and behind it. -/
theorem vars_open {H : Type} {enc : TypeId × Value → H} {W : World} {sp : Nat → Bool} {gs : List (DataW H)} {q : List MemPlace} (hN : Names W)
    (hV : DataW.TrodVars enc Tryz.prog W sp ["loop.example/g00468/impl.wordNames"] gs q) : gs = [namesD] := by
  obtain ⟨g, t, cs, fuel, d, p', rfl, hg, ht, hvar, hd, rfl⟩ := trodVars_one hV
  obtain rfl := Option.some.inj (gNames.symm.trans hg)
  obtain rfl := Option.some.inj (gNamesType.symm.trans ht)
  obtain rfl : cs = nmCells := Option.some.inj (hvar.symm.trans hN)
  obtain ⟨rfl, rfl⟩ := DataW.Trod.unique (v := .agg nmCells) ⟨fuel, hd⟩ ⟨4, reads_names enc W _ _ _⟩
  rfl
theorem vars_shut {H : Type} {enc : TypeId × Value → H} {W : World} (sp : Nat → Bool) (hN : Names W) :
    DataW.TrodVars enc Tryz.prog W sp ["loop.example/g00468/impl.wordNames"] [namesD] (MemPlace.row ⟨1, 0, none⟩ nmCells.size ++ []) :=
  trodVars_mk1 gNames gNamesType hN (reads_names enc W _ _ _)
end Go.Proofs.YtkbodiggdajbeaaGreatDoor

/- The laws' own functions on data. -/
namespace Go.Proofs.YtkbodiggdajbeaaGreatDoor
open Go.ChangeShapes Go.WideShapes Go.ChangeAt Go.RowKit Go.Joins

theorem dInfoInt : (Tryz.prog.info? 3).map (fun i => (i.zero, i.size)) = some (some (.int .i64 0), 1) := by kernel_rfl
theorem dBytesInt : (Tryz.prog.info? 3).map (fun i => decide (i.bytes ≤ 1024)) = some true := by kernel_rfl
set_option maxHeartbeats 1000000 in
theorem dToIntS (v : Value) (n : Nat) (cs : List Cel) (w : World) (h : At false w v (.l 3 1 n cs)) (hs : Has (.l 3 1 n cs) (.l 3 1 [.i])) :
    Calls Tryz.prog 21 #[v] w (Ret w (.l 3 1 n cs)) := by
  obtain ⟨a, c, vs, rfl, h1, h2, hn, -, h3, h4⟩ := h.openL
  have SRC : Hid (n = 0 ∨ ∃ b o, a = some ⟨b, o, none⟩ ∧ ∀ j, j < n * 1 → w.cell? ⟨b, o + j, none⟩ = vs[j]?) := h3
  have HV : Hid (∀ j, j < n → AtL false w ((vs.drop (j * 1)).take 1) (row cs 1 j)) := fun j hj => rowVals h1 h2 h4 hj
  have HR : Hid (∀ j, j < n → HasL (row cs 1 j) [.i]) := fun j hj => hs.rowL hj
  have L2 : Hid (cs.length = n * 1) := h2
  have L1 : Hid (vs.length = n * 1) := h1
  obtain ⟨i0, hi, hz⟩ := Option.map_eq_some_iff.1 dInfoInt
  obtain ⟨i1, hi', hb1⟩ := Option.map_eq_some_iff.1 dBytesInt
  obtain rfl : i0 = i1 := Option.some.inj (hi.symm.trans hi')
  have hz0 : i0.zero = some (.int .i64 0) := congrArg Prod.fst hz
  have hz1 : i0.size = 1 := congrArg Prod.snd hz
  have hz2 : i0.bytes ≤ 1024 := of_decide_eq_true hb1
  have hby : i0.bytes * n ≤ 1024 * 2097152 := Nat.mul_le_mul hz2 hn
  clear h h1 h2 h3 h4 hs hz hb1 hi'
  go_enter Tryz.func21, Tryz.ntmps21
  go_wp2_with (at_make; refine wpList_make_full _ rfl _ _ 28 rfl w.heap.size 3 i0 (.int .i64 0) 1 Tryz.underlying28 hi hz0 hz1 .i64 .i64 _ _ n rfl rfl rfl rfl (by first | omega | (rw [Nat.mul_comm]; omega)) (by unfold maxLen; omega) (Nat.le_refl _) ?_; intro w1 own1 grow1)
  obtain ⟨ps0, lp0, O0⟩ := own_made (zv := [.int .i64 0]) (zc := [.i 0]) own1 hn rfl (fun j v hv => made_at hv (by decide)) (by
    intro i v c hv hc w'
    have hi : i < 1 := by have := (List.getElem?_eq_some_iff.1 hv).1; simpa using this
    rcases (show i = 0 by omega) with rfl <;> (simp at hv hc; subst hv hc)
    · exact .i _ _ (fun _ h => h))
  have hb1 : Below w.heap.size w w1 := (Below.refl _ _).grown grow1 (Nat.le_refl _) (fun k e => by cases e)
  clear own1 grow1
  go_loopw [4] (fun i wr => ∃ j : Nat, j ≤ n ∧ i = .int .i64 (j : Int) ∧ (∃ ps S, ps.length = n * 1 ∧ ps.take (j * 1) = cs.take (j * 1) ∧ Own wr w.heap.size (.slice (some ⟨w.heap.size, 0, none⟩) n n) (.l 3 1 n ps) S) ∧ Below w.heap.size w wr) (fun i _ => n - (intOf i).toNat)
  case atStart => exact ⟨0, Nat.zero_le _, by simp, ⟨ps0, _, lp0, by simp, O0⟩, hb1⟩
  case round =>
    obtain ⟨j, hj, rfl, ⟨ps, S, lp, tp, ho⟩, hb⟩ := hrel
    clear O0 hb1 lp0
    by_cases hlt : j < n
    · rcases SRC.out with h0 | ⟨p1, o1, rfl, g1⟩
      · omega
      have hk0 : (0 : Int) ≤ (j : Int) := by omega
      have hk1 : (j : Int) < (n : Int) := by omega
      have hA := HV.out j hlt
      have hH := HR.out j hlt
      have hcv : ∀ i, i < 1 → wr.cell? ⟨p1, o1 + (j * 1 + i), none⟩ = ((vs.drop (j * 1)).take 1)[i]? := fun i hi => by
        have hle : j * 1 + 1 ≤ n * 1 := by omega
        have h5 := g1 (j * 1 + i) (by omega)
        rw [List.getElem?_take_of_lt hi, List.getElem?_drop, ← h5]
        have h6 : w.cell? ⟨p1, o1 + (j * 1 + i), none⟩ = some (vs[j * 1 + i]'(by have := L1.out; omega)) := by rw [h5, List.getElem?_eq_getElem (by have := L1.out; omega)]
        exact hb.cell (show p1 < w.heap.size from World.block_lt_of_cell? w _ h6)
      obtain ⟨rs, hrs⟩ : ∃ rs, row cs 1 j = rs := ⟨_, rfl⟩
      obtain ⟨ws, hws⟩ : ∃ ws, (vs.drop (j * 1)).take 1 = ws := ⟨_, rfl⟩
      have HRS : Hid (row cs 1 j = rs) := hrs
      rw [hrs] at hA hH
      rw [hws] at hA hcv
      clear g1 hrs hws
      obtain ⟨c0, r0, rfl, T0, hH0⟩ := hH.cons
      obtain rfl := hH0.nil
      have HL0 : Hid (HasL [c0] [.i]) := hH
      obtain ⟨v0, vr0, rfl, A0, hA0⟩ := hA.consE
      obtain rfl := hA0.nilE
      have HA0 : Hid (AtL false w [v0] [c0]) := hA
      have e0 : wr.cell? ⟨p1, o1 + j * 1, none⟩ = some v0 := hcv 0 (by omega)
      clear hcv hA hH hA0 hH0
      have HO : Hid (Own wr w.heap.size (.slice (some ⟨w.heap.size, 0, none⟩) n n) (.l 3 1 n ps) S) := ho
      clear ho
      obtain ⟨x0, rfl⟩ := T0.int
      obtain rfl := A0.int
      obtain ⟨pv, Sj, hc, hf, -⟩ := HO.out.cell (j := j * 1) (List.getElem?_eq_getElem (by omega))
      simp only [Nat.mul_one] at e0 hc hf
      have HRS' : Hid (row cs 1 j = [.i x0]) := HRS.out
      go_wp2
      go_roundw
      case rel =>
        obtain ⟨S'', o'', -⟩ := Own.storeL (us := [.int .i64 x0]) (rs := [.i x0]) (p := j * 1) HO.out (OwnL.cons (S0 := fun _ => False) (S := fun _ => False) (S' := fun _ => False) (.i x0 _ (fun _ h => h)) (OwnL.nil (fun _ h => h)) (fun _ h => h.elim) (fun _ => by simp)) (fun _ h => h.elim) (by simp; omega)
        have hle : j * 1 + 1 ≤ n * 1 := by omega
        refine ⟨j + 1, by omega, by go_num, ⟨_, S'', ?_, ?_, by simpa [stores] using o''⟩, by simpa [stores] using stores_below (Nat.le_refl _) [.int .i64 x0] wr (j * 1) hb⟩
        · rw [over_len]; exact lp
        · have h3 := over_take [.i x0] ps (j * 1) (by simp; omega)
          rw [row_split (cs := cs), HRS'.out, ← tp, show (j + 1) * 1 = j * 1 + ([.i x0] : List Cel).length by simp]
          simpa using h3
      case measure => simp [intOf]; omega
    · obtain rfl : j = n := by omega
      have e : ps = cs := by rwa [List.take_of_length_le (by omega), List.take_of_length_le (by have := L2.out; omega)] at tp
      subst e
      go_wp2
      go_ret
      exact ⟨hb, _, S, rfl, ho⟩
theorem dInfoOp : (Tryz.prog.info? 57).map (fun i => (i.zero, i.size)) = some (some (.agg #[.int .i64 0, .int .i64 0, .int .i64 0]), 3) := by kernel_rfl
theorem dBytesOp : (Tryz.prog.info? 57).map (fun i => decide (i.bytes ≤ 1024)) = some true := by kernel_rfl
set_option maxHeartbeats 1000000 in
theorem dToOp (vs : List Value) (cs : List Cel) (w : World) (h : AtL false w vs cs) (hs : HasL cs tyOp) : Calls Tryz.prog 76 #[.agg vs.toArray] w (RetL w cs) := by
  obtain ⟨c0, r0, rfl, T0, hH0⟩ := hs.cons
  obtain ⟨c1, r1, rfl, T1, hH1⟩ := hH0.cons
  obtain ⟨c2, r2, rfl, T2, hH2⟩ := hH1.cons
  obtain rfl := hH2.nil
  obtain ⟨x0, rfl⟩ := T0.int
  obtain ⟨x1, rfl⟩ := T1.int
  obtain ⟨x2, rfl⟩ := T2.int
  obtain ⟨v0, vr0, rfl, A0, hA0⟩ := h.consE
  obtain ⟨v1, vr1, rfl, A1, hA1⟩ := hA0.consE
  obtain ⟨v2, vr2, rfl, A2, hA2⟩ := hA1.consE
  obtain rfl := hA2.nilE
  obtain rfl := A0.int
  obtain rfl := A1.int
  obtain rfl := A2.int
  obtain ⟨R, hR⟩ : ∃ R, Value.agg #[.int .i64 x0, .int .i64 x1, .int .i64 x2] = R := ⟨_, rfl⟩
  have HR : Hid (Value.agg #[.int .i64 x0, .int .i64 x1, .int .i64 x2] = R) := hR
  clear hR
  go_enter Tryz.func76, Tryz.ntmps76
  go_wp2
  (try simp only [Exit.inBlock, Exit.then])
  refine bodyPost_ret (by simp [results, Tryz.results76, go_sem]; try rfl) rfl ?_
  exact ⟨(((Below.refl _ _).alloc (Nat.le_refl _) _).alloc (by simp) _).alloc (by simp; omega) _, [.int .i64 x0, .int .i64 x1, .int .i64 x2], fun _ => False, rfl, OwnL.cons (S0 := fun _ => False) (S := fun _ => False) (.i x0 _ (fun _ h => h)) (OwnL.cons (S0 := fun _ => False) (S := fun _ => False) (.i x1 _ (fun _ h => h)) (OwnL.cons (S0 := fun _ => False) (S := fun _ => False) (.i x2 _ (fun _ h => h)) (OwnL.nil (fun _ h => h)) (fun _ h => h.elim) (fun _ => by simp)) (fun _ h => h.elim) (fun _ => by simp)) (fun _ h => h.elim) (fun _ => by simp)⟩
set_option maxHeartbeats 1000000 in
theorem dToOpS (v : Value) (n : Nat) (cs : List Cel) (w : World) (h : At false w v (.l 57 3 n cs)) (hs : Has (.l 57 3 n cs) (.l 57 3 tyOp)) :
    Calls Tryz.prog 73 #[v] w (Ret w (.l 57 3 n cs)) := by
  obtain ⟨a, c, vs, rfl, h1, h2, hn, -, h3, h4⟩ := h.openL
  have SRC : Hid (n = 0 ∨ ∃ b o, a = some ⟨b, o, none⟩ ∧ ∀ j, j < n * 3 → w.cell? ⟨b, o + j, none⟩ = vs[j]?) := h3
  have HV : Hid (∀ j, j < n → AtL false w ((vs.drop (j * 3)).take 3) (row cs 3 j)) := fun j hj => rowVals h1 h2 h4 hj
  have HR : Hid (∀ j, j < n → HasL (row cs 3 j) tyOp) := fun j hj => hs.rowL hj
  have L2 : Hid (cs.length = n * 3) := h2
  have L1 : Hid (vs.length = n * 3) := h1
  obtain ⟨i0, hi, hz⟩ := Option.map_eq_some_iff.1 dInfoOp
  obtain ⟨i1, hi', hb1⟩ := Option.map_eq_some_iff.1 dBytesOp
  obtain rfl : i0 = i1 := Option.some.inj (hi.symm.trans hi')
  have hz0 : i0.zero = some (.agg #[.int .i64 0, .int .i64 0, .int .i64 0]) := congrArg Prod.fst hz
  have hz1 : i0.size = 3 := congrArg Prod.snd hz
  have hz2 : i0.bytes ≤ 1024 := of_decide_eq_true hb1
  have hby : i0.bytes * n ≤ 1024 * 2097152 := Nat.mul_le_mul hz2 hn
  clear h h1 h2 h3 h4 hs hz hb1 hi'
  go_enter Tryz.func73, Tryz.ntmps73
  go_wp2_with (at_make; refine wpList_make_full _ rfl _ _ 96 rfl w.heap.size 57 i0 (.agg #[.int .i64 0, .int .i64 0, .int .i64 0]) 3 Tryz.underlying96 hi hz0 hz1 .i64 .i64 _ _ n rfl rfl rfl rfl (by first | omega | (rw [Nat.mul_comm]; omega)) (by unfold maxLen; omega) (Nat.le_refl _) ?_; intro w1 own1 grow1)
  obtain ⟨ps0, lp0, O0⟩ := own_made (zv := [.int .i64 0, .int .i64 0, .int .i64 0]) (zc := [.i 0, .i 0, .i 0]) own1 hn rfl (fun j v hv => made_at hv (by decide)) (by
    intro i v c hv hc w'
    have hi : i < 3 := by have := (List.getElem?_eq_some_iff.1 hv).1; simpa using this
    rcases (show i = 0 ∨ i = 1 ∨ i = 2 by omega) with rfl | rfl | rfl <;> (simp at hv hc; subst hv hc)
    · exact .i _ _ (fun _ h => h)
    · exact .i _ _ (fun _ h => h)
    · exact .i _ _ (fun _ h => h))
  have hb1 : Below w.heap.size w w1 := (Below.refl _ _).grown grow1 (Nat.le_refl _) (fun k e => by cases e)
  clear own1 grow1
  go_loopw [4] (fun i wr => ∃ j : Nat, j ≤ n ∧ i = .int .i64 (j : Int) ∧ (∃ ps S, ps.length = n * 3 ∧ ps.take (j * 3) = cs.take (j * 3) ∧ Own wr w.heap.size (.slice (some ⟨w.heap.size, 0, none⟩) n n) (.l 57 3 n ps) S) ∧ Below w.heap.size w wr) (fun i _ => n - (intOf i).toNat)
  case atStart => exact ⟨0, Nat.zero_le _, by simp, ⟨ps0, _, lp0, by simp, O0⟩, hb1⟩
  case round =>
    obtain ⟨j, hj, rfl, ⟨ps, S, lp, tp, ho⟩, hb⟩ := hrel
    clear O0 hb1 lp0
    by_cases hlt : j < n
    · rcases SRC.out with h0 | ⟨p1, o1, rfl, g1⟩
      · omega
      have hk0 : (0 : Int) ≤ (j : Int) := by omega
      have hk1 : (j : Int) < (n : Int) := by omega
      have hA := HV.out j hlt
      have hH := HR.out j hlt
      have hcv : ∀ i, i < 3 → wr.cell? ⟨p1, o1 + (j * 3 + i), none⟩ = ((vs.drop (j * 3)).take 3)[i]? := fun i hi => by
        have hle : j * 3 + 3 ≤ n * 3 := by omega
        have h5 := g1 (j * 3 + i) (by omega)
        rw [List.getElem?_take_of_lt hi, List.getElem?_drop, ← h5]
        have h6 : w.cell? ⟨p1, o1 + (j * 3 + i), none⟩ = some (vs[j * 3 + i]'(by have := L1.out; omega)) := by rw [h5, List.getElem?_eq_getElem (by have := L1.out; omega)]
        exact hb.cell (show p1 < w.heap.size from World.block_lt_of_cell? w _ h6)
      obtain ⟨rs, hrs⟩ : ∃ rs, row cs 3 j = rs := ⟨_, rfl⟩
      obtain ⟨ws, hws⟩ : ∃ ws, (vs.drop (j * 3)).take 3 = ws := ⟨_, rfl⟩
      have HRS : Hid (row cs 3 j = rs) := hrs
      rw [hrs] at hA hH
      rw [hws] at hA hcv
      clear g1 hrs hws
      obtain ⟨c0, r0, rfl, T0, hH0⟩ := hH.cons
      obtain ⟨c1, r1, rfl, T1, hH1⟩ := hH0.cons
      obtain ⟨c2, r2, rfl, T2, hH2⟩ := hH1.cons
      obtain rfl := hH2.nil
      have HL0 : Hid (HasL [c0, c1, c2] tyOp) := hH
      obtain ⟨v0, vr0, rfl, A0, hA0⟩ := hA.consE
      obtain ⟨v1, vr1, rfl, A1, hA1⟩ := hA0.consE
      obtain ⟨v2, vr2, rfl, A2, hA2⟩ := hA1.consE
      obtain rfl := hA2.nilE
      have HA0 : Hid (AtL false w [v0, v1, v2] [c0, c1, c2]) := hA
      have e0 : wr.cell? ⟨p1, o1 + j * 3, none⟩ = some v0 := hcv 0 (by omega)
      have e1 : wr.cell? ⟨p1, o1 + j * 3 + 1, none⟩ = some v1 := hcv 1 (by omega)
      have e2 : wr.cell? ⟨p1, o1 + j * 3 + 2, none⟩ = some v2 := hcv 2 (by omega)
      clear hcv hA hH hA0 hH0 hA1 hH1 hA2 hH2
      have HO : Hid (Own wr w.heap.size (.slice (some ⟨w.heap.size, 0, none⟩) n n) (.l 57 3 n ps) S) := ho
      clear ho
      go_wp2_with fail
      refine (dToOp [v0, v1, v2] [c0, c1, c2] _ (HA0.out.on hb (Nat.le_refl _)) HL0.out).mono ?_
      rintro e w2 ⟨hb2, us, S', rfl, oL⟩
      have hU := oL.at
      obtain ⟨u0, ur0, rfl, U0, hA0⟩ := hU.consE
      obtain ⟨u1, ur1, rfl, U1, hA1⟩ := hA0.consE
      obtain ⟨u2, ur2, rfl, U2, hA2⟩ := hA1.consE
      obtain rfl := hA2.nilE
      obtain ⟨x0, rfl⟩ := T0.int
      obtain ⟨x1, rfl⟩ := T1.int
      obtain ⟨x2, rfl⟩ := T2.int
      obtain rfl := U0.int
      obtain rfl := U1.int
      obtain rfl := U2.int
      have O2 := HO.out.on hb2 (Nat.le_refl _)
      have hb02 : Below w.heap.size w w2 := hb.trans (hb2.mono hb.size)
      obtain ⟨pv0, -, hc0, hf0, -⟩ := O2.cell (j := j * 3) (List.getElem?_eq_getElem (by omega))
      obtain ⟨pv1, -, hc1, hf1, -⟩ := O2.cell (j := j * 3 + 1) (List.getElem?_eq_getElem (by omega))
      obtain ⟨pv2, -, hc2, hf2, -⟩ := O2.cell (j := j * 3 + 2) (List.getElem?_eq_getElem (by omega))
      have OL : Hid (OwnL w2 wr.heap.size [.int .i64 x0, .int .i64 x1, .int .i64 x2] [.i x0, .i x1, .i x2] S') := oL
      have HO2 : Hid (Own w2 w.heap.size (.slice (some ⟨w.heap.size, 0, none⟩) n n) (.l 57 3 n ps) S) := O2
      have HRS' : Hid (row cs 3 j = [.i x0, .i x1, .i x2]) := HRS.out
      clear oL O2 hb2 hU e0 e1 e2 
      go_wp2
      go_roundw
      case rel =>
        have slt : ∀ x, S x → x < wr.heap.size := fun x hx => (HO.out.lt x hx).2
        obtain ⟨S'', o'', -⟩ := Own.storeL (p := j * 3) HO2.out (OL.out.weaken hb.size) (fun x hx hx' => by have h1 := (OL.out.lt x hx).1; have h2 := slt x hx'; omega) (by simp; omega)
        have hle : j * 3 + 3 ≤ n * 3 := by omega
        refine ⟨j + 1, by omega, by go_num, ⟨_, S'', ?_, ?_, o''⟩, stores_below (Nat.le_refl _) [.int .i64 x0, .int .i64 x1, .int .i64 x2] w2 (j * 3) hb02⟩
        · rw [over_len]; exact lp
        · have h3 := over_take [.i x0, .i x1, .i x2] ps (j * 3) (by simp; omega)
          rw [row_split (cs := cs), HRS'.out, ← tp, show (j + 1) * 3 = j * 3 + ([.i x0, .i x1, .i x2] : List Cel).length by simp; omega]
          exact h3
      case measure => simp [intOf]; omega
    · obtain rfl : j = n := by omega
      have e : ps = cs := by rwa [List.take_of_length_le (by omega), List.take_of_length_le (by have := L2.out; omega)] at tp
      subst e
      go_wp2
      go_ret
      exact ⟨hb, _, S, rfl, ho⟩
theorem dInfoPair : (Tryz.prog.info? 176).map (fun i => (i.zero, i.size)) = some (some (.agg #[.int .i64 0, .int .i64 0]), 2) := by kernel_rfl
theorem dBytesPair : (Tryz.prog.info? 176).map (fun i => decide (i.bytes ≤ 1024)) = some true := by kernel_rfl
set_option maxHeartbeats 1000000 in
theorem dToPair (vs : List Value) (cs : List Cel) (w : World) (h : AtL false w vs cs) (hs : HasL cs tyPair) : Calls Tryz.prog 101 #[.agg vs.toArray] w (RetL w cs) := by
  obtain ⟨c0, r0, rfl, T0, hH0⟩ := hs.cons
  obtain ⟨c1, r1, rfl, T1, hH1⟩ := hH0.cons
  obtain rfl := hH1.nil
  obtain ⟨x0, rfl⟩ := T0.int
  obtain ⟨x1, rfl⟩ := T1.int
  obtain ⟨v0, vr0, rfl, A0, hA0⟩ := h.consE
  obtain ⟨v1, vr1, rfl, A1, hA1⟩ := hA0.consE
  obtain rfl := hA1.nilE
  obtain rfl := A0.int
  obtain rfl := A1.int
  obtain ⟨R, hR⟩ : ∃ R, Value.agg #[.int .i64 x0, .int .i64 x1] = R := ⟨_, rfl⟩
  have HR : Hid (Value.agg #[.int .i64 x0, .int .i64 x1] = R) := hR
  clear hR
  go_enter Tryz.func101, Tryz.ntmps101
  go_wp2
  (try simp only [Exit.inBlock, Exit.then])
  refine bodyPost_ret (by simp [results, Tryz.results101, go_sem]; try rfl) rfl ?_
  exact ⟨(((Below.refl _ _).alloc (Nat.le_refl _) _).alloc (by simp) _).alloc (by simp; omega) _, [.int .i64 x0, .int .i64 x1], fun _ => False, rfl, OwnL.cons (S0 := fun _ => False) (S := fun _ => False) (.i x0 _ (fun _ h => h)) (OwnL.cons (S0 := fun _ => False) (S := fun _ => False) (.i x1 _ (fun _ h => h)) (OwnL.nil (fun _ h => h)) (fun _ h => h.elim) (fun _ => by simp)) (fun _ h => h.elim) (fun _ => by simp)⟩
set_option maxHeartbeats 1000000 in
theorem dToPairS (v : Value) (n : Nat) (cs : List Cel) (w : World) (h : At false w v (.l 176 2 n cs)) (hs : Has (.l 176 2 n cs) (.l 176 2 tyPair)) :
    Calls Tryz.prog 74 #[v] w (Ret w (.l 176 2 n cs)) := by
  obtain ⟨a, c, vs, rfl, h1, h2, hn, -, h3, h4⟩ := h.openL
  have SRC : Hid (n = 0 ∨ ∃ b o, a = some ⟨b, o, none⟩ ∧ ∀ j, j < n * 2 → w.cell? ⟨b, o + j, none⟩ = vs[j]?) := h3
  have HV : Hid (∀ j, j < n → AtL false w ((vs.drop (j * 2)).take 2) (row cs 2 j)) := fun j hj => rowVals h1 h2 h4 hj
  have HR : Hid (∀ j, j < n → HasL (row cs 2 j) tyPair) := fun j hj => hs.rowL hj
  have L2 : Hid (cs.length = n * 2) := h2
  have L1 : Hid (vs.length = n * 2) := h1
  obtain ⟨i0, hi, hz⟩ := Option.map_eq_some_iff.1 dInfoPair
  obtain ⟨i1, hi', hb1⟩ := Option.map_eq_some_iff.1 dBytesPair
  obtain rfl : i0 = i1 := Option.some.inj (hi.symm.trans hi')
  have hz0 : i0.zero = some (.agg #[.int .i64 0, .int .i64 0]) := congrArg Prod.fst hz
  have hz1 : i0.size = 2 := congrArg Prod.snd hz
  have hz2 : i0.bytes ≤ 1024 := of_decide_eq_true hb1
  have hby : i0.bytes * n ≤ 1024 * 2097152 := Nat.mul_le_mul hz2 hn
  clear h h1 h2 h3 h4 hs hz hb1 hi'
  go_enter Tryz.func74, Tryz.ntmps74
  go_wp2_with (at_make; refine wpList_make_full _ rfl _ _ 97 rfl w.heap.size 176 i0 (.agg #[.int .i64 0, .int .i64 0]) 2 Tryz.underlying97 hi hz0 hz1 .i64 .i64 _ _ n rfl rfl rfl rfl (by first | omega | (rw [Nat.mul_comm]; omega)) (by unfold maxLen; omega) (Nat.le_refl _) ?_; intro w1 own1 grow1)
  obtain ⟨ps0, lp0, O0⟩ := own_made (zv := [.int .i64 0, .int .i64 0]) (zc := [.i 0, .i 0]) own1 hn rfl (fun j v hv => made_at hv (by decide)) (by
    intro i v c hv hc w'
    have hi : i < 2 := by have := (List.getElem?_eq_some_iff.1 hv).1; simpa using this
    rcases (show i = 0 ∨ i = 1 by omega) with rfl | rfl <;> (simp at hv hc; subst hv hc)
    · exact .i _ _ (fun _ h => h)
    · exact .i _ _ (fun _ h => h))
  have hb1 : Below w.heap.size w w1 := (Below.refl _ _).grown grow1 (Nat.le_refl _) (fun k e => by cases e)
  clear own1 grow1
  go_loopw [4] (fun i wr => ∃ j : Nat, j ≤ n ∧ i = .int .i64 (j : Int) ∧ (∃ ps S, ps.length = n * 2 ∧ ps.take (j * 2) = cs.take (j * 2) ∧ Own wr w.heap.size (.slice (some ⟨w.heap.size, 0, none⟩) n n) (.l 176 2 n ps) S) ∧ Below w.heap.size w wr) (fun i _ => n - (intOf i).toNat)
  case atStart => exact ⟨0, Nat.zero_le _, by simp, ⟨ps0, _, lp0, by simp, O0⟩, hb1⟩
  case round =>
    obtain ⟨j, hj, rfl, ⟨ps, S, lp, tp, ho⟩, hb⟩ := hrel
    clear O0 hb1 lp0
    by_cases hlt : j < n
    · rcases SRC.out with h0 | ⟨p1, o1, rfl, g1⟩
      · omega
      have hk0 : (0 : Int) ≤ (j : Int) := by omega
      have hk1 : (j : Int) < (n : Int) := by omega
      have hA := HV.out j hlt
      have hH := HR.out j hlt
      have hcv : ∀ i, i < 2 → wr.cell? ⟨p1, o1 + (j * 2 + i), none⟩ = ((vs.drop (j * 2)).take 2)[i]? := fun i hi => by
        have hle : j * 2 + 2 ≤ n * 2 := by omega
        have h5 := g1 (j * 2 + i) (by omega)
        rw [List.getElem?_take_of_lt hi, List.getElem?_drop, ← h5]
        have h6 : w.cell? ⟨p1, o1 + (j * 2 + i), none⟩ = some (vs[j * 2 + i]'(by have := L1.out; omega)) := by rw [h5, List.getElem?_eq_getElem (by have := L1.out; omega)]
        exact hb.cell (show p1 < w.heap.size from World.block_lt_of_cell? w _ h6)
      obtain ⟨rs, hrs⟩ : ∃ rs, row cs 2 j = rs := ⟨_, rfl⟩
      obtain ⟨ws, hws⟩ : ∃ ws, (vs.drop (j * 2)).take 2 = ws := ⟨_, rfl⟩
      have HRS : Hid (row cs 2 j = rs) := hrs
      rw [hrs] at hA hH
      rw [hws] at hA hcv
      clear g1 hrs hws
      obtain ⟨c0, r0, rfl, T0, hH0⟩ := hH.cons
      obtain ⟨c1, r1, rfl, T1, hH1⟩ := hH0.cons
      obtain rfl := hH1.nil
      have HL0 : Hid (HasL [c0, c1] tyPair) := hH
      obtain ⟨v0, vr0, rfl, A0, hA0⟩ := hA.consE
      obtain ⟨v1, vr1, rfl, A1, hA1⟩ := hA0.consE
      obtain rfl := hA1.nilE
      have HA0 : Hid (AtL false w [v0, v1] [c0, c1]) := hA
      have e0 : wr.cell? ⟨p1, o1 + j * 2, none⟩ = some v0 := hcv 0 (by omega)
      have e1 : wr.cell? ⟨p1, o1 + j * 2 + 1, none⟩ = some v1 := hcv 1 (by omega)
      clear hcv hA hH hA0 hH0 hA1 hH1
      have HO : Hid (Own wr w.heap.size (.slice (some ⟨w.heap.size, 0, none⟩) n n) (.l 176 2 n ps) S) := ho
      clear ho
      go_wp2_with fail
      refine (dToPair [v0, v1] [c0, c1] _ (HA0.out.on hb (Nat.le_refl _)) HL0.out).mono ?_
      rintro e w2 ⟨hb2, us, S', rfl, oL⟩
      have hU := oL.at
      obtain ⟨u0, ur0, rfl, U0, hA0⟩ := hU.consE
      obtain ⟨u1, ur1, rfl, U1, hA1⟩ := hA0.consE
      obtain rfl := hA1.nilE
      obtain ⟨x0, rfl⟩ := T0.int
      obtain ⟨x1, rfl⟩ := T1.int
      obtain rfl := U0.int
      obtain rfl := U1.int
      have O2 := HO.out.on hb2 (Nat.le_refl _)
      have hb02 : Below w.heap.size w w2 := hb.trans (hb2.mono hb.size)
      obtain ⟨pv0, -, hc0, hf0, -⟩ := O2.cell (j := j * 2) (List.getElem?_eq_getElem (by omega))
      obtain ⟨pv1, -, hc1, hf1, -⟩ := O2.cell (j := j * 2 + 1) (List.getElem?_eq_getElem (by omega))
      have OL : Hid (OwnL w2 wr.heap.size [.int .i64 x0, .int .i64 x1] [.i x0, .i x1] S') := oL
      have HO2 : Hid (Own w2 w.heap.size (.slice (some ⟨w.heap.size, 0, none⟩) n n) (.l 176 2 n ps) S) := O2
      have HRS' : Hid (row cs 2 j = [.i x0, .i x1]) := HRS.out
      clear oL O2 hb2 hU e0 e1 
      go_wp2
      go_roundw
      case rel =>
        have slt : ∀ x, S x → x < wr.heap.size := fun x hx => (HO.out.lt x hx).2
        obtain ⟨S'', o'', -⟩ := Own.storeL (p := j * 2) HO2.out (OL.out.weaken hb.size) (fun x hx hx' => by have h1 := (OL.out.lt x hx).1; have h2 := slt x hx'; omega) (by simp; omega)
        have hle : j * 2 + 2 ≤ n * 2 := by omega
        refine ⟨j + 1, by omega, by go_num, ⟨_, S'', ?_, ?_, o''⟩, stores_below (Nat.le_refl _) [.int .i64 x0, .int .i64 x1] w2 (j * 2) hb02⟩
        · rw [over_len]; exact lp
        · have h3 := over_take [.i x0, .i x1] ps (j * 2) (by simp; omega)
          rw [row_split (cs := cs), HRS'.out, ← tp, show (j + 1) * 2 = j * 2 + ([.i x0, .i x1] : List Cel).length by simp; omega]
          exact h3
      case measure => simp [intOf]; omega
    · obtain rfl : j = n := by omega
      have e : ps = cs := by rwa [List.take_of_length_le (by omega), List.take_of_length_le (by have := L2.out; omega)] at tp
      subst e
      go_wp2
      go_ret
      exact ⟨hb, _, S, rfl, ho⟩
theorem dInfoHelp : (Tryz.prog.info? 180).map (fun i => (i.zero, i.size)) = some (some (.agg #[.int .i64 0, .int .i64 0, .int .i64 0, .int .i64 0]), 4) := by kernel_rfl
theorem dBytesHelp : (Tryz.prog.info? 180).map (fun i => decide (i.bytes ≤ 1024)) = some true := by kernel_rfl
set_option maxHeartbeats 1000000 in
theorem dToHelp (vs : List Value) (cs : List Cel) (w : World) (h : AtL false w vs cs) (hs : HasL cs tyHelp) : Calls Tryz.prog 102 #[.agg vs.toArray] w (RetL w cs) := by
  obtain ⟨c0, r0, rfl, T0, hH0⟩ := hs.cons
  obtain ⟨c1, r1, rfl, T1, hH1⟩ := hH0.cons
  obtain ⟨c2, r2, rfl, T2, hH2⟩ := hH1.cons
  obtain ⟨c3, r3, rfl, T3, hH3⟩ := hH2.cons
  obtain rfl := hH3.nil
  obtain ⟨x0, rfl⟩ := T0.int
  obtain ⟨x1, rfl⟩ := T1.int
  obtain ⟨x2, rfl⟩ := T2.int
  obtain ⟨x3, rfl⟩ := T3.int
  obtain ⟨v0, vr0, rfl, A0, hA0⟩ := h.consE
  obtain ⟨v1, vr1, rfl, A1, hA1⟩ := hA0.consE
  obtain ⟨v2, vr2, rfl, A2, hA2⟩ := hA1.consE
  obtain ⟨v3, vr3, rfl, A3, hA3⟩ := hA2.consE
  obtain rfl := hA3.nilE
  obtain rfl := A0.int
  obtain rfl := A1.int
  obtain rfl := A2.int
  obtain rfl := A3.int
  obtain ⟨R, hR⟩ : ∃ R, Value.agg #[.int .i64 x0, .int .i64 x1, .int .i64 x2, .int .i64 x3] = R := ⟨_, rfl⟩
  have HR : Hid (Value.agg #[.int .i64 x0, .int .i64 x1, .int .i64 x2, .int .i64 x3] = R) := hR
  clear hR
  go_enter Tryz.func102, Tryz.ntmps102
  go_wp2
  (try simp only [Exit.inBlock, Exit.then])
  refine bodyPost_ret (by simp [results, Tryz.results102, go_sem]; try rfl) rfl ?_
  exact ⟨(((Below.refl _ _).alloc (Nat.le_refl _) _).alloc (by simp) _).alloc (by simp; omega) _, [.int .i64 x0, .int .i64 x1, .int .i64 x2, .int .i64 x3], fun _ => False, rfl, OwnL.cons (S0 := fun _ => False) (S := fun _ => False) (.i x0 _ (fun _ h => h)) (OwnL.cons (S0 := fun _ => False) (S := fun _ => False) (.i x1 _ (fun _ h => h)) (OwnL.cons (S0 := fun _ => False) (S := fun _ => False) (.i x2 _ (fun _ h => h)) (OwnL.cons (S0 := fun _ => False) (S := fun _ => False) (.i x3 _ (fun _ h => h)) (OwnL.nil (fun _ h => h)) (fun _ h => h.elim) (fun _ => by simp)) (fun _ h => h.elim) (fun _ => by simp)) (fun _ h => h.elim) (fun _ => by simp)) (fun _ h => h.elim) (fun _ => by simp)⟩
set_option maxHeartbeats 1000000 in
theorem dToHelpS (v : Value) (n : Nat) (cs : List Cel) (w : World) (h : At false w v (.l 180 4 n cs)) (hs : Has (.l 180 4 n cs) (.l 180 4 tyHelp)) :
    Calls Tryz.prog 75 #[v] w (Ret w (.l 180 4 n cs)) := by
  obtain ⟨a, c, vs, rfl, h1, h2, hn, -, h3, h4⟩ := h.openL
  have SRC : Hid (n = 0 ∨ ∃ b o, a = some ⟨b, o, none⟩ ∧ ∀ j, j < n * 4 → w.cell? ⟨b, o + j, none⟩ = vs[j]?) := h3
  have HV : Hid (∀ j, j < n → AtL false w ((vs.drop (j * 4)).take 4) (row cs 4 j)) := fun j hj => rowVals h1 h2 h4 hj
  have HR : Hid (∀ j, j < n → HasL (row cs 4 j) tyHelp) := fun j hj => hs.rowL hj
  have L2 : Hid (cs.length = n * 4) := h2
  have L1 : Hid (vs.length = n * 4) := h1
  obtain ⟨i0, hi, hz⟩ := Option.map_eq_some_iff.1 dInfoHelp
  obtain ⟨i1, hi', hb1⟩ := Option.map_eq_some_iff.1 dBytesHelp
  obtain rfl : i0 = i1 := Option.some.inj (hi.symm.trans hi')
  have hz0 : i0.zero = some (.agg #[.int .i64 0, .int .i64 0, .int .i64 0, .int .i64 0]) := congrArg Prod.fst hz
  have hz1 : i0.size = 4 := congrArg Prod.snd hz
  have hz2 : i0.bytes ≤ 1024 := of_decide_eq_true hb1
  have hby : i0.bytes * n ≤ 1024 * 2097152 := Nat.mul_le_mul hz2 hn
  clear h h1 h2 h3 h4 hs hz hb1 hi'
  go_enter Tryz.func75, Tryz.ntmps75
  go_wp2_with (at_make; refine wpList_make_full _ rfl _ _ 98 rfl w.heap.size 180 i0 (.agg #[.int .i64 0, .int .i64 0, .int .i64 0, .int .i64 0]) 4 Tryz.underlying98 hi hz0 hz1 .i64 .i64 _ _ n rfl rfl rfl rfl (by first | omega | (rw [Nat.mul_comm]; omega)) (by unfold maxLen; omega) (Nat.le_refl _) ?_; intro w1 own1 grow1)
  obtain ⟨ps0, lp0, O0⟩ := own_made (zv := [.int .i64 0, .int .i64 0, .int .i64 0, .int .i64 0]) (zc := [.i 0, .i 0, .i 0, .i 0]) own1 hn rfl (fun j v hv => made_at hv (by decide)) (by
    intro i v c hv hc w'
    have hi : i < 4 := by have := (List.getElem?_eq_some_iff.1 hv).1; simpa using this
    rcases (show i = 0 ∨ i = 1 ∨ i = 2 ∨ i = 3 by omega) with rfl | rfl | rfl | rfl <;> (simp at hv hc; subst hv hc)
    · exact .i _ _ (fun _ h => h)
    · exact .i _ _ (fun _ h => h)
    · exact .i _ _ (fun _ h => h)
    · exact .i _ _ (fun _ h => h))
  have hb1 : Below w.heap.size w w1 := (Below.refl _ _).grown grow1 (Nat.le_refl _) (fun k e => by cases e)
  clear own1 grow1
  go_loopw [4] (fun i wr => ∃ j : Nat, j ≤ n ∧ i = .int .i64 (j : Int) ∧ (∃ ps S, ps.length = n * 4 ∧ ps.take (j * 4) = cs.take (j * 4) ∧ Own wr w.heap.size (.slice (some ⟨w.heap.size, 0, none⟩) n n) (.l 180 4 n ps) S) ∧ Below w.heap.size w wr) (fun i _ => n - (intOf i).toNat)
  case atStart => exact ⟨0, Nat.zero_le _, by simp, ⟨ps0, _, lp0, by simp, O0⟩, hb1⟩
  case round =>
    obtain ⟨j, hj, rfl, ⟨ps, S, lp, tp, ho⟩, hb⟩ := hrel
    clear O0 hb1 lp0
    by_cases hlt : j < n
    · rcases SRC.out with h0 | ⟨p1, o1, rfl, g1⟩
      · omega
      have hk0 : (0 : Int) ≤ (j : Int) := by omega
      have hk1 : (j : Int) < (n : Int) := by omega
      have hA := HV.out j hlt
      have hH := HR.out j hlt
      have hcv : ∀ i, i < 4 → wr.cell? ⟨p1, o1 + (j * 4 + i), none⟩ = ((vs.drop (j * 4)).take 4)[i]? := fun i hi => by
        have hle : j * 4 + 4 ≤ n * 4 := by omega
        have h5 := g1 (j * 4 + i) (by omega)
        rw [List.getElem?_take_of_lt hi, List.getElem?_drop, ← h5]
        have h6 : w.cell? ⟨p1, o1 + (j * 4 + i), none⟩ = some (vs[j * 4 + i]'(by have := L1.out; omega)) := by rw [h5, List.getElem?_eq_getElem (by have := L1.out; omega)]
        exact hb.cell (show p1 < w.heap.size from World.block_lt_of_cell? w _ h6)
      obtain ⟨rs, hrs⟩ : ∃ rs, row cs 4 j = rs := ⟨_, rfl⟩
      obtain ⟨ws, hws⟩ : ∃ ws, (vs.drop (j * 4)).take 4 = ws := ⟨_, rfl⟩
      have HRS : Hid (row cs 4 j = rs) := hrs
      rw [hrs] at hA hH
      rw [hws] at hA hcv
      clear g1 hrs hws
      obtain ⟨c0, r0, rfl, T0, hH0⟩ := hH.cons
      obtain ⟨c1, r1, rfl, T1, hH1⟩ := hH0.cons
      obtain ⟨c2, r2, rfl, T2, hH2⟩ := hH1.cons
      obtain ⟨c3, r3, rfl, T3, hH3⟩ := hH2.cons
      obtain rfl := hH3.nil
      have HL0 : Hid (HasL [c0, c1, c2, c3] tyHelp) := hH
      obtain ⟨v0, vr0, rfl, A0, hA0⟩ := hA.consE
      obtain ⟨v1, vr1, rfl, A1, hA1⟩ := hA0.consE
      obtain ⟨v2, vr2, rfl, A2, hA2⟩ := hA1.consE
      obtain ⟨v3, vr3, rfl, A3, hA3⟩ := hA2.consE
      obtain rfl := hA3.nilE
      have HA0 : Hid (AtL false w [v0, v1, v2, v3] [c0, c1, c2, c3]) := hA
      have e0 : wr.cell? ⟨p1, o1 + j * 4, none⟩ = some v0 := hcv 0 (by omega)
      have e1 : wr.cell? ⟨p1, o1 + j * 4 + 1, none⟩ = some v1 := hcv 1 (by omega)
      have e2 : wr.cell? ⟨p1, o1 + j * 4 + 2, none⟩ = some v2 := hcv 2 (by omega)
      have e3 : wr.cell? ⟨p1, o1 + j * 4 + 3, none⟩ = some v3 := hcv 3 (by omega)
      clear hcv hA hH hA0 hH0 hA1 hH1 hA2 hH2 hA3 hH3
      have HO : Hid (Own wr w.heap.size (.slice (some ⟨w.heap.size, 0, none⟩) n n) (.l 180 4 n ps) S) := ho
      clear ho
      go_wp2_with fail
      refine (dToHelp [v0, v1, v2, v3] [c0, c1, c2, c3] _ (HA0.out.on hb (Nat.le_refl _)) HL0.out).mono ?_
      rintro e w2 ⟨hb2, us, S', rfl, oL⟩
      have hU := oL.at
      obtain ⟨u0, ur0, rfl, U0, hA0⟩ := hU.consE
      obtain ⟨u1, ur1, rfl, U1, hA1⟩ := hA0.consE
      obtain ⟨u2, ur2, rfl, U2, hA2⟩ := hA1.consE
      obtain ⟨u3, ur3, rfl, U3, hA3⟩ := hA2.consE
      obtain rfl := hA3.nilE
      obtain ⟨x0, rfl⟩ := T0.int
      obtain ⟨x1, rfl⟩ := T1.int
      obtain ⟨x2, rfl⟩ := T2.int
      obtain ⟨x3, rfl⟩ := T3.int
      obtain rfl := U0.int
      obtain rfl := U1.int
      obtain rfl := U2.int
      obtain rfl := U3.int
      have O2 := HO.out.on hb2 (Nat.le_refl _)
      have hb02 : Below w.heap.size w w2 := hb.trans (hb2.mono hb.size)
      obtain ⟨pv0, -, hc0, hf0, -⟩ := O2.cell (j := j * 4) (List.getElem?_eq_getElem (by omega))
      obtain ⟨pv1, -, hc1, hf1, -⟩ := O2.cell (j := j * 4 + 1) (List.getElem?_eq_getElem (by omega))
      obtain ⟨pv2, -, hc2, hf2, -⟩ := O2.cell (j := j * 4 + 2) (List.getElem?_eq_getElem (by omega))
      obtain ⟨pv3, -, hc3, hf3, -⟩ := O2.cell (j := j * 4 + 3) (List.getElem?_eq_getElem (by omega))
      have OL : Hid (OwnL w2 wr.heap.size [.int .i64 x0, .int .i64 x1, .int .i64 x2, .int .i64 x3] [.i x0, .i x1, .i x2, .i x3] S') := oL
      have HO2 : Hid (Own w2 w.heap.size (.slice (some ⟨w.heap.size, 0, none⟩) n n) (.l 180 4 n ps) S) := O2
      have HRS' : Hid (row cs 4 j = [.i x0, .i x1, .i x2, .i x3]) := HRS.out
      clear oL O2 hb2 hU e0 e1 e2 e3 
      go_wp2
      go_roundw
      case rel =>
        have slt : ∀ x, S x → x < wr.heap.size := fun x hx => (HO.out.lt x hx).2
        obtain ⟨S'', o'', -⟩ := Own.storeL (p := j * 4) HO2.out (OL.out.weaken hb.size) (fun x hx hx' => by have h1 := (OL.out.lt x hx).1; have h2 := slt x hx'; omega) (by simp; omega)
        have hle : j * 4 + 4 ≤ n * 4 := by omega
        refine ⟨j + 1, by omega, by go_num, ⟨_, S'', ?_, ?_, o''⟩, stores_below (Nat.le_refl _) [.int .i64 x0, .int .i64 x1, .int .i64 x2, .int .i64 x3] w2 (j * 4) hb02⟩
        · rw [over_len]; exact lp
        · have h3 := over_take [.i x0, .i x1, .i x2, .i x3] ps (j * 4) (by simp; omega)
          rw [row_split (cs := cs), HRS'.out, ← tp, show (j + 1) * 4 = j * 4 + ([.i x0, .i x1, .i x2, .i x3] : List Cel).length by simp; omega]
          exact h3
      case measure => simp [intOf]; omega
    · obtain rfl : j = n := by omega
      have e : ps = cs := by rwa [List.take_of_length_le (by omega), List.take_of_length_le (by have := L2.out; omega)] at tp
      subst e
      go_wp2
      go_ret
      exact ⟨hb, _, S, rfl, ho⟩
theorem dInfoEntry : (Tryz.prog.info? 139).map (fun i => (i.zero, i.size)) = some (some (.agg #[.int .i64 0, .int .i64 0, .int .i64 0]), 3) := by kernel_rfl
theorem dBytesEntry : (Tryz.prog.info? 139).map (fun i => decide (i.bytes ≤ 1024)) = some true := by kernel_rfl
set_option maxHeartbeats 1000000 in
theorem dToEntry (vs : List Value) (cs : List Cel) (w : World) (h : AtL false w vs cs) (hs : HasL cs tyEntry) : Calls Tryz.prog 112 #[.agg vs.toArray] w (RetL w cs) := by
  obtain ⟨c0, r0, rfl, T0, hH0⟩ := hs.cons
  obtain ⟨c1, r1, rfl, T1, hH1⟩ := hH0.cons
  obtain ⟨c2, r2, rfl, T2, hH2⟩ := hH1.cons
  obtain rfl := hH2.nil
  obtain ⟨x0, rfl⟩ := T0.int
  obtain ⟨x1, rfl⟩ := T1.int
  obtain ⟨x2, rfl⟩ := T2.int
  obtain ⟨v0, vr0, rfl, A0, hA0⟩ := h.consE
  obtain ⟨v1, vr1, rfl, A1, hA1⟩ := hA0.consE
  obtain ⟨v2, vr2, rfl, A2, hA2⟩ := hA1.consE
  obtain rfl := hA2.nilE
  obtain rfl := A0.int
  obtain rfl := A1.int
  obtain rfl := A2.int
  obtain ⟨R, hR⟩ : ∃ R, Value.agg #[.int .i64 x0, .int .i64 x1, .int .i64 x2] = R := ⟨_, rfl⟩
  have HR : Hid (Value.agg #[.int .i64 x0, .int .i64 x1, .int .i64 x2] = R) := hR
  clear hR
  go_enter Tryz.func112, Tryz.ntmps112
  go_wp2
  (try simp only [Exit.inBlock, Exit.then])
  refine bodyPost_ret (by simp [results, Tryz.results112, go_sem]; try rfl) rfl ?_
  exact ⟨(((Below.refl _ _).alloc (Nat.le_refl _) _).alloc (by simp) _).alloc (by simp; omega) _, [.int .i64 x0, .int .i64 x1, .int .i64 x2], fun _ => False, rfl, OwnL.cons (S0 := fun _ => False) (S := fun _ => False) (.i x0 _ (fun _ h => h)) (OwnL.cons (S0 := fun _ => False) (S := fun _ => False) (.i x1 _ (fun _ h => h)) (OwnL.cons (S0 := fun _ => False) (S := fun _ => False) (.i x2 _ (fun _ h => h)) (OwnL.nil (fun _ h => h)) (fun _ h => h.elim) (fun _ => by simp)) (fun _ h => h.elim) (fun _ => by simp)) (fun _ h => h.elim) (fun _ => by simp)⟩
set_option maxHeartbeats 1000000 in
theorem dToEntryS (v : Value) (n : Nat) (cs : List Cel) (w : World) (h : At false w v (.l 139 3 n cs)) (hs : Has (.l 139 3 n cs) (.l 139 3 tyEntry)) :
    Calls Tryz.prog 100 #[v] w (Ret w (.l 139 3 n cs)) := by
  obtain ⟨a, c, vs, rfl, h1, h2, hn, -, h3, h4⟩ := h.openL
  have SRC : Hid (n = 0 ∨ ∃ b o, a = some ⟨b, o, none⟩ ∧ ∀ j, j < n * 3 → w.cell? ⟨b, o + j, none⟩ = vs[j]?) := h3
  have HV : Hid (∀ j, j < n → AtL false w ((vs.drop (j * 3)).take 3) (row cs 3 j)) := fun j hj => rowVals h1 h2 h4 hj
  have HR : Hid (∀ j, j < n → HasL (row cs 3 j) tyEntry) := fun j hj => hs.rowL hj
  have L2 : Hid (cs.length = n * 3) := h2
  have L1 : Hid (vs.length = n * 3) := h1
  obtain ⟨i0, hi, hz⟩ := Option.map_eq_some_iff.1 dInfoEntry
  obtain ⟨i1, hi', hb1⟩ := Option.map_eq_some_iff.1 dBytesEntry
  obtain rfl : i0 = i1 := Option.some.inj (hi.symm.trans hi')
  have hz0 : i0.zero = some (.agg #[.int .i64 0, .int .i64 0, .int .i64 0]) := congrArg Prod.fst hz
  have hz1 : i0.size = 3 := congrArg Prod.snd hz
  have hz2 : i0.bytes ≤ 1024 := of_decide_eq_true hb1
  have hby : i0.bytes * n ≤ 1024 * 2097152 := Nat.mul_le_mul hz2 hn
  clear h h1 h2 h3 h4 hs hz hb1 hi'
  go_enter Tryz.func100, Tryz.ntmps100
  go_wp2_with (at_make; refine wpList_make_full _ rfl _ _ 135 rfl w.heap.size 139 i0 (.agg #[.int .i64 0, .int .i64 0, .int .i64 0]) 3 Tryz.underlying135 hi hz0 hz1 .i64 .i64 _ _ n rfl rfl rfl rfl (by first | omega | (rw [Nat.mul_comm]; omega)) (by unfold maxLen; omega) (Nat.le_refl _) ?_; intro w1 own1 grow1)
  obtain ⟨ps0, lp0, O0⟩ := own_made (zv := [.int .i64 0, .int .i64 0, .int .i64 0]) (zc := [.i 0, .i 0, .i 0]) own1 hn rfl (fun j v hv => made_at hv (by decide)) (by
    intro i v c hv hc w'
    have hi : i < 3 := by have := (List.getElem?_eq_some_iff.1 hv).1; simpa using this
    rcases (show i = 0 ∨ i = 1 ∨ i = 2 by omega) with rfl | rfl | rfl <;> (simp at hv hc; subst hv hc)
    · exact .i _ _ (fun _ h => h)
    · exact .i _ _ (fun _ h => h)
    · exact .i _ _ (fun _ h => h))
  have hb1 : Below w.heap.size w w1 := (Below.refl _ _).grown grow1 (Nat.le_refl _) (fun k e => by cases e)
  clear own1 grow1
  go_loopw [4] (fun i wr => ∃ j : Nat, j ≤ n ∧ i = .int .i64 (j : Int) ∧ (∃ ps S, ps.length = n * 3 ∧ ps.take (j * 3) = cs.take (j * 3) ∧ Own wr w.heap.size (.slice (some ⟨w.heap.size, 0, none⟩) n n) (.l 139 3 n ps) S) ∧ Below w.heap.size w wr) (fun i _ => n - (intOf i).toNat)
  case atStart => exact ⟨0, Nat.zero_le _, by simp, ⟨ps0, _, lp0, by simp, O0⟩, hb1⟩
  case round =>
    obtain ⟨j, hj, rfl, ⟨ps, S, lp, tp, ho⟩, hb⟩ := hrel
    clear O0 hb1 lp0
    by_cases hlt : j < n
    · rcases SRC.out with h0 | ⟨p1, o1, rfl, g1⟩
      · omega
      have hk0 : (0 : Int) ≤ (j : Int) := by omega
      have hk1 : (j : Int) < (n : Int) := by omega
      have hA := HV.out j hlt
      have hH := HR.out j hlt
      have hcv : ∀ i, i < 3 → wr.cell? ⟨p1, o1 + (j * 3 + i), none⟩ = ((vs.drop (j * 3)).take 3)[i]? := fun i hi => by
        have hle : j * 3 + 3 ≤ n * 3 := by omega
        have h5 := g1 (j * 3 + i) (by omega)
        rw [List.getElem?_take_of_lt hi, List.getElem?_drop, ← h5]
        have h6 : w.cell? ⟨p1, o1 + (j * 3 + i), none⟩ = some (vs[j * 3 + i]'(by have := L1.out; omega)) := by rw [h5, List.getElem?_eq_getElem (by have := L1.out; omega)]
        exact hb.cell (show p1 < w.heap.size from World.block_lt_of_cell? w _ h6)
      obtain ⟨rs, hrs⟩ : ∃ rs, row cs 3 j = rs := ⟨_, rfl⟩
      obtain ⟨ws, hws⟩ : ∃ ws, (vs.drop (j * 3)).take 3 = ws := ⟨_, rfl⟩
      have HRS : Hid (row cs 3 j = rs) := hrs
      rw [hrs] at hA hH
      rw [hws] at hA hcv
      clear g1 hrs hws
      obtain ⟨c0, r0, rfl, T0, hH0⟩ := hH.cons
      obtain ⟨c1, r1, rfl, T1, hH1⟩ := hH0.cons
      obtain ⟨c2, r2, rfl, T2, hH2⟩ := hH1.cons
      obtain rfl := hH2.nil
      have HL0 : Hid (HasL [c0, c1, c2] tyEntry) := hH
      obtain ⟨v0, vr0, rfl, A0, hA0⟩ := hA.consE
      obtain ⟨v1, vr1, rfl, A1, hA1⟩ := hA0.consE
      obtain ⟨v2, vr2, rfl, A2, hA2⟩ := hA1.consE
      obtain rfl := hA2.nilE
      have HA0 : Hid (AtL false w [v0, v1, v2] [c0, c1, c2]) := hA
      have e0 : wr.cell? ⟨p1, o1 + j * 3, none⟩ = some v0 := hcv 0 (by omega)
      have e1 : wr.cell? ⟨p1, o1 + j * 3 + 1, none⟩ = some v1 := hcv 1 (by omega)
      have e2 : wr.cell? ⟨p1, o1 + j * 3 + 2, none⟩ = some v2 := hcv 2 (by omega)
      clear hcv hA hH hA0 hH0 hA1 hH1 hA2 hH2
      have HO : Hid (Own wr w.heap.size (.slice (some ⟨w.heap.size, 0, none⟩) n n) (.l 139 3 n ps) S) := ho
      clear ho
      go_wp2_with fail
      refine (dToEntry [v0, v1, v2] [c0, c1, c2] _ (HA0.out.on hb (Nat.le_refl _)) HL0.out).mono ?_
      rintro e w2 ⟨hb2, us, S', rfl, oL⟩
      have hU := oL.at
      obtain ⟨u0, ur0, rfl, U0, hA0⟩ := hU.consE
      obtain ⟨u1, ur1, rfl, U1, hA1⟩ := hA0.consE
      obtain ⟨u2, ur2, rfl, U2, hA2⟩ := hA1.consE
      obtain rfl := hA2.nilE
      obtain ⟨x0, rfl⟩ := T0.int
      obtain ⟨x1, rfl⟩ := T1.int
      obtain ⟨x2, rfl⟩ := T2.int
      obtain rfl := U0.int
      obtain rfl := U1.int
      obtain rfl := U2.int
      have O2 := HO.out.on hb2 (Nat.le_refl _)
      have hb02 : Below w.heap.size w w2 := hb.trans (hb2.mono hb.size)
      obtain ⟨pv0, -, hc0, hf0, -⟩ := O2.cell (j := j * 3) (List.getElem?_eq_getElem (by omega))
      obtain ⟨pv1, -, hc1, hf1, -⟩ := O2.cell (j := j * 3 + 1) (List.getElem?_eq_getElem (by omega))
      obtain ⟨pv2, -, hc2, hf2, -⟩ := O2.cell (j := j * 3 + 2) (List.getElem?_eq_getElem (by omega))
      have OL : Hid (OwnL w2 wr.heap.size [.int .i64 x0, .int .i64 x1, .int .i64 x2] [.i x0, .i x1, .i x2] S') := oL
      have HO2 : Hid (Own w2 w.heap.size (.slice (some ⟨w.heap.size, 0, none⟩) n n) (.l 139 3 n ps) S) := O2
      have HRS' : Hid (row cs 3 j = [.i x0, .i x1, .i x2]) := HRS.out
      clear oL O2 hb2 hU e0 e1 e2 
      go_wp2
      go_roundw
      case rel =>
        have slt : ∀ x, S x → x < wr.heap.size := fun x hx => (HO.out.lt x hx).2
        obtain ⟨S'', o'', -⟩ := Own.storeL (p := j * 3) HO2.out (OL.out.weaken hb.size) (fun x hx hx' => by have h1 := (OL.out.lt x hx).1; have h2 := slt x hx'; omega) (by simp; omega)
        have hle : j * 3 + 3 ≤ n * 3 := by omega
        refine ⟨j + 1, by omega, by go_num, ⟨_, S'', ?_, ?_, o''⟩, stores_below (Nat.le_refl _) [.int .i64 x0, .int .i64 x1, .int .i64 x2] w2 (j * 3) hb02⟩
        · rw [over_len]; exact lp
        · have h3 := over_take [.i x0, .i x1, .i x2] ps (j * 3) (by simp; omega)
          rw [row_split (cs := cs), HRS'.out, ← tp, show (j + 1) * 3 = j * 3 + ([.i x0, .i x1, .i x2] : List Cel).length by simp; omega]
          exact h3
      case measure => simp [intOf]; omega
    · obtain rfl : j = n := by omega
      have e : ps = cs := by rwa [List.take_of_length_le (by omega), List.take_of_length_le (by have := L2.out; omega)] at tp
      subst e
      go_wp2
      go_ret
      exact ⟨hb, _, S, rfl, ho⟩
theorem dInfoWord : (Tryz.prog.info? 134).map (fun i => (i.zero, i.size)) = some (some (.agg #[.int .i64 0, .int .i64 0, .int .i64 0]), 3) := by kernel_rfl
theorem dBytesWord : (Tryz.prog.info? 134).map (fun i => decide (i.bytes ≤ 1024)) = some true := by kernel_rfl
set_option maxHeartbeats 1000000 in
theorem dToWord (vs : List Value) (cs : List Cel) (w : World) (h : AtL false w vs cs) (hs : HasL cs tyWord) : Calls Tryz.prog 71 #[.agg vs.toArray] w (RetL w cs) := by
  obtain ⟨c0, r0, rfl, T0, hH0⟩ := hs.cons
  obtain ⟨c1, r1, rfl, T1, hH1⟩ := hH0.cons
  obtain ⟨c2, r2, rfl, T2, hH2⟩ := hH1.cons
  obtain rfl := hH2.nil
  obtain ⟨x0, rfl⟩ := T0.int
  obtain ⟨x1, rfl⟩ := T1.int
  obtain ⟨x2, rfl⟩ := T2.int
  obtain ⟨v0, vr0, rfl, A0, hA0⟩ := h.consE
  obtain ⟨v1, vr1, rfl, A1, hA1⟩ := hA0.consE
  obtain ⟨v2, vr2, rfl, A2, hA2⟩ := hA1.consE
  obtain rfl := hA2.nilE
  obtain rfl := A0.int
  obtain rfl := A1.int
  obtain rfl := A2.int
  obtain ⟨R, hR⟩ : ∃ R, Value.agg #[.int .i64 x0, .int .i64 x1, .int .i64 x2] = R := ⟨_, rfl⟩
  have HR : Hid (Value.agg #[.int .i64 x0, .int .i64 x1, .int .i64 x2] = R) := hR
  clear hR
  go_enter Tryz.func71, Tryz.ntmps71
  go_wp2
  (try simp only [Exit.inBlock, Exit.then])
  refine bodyPost_ret (by simp [results, Tryz.results71, go_sem]; try rfl) rfl ?_
  exact ⟨(((Below.refl _ _).alloc (Nat.le_refl _) _).alloc (by simp) _).alloc (by simp; omega) _, [.int .i64 x0, .int .i64 x1, .int .i64 x2], fun _ => False, rfl, OwnL.cons (S0 := fun _ => False) (S := fun _ => False) (.i x0 _ (fun _ h => h)) (OwnL.cons (S0 := fun _ => False) (S := fun _ => False) (.i x1 _ (fun _ h => h)) (OwnL.cons (S0 := fun _ => False) (S := fun _ => False) (.i x2 _ (fun _ h => h)) (OwnL.nil (fun _ h => h)) (fun _ h => h.elim) (fun _ => by simp)) (fun _ h => h.elim) (fun _ => by simp)) (fun _ h => h.elim) (fun _ => by simp)⟩
set_option maxHeartbeats 1000000 in
theorem dToWordS (v : Value) (n : Nat) (cs : List Cel) (w : World) (h : At false w v (.l 134 3 n cs)) (hs : Has (.l 134 3 n cs) (.l 134 3 tyWord)) :
    Calls Tryz.prog 43 #[v] w (Ret w (.l 134 3 n cs)) := by
  obtain ⟨a, c, vs, rfl, h1, h2, hn, -, h3, h4⟩ := h.openL
  have SRC : Hid (n = 0 ∨ ∃ b o, a = some ⟨b, o, none⟩ ∧ ∀ j, j < n * 3 → w.cell? ⟨b, o + j, none⟩ = vs[j]?) := h3
  have HV : Hid (∀ j, j < n → AtL false w ((vs.drop (j * 3)).take 3) (row cs 3 j)) := fun j hj => rowVals h1 h2 h4 hj
  have HR : Hid (∀ j, j < n → HasL (row cs 3 j) tyWord) := fun j hj => hs.rowL hj
  have L2 : Hid (cs.length = n * 3) := h2
  have L1 : Hid (vs.length = n * 3) := h1
  obtain ⟨i0, hi, hz⟩ := Option.map_eq_some_iff.1 dInfoWord
  obtain ⟨i1, hi', hb1⟩ := Option.map_eq_some_iff.1 dBytesWord
  obtain rfl : i0 = i1 := Option.some.inj (hi.symm.trans hi')
  have hz0 : i0.zero = some (.agg #[.int .i64 0, .int .i64 0, .int .i64 0]) := congrArg Prod.fst hz
  have hz1 : i0.size = 3 := congrArg Prod.snd hz
  have hz2 : i0.bytes ≤ 1024 := of_decide_eq_true hb1
  have hby : i0.bytes * n ≤ 1024 * 2097152 := Nat.mul_le_mul hz2 hn
  clear h h1 h2 h3 h4 hs hz hb1 hi'
  go_enter Tryz.func43, Tryz.ntmps43
  go_wp2_with (at_make; refine wpList_make_full _ rfl _ _ 35 rfl w.heap.size 134 i0 (.agg #[.int .i64 0, .int .i64 0, .int .i64 0]) 3 Tryz.underlying35 hi hz0 hz1 .i64 .i64 _ _ n rfl rfl rfl rfl (by first | omega | (rw [Nat.mul_comm]; omega)) (by unfold maxLen; omega) (Nat.le_refl _) ?_; intro w1 own1 grow1)
  obtain ⟨ps0, lp0, O0⟩ := own_made (zv := [.int .i64 0, .int .i64 0, .int .i64 0]) (zc := [.i 0, .i 0, .i 0]) own1 hn rfl (fun j v hv => made_at hv (by decide)) (by
    intro i v c hv hc w'
    have hi : i < 3 := by have := (List.getElem?_eq_some_iff.1 hv).1; simpa using this
    rcases (show i = 0 ∨ i = 1 ∨ i = 2 by omega) with rfl | rfl | rfl <;> (simp at hv hc; subst hv hc)
    · exact .i _ _ (fun _ h => h)
    · exact .i _ _ (fun _ h => h)
    · exact .i _ _ (fun _ h => h))
  have hb1 : Below w.heap.size w w1 := (Below.refl _ _).grown grow1 (Nat.le_refl _) (fun k e => by cases e)
  clear own1 grow1
  go_loopw [4] (fun i wr => ∃ j : Nat, j ≤ n ∧ i = .int .i64 (j : Int) ∧ (∃ ps S, ps.length = n * 3 ∧ ps.take (j * 3) = cs.take (j * 3) ∧ Own wr w.heap.size (.slice (some ⟨w.heap.size, 0, none⟩) n n) (.l 134 3 n ps) S) ∧ Below w.heap.size w wr) (fun i _ => n - (intOf i).toNat)
  case atStart => exact ⟨0, Nat.zero_le _, by simp, ⟨ps0, _, lp0, by simp, O0⟩, hb1⟩
  case round =>
    obtain ⟨j, hj, rfl, ⟨ps, S, lp, tp, ho⟩, hb⟩ := hrel
    clear O0 hb1 lp0
    by_cases hlt : j < n
    · rcases SRC.out with h0 | ⟨p1, o1, rfl, g1⟩
      · omega
      have hk0 : (0 : Int) ≤ (j : Int) := by omega
      have hk1 : (j : Int) < (n : Int) := by omega
      have hA := HV.out j hlt
      have hH := HR.out j hlt
      have hcv : ∀ i, i < 3 → wr.cell? ⟨p1, o1 + (j * 3 + i), none⟩ = ((vs.drop (j * 3)).take 3)[i]? := fun i hi => by
        have hle : j * 3 + 3 ≤ n * 3 := by omega
        have h5 := g1 (j * 3 + i) (by omega)
        rw [List.getElem?_take_of_lt hi, List.getElem?_drop, ← h5]
        have h6 : w.cell? ⟨p1, o1 + (j * 3 + i), none⟩ = some (vs[j * 3 + i]'(by have := L1.out; omega)) := by rw [h5, List.getElem?_eq_getElem (by have := L1.out; omega)]
        exact hb.cell (show p1 < w.heap.size from World.block_lt_of_cell? w _ h6)
      obtain ⟨rs, hrs⟩ : ∃ rs, row cs 3 j = rs := ⟨_, rfl⟩
      obtain ⟨ws, hws⟩ : ∃ ws, (vs.drop (j * 3)).take 3 = ws := ⟨_, rfl⟩
      have HRS : Hid (row cs 3 j = rs) := hrs
      rw [hrs] at hA hH
      rw [hws] at hA hcv
      clear g1 hrs hws
      obtain ⟨c0, r0, rfl, T0, hH0⟩ := hH.cons
      obtain ⟨c1, r1, rfl, T1, hH1⟩ := hH0.cons
      obtain ⟨c2, r2, rfl, T2, hH2⟩ := hH1.cons
      obtain rfl := hH2.nil
      have HL0 : Hid (HasL [c0, c1, c2] tyWord) := hH
      obtain ⟨v0, vr0, rfl, A0, hA0⟩ := hA.consE
      obtain ⟨v1, vr1, rfl, A1, hA1⟩ := hA0.consE
      obtain ⟨v2, vr2, rfl, A2, hA2⟩ := hA1.consE
      obtain rfl := hA2.nilE
      have HA0 : Hid (AtL false w [v0, v1, v2] [c0, c1, c2]) := hA
      have e0 : wr.cell? ⟨p1, o1 + j * 3, none⟩ = some v0 := hcv 0 (by omega)
      have e1 : wr.cell? ⟨p1, o1 + j * 3 + 1, none⟩ = some v1 := hcv 1 (by omega)
      have e2 : wr.cell? ⟨p1, o1 + j * 3 + 2, none⟩ = some v2 := hcv 2 (by omega)
      clear hcv hA hH hA0 hH0 hA1 hH1 hA2 hH2
      have HO : Hid (Own wr w.heap.size (.slice (some ⟨w.heap.size, 0, none⟩) n n) (.l 134 3 n ps) S) := ho
      clear ho
      go_wp2_with fail
      refine (dToWord [v0, v1, v2] [c0, c1, c2] _ (HA0.out.on hb (Nat.le_refl _)) HL0.out).mono ?_
      rintro e w2 ⟨hb2, us, S', rfl, oL⟩
      have hU := oL.at
      obtain ⟨u0, ur0, rfl, U0, hA0⟩ := hU.consE
      obtain ⟨u1, ur1, rfl, U1, hA1⟩ := hA0.consE
      obtain ⟨u2, ur2, rfl, U2, hA2⟩ := hA1.consE
      obtain rfl := hA2.nilE
      obtain ⟨x0, rfl⟩ := T0.int
      obtain ⟨x1, rfl⟩ := T1.int
      obtain ⟨x2, rfl⟩ := T2.int
      obtain rfl := U0.int
      obtain rfl := U1.int
      obtain rfl := U2.int
      have O2 := HO.out.on hb2 (Nat.le_refl _)
      have hb02 : Below w.heap.size w w2 := hb.trans (hb2.mono hb.size)
      obtain ⟨pv0, -, hc0, hf0, -⟩ := O2.cell (j := j * 3) (List.getElem?_eq_getElem (by omega))
      obtain ⟨pv1, -, hc1, hf1, -⟩ := O2.cell (j := j * 3 + 1) (List.getElem?_eq_getElem (by omega))
      obtain ⟨pv2, -, hc2, hf2, -⟩ := O2.cell (j := j * 3 + 2) (List.getElem?_eq_getElem (by omega))
      have OL : Hid (OwnL w2 wr.heap.size [.int .i64 x0, .int .i64 x1, .int .i64 x2] [.i x0, .i x1, .i x2] S') := oL
      have HO2 : Hid (Own w2 w.heap.size (.slice (some ⟨w.heap.size, 0, none⟩) n n) (.l 134 3 n ps) S) := O2
      have HRS' : Hid (row cs 3 j = [.i x0, .i x1, .i x2]) := HRS.out
      clear oL O2 hb2 hU e0 e1 e2 
      go_wp2
      go_roundw
      case rel =>
        have slt : ∀ x, S x → x < wr.heap.size := fun x hx => (HO.out.lt x hx).2
        obtain ⟨S'', o'', -⟩ := Own.storeL (p := j * 3) HO2.out (OL.out.weaken hb.size) (fun x hx hx' => by have h1 := (OL.out.lt x hx).1; have h2 := slt x hx'; omega) (by simp; omega)
        have hle : j * 3 + 3 ≤ n * 3 := by omega
        refine ⟨j + 1, by omega, by go_num, ⟨_, S'', ?_, ?_, o''⟩, stores_below (Nat.le_refl _) [.int .i64 x0, .int .i64 x1, .int .i64 x2] w2 (j * 3) hb02⟩
        · rw [over_len]; exact lp
        · have h3 := over_take [.i x0, .i x1, .i x2] ps (j * 3) (by simp; omega)
          rw [row_split (cs := cs), HRS'.out, ← tp, show (j + 1) * 3 = j * 3 + ([.i x0, .i x1, .i x2] : List Cel).length by simp; omega]
          exact h3
      case measure => simp [intOf]; omega
    · obtain rfl : j = n := by omega
      have e : ps = cs := by rwa [List.take_of_length_le (by omega), List.take_of_length_le (by have := L2.out; omega)] at tp
      subst e
      go_wp2
      go_ret
      exact ⟨hb, _, S, rfl, ho⟩
end Go.Proofs.YtkbodiggdajbeaaGreatDoor
