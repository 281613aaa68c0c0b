/- Texts joined: ImplNew, SpecNew. -/
import Derived.Test.YtcfimaffeopbbaaGreatDoorQM12
import Derived.Test.YtcfimaffeopbbaaGreatDoorQM14
import Derived.Test.YtcfimaffeopbbaaGreatDoorQM13
set_option maxHeartbeats 8000000
set_option maxRecDepth 100000
namespace Go.Proofs.YtcfimaffeopbbaaGreatDoor
section
open Go.ChangeShapes Go.WideShapes Go.ChangeAt Go.RowKit
theorem cell_three_at (w : World) (x y z : Value) (t : TypeId) : ∀ (j : Nat) (u : Value), [x, y, z][j]? = some u → (w.alloc (.cells #[x, y, z] t)).cell? ((⟨w.heap.size, 0, none⟩ : Addr).add j) = some u := by
 intro j u hj
 match j, hj with
 | 0, hj => simpa [Addr.add] using hj
 | 1, hj => simpa [Addr.add] using hj
 | 2, hj => simpa [Addr.add] using hj
 | j + 3, hj => simp at hj
theorem three_one {x y z : Int} : ∀ u ∈ [I x, I y, I z], u.oneCell' = true := by
 intro u hu
 simp at hu
 rcases hu with rfl | rfl | rfl <;> rfl
theorem nil_not_int {v d : Value} (hv : ∀ x : Int, v ≠ I x) (hd : ∀ x : Int, d ≠ I x) : ∀ (i : Nat) (x : Int), (#[v, d] : Array Value)[i]? ≠ some (I x) := by
 intro i x h
 match i, h with
 | 0, h => exact hv x (by simpa using h)
 | 1, h => exact hd x (by simpa using h)
 | i + 2, h => simp at h
theorem far_row {w0 w w' : World} {bm : Nat} {row : Option Nat} (h : w0.grownBy w (some bm)) (hg : w.grownBy w' row) (hr : ∀ g, row = some g → w0.heap.size ≤ g) : w0.grownBy w' (some bm) :=
 ⟨hg.os.trans h.os, hg.tape.trans h.tape, hg.output.trans h.output, Nat.le_trans h.size hg.size, fun k hk hne => (hg.block k (Nat.lt_of_lt_of_le hk h.size) (fun e => by have := hr k e.symm; omega)).trans (h.block k hk hne)⟩
theorem far_put {w0 w : World} {bm : Nat} (h : w0.grownBy w (some bm)) (j : Nat) (v : Value) : w0.grownBy (w.setCell ⟨bm, j, none⟩ v) (some bm) :=
 ⟨h.os, h.tape, h.output, by simpa [World.setCell] using h.size, fun k hk hne => (Below.heap_setCell _ _ _ _ (fun e => hne (by rw [e]))).trans (h.block k hk hne)⟩
theorem ne_row {g b bm n c : Nat} (h : g < bm) (hb : (Value.slice (some ⟨g, 0, none⟩) n c).ownBlock = some b) : some b ≠ some bm := fun e => by
 have h1 : g = b := by simpa [Value.ownBlock] using hb
 have h2 : b = bm := by simpa using e
 omega
structure NewSt (w1 : World) (bm base : Nat) (d : Value) (L : List Int) (k : Nat) (wr : World) : Prop where
 box : ∃ v, Box wr bm #[v, d] 31 ∧ wr.ownsRow base 75 3 v k ((wordsF L k).map I)
 far : w1.grownBy wr (some bm)
theorem implMemNew_any (a : Option Addr) (n : Nat) (st t : Int) (xs L : List Int) (w : World) (hA : IntAt w a n xs) (hi : ∀ x ∈ xs, (Lit.int .i64 x).wf = true) (hN : Names w) (hL : TellsL xs st L) :
   Calls Tryz.prog 25 #[RowsV a n n st, .int .i64 t] w fun e w' => (∃ F m fs nn ds ok, e = .returned (.tuple #[MemF F, .bool ok]) ∧ NewSays L t m fs nn ds ok ∧ MemO w' w.heap.size F m fs nn ds) ∧ Below w.heap.size w w' := by
 obtain ⟨W, hW⟩ : ∃ W, ((w.alloc (.cells #[.slice a n n, .int .i64 st] 34)).alloc (.cells #[.slice none 0 0, .slice none 0 0] 31)) = W := ⟨_, rfl⟩
 have hb0 : Below w.heap.size w W := by rw [← hW]; exact ((Below.refl _ w).alloc (Nat.le_refl _) _).alloc (by simp) _
 have hsz : W.heap.size = w.heap.size + 2 := by rw [← hW]; simp
 have X0 : Hid (Box W w.heap.size #[.slice a n n, .int .i64 st] 34) := by rw [← hW]; exact (box_of w _ _).alloc _
 have R0 : Hid (Box W (w.heap.size + 1) #[.slice none 0 0, .slice none 0 0] 31) := by
   have := box_of (w.alloc (.cells #[.slice a n n, .int .i64 st] 34)) #[.slice none 0 0, .slice none 0 0] 31
   rw [hW] at this
   show Box _ _ _ _
   simpa using this
 have HA : Hid (IntAt W a n xs) := hA.below hb0 (Nat.le_refl _)
 have HI : Hid (∀ x ∈ xs, (Lit.int .i64 x).wf = true) := hi
 have HN : Hid (Names W) := hN.below hb0 hN.lt
 have HL : Hid (TellsL xs st L) := hL
 have HB0 : Hid (Below w.heap.size w W) := hb0
 have HW : Hid (((w.alloc (.cells #[.slice a n n, .int .i64 st] 34)).alloc (.cells #[.slice none 0 0, .slice none 0 0] 31)) = W) := hW
 clear hA hi hN hL hW hb0
 rcases hI : inB t 1 4 with _ | _
 · have HIN : Hid (inB t 1 4 = false) := hI
   have HNO : Hid (¬ NewGood L t) := fun h => by rw [inB_yes h.1] at hI; cases hI
   clear hI
   obtain ⟨r0, r1, z0, z1⟩ := R0.out.two
   go_enter Tryz.func25, Tryz.ntmps25
   go_wp2_with fail
   rw [HW.out]
   refine (within_g t 1 4 _).mono ?_
   rintro e w1 ⟨rfl, rfl⟩
   rw [HIN.out]
   have E := ((R0.out.put 0 (.slice none 0 0)).put 1 (.slice none 0 0)).two
   obtain ⟨e0, e1, _, _⟩ := E
   go_wp2
   (try simp only [Exit.inBlock, Exit.then])
   refine bodyPost_ret (by simp [results, Tryz.results25, go_sem, e0, e1]; try rfl) rfl ?_
   exact ⟨⟨_, 0, [], 0, [], false, rfl, .inr ⟨rfl, HNO.out, rfl, rfl, rfl, rfl⟩, memO_none _ _⟩, (HB0.out.setCell (by simp) _).setCell (by simp) _⟩
 have hv := inB_val hI
 have HIN : Hid (inB t 1 4 = true) := hI
 obtain ⟨tn, rfl⟩ : ∃ tn : Nat, t = (tn : Int) := ⟨t.toNat, by omega⟩
 clear hI
 obtain ⟨i0, hin, hz0, hz1, hz2⟩ := info_parts infoDesc
 obtain ⟨j0, hjn, hy0, hy1, hy2⟩ := info_parts infoWord
 go_enter Tryz.func25, Tryz.ntmps25
 go_wp2_with fail
 rw [HW.out]
 refine (within_g _ 1 4 _).mono ?_
 rintro e w1 ⟨rfl, hw1⟩
 rw [HIN.out]
 obtain rfl : W = w1 := hw1.symm
 clear hw1
 obtain ⟨x0, x1, _, _⟩ := X0.out.two
 go_wp2_with
   (at_make
    refine wpList_make_full _ rfl _ _ 29 rfl w.heap.size 104 i0 (.agg (DescC 0 0 none 0 0 0 none 0 0)) 5 Tryz.underlying29 hin hz0 hz1 .i64 .i64 _ _ tn rfl rfl rfl rfl (by rw [hz2]; omega) (by unfold maxLen; omega) (by omega) ?_
    intro w2 own2 grow2
    have hb2 : Below W.heap.size W w2 := (Below.refl _ _).grown grow2 (Nat.le_refl _) (fun k e => by cases e)
    obtain ⟨y0, y1, _, _⟩ := (X0.out.below hb2 X0.out.lt).two
    have l2 := (X0.out.below hb2 X0.out.lt).lt)
 rw [hsz] at own2
 obtain ⟨W2, hW2⟩ : ∃ W2, w2.alloc (.cells #[.slice none 0 0, SL (w.heap.size + 2) tn] 31) = W2 := ⟨_, rfl⟩
 have hb3 : Below w2.heap.size w2 W2 := by rw [← hW2]; exact (Below.refl _ _).alloc (Nat.le_refl _) _
 have hb02 : Below W.heap.size W W2 := hb2.trans (hb3.mono hb2.size)
 have HB2 : Hid (Below W.heap.size W W2) := hb02
 have hl2 : w.heap.size + 2 < w2.heap.size := (own2.lt _ rfl).2
 have OD2 : Hid (W2.ownsRow w.heap.size 104 5 (SL (w.heap.size + 2) tn) tn (madeCells (Value.agg (DescC 0 0 none 0 0 0 none 0 0)).cells (tn * 5)).toList) := owns_below own2 hb3 (Nat.le_refl _)
 have M2 : Hid (Box W2 w2.heap.size #[.slice none 0 0, SL (w.heap.size + 2) tn] 31) := by rw [← hW2]; exact box_of w2 _ _
 have HW2 : Hid (w2.alloc (.cells #[.slice none 0 0, SL (w.heap.size + 2) tn] 31) = W2) := hW2
 obtain ⟨bm, hbm⟩ : ∃ bm, w2.heap.size = bm := ⟨_, rfl⟩
 rw [hbm] at M2 hl2 ⊢
 clear own2 grow2 hb2 y0 y1 hb3 hb02 hW2 x0 x1
 rw [HW2.out]
 refine (implWordsT a n st xs L _ (HA.out.below HB2.out (Nat.le_refl _)) HI.out (HN.out.below HB2.out HN.out.lt) HL.out).mono ?_
 rintro e w3 ⟨⟨la, ln, lc, rfl, hla⟩, hb3⟩
 have HLA : Hid (IntAt w3 la ln L) := hla
 have hln : L.length = ln := hla.1
 have hl20 : ln ≤ 20 := by rw [← hln]; exact HL.out.len
 have M3 : Hid (Box w3 bm #[.slice none 0 0, SL (w.heap.size + 2) tn] 31) := M2.out.below hb3 M2.out.lt
 have HB3 : Hid (Below W.heap.size W w3) := HB2.out.trans (hb3.mono HB2.out.size)
 have OD3 : Hid (w3.ownsRow w.heap.size 104 5 (SL (w.heap.size + 2) tn) tn (madeCells (Value.agg (DescC 0 0 none 0 0 0 none 0 0)).cells (tn * 5)).toList) := owns_below OD2.out hb3 (Nat.le_refl _)
 have APT : Hid (∀ p, la = some p → 0 < ln → p.block ≠ bm) := fun p hp hpos => by
   subst hp
   obtain ⟨pb, po, pm⟩ := p
   rcases hla.2.2 with h0 | ⟨p', o', he, _⟩
   · omega
   · cases he
     exact int_apart hla hpos M3.out (nil_not_int (fun x h => by cases h) (fun x h => by cases h))
 clear hla hb3 M2 OD2 HB2 HW2
 go_wp2
 go_loopw [19] (fun i wr => ∃ k : Nat, k ≤ ln ∧ i = .int .i64 (k : Int) ∧ NewSt w3 bm w3.heap.size (SL (w.heap.size + 2) tn) L k wr) (fun i _ => ln - (intOf i).toNat)
 case atStart => exact ⟨0, Nat.zero_le _, rfl, ⟨_, M3.out, World.ownsRow_nil _ _ _ _⟩, far_below (Below.refl _ _) _⟩
 case round =>
   obtain ⟨k, hk, rfl, hst⟩ := hrel
   have ST : Hid (NewSt w3 bm w3.heap.size (SL (w.heap.size + 2) tn) L k wr) := hst
   obtain ⟨v, hbx, hown⟩ := hst.box
   have hbx' : Hid (Box wr bm #[v, SL (w.heap.size + 2) tn] 31) := hbx
   have HO : Hid (wr.ownsRow w3.heap.size 75 3 v k ((wordsF L k).map I)) := hown
   obtain ⟨c0, c1, z0, z1⟩ := hbx.two
   have hbl := hbx.lt
   clear hst hbx hown
   by_cases hlt : k < ln
   · have hk0 : (0 : Int) ≤ (k : Int) := by omega
     have hk1 : (k : Int) < (ln : Int) := by omega
     rcases (int_grown HLA.out ST.out.far APT.out).2.2 with h0 | ⟨p1, o1, rfl, g1⟩
     · omega
     have e1 := g1 k hlt
     obtain ⟨x, hx⟩ : ∃ x, L.getD k 0 = x := ⟨_, rfl⟩
     have HX : Hid (L.getD k 0 = x) := hx
     rw [hx] at e1
     clear g1 hx
     go_wp2_with
       (at_builtin
        refine wpList_append_own _ rfl _ _ 28 rfl w3.heap.size 75 j0 (.agg #[.int .i64 0, .int .i64 0, .int .i64 0]) 3 24 Tryz.underlying28 hjn hy0 hy1 hy2 rfl (by decide) _ _ _ rfl (HO.out.alloc _) ⟨wr.heap.size, 0, none⟩ 1 1 [I x, I 0, I 0] rfl rfl (cell_three_at _ _ _ _ _) three_one (by unfold maxLen; omega) (by omega) (by have := ST.out.far.size; simp; omega) ?_
        intro v' w4 hown4 hgrow4 _
        have hg4 : wr.grownBy w4 v.ownBlock := (far_below ((Below.refl _ _).alloc (Nat.le_refl _) _) v.ownBlock).trans hgrow4
        have hvb : v.ownBlock ≠ some bm := fun e => by have := (HO.out.lt bm e).1; have := M3.out.lt; omega
        have X4 : Box w4 bm #[v, SL (w.heap.size + 2) tn] 31 := by
          show w4.heap[bm]? = _
          rw [hg4.block bm hbl (fun e => hvb e.symm)]
          exact hbx'.out
        obtain ⟨f0, f1, y0, y1⟩ := X4.two
        obtain ⟨a', c', rfl, _⟩ := owns_slice hown4)
     have NX : Hid (NewSt w3 bm w3.heap.size (SL (w.heap.size + 2) tn) L (k + 1) (w4.setCell ⟨bm, 0, none⟩ (.slice a' (k + 1) c'))) := by
       refine ⟨⟨.slice a' (k + 1) c', X4.put 0 (.slice a' (k + 1) c'), ?_⟩, far_put (far_row ST.out.far hg4 (fun g e => (HO.out.lt g e).1)) 0 _⟩
       refine own_setCell_far ?_ (fun e => ?_) _
       · have e2 : ((wordsF L (k + 1)).map I) = (wordsF L k).map I ++ [I x, I 0, I 0] := by
           unfold wordsF
           rw [flat3_succ, List.map_append, HX.out]
           rfl
         rw [e2]
         exact hown4
       · have h1 := (hown4.lt bm e).1
         have := M3.out.lt
         omega
     clear hown4 hgrow4 hg4 X4 f0 f1 y0 y1 c0 c1 z0 z1 e1
     go_wp2
     exact ⟨⟨k + 1, by omega, by go_num, NX.out⟩, by simp [intOf]; omega⟩
   · obtain rfl : k = ln := by omega
     have hfar := ST.out.far
     have ODr : Hid (wr.ownsRow w.heap.size 104 5 (SL (w.heap.size + 2) tn) tn (madeCells (Value.agg (DescC 0 0 none 0 0 0 none 0 0)).cells (tn * 5)).toList) := owns_heap OD3.out (fun b hb => hfar.block b ((OD3.out.lt b hb).2) (ne_row hl2 hb))
     have hvd : v.ownBlock ≠ some (w.heap.size + 2) := fun e => by have := (HO.out.lt _ e).1; have := M3.out.lt; omega
     have hs3 : w.heap.size ≤ w3.heap.size := by have := HB3.out.size; omega
     have MO : Hid (MemO wr w.heap.size (FNew v (SL (w.heap.size + 2) tn)) k (wordsF L k) tn (zds tn)) := memO_new (own_weaken HO.out hs3) ODr.out hvd
     have HVB : Hid (∀ a, a < 2 + 2 * tn → ∀ b, (FNew v (SL (w.heap.size + 2) tn) a).ownBlock = some b → b ≠ w.heap.size + 1) := fun a ha b hb e => by
       subst e
       unfold FNew at hb
       split at hb
       · have := (HO.out.lt _ hb).1; have := M3.out.lt; omega
       · split at hb
         · simp [Value.ownBlock] at hb
         · cases hb
     have SM : Hid (Small tn (zds tn)) := fun i hi => by rw [zds_at]; exact ⟨by show (0 : Nat) ≤ _; omega, by show (0 : Nat) ≤ _; omega⟩
     obtain ⟨wa, wc, da, dc, hmv, hF0, hF1, tA, dA, cA⟩ := MO.out.open (by omega) (by omega) SM.out
     have hv0 : v = .slice wa k wc := hF0
     have TA : Hid (TripAt wr wa k (wordsF L k) ∧ DescAt wr (some ⟨w.heap.size + 2, 0, none⟩) tn (zds tn) ∧ CapAt wr (some ⟨w.heap.size + 2, 0, none⟩) tn (zds tn)) := by
       cases hF1
       exact ⟨tA, dA, cA⟩
     subst hv0
     have HBr : Hid (Below W.heap.size W wr) := HB3.out.trans ⟨hfar.os, hfar.tape, hfar.output, hfar.size, fun q hq => hfar.block q (Nat.lt_of_lt_of_le hq HB3.out.size) (fun e => by cases e; omega)⟩
     clear tA dA cA hmv hF0 hF1 hfar
     go_wp2_with fail
     refine (implMemOk_any wa k wc (wordsF L k) (some ⟨w.heap.size + 2, 0, none⟩) tn tn (zds tn) _ TA.out.1 TA.out.2.1 TA.out.2.2).mono ?_
     rintro e w5 ⟨ok, ⟨rfl, hok⟩, hb5⟩
     have HB5 : Hid (Below W.heap.size W w5) := HBr.out.trans (hb5.mono HBr.out.size)
     have R5 : Hid (Box w5 (w.heap.size + 1) #[.slice none 0 0, .slice none 0 0] 31) := R0.out.below HB5.out (by omega)
     obtain ⟨r0, r1, y0, y1⟩ := R5.out.two
     have X5 : Hid (Box w5 bm #[.slice wa k wc, SL (w.heap.size + 2) tn] 31) := hbx'.out.below hb5 hbl
     obtain ⟨f0, f1, _, _⟩ := X5.out.two
     have MO5 : Hid (MemO w5 w.heap.size (FNew (.slice wa k wc) (SL (w.heap.size + 2) tn)) k (wordsF L k) tn (zds tn)) := MO.out.below hb5 (Nat.le_refl _)
     have HBW : Hid (Below w.heap.size w w5) := HB0.out.trans (HB5.out.mono HB0.out.size)
     rcases ok with _ | _
     · have HNO : Hid (¬ NewGood L (tn : Int)) := fun h => by
         have h2 := h.2
         rw [hln] at h2
         have := hok.2 h2
         cases this
       clear hok hb5 c0 c1 z0 z1
       obtain ⟨e0, e1, _, _⟩ := ((R5.out.put 0 (.slice none 0 0)).put 1 (.slice none 0 0)).two
       go_wp2
       (try simp only [Exit.inBlock, Exit.then])
       refine bodyPost_ret (by simp [results, Tryz.results25, go_sem, e0, e1]; try rfl) rfl ?_
       exact ⟨⟨_, 0, [], 0, [], false, rfl, .inr ⟨rfl, HNO.out, rfl, rfl, rfl, rfl⟩, memO_none _ _⟩, (HBW.out.setCell (by simp) _).setCell (by simp) _⟩
     · have HG : Hid (NewGood L (tn : Int)) := ⟨hv, by rw [hln]; exact hok.1 rfl⟩
       clear hok hb5 c0 c1 z0 z1
       obtain ⟨e0, e1, _, _⟩ := ((R5.out.put 0 (.slice wa k wc)).put 1 (SL (w.heap.size + 2) tn)).two
       go_wp2
       (try simp only [Exit.inBlock, Exit.then])
       refine bodyPost_ret (by simp [results, Tryz.results25, go_sem, e0, e1]; try rfl) rfl ?_
       refine ⟨⟨FNew (.slice wa k wc) (SL (w.heap.size + 2) tn), k, wordsF L k, tn, zds tn, true, rfl, .inl ⟨rfl, HG.out, hln.symm, rfl, rfl, rfl⟩, ?_⟩, (HBW.out.setCell (by simp) _).setCell (by simp) _⟩
       exact MO5.out.heap fun a ha b hb => by rw [Below.heap_setCell _ _ _ _ (HVB.out a ha b hb), Below.heap_setCell _ _ _ _ (HVB.out a ha b hb)]
theorem keep_put {w : World} {p o bm j : Nat} {u : Value} (h : w.cell? ⟨p, o, none⟩ = some u) (hne : p ≠ bm) (v : Value) : (w.setCell ⟨bm, j, none⟩ v).cell? ⟨p, o, none⟩ = some u := by
 rw [World.cell?_of_block (Below.heap_setCell _ _ _ _ hne)]
 exact h
theorem keep_alloc {w : World} {q : Addr} {u : Value} (h : w.cell? q = some u) (o : Obj) : (w.alloc o).drew.cell? q = some u := by
 show (w.alloc o).cell? q = some u
 rw [World.cell?_of_block (Below.heap_alloc _ _ _ (World.block_lt_of_cell? w _ h))]
 exact h
theorem new_next {w3 wr w4 : World} {bm k : Nat} {d v : Value} {L : List Int} {x : Int} {a' : Option Addr} {c' : Nat} (ST : NewSt w3 bm w3.heap.size d L k wr) (HO : wr.ownsRow w3.heap.size 75 3 v k ((wordsF L k).map I)) (X4 : Box w4 bm #[v, d] 31)
   (hown4 : w4.ownsRow w3.heap.size 75 3 (.slice a' (k + 1) c') (k + 1) ((wordsF L k).map I ++ [I x, I 0, I 0])) (hg4 : wr.grownBy w4 v.ownBlock) (HX : L.getD k 0 = x) (hb : bm < w3.heap.size) : NewSt w3 bm w3.heap.size d L (k + 1) (w4.setCell ⟨bm, 0, none⟩ (.slice a' (k + 1) c')) := by
 refine ⟨⟨.slice a' (k + 1) c', X4.put 0 (.slice a' (k + 1) c'), ?_⟩, far_put (far_row ST.far hg4 (fun g e => (HO.lt g e).1)) 0 _⟩
 refine own_setCell_far ?_ (fun e => ?_) _
 · have e2 : ((wordsF L (k + 1)).map I) = (wordsF L k).map I ++ [I x, I 0, I 0] := by
     unfold wordsF
     rw [flat3_succ, List.map_append, HX]
     rfl
   rw [e2]
   exact hown4
 · have h1 := (hown4.lt bm e).1
   omega
theorem below_far {w w3 wr : World} {B bm : Nat} (h : Below B w w3) (hf : w3.grownBy wr (some bm)) (hb : B ≤ bm) (hs : B ≤ w3.heap.size) : Below B w wr :=
 h.trans ⟨hf.os, hf.tape, hf.output, hf.size, fun q hq => hf.block q (Nat.lt_of_lt_of_le hq hs) (fun e => by
   have h2 : q = bm := by simpa using e
   omega)⟩
noncomputable def newL : List Oper := match Tryz.f19.body with
 | some (.seq _ (.seq _ (.seq _ (.seq (.seq _ (.block _ (.loop (.seq _ (.seq (.block _ (.region _ ops _)) _))))) _)))) => ops.toList
 | _ => []
theorem specMemNew_any (a : Option Addr) (n c : Nat) (st t : Int) (xs L : List Int) (w : World) (hA : IntAt w a n xs) (hL : TellsL xs st L) :
   Calls Tryz.prog 19 #[RowsV a n c st, .int .i64 t] w fun e w' => (∃ wa wc da dc m fs nn ds ok, e = .returned (.tuple #[MemV wa m wc da nn dc, .bool ok]) ∧ NewSays L t m fs nn ds ok ∧ TripAt w' wa m fs ∧ DescAt w' da nn ds) ∧ Below w.heap.size w w' := by
 obtain ⟨W, hW⟩ : ∃ W, (((w.alloc (.cells #[.slice a n c, .int .i64 st] 34)).alloc (.cells #[.slice none 0 0, .slice none 0 0] 31)).alloc (.cells #[.slice none 0 0, .slice none 0 0] 31)) = W := ⟨_, rfl⟩
 have hb0 : Below w.heap.size w W := by rw [← hW]; exact (((Below.refl _ w).alloc (Nat.le_refl _) _).alloc (by simp) _).alloc (by simp; omega) _
 have hsz : W.heap.size = w.heap.size + 3 := by rw [← hW]; simp
 have R0 : Hid (Box W (w.heap.size + 1) #[.slice none 0 0, .slice none 0 0] 31) := by
   have := (box_of (w.alloc (.cells #[.slice a n c, .int .i64 st] 34)) #[.slice none 0 0, .slice none 0 0] 31).alloc (.cells #[.slice none 0 0, .slice none 0 0] 31)
   rw [hW] at this
   show Box _ _ _ _
   simpa using this
 have M0 : Hid (Box W (w.heap.size + 2) #[.slice none 0 0, .slice none 0 0] 31) := by
   have := box_of ((w.alloc (.cells #[.slice a n c, .int .i64 st] 34)).alloc (.cells #[.slice none 0 0, .slice none 0 0] 31)) #[.slice none 0 0, .slice none 0 0] 31
   rw [hW] at this
   show Box _ _ _ _
   simpa using this
 have HA : Hid (IntAt W a n xs) := hA.below hb0 (Nat.le_refl _)
 have HL : Hid (TellsL xs st L) := hL
 have HB0 : Hid (Below w.heap.size w W) := hb0
 have HW : Hid ((((w.alloc (.cells #[.slice a n c, .int .i64 st] 34)).alloc (.cells #[.slice none 0 0, .slice none 0 0] 31)).alloc (.cells #[.slice none 0 0, .slice none 0 0] 31)) = W) := hW
 clear hA hL hW hb0
 obtain ⟨i0, hin, hz0, hz1, hz2⟩ := info_parts infoDesc
 obtain ⟨j0, hjn, hy0, hy1, hy2⟩ := info_parts infoWord
 go_enter Tryz.func19, Tryz.ntmps19
 go_wp2_with fail
 rw [HW.out]
 refine (specWordsT a n c st xs L _ HA.out HL.out).mono ?_
 rintro e w3 ⟨⟨la, ln, lc, rfl, hla⟩, hb3⟩
 obtain ⟨bm, hbm⟩ : ∃ bm, w.heap.size + 2 = bm := ⟨_, rfl⟩
 have hbw : w.heap.size + 1 < bm := by omega
 (try rw [show w.heap.size + 1 + 1 = bm from hbm])
 (try rw [hbm])
 rw [hbm] at M0
 have HBM : Hid (w.heap.size + 2 = bm) := hbm
 clear hbm
 have HLA : Hid (IntAt w3 la ln L) := hla
 have hln : L.length = ln := hla.1
 have hl20 : ln ≤ 20 := by rw [← hln]; exact HL.out.len
 have M3 : Hid (Box w3 bm #[.slice none 0 0, .slice none 0 0] 31) := M0.out.below hb3 M0.out.lt
 have HB3 : Hid (Below W.heap.size W w3) := hb3
 have APT : Hid (∀ p, la = some p → 0 < ln → p.block ≠ bm) := fun p hp hpos => by
   subst hp
   obtain ⟨pb, po, pm⟩ := p
   rcases hla.2.2 with h0 | ⟨p', o', he, _⟩
   · omega
   · cases he
     exact int_apart hla hpos M3.out (nil_not_int (fun x h => by cases h) (fun x h => by cases h))
 clear hla hb3
 go_wp2
 go_loopw [8] (fun i wr => ∃ k : Nat, k ≤ ln ∧ i = .int .i64 (k : Int) ∧ NewSt w3 bm w3.heap.size (.slice none 0 0) L k wr) (fun i _ => ln - (intOf i).toNat)
 case atStart => exact ⟨0, Nat.zero_le _, rfl, ⟨_, M3.out, World.ownsRow_nil _ _ _ _⟩, far_below (Below.refl _ _) _⟩
 case round =>
   obtain ⟨k, hk, rfl, hst⟩ := hrel
   have ST : Hid (NewSt w3 bm w3.heap.size (.slice none 0 0) L k wr) := hst
   obtain ⟨v, hbx, hown⟩ := hst.box
   have hbx' : Hid (Box wr bm #[v, .slice none 0 0] 31) := hbx
   have HO : Hid (wr.ownsRow w3.heap.size 75 3 v k ((wordsF L k).map I)) := hown
   obtain ⟨c0, c1, z0, z1⟩ := hbx.two
   have hbl := hbx.lt
   clear hst hbx hown
   by_cases hlt : k < ln
   · have hk0 : (0 : Int) ≤ (k : Int) := by omega
     have hk1 : (k : Int) < (ln : Int) := by omega
     rcases (int_grown HLA.out ST.out.far APT.out).2.2 with h0 | ⟨p1, o1, rfl, g1⟩
     · omega
     have e1 := g1 k hlt
     have hpl : p1 < wr.heap.size := World.block_lt_of_cell? wr _ e1
     obtain ⟨x, hx⟩ : ∃ x, L.getD k 0 = x := ⟨_, rfl⟩
     have HX : Hid (L.getD k 0 = x) := hx
     rw [hx] at e1
     clear g1 hx
     have hvb : v.ownBlock ≠ some bm := fun e => by have := (HO.out.lt bm e).1; have := M3.out.lt; omega
     have hpm : p1 ≠ bm := APT.out _ rfl (by omega)
     have hp3 : p1 < w3.heap.size := by
       rcases HLA.out.2.2 with h0 | ⟨p', o', he, g⟩
       · omega
       · cases he
         exact World.block_lt_of_cell? w3 _ (g 0 (by omega))
     have hvp : v.ownBlock ≠ some p1 := fun e => by have := (HO.out.lt p1 e).1; omega
     go_wp2_with fail
     change (Code.region _ (List.toArray newL) true).wp _ _ _ _
     refine wp_region_held_drew (S := fun w' => w'.cell? ⟨p1, o1 + k, none⟩ = some (I x)) (by kernel_rfl) ?_ (fun hHeld => ?_)
     · exact e1
     refine takeH 0 (.pointer (some ⟨bm, 0, none⟩)) ?_ hHeld ?_
     · intro w hSw; go_simp
     simp only [Act.put, List.setIfInBounds_toArray, List.set_cons_zero, List.set_cons_succ]
     refine takeH 2 (.slice (some ⟨p1, o1, none⟩) ln lc) ?_ hHeld ?_
     · intro w hSw; go_simp
     simp only [Act.put, List.setIfInBounds_toArray, List.set_cons_zero, List.set_cons_succ]
     refine takeH 3 (.int .i64 (k : Int)) ?_ hHeld ?_
     · intro w hSw; go_simp
     simp only [Act.put, List.setIfInBounds_toArray, List.set_cons_zero, List.set_cons_succ]
     refine takeH 4 (.pointer (some ⟨p1, o1 + k, none⟩)) ?_ hHeld ?_
     · intro w hSw; go_simp
     simp only [Act.put, List.setIfInBounds_toArray, List.set_cons_zero, List.set_cons_succ]
     refine takeH 5 (I x) ?_ hHeld ?_
     · intro w hSw; go_simp
     simp only [Act.put, List.setIfInBounds_toArray, List.set_cons_zero, List.set_cons_succ]
     refine takeH 6 (WordV x 0 0) ?_ hHeld ?_
     · intro w hSw; go_simp
     simp only [Act.put, List.setIfInBounds_toArray, List.set_cons_zero, List.set_cons_succ]
     refine wpAnyH_ready (rs := [1, 7]) (by kernel_rfl) (by simp) ?_
     refine AllReadyH.cons (o := _) (by rw [List.getElem?_toArray]; exact rfl) (fun K hK => ?_) (AllReadyH.cons (o := _) (by rw [List.getElem?_toArray]; exact rfl) (fun K hK => ?_) AllReadyH.nil)
     · rw [if_pos (by kernel_rfl)]
       go_simp
       refine hK.out _ _ e1 (fun hHeld => ?_)
       clear hK K
       (try simp only [Act.put, List.setIfInBounds_toArray, List.set_cons_zero, List.set_cons_succ])
       refine wpAnyH_ready (rs := [7]) (by kernel_rfl) (by simp) ?_
       refine AllReadyH.cons (o := _) (by rw [List.getElem?_toArray]; exact rfl) (fun K hK => ?_) AllReadyH.nil
       rw [if_pos (by kernel_rfl)]
       go_simp
       refine hK.out _ _ (keep_alloc e1 _) (fun hHeld => ?_)
       clear hK K
       (try simp only [Act.put, List.setIfInBounds_toArray, List.set_cons_zero, List.set_cons_succ])
       refine wpAnyH_ready (rs := [8]) (by kernel_rfl) (by simp) ?_
       refine AllReadyH.cons (o := _) (by rw [List.getElem?_toArray]; exact rfl) (fun K hK => ?_) AllReadyH.nil
       refine step_append_own _ (by rfl) _ _ 28 (by rfl) w3.heap.size 75 j0 (.agg #[.int .i64 0, .int .i64 0, .int .i64 0]) 3 24 Tryz.underlying28 hjn hy0 hy1 hy2 (by rfl) (by decide) v k ((wordsF L k).map I) (by rfl) (HO.out.alloc _) ⟨wr.heap.size, 0, none⟩ 1 1 [I x, I 0, I 0] (by rfl) (by rfl) (cell_three_at wr _ _ _ _) three_one (by unfold maxLen; omega) (by omega) (by have := ST.out.far.size; simp; omega) ?_
       intro v' w4 hown4 hgrow4 _
       obtain ⟨a', c', rfl, _⟩ := owns_slice hown4
       have hg4 : wr.grownBy w4 v.ownBlock := (show wr.grownBy _ v.ownBlock from far_below (((Below.refl _ wr).alloc (Nat.le_refl _) _).drew) v.ownBlock).trans hgrow4
       have e4 : w4.cell? ⟨p1, o1 + k, none⟩ = some (I x) := hg4.cell e1 (fun e => hvp e.symm)
       have X4 : Hid (Box w4 bm #[v, .slice none 0 0] 31) := by
         show w4.heap[bm]? = _
         rw [hg4.block bm hbl (fun e => hvb e.symm)]
         exact hbx'.out
       have HOW : Hid (w4.ownsRow w3.heap.size 75 3 (.slice a' (k + 1) c') (k + 1) ((wordsF L k).map I ++ [I x, I 0, I 0])) := hown4
       have HG4 : Hid (wr.grownBy w4 v.ownBlock) := hg4
       clear hown4 hgrow4 hg4
       refine hK.out _ _ e4 (fun hHeld => ?_)
       clear hK K
       (try simp only [Act.put, List.setIfInBounds_toArray, List.set_cons_zero, List.set_cons_succ])
       refine takeH 9 (.pointer (some ⟨bm, 0, none⟩)) ?_ hHeld ?_
       · intro w hSw; go_simp
       simp only [Act.put, List.setIfInBounds_toArray, List.set_cons_zero, List.set_cons_succ]
       obtain ⟨f0, f1, y0, y1⟩ := X4.out.two
       refine wpAnyH_ready (rs := [10]) (by kernel_rfl) (by simp) ?_
       refine AllReadyH.cons (o := _) (by rw [List.getElem?_toArray]; exact rfl) (fun K hK => ?_) AllReadyH.nil
       rw [if_pos (by kernel_rfl)]
       go_simp
       refine hK.out _ _ (keep_put e4 hpm _) (fun hHeld => ?_)
       clear hK K
       (try simp only [Act.put, List.setIfInBounds_toArray, List.set_cons_zero, List.set_cons_succ])
       refine wpAnyH_done (by kernel_rfl) ?_ _
       have NX : Hid (NewSt w3 bm w3.heap.size (.slice none 0 0) L (k + 1) (w4.setCell ⟨bm, 0, none⟩ (.slice a' (k + 1) c'))) := new_next ST.out HO.out X4.out HOW.out HG4.out HX.out M3.out.lt
       clear f0 f1 y0 y1 c0 c1 z0 z1 e1 e4 hHeld
       go_wp2
       exact ⟨⟨k + 1, by omega, by go_num, NX.out⟩, by simp [intOf]; omega⟩
     · rw [if_pos (by kernel_rfl)]
       go_simp
       refine hK.out _ _ (keep_alloc e1 _) (fun hHeld => ?_)
       clear hK K
       (try simp only [Act.put, List.setIfInBounds_toArray, List.set_cons_zero, List.set_cons_succ])
       refine wpAnyH_ready (rs := [1]) (by kernel_rfl) (by simp) ?_
       refine AllReadyH.cons (o := _) (by rw [List.getElem?_toArray]; exact rfl) (fun K hK => ?_) AllReadyH.nil
       rw [if_pos (by kernel_rfl)]
       go_simp
       refine hK.out _ _ (keep_alloc e1 _) (fun hHeld => ?_)
       clear hK K
       (try simp only [Act.put, List.setIfInBounds_toArray, List.set_cons_zero, List.set_cons_succ])
       refine wpAnyH_ready (rs := [8]) (by kernel_rfl) (by simp) ?_
       refine AllReadyH.cons (o := _) (by rw [List.getElem?_toArray]; exact rfl) (fun K hK => ?_) AllReadyH.nil
       refine step_append_own _ (by rfl) _ _ 28 (by rfl) w3.heap.size 75 j0 (.agg #[.int .i64 0, .int .i64 0, .int .i64 0]) 3 24 Tryz.underlying28 hjn hy0 hy1 hy2 (by rfl) (by decide) v k ((wordsF L k).map I) (by rfl) (HO.out.alloc _) ⟨wr.heap.size, 0, none⟩ 1 1 [I x, I 0, I 0] (by rfl) (by rfl) (cell_three_at wr _ _ _ _) three_one (by unfold maxLen; omega) (by omega) (by have := ST.out.far.size; simp; omega) ?_
       intro v' w4 hown4 hgrow4 _
       obtain ⟨a', c', rfl, _⟩ := owns_slice hown4
       have hg4 : wr.grownBy w4 v.ownBlock := (show wr.grownBy _ v.ownBlock from far_below (((Below.refl _ wr).alloc (Nat.le_refl _) _).drew) v.ownBlock).trans hgrow4
       have e4 : w4.cell? ⟨p1, o1 + k, none⟩ = some (I x) := hg4.cell e1 (fun e => hvp e.symm)
       have X4 : Hid (Box w4 bm #[v, .slice none 0 0] 31) := by
         show w4.heap[bm]? = _
         rw [hg4.block bm hbl (fun e => hvb e.symm)]
         exact hbx'.out
       have HOW : Hid (w4.ownsRow w3.heap.size 75 3 (.slice a' (k + 1) c') (k + 1) ((wordsF L k).map I ++ [I x, I 0, I 0])) := hown4
       have HG4 : Hid (wr.grownBy w4 v.ownBlock) := hg4
       clear hown4 hgrow4 hg4
       refine hK.out _ _ e4 (fun hHeld => ?_)
       clear hK K
       (try simp only [Act.put, List.setIfInBounds_toArray, List.set_cons_zero, List.set_cons_succ])
       refine takeH 9 (.pointer (some ⟨bm, 0, none⟩)) ?_ hHeld ?_
       · intro w hSw; go_simp
       simp only [Act.put, List.setIfInBounds_toArray, List.set_cons_zero, List.set_cons_succ]
       obtain ⟨f0, f1, y0, y1⟩ := X4.out.two
       refine wpAnyH_ready (rs := [10]) (by kernel_rfl) (by simp) ?_
       refine AllReadyH.cons (o := _) (by rw [List.getElem?_toArray]; exact rfl) (fun K hK => ?_) AllReadyH.nil
       rw [if_pos (by kernel_rfl)]
       go_simp
       refine hK.out _ _ (keep_put e4 hpm _) (fun hHeld => ?_)
       clear hK K
       (try simp only [Act.put, List.setIfInBounds_toArray, List.set_cons_zero, List.set_cons_succ])
       refine wpAnyH_done (by kernel_rfl) ?_ _
       have NX : Hid (NewSt w3 bm w3.heap.size (.slice none 0 0) L (k + 1) (w4.setCell ⟨bm, 0, none⟩ (.slice a' (k + 1) c'))) := new_next ST.out HO.out X4.out HOW.out HG4.out HX.out M3.out.lt
       clear f0 f1 y0 y1 c0 c1 z0 z1 e1 e4 hHeld
       go_wp2
       exact ⟨⟨k + 1, by omega, by go_num, NX.out⟩, by simp [intOf]; omega⟩
   · obtain rfl : k = ln := by omega
     have hfar := ST.out.far
     have hs3 : w.heap.size ≤ w3.heap.size := by have := HB3.out.size; omega
     obtain ⟨wa, wc, hv0, _⟩ := owns_slice HO.out
     subst hv0
     have TW : Hid (TripAt wr wa k (wordsF L k)) := owns_trip HO.out (by omega)
     have HBr : Hid (Below (w.heap.size + 2) W wr) := below_far (HB3.out.mono (by omega)) hfar (by omega) (by have := HB3.out.size; omega)
     have Rr : Hid (Box wr (w.heap.size + 1) #[.slice none 0 0, .slice none 0 0] 31) := R0.out.below HBr.out (by omega)
     have HBW : Hid (Below w.heap.size w wr) := HB0.out.trans (HBr.out.mono (by omega))
     clear hfar
     rcases hI : inB t 1 4 with _ | _
     · have HIN : Hid (inB t 1 4 = false) := hI
       have HNO : Hid (¬ NewGood L t) := fun h => by rw [inB_yes h.1] at hI; cases hI
       clear hI
       go_wp2_with fail
       refine (l1In_g t 1 4 _).mono ?_
       rintro e w4 ⟨rfl, hw4⟩
       obtain rfl : wr = w4 := hw4.symm
       clear hw4
       rw [HIN.out]
       go_wp2_with fail
       refine (specMemOk_any wa k wc (wordsF L k) none 0 0 [] _ TW.out ⟨rfl, by omega, .inl rfl⟩).mono ?_
       rintro e w5 ⟨ok, ⟨rfl, hok⟩, hb5⟩
       obtain rfl : ok = false := by
         rcases ok with _ | _
         · rfl
         · have h2 := (hok.1 rfl).2.1
           simp at h2
       have R5 : Hid (Box w5 (w.heap.size + 1) #[.slice none 0 0, .slice none 0 0] 31) := Rr.out.below hb5 Rr.out.lt
       obtain ⟨r0, r1, y0, y1⟩ := R5.out.two
       have HB5 : Hid (Below w.heap.size w w5) := HBW.out.trans (hb5.mono HBW.out.size)
       obtain ⟨e0, e1, _, _⟩ := ((R5.out.put 0 (.slice none 0 0)).put 1 (.slice none 0 0)).two
       clear hok hb5 c0 c1 z0 z1
       go_wp2
       (try simp only [Exit.inBlock, Exit.then])
       refine bodyPost_ret (by simp [results, Tryz.results19, go_sem, e0, e1]; try rfl) rfl ?_
       exact ⟨⟨none, 0, none, 0, 0, [], 0, [], false, rfl, .inr ⟨rfl, HNO.out, rfl, rfl, rfl, rfl⟩, ⟨rfl, by omega, .inl rfl⟩, ⟨rfl, by omega, .inl rfl⟩⟩, (HB5.out.setCell (by simp) _).setCell (by simp) _⟩
     · have hv := inB_val hI
       have HIN : Hid (inB t 1 4 = true) := hI
       obtain ⟨tn, rfl⟩ : ∃ tn : Nat, t = (tn : Int) := ⟨t.toNat, by omega⟩
       clear hI
       go_wp2_with fail
       refine (l1In_g _ 1 4 _).mono ?_
       rintro e w4 ⟨rfl, hw4⟩
       obtain rfl : wr = w4 := hw4.symm
       clear hw4
       rw [HIN.out]
       go_wp2_with
         (at_make
          refine wpList_make_full _ rfl _ _ 29 rfl w3.heap.size 104 i0 (.agg (DescC 0 0 none 0 0 0 none 0 0)) 5 Tryz.underlying29 hin hz0 hz1 .i64 .i64 _ _ tn rfl rfl rfl rfl (by rw [hz2]; omega) (by unfold maxLen; omega) (by exact ST.out.far.size) ?_
          intro w5 own5 grow5
          have hb5 : Below wr.heap.size wr w5 := (Below.refl _ _).grown grow5 (Nat.le_refl _) (fun k e => by cases e)
          have X5 := hbx'.out.below hb5 hbl
          obtain ⟨f0, f1, y0, y1⟩ := X5.two)
       have hwb : (Value.slice wa k wc).ownBlock ≠ some bm := fun e => by have := (HO.out.lt bm e).1; have := M3.out.lt; omega
       have hwg : (Value.slice wa k wc).ownBlock ≠ some wr.heap.size := fun e => by have := (HO.out.lt _ e).2; omega
       obtain ⟨g5, hg5⟩ : ∃ g, wr.heap.size = g := ⟨_, rfl⟩
       rw [hg5] at own5 hwg ⊢
       have hgb : (SL g5 tn).ownBlock ≠ some bm := fun e => by
         have h1 : g5 = bm := by simpa [Value.ownBlock] using e
         omega
       obtain ⟨w6, hw6⟩ : ∃ w6, w5.setCell ⟨bm, 1, none⟩ (SL g5 tn) = w6 := ⟨_, rfl⟩
       have MO : Hid (MemO w6 w3.heap.size (FNew (.slice wa k wc) (SL g5 tn)) k (wordsF L k) tn (zds tn)) := by
         rw [← hw6]
         exact memO_new (own_setCell_far (owns_below HO.out hb5 (Nat.le_refl _)) hwb _) (own_setCell_far own5 hgb _) hwg
       have X6 : Hid (Box w6 bm #[.slice wa k wc, SL g5 tn] 31) := by rw [← hw6]; exact X5.put 1 _
       have R6 : Hid (Box w6 (w.heap.size + 1) #[.slice none 0 0, .slice none 0 0] 31) := by rw [← hw6]; exact (Rr.out.below hb5 Rr.out.lt).set (show w.heap.size + 1 ≠ bm by omega) _
       have HB6 : Hid (Below w.heap.size w w6) := by rw [← hw6]; exact (HBW.out.trans (hb5.mono HBW.out.size)).setCell (show w.heap.size ≤ bm by omega) _
       have HW6 : Hid (w5.setCell ⟨bm, 1, none⟩ (SL g5 tn) = w6) := hw6
       have SM : Hid (Small tn (zds tn)) := fun i hi => by rw [zds_at]; exact ⟨by show (0 : Nat) ≤ _; omega, by show (0 : Nat) ≤ _; omega⟩
       obtain ⟨wa', wc', da, dc, hmv, hF0, hF1, tA, dA, cA⟩ := MO.out.open (by omega) (by omega) SM.out
       have TA : Hid (TripAt w6 wa k (wordsF L k) ∧ DescAt w6 (some ⟨g5, 0, none⟩) tn (zds tn)) := by
         cases hF1
         cases hF0
         exact ⟨tA, dA⟩
       clear tA dA cA hmv hF0 hF1 own5 grow5 hb5 X5 f0 f1 y0 y1 c0 c1 z0 z1 hw6
       rw [HW6.out]
       refine (specMemOk_any wa k wc (wordsF L k) (some ⟨g5, 0, none⟩) tn tn (zds tn) _ TA.out.1 TA.out.2).mono ?_
       rintro e w7 ⟨ok, ⟨rfl, hok⟩, hb7⟩
       have R7 : Hid (Box w7 (w.heap.size + 1) #[.slice none 0 0, .slice none 0 0] 31) := R6.out.below hb7 R6.out.lt
       obtain ⟨r0, r1, y0, y1⟩ := R7.out.two
       obtain ⟨f0, f1, _, _⟩ := (X6.out.below hb7 X6.out.lt).two
       have HB7 : Hid (Below w.heap.size w w7) := HB6.out.trans (hb7.mono HB6.out.size)
       have T7 : Hid (TripAt w7 wa k (wordsF L k) ∧ DescAt w7 (some ⟨g5, 0, none⟩) tn (zds tn)) := ⟨TA.out.1.below hb7 (Nat.le_refl _), TA.out.2.below hb7 (Nat.le_refl _)⟩
       have MO7 : Hid (MemO w7 w3.heap.size (FNew (.slice wa k wc) (SL g5 tn)) k (wordsF L k) tn (zds tn)) := MO.out.below hb7 (Nat.le_refl _)
       rcases ok with _ | _
       · have HNO : Hid (¬ NewGood L (tn : Int)) := fun h => by
           have h2 := h.2
           rw [hln] at h2
           have := hok.2 h2
           cases this
         clear hok hb7
         obtain ⟨e0, e1, _, _⟩ := ((R7.out.put 0 (.slice none 0 0)).put 1 (.slice none 0 0)).two
         go_wp2
         (try simp only [Exit.inBlock, Exit.then])
         refine bodyPost_ret (by simp [results, Tryz.results19, go_sem, e0, e1]; try rfl) rfl ?_
         exact ⟨⟨none, 0, none, 0, 0, [], 0, [], false, rfl, .inr ⟨rfl, HNO.out, rfl, rfl, rfl, rfl⟩, ⟨rfl, by omega, .inl rfl⟩, ⟨rfl, by omega, .inl rfl⟩⟩, (HB7.out.setCell (by simp) _).setCell (by simp) _⟩
       · have HG : Hid (NewGood L (tn : Int)) := ⟨hv, by rw [hln]; exact hok.1 rfl⟩
         clear hok hb7
         obtain ⟨e0, e1, _, _⟩ := ((R7.out.put 0 (.slice wa k wc)).put 1 (SL g5 tn)).two
         go_wp2
         (try simp only [Exit.inBlock, Exit.then])
         refine bodyPost_ret (by simp [results, Tryz.results19, go_sem, e0, e1]; try rfl) rfl ?_
         have MO8 : MemO ((w7.setCell ⟨w.heap.size + 1, 0, none⟩ (.slice wa k wc)).setCell ⟨w.heap.size + 1, 1, none⟩ (SL g5 tn)) w3.heap.size (FNew (.slice wa k wc) (SL g5 tn)) k (wordsF L k) tn (zds tn) :=
           MO7.out.heap fun a ha b hb => by
             have h1 := (MO7.out.blk a ha b hb).1
             have h2 := HB3.out.size
             rw [Below.heap_setCell _ _ _ _ (show b ≠ w.heap.size + 1 by omega), Below.heap_setCell _ _ _ _ (show b ≠ w.heap.size + 1 by omega)]
         obtain ⟨wa', wc', da, dc, hmv, hF0, hF1, tA, dA, cA⟩ := MO8.open (by omega) (by omega) SM.out
         cases hF1
         cases hF0
         exact ⟨⟨wa, wc, some ⟨g5, 0, none⟩, tn, k, wordsF L k, tn, zds tn, true, rfl, .inl ⟨rfl, HG.out, hln.symm, rfl, rfl, rfl⟩, tA, dA⟩, (HB7.out.setCell (by simp) _).setCell (by simp) _⟩
end
end Go.Proofs.YtcfimaffeopbbaaGreatDoor
