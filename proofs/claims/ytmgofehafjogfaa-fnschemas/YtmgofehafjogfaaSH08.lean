/- Texts joined: DrawRo, NmL. -/
import Derived.Test.YtmgofehafjogfaaSH06
import Derived.Test.YtmgofehafjogfaaSH07
import Derived.Deep.Cut
import Derived.Test.YtmgofehafjogfaaSH01
import Derived.Below
import Derived.StringKeys
import Derived.Maps.OwnRows
import Derived.Maps.OwnSet
import Derived.Maps.RangeWalk
import Derived.Maps.Views
import Derived.Maps.GroupsBeside
set_option maxHeartbeats 16000000
set_option maxRecDepth 100000
namespace Go.Proofs.Ytmgofehafjogfaa
section
open Go.ChangeShapes Go.WideShapes Go.ChangeAt Go.RowKit Go.Joins
def DwSc (w : World) (e : Ending) (w' : World) : Prop := ∃ D us T, e = .returned (.agg us.toArray) ∧ ScDr 2 3 D ∧ OwnL w' w.heap.size us (schE D) T ∧ Below w.heap.size w w'
def DwCa (w : World) (e : Ending) (w' : World) : Prop := ∃ D us T s, e = .returned (.tuple #[.agg us.toArray, .string s]) ∧ ScDr 2 3 D ∧ OwnL w' w.heap.size us (schE D) T ∧ s.size ≤ 13 ∧ Below w.heap.size w w'
def DwRo (w : World) (e : Ending) (w' : World) : Prop := ∃ D us T v L, e = .returned (.tuple #[.agg us.toArray, v]) ∧ ScDr 2 3 D ∧ OwnL w' w.heap.size us (schE D) T ∧ VOwn w' w.heap.size v L ∧ (L.length ≤ 5 ∧ ∀ x ∈ L, x.2.2.size ≤ 40) ∧ Below w.heap.size w w'
structure RoIn (w : World) (g q p : Nat) (a : Option Addr) (n c b1 br : Nat) (us : List Value) (D : SchD) (T : Nat → Prop) (v : Value) (L : List Va3) (z : World) : Prop where
  res : Box z g #[.slice none 0 0, .slice none 0 0, .slice none 0 0] 28
  box : Box z q us.toArray 28
  own : OwnL z b1 us (schE D) T
  row : VOwn z br v L
  cur : Cur 102 z p a n c
  bel : Below g w z
  ord : g < p ∧ p < b1 ∧ b1 ≤ br ∧ p < q ∧ q < br ∧ br ≤ z.heap.size
  nt : ∀ x, T x → x < br
theorem RoIn.grown {w : World} {g q p : Nat} {a : Option Addr} {n c b1 br : Nat} {us : List Value} {D : SchD} {T : Nat → Prop} {v : Value} {L : List Va3} {z w' : World} (h : RoIn w g q p a n c b1 br us D T v L z) (hf : z.grownBy w' (some p)) (hc : Cur 102 w' p a n c) : RoIn w g q p a n c b1 br us D T v L w' := by
  obtain ⟨h1, h2, h3, h4, h5, h6⟩ := h.ord
  exact ⟨(hf.block g h.res.lt (fun e => by injection e with e; omega)).trans h.res, (hf.block q h.box.lt (fun e => by injection e with e; omega)).trans h.box, h.own.heap fun x hx => hf.block x (h.own.lt x hx).2 (fun e => by injection e with e; have := (h.own.lt x hx).1; omega), own_only h.row hf (by omega), hc, h.bel.trans ((Below.refl g z).grown hf (by omega) (fun k e => by cases e; omega)), ⟨h1, h2, h3, h4, h5, Nat.le_trans h6 hf.size⟩, h.nt⟩
theorem RoIn.turn {w : World} {g q p : Nat} {a : Option Addr} {n c b1 br : Nat} {us : List Value} {D : SchD} {T : Nat → Prop} {v : Value} {L : List Va3} {z w' : World} (h : RoIn w g q p a n c b1 br us D T v L z) {v' : Value} {M : List Va3} (hb : Below br z w') (ho : VOwn w' br v' M) : RoIn w g q p a n c b1 br us D T v' M w' := by
  obtain ⟨h1, h2, h3, h4, h5, h6⟩ := h.ord
  exact ⟨h.res.below hb (by omega), h.box.below hb h5, h.own.heap fun y hy => hb.block y (h.nt y hy), ho, h.cur.keep fun k hk => hb.block k (by omega), h.bel.trans (hb.mono (by omega)), ⟨h1, h2, h3, h4, h5, Nat.le_trans h6 hb.size⟩, h.nt⟩
theorem drawSchemaOk_any (a : Option Addr) (n c : Nat) (w : World) (hn : n ≤ 1048576) (hB : BytesAt w w.heap.size a n) :
    Calls Try.prog 11 #[.slice a n c] w (DwSc w) := by
  obtain ⟨g, hg⟩ : ∃ g, w.heap.size = g := ⟨_, rfl⟩
  have HG : Hid (w.heap.size = g) := hg
  obtain ⟨W, hW⟩ : ∃ W, w.alloc (.cells #[.slice none 0 0, .slice none 0 0, .slice none 0 0] 28) = W := ⟨_, rfl⟩
  have HW : Hid (w.alloc (.cells #[.slice none 0 0, .slice none 0 0, .slice none 0 0] 28) = W) := hW
  have XR : Hid (Box W g #[.slice none 0 0, .slice none 0 0, .slice none 0 0] 28) := by rw [← hW, ← hg]; exact box_of w _ _
  have hb0 : Below w.heap.size w W := by rw [← hW]; exact (Below.refl _ w).alloc (Nat.le_refl _) _
  have HB0 : Hid (Below g w W) := by rw [← hg]; exact hb0
  have HB : Hid (BytesAt W W.heap.size a n) := bytes_now hB hb0
  obtain ⟨p, hp⟩ : ∃ p, W.heap.size = p := ⟨_, rfl⟩
  have HP : Hid (W.heap.size = p) := hp
  have HGP : Hid (g < p) := by show _ < _; rw [← hp]; exact XR.out.lt
  clear hW hg hB hb0 hp
  go_enter Try.func11, Try.ntmps11
  go_upto_region 1 with (fail)
  rw [HW.out]
  (try rw [HG.out])
  go_wp2_with fail
  refine (l1New_any a n c _ hn HB.out).mono ?_
  rintro e w1 ⟨rfl, hC, hb1, -⟩
  rw [HP.out] at hC hb1 ⊢
  have HB1 : Hid (Below p W w1) := hb1
  have HC : Hid (Cur 102 w1 p a n c) := hC
  obtain ⟨b1, hb⟩ : ∃ b, w1.heap.size = b := ⟨_, rfl⟩
  have HBS : Hid (w1.heap.size = b1) := hb
  have HPB : Hid (p < b1) := by show _ < _; rw [← hb]; exact hC.lt
  clear hb1 hC hb
  go_wp2_with fail
  refine (l19Draw_any p a n c w1 HC.out).mono ?_
  rintro e w2 ⟨D, us, T, rfl, hdr, ho, hc, hf⟩
  rw [HBS.out] at ho
  obtain ⟨x1, m1, d1, x2, m2, d2, x3, m3, d3, rfl, -⟩ := own_sch ho
  have HDR : Hid (ScDr 2 3 D) := hdr
  have HC2 : Hid (Cur 102 w2 p a n c) := hc
  have O2 : Hid (OwnL w2 b1 [.slice x1 m1 d1, .slice x2 m2 d2, .slice x3 m3 d3] (schE D) T) := ho
  have hgl := XR.out.lt
  have X1 : Box w1 g #[.slice none 0 0, .slice none 0 0, .slice none 0 0] 28 := XR.out.below HB1.out HGP.out
  have X2 : Hid (Box w2 g #[.slice none 0 0, .slice none 0 0, .slice none 0 0] 28) := (hf.block g X1.lt (fun e => by injection e with e; have := HGP.out; omega)).trans X1
  have HB2 : Hid (Below g w w2) := (HB0.out.trans (HB1.out.mono (Nat.le_of_lt HGP.out))).trans ((Below.refl g w1).grown hf (by have := HGP.out; have := HPB.out; have := HBS.out; omega) (fun k e => by cases e; exact Nat.le_of_lt HGP.out))
  have HS2 : Hid (b1 ≤ w2.heap.size) := by have := hf.size; have := HBS.out; show _ ≤ _; omega
  clear hdr ho hc hf hgl X1
  have fz0 := X2.out.frozen 0
  have fz1 := X2.out.frozen 1
  have fz2 := X2.out.frozen 2
  obtain ⟨z0, z1, z2⟩ := X2.out.triV
  go_wp2
  have E := ((X2.out.put 0 (.slice x1 m1 d1)).put 1 (.slice x2 m2 d2)).put 2 (.slice x3 m3 d3)
  have e0 := E.cell 0
  have e1 := E.cell 1
  have e2 := E.cell 2
  (try simp only [Exit.inBlock, Exit.then])
  refine bodyPost_ret (by simp [results, Try.results11, go_sem, e0, e1, e2]; try rfl) rfl ?_
  refine ⟨D, [.slice x1 m1 d1, .slice x2 m2 d2, .slice x3 m3 d3], T, rfl, HDR.out, ?_, ?_⟩
  · rw [HG.out]
    exact ((O2.out.heap fun x hx => (Below.heap_setCell _ _ _ _ (fun e => by have e : x = g := e; have h1 := (O2.out.lt x hx).1; have h2 := HGP.out; have h3 := HPB.out; omega)).trans ((Below.heap_setCell _ _ _ _ (fun e => by have e : x = g := e; have h1 := (O2.out.lt x hx).1; have h2 := HGP.out; have h3 := HPB.out; omega)).trans (Below.heap_setCell _ _ _ _ (fun e => by have e : x = g := e; have h1 := (O2.out.lt x hx).1; have h2 := HGP.out; have h3 := HPB.out; omega)))).weaken (by have h2 := HGP.out; have h3 := HPB.out; omega))
  · rw [HG.out]
    exact (((HB2.out.setCell (Nat.le_refl g) _).setCell (Nat.le_refl g) _).setCell (Nat.le_refl g) _)
theorem drawRowOk_any (a : Option Addr) (n c : Nat) (w : World) (hn : n ≤ 1048576) (hB : BytesAt w w.heap.size a n) :
    Calls Try.prog 10 #[.slice a n c] w (DwRo w) := by
  obtain ⟨g, hg⟩ : ∃ g, w.heap.size = g := ⟨_, rfl⟩
  have HG : Hid (w.heap.size = g) := hg
  obtain ⟨W, hW⟩ : ∃ W, w.alloc (.cells #[.slice none 0 0, .slice none 0 0, .slice none 0 0] 28) = W := ⟨_, rfl⟩
  have HW : Hid (w.alloc (.cells #[.slice none 0 0, .slice none 0 0, .slice none 0 0] 28) = W) := hW
  have XR : Hid (Box W g #[.slice none 0 0, .slice none 0 0, .slice none 0 0] 28) := by rw [← hW, ← hg]; exact box_of w _ _
  have hb0 : Below w.heap.size w W := by rw [← hW]; exact (Below.refl _ w).alloc (Nat.le_refl _) _
  have HB0 : Hid (Below g w W) := by rw [← hg]; exact hb0
  have HB : Hid (BytesAt W W.heap.size a n) := bytes_now hB hb0
  obtain ⟨p, hp⟩ : ∃ p, W.heap.size = p := ⟨_, rfl⟩
  have HP : Hid (W.heap.size = p) := hp
  have HGP : Hid (g < p) := by show _ < _; rw [← hp]; exact XR.out.lt
  clear hW hg hB hb0 hp
  go_enter Try.func10, Try.ntmps10
  go_upto_region 1 with (fail)
  rw [HW.out]
  (try rw [HG.out])
  go_wp2_with fail
  refine (l1New_any a n c _ hn HB.out).mono ?_
  rintro e w1 ⟨rfl, hC, hb1, -⟩
  rw [HP.out] at hC hb1 ⊢
  have HB1 : Hid (Below p W w1) := hb1
  have HC : Hid (Cur 102 w1 p a n c) := hC
  obtain ⟨b1, hb⟩ : ∃ b, w1.heap.size = b := ⟨_, rfl⟩
  have HBS : Hid (w1.heap.size = b1) := hb
  have HPB : Hid (p < b1) := by show _ < _; rw [← hb]; exact hC.lt
  clear hb1 hC hb
  go_wp2_with fail
  refine (l19Draw_any p a n c w1 HC.out).mono ?_
  rintro e w2 ⟨D, us, T, rfl, hdr, ho, hc, hf⟩
  rw [HBS.out] at ho
  obtain ⟨x1, m1, d1, x2, m2, d2, x3, m3, d3, rfl, -⟩ := own_sch ho
  have HDR : Hid (ScDr 2 3 D) := hdr
  have HC2 : Hid (Cur 102 w2 p a n c) := hc
  have O2 : Hid (OwnL w2 b1 [.slice x1 m1 d1, .slice x2 m2 d2, .slice x3 m3 d3] (schE D) T) := ho
  have hgl := XR.out.lt
  have X1 : Box w1 g #[.slice none 0 0, .slice none 0 0, .slice none 0 0] 28 := XR.out.below HB1.out HGP.out
  have X2 : Hid (Box w2 g #[.slice none 0 0, .slice none 0 0, .slice none 0 0] 28) := (hf.block g X1.lt (fun e => by injection e with e; have := HGP.out; omega)).trans X1
  have HB2 : Hid (Below g w w2) := (HB0.out.trans (HB1.out.mono (Nat.le_of_lt HGP.out))).trans ((Below.refl g w1).grown hf (by have := HGP.out; have := HPB.out; have := HBS.out; omega) (fun k e => by cases e; exact Nat.le_of_lt HGP.out))
  have HS2 : Hid (b1 ≤ w2.heap.size) := by have := hf.size; have := HBS.out; show _ ≤ _; omega
  clear hdr ho hc hf hgl X1
  obtain ⟨q, hq⟩ : ∃ q, w2.heap.size = q := ⟨_, rfl⟩
  have HQ : Hid (w2.heap.size = q) := hq
  obtain ⟨W3, hW3⟩ : ∃ W, w2.alloc (.cells #[.slice x1 m1 d1, .slice x2 m2 d2, .slice x3 m3 d3] 28) = W := ⟨_, rfl⟩
  have HW3 : Hid (w2.alloc (.cells #[.slice x1 m1 d1, .slice x2 m2 d2, .slice x3 m3 d3] 28) = W3) := hW3
  have b3 : Below w2.heap.size w2 W3 := by rw [← hW3]; exact (Below.refl _ w2).alloc (Nat.le_refl _) _
  have X3 : Hid (Box W3 q #[.slice x1 m1 d1, .slice x2 m2 d2, .slice x3 m3 d3] 28) := by rw [← hW3, ← hq]; exact box_of w2 _ _
  have O3 : Hid (OwnL W3 b1 [.slice x1 m1 d1, .slice x2 m2 d2, .slice x3 m3 d3] (schE D) T) := O2.out.on b3 (Nat.le_refl _)
  have C3 : Hid (Cur 102 W3 p a n c) := cur_below HC2.out b3
  have R3 : Hid (Box W3 g #[.slice none 0 0, .slice none 0 0, .slice none 0 0] 28) := X2.out.below b3 X2.out.lt
  have B3 : Hid (Below g w W3) := HB2.out.trans (b3.mono (by have := X2.out.lt; omega))
  obtain ⟨br, hbr⟩ : ∃ b, W3.heap.size = b := ⟨_, rfl⟩
  have HBR : Hid (b1 ≤ br) := by have := b3.size; have := HS2.out; show _ ≤ _; omega
  have HQR : Hid (b1 ≤ q ∧ q < br) := by have := X3.out.lt; have := HS2.out; show _ ∧ _; omega
  have NT : Hid (∀ x, T x → x < br) := fun x hx => by have := (O3.out.lt x hx).2; omega
  have HBR2 : Hid (W3.heap.size = br) := hbr
  clear hq hW3 b3 hbr
  go_upto_region 3 with (fail)
  rw [HW3.out, HQ.out]
  have hcel := (show Box W3 q #[.slice x1 m1 d1, .slice x2 m2 d2, .slice x3 m3 d3] 28 from X3.out).triV
  obtain ⟨y0, y1, y2'⟩ := hcel
  go_wp2_with fail
  refine (l19DrawRow_any p a n c b1 [.slice x1 m1 d1, .slice x2 m2 d2, .slice x3 m3 d3] D T W3 C3.out O3.out HPB.out).mono ?_
  rintro e w4 ⟨v4, L, rfl, ho, ⟨hll, hsz⟩, hc, hf⟩
  rw [HBR2.out] at ho
  have I4 : Hid (RoIn w g q p a n c b1 br [.slice x1 m1 d1, .slice x2 m2 d2, .slice x3 m3 d3] D T v4 L w4) := by
    have h2 := HGP.out
    have h3 := HPB.out
    have h4 := HQR.out
    exact ⟨(hf.block g R3.out.lt (fun e => by injection e with e; omega)).trans R3.out, (hf.block q X3.out.lt (fun e => by injection e with e; omega)).trans X3.out, O3.out.heap fun x hx => hf.block x (O3.out.lt x hx).2 (fun e => by injection e with e; have := (O3.out.lt x hx).1; omega), ho, hc, B3.out.trans ((Below.refl g W3).grown hf (by have := R3.out.lt; omega) (fun k e => by cases e; omega)), ⟨h2, h3, HBR.out, by omega, h4.2, by have := hf.size; have := HBR2.out; omega⟩, NT.out⟩
  have HLL : Hid (2 ≤ L.length ∧ L.length ≤ 4) := by have := HDR.out.1; show _ ∧ _; omega
  have HSZ : Hid (∀ x ∈ L, x.2.2.size ≤ 40) := hsz
  clear ho hll hsz hc hf y0 y1 y2'
  go_wp2_with fail
  refine (l1Below_any p a n c 5 (by omega) (by omega) w4 I4.out.cur).mono ?_
  rintro e w5 ⟨x, hx, rfl, hC1, hO1⟩
  have I5 : Hid (RoIn w g q p a n c b1 br [.slice x1 m1 d1, .slice x2 m2 d2, .slice x3 m3 d3] D T v4 L w5) := I4.out.grown (far_only hO1) hC1
  clear hC1 hO1
  rcases (show x = 0 ∨ x = 1 ∨ ((¬ (x : Int) = 0) ∧ ¬ (x : Int) = 1) by omega) with rfl | rfl | ⟨h0, h1⟩
  · go_upto_region 9 with (first
      | (go_at_call 46
         refine (l17Draw_any p a n c w5 I5.out.cur).mono ?_
         rintro e w6 ⟨k, m, s, rfl, ⟨hs, -⟩, hC2, hO2⟩
         have I6 : Hid (RoIn w g q p a n c b1 br [.slice x1 m1 d1, .slice x2 m2 d2, .slice x3 m3 d3] D T v4 L w6) := I5.out.grown hO2 hC2
         have HS : Hid (s.size ≤ 40) := hs
         clear hC2 hO2 hs)
      | (at_builtin
         refine list_appV _ rfl _ _ rfl br v4 L rfl (I6.out.row.alloc _) ⟨w6.heap.size, 0, none⟩ 1 1 [(k, m, s)] rfl rfl (vnews _ _ rfl (k, m, s)) (by have := HLL.out; omega) (by have := I6.out.ord; simp; omega) ?_
         intro v7 w7 hown hbel hnil
         have hb7 : Below br w6 w7 := hbel w6 br (Nat.le_refl _) ((Below.refl br w6).alloc I6.out.ord.2.2.2.2.2 _)
         have I7 : Hid (RoIn w g q p a n c b1 br [.slice x1 m1 d1, .slice x2 m2 d2, .slice x3 m3 d3] D T v7 (L ++ [(k, m, s)]) w7) := I6.out.turn hb7 hown
         clear hown hbel hb7 hnil))
    obtain ⟨va, vc, hv, -, -⟩ := own_vas I7.out.row (by rw [List.length_append]; have := HLL.out; show L.length + 1 ≤ _; omega)
    rw [show (L ++ [(k, m, s)]).length = L.length + 1 by rw [List.length_append]; rfl] at hv
    subst hv
    obtain ⟨y0, y1, y2'⟩ := (show Box _ q #[.slice x1 m1 d1, .slice x2 m2 d2, .slice x3 m3 d3] 28 from I7.out.box).triV
    have fy0 := I7.out.res.frozen 0
    have fy1 := I7.out.res.frozen 1
    have fy2 := I7.out.res.frozen 2
    obtain ⟨r0, r1, r2⟩ := I7.out.res.triV
    have E := ((I7.out.res.put 0 (.slice x1 m1 d1)).put 1 (.slice x2 m2 d2)).put 2 (.slice x3 m3 d3)
    have e0 := E.cell 0
    have e1 := E.cell 1
    have e2 := E.cell 2
    go_wp2
    (try simp only [Exit.inBlock, Exit.then])
    refine bodyPost_ret (by simp [results, Try.results10, go_sem, e0, e1, e2]; try rfl) rfl ?_
    have hne : ∀ i, ((.slice va (L.length + 1) vc) : Value).ownBlock ≠ some (⟨g, i, none⟩ : Addr).block := fun i e => by have e : ((.slice va (L.length + 1) vc) : Value).ownBlock = some g := e; have h1 := own_block I7.out.row g e; have := HGP.out; have := HPB.out; have := HBR.out; omega
    have HO : Hid (OwnL _ b1 [.slice x1 m1 d1, .slice x2 m2 d2, .slice x3 m3 d3] (schE D) T) := I7.out.own
    refine ⟨D, [.slice x1 m1 d1, .slice x2 m2 d2, .slice x3 m3 d3], T, _, (L ++ [(k, m, s)]), rfl, HDR.out, ?_, ?_, ⟨by rw [List.length_append]; have := HLL.out; show L.length + 1 ≤ 5; omega, fun x hx => (List.mem_append.1 hx).elim (HSZ.out x) (fun h1 => by rw [List.mem_singleton.1 h1]; exact HS.out)⟩, ?_⟩
    · rw [HG.out]
      exact ((HO.out.heap fun x hx => (Below.heap_setCell _ _ _ _ (fun e => by have e : x = g := e; have h1 := (HO.out.lt x hx).1; have h2 := HGP.out; have h3 := HPB.out; omega)).trans ((Below.heap_setCell _ _ _ _ (fun e => by have e : x = g := e; have h1 := (HO.out.lt x hx).1; have h2 := HGP.out; have h3 := HPB.out; omega)).trans (Below.heap_setCell _ _ _ _ (fun e => by have e : x = g := e; have h1 := (HO.out.lt x hx).1; have h2 := HGP.out; have h3 := HPB.out; omega)))).weaken (by have h2 := HGP.out; have h3 := HPB.out; omega))
    · rw [HG.out]
      exact (own_weaken (base := br) (base' := g) (own_setCell_far (own_setCell_far (own_setCell_far I7.out.row (hne _) _) (hne _) _) (hne _) _) (by have := HGP.out; have := HPB.out; have := HBR.out; omega))
    · rw [HG.out]
      exact (((I7.out.bel.setCell (Nat.le_refl g) _).setCell (Nat.le_refl g) _).setCell (Nat.le_refl g) _)
  · obtain ⟨gb, cb, hv4⟩ : ∃ g cap, v4 = .slice (some ⟨g, 0, none⟩) L.length cap := by
      rcases owns_forms I5.out.row with ⟨_, h1⟩ | h1
      · have := HLL.out; omega
      · exact h1
    subst hv4
    have hl1 : (1 : Int) ≤ (L.length : Int) := by have := HLL.out; omega
    have hl2 : (L.length : Int) ≤ 256 := by have := HLL.out; omega
    go_upto_region 8 with (fail)
    go_upto_region 9 with (first
      | (go_at_call 45
         refine (l1Below_any p a n c _ hl1 hl2 w5 I5.out.cur).mono ?_
         rintro e w6 ⟨j, hj, rfl, hC1, hO1⟩
         have I6 : Hid (RoIn w g q p a n c b1 br [.slice x1 m1 d1, .slice x2 m2 d2, .slice x3 m3 d3] D T (.slice (some ⟨gb, 0, none⟩) L.length cb) L w6) := I5.out.grown (far_only hO1) hC1
         have HJ : Hid (j < L.length) := by show _ < _; omega
         have hj0 : (0 : Int) ≤ (j : Int) := by omega
         have hj1 : (j : Int) < (L.length : Int) := by omega
         clear hC1 hO1 hj)
      | (go_at_call 46
         refine (l17Draw_any p a n c w6 I6.out.cur).mono ?_
         rintro e w7 ⟨k, m, s, rfl, ⟨hs, -⟩, hC2, hO2⟩
         have I7 : Hid (RoIn w g q p a n c b1 br [.slice x1 m1 d1, .slice x2 m2 d2, .slice x3 m3 d3] D T (.slice (some ⟨gb, 0, none⟩) L.length cb) L w7) := I6.out.grown hO2 hC2
         have HS : Hid (s.size ≤ 40) := hs
         have o1 := I7.out.row.stored (j * 3) (.int .i64 k)
         have o2 := o1.1.stored (j * 3 + 1) (.int .i64 m)
         have o3 := o2.1.stored (j * 3 + 2) (.string s)
         obtain ⟨u0, hu0⟩ : ∃ u, (vaC L)[j * 3]? = some u := ⟨_, List.getElem?_eq_getElem (by rw [vaC_length]; have := HJ.out; omega)⟩
         obtain ⟨u1, hu1⟩ : ∃ u, (vaC L)[j * 3 + 1]? = some u := ⟨_, List.getElem?_eq_getElem (by rw [vaC_length]; have := HJ.out; omega)⟩
         obtain ⟨u2, hu2⟩ : ∃ u, (vaC L)[j * 3 + 2]? = some u := ⟨_, List.getElem?_eq_getElem (by rw [vaC_length]; have := HJ.out; omega)⟩
         have c0 := own_cellV I7.out.row hu0
         have c1 := own_cellV I7.out.row hu1
         have c2 := own_cellV I7.out.row hu2
         have f0 := I7.out.row.frozenAt (j * 3)
         have f1 := I7.out.row.frozenAt (j * 3 + 1)
         have f2 := I7.out.row.frozenAt (j * 3 + 2)
         have hS9 := vaC_set (L := L) (x := (k, m, s)) HJ.out
         have ho9 := o3.1
         rw [hS9] at ho9
         have hgb : br ≤ gb := own_block I7.out.row gb rfl
         have I9 : Hid (RoIn w g q p a n c b1 br [.slice x1 m1 d1, .slice x2 m2 d2, .slice x3 m3 d3] D T (.slice (some ⟨gb, 0, none⟩) L.length cb) (L.set j (k, m, s)) (((w7.setCell ⟨gb, j * 3, none⟩ (.int .i64 k)).setCell ⟨gb, j * 3 + 1, none⟩ (.int .i64 m)).setCell ⟨gb, j * 3 + 2, none⟩ (.string s))) := I7.out.turn ((((Below.refl br w7).setCell hgb _).setCell hgb _).setCell hgb _) (by unfold VOwn; rw [List.length_set]; exact ho9)
         clear o1 o2 o3 hu0 hu1 hu2 hS9 ho9 hgb hC2 hO2 hs))
    obtain ⟨w9, hw9⟩ : ∃ z, (((w7.setCell ⟨gb, j * 3, none⟩ (.int .i64 k)).setCell ⟨gb, j * 3 + 1, none⟩ (.int .i64 m)).setCell ⟨gb, j * 3 + 2, none⟩ (.string s)) = z := ⟨_, rfl⟩
    rw [hw9] at I9 ⊢
    clear hw9 c0 c1 c2 f0 f1 f2 hj0 hj1 hl1 hl2
    obtain ⟨y0, y1, y2'⟩ := (show Box _ q #[.slice x1 m1 d1, .slice x2 m2 d2, .slice x3 m3 d3] 28 from I9.out.box).triV
    have fy0 := I9.out.res.frozen 0
    have fy1 := I9.out.res.frozen 1
    have fy2 := I9.out.res.frozen 2
    obtain ⟨r0, r1, r2⟩ := I9.out.res.triV
    have E := ((I9.out.res.put 0 (.slice x1 m1 d1)).put 1 (.slice x2 m2 d2)).put 2 (.slice x3 m3 d3)
    have e0 := E.cell 0
    have e1 := E.cell 1
    have e2 := E.cell 2
    go_wp2
    (try simp only [Exit.inBlock, Exit.then])
    refine bodyPost_ret (by simp [results, Try.results10, go_sem, e0, e1, e2]; try rfl) rfl ?_
    have hne : ∀ i, ((.slice (some ⟨gb, 0, none⟩) L.length cb) : Value).ownBlock ≠ some (⟨g, i, none⟩ : Addr).block := fun i e => by have e : ((.slice (some ⟨gb, 0, none⟩) L.length cb) : Value).ownBlock = some g := e; have h1 := own_block I9.out.row g e; have := HGP.out; have := HPB.out; have := HBR.out; omega
    have HO : Hid (OwnL _ b1 [.slice x1 m1 d1, .slice x2 m2 d2, .slice x3 m3 d3] (schE D) T) := I9.out.own
    refine ⟨D, [.slice x1 m1 d1, .slice x2 m2 d2, .slice x3 m3 d3], T, _, (L.set j (k, m, s)), rfl, HDR.out, ?_, ?_, ⟨by rw [List.length_set]; have := HLL.out; omega, fun x hx => (List.mem_or_eq_of_mem_set hx).elim (HSZ.out x) (fun e => by rw [e]; exact HS.out)⟩, ?_⟩
    · rw [HG.out]
      exact ((HO.out.heap fun x hx => (Below.heap_setCell _ _ _ _ (fun e => by have e : x = g := e; have h1 := (HO.out.lt x hx).1; have h2 := HGP.out; have h3 := HPB.out; omega)).trans ((Below.heap_setCell _ _ _ _ (fun e => by have e : x = g := e; have h1 := (HO.out.lt x hx).1; have h2 := HGP.out; have h3 := HPB.out; omega)).trans (Below.heap_setCell _ _ _ _ (fun e => by have e : x = g := e; have h1 := (HO.out.lt x hx).1; have h2 := HGP.out; have h3 := HPB.out; omega)))).weaken (by have h2 := HGP.out; have h3 := HPB.out; omega))
    · rw [HG.out]
      exact (own_weaken (base := br) (base' := g) (own_setCell_far (own_setCell_far (own_setCell_far I9.out.row (hne _) _) (hne _) _) (hne _) _) (by have := HGP.out; have := HPB.out; have := HBR.out; omega))
    · rw [HG.out]
      exact (((I9.out.bel.setCell (Nat.le_refl g) _).setCell (Nat.le_refl g) _).setCell (Nat.le_refl g) _)
  · obtain ⟨va, vc, hv, -, -⟩ := own_vas I5.out.row (by have := HLL.out; omega)
    subst hv
    go_upto_region 9 with (fail)
    obtain ⟨y0, y1, y2'⟩ := (show Box _ q #[.slice x1 m1 d1, .slice x2 m2 d2, .slice x3 m3 d3] 28 from I5.out.box).triV
    have fy0 := I5.out.res.frozen 0
    have fy1 := I5.out.res.frozen 1
    have fy2 := I5.out.res.frozen 2
    obtain ⟨r0, r1, r2⟩ := I5.out.res.triV
    have E := ((I5.out.res.put 0 (.slice x1 m1 d1)).put 1 (.slice x2 m2 d2)).put 2 (.slice x3 m3 d3)
    have e0 := E.cell 0
    have e1 := E.cell 1
    have e2 := E.cell 2
    go_wp2
    (try simp only [Exit.inBlock, Exit.then])
    refine bodyPost_ret (by simp [results, Try.results10, go_sem, e0, e1, e2]; try rfl) rfl ?_
    have hne : ∀ i, ((.slice va L.length vc) : Value).ownBlock ≠ some (⟨g, i, none⟩ : Addr).block := fun i e => by have e : ((.slice va L.length vc) : Value).ownBlock = some g := e; have h1 := own_block I5.out.row g e; have := HGP.out; have := HPB.out; have := HBR.out; omega
    have HO : Hid (OwnL _ b1 [.slice x1 m1 d1, .slice x2 m2 d2, .slice x3 m3 d3] (schE D) T) := I5.out.own
    refine ⟨D, [.slice x1 m1 d1, .slice x2 m2 d2, .slice x3 m3 d3], T, _, L, rfl, HDR.out, ?_, ?_, ⟨by have := HLL.out; omega, HSZ.out⟩, ?_⟩
    · rw [HG.out]
      exact ((HO.out.heap fun x hx => (Below.heap_setCell _ _ _ _ (fun e => by have e : x = g := e; have h1 := (HO.out.lt x hx).1; have h2 := HGP.out; have h3 := HPB.out; omega)).trans ((Below.heap_setCell _ _ _ _ (fun e => by have e : x = g := e; have h1 := (HO.out.lt x hx).1; have h2 := HGP.out; have h3 := HPB.out; omega)).trans (Below.heap_setCell _ _ _ _ (fun e => by have e : x = g := e; have h1 := (HO.out.lt x hx).1; have h2 := HGP.out; have h3 := HPB.out; omega)))).weaken (by have h2 := HGP.out; have h3 := HPB.out; omega))
    · rw [HG.out]
      exact (own_weaken (base := br) (base' := g) (own_setCell_far (own_setCell_far (own_setCell_far I5.out.row (hne _) _) (hne _) _) (hne _) _) (by have := HGP.out; have := HPB.out; have := HBR.out; omega))
    · rw [HG.out]
      exact (((I5.out.bel.setCell (Nat.le_refl g) _).setCell (Nat.le_refl g) _).setCell (Nat.le_refl g) _)
theorem drawColAt_any (a : Option Addr) (n c : Nat) (w : World) (hn : n ≤ 1048576) (hB : BytesAt w w.heap.size a n) :
    Calls Try.prog 13 #[.slice a n c] w (DwCa w) := by
  obtain ⟨g, hg⟩ : ∃ g, w.heap.size = g := ⟨_, rfl⟩
  have HG : Hid (w.heap.size = g) := hg
  obtain ⟨W, hW⟩ : ∃ W, w.alloc (.cells #[.slice none 0 0, .slice none 0 0, .slice none 0 0] 28) = W := ⟨_, rfl⟩
  have HW : Hid (w.alloc (.cells #[.slice none 0 0, .slice none 0 0, .slice none 0 0] 28) = W) := hW
  have XR : Hid (Box W g #[.slice none 0 0, .slice none 0 0, .slice none 0 0] 28) := by rw [← hW, ← hg]; exact box_of w _ _
  have hb0 : Below w.heap.size w W := by rw [← hW]; exact (Below.refl _ w).alloc (Nat.le_refl _) _
  have HB0 : Hid (Below g w W) := by rw [← hg]; exact hb0
  have HB : Hid (BytesAt W W.heap.size a n) := bytes_now hB hb0
  obtain ⟨p, hp⟩ : ∃ p, W.heap.size = p := ⟨_, rfl⟩
  have HP : Hid (W.heap.size = p) := hp
  have HGP : Hid (g < p) := by show _ < _; rw [← hp]; exact XR.out.lt
  clear hW hg hB hb0 hp
  go_enter Try.func13, Try.ntmps13
  go_upto_region 1 with (fail)
  rw [HW.out]
  (try rw [HG.out])
  go_wp2_with fail
  refine (l1New_any a n c _ hn HB.out).mono ?_
  rintro e w1 ⟨rfl, hC, hb1, -⟩
  rw [HP.out] at hC hb1 ⊢
  have HB1 : Hid (Below p W w1) := hb1
  have HC : Hid (Cur 102 w1 p a n c) := hC
  obtain ⟨b1, hb⟩ : ∃ b, w1.heap.size = b := ⟨_, rfl⟩
  have HBS : Hid (w1.heap.size = b1) := hb
  have HPB : Hid (p < b1) := by show _ < _; rw [← hb]; exact hC.lt
  clear hb1 hC hb
  go_wp2_with fail
  refine (l19Draw_any p a n c w1 HC.out).mono ?_
  rintro e w2 ⟨D, us, T, rfl, hdr, ho, hc, hf⟩
  rw [HBS.out] at ho
  obtain ⟨x1, m1, d1, x2, m2, d2, x3, m3, d3, rfl, -⟩ := own_sch ho
  have HDR : Hid (ScDr 2 3 D) := hdr
  have HC2 : Hid (Cur 102 w2 p a n c) := hc
  have O2 : Hid (OwnL w2 b1 [.slice x1 m1 d1, .slice x2 m2 d2, .slice x3 m3 d3] (schE D) T) := ho
  have hgl := XR.out.lt
  have X1 : Box w1 g #[.slice none 0 0, .slice none 0 0, .slice none 0 0] 28 := XR.out.below HB1.out HGP.out
  have X2 : Hid (Box w2 g #[.slice none 0 0, .slice none 0 0, .slice none 0 0] 28) := (hf.block g X1.lt (fun e => by injection e with e; have := HGP.out; omega)).trans X1
  have HB2 : Hid (Below g w w2) := (HB0.out.trans (HB1.out.mono (Nat.le_of_lt HGP.out))).trans ((Below.refl g w1).grown hf (by have := HGP.out; have := HPB.out; have := HBS.out; omega) (fun k e => by cases e; exact Nat.le_of_lt HGP.out))
  have HS2 : Hid (b1 ≤ w2.heap.size) := by have := hf.size; have := HBS.out; show _ ≤ _; omega
  clear hdr ho hc hf hgl X1
  obtain ⟨q, hq⟩ : ∃ q, w2.heap.size = q := ⟨_, rfl⟩
  have HQ : Hid (w2.heap.size = q) := hq
  obtain ⟨W3, hW3⟩ : ∃ W, w2.alloc (.cells #[.slice x1 m1 d1, .slice x2 m2 d2, .slice x3 m3 d3] 28) = W := ⟨_, rfl⟩
  have HW3 : Hid (w2.alloc (.cells #[.slice x1 m1 d1, .slice x2 m2 d2, .slice x3 m3 d3] 28) = W3) := hW3
  have b3 : Below w2.heap.size w2 W3 := by rw [← hW3]; exact (Below.refl _ w2).alloc (Nat.le_refl _) _
  have X3 : Hid (Box W3 q #[.slice x1 m1 d1, .slice x2 m2 d2, .slice x3 m3 d3] 28) := by rw [← hW3, ← hq]; exact box_of w2 _ _
  obtain ⟨br, hbr⟩ : ∃ b, W3.heap.size = b := ⟨_, rfl⟩
  have I3 : Hid (RoIn w g q p a n c b1 br [.slice x1 m1 d1, .slice x2 m2 d2, .slice x3 m3 d3] D T (.slice none 0 0) [] W3) := by
    have h1 := b3.size
    have h2 := HS2.out
    have h3 := HGP.out
    have h4 := HPB.out
    have h5 := X3.out.lt
    exact ⟨X2.out.below b3 X2.out.lt, X3.out, O2.out.on b3 (Nat.le_refl _), World.ownsRow_nil _ _ _ _, cur_below HC2.out b3, HB2.out.trans (b3.mono (by have := X2.out.lt; omega)), ⟨h3, h4, by omega, by omega, by omega, by omega⟩, fun x hx => by have := (O2.out.lt x hx).2; omega⟩
  clear hq hW3 b3 hbr
  go_upto_region 3 with (fail)
  rw [HW3.out, HQ.out]
  have Iz0 : Hid (RoIn w g q p a n c b1 br [.slice x1 m1 d1, .slice x2 m2 d2, .slice x3 m3 d3] D T (.slice none 0 0) [] W3.drew) := I3.out.grown (far_below (Below.refl _ _).drew _) (I3.out.cur.keep fun _ _ => rfl)
  obtain ⟨z0, hz0⟩ : ∃ z, W3.drew = z := ⟨_, rfl⟩
  have HZ0 : Hid (W3.drew = z0) := hz0
  rw [hz0] at Iz0
  clear hz0
  refine wp_region_held_drew (S := fun z => z.cell? ⟨q, 0, none⟩ = some (.slice x1 m1 d1) ∧ z.cell? ⟨q, 1, none⟩ = some (.slice x2 m2 d2) ∧ z.cell? ⟨q, 2, none⟩ = some (.slice x3 m3 d3)) (by kernel_rfl) (by rw [HZ0.out]; exact (show Box z0 q #[.slice x1 m1 d1, .slice x2 m2 d2, .slice x3 m3 d3] 28 from Iz0.out.box).triV) (fun hHeld => ?_)
  rw [HZ0.out] at hHeld ⊢
  refine wpAnyH_take (i := 0) (oi := _) (v := .agg #[.slice x1 m1 d1, .slice x2 m2 d2, .slice x3 m3 d3]) (by rw [List.getElem?_toArray]; exact rfl) (by kernel_rfl) (by kernel_rfl) (by kernel_rfl) (by intro _ _ _ h; exact h) (Or.inl ⟨by kernel_rfl, ?y134_0⟩) hHeld ?_
  case y134_0 =>
    intro w hSw
    obtain ⟨k0, k1, k2⟩ := hSw
    go_simp
    (try with_reducible rfl)
  (try simp only [Act.put, List.setIfInBounds_toArray, List.set_cons_zero, List.set_cons_succ])
  refine wpAnyH_take (i := 1) (oi := _) (v := .pointer (some ⟨p, 0, none⟩)) (by rw [List.getElem?_toArray]; exact rfl) (by kernel_rfl) (by kernel_rfl) (by kernel_rfl) (by intro _ _ _ h; exact h) (Or.inl ⟨by kernel_rfl, ?y135_1⟩) hHeld ?_
  case y135_1 =>
    intro w hSw
    clear hSw
    go_simp
    (try with_reducible rfl)
  (try simp only [Act.put, List.setIfInBounds_toArray, List.set_cons_zero, List.set_cons_succ])
  refine wpAnyH_ready (rs := [2]) (by kernel_rfl) (by simp) ?_
  refine AllReadyH.cons (o := _) (by rw [List.getElem?_toArray]; exact rfl) (fun K hK => ?_) AllReadyH.nil
  rw [if_pos (by kernel_rfl)]
  go_simp
  obtain ⟨gi, hgi⟩ : ∃ g, z0.heap.size = g := ⟨_, rfl⟩
  have GI : Hid (z0.heap.size = gi) := hgi
  obtain ⟨z1, hz1⟩ : ∃ W, z0.alloc (.cells #[.string (⟨#[105, 100]⟩ : ByteArray), .string (⟨#[111, 110]⟩ : ByteArray), .string (⟨#[115, 105, 122, 101]⟩ : ByteArray), .string (⟨#[]⟩ : ByteArray)] 9) = W := ⟨_, rfl⟩
  have WI : Hid (z0.alloc (.cells #[.string (⟨#[105, 100]⟩ : ByteArray), .string (⟨#[111, 110]⟩ : ByteArray), .string (⟨#[115, 105, 122, 101]⟩ : ByteArray), .string (⟨#[]⟩ : ByteArray)] 9) = z1) := hz1
  have Bz1 : Hid (Below z0.heap.size z0 z1) := by rw [← hz1]; exact (Below.refl _ _).alloc (Nat.le_refl _) _
  have Iz1 : Hid (RoIn w g q p a n c b1 br [.slice x1 m1 d1, .slice x2 m2 d2, .slice x3 m3 d3] D T (.slice none 0 0) [] z1) := Iz0.out.grown (far_below Bz1.out _) (cur_below Iz0.out.cur Bz1.out)
  have Yz1 : Hid (Box z1 gi #[.string (⟨#[105, 100]⟩ : ByteArray), .string (⟨#[111, 110]⟩ : ByteArray), .string (⟨#[115, 105, 122, 101]⟩ : ByteArray), .string (⟨#[]⟩ : ByteArray)] 9) := by rw [← hz1, ← hgi]; exact box_of z0 _ _
  have HGI : Hid (gi ≠ p) := by have := Iz0.out.ord; show _ ≠ _; omega
  clear hgi hz1
  rw [WI.out, GI.out]
  refine hK.out _ _ (show Box z1 q #[.slice x1 m1 d1, .slice x2 m2 d2, .slice x3 m3 d3] 28 from Iz1.out.box).triV (fun hHeld => ?_)
  clear hK K
  (try simp only [Act.put, List.setIfInBounds_toArray, List.set_cons_zero, List.set_cons_succ])
  refine wpAnyH_ready (rs := [3]) (by kernel_rfl) (by simp) ?_
  refine AllReadyH.cons (o := _) (by rw [List.getElem?_toArray]; exact rfl) (fun K hK => ?_) AllReadyH.nil
  rw [if_pos (by kernel_rfl)]
  go_simp
  refine (l1Pick_any p a n c gi 4 4 [[105, 100], [111, 110], [115, 105, 122, 101], []] (by omega) (by omega) z1 Iz1.out.cur HGI.out (fun i hi => by
    rcases (show i = 0 ∨ i = 1 ∨ i = 2 ∨ i = 3 by omega) with rfl | rfl | rfl | rfl
    · exact Yz1.out.cell 0
    · exact Yz1.out.cell 1
    · exact Yz1.out.cell 2
    · exact Yz1.out.cell 3)).mono ?_
  rintro e z2 ⟨y8, hy8, rfl, hC1, hO1⟩
  obtain ⟨ps, hps, hpz⟩ : ∃ s : ByteArray, S (([[105, 100], [111, 110], [115, 105, 122, 101], []] : List (List UInt8)).getD y8 []) = .string s ∧ s.size ≤ 13 := by
    rcases (show y8 = 0 ∨ y8 = 1 ∨ y8 = 2 ∨ y8 = 3 by omega) with rfl | rfl | rfl | rfl <;> exact ⟨_, rfl, by decide⟩
  have HPZ : Hid (ps.size ≤ 13) := hpz
  rw [hps]
  clear hps hpz hy8
  have Iz2 : Hid (RoIn w g q p a n c b1 br [.slice x1 m1 d1, .slice x2 m2 d2, .slice x3 m3 d3] D T (.slice none 0 0) [] z2) := Iz1.out.grown (far_only hO1) hC1
  clear hC1 hO1
  refine hK.out _ _ (show Box z2 q #[.slice x1 m1 d1, .slice x2 m2 d2, .slice x3 m3 d3] 28 from Iz2.out.box).triV (fun hHeld => ?_)
  clear hK K
  (try simp only [Act.put, List.setIfInBounds_toArray, List.set_cons_zero, List.set_cons_succ])
  have fy0 := Iz2.out.res.frozen 0
  have fy1 := Iz2.out.res.frozen 1
  have fy2 := Iz2.out.res.frozen 2
  obtain ⟨r0, r1, r2⟩ := Iz2.out.res.triV
  have HQG : Hid (¬ q = g) := by have := Iz2.out.ord; show ¬ _; omega
  have XQ9 : Box (((z2.setCell ⟨g, 0, none⟩ (.slice x1 m1 d1)).setCell ⟨g, 1, none⟩ (.slice x2 m2 d2)).setCell ⟨g, 2, none⟩ (.slice x3 m3 d3)) q #[.slice x1 m1 d1, .slice x2 m2 d2, .slice x3 m3 d3] 28 := (((show Box z2 q #[.slice x1 m1 d1, .slice x2 m2 d2, .slice x3 m3 d3] 28 from Iz2.out.box).set (q := ⟨g, 0, none⟩) HQG.out _).set (q := ⟨g, 1, none⟩) HQG.out _).set (q := ⟨g, 2, none⟩) HQG.out _
  refine wpAnyH_ready (rs := [4]) (by kernel_rfl) (by simp) ?_
  refine AllReadyH.cons (o := _) (by rw [List.getElem?_toArray]; exact rfl) (fun K hK => ?_) AllReadyH.nil
  rw [if_pos (by kernel_rfl)]
  go_simp
  refine hK.out _ _ XQ9.triV (fun hHeld => ?_)
  clear hK K
  (try simp only [Act.put, List.setIfInBounds_toArray, List.set_cons_zero, List.set_cons_succ])
  refine wpAnyH_take (i := 5) (oi := _) (v := .string ps) (by rw [List.getElem?_toArray]; exact rfl) (by kernel_rfl) (by kernel_rfl) (by kernel_rfl) (by intro _ _ _ h; exact h) (Or.inl ⟨by kernel_rfl, ?y136_5⟩) hHeld ?_
  case y136_5 =>
    intro w hSw
    clear hSw
    go_simp
    (try with_reducible rfl)
  (try simp only [Act.put, List.setIfInBounds_toArray, List.set_cons_zero, List.set_cons_succ])
  refine wpAnyH_done (by kernel_rfl) ?_ _
  (try simp only [Exit.then])
  clear XQ9
  have E := ((Iz2.out.res.put 0 (.slice x1 m1 d1)).put 1 (.slice x2 m2 d2)).put 2 (.slice x3 m3 d3)
  have e0 := E.cell 0
  have e1 := E.cell 1
  have e2 := E.cell 2
  go_wp2
  (try simp only [Exit.inBlock, Exit.then])
  refine bodyPost_ret (by simp [results, Try.results13, go_sem, e0, e1, e2]; try rfl) rfl ?_
  have HO : Hid (OwnL z2 b1 [.slice x1 m1 d1, .slice x2 m2 d2, .slice x3 m3 d3] (schE D) T) := Iz2.out.own
  refine ⟨D, [.slice x1 m1 d1, .slice x2 m2 d2, .slice x3 m3 d3], T, _, rfl, HDR.out, ?_, HPZ.out, ?_⟩
  · rw [HG.out]
    exact ((HO.out.heap fun x hx => (Below.heap_setCell _ _ _ _ (fun e => by have e : x = g := e; have h1 := (HO.out.lt x hx).1; have h2 := HGP.out; have h3 := HPB.out; omega)).trans ((Below.heap_setCell _ _ _ _ (fun e => by have e : x = g := e; have h1 := (HO.out.lt x hx).1; have h2 := HGP.out; have h3 := HPB.out; omega)).trans (Below.heap_setCell _ _ _ _ (fun e => by have e : x = g := e; have h1 := (HO.out.lt x hx).1; have h2 := HGP.out; have h3 := HPB.out; omega)))).weaken (by have h2 := HGP.out; have h3 := HPB.out; omega))
  · rw [HG.out]
    exact (((Iz2.out.bel.setCell (Nat.le_refl g) _).setCell (Nat.le_refl g) _).setCell (Nat.le_refl g) _)
theorem drawKeyOfRow_any (a : Option Addr) (n c : Nat) (w : World) (hn : n ≤ 1048576) (hB : BytesAt w w.heap.size a n) :
    Calls Try.prog 14 #[.slice a n c] w (DwRo w) := by
  obtain ⟨g, hg⟩ : ∃ g, w.heap.size = g := ⟨_, rfl⟩
  have HG : Hid (w.heap.size = g) := hg
  obtain ⟨W, hW⟩ : ∃ W, w.alloc (.cells #[.slice none 0 0, .slice none 0 0, .slice none 0 0] 28) = W := ⟨_, rfl⟩
  have HW : Hid (w.alloc (.cells #[.slice none 0 0, .slice none 0 0, .slice none 0 0] 28) = W) := hW
  have XR : Hid (Box W g #[.slice none 0 0, .slice none 0 0, .slice none 0 0] 28) := by rw [← hW, ← hg]; exact box_of w _ _
  have hb0 : Below w.heap.size w W := by rw [← hW]; exact (Below.refl _ w).alloc (Nat.le_refl _) _
  have HB0 : Hid (Below g w W) := by rw [← hg]; exact hb0
  have HB : Hid (BytesAt W W.heap.size a n) := bytes_now hB hb0
  obtain ⟨b1, hb1⟩ : ∃ b, W.heap.size = b := ⟨_, rfl⟩
  have HBS : Hid (W.heap.size = b1) := hb1
  have HGP : Hid (g < b1) := by show _ < _; rw [← hb1]; exact XR.out.lt
  clear hW hg hB hb0 hb1
  go_enter Try.func14, Try.ntmps14
  go_upto_region 1 with (fail)
  rw [HW.out]
  (try rw [HG.out])
  go_upto_region 2 with
    (go_at_call 10
     refine (drawRowOk_any a n c _ hn HB.out).mono ?_
     rintro e w1 ⟨D, us, T, v, L, rfl, hdr, ho, hv, hl, hb⟩
     rw [HBS.out] at ho hv hb
     obtain ⟨x1, m1, d1, x2, m2, d2, x3, m3, d3, rfl, -⟩ := own_sch ho
     obtain ⟨va, vc, hva, -, -⟩ := own_vas hv (by have := hl.1; omega)
     subst hva
     have HDR : Hid (ScDr 2 3 D) := hdr
     have O1 : Hid (OwnL w1 b1 [.slice x1 m1 d1, .slice x2 m2 d2, .slice x3 m3 d3] (schE D) T) := ho
     have V1 : Hid (VOwn w1 b1 (.slice va L.length vc) L) := hv
     have HL : Hid (L.length ≤ 5 ∧ ∀ x ∈ L, x.2.2.size ≤ 40) := hl
     have B1 : Hid (Below b1 W w1) := hb
     clear hdr ho hv hl hb)
  obtain ⟨q, hq⟩ : ∃ q, w1.heap.size = q := ⟨_, rfl⟩
  have HQ : Hid (w1.heap.size = q) := hq
  obtain ⟨W3, hW3⟩ : ∃ W, w1.alloc (.cells #[.slice x1 m1 d1, .slice x2 m2 d2, .slice x3 m3 d3] 28) = W := ⟨_, rfl⟩
  have HW3 : Hid (w1.alloc (.cells #[.slice x1 m1 d1, .slice x2 m2 d2, .slice x3 m3 d3] 28) = W3) := hW3
  have b3 : Below w1.heap.size w1 W3 := by rw [← hW3]; exact (Below.refl _ w1).alloc (Nat.le_refl _) _
  have HS : Hid (b1 ≤ w1.heap.size) := by have := B1.out.size; have := HBS.out; show _ ≤ _; omega
  have X3 : Hid (Box W3 q #[.slice x1 m1 d1, .slice x2 m2 d2, .slice x3 m3 d3] 28) := by rw [← hW3, ← hq]; exact box_of w1 _ _
  have O3 : Hid (OwnL W3 b1 [.slice x1 m1 d1, .slice x2 m2 d2, .slice x3 m3 d3] (schE D) T) := O1.out.on b3 (Nat.le_refl _)
  have V3 : Hid (VOwn W3 b1 (.slice va L.length vc) L) := owns_below V1.out b3 (Nat.le_refl _)
  have R3 : Hid (Box W3 g #[.slice none 0 0, .slice none 0 0, .slice none 0 0] 28) := (XR.out.below B1.out HGP.out).below b3 (by have := HS.out; have := HGP.out; omega)
  have B3 : Hid (Below g w W3) := (HB0.out.trans (B1.out.mono (Nat.le_of_lt HGP.out))).trans (b3.mono (by have := HS.out; have := HGP.out; omega))
  clear hq hW3 b3
  rw [HW3.out, HQ.out]
  obtain ⟨y0, y1, y2'⟩ := (show Box W3 q #[.slice x1 m1 d1, .slice x2 m2 d2, .slice x3 m3 d3] 28 from X3.out).triV
  have fy0 := R3.out.frozen 0
  have fy1 := R3.out.frozen 1
  have fy2 := R3.out.frozen 2
  obtain ⟨r0, r1, r2⟩ := R3.out.triV
  have E := ((R3.out.put 0 (.slice x1 m1 d1)).put 1 (.slice x2 m2 d2)).put 2 (.slice x3 m3 d3)
  have e0 := E.cell 0
  have e1 := E.cell 1
  have e2 := E.cell 2
  go_wp2
  (try simp only [Exit.inBlock, Exit.then])
  refine bodyPost_ret (by simp [results, Try.results14, go_sem, e0, e1, e2]; try rfl) rfl ?_
  have hne : ∀ i, (Value.slice va L.length vc).ownBlock ≠ some (⟨g, i, none⟩ : Addr).block := fun i e => by have e : (Value.slice va L.length vc).ownBlock = some g := e; have h1 := own_block V3.out g e; have := HGP.out; omega
  refine ⟨D, [.slice x1 m1 d1, .slice x2 m2 d2, .slice x3 m3 d3], T, _, L, rfl, HDR.out, ?_, ?_, HL.out, ?_⟩
  · rw [HG.out]
    exact ((O3.out.heap fun x hx => (Below.heap_setCell _ _ _ _ (fun e => by have e : x = g := e; have h1 := (O3.out.lt x hx).1; have h2 := HGP.out; omega)).trans ((Below.heap_setCell _ _ _ _ (fun e => by have e : x = g := e; have h1 := (O3.out.lt x hx).1; have h2 := HGP.out; omega)).trans (Below.heap_setCell _ _ _ _ (fun e => by have e : x = g := e; have h1 := (O3.out.lt x hx).1; have h2 := HGP.out; omega)))).weaken (by have h2 := HGP.out; omega))
  · rw [HG.out]
    exact (own_weaken (base := b1) (base' := g) (own_setCell_far (own_setCell_far (own_setCell_far V3.out (hne _) _) (hne _) _) (hne _) _) (by have := HGP.out; omega))
  · rw [HG.out]
    exact (((B3.out.setCell (Nat.le_refl g) _).setCell (Nat.le_refl g) _).setCell (Nat.le_refl g) _)
theorem drawColNameOk_any (a : Option Addr) (n c : Nat) (w : World) (hn : n ≤ 1048576) (hB : BytesAt w w.heap.size a n) :
    Calls Try.prog 12 #[.slice a n c] w fun e w' => (∃ s : ByteArray, e = .returned (.string s) ∧ s.size ≤ 13) ∧ Below w.heap.size w w' := by
  have HB : Hid (BytesAt w w.heap.size a n) := hB
  clear hB
  go_enter Try.func12, Try.ntmps12
  go_wp2_with fail
  refine (l1New_any a n c _ hn HB.out).mono ?_
  rintro e w1 ⟨rfl, hC, hb1, -⟩
  obtain ⟨p, hp⟩ : ∃ p, w.heap.size = p := ⟨_, rfl⟩
  have HP : Hid (w.heap.size = p) := hp
  rw [hp] at hC hb1 ⊢
  have HC : Hid (Cur 102 w1 p a n c) := hC
  obtain ⟨gi, hgi⟩ : ∃ g, w1.heap.size = g := ⟨_, rfl⟩
  have GI : Hid (w1.heap.size = gi) := hgi
  obtain ⟨z1, hz1⟩ : ∃ W, w1.alloc (.cells #[.string (⟨#[97]⟩ : ByteArray), .string (⟨#[]⟩ : ByteArray), .string (⟨#[97, 98, 99, 100, 101, 102, 103, 104, 105, 106, 107, 108]⟩ : ByteArray), .string (⟨#[97, 98, 99, 100, 101, 102, 103, 104, 105, 106, 107, 108, 109]⟩ : ByteArray), .string (⟨#[65]⟩ : ByteArray), .string (⟨#[97, 49]⟩ : ByteArray)] 9) = W := ⟨_, rfl⟩
  have WI : Hid (w1.alloc (.cells #[.string (⟨#[97]⟩ : ByteArray), .string (⟨#[]⟩ : ByteArray), .string (⟨#[97, 98, 99, 100, 101, 102, 103, 104, 105, 106, 107, 108]⟩ : ByteArray), .string (⟨#[97, 98, 99, 100, 101, 102, 103, 104, 105, 106, 107, 108, 109]⟩ : ByteArray), .string (⟨#[65]⟩ : ByteArray), .string (⟨#[97, 49]⟩ : ByteArray)] 9) = z1) := hz1
  have bz1 : Below w1.heap.size w1 z1 := by rw [← hz1]; exact (Below.refl _ _).alloc (Nat.le_refl _) _
  have Yz1 : Hid (Box z1 gi #[.string (⟨#[97]⟩ : ByteArray), .string (⟨#[]⟩ : ByteArray), .string (⟨#[97, 98, 99, 100, 101, 102, 103, 104, 105, 106, 107, 108]⟩ : ByteArray), .string (⟨#[97, 98, 99, 100, 101, 102, 103, 104, 105, 106, 107, 108, 109]⟩ : ByteArray), .string (⟨#[65]⟩ : ByteArray), .string (⟨#[97, 49]⟩ : ByteArray)] 9) := by rw [← hz1, ← hgi]; exact box_of w1 _ _
  have HCZ : Hid (Cur 102 z1 p a n c) := cur_below HC.out bz1
  have HGI : Hid (gi ≠ p) := by have := HC.out.lt; show _ ≠ _; omega
  have HBZ : Hid (Below p w z1) := hb1.trans (bz1.mono (Nat.le_of_lt hC.lt))
  have HPZ1 : Hid (p ≤ z1.heap.size) := Nat.le_trans (Nat.le_of_lt hC.lt) bz1.size
  clear hb1 hC hgi hz1 bz1 hp
  go_wp2_with
    (go_at_call 47
     rw [WI.out, GI.out]
     refine (l1Pick_any p a n c gi 6 6 [[97], [], [97, 98, 99, 100, 101, 102, 103, 104, 105, 106, 107, 108], [97, 98, 99, 100, 101, 102, 103, 104, 105, 106, 107, 108, 109], [65], [97, 49]] (by omega) (by omega) z1 HCZ.out HGI.out (fun i hi => by
       rcases (show i = 0 ∨ i = 1 ∨ i = 2 ∨ i = 3 ∨ i = 4 ∨ i = 5 by omega) with rfl | rfl | rfl | rfl | rfl | rfl
       · exact Yz1.out.cell 0
       · exact Yz1.out.cell 1
       · exact Yz1.out.cell 2
       · exact Yz1.out.cell 3
       · exact Yz1.out.cell 4
       · exact Yz1.out.cell 5)).mono ?_
     rintro e z2 ⟨y8, hy8, rfl, hC1, hO1⟩
     obtain ⟨ps, hps, hpz⟩ : ∃ s : ByteArray, S (([[97], [], [97, 98, 99, 100, 101, 102, 103, 104, 105, 106, 107, 108], [97, 98, 99, 100, 101, 102, 103, 104, 105, 106, 107, 108, 109], [65], [97, 49]] : List (List UInt8)).getD y8 []) = .string s ∧ s.size ≤ 13 := by
       rcases (show y8 = 0 ∨ y8 = 1 ∨ y8 = 2 ∨ y8 = 3 ∨ y8 = 4 ∨ y8 = 5 by omega) with rfl | rfl | rfl | rfl | rfl | rfl <;> exact ⟨_, rfl, by decide⟩
     have HPZ : Hid (ps.size ≤ 13) := hpz
     rw [hps]
     clear hps hpz hy8
     have BZ2 : Hid (Below p w z2) := HBZ.out.trans ((Below.refl p z1).grown (far_only hO1) HPZ1.out (fun k e => by cases e; exact Nat.le_refl _))
     clear hC1 hO1)
  go_ret
  exact ⟨⟨_, rfl, HPZ.out⟩, by rw [HP.out]; exact BZ2.out⟩
end
section
open Go.ChangeShapes Go.WideShapes Go.ChangeAt Go.RowKit Go.Maps
theorem mapLawN : Keyed Try.prog 9 := string_keyed Try.underlying9
theorem zeroIntsN (w : World) : (zeroValue 25).run Try.prog w = .ok (.slice none 0 0) w := by kernel_rfl
theorem keyN {s : ByteArray} (h : s.size ≤ maxLen) : keyOf Try.prog 9 (.string s) = some (.string s.data.toList) := Go.WideMaps.keyOf_string_mk Try.underlying9 h
def posN (nm : List ByteArray) (k : Nat) (t : List UInt8) : List Int := ((List.range k).filter fun i => decide ((nm.getD i ⟨#[]⟩).data.toList = t)).map fun (i : Nat) => (i : Int)
theorem posN_same {nm : List ByteArray} {k : Nat} {t : List UInt8} (h : (nm.getD k ⟨#[]⟩).data.toList = t) : posN nm (k + 1) t = posN nm k t ++ [(k : Int)] := by
  unfold posN
  rw [List.range_succ, List.filter_append, List.map_append, List.filter_cons_of_pos (by simpa using h)]
  rfl
theorem posN_other {nm : List ByteArray} {k : Nat} {t : List UInt8} (h : ¬ (nm.getD k ⟨#[]⟩).data.toList = t) : posN nm (k + 1) t = posN nm k t := by
  unfold posN
  rw [List.range_succ, List.filter_append, List.map_append, List.filter_cons_of_neg (by simpa using h)]
  simp
theorem posN_mem {nm : List ByteArray} {k : Nat} {t : List UInt8} {x : Int} : x ∈ posN nm k t ↔ ∃ i : Nat, i < k ∧ (nm.getD i ⟨#[]⟩).data.toList = t ∧ x = (i : Int) := by
  unfold posN
  rw [List.mem_map]
  constructor
  · rintro ⟨i, hi, rfl⟩
    obtain ⟨h1, h2⟩ := List.mem_filter.1 hi
    exact ⟨i, List.mem_range.1 h1, of_decide_eq_true h2, rfl⟩
  · rintro ⟨i, h1, h2, rfl⟩
    exact ⟨i, List.mem_filter.2 ⟨List.mem_range.2 h1, decide_eq_true h2⟩, rfl⟩
theorem posN_nodup (nm : List ByteArray) (k : Nat) (t : List UInt8) : (posN nm k t).Nodup := by
  unfold posN
  refine List.Pairwise.map _ (fun a b h e => h (by omega)) (List.Pairwise.filter _ List.nodup_range)
theorem posN_len (nm : List ByteArray) : ∀ (k : Nat) (t : List UInt8), (posN nm k t).length ≤ k
  | 0, t => Nat.le_refl _
  | k + 1, t => by
    have h := posN_len nm k t
    by_cases e : (nm.getD k ⟨#[]⟩).data.toList = t
    · rw [posN_same e, List.length_append]
      show _ + 1 ≤ _
      omega
    · rw [posN_other e]; omega
section
variable {H : Type}
def rowN : List Int → DataW H
  | [] => .nil
  | z :: r => .slice (lits .i64 (z :: r)) []
theorem rowN_pos {l : List Int} (h : l ≠ []) : rowN (H := H) l = .slice (lits .i64 l) [] := by
  cases l with
  | nil => exact absurd rfl h
  | cons z r => rfl
theorem litsN_inj {a b : List Int} (h : lits (H := H) .i64 a = lits .i64 b) : a = b := by
  unfold lits at h
  exact (List.map_inj_right (fun _ _ hxy => by cases hxy; rfl)).1 h
def ND (D : DataW H) (F : List UInt8 → List Int) : Prop := IsMap D ∧ ∀ t : List UInt8, Maps.has D (.string t) = decide (F t ≠ []) ∧ D.atKey (.string t) .nil = rowN (F t)
theorem ND_zero (nm : List ByteArray) : ND (H := H) (.map []) (posN nm 0) := ⟨⟨[], rfl⟩, fun _ => ⟨rfl, rfl⟩⟩
theorem ND_zs {F : List UInt8 → List Int} {D : DataW H} {t : List UInt8} {w : World} {base : Nat} {v : Value} {zs : List Int} (h : ND D F) (hat : D.atKey (.string t) .nil = rowDatum .i64 v zs) (hoi : w.ownsInts base 3 .i64 v zs) : zs = F t := by
  rw [(h.2 t).2] at hat
  rcases hoi.datum (H := H) with ⟨h1, h2⟩ | h1
  · rw [h1] at hat
    rw [h2]
    cases hp : F t with
    | nil => rfl
    | cons z r => rw [hp] at hat; cases hat
  · rw [h1] at hat
    cases hp : F t with
    | nil => rw [hp] at hat; cases hat
    | cons z r =>
      rw [hp] at hat
      simp only [rowN, DataW.slice.injEq] at hat
      exact (litsN_inj hat.1).symm
theorem ND_step {nm : List ByteArray} {k : Nat} {D : DataW H} {s : ByteArray} (h : ND D (posN nm k)) (hs : nm.getD k ⟨#[]⟩ = s) (hz : s.size ≤ maxLen) : ND (D.put (.string s.data.toList) (.slice (lits .i64 (posN nm k s.data.toList ++ [(k : Int)])) [])) (posN nm (k + 1)) := by
  have hk : WideAt.IsKeyLit (.string s.data.toList) := mapLawN.key (keyN hz)
  refine ⟨h.1.put _ _, fun t => ?_⟩
  by_cases ht : s.data.toList = t
  · subst ht
    rw [posN_same (by rw [hs]), has_put_same h.1 hk, atKey_put_same h.1 hk, rowN_pos (by simp)]
    simp
  · have hne : Lit.string t ≠ .string s.data.toList := fun e => ht (by cases e; rfl)
    rw [posN_other (by rw [hs]; exact ht), has_put_other hne, atKey_put_other hne]
    exact h.2 t
theorem ND_del {F : List UInt8 → List Int} {D : DataW H} (h : ND D F) (s : List UInt8) : ND (D.del (.string s)) (fun t => if t = s then [] else F t) := by
  refine ⟨h.1.del _, fun t => ?_⟩
  dsimp only
  by_cases ht : t = s
  · subst ht
    rw [has_del_same, atKey_del_same]
    simp [rowN]
  · have hne : Lit.string t ≠ .string s := fun e => ht (by cases e; rfl)
    have e : (if t = s then ([] : List Int) else F t) = F t := if_neg ht
    simp only [e]
    rw [has_del_other hne, atKey_del_other hne]
    exact h.2 t
theorem ND_congr {F G : List UInt8 → List Int} {D : DataW H} (h : ND D F) (e : ∀ t, F t = G t) : ND D G := by
  rw [show G = F from funext fun t => (e t).symm]; exact h
end
theorem groupsN_map {H : Type} {w : World} {P : Program} {k : TypeId} {base : Nat} {e : TypeId} {q : IntKind} {b n : Nat} {D : DataW H} (h : w.ownsGroups P k base e q b n D) : w.ownsMap P k (rowElem w base e q) b n D := by
  obtain ⟨es, clock, hb, F, hs, hD, _⟩ := h
  exact ⟨es, clock, hb, F, hs, hD⟩
theorem groupsN_base {H : Type} {w : World} {P : Program} {k : TypeId} {base : Nat} {e : TypeId} {q : IntKind} {b n : Nat} {D : DataW H} (h : w.ownsGroups P k base e q b n D) : b < base := by
  obtain ⟨es, clock, hb, F, hs, hD, h1, _⟩ := h
  exact h1
def RowsN (R : Value → Option (DataW Unit × List MemPlace)) (w : World) (base : Nat) : Prop :=
  ∀ v y, R v = some y → ∃ zs, w.ownsInts base 3 .i64 v zs ∧ y.1 = rowDatum .i64 v zs
def MapN (w : World) (b n base : Nat) (F : List UInt8 → List Int) : Prop :=
  ∃ (R : Value → Option (DataW Unit × List MemPlace)) (D : DataW Unit), w.ownsMap Try.prog 9 R b n D ∧ RowsN R w base ∧ b < base ∧ ND D F
theorem mapN_groups {w : World} {base b n : Nat} {D : DataW Unit} {F : List UInt8 → List Int} (h : w.ownsGroups Try.prog 9 base 3 .i64 b n D) (hD : ND D F) : MapN w b n base F :=
  ⟨_, D, groupsN_map h, fun v y hy => by obtain ⟨zs, ho, rfl⟩ := rowElem_inv hy; exact ⟨zs, ho, rfl⟩, groupsN_base h, hD⟩
theorem rowN_slice {w : World} {base : Nat} {v : Value} {zs : List Int} (h : w.ownsInts base 3 .i64 v zs) : ∃ p : Option Addr × Nat × Nat, v = .slice p.1 p.2.1 p.2.2 := by
  rcases h.1.2 with ⟨rfl, _⟩ | ⟨g, cap, cur, rfl, _⟩
  · exact ⟨(none, 0, 0), rfl⟩
  · exact ⟨(some ⟨g, 0, none⟩, zs.length, cap), rfl⟩
theorem rowN_len {w : World} {base : Nat} {a : Option Addr} {n c : Nat} {zs : List Int} (h : w.ownsInts base 3 .i64 (.slice a n c) zs) : n = zs.length := by
  rcases h.1.2 with ⟨h1, h2⟩ | ⟨g, cap, cur, h1, _⟩
  · simp only [Value.slice.injEq] at h1
    omega
  · simp only [Value.slice.injEq] at h1
    exact h1.2.1
theorem rowN_at {w : World} {base : Nat} {a : Option Addr} {n c : Nat} {zs : List Int} (h : w.ownsInts base 3 .i64 (.slice a n c) zs) (h0 : zs ≠ []) (hn : zs.length ≤ 1099511627776) : ∃ g, a = some ⟨g, 0, none⟩ ∧ IntAt w (some ⟨g, 0, none⟩) zs.length zs ∧ g < w.heap.size ∧ base ≤ g := by
  have hl := rowN_len h
  have h00 : 0 < zs.length := List.length_pos_iff.2 h0
  rcases h.1.2 with ⟨h1, h2⟩ | ⟨g, cap, cur, h1, h3⟩
  · omega
  · simp only [Value.slice.injEq] at h1
    obtain ⟨rfl, rfl, rfl⟩ := h1
    have h5 := h.1.lt g rfl
    exact ⟨g, rfl, own_intAt h.1 hn, h5.2, h5.1⟩
theorem stepN_row {F : List UInt8 → List Int} {D : DataW Unit} {R : Value → Option (DataW Unit × List MemPlace)} {w0 : World} {base : Nat} {t : List UInt8} {v : Value} {y : DataW Unit × List MemPlace} (hR : RowsN R w0 base) (hD : ND D F) (hv : R v = some y) (hat : ∀ zd, D.atKey (.string t) zd = y.1) :
    F t ≠ [] ∧ w0.ownsInts base 3 .i64 v (F t) := by
  have hh := has_true_of_atKey hat
  rw [(hD.2 t).1] at hh
  have hp := of_decide_eq_true hh
  obtain ⟨zs, ho, hy⟩ := hR v y hv
  have h1 := (hD.2 t).2
  rw [hat, hy] at h1
  refine ⟨hp, ?_⟩
  rcases ho.datum (H := Unit) with ⟨h2, _⟩ | h2
  · rw [h2, rowN_pos hp] at h1; cases h1
  · rw [h2, rowN_pos hp] at h1
    simp only [DataW.slice.injEq] at h1
    rw [← litsN_inj h1.1]
    exact ho
section
variable {P : Program} (w : World) {ops : Array Oper} {rest : List Oper} {o : Oper} {a : Act} {Q : Exit → Act → World → Prop}
theorem wpList_next_names (hg : o.guard = none) (it : Operand) (hop : o.op = Op.next it false) (R : Value → Option (DataW Unit × List MemPlace)) {w0 : World} {base : Nat} (hR : RowsN R w0 base) {F : List UInt8 → List Int}
    (b r n : Nat) (D : DataW Unit) (hD : ND D F) (left : Lit → Bool) (cnt : Nat) (hit : a.eval it = .pointer (some ⟨r, 0, none⟩)) (h : w.ranges Try.prog 9 R b r n D left cnt)
    (hDone : cnt = 0 → (∀ kl, left kl = false) → wpList Try.prog ops Q rest (a.put o.dst (.tuple #[.bool false])) w)
    (hMore : ∀ (s : ByteArray) (p : Option Addr) (l c : Nat) (w' : World) (cnt' : Nat), s.size ≤ maxLen → left (.string s.data.toList) = true → F s.data.toList ≠ [] → w0.ownsInts base 3 .i64 (.slice p l c) (F s.data.toList) → w'.ranges Try.prog 9 R b r n D (fun z => left z && !z.sameKey (.string s.data.toList)) cnt' → cnt' < cnt →
      w.grownBy w' (some r) → w'.heap.size = w.heap.size → (Instr.entry (.pointer (some ⟨r, 0, none⟩))).run Try.prog w' = .ok (.tuple #[.string s, .slice p l c]) w' → wpList Try.prog ops Q rest (a.put o.dst (.tuple #[.bool true, .string s, .slice p l c])) w') :
    wpList Try.prog ops Q (o :: rest) a w :=
  wpList_next_ranges w hg it hop 9 mapLawN R Value.string (fun p : Option Addr × Nat × Nat => Value.slice p.1 p.2.1 p.2.2) (fun key kl hkey => by obtain ⟨s, rfl, _⟩ := Go.WideMaps.string_of_keyOf Try.underlying9 hkey; exact ⟨s, rfl⟩)
    (fun v y hv => by obtain ⟨zs, ho, _⟩ := hR v y hv; exact rowN_slice ho)
    b r n D left cnt hit h hDone (fun s c kl y w' cnt' hkey hlk hv hat hrg hlt hgr hsz hen => by
      obtain ⟨s', ex, rfl, hws⟩ := Go.WideMaps.string_of_keyOf Try.underlying9 hkey
      cases ex
      obtain ⟨h2, h3⟩ := stepN_row hR hD hv hat
      exact hMore s c.1 c.2.1 c.2.2 w' cnt' hws hlk h2 h3 hrg hlt hgr hsz hen)
end
theorem sameKeyN (x y : List UInt8) : (Lit.string x).sameKey (.string y) = decide (x = y) := by
  by_cases h : x = y
  · subst h
    simp [Lit.sameKey]
  · rw [Maps.sameKey_ne (fun e => h (by cases e; rfl))]
    simp [h]
theorem Below.grownN {w w' : World} (h : Below w.heap.size w w') : w.grownBy w' none := ⟨h.os, h.tape, h.output, h.size, fun i hi _ => h.block i hi⟩
theorem step_lookN {ops : Array Oper} {o : Oper} {a : Act} (w : World) {K : Act → World → Prop} {Q : Exit → Act → World → Prop} {E : Prop} (hg : o.guard = none) (m x : Operand) (hop : o.op = Op.lookup 85 m x false)
    (base b n : Nat) (D : DataW Unit) (hm : a.eval m = .map (some b)) (hown : w.ownsGroups Try.prog 9 base 3 .i64 b n D) (hn : n < maxLen) (s : ByteArray) (hx : a.eval x = .string s) (hs : s.size ≤ maxLen)
    (hK : ∀ v zs, D.atKey (.string s.data.toList) .nil = rowDatum .i64 v zs → w.ownsInts base 3 .i64 v zs → zs.length ≤ n → w.groupBack Try.prog 85 9 base 3 .i64 b n D (.string s) (.string s.data.toList) v → (∀ No : Nat → Prop, w.Shuns b No → ∀ g, v.ownBlock = some g → ¬ No g) → K (a.put o.dst v) w) :
    if Region.wanted o (yielded ops a.tmps) = true then Oper.wp Try.prog o a w K Q else E := by
  rw [if_pos (by simp [Region.wanted, hg])]
  obtain ⟨v, zs, hrun, hat, hoi, hzl, hback⟩ := hown.at mapLawN Try.underlying85 (zeroIntsN w) hn (keyN hs)
  have hsh : ∀ No : Nat → Prop, w.Shuns b No → ∀ g, v.ownBlock = some g → ¬ No g := by
    obtain ⟨es, clock, hb, F, _⟩ := hown
    rcases Maps.fit_look false mapLawN Try.underlying85 (zeroIntsN w) hb F (keyN hs) with ⟨hrun', _, _⟩ | ⟨e0, y, hm0, _, hrun', _, _, _⟩
    · rw [hrun] at hrun'
      obtain rfl : v = .slice none 0 0 := by simpa using hrun'
      intro _ _ g hg'
      cases hg'
    · rw [hrun] at hrun'
      obtain rfl : v = e0.val := by simpa using hrun'
      exact fun No hs g hg' => hs es clock hb e0 hm0 g hg'
  unfold Oper.wp
  simp [execOp, hop, hm, hx, hrun, Result.andThen]
  exact hK v zs hat hoi hzl hback hsh
theorem step_appN1 {ops : Array Oper} {o : Oper} {a : Act} (w : World) {K : Act → World → Prop} {Q : Exit → Act → World → Prop} {E : Prop} (hg : o.guard = none) (s x : Operand)
    (ho : o.op = .call { callee := .builtin .append, args := #[s, x], argTypes := #[25, 25] })
    (base : Nat) (v : Value) (zs : List Int) (hs : a.eval s = v) (hown : w.ownsInts base 3 .i64 v zs) (ad : Addr) (c : Nat) (y : Int) (hx : a.eval x = .slice (some ad) 1 c) (hc : w.cell? (ad.add 0) = some (.int .i64 y)) (hy : (Lit.int .i64 y).wf = true) (hle : zs.length ≤ 2097152) (hbase : base ≤ w.heap.size)
    (h : ∀ v' w', w'.ownsInts base 3 .i64 v' (zs ++ [y]) → w.grownBy w' v.ownBlock → (v'.ownBlock = v.ownBlock ∨ v'.ownBlock = some w.heap.size) → K (a.put o.dst v') w') :
    if Region.wanted o (yielded ops a.tmps) = true then Oper.wp Try.prog o a w K Q else E := by
  rw [if_pos (by simp [Region.wanted, hg])]
  obtain ⟨i0, hi, hz0, hz1, hz2⟩ := info_parts infoInt
  obtain ⟨v', w', hrun, h2, h3, _, h5⟩ := run_append_own_at (P := Try.prog) (w := w) base 25 o.type 3 i0 _ 1 8 Try.underlying25 hi hz0 hz1 hz2 rfl (by decide) v zs.length (zs.map (Value.int .i64)) hown.1 ad 1 c [.int .i64 y] rfl (fun j u hj => by
    match j, hj with
    | 0, hj => cases hj; exact hc
    | j + 1, hj => simp at hj) (fun u hu => by rw [List.mem_singleton.1 hu]; rfl) (by unfold maxLen; omega) (by omega) hbase
  unfold Oper.wp execOp
  simp only [ho, resolve, invoke, builtin, Sem.run_bind, Sem.run_pure, Result.andThen_ok, List.map_toArray, List.map_cons, List.map_nil, hs, hx, hrun]
  exact h v' w' (hown.appended h2 hy) h3 h5
theorem step_storeN {ops : Array Oper} {o : Oper} {a : Act} (w : World) {K : Act → World → Prop} {Q : Exit → Act → World → Prop} {E : Prop} (hg : o.guard = none) (m x v : Operand) (hop : o.op = Op.mapUpdate 85 m x v)
    {w0 : World} {base b n : Nat} {D : DataW Unit} {key : Value} {kl : Lit} {u v' : Value} {zs' : List Int}
    (hback : w0.groupBack Try.prog 85 9 base 3 .i64 b n D key kl u) (hm : a.eval m = .map (some b)) (hx : a.eval x = key) (hv : a.eval v = v')
    (hgr : w0.grownBy w u.ownBlock) (hown' : w.ownsInts base 3 .i64 v' zs') (hl' : zs'.length ≤ n + 1) (hloc : v'.ownBlock = u.ownBlock ∨ ∃ g, v'.ownBlock = some g ∧ w0.heap.size ≤ g)
    (hK : ∀ w2, w2.ownsGroups Try.prog 9 base 3 .i64 b (n + 1) (D.put kl (rowDatum .i64 v' zs')) → w.grownBy w2 (some b) → K (a.put o.dst undef) w2) :
    if Region.wanted o (yielded ops a.tmps) = true then Oper.wp Try.prog o a w K Q else E := by
  rw [if_pos (by simp [Region.wanted, hg])]
  obtain ⟨w2, hrun, r1, r2⟩ := hback w v' zs' hgr hown' hl' hloc
  unfold Oper.wp
  simp [execOp, hop, hm, hx, hv, hrun, Result.andThen]
  exact hK w2 r1 r2
end
end Go.Proofs.Ytmgofehafjogfaa
