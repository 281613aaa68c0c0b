/- Texts joined: SpecRp, ImplTurn. -/
import Derived.Test.YtbfolanfbagofaaGreatDoorQA16
import Derived.Test.YtbfolanfbagofaaGreatDoorQA19
import Derived.Test.YtbfolanfbagofaaGreatDoorQA21
import Derived.Test.YtbfolanfbagofaaGreatDoorQA01
import Derived.Deep.RegionHeld3
import Derived.Deep.Cut
import Derived.Test.YtbfolanfbagofaaGreatDoorQA05
set_option maxHeartbeats 16000000
set_option maxRecDepth 100000
namespace Go.Proofs.YtbfolanfbagofaaGreatDoor
section
open Go.ChangeShapes Go.WideShapes Go.ChangeAt Go.RowKit
def ReplSays (M : MaD) (rs : Nat → List Int) (base : Nat) (e : Ending) (w' : World) : Prop :=
 (MachGood M ∧ ∃ g c zs st' ok, e = .returned (.tuple #[.agg #[.slice (some ⟨g, 0, none⟩) 4 c, .int .i64 st'], .bool ok]) ∧ ReplM M rs M.no zs st' ∧ (ok = true ↔ SoM M rs M.no) ∧ w'.ownsRow base 3 1 (.slice (some ⟨g, 0, none⟩) 4 c) 4 (zs.map I))
 ∨ (¬ MachGood M ∧ e = .returned (.tuple #[.agg #[.slice none 0 0, .int .i64 0], .bool false]))
structure RpSt (w : World) (sz rb : Nat) (mv : Array Value) (M : MaD) (rs : Nat → List Int) (k : Nat) (B : Bool) (wr : World) (g c : Nat) (zs : List Int) (st' : Int) : Prop where
 m : Box wr sz mv 43
 out : Box wr (sz + 1) #[.slice none 0 0, .int .i64 0] 41
 r : Box wr rb #[.slice (some ⟨g, 0, none⟩) 4 c, .int .i64 st'] 41
 own : wr.ownsRow (sz + 2) 3 1 (.slice (some ⟨g, 0, none⟩) 4 c) 4 (zs.map I)
 far : g ≠ rb
 rep : ReplM M rs k zs st'
 so : B = true ↔ SoM M rs k
 blw : Below sz w wr
 lt : sz + 1 < rb
theorem owns_four {w : World} {base : Nat} {e : TypeId} {a : Option Addr} {c : Nat} {xs : List Value} (h : w.ownsRow base e 1 (.slice a 4 c) 4 xs) : ∃ g, a = some ⟨g, 0, none⟩ := by
 rcases owns_forms h with ⟨_, h0⟩ | ⟨g, cap, e⟩
 · cases h0
 · cases e; exact ⟨g, rfl⟩
theorem two_of {w : World} {b : Nat} {x0 x1 : Value} {T : TypeId} (h : Box w b #[x0, x1] T) : w.cell? ⟨b, 0, none⟩ = some x0 ∧ w.cell? ⟨b, 1, none⟩ = some x1 ∧ w.frozen? ⟨b, 0, none⟩ = false ∧ w.frozen? ⟨b, 1, none⟩ = false := ⟨h.cell 0, h.cell 1, h.frozen 0, h.frozen 1⟩
theorem intAt_own {w : World} {base g c : Nat} {xs : List Int} {e : TypeId} (h : w.ownsRow base e 1 (.slice (some ⟨g, 0, none⟩) 4 c) 4 (xs.map I)) : IntAt w (some ⟨g, 0, none⟩) 4 xs := by
 obtain ⟨a, c', e1, h1⟩ := own_at h (by omega)
 cases e1
 exact h1
theorem ok_len {M : MaD} (h : MachGood M) : M.hs.length = 4 := h.first.1
theorem specReplay_any (wa : Option Addr) (wc : Nat) (da : Option Addr) (dc : Nat) (ta : Option Addr) (tc : Nat) (ca : Option Addr) (cc : Nat) (oa : Option Addr) (oc : Nat) (ha : Option Addr) (hc : Nat) (M : MaD) (rs : Nat → List Int) (w : World) (h : MaAt w wa da ta ca oa ha M) (hr : CasR w ca M.nc M.f rs) :
   Calls Tryz.prog 34 #[MaV wa wc da dc ta tc ca cc oa oc ha hc M] w fun e w' => ReplSays M rs w.heap.size e w' ∧ Below w.heap.size w w' := by
 have HM : Hid (MaAt w wa da ta ca oa ha M) := h
 have HCR : Hid (CasR w ca M.nc M.f rs) := hr
 obtain ⟨MX, hMX⟩ : ∃ MX, M = MX := ⟨_, rfl⟩
 have HMX : Hid (M = MX) := hMX
 have HSAY : Hid (∀ e w', ReplSays MX rs w.heap.size e w' → ReplSays M rs w.heap.size e w') := fun e w' h => by rw [HMX.out]; exact h
 obtain ⟨MO, hMO⟩ : ∃ MO : Prop, MachGood M = MO := ⟨_, rfl⟩
 have HMO : Hid (MachGood M = MO) := hMO
 have HORD : Hid (MO → ∀ i, i < M.no → OrdAt M.f M.nc M.os i) := fun h => by rw [← hMO] at h; exact h.calls.ord
 have HLEN : Hid (MO → M.hs.length = 4) := fun h => by rw [← hMO] at h; exact ok_len h
 have HR0 : Hid (ReplM MX rs 0 M.hs M.st) := by rw [← hMX]; exact ⟨rfl, rfl⟩
 have HF : Hid (MX.f = M.f ∧ MX.os = M.os ∧ MX.no = M.no) := by rw [← hMX]; exact ⟨rfl, rfl, rfl⟩
 have HXO : Hid (MachGood MX = MO) := by rw [← hMX]; exact hMO
 have H1 : Hid (IntAt w oa M.no M.os) := h.ord
 have H2 : Hid (IntAt w ha M.nh M.hs) := h.held
 have hno := h.ord.2.1
 have hnc := h.calls.1
 have hl1 := h.held.1
 obtain ⟨SAY, hSAY⟩ : ∃ SAY, ReplSays M rs w.heap.size = SAY := ⟨_, rfl⟩
 have HS2 : Hid (∀ e w', ReplSays MX rs w.heap.size e w' → SAY e w') := fun e w' h => by rw [← hSAY, HMX.out]; exact h
 show Calls Tryz.prog 34 #[MaV wa wc da dc ta tc ca cc oa oc ha hc M] w fun e w' => ReplSays M rs w.heap.size e w' ∧ Below w.heap.size w w'
 rw [hSAY]
 clear hSAY HSAY hMX hMO h hr
 clear HMX
 obtain ⟨nw, ws, nd, ds, nt, ts, tm, nc, f, no, os, nh, hs, st⟩ := M
 dsimp only at HCR HORD HLEN HR0 HF H1 H2 hno hnc hl1
 show Calls Tryz.prog 34 #[.agg #[.slice wa nw wc, .slice da nd dc, .slice ta nt tc, .int .i64 tm, .slice ca nc cc, .slice oa no oc, .slice ha nh hc, .int .i64 st]] w fun e w' => SAY e w' ∧ Below w.heap.size w w'
 obtain ⟨sz, hsz⟩ : ∃ sz, w.heap.size = sz := ⟨_, rfl⟩
 obtain ⟨W, hW⟩ : ∃ W, (w.alloc (.cells #[.slice wa nw wc, .slice da nd dc, .slice ta nt tc, .int .i64 tm, .slice ca nc cc, .slice oa no oc, .slice ha nh hc, .int .i64 st] 43)).alloc (.cells #[.slice none 0 0, .int .i64 0] 41) = W := ⟨_, rfl⟩
 have hb0 : Below sz w W := by rw [← hW, ← hsz]; exact ((Below.refl _ w).alloc (Nat.le_refl _) _).alloc (by simp) _
 have BM : Hid (Box W sz #[.slice wa nw wc, .slice da nd dc, .slice ta nt tc, .int .i64 tm, .slice ca nc cc, .slice oa no oc, .slice ha nh hc, .int .i64 st] 43) := by rw [← hW, ← hsz]; exact (box_of w _ _).alloc _
 have BO : Hid (Box W (sz + 1) #[.slice none 0 0, .int .i64 0] 41) := by rw [← hW, ← hsz]; have := box_of (w.alloc (.cells #[.slice wa nw wc, .slice da nd dc, .slice ta nt tc, .int .i64 tm, .slice ca nc cc, .slice oa no oc, .slice ha nh hc, .int .i64 st] 43)) #[.slice none 0 0, .int .i64 0] 41; rwa [World.size_alloc] at this
 have HB0 : Hid (Below sz w W) := hb0
 have HW : Hid ((w.alloc (.cells #[.slice wa nw wc, .slice da nd dc, .slice ta nt tc, .int .i64 tm, .slice ca nc cc, .slice oa no oc, .slice ha nh hc, .int .i64 st] 43)).alloc (.cells #[.slice none 0 0, .int .i64 0] 41) = W) := hW
 have HSZ : Hid (w.heap.size = sz) := hsz
 have HLE : Hid (w.heap.size ≤ sz) := by show _ ≤ _; omega
 rw [hsz] at HS2
 rw [show (fun e w' => SAY e w' ∧ Below w.heap.size w w') = (fun e w' => SAY e w' ∧ Below sz w w') by rw [hsz]]
 clear hb0 hW hsz
 go_enter Tryz.func34, Tryz.ntmps34
 go_wp2_with fail
 rw [HW.out]
 (try rw [HSZ.out])
 refine (specMachineOk_any wa wc da dc ta tc ca cc oa oc ha hc ⟨nw, ws, nd, ds, nt, ts, tm, nc, f, no, os, nh, hs, st⟩ W (HM.out.below HB0.out HLE.out)).mono ?_
 rintro e w1 ⟨r, ⟨rfl, hr⟩, hb1⟩
 have HR : Hid (r = true ↔ MO) := by show _ ↔ _; rw [← HMO.out]; exact hr
 have BM1 : Hid (Box w1 sz #[.slice wa nw wc, .slice da nd dc, .slice ta nt tc, .int .i64 tm, .slice ca nc cc, .slice oa no oc, .slice ha nh hc, .int .i64 st] 43) := BM.out.below hb1 BM.out.lt
 have BO1 : Hid (Box w1 (sz + 1) #[.slice none 0 0, .int .i64 0] 41) := BO.out.below hb1 BO.out.lt
 have HB1 : Hid (Below sz w w1) := HB0.out.trans (hb1.mono (by have := BM.out.lt; omega))
 obtain ⟨z0, z1, z2, z3, z4, z5, z6, z7⟩ := eight_of BM1.out
 clear hr hb1
 rcases r with _ | _
 · have HNO : Hid (¬ MO) := fun h => by have := HR.out.2 h; cases this
   obtain ⟨c0, c1, g0, g1⟩ := two_of BO1.out
   obtain ⟨d0, d1, _, _⟩ := two_of ((BO1.out.put 0 (.slice none 0 0)).put 1 (.int .i64 0))
   have LO : sz + 1 < w1.heap.size := BO1.out.lt
   go_wp2
   (try simp only [Exit.inBlock, Exit.then])
   refine bodyPost_ret (by simp [results, Tryz.results34, go_sem, d0, d1]; try rfl) rfl ?_
   exact ⟨HS2.out _ _ (.inr ⟨by rw [HXO.out]; exact HNO.out, rfl⟩), (HB1.out.setCell (by simp) _).setCell (by simp) _⟩
 have HOK : Hid MO := HR.out.1 (by first | rfl | trivial)
 have hn4 : nh = 4 := by have := HLEN.out HOK.out; omega
 subst hn4
 rcases H2.out.2.2 with h0 | ⟨p, o, rfl, _⟩
 · cases h0
 go_wp2_with fail
 refine (l3Copy_any p o 4 hc st hs _ (H2.out.below HB1.out HLE.out)).mono ?_
 rintro e w2 ⟨a', c', rfl, hown, hb2⟩
 obtain ⟨g, rfl⟩ := owns_four hown
 obtain ⟨rb, hrb⟩ : ∃ rb, w2.heap.size = rb := ⟨_, rfl⟩
 obtain ⟨W3, hW3⟩ : ∃ W3, w2.alloc (.cells #[.slice (some ⟨g, 0, none⟩) 4 c', .int .i64 st] 41) = W3 := ⟨_, rfl⟩
 have hg := own_base hown
 have hb3 : Below w2.heap.size w2 W3 := by rw [← hW3]; exact (Below.refl _ _).alloc (Nat.le_refl _) _
 have L1 := BO1.out.lt
 have hss := hb2.size
 have ST0 : Hid (RpSt w sz rb #[.slice wa nw wc, .slice da nd dc, .slice ta nt tc, .int .i64 tm, .slice ca nc cc, .slice oa no oc, .slice (some ⟨p, o, none⟩) 4 hc, .int .i64 st] MX rs 0 true W3 g c' hs st) := by
   have hbb : Below w1.heap.size w1 W3 := hb2.trans (hb3.mono hss)
   refine ⟨BM1.out.below hbb BM1.out.lt, BO1.out.below hbb L1, by rw [← hW3, ← hrb]; exact box_of w2 _ _, own_weaken (owns_below hown hb3 (Nat.le_refl _)) (by omega), by omega, HR0.out, by simp [SoM], HB1.out.trans (hbb.mono (by omega)), by omega⟩
 have HW3 : Hid (w2.alloc (.cells #[.slice (some ⟨g, 0, none⟩) 4 c', .int .i64 st] 41) = W3) := hW3
 have HRB : Hid (w2.heap.size = rb) := hrb
 clear hown hb2 hrb hW3 hg hb3 L1 hss z0 z1 z2 z3 z4 z5 z6 z7
 go_upto_region 6 with (fail)
 rw [HW3.out]
 (try rw [HRB.out])
 clear HW3 HRB
 go_loopw [5, 6] (fun q i wr => ∃ k B g c zs st', k ≤ no ∧ q = .bool B ∧ i = .int .i64 ((k : Nat) : Int) ∧ RpSt w sz rb #[.slice wa nw wc, .slice da nd dc, .slice ta nt tc, .int .i64 tm, .slice ca nc cc, .slice oa no oc, .slice (some ⟨p, o, none⟩) 4 hc, .int .i64 st] MX rs k B wr g c zs st') (fun _ i _ => no - (intOf i).toNat)
 case atStart => exact ⟨0, true, g, c', hs, st, Nat.zero_le _, rfl, rfl, ST0.out⟩
 case round =>
   clear ST0
   obtain ⟨k, B, g, c, zs, st', hk, rfl, rfl, hST⟩ := hrel
   have ST : Hid (RpSt w sz rb #[.slice wa nw wc, .slice da nd dc, .slice ta nt tc, .int .i64 tm, .slice ca nc cc, .slice oa no oc, .slice (some ⟨p, o, none⟩) 4 hc, .int .i64 st] MX rs k B wr g c zs st') := hST
   have LT := hST.lt
   have LR : rb < wr.heap.size := hST.r.lt
   have LM : sz < wr.heap.size := hST.m.lt
   obtain ⟨z0, z1, z2, z3, z4, z5, z6, z7⟩ := eight_of hST.m
   obtain ⟨r0, r1, f0, f1⟩ := two_of hST.r
   obtain ⟨c0, c1, g0, g1⟩ := two_of hST.out
   clear hST
   by_cases hlt : k < no
   case neg =>
     obtain rfl : no = k := by omega
     obtain ⟨d0, d1, _, _⟩ := two_of ((ST.out.out.put 0 (.slice (some ⟨g, 0, none⟩) 4 c)).put 1 (.int .i64 st'))
     have LO : sz + 1 < wr.heap.size := by omega
     go_wp2
     (try simp only [Exit.inBlock, Exit.then])
     refine bodyPost_ret (by simp [results, Tryz.results34, go_sem, d0, d1]; try rfl) rfl ?_
     have hgo := own_base ST.out.own
     have hne : (Value.slice (some ⟨g, 0, none⟩) 4 c).ownBlock ≠ some (sz + 1) := fun h => by have h2 : g = sz + 1 := Option.some.inj h; omega
     refine ⟨HS2.out _ _ (.inl ⟨by rw [HXO.out]; exact HOK.out, g, c, zs, st', B, rfl, ?_, ?_, ?_⟩), (ST.out.blw.setCell (by simp) _).setCell (by simp) _⟩
     · rw [HF.out.2.2]; exact ST.out.rep
     · rw [HF.out.2.2]; exact ST.out.so
     · exact own_weaken (own_setCell_far (own_setCell_far ST.out.own hne _) hne _) (by omega)
   have hk0 : (0 : Int) ≤ (k : Int) := by omega
   have hk1 : (k : Int) < (no : Int) := by omega
   have hO := HORD.out HOK.out k hlt
   have hin := inB_val hO.1
   rcases (H1.out.below ST.out.blw HLE.out).2.2 with h0 | ⟨p2, o2, rfl, q2⟩
   · omega
   have eo := q2 k hlt
   have HCN : Hid (calN MX k = (os.getD k 0).toNat) := by show (MX.os.getD k 0).toNat = _; rw [HF.out.2.1]
   obtain ⟨n, hn⟩ : ∃ n, os.getD k 0 = n := ⟨_, rfl⟩
   rw [hn] at hin eo HCN
   have hn0 : 0 ≤ n := by omega
   have hn1 : n < (nc : Int) := by omega
   rcases HCR.out.below ST.out.blw HLE.out with h0 | ⟨p1, o1, rfl, g2⟩
   · omega
   obtain ⟨ra, rn, rc, ⟨e0, e1, e2, e3, e4, e5, e6, e7, e8⟩, hres⟩ := g2 n.toNat (by omega)
   obtain ⟨L, hL⟩ : ∃ L, rs n.toNat = L := ⟨_, rfl⟩
   obtain ⟨C, hC⟩ : ∃ C, f n.toNat = C := ⟨_, rfl⟩
   have HCC : Hid (MX.f (calN MX k) = C ∧ rs (calN MX k) = L) := by rw [HCN.out, HF.out.1]; exact ⟨hC, hL⟩
   rw [hL] at hres
   rw [hC] at e0 e1 e2 e3 e4 e5 e6 e7
   obtain ⟨x0, x1, x2, x3, x4, x5, x6, x7⟩ := C
   dsimp only at e0 e1 e2 e3 e4 e5 e6 e7
   have HRES : Hid (IntAt wr ra rn L) := hres
   have HAW : Hid (AlwJ MX rs k zs st' ↔ AllowM zs st' x1 x2 x3 x7 L) := by show AllowM _ _ _ _ _ _ _ ↔ _; rw [HCC.out.1, HCC.out.2]
   have HAF : Hid (∀ ys s, AfterM zs st' x1 x2 x3 x7 L ys s → ReplM MX rs (k + 1) ys s) := fun ys s h => ⟨zs, st', ST.out.rep, by rw [HCC.out.1, HCC.out.2]; exact h⟩
   have LP1 : p1 < wr.heap.size := World.block_lt_of_cell? wr _ e0
   have LP2 : p2 < wr.heap.size := World.block_lt_of_cell? wr _ eo
   clear g2 q2 hO hin hC hL hn hres HCC HCN
   go_wp2_with fail
   go_region_held3 (fun w' => w'.cell? ⟨sz, 4, none⟩ = some (.slice (some ⟨p1, o1, none⟩) nc cc) ∧ w'.cell? ⟨sz, 5, none⟩ = some (.slice (some ⟨p2, o2, none⟩) no oc) ∧ w'.cell? ⟨p2, o2 + k, none⟩ = some (I n) ∧ w'.cell? ⟨p1, o1 + n.toNat * 9, none⟩ = some (I x0) ∧ w'.cell? ⟨p1, o1 + n.toNat * 9 + 1, none⟩ = some (I x1) ∧ w'.cell? ⟨p1, o1 + n.toNat * 9 + 2, none⟩ = some (I x2) ∧ w'.cell? ⟨p1, o1 + n.toNat * 9 + 3, none⟩ = some (I x3) ∧ w'.cell? ⟨p1, o1 + n.toNat * 9 + 4, none⟩ = some (I x4) ∧ w'.cell? ⟨p1, o1 + n.toNat * 9 + 5, none⟩ = some (I x5) ∧ w'.cell? ⟨p1, o1 + n.toNat * 9 + 6, none⟩ = some (I x6) ∧ w'.cell? ⟨p1, o1 + n.toNat * 9 + 7, none⟩ = some (I x7) ∧ w'.cell? ⟨p1, o1 + n.toNat * 9 + 8, none⟩ = some (.slice ra rn rc))
     (first | go_keep)
     (fail)
   obtain ⟨X, hX⟩ : ∃ X, (wr.alloc (.cells #[.int .i64 x0, .int .i64 x1, .int .i64 x2, .int .i64 x3, .int .i64 x4, .int .i64 x5, .int .i64 x6, .int .i64 x7, .slice ra rn rc] 84)).drew = X := ⟨_, rfl⟩
   have hbx : Below wr.heap.size wr X := by rw [← hX]; exact ((Below.refl _ wr).alloc (Nat.le_refl _) _).drew
   have BXX : Hid (Box X wr.heap.size #[.int .i64 x0, .int .i64 x1, .int .i64 x2, .int .i64 x3, .int .i64 x4, .int .i64 x5, .int .i64 x6, .int .i64 x7, .slice ra rn rc] 84) := by rw [← hX]; exact (box_of wr _ _).drew
   have HX : Hid ((wr.alloc (.cells #[.int .i64 x0, .int .i64 x1, .int .i64 x2, .int .i64 x3, .int .i64 x4, .int .i64 x5, .int .i64 x6, .int .i64 x7, .slice ra rn rc] 84)).drew = X) := hX
   have HBY : Hid (Below wr.heap.size wr X) := hbx
   have BRX : Hid (Box X rb #[.slice (some ⟨g, 0, none⟩) 4 c, .int .i64 st'] 41) := ST.out.r.below hbx LR
   clear hX hbx z0 z1 z2 z3 z4 z5 z6 z7 e0 e1 e2 e3 e4 e5 e6 e7 e8 eo r0 r1 f0 f1 c0 c1 g0 g1
   rw [HX.out]
   obtain ⟨u0, u1, u2, u3, u4, u5, u6, u7, u8⟩ := nine_of BXX.out
   obtain ⟨r0, r1, f0, f1⟩ := two_of BRX.out
   have LX : rb < X.heap.size := BRX.out.lt
   rcases B with _ | _
   · go_wp2_with fail
     refine (specAfter_any ra g 0 4 c rn rc st' x1 x2 x3 x7 zs L _ (intAt_own (owns_below ST.out.own HBY.out (Nat.le_refl _))) (HRES.out.below HBY.out (Nat.le_refl _))).mono ?_
     rintro e w5 ⟨⟨ys, s5, a5, c5, rfl, hAf, hown5⟩, hb5⟩
     obtain ⟨g5, rfl⟩ := owns_four hown5
     have hb5' : Below wr.heap.size wr w5 := HBY.out.trans (hb5.mono HBY.out.size)
     have hg5 := own_base hown5
     have hys := HBY.out.size
     have BM5 := ST.out.m.below hb5' LM
     have BO5 := ST.out.out.below hb5' (show sz + 1 < wr.heap.size by omega)
     have BR5 := ST.out.r.below hb5' LR
     obtain ⟨r0, r1, f0, f1⟩ := two_of BR5
     have L5 : rb < w5.heap.size := BR5.lt
     have hne : (Value.slice (some ⟨g5, 0, none⟩) 4 c5).ownBlock ≠ some rb := fun h => by have h2 : g5 = rb := Option.some.inj h; omega
     have ST5 : Hid (RpSt w sz rb #[.slice wa nw wc, .slice da nd dc, .slice ta nt tc, .int .i64 tm, .slice (some ⟨p1, o1, none⟩) nc cc, .slice (some ⟨p2, o2, none⟩) no oc, .slice (some ⟨p, o, none⟩) 4 hc, .int .i64 st] MX rs (k + 1) false ((w5.setCell ⟨rb, 0, none⟩ (.slice (some ⟨g5, 0, none⟩) 4 c5)).setCell ⟨rb, 1, none⟩ (.int .i64 s5)) g5 c5 ys s5) :=
       ⟨(BM5.set (show sz ≠ rb by omega) _).set (show sz ≠ rb by omega) _, (BO5.set (show sz + 1 ≠ rb by omega) _).set (show sz + 1 ≠ rb by omega) _, (BR5.put 0 _).put 1 _, own_weaken (own_setCell_far (own_setCell_far hown5 hne _) hne _) (by omega), by omega, HAF.out _ _ hAf, by rw [SoM.succ ST.out.rep]; exact ⟨(fun h => by cases h), fun h => ST.out.so.2 h.1⟩, ((ST.out.blw.trans (hb5'.mono (by omega))).setCell (show sz ≤ rb by omega) _).setCell (show sz ≤ rb by omega) _, LT⟩
     clear hAf hown5 hb5 hb5' hg5 hys BM5 BO5 BR5 hne
     go_wp2
     exact ⟨⟨k + 1, false, g5, c5, ys, s5, by omega, rfl, by go_num, ST5.out⟩, by simp [intOf]; omega⟩
   · go_wp2_with fail
     refine (specAllowed_any (some ⟨g, 0, none⟩) ra 4 c rn rc st' x1 x2 x3 x7 zs L _ (intAt_own (owns_below ST.out.own HBY.out (Nat.le_refl _))) (HRES.out.below HBY.out (Nat.le_refl _))).mono ?_
     rintro e w4 ⟨⟨ok, rfl, hok⟩, hb4⟩
     have HOKK : Hid (ok = true ↔ AllowM zs st' x1 x2 x3 x7 L) := hok
     have BX4 : Hid (Box w4 wr.heap.size #[.int .i64 x0, .int .i64 x1, .int .i64 x2, .int .i64 x3, .int .i64 x4, .int .i64 x5, .int .i64 x6, .int .i64 x7, .slice ra rn rc] 84) := BXX.out.below hb4 BXX.out.lt
     have BR4 : Hid (Box w4 rb #[.slice (some ⟨g, 0, none⟩) 4 c, .int .i64 st'] 41) := BRX.out.below hb4 BRX.out.lt
     have HBY : Hid (Below wr.heap.size wr w4) := HBY.out.trans (hb4.mono HBY.out.size)
     clear hok hb4 u0 u1 u2 u3 u4 u5 u6 u7 u8 r0 r1 f0 f1 LX
     obtain ⟨u0, u1, u2, u3, u4, u5, u6, u7, u8⟩ := nine_of BX4.out
     obtain ⟨r0, r1, f0, f1⟩ := two_of BR4.out
     have LX : rb < w4.heap.size := BR4.out.lt
     have HSO : Hid (ok = true ↔ SoM MX rs (k + 1)) := by
       show _ ↔ _
       rw [SoM.succ ST.out.rep, HAW.out, HOKK.out]
       exact ⟨fun h => ⟨ST.out.so.1 rfl, h⟩, fun h => h.2⟩
     go_wp2_with fail
     refine (specAfter_any ra g 0 4 c rn rc st' x1 x2 x3 x7 zs L _ (intAt_own (owns_below ST.out.own HBY.out (Nat.le_refl _))) (HRES.out.below HBY.out (Nat.le_refl _))).mono ?_
     rintro e w5 ⟨⟨ys, s5, a5, c5, rfl, hAf, hown5⟩, hb5⟩
     obtain ⟨g5, rfl⟩ := owns_four hown5
     have hb5' : Below wr.heap.size wr w5 := HBY.out.trans (hb5.mono HBY.out.size)
     have hg5 := own_base hown5
     have hys := HBY.out.size
     have BM5 := ST.out.m.below hb5' LM
     have BO5 := ST.out.out.below hb5' (show sz + 1 < wr.heap.size by omega)
     have BR5 := ST.out.r.below hb5' LR
     obtain ⟨r0, r1, f0, f1⟩ := two_of BR5
     have L5 : rb < w5.heap.size := BR5.lt
     have hne : (Value.slice (some ⟨g5, 0, none⟩) 4 c5).ownBlock ≠ some rb := fun h => by have h2 : g5 = rb := Option.some.inj h; omega
     have ST5 : Hid (RpSt w sz rb #[.slice wa nw wc, .slice da nd dc, .slice ta nt tc, .int .i64 tm, .slice (some ⟨p1, o1, none⟩) nc cc, .slice (some ⟨p2, o2, none⟩) no oc, .slice (some ⟨p, o, none⟩) 4 hc, .int .i64 st] MX rs (k + 1) ok ((w5.setCell ⟨rb, 0, none⟩ (.slice (some ⟨g5, 0, none⟩) 4 c5)).setCell ⟨rb, 1, none⟩ (.int .i64 s5)) g5 c5 ys s5) :=
       ⟨(BM5.set (show sz ≠ rb by omega) _).set (show sz ≠ rb by omega) _, (BO5.set (show sz + 1 ≠ rb by omega) _).set (show sz + 1 ≠ rb by omega) _, (BR5.put 0 _).put 1 _, own_weaken (own_setCell_far (own_setCell_far hown5 hne _) hne _) (by omega), by omega, HAF.out _ _ hAf, HSO.out, ((ST.out.blw.trans (hb5'.mono (by omega))).setCell (show sz ≤ rb by omega) _).setCell (show sz ≤ rb by omega) _, LT⟩
     clear hAf hown5 hb5 hb5' hg5 hys BM5 BO5 BR5 hne
     go_wp2
     exact ⟨⟨k + 1, ok, g5, c5, ys, s5, by omega, rfl, by go_num, ST5.out⟩, by simp [intOf]; omega⟩
theorem specJudgeSo_any (wa : Option Addr) (wc : Nat) (da : Option Addr) (dc : Nat) (ta : Option Addr) (tc : Nat) (ca : Option Addr) (cc : Nat) (oa : Option Addr) (oc : Nat) (ha : Option Addr) (hc : Nat) (M : MaD) (rs : Nat → List Int) (w : World) (h : MaAt w wa da ta ca oa ha M) (hr : CasR w ca M.nc M.f rs) :
   Calls Tryz.prog 14 #[MaV wa wc da dc ta tc ca cc oa oc ha hc M] w fun e w' => ∃ ok, (e = .returned (.bool ok) ∧ (ok = true ↔ JSo M rs)) ∧ Below w.heap.size w w' := by
 have HM : Hid (MaAt w wa da ta ca oa ha M) := h
 have HCR : Hid (CasR w ca M.nc M.f rs) := hr
 obtain ⟨G, hG⟩ : ∃ G : Prop, JSo M rs = G := ⟨_, rfl⟩
 have HG : Hid (G ↔ JSo M rs) := by show _ ↔ _; rw [hG]
 rw [hG]
 obtain ⟨nw, ws, nd, ds, nt, ts, tm, nc, f, no, os, nh, hs, st⟩ := M
 show Calls Tryz.prog 14 #[.agg #[.slice wa nw wc, .slice da nd dc, .slice ta nt tc, .int .i64 tm, .slice ca nc cc, .slice oa no oc, .slice ha nh hc, .int .i64 st]] w fun e w' => ∃ ok, (e = .returned (.bool ok) ∧ (ok = true ↔ G)) ∧ Below w.heap.size w w'
 obtain ⟨W, hW⟩ : ∃ W, w.alloc (.cells #[.slice wa nw wc, .slice da nd dc, .slice ta nt tc, .int .i64 tm, .slice ca nc cc, .slice oa no oc, .slice ha nh hc, .int .i64 st] 43) = W := ⟨_, rfl⟩
 have hb0 : Below w.heap.size w W := by rw [← hW]; exact (Below.refl _ w).alloc (Nat.le_refl _) _
 have HB0 : Hid (Below w.heap.size w W) := hb0
 have HW : Hid (w.alloc (.cells #[.slice wa nw wc, .slice da nd dc, .slice ta nt tc, .int .i64 tm, .slice ca nc cc, .slice oa no oc, .slice ha nh hc, .int .i64 st] 43) = W) := hW
 clear h hr hb0 hW hG
 go_enter Tryz.func14, Tryz.ntmps14
 go_wp2_with fail
 rw [HW.out]
 refine (specReplay_any wa wc da dc ta tc ca cc oa oc ha hc ⟨nw, ws, nd, ds, nt, ts, tm, nc, f, no, os, nh, hs, st⟩ rs W (HM.out.below HB0.out (Nat.le_refl _)) (HCR.out.below HB0.out (Nat.le_refl _))).mono ?_
 rintro e w1 ⟨hsay, hb1⟩
 have HB1 : Hid (Below w.heap.size w w1) := HB0.out.trans (hb1.mono HB0.out.size)
 have HLE : Hid (w.heap.size ≤ w1.heap.size) := HB1.out.size
 clear hb1
 rcases hsay with ⟨hmo, g, c, zs, st', ok, rfl, _, hso, _⟩ | ⟨hmo, rfl⟩
 · have HY : Hid (ok = true ↔ G) := by show _ ↔ _; rw [HG.out, hso]; exact ⟨fun h => ⟨hmo, h⟩, fun h => h.2⟩
   clear hso hmo
   go_wp2
   go_ret
   first | exact ⟨ok, ⟨rfl, HY.out⟩, HB1.out.alloc HLE.out _⟩ | exact ⟨HY.out, HB1.out.alloc HLE.out _⟩
 · have HNO : Hid (¬ G) := fun h => hmo (HG.out.1 h).1
   clear hmo
   go_wp2
   go_ret
   exact ⟨false, ⟨rfl, by simp [HNO.out]⟩, HB1.out.alloc HLE.out _⟩
theorem turn_4 (base g c : Nat) (st : Int) (xs : List Int) (w : World) (hown : w.ownsRow base 3 1 (.slice (some ⟨g, 0, none⟩) 4 c) 4 (xs.map I)) (hb : base ≤ w.heap.size) (k v : Int) :
   Calls Tryz.prog 137 #[.agg #[.slice (some ⟨g, 0, none⟩) 4 c, .int .i64 st], .iface 225 (OpV 4 (k) (v))] w fun e w' => e = .returned (.agg #[.slice (some ⟨g, 0, none⟩) 4 c, .int .i64 st]) ∧ w'.ownsRow base 3 1 (.slice (some ⟨g, 0, none⟩) 4 c) 4 ((xs).map I) ∧ Below base w w' := by
 have hgl : g < w.heap.size := (hown.lt g rfl).2
 have hgb : base ≤ g := (hown.lt g rfl).1
 have OWN : Hid (w.ownsRow base 3 1 (.slice (some ⟨g, 0, none⟩) 4 c) 4 (xs.map I)) := hown
 clear hown
 have t1 : ∀ w : World, (Instr.typeAssert (.iface 225 (OpV 4 (k) (v))) 182 221 true).run Tryz.prog w = .ok (.tuple #[OpV 0 0 0, .bool false]) w := fun _ => by kernel_rfl
 have t2 : ∀ w : World, (Instr.typeAssert (.iface 225 (OpV 4 (k) (v))) 182 223 true).run Tryz.prog w = .ok (.tuple #[OpV 0 0 0, .bool false]) w := fun _ => by kernel_rfl
 have t3 : ∀ w : World, (Instr.typeAssert (.iface 225 (OpV 4 (k) (v))) 182 224 true).run Tryz.prog w = .ok (.tuple #[OpV 0 0 0, .bool false]) w := fun _ => by kernel_rfl
 have t8 : ∀ w : World, (Instr.typeAssert (.iface 225 (OpV 4 (k) (v))) 182 229 true).run Tryz.prog w = .ok (.tuple #[OpV 0 0 0, .bool false]) w := fun _ => by kernel_rfl
 have t9 : ∀ w : World, (Instr.typeAssert (.iface 225 (OpV 4 (k) (v))) 182 230 true).run Tryz.prog w = .ok (.tuple #[OpV 0 0 0, .bool false]) w := fun _ => by kernel_rfl
 go_enter Tryz.func137, Tryz.ntmps137
 go_wp2
 (try simp only [Exit.inBlock, Exit.then])
 refine bodyPost_ret (by simp [results, Tryz.results137, go_sem]; try rfl) rfl ?_
 exact ⟨rfl, (OWN.out.alloc _).alloc _, ((Below.refl base w).alloc hb _).alloc (by simp; omega) _⟩
theorem turn_5 (base g c : Nat) (st : Int) (xs : List Int) (w : World) (hown : w.ownsRow base 3 1 (.slice (some ⟨g, 0, none⟩) 4 c) 4 (xs.map I)) (hb : base ≤ w.heap.size) (k v : Int) :
   Calls Tryz.prog 137 #[.agg #[.slice (some ⟨g, 0, none⟩) 4 c, .int .i64 st], .iface 226 (OpV 5 (k) (v))] w fun e w' => e = .returned (.agg #[.slice (some ⟨g, 0, none⟩) 4 c, .int .i64 st]) ∧ w'.ownsRow base 3 1 (.slice (some ⟨g, 0, none⟩) 4 c) 4 ((xs).map I) ∧ Below base w w' := by
 have hgl : g < w.heap.size := (hown.lt g rfl).2
 have hgb : base ≤ g := (hown.lt g rfl).1
 have OWN : Hid (w.ownsRow base 3 1 (.slice (some ⟨g, 0, none⟩) 4 c) 4 (xs.map I)) := hown
 clear hown
 have t1 : ∀ w : World, (Instr.typeAssert (.iface 226 (OpV 5 (k) (v))) 182 221 true).run Tryz.prog w = .ok (.tuple #[OpV 0 0 0, .bool false]) w := fun _ => by kernel_rfl
 have t2 : ∀ w : World, (Instr.typeAssert (.iface 226 (OpV 5 (k) (v))) 182 223 true).run Tryz.prog w = .ok (.tuple #[OpV 0 0 0, .bool false]) w := fun _ => by kernel_rfl
 have t3 : ∀ w : World, (Instr.typeAssert (.iface 226 (OpV 5 (k) (v))) 182 224 true).run Tryz.prog w = .ok (.tuple #[OpV 0 0 0, .bool false]) w := fun _ => by kernel_rfl
 have t8 : ∀ w : World, (Instr.typeAssert (.iface 226 (OpV 5 (k) (v))) 182 229 true).run Tryz.prog w = .ok (.tuple #[OpV 0 0 0, .bool false]) w := fun _ => by kernel_rfl
 have t9 : ∀ w : World, (Instr.typeAssert (.iface 226 (OpV 5 (k) (v))) 182 230 true).run Tryz.prog w = .ok (.tuple #[OpV 0 0 0, .bool false]) w := fun _ => by kernel_rfl
 go_enter Tryz.func137, Tryz.ntmps137
 go_wp2
 (try simp only [Exit.inBlock, Exit.then])
 refine bodyPost_ret (by simp [results, Tryz.results137, go_sem]; try rfl) rfl ?_
 exact ⟨rfl, (OWN.out.alloc _).alloc _, ((Below.refl base w).alloc hb _).alloc (by simp; omega) _⟩
theorem turn_6 (base g c : Nat) (st : Int) (xs : List Int) (w : World) (hown : w.ownsRow base 3 1 (.slice (some ⟨g, 0, none⟩) 4 c) 4 (xs.map I)) (hb : base ≤ w.heap.size) (k v : Int) :
   Calls Tryz.prog 137 #[.agg #[.slice (some ⟨g, 0, none⟩) 4 c, .int .i64 st], .iface 227 (OpV 6 (k) (v))] w fun e w' => e = .returned (.agg #[.slice (some ⟨g, 0, none⟩) 4 c, .int .i64 st]) ∧ w'.ownsRow base 3 1 (.slice (some ⟨g, 0, none⟩) 4 c) 4 ((xs).map I) ∧ Below base w w' := by
 have hgl : g < w.heap.size := (hown.lt g rfl).2
 have hgb : base ≤ g := (hown.lt g rfl).1
 have OWN : Hid (w.ownsRow base 3 1 (.slice (some ⟨g, 0, none⟩) 4 c) 4 (xs.map I)) := hown
 clear hown
 have t1 : ∀ w : World, (Instr.typeAssert (.iface 227 (OpV 6 (k) (v))) 182 221 true).run Tryz.prog w = .ok (.tuple #[OpV 0 0 0, .bool false]) w := fun _ => by kernel_rfl
 have t2 : ∀ w : World, (Instr.typeAssert (.iface 227 (OpV 6 (k) (v))) 182 223 true).run Tryz.prog w = .ok (.tuple #[OpV 0 0 0, .bool false]) w := fun _ => by kernel_rfl
 have t3 : ∀ w : World, (Instr.typeAssert (.iface 227 (OpV 6 (k) (v))) 182 224 true).run Tryz.prog w = .ok (.tuple #[OpV 0 0 0, .bool false]) w := fun _ => by kernel_rfl
 have t8 : ∀ w : World, (Instr.typeAssert (.iface 227 (OpV 6 (k) (v))) 182 229 true).run Tryz.prog w = .ok (.tuple #[OpV 0 0 0, .bool false]) w := fun _ => by kernel_rfl
 have t9 : ∀ w : World, (Instr.typeAssert (.iface 227 (OpV 6 (k) (v))) 182 230 true).run Tryz.prog w = .ok (.tuple #[OpV 0 0 0, .bool false]) w := fun _ => by kernel_rfl
 go_enter Tryz.func137, Tryz.ntmps137
 go_wp2
 (try simp only [Exit.inBlock, Exit.then])
 refine bodyPost_ret (by simp [results, Tryz.results137, go_sem]; try rfl) rfl ?_
 exact ⟨rfl, (OWN.out.alloc _).alloc _, ((Below.refl base w).alloc hb _).alloc (by simp; omega) _⟩
theorem turn_7 (base g c : Nat) (st : Int) (xs : List Int) (w : World) (hown : w.ownsRow base 3 1 (.slice (some ⟨g, 0, none⟩) 4 c) 4 (xs.map I)) (hb : base ≤ w.heap.size) (k v : Int) :
   Calls Tryz.prog 137 #[.agg #[.slice (some ⟨g, 0, none⟩) 4 c, .int .i64 st], .iface 228 (OpV 7 (k) (v))] w fun e w' => e = .returned (.agg #[.slice (some ⟨g, 0, none⟩) 4 c, .int .i64 st]) ∧ w'.ownsRow base 3 1 (.slice (some ⟨g, 0, none⟩) 4 c) 4 ((xs).map I) ∧ Below base w w' := by
 have hgl : g < w.heap.size := (hown.lt g rfl).2
 have hgb : base ≤ g := (hown.lt g rfl).1
 have OWN : Hid (w.ownsRow base 3 1 (.slice (some ⟨g, 0, none⟩) 4 c) 4 (xs.map I)) := hown
 clear hown
 have t1 : ∀ w : World, (Instr.typeAssert (.iface 228 (OpV 7 (k) (v))) 182 221 true).run Tryz.prog w = .ok (.tuple #[OpV 0 0 0, .bool false]) w := fun _ => by kernel_rfl
 have t2 : ∀ w : World, (Instr.typeAssert (.iface 228 (OpV 7 (k) (v))) 182 223 true).run Tryz.prog w = .ok (.tuple #[OpV 0 0 0, .bool false]) w := fun _ => by kernel_rfl
 have t3 : ∀ w : World, (Instr.typeAssert (.iface 228 (OpV 7 (k) (v))) 182 224 true).run Tryz.prog w = .ok (.tuple #[OpV 0 0 0, .bool false]) w := fun _ => by kernel_rfl
 have t8 : ∀ w : World, (Instr.typeAssert (.iface 228 (OpV 7 (k) (v))) 182 229 true).run Tryz.prog w = .ok (.tuple #[OpV 0 0 0, .bool false]) w := fun _ => by kernel_rfl
 have t9 : ∀ w : World, (Instr.typeAssert (.iface 228 (OpV 7 (k) (v))) 182 230 true).run Tryz.prog w = .ok (.tuple #[OpV 0 0 0, .bool false]) w := fun _ => by kernel_rfl
 go_enter Tryz.func137, Tryz.ntmps137
 go_wp2
 (try simp only [Exit.inBlock, Exit.then])
 refine bodyPost_ret (by simp [results, Tryz.results137, go_sem]; try rfl) rfl ?_
 exact ⟨rfl, (OWN.out.alloc _).alloc _, ((Below.refl base w).alloc hb _).alloc (by simp; omega) _⟩
theorem turn_10 (base g c : Nat) (st : Int) (xs : List Int) (w : World) (hown : w.ownsRow base 3 1 (.slice (some ⟨g, 0, none⟩) 4 c) 4 (xs.map I)) (hb : base ≤ w.heap.size) (k v : Int) :
   Calls Tryz.prog 137 #[.agg #[.slice (some ⟨g, 0, none⟩) 4 c, .int .i64 st], .iface 231 (OpV 10 (k) (v))] w fun e w' => e = .returned (.agg #[.slice (some ⟨g, 0, none⟩) 4 c, .int .i64 st]) ∧ w'.ownsRow base 3 1 (.slice (some ⟨g, 0, none⟩) 4 c) 4 ((xs).map I) ∧ Below base w w' := by
 have hgl : g < w.heap.size := (hown.lt g rfl).2
 have hgb : base ≤ g := (hown.lt g rfl).1
 have OWN : Hid (w.ownsRow base 3 1 (.slice (some ⟨g, 0, none⟩) 4 c) 4 (xs.map I)) := hown
 clear hown
 have t1 : ∀ w : World, (Instr.typeAssert (.iface 231 (OpV 10 (k) (v))) 182 221 true).run Tryz.prog w = .ok (.tuple #[OpV 0 0 0, .bool false]) w := fun _ => by kernel_rfl
 have t2 : ∀ w : World, (Instr.typeAssert (.iface 231 (OpV 10 (k) (v))) 182 223 true).run Tryz.prog w = .ok (.tuple #[OpV 0 0 0, .bool false]) w := fun _ => by kernel_rfl
 have t3 : ∀ w : World, (Instr.typeAssert (.iface 231 (OpV 10 (k) (v))) 182 224 true).run Tryz.prog w = .ok (.tuple #[OpV 0 0 0, .bool false]) w := fun _ => by kernel_rfl
 have t8 : ∀ w : World, (Instr.typeAssert (.iface 231 (OpV 10 (k) (v))) 182 229 true).run Tryz.prog w = .ok (.tuple #[OpV 0 0 0, .bool false]) w := fun _ => by kernel_rfl
 have t9 : ∀ w : World, (Instr.typeAssert (.iface 231 (OpV 10 (k) (v))) 182 230 true).run Tryz.prog w = .ok (.tuple #[OpV 0 0 0, .bool false]) w := fun _ => by kernel_rfl
 go_enter Tryz.func137, Tryz.ntmps137
 go_wp2
 (try simp only [Exit.inBlock, Exit.then])
 refine bodyPost_ret (by simp [results, Tryz.results137, go_sem]; try rfl) rfl ?_
 exact ⟨rfl, (OWN.out.alloc _).alloc _, ((Below.refl base w).alloc hb _).alloc (by simp; omega) _⟩
theorem turn_8 (base g c : Nat) (st : Int) (xs : List Int) (w : World) (hown : w.ownsRow base 3 1 (.slice (some ⟨g, 0, none⟩) 4 c) 4 (xs.map I)) (hb : base ≤ w.heap.size) (k v : Int) (hst : 0 ≤ st ∧ st ≤ 5) :
   Calls Tryz.prog 137 #[.agg #[.slice (some ⟨g, 0, none⟩) 4 c, .int .i64 st], .iface 229 (OpV 8 (k) (v))] w fun e w' => e = .returned (.agg #[.slice (some ⟨g, 0, none⟩) 4 c, .int .i64 (st + 1)]) ∧ w'.ownsRow base 3 1 (.slice (some ⟨g, 0, none⟩) 4 c) 4 ((xs).map I) ∧ Below base w w' := by
 have hgl : g < w.heap.size := (hown.lt g rfl).2
 have hgb : base ≤ g := (hown.lt g rfl).1
 have OWN : Hid (w.ownsRow base 3 1 (.slice (some ⟨g, 0, none⟩) 4 c) 4 (xs.map I)) := hown
 clear hown
 have t1 : ∀ w : World, (Instr.typeAssert (.iface 229 (OpV 8 (k) (v))) 182 221 true).run Tryz.prog w = .ok (.tuple #[OpV 0 0 0, .bool false]) w := fun _ => by kernel_rfl
 have t2 : ∀ w : World, (Instr.typeAssert (.iface 229 (OpV 8 (k) (v))) 182 223 true).run Tryz.prog w = .ok (.tuple #[OpV 0 0 0, .bool false]) w := fun _ => by kernel_rfl
 have t3 : ∀ w : World, (Instr.typeAssert (.iface 229 (OpV 8 (k) (v))) 182 224 true).run Tryz.prog w = .ok (.tuple #[OpV 0 0 0, .bool false]) w := fun _ => by kernel_rfl
 have t8 : ∀ w : World, (Instr.typeAssert (.iface 229 (OpV 8 (k) (v))) 182 229 true).run Tryz.prog w = .ok (.tuple #[OpV 8 (k) (v), .bool true]) w := fun _ => by kernel_rfl
 have t9 : ∀ w : World, (Instr.typeAssert (.iface 229 (OpV 8 (k) (v))) 182 230 true).run Tryz.prog w = .ok (.tuple #[OpV 0 0 0, .bool false]) w := fun _ => by kernel_rfl
 go_enter Tryz.func137, Tryz.ntmps137
 have hst0 := hst.1
 have hst1 := hst.2
 go_wp2
 (try simp only [Exit.inBlock, Exit.then])
 refine bodyPost_ret (by simp [results, Tryz.results137, go_sem]; try rfl) rfl ?_
 exact ⟨rfl, (OWN.out.alloc _).alloc _, ((Below.refl base w).alloc hb _).alloc (by simp; omega) _⟩
theorem turn_9 (base g c : Nat) (st : Int) (xs : List Int) (w : World) (hown : w.ownsRow base 3 1 (.slice (some ⟨g, 0, none⟩) 4 c) 4 (xs.map I)) (hb : base ≤ w.heap.size) (k v : Int) (hst : 0 ≤ st ∧ st ≤ 5) :
   Calls Tryz.prog 137 #[.agg #[.slice (some ⟨g, 0, none⟩) 4 c, .int .i64 st], .iface 230 (OpV 9 (k) (v))] w fun e w' => e = .returned (.agg #[.slice (some ⟨g, 0, none⟩) 4 c, .int .i64 (st + 1)]) ∧ w'.ownsRow base 3 1 (.slice (some ⟨g, 0, none⟩) 4 c) 4 ((xs).map I) ∧ Below base w w' := by
 have hgl : g < w.heap.size := (hown.lt g rfl).2
 have hgb : base ≤ g := (hown.lt g rfl).1
 have OWN : Hid (w.ownsRow base 3 1 (.slice (some ⟨g, 0, none⟩) 4 c) 4 (xs.map I)) := hown
 clear hown
 have t1 : ∀ w : World, (Instr.typeAssert (.iface 230 (OpV 9 (k) (v))) 182 221 true).run Tryz.prog w = .ok (.tuple #[OpV 0 0 0, .bool false]) w := fun _ => by kernel_rfl
 have t2 : ∀ w : World, (Instr.typeAssert (.iface 230 (OpV 9 (k) (v))) 182 223 true).run Tryz.prog w = .ok (.tuple #[OpV 0 0 0, .bool false]) w := fun _ => by kernel_rfl
 have t3 : ∀ w : World, (Instr.typeAssert (.iface 230 (OpV 9 (k) (v))) 182 224 true).run Tryz.prog w = .ok (.tuple #[OpV 0 0 0, .bool false]) w := fun _ => by kernel_rfl
 have t8 : ∀ w : World, (Instr.typeAssert (.iface 230 (OpV 9 (k) (v))) 182 229 true).run Tryz.prog w = .ok (.tuple #[OpV 0 0 0, .bool false]) w := fun _ => by kernel_rfl
 have t9 : ∀ w : World, (Instr.typeAssert (.iface 230 (OpV 9 (k) (v))) 182 230 true).run Tryz.prog w = .ok (.tuple #[OpV 9 (k) (v), .bool true]) w := fun _ => by kernel_rfl
 go_enter Tryz.func137, Tryz.ntmps137
 have hst0 := hst.1
 have hst1 := hst.2
 go_wp2
 (try simp only [Exit.inBlock, Exit.then])
 refine bodyPost_ret (by simp [results, Tryz.results137, go_sem]; try rfl) rfl ?_
 exact ⟨rfl, (OWN.out.alloc _).alloc _, ((Below.refl base w).alloc hb _).alloc (by simp; omega) _⟩
theorem turn_1 (base g c : Nat) (st : Int) (xs : List Int) (w : World) (hown : w.ownsRow base 3 1 (.slice (some ⟨g, 0, none⟩) 4 c) 4 (xs.map I)) (hb : base ≤ w.heap.size) (m : Nat) (v : Int) (hm : m < 4) :
   Calls Tryz.prog 137 #[.agg #[.slice (some ⟨g, 0, none⟩) 4 c, .int .i64 st], .iface 221 (OpV 1 ((m : Int)) (v))] w fun e w' => e = .returned (.agg #[.slice (some ⟨g, 0, none⟩) 4 c, .int .i64 st]) ∧ w'.ownsRow base 3 1 (.slice (some ⟨g, 0, none⟩) 4 c) 4 ((xs.set m v).map I) ∧ Below base w w' := by
 have hgl : g < w.heap.size := (hown.lt g rfl).2
 have hgb : base ≤ g := (hown.lt g rfl).1
 have OWN : Hid (w.ownsRow base 3 1 (.slice (some ⟨g, 0, none⟩) 4 c) 4 (xs.map I)) := hown
 clear hown
 have t1 : ∀ w : World, (Instr.typeAssert (.iface 221 (OpV 1 ((m : Int)) (v))) 182 221 true).run Tryz.prog w = .ok (.tuple #[OpV 1 ((m : Int)) (v), .bool true]) w := fun _ => by kernel_rfl
 go_enter Tryz.func137, Tryz.ntmps137
 have hm0 : (0 : Int) ≤ (m : Int) := by omega
 have hm1 : (m : Int) < 4 := by omega
 obtain ⟨u0, hu⟩ := own_cell OWN.out hm
 have hu3 : (((w.alloc (.cells #[.slice (some ⟨g, 0, none⟩) 4 c, .int .i64 st] 41)).alloc (.cells #[.slice none 0 0, .int .i64 0] 41)).alloc (.cells #[.int .i64 1, .int .i64 m, .int .i64 v] 221)).cell? ⟨g, m, none⟩ = some u0 := by rw [World.cell?_alloc_past _ _ _ (by simp; omega), World.cell?_alloc_past _ _ _ (by simp; omega), World.cell?_alloc_past _ _ _ hgl, hu]
 have hz3 : (((w.alloc (.cells #[.slice (some ⟨g, 0, none⟩) 4 c, .int .i64 st] 41)).alloc (.cells #[.slice none 0 0, .int .i64 0] 41)).alloc (.cells #[.int .i64 1, .int .i64 m, .int .i64 v] 221)).frozen? ⟨g, m, none⟩ = false := (((OWN.out.alloc _).alloc _).alloc _).frozenAt m
 have HST : Hid (((((w.alloc (.cells #[.slice (some ⟨g, 0, none⟩) 4 c, .int .i64 st] 41)).alloc (.cells #[.slice none 0 0, .int .i64 0] 41)).alloc (.cells #[.int .i64 1, .int .i64 m, .int .i64 v] 221)).setCell ⟨g, m, none⟩ (I v)).ownsRow base 3 1 (.slice (some ⟨g, 0, none⟩) 4 c) 4 ((xs.set m v).map I)) := by
   rw [List.map_set]
   exact ((((OWN.out.alloc _).alloc _).alloc _).stored m (I v)).1
 go_wp2
 (try simp only [Exit.inBlock, Exit.then])
 refine bodyPost_ret (by simp [results, Tryz.results137, go_sem]; try rfl) rfl ?_
 exact ⟨rfl, own_setCell_far (own_setCell_far HST.out (by simp [Value.ownBlock]; omega) _) (by simp [Value.ownBlock]; omega) _, ((((((Below.refl base w).alloc hb _).alloc (by simp; omega) _).alloc (by simp; omega) _).setCell hgb _).setCell (by simp; omega) _).setCell (by simp; omega) _⟩
theorem turn_2 (base g c : Nat) (st : Int) (xs : List Int) (w : World) (hown : w.ownsRow base 3 1 (.slice (some ⟨g, 0, none⟩) 4 c) 4 (xs.map I)) (hb : base ≤ w.heap.size) (m : Nat) (v : Int) (hm : m < 4) :
   Calls Tryz.prog 137 #[.agg #[.slice (some ⟨g, 0, none⟩) 4 c, .int .i64 st], .iface 223 (OpV 2 ((m : Int)) (v))] w fun e w' => e = .returned (.agg #[.slice (some ⟨g, 0, none⟩) 4 c, .int .i64 st]) ∧ w'.ownsRow base 3 1 (.slice (some ⟨g, 0, none⟩) 4 c) 4 ((xs.set m v).map I) ∧ Below base w w' := by
 have hgl : g < w.heap.size := (hown.lt g rfl).2
 have hgb : base ≤ g := (hown.lt g rfl).1
 have OWN : Hid (w.ownsRow base 3 1 (.slice (some ⟨g, 0, none⟩) 4 c) 4 (xs.map I)) := hown
 clear hown
 have t1 : ∀ w : World, (Instr.typeAssert (.iface 223 (OpV 2 ((m : Int)) (v))) 182 221 true).run Tryz.prog w = .ok (.tuple #[OpV 0 0 0, .bool false]) w := fun _ => by kernel_rfl
 have t2 : ∀ w : World, (Instr.typeAssert (.iface 223 (OpV 2 ((m : Int)) (v))) 182 223 true).run Tryz.prog w = .ok (.tuple #[OpV 2 ((m : Int)) (v), .bool true]) w := fun _ => by kernel_rfl
 go_enter Tryz.func137, Tryz.ntmps137
 have hm0 : (0 : Int) ≤ (m : Int) := by omega
 have hm1 : (m : Int) < 4 := by omega
 obtain ⟨u0, hu⟩ := own_cell OWN.out hm
 have hu3 : (((w.alloc (.cells #[.slice (some ⟨g, 0, none⟩) 4 c, .int .i64 st] 41)).alloc (.cells #[.slice none 0 0, .int .i64 0] 41)).alloc (.cells #[.int .i64 2, .int .i64 m, .int .i64 v] 223)).cell? ⟨g, m, none⟩ = some u0 := by rw [World.cell?_alloc_past _ _ _ (by simp; omega), World.cell?_alloc_past _ _ _ (by simp; omega), World.cell?_alloc_past _ _ _ hgl, hu]
 have hz3 : (((w.alloc (.cells #[.slice (some ⟨g, 0, none⟩) 4 c, .int .i64 st] 41)).alloc (.cells #[.slice none 0 0, .int .i64 0] 41)).alloc (.cells #[.int .i64 2, .int .i64 m, .int .i64 v] 223)).frozen? ⟨g, m, none⟩ = false := (((OWN.out.alloc _).alloc _).alloc _).frozenAt m
 have HST : Hid (((((w.alloc (.cells #[.slice (some ⟨g, 0, none⟩) 4 c, .int .i64 st] 41)).alloc (.cells #[.slice none 0 0, .int .i64 0] 41)).alloc (.cells #[.int .i64 2, .int .i64 m, .int .i64 v] 223)).setCell ⟨g, m, none⟩ (I v)).ownsRow base 3 1 (.slice (some ⟨g, 0, none⟩) 4 c) 4 ((xs.set m v).map I)) := by
   rw [List.map_set]
   exact ((((OWN.out.alloc _).alloc _).alloc _).stored m (I v)).1
 go_wp2
 (try simp only [Exit.inBlock, Exit.then])
 refine bodyPost_ret (by simp [results, Tryz.results137, go_sem]; try rfl) rfl ?_
 exact ⟨rfl, own_setCell_far (own_setCell_far HST.out (by simp [Value.ownBlock]; omega) _) (by simp [Value.ownBlock]; omega) _, ((((((Below.refl base w).alloc hb _).alloc (by simp; omega) _).alloc (by simp; omega) _).setCell hgb _).setCell (by simp; omega) _).setCell (by simp; omega) _⟩
theorem turn_3 (base g c : Nat) (st : Int) (xs : List Int) (w : World) (hown : w.ownsRow base 3 1 (.slice (some ⟨g, 0, none⟩) 4 c) 4 (xs.map I)) (hb : base ≤ w.heap.size) (m : Nat) (v : Int) (hm : m < 4) :
   Calls Tryz.prog 137 #[.agg #[.slice (some ⟨g, 0, none⟩) 4 c, .int .i64 st], .iface 224 (OpV 3 ((m : Int)) (v))] w fun e w' => e = .returned (.agg #[.slice (some ⟨g, 0, none⟩) 4 c, .int .i64 st]) ∧ w'.ownsRow base 3 1 (.slice (some ⟨g, 0, none⟩) 4 c) 4 ((xs.set m 0).map I) ∧ Below base w w' := by
 have hgl : g < w.heap.size := (hown.lt g rfl).2
 have hgb : base ≤ g := (hown.lt g rfl).1
 have OWN : Hid (w.ownsRow base 3 1 (.slice (some ⟨g, 0, none⟩) 4 c) 4 (xs.map I)) := hown
 clear hown
 have t1 : ∀ w : World, (Instr.typeAssert (.iface 224 (OpV 3 ((m : Int)) (v))) 182 221 true).run Tryz.prog w = .ok (.tuple #[OpV 0 0 0, .bool false]) w := fun _ => by kernel_rfl
 have t2 : ∀ w : World, (Instr.typeAssert (.iface 224 (OpV 3 ((m : Int)) (v))) 182 223 true).run Tryz.prog w = .ok (.tuple #[OpV 0 0 0, .bool false]) w := fun _ => by kernel_rfl
 have t3 : ∀ w : World, (Instr.typeAssert (.iface 224 (OpV 3 ((m : Int)) (v))) 182 224 true).run Tryz.prog w = .ok (.tuple #[OpV 3 ((m : Int)) (v), .bool true]) w := fun _ => by kernel_rfl
 go_enter Tryz.func137, Tryz.ntmps137
 have hm0 : (0 : Int) ≤ (m : Int) := by omega
 have hm1 : (m : Int) < 4 := by omega
 obtain ⟨u0, hu⟩ := own_cell OWN.out hm
 have hu3 : (((w.alloc (.cells #[.slice (some ⟨g, 0, none⟩) 4 c, .int .i64 st] 41)).alloc (.cells #[.slice none 0 0, .int .i64 0] 41)).alloc (.cells #[.int .i64 3, .int .i64 m, .int .i64 v] 224)).cell? ⟨g, m, none⟩ = some u0 := by rw [World.cell?_alloc_past _ _ _ (by simp; omega), World.cell?_alloc_past _ _ _ (by simp; omega), World.cell?_alloc_past _ _ _ hgl, hu]
 have hz3 : (((w.alloc (.cells #[.slice (some ⟨g, 0, none⟩) 4 c, .int .i64 st] 41)).alloc (.cells #[.slice none 0 0, .int .i64 0] 41)).alloc (.cells #[.int .i64 3, .int .i64 m, .int .i64 v] 224)).frozen? ⟨g, m, none⟩ = false := (((OWN.out.alloc _).alloc _).alloc _).frozenAt m
 have HST : Hid (((((w.alloc (.cells #[.slice (some ⟨g, 0, none⟩) 4 c, .int .i64 st] 41)).alloc (.cells #[.slice none 0 0, .int .i64 0] 41)).alloc (.cells #[.int .i64 3, .int .i64 m, .int .i64 v] 224)).setCell ⟨g, m, none⟩ (I 0)).ownsRow base 3 1 (.slice (some ⟨g, 0, none⟩) 4 c) 4 ((xs.set m 0).map I)) := by
   rw [List.map_set]
   exact ((((OWN.out.alloc _).alloc _).alloc _).stored m (I 0)).1
 go_wp2
 (try simp only [Exit.inBlock, Exit.then])
 refine bodyPost_ret (by simp [results, Tryz.results137, go_sem]; try rfl) rfl ?_
 exact ⟨rfl, own_setCell_far (own_setCell_far HST.out (by simp [Value.ownBlock]; omega) _) (by simp [Value.ownBlock]; omega) _, ((((((Below.refl base w).alloc hb _).alloc (by simp; omega) _).alloc (by simp; omega) _).setCell hgb _).setCell (by simp; omega) _).setCell (by simp; omega) _⟩
def TurnM (xs : List Int) (st kind k v : Int) (zs : List Int) (st' : Int) : Prop :=
 ((kind = 1 ∨ kind = 2) ∧ zs = xs.set k.toNat v ∧ st' = st) ∨ (kind = 3 ∧ zs = xs.set k.toNat 0 ∧ st' = st) ∨ ((kind = 8 ∨ kind = 9) ∧ zs = xs ∧ st' = st + 1) ∨ ((4 ≤ kind ∧ kind ≤ 7 ∨ kind = 10) ∧ zs = xs ∧ st' = st)
theorem turn_any (base g c : Nat) (st kind k v : Int) (xs : List Int) (w : World) (hown : w.ownsRow base 3 1 (.slice (some ⟨g, 0, none⟩) 4 c) 4 (xs.map I)) (hb : base ≤ w.heap.size) (hop : OpGood kind k v) (hst : 0 ≤ st ∧ st ≤ 5) :
   Calls Tryz.prog 137 #[.agg #[.slice (some ⟨g, 0, none⟩) 4 c, .int .i64 st], DeedV kind k v] w fun e w' => ∃ zs st', e = .returned (.agg #[.slice (some ⟨g, 0, none⟩) 4 c, .int .i64 st']) ∧ TurnM xs st kind k v zs st' ∧ w'.ownsRow base 3 1 (.slice (some ⟨g, 0, none⟩) 4 c) 4 (zs.map I) ∧ Below base w w' := by
 obtain ⟨hk, hkey, _⟩ := hop
 unfold KeyGood at hkey
 rcases kinds hk with rfl | rfl | rfl | rfl | rfl | rfl | rfl | rfl | rfl | rfl
 · obtain ⟨m, rfl⟩ : ∃ m : Nat, k = m := ⟨k.toNat, by omega⟩
   refine (turn_1 base g c st xs w hown hb m v (by omega)).mono ?_
   rintro e w' ⟨rfl, ho, hbl⟩
   exact ⟨xs.set m v, st, rfl, .inl ⟨.inl rfl, by simp, rfl⟩, ho, hbl⟩
 · obtain ⟨m, rfl⟩ : ∃ m : Nat, k = m := ⟨k.toNat, by omega⟩
   refine (turn_2 base g c st xs w hown hb m v (by omega)).mono ?_
   rintro e w' ⟨rfl, ho, hbl⟩
   exact ⟨xs.set m v, st, rfl, .inl ⟨.inr rfl, by simp, rfl⟩, ho, hbl⟩
 · obtain ⟨m, rfl⟩ : ∃ m : Nat, k = m := ⟨k.toNat, by omega⟩
   refine (turn_3 base g c st xs w hown hb m v (by omega)).mono ?_
   rintro e w' ⟨rfl, ho, hbl⟩
   exact ⟨xs.set m 0, st, rfl, .inr (.inl ⟨rfl, by simp, rfl⟩), ho, hbl⟩
 · refine (turn_4 base g c st xs w hown hb k v).mono ?_
   rintro e w' ⟨rfl, ho, hbl⟩
   exact ⟨xs, st, rfl, .inr (.inr (.inr ⟨by omega, rfl, rfl⟩)), ho, hbl⟩
 · refine (turn_5 base g c st xs w hown hb k v).mono ?_
   rintro e w' ⟨rfl, ho, hbl⟩
   exact ⟨xs, st, rfl, .inr (.inr (.inr ⟨by omega, rfl, rfl⟩)), ho, hbl⟩
 · refine (turn_6 base g c st xs w hown hb k v).mono ?_
   rintro e w' ⟨rfl, ho, hbl⟩
   exact ⟨xs, st, rfl, .inr (.inr (.inr ⟨by omega, rfl, rfl⟩)), ho, hbl⟩
 · refine (turn_7 base g c st xs w hown hb k v).mono ?_
   rintro e w' ⟨rfl, ho, hbl⟩
   exact ⟨xs, st, rfl, .inr (.inr (.inr ⟨by omega, rfl, rfl⟩)), ho, hbl⟩
 · refine (turn_8 base g c st xs w hown hb k v hst).mono ?_
   rintro e w' ⟨rfl, ho, hbl⟩
   exact ⟨xs, st + 1, rfl, .inr (.inr (.inl ⟨by omega, rfl, rfl⟩)), ho, hbl⟩
 · refine (turn_9 base g c st xs w hown hb k v hst).mono ?_
   rintro e w' ⟨rfl, ho, hbl⟩
   exact ⟨xs, st + 1, rfl, .inr (.inr (.inl ⟨by omega, rfl, rfl⟩)), ho, hbl⟩
 · refine (turn_10 base g c st xs w hown hb k v).mono ?_
   rintro e w' ⟨rfl, ho, hbl⟩
   exact ⟨xs, st, rfl, .inr (.inr (.inr ⟨by omega, rfl, rfl⟩)), ho, hbl⟩
end
end Go.Proofs.YtbfolanfbagofaaGreatDoor
