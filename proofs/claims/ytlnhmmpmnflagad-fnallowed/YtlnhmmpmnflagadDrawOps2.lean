/- l4Draw and DrawOpOk, walked. -/
import Derived.Test.YtlnhmmpmnflagadDrawOps
namespace Go.Proofs.Ytlnhmmpmnflagad
open Go.ChangeShapes Go.WideShapes Go.ChangeAt Go.RowKit

theorem bytes_now2 {w w' : World} {a : Option Addr} {n : Nat} (h : BytesAt w w.heap.size a n) (hb : Below w.heap.size w w') : BytesAt w' w'.heap.size a n :=
  (h.keep hb.block).mono hb.size
set_option maxHeartbeats 2000000 in
theorem l4Draw_any (p : Nat) (a : Option Addr) (n c : Nat) (w : World) (hC : Cur 67 w p a n c) :
    Calls Try.prog 20 #[.pointer (some ⟨p, 0, none⟩)] w fun e w' => ∃ kind k v : Int, e = .returned (OpV kind k v) ∧ Cur 67 w' p a n c ∧ w.grownBy w' (some p) := by
  have HC : Hid (Cur 67 w p a n c) := hC
  have hpw := hC.lt
  clear hC
  go_enter Try.func20, Try.ntmps20
  go_wp2_with fail
  refine (l4DrawRight_any p a n c _ (cur_alloc HC.out _)).mono ?_
  rintro e w1 ⟨kind, k, v, rfl, hC1, hf1⟩
  have hs1 : w.heap.size + 1 ≤ w1.heap.size := by have h := hf1.size; simpa using h
  have S0 : OpSt w p a n c w1.heap.size (w1.alloc (.cells #[.int .i64 kind, .int .i64 k, .int .i64 v] 28)) kind k v :=
    ⟨cur_alloc hC1 _, ((World.grownBy_alloc w _ _).trans hf1).trans (World.grownBy_alloc _ _ _), obox_new _ _ _ _, ((obox_new w 0 0 0).far hf1 (by omega)).far (p := p) (World.grownBy_alloc _ _ _) (by omega)⟩
  obtain ⟨b, hb⟩ : ∃ b, b = w1.heap.size := ⟨_, rfl⟩
  obtain ⟨w2, hw2⟩ : ∃ w2, w2 = w1.alloc (.cells #[.int .i64 kind, .int .i64 k, .int .i64 v] 28) := ⟨_, rfl⟩
  rw [← hw2, ← hb] at S0
  have HS : Hid (OpSt w p a n c b w2 kind k v) := S0
  have hbw : w.heap.size < b := by omega
  clear S0 hC1 hf1
  go_wp2_with fail
  rw [← hw2, ← hb]
  clear hw2 hb hs1
  refine (l1Below_any p a n c 10 (by omega) (by omega) _ HS.out.cur).mono ?_
  rintro e w3 ⟨x, hx, rfl, hC3, hO3⟩
  have hS2 := HS.out.only hpw hbw hC3 hO3
  obtain ⟨b0, b1, b2, z0, z1, z2, bl⟩ := hS2.box.facts
  obtain ⟨r0, r1, r2, y0, y1, y2, rl⟩ := hS2.res.facts
  have HS2 : Hid (OpSt w p a n c b w3 kind k v) := hS2
  clear HS hC3 hO3 hS2
  rcases (show x = 0 ∨ x = 1 ∨ x = 2 ∨ 3 ≤ x by omega) with rfl | rfl | rfl | h4
  · go_wp2_with fail
    refine (l1Below_any p a n c 13 (by omega) (by omega) _ HS2.out.cur).mono ?_
    rintro e w3 ⟨y, hy, rfl, hC3, hO3⟩
    have hS3 := HS2.out.only hpw hbw hC3 hO3
    clear b0 b1 b2 z0 z1 z2 bl r0 r1 r2 y0 y1 y2 rl
    obtain ⟨b0, b1, b2, z0, z1, z2, bl⟩ := hS3.box.facts
    obtain ⟨r0, r1, r2, y0, y1, y2, rl⟩ := hS3.res.facts
    have HS3 : Hid (OpSt w p a n c b w3 kind k v) := hS3
    clear hS3 hC3 hO3
    go_wp2
    have E := (HS3.out.put0 hpw hbw ((y : Int) - 1)).fin hpw ((y : Int) - 1) (k) (v)
    obtain ⟨q0, q1, q2, _⟩ := E.1.facts
    (try simp only [Exit.inBlock, Exit.then])
    refine bodyPost_ret (by simp [results, Try.results20, go_sem, q0, q1, q2]; try rfl) rfl ?_
    exact ⟨_, _, _, rfl, E.2.1, E.2.2⟩
  · go_wp2_with fail
    refine (l1Below_any p a n c 7 (by omega) (by omega) _ HS2.out.cur).mono ?_
    rintro e w3 ⟨y, hy, rfl, hC3, hO3⟩
    have hS3 := HS2.out.only hpw hbw hC3 hO3
    clear b0 b1 b2 z0 z1 z2 bl r0 r1 r2 y0 y1 y2 rl
    obtain ⟨b0, b1, b2, z0, z1, z2, bl⟩ := hS3.box.facts
    obtain ⟨r0, r1, r2, y0, y1, y2, rl⟩ := hS3.res.facts
    have HS3 : Hid (OpSt w p a n c b w3 kind k v) := hS3
    clear hS3 hC3 hO3
    go_wp2
    have E := (HS3.out.put1 hpw hbw ((y : Int) - 1)).fin hpw (kind) ((y : Int) - 1) (v)
    obtain ⟨q0, q1, q2, _⟩ := E.1.facts
    (try simp only [Exit.inBlock, Exit.then])
    refine bodyPost_ret (by simp [results, Try.results20, go_sem, q0, q1, q2]; try rfl) rfl ?_
    exact ⟨_, _, _, rfl, E.2.1, E.2.2⟩
  · go_wp2_with fail
    refine (l1Below_any p a n c 9 (by omega) (by omega) _ HS2.out.cur).mono ?_
    rintro e w3 ⟨y, hy, rfl, hC3, hO3⟩
    have hS3 := HS2.out.only hpw hbw hC3 hO3
    clear b0 b1 b2 z0 z1 z2 bl r0 r1 r2 y0 y1 y2 rl
    obtain ⟨b0, b1, b2, z0, z1, z2, bl⟩ := hS3.box.facts
    obtain ⟨r0, r1, r2, y0, y1, y2, rl⟩ := hS3.res.facts
    have HS3 : Hid (OpSt w p a n c b w3 kind k v) := hS3
    clear hS3 hC3 hO3
    go_wp2
    have E := (HS3.out.put2 hpw hbw ((y : Int) - 1)).fin hpw (kind) (k) ((y : Int) - 1)
    obtain ⟨q0, q1, q2, _⟩ := E.1.facts
    (try simp only [Exit.inBlock, Exit.then])
    refine bodyPost_ret (by simp [results, Try.results20, go_sem, q0, q1, q2]; try rfl) rfl ?_
    exact ⟨_, _, _, rfl, E.2.1, E.2.2⟩
  · have e0 : ((x : Int) == 0) = false := by simp; omega
    have e1 : ((x : Int) == 1) = false := by simp; omega
    have e2 : ((x : Int) == 2) = false := by simp; omega
    go_wp2
    have E := HS2.out.fin hpw (kind) (k) (v)
    obtain ⟨q0, q1, q2, _⟩ := E.1.facts
    (try simp only [Exit.inBlock, Exit.then])
    refine bodyPost_ret (by simp [results, Try.results20, go_sem, q0, q1, q2]; try rfl) rfl ?_
    exact ⟨_, _, _, rfl, E.2.1, E.2.2⟩

set_option maxHeartbeats 1000000 in
theorem drawOpOk_any (a : Option Addr) (n c : Nat) (w : World) (hn : n ≤ 1048576) (hB : BytesAt w w.heap.size a n) :
    Calls Try.prog 10 #[.slice a n c] w fun e w' => ∃ kind k v : Int, e = .returned (OpV kind k v) ∧ Below w.heap.size w w' := by
  have HB : Hid (BytesAt w w.heap.size a n) := hB
  clear hB
  go_enter Try.func10, Try.ntmps10
  go_wp2_with fail
  have hb0 : Below w.heap.size w (w.alloc (.cells #[.int .i64 0, .int .i64 0, .int .i64 0] 28)) := (Below.refl _ w).alloc (Nat.le_refl _) _
  refine (l1New_any a n c _ hn (bytes_now2 HB.out hb0)).mono ?_
  rintro e w1 ⟨rfl, hC1, hb1, hs1⟩
  simp only [World.size_alloc] at hC1 hb1 hs1
  have r1 : OBox w1 w.heap.size 0 0 0 := (obox_new w 0 0 0).far (p := w.heap.size + 1) (far_below (hb1.mono (by simp)) _) (by omega)
  have HB1 : Hid (Below w.heap.size w w1) := hb0.trans (hb1.mono (by omega))
  have R1 : Hid (OBox w1 w.heap.size 0 0 0) := r1
  clear hb0 hb1 r1
  go_wp2_with fail
  refine (l4Draw_any (w.heap.size + 1) a n c _ hC1).mono ?_
  rintro e w2 ⟨kind, k, v, rfl, _, hf2⟩
  have r2 := R1.out.far hf2 (by omega)
  obtain ⟨b0, b1, b2, z0, z1, z2, bl⟩ := r2.facts
  have HB2 : Hid (Below w.heap.size w w2) := HB1.out.grown hf2 (by omega) (fun k e => by cases e; omega)
  have R2 : Hid (OBox w2 w.heap.size 0 0 0) := r2
  clear hf2 r2 hC1
  go_wp2
  have E := ((R2.out.put0 kind).put1 k).put2 v
  obtain ⟨q0, q1, q2, _⟩ := E.facts
  (try simp only [Exit.inBlock, Exit.then])
  refine bodyPost_ret (by simp [results, Try.results10, go_sem, q0, q1, q2]; try rfl) rfl ?_
  exact ⟨_, _, _, rfl, ((HB2.out.setCell (Nat.le_refl _) _).setCell (Nat.le_refl _) _).setCell (Nat.le_refl _) _⟩
end Go.Proofs.Ytlnhmmpmnflagad
