/- Lists of the type Pair (2 numbers each): the law's own functions on them. -/
import Derived.Test.YtemeklfkbjpnmarKRow
import Derived.Deep.RegionHeld3
namespace Go.Proofs.Ytemeklfkbjpnmar
open Go.ChangeShapes Go.WideShapes Go.ChangeAt Go.RowKit

theorem kInfoPair : (Try.prog.info? 86).map (fun i => (i.zero, i.size, i.bytes)) = some (some (.agg #[.int .i64 0, .int .i64 0]), 2, 16) := by kernel_rfl
set_option maxHeartbeats 1000000 in
theorem kToPair (x0 x1 : Int) (w : World) : Calls Try.prog 88 #[.agg #[.int .i64 x0, .int .i64 x1]] w fun e w' => e = .returned (.agg #[.int .i64 x0, .int .i64 x1]) ∧ Below w.heap.size w w' := by
  go_enter Try.func88, Try.ntmps88
  go_wp2
  (try simp only [Exit.inBlock, Exit.then])
  refine bodyPost_ret (by simp [results, Try.results88, go_sem]; try rfl) rfl ?_
  exact ⟨rfl, (((Below.refl _ _).alloc (Nat.le_refl _) _).alloc (by simp) _).alloc (by simp; omega) _⟩

set_option maxHeartbeats 1000000 in
theorem kToPairS (a : Option Addr) (n c : Nat) (fs : List Int) (w : World) (h : KAt 2 w a n fs) :
    Calls Try.prog 50 #[.slice a n c] w fun e w' => e = .returned (.slice (some ⟨w.heap.size, 0, none⟩) n n) ∧ w'.ownsRow w.heap.size 86 2 (.slice (some ⟨w.heap.size, 0, none⟩) n n) n (fs.map I) ∧ Below w.heap.size w w' := by
  have HH : Hid (KAt 2 w a n fs) := h
  have L1 : Hid (fs.length = n * 2) := h.1
  have hn : n ≤ 2097152 := h.2.1
  clear h
  obtain ⟨i0, hi, hz0, hz1, hz2⟩ := info_parts kInfoPair
  go_enter Try.func50, Try.ntmps50
  go_wp2_with (at_make; refine wpList_make_full _ rfl _ _ 43 rfl w.heap.size 86 i0 (.agg #[.int .i64 0, .int .i64 0]) 2 Try.underlying43 hi hz0 hz1 .i64 .i64 _ _ n rfl rfl rfl rfl (by rw [hz2]; omega) (by unfold maxLen; omega) (Nat.le_refl _) ?_; intro w1 own1 grow1)
  have own0 : w1.ownsRow w.heap.size 86 2 (.slice (some ⟨w.heap.size, 0, none⟩) n n) n ((uptoT fs 0 (n * 2)).map I) := by
    rw [made_2] at own1
    simpa [uptoT] using own1
  have hb1 : Below w.heap.size w w1 := (Below.refl _ _).grown grow1 (Nat.le_refl _) (fun k e => by cases e)
  clear own1 grow1
  go_loopw [4] (fun i wr => ∃ k : Nat, k ≤ n ∧ i = .int .i64 (k : Int) ∧ wr.ownsRow w.heap.size 86 2 (.slice (some ⟨w.heap.size, 0, none⟩) n n) n ((uptoT fs (k * 2) (n * 2)).map I) ∧ Below w.heap.size w wr) (fun i _ => n - (intOf i).toNat)
  case atStart => exact ⟨0, Nat.zero_le _, by simp, by simpa using own0, hb1⟩
  case round =>
    obtain ⟨k, hk, rfl, ho, hb⟩ := hrel
    clear own0 hb1
    by_cases hlt : k < n
    · rcases (HH.out.below hb (Nat.le_refl _)).2.2 with h0 | ⟨p1, o1, rfl, g1⟩
      · omega
      have hk0 : (0 : Int) ≤ (k : Int) := by omega
      have hk1 : (k : Int) < (n : Int) := by omega
      have e0 := g1 (k * 2) (by omega)
      have e1 := g1 (k * 2 + 1) (by omega)
      obtain ⟨x0, hx0⟩ : ∃ x, fs.getD (k * 2) 0 = x := ⟨_, rfl⟩
      obtain ⟨x1, hx1⟩ : ∃ x, fs.getD (k * 2 + 1) 0 = x := ⟨_, rfl⟩
      rw [hx0] at e0
      rw [hx1, ← Nat.add_assoc] at e1
      have HO : Hid (wr.ownsRow w.heap.size 86 2 (.slice (some ⟨w.heap.size, 0, none⟩) n n) n ((uptoT fs (k * 2) (n * 2)).map I)) := ho
      have HX0 : Hid (fs.getD (k * 2) 0 = x0) := hx0
      have HX1 : Hid (fs.getD (k * 2 + 1) 0 = x1) := hx1
      clear g1 hx0 hx1 ho
      go_wp2_with fail
      refine (kToPair x0 x1 _).mono ?_
      rintro e w2 ⟨rfl, hb2⟩
      have ho2 := owns_below HO.out hb2 (Nat.le_refl _)
      have hb02 : Below w.heap.size w w2 := hb.trans (hb2.mono hb.size)
      have hs0 := ho2.stored (k * 2) (I x0)
      rw [← HX0.out, uptoT_step L1.out (show k * 2 < n * 2 by omega), HX0.out] at hs0
      have hs1 := hs0.1.stored (k * 2 + 1) (I x1)
      rw [← HX1.out, uptoT_step L1.out (show k * 2 + 1 < n * 2 by omega), HX1.out] at hs1
      have HS : Hid (((w2.setCell ⟨w.heap.size, k * 2, none⟩ (I x0)).setCell ⟨w.heap.size, k * 2 + 1, none⟩ (I x1)).ownsRow w.heap.size 86 2 (.slice (some ⟨w.heap.size, 0, none⟩) n n) n ((uptoT fs ((k + 1) * 2) (n * 2)).map I)) := by
        rw [show (k + 1) * 2 = k * 2 + 1 + 1 by omega]
        exact hs1.1
      have z0 := ho2.frozenAt (k * 2)
      have hc0 := ho2.cellAt (k * 2) (by omega)
      have z1 := ho2.frozenAt (k * 2 + 1)
      have hc1 := ho2.cellAt (k * 2 + 1) (by omega)
      rw [List.getElem?_eq_getElem (by rw [ho2.1]; omega)] at hc0 hc1
      obtain ⟨u0, hu0⟩ : ∃ u, w2.cell? ⟨w.heap.size, k * 2, none⟩ = some u := ⟨_, hc0⟩
      obtain ⟨u1, hu1⟩ : ∃ u, w2.cell? ⟨w.heap.size, k * 2 + 1, none⟩ = some u := ⟨_, hc1⟩
      clear hs0 hc0 e0 hs1 hc1 e1 ho2 hb2
      go_wp2
      go_roundw
      case rel => exact ⟨k + 1, by omega, by go_num, HS.out, ((hb02.setCell (Nat.le_refl _) _).setCell (Nat.le_refl _) _)⟩
      case measure => simp [intOf]; omega
    · obtain rfl : k = n := by omega
      rw [uptoT_end L1.out] at ho
      go_wp2
      go_ret
      exact ⟨rfl, ho, hb⟩

set_option maxHeartbeats 1000000 in
theorem kEqPair (x0 x1 : Int) (w : World) : Calls Try.prog 95 #[.agg #[.int .i64 x0, .int .i64 x1], .agg #[.int .i64 x0, .int .i64 x1]] w fun e w' => e = .returned (.bool true) ∧ Below w.heap.size w w' := by
  have ne : ∀ a : Int, (a != a) = false := fun a => by simp
  have g0 := ne x0
  have g1 := ne x1
  clear ne
  go_enter Try.func95, Try.ntmps95
  go_wp2
  iterate 2
    all_goals (try go_region)
    all_goals (try go_wp2)
  all_goals
    go_ret
    refine ⟨rfl, (by
      have h0 := ((Below.refl w.heap.size w).alloc (Nat.le_refl _) (.cells #[.int .i64 x0, .int .i64 x1] 86)).alloc (by simp) (.cells #[.int .i64 x0, .int .i64 x1] 86)
      first | exact h0 | exact h0.drew | exact h0.drew.drew | exact h0.drew.drew.drew | exact h0.drew.drew.drew.drew)⟩

set_option maxHeartbeats 1000000 in
theorem kEqPairS (a1 a2 : Option Addr) (n c1 c2 : Nat) (fs : List Int) (w : World) (h1 : KAt 2 w a1 n fs) (h2 : KAt 2 w a2 n fs) :
    Calls Try.prog 57 #[.slice a1 n c1, .slice a2 n c2] w fun e w' => e = .returned (.bool true) ∧ Below w.heap.size w w' := by
  have H1 : Hid (KAt 2 w a1 n fs) := h1
  have H2 : Hid (KAt 2 w a2 n fs) := h2
  have b1 := h1.2.1
  clear h1 h2
  go_enter Try.func57, Try.ntmps57
  go_wp2
  go_loopw [5] (fun i wr => ∃ k : Nat, k ≤ n ∧ i = .int .i64 k ∧ Below w.heap.size w wr) (fun i _ => n - (intOf i).toNat)
  case atStart => exact ⟨0, Nat.zero_le _, rfl, Below.refl _ _⟩
  case round =>
    obtain ⟨k, hk1, rfl, hb⟩ := hrel
    by_cases hlt1 : k < n
    · have hk0 : (0 : Int) ≤ (k : Int) := by omega
      have hk1' : (k : Int) < (n : Int) := by omega
      rcases (H1.out.below hb (Nat.le_refl _)).2.2 with h | ⟨p1, o1, rfl, g1⟩
      · omega
      rcases (H2.out.below hb (Nat.le_refl _)).2.2 with h | ⟨p2, o2, rfl, g2⟩
      · omega
      obtain ⟨x0, hx0⟩ : ∃ x, fs.getD (k * 2) 0 = x := ⟨_, rfl⟩
      have e0 := g1 (k * 2) (by omega)
      have f0 := g2 (k * 2) (by omega)
      rw [hx0] at e0
      rw [hx0] at f0
      obtain ⟨x1, hx1⟩ : ∃ x, fs.getD (k * 2 + 1) 0 = x := ⟨_, rfl⟩
      have e1 := g1 (k * 2 + 1) (by omega)
      have f1 := g2 (k * 2 + 1) (by omega)
      rw [hx1, ← Nat.add_assoc] at e1
      rw [hx1, ← Nat.add_assoc] at f1
      clear g1 g2 hx0 hx1
      have q1 : p1 < wr.heap.size := World.block_lt_of_cell? wr _ e0
      have q2 : p2 < wr.heap.size := World.block_lt_of_cell? wr _ f0
      go_wp2_with fail
      go_region_held3 (fun w' => w'.cell? ⟨p1, o1 + k * 2, none⟩ = some (I x0) ∧ w'.cell? ⟨p1, o1 + k * 2 + 1, none⟩ = some (I x1) ∧ w'.cell? ⟨p2, o2 + k * 2, none⟩ = some (I x0) ∧ w'.cell? ⟨p2, o2 + k * 2 + 1, none⟩ = some (I x1))
        (first | (with_reducible exact K2.out) | go_keep)
        (first
        | (go_at_call 95
           refine (kEqPair x0 x1 _).mono ?_
           rintro e w2 ⟨rfl, hb2⟩
           have hb2' : Below wr.heap.size wr w2 := (Below.refl _ wr).drew.trans hb2
           have K2 : Hid (w2.cell? ⟨p1, o1 + k * 2, none⟩ = some (I x0) ∧ w2.cell? ⟨p1, o1 + k * 2 + 1, none⟩ = some (I x1) ∧ w2.cell? ⟨p2, o2 + k * 2, none⟩ = some (I x0) ∧ w2.cell? ⟨p2, o2 + k * 2 + 1, none⟩ = some (I x1)) := ⟨(hb2'.cell (show p1 < _ from q1)).trans e0, (hb2'.cell (show p1 < _ from q1)).trans e1, (hb2'.cell (show p2 < _ from q2)).trans f0, (hb2'.cell (show p2 < _ from q2)).trans f1⟩
           have hb02 : Below w.heap.size w w2 := hb.trans (hb2'.mono hb.size)
           clear hb2 hb2'))
      clear e0 f0 e1 f1 K2
      go_wp2
      exact ⟨⟨k + 1, by omega, by go_num, hb02⟩, by simp [intOf]; omega⟩
    · obtain rfl : k = n := by omega
      go_wp2
      go_ret
      exact ⟨rfl, hb⟩
theorem kSzPairS (a : Option Addr) (n c : Nat) (left : Int) (w : World) (h0 : 0 ≤ left) (h1 : left ≤ 1048576) (hn : (n : Int) ≤ left) :
    Calls Try.prog 46 #[.slice a n c, .int .i64 left] w fun e w' => e = .returned (.int .i64 (left - (n : Int))) ∧ w' = w := by
  have h2 : ¬ (left - (n : Int) < 0) := by omega
  go_enter Try.func46, Try.ntmps46
  go_wp2
  go_ret
  exact ⟨rfl, rfl⟩
theorem kSzPairS_big (a : Option Addr) (n c : Nat) (left : Int) (w : World) (h0 : 0 ≤ left) (h1 : left ≤ 1048576) (hn : ¬ (n : Int) ≤ left) (hm : n ≤ 9223372036854775807) :
    Calls Try.prog 46 #[.slice a n c, .int .i64 left] w fun e w' => e = .returned (.int .i64 (-1)) ∧ w' = w := by
  have h2 : left - (n : Int) < 0 := by omega
  go_enter Try.func46, Try.ntmps46
  go_wp2
  go_ret
  exact ⟨rfl, rfl⟩

set_option maxHeartbeats 1000000 in
theorem kMarkPairS (base : Nat) (v : Value) (n : Nat) (k0 : Int) (zs0 : List Int) (w : World) (hn : n ≤ 2097152) (hk0 : 0 ≤ k0) (hk1 : k0 ≤ 4611686018427387904) (hown : w.ownsRow base 86 2 v n (zs0.map I)) :
    Calls Try.prog 62 #[v, .int .i64 k0] w fun e w' => e = .returned (.int .i64 (k0 + (n : Int) * 2)) ∧ w'.ownsRow base 86 2 v n ((asc k0 (n * 2)).map I) ∧ OnlyV base v w w' := by
  rcases owns_forms hown with ⟨rfl, rfl⟩ | ⟨g, cap, rfl⟩
  · have HO : Hid (w.ownsRow base 86 2 (.slice none 0 0) 0 (zs0.map I)) := hown
    clear hown
    go_enter Try.func62, Try.ntmps62
    go_wp2
    go_loopw [1, 5] (fun q i wr => q = .int .i64 k0 ∧ i = .int .i64 0 ∧ wr = w) (fun _ i _ => 0)
    case atStart => exact ⟨rfl, rfl, rfl⟩
    case round =>
      obtain ⟨rfl, rfl, rfl⟩ := hrel
      go_wp2
      go_ret
      exact ⟨by simp, by have h := HO.out; rw [show zs0 = [] by have := h.1; simpa using this] at h; simpa [asc] using h, OnlyV.refl _ _ _⟩
  have hbg : base ≤ g := (hown.lt g rfl).1
  have hl0 : zs0.length = n * 2 := by have := hown.1; simpa using this
  go_enter Try.func62, Try.ntmps62
  go_wp2
  go_loopw [1, 5] (fun q i wr => ∃ j : Nat, j ≤ n ∧ q = .int .i64 (k0 + (j : Int) * 2) ∧ i = .int .i64 (j : Int) ∧ (∃ zs : List Int, zs.length = n * 2 ∧ Asc zs k0 (j * 2) ∧ wr.ownsRow base 86 2 (.slice (some ⟨g, 0, none⟩) n cap) n (zs.map I)) ∧ OnlyV base (.slice (some ⟨g, 0, none⟩) n cap) w wr) (fun _ i _ => n - (intOf i).toNat)
  case atStart => exact ⟨0, Nat.zero_le _, by simp, rfl, ⟨zs0, hl0, fun i hi => by omega, hown⟩, OnlyV.refl _ _ _⟩
  case round =>
    obtain ⟨j, hj, rfl, rfl, ⟨zs, hlz, hasc, ho⟩, hob⟩ := hrel
    have HOB : Hid (OnlyV base (.slice (some ⟨g, 0, none⟩) n cap) w wr) := hob
    clear hown hob hl0
    by_cases hlt : j < n
    · have hj0 : (0 : Int) ≤ (j : Int) := by omega
      have hj1 : (j : Int) < (n : Int) := by omega
      have hl : (zs.map I).length = n * 2 := ho.1
      have z0 := ho.frozenAt (j * 2)
      obtain ⟨u0, hu0⟩ : ∃ u, wr.cell? ⟨g, j * 2, none⟩ = some u := ⟨_, own_cellV ho (List.getElem?_eq_getElem (by omega))⟩
      have z1 := ho.frozenAt (j * 2 + 1)
      obtain ⟨u1, hu1⟩ : ∃ u, wr.cell? ⟨g, j * 2 + 1, none⟩ = some u := ⟨_, own_cellV ho (List.getElem?_eq_getElem (by omega))⟩
      obtain ⟨q, hq⟩ : ∃ q : Int, k0 + (j : Int) * 2 = q := ⟨_, rfl⟩
      have HQ : Hid (k0 + (j : Int) * 2 = q) := hq
      have hq0 : 0 ≤ q := by omega
      have hq1 : q ≤ 4611686022621691904 := by omega
      have HO3 : Hid (((wr.setCell ⟨g, j * 2, none⟩ (I (q))).setCell ⟨g, j * 2 + 1, none⟩ (I (q + 1))).ownsRow base 86 2 (.slice (some ⟨g, 0, none⟩) n cap) n ((List.set (List.set zs (j * 2) (q)) (j * 2 + 1) (q + 1)).map I)) := by
        have h1 := ((ho.stored (j * 2) (I (q))).1.stored (j * 2 + 1) (I (q + 1))).1
        rw [← List.map_set, ← List.map_set] at h1
        exact h1
      have HA3 : Hid (Asc (List.set (List.set zs (j * 2) (q)) (j * 2 + 1) (q + 1)) k0 ((j + 1) * 2)) := hasc.two (by omega) hq
      rw [hq]
      clear ho hq hl hasc
      go_wp2
      go_roundw
      case rel => exact ⟨j + 1, by omega, by have := HQ.out; congr 1; push_cast; omega, by go_num, ⟨_, by simpa using hlz, HA3.out, HO3.out⟩, ((HOB.out.set hbg _ _).set hbg _ _)⟩
      case measure => simp [intOf]; omega
    · obtain rfl : j = n := by omega
      have hz : zs = asc k0 (j * 2) := hasc.all hlz
      subst hz
      go_wp2
      go_ret
      exact ⟨rfl, ho, HOB.out⟩

set_option maxHeartbeats 1000000 in
theorem kHeldPairS (a : Option Addr) (n c : Nat) (k0 : Int) (w : World) (hk0 : 0 ≤ k0) (hk1 : k0 ≤ 4611686018427387904) (h : KAt 2 w a n (asc k0 (n * 2))) :
    Calls Try.prog 65 #[.slice a n c, .int .i64 k0] w fun e w' => e = .returned (.int .i64 (k0 + (n : Int) * 2)) ∧ Below w.heap.size w w' := by
  have HH : Hid (KAt 2 w a n (asc k0 (n * 2))) := h
  have hn := h.2.1
  clear h
  go_enter Try.func65, Try.ntmps65
  go_wp2
  go_loopw [1, 5] (fun q i wr => ∃ j : Nat, j ≤ n ∧ q = .int .i64 (k0 + (j : Int) * 2) ∧ i = .int .i64 (j : Int) ∧ Below w.heap.size w wr) (fun _ i _ => n - (intOf i).toNat)
  case atStart => exact ⟨0, Nat.zero_le _, by simp, rfl, Below.refl _ _⟩
  case round =>
    obtain ⟨j, hj, rfl, rfl, hb⟩ := hrel
    have HB : Hid (Below w.heap.size w wr) := hb
    by_cases hlt : j < n
    · have hj0 : (0 : Int) ≤ (j : Int) := by omega
      have hj1 : (j : Int) < (n : Int) := by omega
      rcases (HH.out.below hb (Nat.le_refl _)).2.2 with h0 | ⟨p1, o1, rfl, g1⟩
      · omega
      obtain ⟨q, hq⟩ : ∃ q : Int, k0 + (j : Int) * 2 = q := ⟨_, rfl⟩
      have HQ : Hid (k0 + (j : Int) * 2 = q) := hq
      have hq0 : 0 ≤ q := by omega
      have hq1 : q ≤ 4611686022621691904 := by omega
      have e0 := g1 (j * 2) (by omega)
      rw [asc_at (by omega), show k0 + ((j * 2 : Nat) : Int) = q by push_cast; omega] at e0
      have e1 := g1 (j * 2 + 1) (by omega)
      rw [asc_at (by omega), show k0 + ((j * 2 + 1 : Nat) : Int) = q + 1 by push_cast; omega, ← Nat.add_assoc] at e1
      rw [hq]
      clear g1 hq hb
      go_wp2
      exact ⟨⟨j + 1, by omega, by have := HQ.out; congr 1; push_cast; omega, by go_num, HB.out⟩, by simp [intOf]; omega⟩
    · obtain rfl : j = n := by omega
      go_wp2
      go_ret
      exact ⟨rfl, HB.out⟩
end Go.Proofs.Ytemeklfkbjpnmar
