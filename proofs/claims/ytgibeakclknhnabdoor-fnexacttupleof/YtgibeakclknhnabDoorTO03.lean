/- Texts joined: BytK, MarkAt, MarkVo, DatVt, TupA, EqV, Be18, Rd18b, Sp18x. -/
import Derived.Test.YtgibeakclknhnabDoorTO02
import Derived.WalkSmall
import Derived.Deep.RegionHeld3
import Derived.Test.YtgibeakclknhnabDoorTO01
import Derived.Deep.Cut
import Derived.Handy
import Derived.Laws.BitsAllLaws
set_option maxHeartbeats 4000000
set_option maxRecDepth 100000
namespace Go.Proofs.YtgibeakclknhnabDoor
section
open Go.ChangeShapes Go.WideShapes Go.ChangeAt Go.RowKit
open Go.Lib (byteCells byteCells_length byteCells_append)

def marksB (n : Nat) : List UInt8 := (List.range n).map fun i => UInt8.ofNat ((i + 1) % 256)
theorem marksB_len (n : Nat) : (marksB n).length = n := by simp [marksB]
theorem u8_mark (i : Nat) : ((UInt8.ofNat ((i + 1) % 256)).toNat : Int) = ((i : Int) + 1) % 256 := by
  have h : (UInt8.ofNat ((i + 1) % 256)).toNat = (i + 1) % 256 := by simp
  rw [h]
  omega
theorem below_drewN (w : World) (m : Nat) : Below w.heap.size w (w.drewN m) := ⟨rfl, rfl, rfl, Nat.le_refl _, fun _ _ => rfl⟩
theorem markB_step (n j : Nat) (l : List UInt8) (hx : l.length = n) (h : j < n) :
    (byteCells (marksB j ++ l.drop j)).set j (.int .u8 (((j : Int) + 1) % 256)) = byteCells (marksB (j + 1) ++ l.drop (j + 1)) := by
  have e : marksB (j + 1) = marksB j ++ [UInt8.ofNat ((j + 1) % 256)] := by simp [marksB, List.range_succ]
  rw [← u8_mark, e]
  unfold byteCells
  rw [show Value.int IntKind.u8 ((UInt8.ofNat ((j + 1) % 256)).toNat : Int) = (fun b : UInt8 => Value.int IntKind.u8 (b.toNat : Int)) (UInt8.ofNat ((j + 1) % 256)) from rfl, ← List.map_set]
  congr 1
  rw [List.set_append_right _ _ (by simp [marksB]), show j - (marksB j).length = 0 by simp [marksB], List.drop_eq_getElem_cons (show j < l.length by omega), List.set_cons_zero, List.append_assoc]
  rfl
theorem markByteS_own (base g n cap : Nat) (l : List UInt8) (w : World) (hx : l.length = n) (hn : n ≤ 2097152)
    (hown : w.ownsRow base 5 1 (.slice (some ⟨g, 0, none⟩) n cap) n (byteCells l)) :
    Calls Tryd.prog 10 #[.slice (some ⟨g, 0, none⟩) n cap, .int .i64 1] w fun e w' =>
      e = .returned (.int .i64 ((n : Int) + 1)) ∧ w'.ownsRow base 5 1 (.slice (some ⟨g, 0, none⟩) n cap) n (byteCells (marksB n)) ∧ Only g w w' := by
  have HX : Hid (l.length = n) := hx
  have HOWN : Hid (w.ownsRow base 5 1 (.slice (some ⟨g, 0, none⟩) n cap) n (byteCells l)) := hown
  clear hx hown
  go_enter Tryd.func10, Tryd.ntmps10
  go_wp2
  go_loopw [1, 5] (fun q i wr => ∃ j : Nat, j ≤ n ∧ q = .int .i64 ((j : Int) + 1) ∧ i = .int .i64 (j : Int) ∧ wr.ownsRow base 5 1 (.slice (some ⟨g, 0, none⟩) n cap) n (byteCells (marksB j ++ l.drop j)) ∧ Only g w wr) (fun _ i _ => n - (intOf i).toNat)
  case atStart => exact ⟨0, Nat.zero_le _, rfl, rfl, by simpa [marksB] using HOWN.out, Only.refl _ _⟩
  case round =>
    obtain ⟨j, hj, rfl, rfl, ho, hb⟩ := hrel
    have hj0 : (0 : Int) ≤ (j : Int) := by omega
    have hjm : (j : Int) ≤ 2097152 := by omega
    by_cases hlt : j < n
    · have hf1 := ho.frozenAt j
      obtain ⟨u, hc1⟩ := own_cell ho hlt
      have ho1 := ho.stored j (.int .u8 (((j : Int) + 1) % 256))
      rw [markB_step n j l HX.out hlt] at ho1
      have hjn : (j : Int) < (n : Int) := by omega
      go_wp2
      exact ⟨⟨j + 1, by omega, by go_num, by go_num, ho1.1, hb.setCell j _⟩, by simp [intOf]; omega⟩
    · obtain rfl : n = j := by omega
      go_wp2
      go_ret
      refine ⟨rfl, ?_, hb⟩
      have hx := HX.out
      rwa [List.drop_of_length_le (by omega), List.append_nil] at ho
theorem markByteS_none (cap : Nat) (w : World) :
    Calls Tryd.prog 10 #[.slice none 0 cap, .int .i64 1] w fun e w' => e = .returned (.int .i64 1) ∧ w' = w := by
  go_enter Tryd.func10, Tryd.ntmps10
  go_wp2
  go_loopw [1, 5] (fun q i wr => q = .int .i64 1 ∧ i = .int .i64 0 ∧ wr = w) (fun _ _ _ => 0)
  case atStart => exact ⟨rfl, rfl, rfl⟩
  case round =>
    obtain ⟨rfl, rfl, rfl⟩ := hrel
    go_wp2
    go_ret
    exact ⟨rfl, rfl⟩
theorem eqByteS_any (a1 a2 : Option Addr) (n1 n2 c1 c2 : Nat) (xs ys : List UInt8) (w : World) (h1 : BysAt w a1 n1 xs) (h2 : BysAt w a2 n2 ys) :
    Calls Tryd.prog 9 #[.slice a1 n1 c1, .slice a2 n2 c2] w fun e w' => e = .returned (.bool (decide (xs = ys))) ∧ Below w.heap.size w w' := by
  have H1 : Hid (BysAt w a1 n1 xs) := h1
  have H2 : Hid (BysAt w a2 n2 ys) := h2
  have l1 := h1.1
  have l2 := h2.1
  have b1 := h1.2.1
  clear h1 h2
  by_cases hn : n1 = n2
  · subst hn
    go_enter Tryd.func9, Tryd.ntmps9
    go_wp2
    go_loopw [5] (fun i wr => ∃ k m : Nat, k ≤ n1 ∧ i = .int .i64 k ∧ xs.take k = ys.take k ∧ wr = w.drewN m) (fun i _ => n1 - (intOf i).toNat)
    case atStart => exact ⟨0, 0, Nat.zero_le _, rfl, rfl, rfl⟩
    case round =>
      obtain ⟨k, m, hk, rfl, ht, rfl⟩ := hrel
      have HT : Hid (xs.take k = ys.take k) := ht
      clear ht
      by_cases hlt : k < n1
      · rcases H1.out.2.2 with h | ⟨p1, o1, rfl, g1⟩
        · omega
        rcases H2.out.2.2 with h | ⟨p2, o2, rfl, g2⟩
        · omega
        obtain ⟨x, hx⟩ : ∃ x, xs[k]? = some x := ⟨_, List.getElem?_eq_getElem (by omega)⟩
        obtain ⟨y, hy⟩ : ∃ y, ys[k]? = some y := ⟨_, List.getElem?_eq_getElem (by omega)⟩
        have e1 := g1 k x hx
        have e2 := g2 k y hy
        have HX : Hid (xs[k]? = some x) := hx
        have HY : Hid (ys[k]? = some y) := hy
        clear g1 g2 hx hy
        go_wp2
        go_region
        go_wp2
        · have hd : ((x.toNat : Int) != (y.toNat : Int)) = true := by assumption
          go_ret
          refine ⟨?_, below_drewN w (m + 1)⟩
          have e : xs ≠ ys := fun e => by
            have h1 := HX.out
            rw [e, HY.out] at h1
            cases h1
            simp at hd
          simp [e]
        · have hd : ((x.toNat : Int) != (y.toNat : Int)) = false := by assumption
          have hxy : x = y := UInt8.toNat_inj.1 (by have : ((x.toNat : Int)) = (y.toNat : Int) := by simpa using hd
                                                    omega)
          refine ⟨⟨k + 1, m + 1, by omega, by go_num, ?_, rfl⟩, by simp [intOf]; omega⟩
          rw [List.take_succ_eq_append_getElem (by omega), List.take_succ_eq_append_getElem (by omega), HT.out, (List.getElem?_eq_some_iff.1 HX.out).2, (List.getElem?_eq_some_iff.1 HY.out).2, hxy]
      · go_wp2
        go_ret
        refine ⟨?_, below_drewN w m⟩
        have e : xs = ys := by
          have := HT.out
          rwa [List.take_of_length_le (by omega), List.take_of_length_le (by omega)] at this
        simp [e]
  · have hz : ((n1 : Int) != (n2 : Int)) = true := by simp; omega
    go_enter Tryd.func9, Tryd.ntmps9
    go_wp2
    go_ret
    refine ⟨?_, Below.refl _ _⟩
    have e : xs ≠ ys := fun e => hn (by rw [← l1, ← l2, e])
    simp [e]
def uptoB (xs : List UInt8) (k n : Nat) : List UInt8 := xs.take k ++ List.replicate (n - k) 0
theorem uptoB_step {xs : List UInt8} {k n : Nat} {x : UInt8} (hx : xs.length = n) (h : xs[k]? = some x) : (byteCells (uptoB xs k n)).set k (.int .u8 (x.toNat : Int)) = byteCells (uptoB xs (k + 1) n) := by
  have hk : k < xs.length := (List.getElem?_eq_some_iff.1 h).1
  unfold byteCells
  rw [show Value.int IntKind.u8 (x.toNat : Int) = (fun b : UInt8 => Value.int IntKind.u8 (b.toNat : Int)) x from rfl, ← List.map_set]
  congr 1
  unfold uptoB
  have hl : (xs.take k).length = k := by rw [List.length_take]; omega
  rw [List.set_append_right _ _ (by omega), hl, Nat.sub_self, show n - k = (n - (k + 1)) + 1 by omega, List.replicate_succ, List.set_cons_zero,
    List.take_succ_eq_append_getElem hk, (List.getElem?_eq_some_iff.1 h).2, List.append_assoc]
  rfl
theorem uptoB_end {xs : List UInt8} {n : Nat} (hx : xs.length = n) : uptoB xs n n = xs := by
  unfold uptoB
  rw [List.take_of_length_le (by omega)]; simp
theorem toByteS_any (a : Option Addr) (n c : Nat) (xs : List UInt8) (w : World) (h : BysAt w a n xs) :
    Calls Tryd.prog 6 #[.slice a n c] w fun e w' => e = .returned (.slice (some ⟨w.heap.size, 0, none⟩) n n) ∧ w'.ownsRow w.heap.size 5 1 (.slice (some ⟨w.heap.size, 0, none⟩) n n) n (byteCells xs) ∧ Below w.heap.size w w' := by
  have HH : Hid (BysAt w a n xs) := h
  obtain ⟨l1, b1, _⟩ := h
  have L1 : Hid (xs.length = n) := l1
  clear l1
  obtain ⟨i0, hi, hz0, hz1, hz2⟩ := info_parts infoByte
  go_enter Tryd.func6, Tryd.ntmps6
  go_wp2_with (at_make; refine wpList_make_full _ rfl _ _ 22 rfl w.heap.size 5 i0 (.int .u8 0) 1 Tryd.underlying22 hi hz0 hz1 .i64 .i64 _ _ n rfl rfl rfl rfl (by rw [hz2]; omega) (by unfold maxLen; omega) (Nat.le_refl _) ?_; intro w1 own1 grow1)
  have own0 : w1.ownsRow w.heap.size 5 1 (.slice (some ⟨w.heap.size, 0, none⟩) n n) n (byteCells (uptoB xs 0 n)) := by
    have e : (madeCells (Value.int .u8 0).cells (n * 1)).toList = byteCells (uptoB xs 0 n) := by
      rw [Nat.mul_one]
      exact (toList_madeCells_one _ _).trans (by simp [uptoB, byteCells])
    rwa [e] at own1
  have hb1 : Below w.heap.size w w1 := (Below.refl _ _).grown grow1 (Nat.le_refl _) (fun k e => by cases e)
  clear own1 grow1
  go_loopw [4] (fun i wr => ∃ k : Nat, k ≤ n ∧ i = .int .i64 (k : Int) ∧ wr.ownsRow w.heap.size 5 1 (.slice (some ⟨w.heap.size, 0, none⟩) n n) n (byteCells (uptoB xs k n)) ∧ Below w.heap.size w wr) (fun i _ => n - (intOf i).toNat)
  case atStart => exact ⟨0, Nat.zero_le _, rfl, own0, hb1⟩
  case round =>
    obtain ⟨k, hk, rfl, ho, hb⟩ := hrel
    clear own0 hb1
    by_cases hlt : k < n
    · rcases (HH.out.below hb (Nat.le_refl _)).2.2 with h0 | ⟨p1, o1, rfl, g1⟩
      · omega
      obtain ⟨x, hx⟩ : ∃ x, xs[k]? = some x := ⟨_, List.getElem?_eq_getElem (by have := L1.out; omega)⟩
      have e1 := g1 k x hx
      have hst := ho.stored k (.int .u8 (x.toNat : Int))
      rw [uptoB_step L1.out hx] at hst
      have HS : Hid ((wr.setCell ⟨w.heap.size, k, none⟩ (.int .u8 (x.toNat : Int))).ownsRow w.heap.size 5 1 (.slice (some ⟨w.heap.size, 0, none⟩) n n) n (byteCells (uptoB xs (k + 1) n))) := hst.1
      have hf := ho.frozenAt k
      obtain ⟨u, hc⟩ := own_cell ho hlt
      clear g1 hx hst ho
      go_wp2
      go_roundw
      case rel => exact ⟨k + 1, by omega, by go_num, HS.out, hb.setCell (Nat.le_refl _) _⟩
      case measure => simp [intOf]; omega
    · obtain rfl : k = n := by omega
      rw [uptoB_end L1.out] at ho
      go_wp2
      go_ret
      exact ⟨rfl, ho, hb⟩
end
section
open Go.ChangeShapes Go.WideShapes Go.ChangeAt Go.RowKit Go.Joins
open Go.Lib (byteCells byteCells_length byteCells_append)

theorem own_far {w w' : World} {base : Nat} {e : TypeId} {size n : Nat} {v : Value} {xs : List Value} {blk : Option Nat} (h : w.ownsRow base e size v n xs) (hg : w.grownBy w' blk) (hne : ∀ k, v.ownBlock = some k → ¬ some k = blk) : w'.ownsRow base e size v n xs :=
  owns_heap h fun k hk => hg.block k (by
    rcases h.2 with ⟨rfl, _⟩ | ⟨g, cap, cur, rfl, _, hh, _⟩
    · cases hk
    · cases hk; exact (Array.getElem?_eq_some_iff.1 hh).1) (hne k hk)
theorem own_lt {w : World} {base : Nat} {e : TypeId} {size n : Nat} {v : Value} {xs : List Value} (h : w.ownsRow base e size v n xs) : ∀ k, v.ownBlock = some k → k < w.heap.size := by
  intro k hk
  rcases h.2 with ⟨rfl, _⟩ | ⟨g, cap, cur, rfl, _, hh, _⟩
  · cases hk
  · cases hk; exact (Array.getElem?_eq_some_iff.1 hh).1
theorem bown_bys {w : World} {base : Nat} {v : Value} {l : List UInt8} (h : BOwn w base v l) (hn : l.length ≤ 2097152) : ∃ a c, v = .slice a l.length c ∧ l.length ≤ c ∧ BysAt w a l.length l := by
  rcases h.2 with ⟨rfl, h0⟩ | ⟨g, cap, cur, rfl, _, _, hc, _⟩
  · exact ⟨none, 0, by rw [h0], by omega, rfl, hn, .inl h0⟩
  · refine ⟨_, cap, rfl, hc, rfl, hn, .inr ⟨g, 0, rfl, fun i x hi => ?_⟩⟩
    rw [Nat.zero_add]
    exact bown_cell h hi
theorem markByteS_at (base : Nat) (l : List UInt8) (v : Value) (w : World) (hn : l.length ≤ 2097152) (h : BOwn w base v l) :
    Calls Tryd.prog 10 #[v, .int .i64 1] w fun e w' => e = .returned (.int .i64 ((l.length : Int) + 1)) ∧ BOwn w' base v (marksB l.length) ∧ w.grownBy w' v.ownBlock := by
  rcases owns_forms h with ⟨rfl, h0⟩ | ⟨g, cap, rfl⟩
  · have hl : l = [] := List.length_eq_zero_iff.1 h0
    subst hl
    refine (markByteS_none 0 w).mono ?_
    rintro e w' ⟨rfl, rfl⟩
    exact ⟨rfl, h, far_below (Below.refl _ _) _⟩
  · refine (markByteS_own base g l.length cap l w rfl hn h).mono ?_
    rintro e w' ⟨rfl, h1, h2⟩
    refine ⟨rfl, ?_, far_only h2⟩
    unfold BOwn
    rw [marksB_len]
    exact h1
open Go.Lib (byteCells byteCells_length byteCells_append)

theorem markVOwn_at (base : Nat) (L : List Va3) (v : Value) (w : World) (hn : L.length ≤ 2097152) (h : VOwn w base v L) :
    Calls Tryd.prog 11 #[v, .int .i64 1] w fun e w' => e = .returned (.int .i64 ((L.length : Int) * 3 + 1)) ∧ VOwn w' base v (marksV L.length) ∧ w.grownBy w' v.ownBlock := by
  rcases owns_forms h with ⟨rfl, h0⟩ | ⟨g, cap, rfl⟩
  · have hl : L = [] := List.length_eq_zero_iff.1 h0
    subst hl
    refine (markValueS_none 0 w).mono ?_
    rintro e w' ⟨rfl, rfl⟩
    exact ⟨rfl, h, far_below (Below.refl _ _) _⟩
  · refine (markValueS_own base g L.length cap L w rfl hn h).mono ?_
    rintro e w' ⟨rfl, h1, h2⟩
    refine ⟨rfl, ?_, h2⟩
    unfold VOwn
    rw [marksV_len]
    exact h1
set_option linter.unusedSimpArgs false

theorem dEqValue (vs us : List Value) (cs : List Cel) (w : World) (h : AtL false w vs cs) (h' : AtL false w us cs) (hs : HasL cs tyValue) : Calls Tryd.prog 22 #[.agg vs.toArray, .agg us.toArray] w (Yes w) := by
  obtain ⟨c0, r0, rfl, T0, hH0⟩ := hs.cons
  obtain ⟨c1, r1, rfl, T1, hH1⟩ := hH0.cons
  obtain ⟨c2, r2, rfl, T2, hH2⟩ := hH1.cons
  obtain rfl := hH2.nil
  obtain ⟨v0, vr0, rfl, A0, hA0⟩ := h.consE
  obtain ⟨v1, vr1, rfl, A1, hA1⟩ := hA0.consE
  obtain ⟨v2, vr2, rfl, A2, hA2⟩ := hA1.consE
  obtain rfl := hA2.nilE
  obtain ⟨u0, ur0, rfl, B0, hB0⟩ := h'.consE
  obtain ⟨u1, ur1, rfl, B1, hB1⟩ := hB0.consE
  obtain ⟨u2, ur2, rfl, B2, hB2⟩ := hB1.consE
  obtain rfl := hB2.nilE
  obtain ⟨x0, rfl⟩ := T0.int
  obtain rfl := A0.int
  obtain rfl := B0.int
  have ne0 : (x0 != x0) = false := by simp
  obtain ⟨x1, rfl⟩ := T1.int
  obtain rfl := A1.int
  obtain rfl := B1.int
  have ne1 : (x1 != x1) = false := by simp
  obtain ⟨x2, rfl⟩ := T2.str
  obtain rfl := A2.str
  obtain rfl := B2.str
  clear hs h h' hA0 hB0 hH0 T0 A0 B0 hA1 hB1 hH1 T1 A1 B1 hA2 hB2 hH2 T2 A2 B2
  obtain ⟨W, hW⟩ : ∃ W, (w.alloc (.cells #[.int .i64 x0, .int .i64 x1, .string x2] 38)).alloc (.cells #[.int .i64 x0, .int .i64 x1, .string x2] 38) = W := ⟨_, rfl⟩
  have t0 : Hid (Two w W #[.int .i64 x0, .int .i64 x1, .string x2] #[.int .i64 x0, .int .i64 x1, .string x2] 38) := by rw [← hW]; exact two_new w _ _ _
  have HW : Hid _ := hW
  clear hW
  go_enter Tryd.func22, Tryd.ntmps22
  go_upto_region 1 with (fail)
  rw [HW.out]
  have ax0 : W.cell? ⟨w.heap.size, 0, none⟩ = some (.int .i64 x0) := t0.out.a.cell 0
  have bx0 : W.cell? ⟨w.heap.size + 1, 0, none⟩ = some (.int .i64 x0) := t0.out.b.cell 0
  have ax1 : W.cell? ⟨w.heap.size, 1, none⟩ = some (.int .i64 x1) := t0.out.a.cell 1
  have bx1 : W.cell? ⟨w.heap.size + 1, 1, none⟩ = some (.int .i64 x1) := t0.out.b.cell 1
  have ax2 : W.cell? ⟨w.heap.size, 2, none⟩ = some (.string x2) := t0.out.a.cell 2
  have bx2 : W.cell? ⟨w.heap.size + 1, 2, none⟩ = some (.string x2) := t0.out.b.cell 2
  go_wp2
  go_ret
  exact ⟨rfl, t0.out.on⟩
theorem dEqValueS (v u : Value) (n : Nat) (cs : List Cel) (w : World) (h : At false w v (.l 38 3 n cs)) (h' : At false w u (.l 38 3 n cs)) (hs : Has (.l 38 3 n cs) (.l 38 3 tyValue)) :
    Calls Tryd.prog 8 #[v, u] w (Yes w) := by
  obtain ⟨a, c, vs, rfl, h1, h2, hn, -, h3, h4⟩ := h.openL
  have SRC : Hid (n = 0 ∨ ∃ b o, a = some ⟨b, o, none⟩ ∧ ∀ j, j < n * 3 → w.cell? ⟨b, o + j, none⟩ = vs[j]?) := h3
  have HV : Hid (∀ j, j < n → AtL false w ((vs.drop (j * 3)).take 3) (row cs 3 j)) := fun j hj => rowVals h1 h2 h4 hj
  have Lvs : Hid (vs.length = n * 3) := h1
  clear h1 h2 h3 h4 hn
  obtain ⟨a', c', us, rfl, h1, h2, hn, -, h3, h4⟩ := h'.openL
  have SRD : Hid (n = 0 ∨ ∃ b o, a' = some ⟨b, o, none⟩ ∧ ∀ j, j < n * 3 → w.cell? ⟨b, o + j, none⟩ = us[j]?) := h3
  have HU : Hid (∀ j, j < n → AtL false w ((us.drop (j * 3)).take 3) (row cs 3 j)) := fun j hj => rowVals h1 h2 h4 hj
  have Lus : Hid (us.length = n * 3) := h1
  clear h1 h2 h3 h4 
  have HR : Hid (∀ j, j < n → HasL (row cs 3 j) tyValue) := fun j hj => hs.rowL hj
  clear h h' hs
  go_enter Tryd.func8, Tryd.ntmps8
  go_wp2
  go_loopw [5] (fun i wr => ∃ j : Nat, j ≤ n ∧ i = .int .i64 j ∧ Below w.heap.size w wr) (fun i _ => n - (intOf i).toNat)
  case atStart => exact ⟨0, Nat.zero_le _, rfl, Below.refl _ _⟩
  case round =>
    obtain ⟨j, hj, rfl, hb⟩ := hrel
    by_cases hlt : j < n
    · have hk0 : (0 : Int) ≤ (j : Int) := by omega
      have hk1 : (j : Int) < (n : Int) := by omega
      have hle : j * 3 + 3 ≤ n * 3 := by omega
      have hH := HR.out j hlt
      obtain ⟨rs, hrs⟩ : ∃ rs, row cs 3 j = rs := ⟨_, rfl⟩
      rw [hrs] at hH
      rcases SRC.out with h0 | ⟨p1, o1, rfl, g1⟩
      · omega
      have hA := HV.out j hlt
      have ce : ∀ i, i < 3 → wr.cell? ⟨p1, o1 + (j * 3 + i), none⟩ = ((vs.drop (j * 3)).take 3)[i]? := fun i hi => by
        have h5 := g1 (j * 3 + i) (by omega)
        rw [List.getElem?_take_of_lt hi, List.getElem?_drop, ← h5]
        have h6 : w.cell? ⟨p1, o1 + (j * 3 + i), none⟩ = some (vs[j * 3 + i]'(by have := Lvs.out; omega)) := by rw [h5, List.getElem?_eq_getElem (by have := Lvs.out; omega)]
        exact hb.cell (show p1 < w.heap.size from World.block_lt_of_cell? w _ h6)
      obtain ⟨ws, hws⟩ : ∃ ws, (vs.drop (j * 3)).take 3 = ws := ⟨_, rfl⟩
      rw [hrs] at hA
      rw [hws] at hA ce
      clear g1 hws
      rcases SRD.out with h0 | ⟨p2, o2, rfl, g2⟩
      · omega
      have hB := HU.out j hlt
      have cf : ∀ i, i < 3 → wr.cell? ⟨p2, o2 + (j * 3 + i), none⟩ = ((us.drop (j * 3)).take 3)[i]? := fun i hi => by
        have h5 := g2 (j * 3 + i) (by omega)
        rw [List.getElem?_take_of_lt hi, List.getElem?_drop, ← h5]
        have h6 : w.cell? ⟨p2, o2 + (j * 3 + i), none⟩ = some (us[j * 3 + i]'(by have := Lus.out; omega)) := by rw [h5, List.getElem?_eq_getElem (by have := Lus.out; omega)]
        exact hb.cell (show p2 < w.heap.size from World.block_lt_of_cell? w _ h6)
      obtain ⟨ws', hws⟩ : ∃ ws, (us.drop (j * 3)).take 3 = ws := ⟨_, rfl⟩
      rw [hrs] at hB
      rw [hws] at hB cf
      clear g2 hws
      obtain ⟨c0, r0, rfl, T0, hH0⟩ := hH.cons
      obtain ⟨c1, r1, rfl, T1, hH1⟩ := hH0.cons
      obtain ⟨c2, r2, rfl, T2, hH2⟩ := hH1.cons
      obtain rfl := hH2.nil
      have HL0 : Hid (HasL [c0, c1, c2] tyValue) := hH
      obtain ⟨v0, vr0, rfl, A0, hA0⟩ := hA.consE
      obtain ⟨v1, vr1, rfl, A1, hA1⟩ := hA0.consE
      obtain ⟨v2, vr2, rfl, A2, hA2⟩ := hA1.consE
      obtain rfl := hA2.nilE
      obtain ⟨u0, ur0, rfl, B0, hB0⟩ := hB.consE
      obtain ⟨u1, ur1, rfl, B1, hB1⟩ := hB0.consE
      obtain ⟨u2, ur2, rfl, B2, hB2⟩ := hB1.consE
      obtain rfl := hB2.nilE
      have HA0 : Hid (AtL false w [v0, v1, v2] [c0, c1, c2]) := hA
      have HB0 : Hid (AtL false w [u0, u1, u2] [c0, c1, c2]) := hB
      have e0 : wr.cell? ⟨p1, o1 + j * 3, none⟩ = some v0 := ce 0 (by omega)
      have f0 : wr.cell? ⟨p2, o2 + j * 3, none⟩ = some u0 := cf 0 (by omega)
      have e1 : wr.cell? ⟨p1, o1 + j * 3 + 1, none⟩ = some v1 := ce 1 (by omega)
      have f1 : wr.cell? ⟨p2, o2 + j * 3 + 1, none⟩ = some u1 := cf 1 (by omega)
      have e2 : wr.cell? ⟨p1, o1 + j * 3 + 2, none⟩ = some v2 := ce 2 (by omega)
      have f2 : wr.cell? ⟨p2, o2 + j * 3 + 2, none⟩ = some u2 := cf 2 (by omega)
      clear ce cf hrs hA0 hB0 hH0 hA1 hB1 hH1 hA2 hB2 hH2 T0 A0 B0 T1 A1 B1 T2 A2 B2 hA hB hH
      have q1 : p1 < wr.heap.size := World.block_lt_of_cell? wr _ e0
      have q2 : p2 < wr.heap.size := World.block_lt_of_cell? wr _ f0
      go_wp2_with fail
      go_region_held3 (fun w' => w'.cell? ⟨p1, o1 + j * 3, none⟩ = some v0 ∧ w'.cell? ⟨p1, o1 + j * 3 + 1, none⟩ = some v1 ∧ w'.cell? ⟨p1, o1 + j * 3 + 2, none⟩ = some v2 ∧ w'.cell? ⟨p2, o2 + j * 3, none⟩ = some u0 ∧ w'.cell? ⟨p2, o2 + j * 3 + 1, none⟩ = some u1 ∧ w'.cell? ⟨p2, o2 + j * 3 + 2, none⟩ = some u2)
        (first | (with_reducible exact K2.out) | go_keep)
        (first
        | (go_at_call 22
           refine (dEqValue [v0, v1, v2] [u0, u1, u2] [c0, c1, c2] _ (HA0.out.on (hb.drew) (Nat.le_refl _)) (HB0.out.on (hb.drew) (Nat.le_refl _)) HL0.out).mono ?_
           rintro e w2 ⟨rfl, hb2⟩
           have hb2' : Below wr.heap.size wr w2 := (Below.refl _ wr).drew.trans hb2
           have K2 : Hid (w2.cell? ⟨p1, o1 + j * 3, none⟩ = some v0 ∧ w2.cell? ⟨p1, o1 + j * 3 + 1, none⟩ = some v1 ∧ w2.cell? ⟨p1, o1 + j * 3 + 2, none⟩ = some v2 ∧ w2.cell? ⟨p2, o2 + j * 3, none⟩ = some u0 ∧ w2.cell? ⟨p2, o2 + j * 3 + 1, none⟩ = some u1 ∧ w2.cell? ⟨p2, o2 + j * 3 + 2, none⟩ = some u2) := ⟨(hb2'.cell (show p1 < _ from q1)).trans e0, (hb2'.cell (show p1 < _ from q1)).trans e1, (hb2'.cell (show p1 < _ from q1)).trans e2, (hb2'.cell (show p2 < _ from q2)).trans f0, (hb2'.cell (show p2 < _ from q2)).trans f1, (hb2'.cell (show p2 < _ from q2)).trans f2⟩
           have hb02 : Below w.heap.size w w2 := hb.trans (hb2'.mono hb.size)
           clear hb2 hb2'))
      clear e0 f0 e1 f1 e2 f2 K2
      go_wp2
      exact ⟨⟨j + 1, by omega, by go_num, hb02⟩, by simp [intOf]; omega⟩
    · obtain rfl : j = n := by omega
      go_wp2
      go_ret
      exact ⟨rfl, hb⟩
open Go.Lib (byteCells byteCells_length byteCells_append)

noncomputable def okT (b : List UInt8) : Bool := @decide (∃ L, TupIs b L) (Classical.propDecidable _)
noncomputable def lstT (b : List UInt8) : List Va3 := @dite _ (∃ L, TupIs b L) (Classical.propDecidable _) (fun h => Classical.choose h) (fun _ => [])
theorem lstT_is {b : List UInt8} {L : List Va3} (h : TupIs b L) : okT b = true ∧ lstT b = L := by
  have he : ∃ L, TupIs b L := ⟨L, h⟩
  refine ⟨@decide_eq_true _ (Classical.propDecidable _) he, ?_⟩
  unfold lstT
  rw [dif_pos he]
  exact (Classical.choose_spec he).one h
theorem lstT_no {b : List UInt8} (h : ∀ M, ¬ TupIs b M) : okT b = false ∧ lstT b = [] := by
  have he : ¬ ∃ L, TupIs b L := fun ⟨L, hL⟩ => h L hL
  refine ⟨@decide_eq_false _ (Classical.propDecidable _) he, ?_⟩
  unfold lstT
  rw [dif_neg he]
theorem lstT_le (b : List UInt8) : (lstT b).length ≤ 4 := by
  unfold lstT
  split
  · rename_i h
    exact (Classical.choose_spec h).1.2
  · decide
def TupAns (b : List UInt8) (w : World) (e : Ending) (w' : World) : Prop := ∃ v ok L, e = .returned (.tuple #[v, .bool ok]) ∧ VOwn w' w.heap.size v L ∧ ((ok = true ∧ TupIs b L) ∨ (ok = false ∧ L = [] ∧ ∀ M, ¬ TupIs b M))
theorem TupAns.one {b : List UInt8} {w w' : World} {e : Ending} (h : TupAns b w e w') : ∃ v, e = .returned (.tuple #[v, .bool (okT b)]) ∧ VOwn w' w.heap.size v (lstT b) := by
  obtain ⟨v, ok, L, rfl, ho, ⟨rfl, hL⟩ | ⟨rfl, rfl, hn⟩⟩ := h
  · obtain ⟨h1, h2⟩ := lstT_is hL
    rw [h1, h2]
    exact ⟨v, rfl, ho⟩
  · obtain ⟨h1, h2⟩ := lstT_no hn
    rw [h1, h2]
    exact ⟨v, rfl, ho⟩
open Go.Lib (byteCells byteCells_length byteCells_append)

def celsV : List Va3 → List Cel
  | [] => []
  | x :: L => .i x.1 :: .i x.2.1 :: .s x.2.2 :: celsV L
theorem celsV_length : ∀ L : List Va3, (celsV L).length = L.length * 3
  | [] => rfl
  | x :: L => by rw [celsV]; simp [celsV_length L]; omega
theorem atL_vas {w : World} : ∀ L : List Va3, AtL false w (vaC L) (celsV L)
  | [] => AtL.nil
  | x :: L => .cons (.i x.1) (.cons (.i x.2.1) (.cons (.s x.2.2) (atL_vas L)))
theorem celsV_at : ∀ {L : List Va3} {j : Nat} {c : Cel} {t : Ty}, (celsV L)[j]? = some c → (tyValue)[j % 3]? = some t → Has c t
  | [], _, _, _, h, _ => by simp [celsV] at h
  | x :: L, 0, c, t, h, h' => by
    simp [celsV] at h
    simp [tyValue] at h'
    subst h h'
    exact .i _
  | x :: L, 1, c, t, h, h' => by
    simp [celsV] at h
    simp [tyValue] at h'
    subst h h'
    exact .i _
  | x :: L, 2, c, t, h, h' => by
    simp [celsV] at h
    simp [tyValue] at h'
    subst h h'
    exact .s _
  | x :: L, j + 3, c, t, h, h' => by
    rw [show (j + 3) % 3 = j % 3 by omega] at h'
    exact celsV_at (L := L) (j := j) (by simpa [celsV] using h) h'
theorem has_vas (L : List Va3) (n : Nat) (hn : L.length = n) : Has (.l 38 3 n (celsV L)) (.l 38 3 tyValue) :=
  .l _ _ _ _ _ rfl (by rw [celsV_length, hn]) fun _ _ _ => celsV_at
theorem at_vas {w : World} {a : Option Addr} {n c : Nat} {L : List Va3} (h : VasAt w a n L) : At false w (.slice a n c) (.l 38 3 n (celsV L)) := by
  have hL := atL_vas (w := w) L
  refine .l a 38 3 n c (celsV L) (vaC L) (by rw [vaC_length, h.1]) (by rw [celsV_length, h.1]) h.2.1 (fun e => by cases e) ?_ hL.2
  rcases h.2.2 with h0 | ⟨b, o, rfl, hc⟩
  · exact .inl h0
  · refine .inr ⟨b, o, rfl, fun j hj => ?_⟩
    obtain ⟨i, r, hr, rfl⟩ : ∃ i r, r < 3 ∧ j = i * 3 + r := ⟨j / 3, j % 3, Nat.mod_lt _ (by decide), by omega⟩
    have hi : i < n := by omega
    obtain ⟨x, hx⟩ : ∃ x, L[i]? = some x := ⟨_, List.getElem?_eq_getElem (by have := h.1; omega)⟩
    obtain ⟨e0, e1, e2⟩ := hc i x hx
    obtain ⟨a0, a1, a2⟩ := vaC_at hx
    match r, hr with
    | 0, _ => exact e0.trans a0.symm
    | 1, _ => exact e1.trans a1.symm
    | 2, _ => exact e2.trans a2.symm
theorem eqValueS_vas (a b : Option Addr) (n c d : Nat) (L : List Va3) (w : World) (h : VasAt w a n L) (h' : VasAt w b n L) :
    Calls Tryd.prog 8 #[.slice a n c, .slice b n d] w fun e w' => e = .returned (.bool true) ∧ Below w.heap.size w w' :=
  dEqValueS _ _ n (celsV L) w (at_vas h) (at_vas h') (has_vas L n h.1)
theorem bys_of {w : World} {p : Nat} {a : Option Addr} {n : Nat} (h : BytesAt w p a n) (hn : n ≤ 2097152) : ∃ l, BysAt w a n l := by
  rcases h with h0 | ⟨b, o, rfl, _, hc⟩
  · subst h0
    exact ⟨[], rfl, hn, .inl rfl⟩
  · refine ⟨(List.range n).map fun j => match w.cell? ⟨b, o + j, none⟩ with | some (.int .u8 z) => UInt8.ofNat z.toNat | _ => 0, by simp, hn, .inr ⟨b, o, rfl, fun i x hi => ?_⟩⟩
    have hin : i < n := by have := (List.getElem?_eq_some_iff.1 hi).1; simpa using this
    obtain ⟨z, hz, hcell⟩ := hc i hin
    simp [hin, hcell] at hi
    rw [hcell, ← hi]
    have e : (UInt8.ofNat z).toNat = z := u8_nat (by omega)
    rw [e]
end
section
open Go.ChangeShapes Go.WideShapes Go.ChangeAt Go.RowKit
open Go.Lib (byteCells byteCells_length byteCells_append)

theorem beN_at : ∀ (k m j : Nat), j < k → (beN k m)[j]? = some (UInt8.ofNat (m / 256 ^ (k - 1 - j) % 256))
  | k + 1, m, j, h => by
    rw [beN]
    by_cases hj : j < k
    · rw [List.getElem?_append_left (by rw [beN_length]; exact hj), beN_at k _ j hj, Nat.div_div_eq_div_mul, ← Nat.pow_succ', show (k - 1 - j).succ = k + 1 - 1 - j by omega]
    · have e : j = k := by omega
      subst e
      rw [List.getElem?_append_right (by rw [beN_length]; exact Nat.le_refl _), beN_length, Nat.sub_self, show j + 1 - 1 - j = 0 by omega, Nat.pow_zero, Nat.div_one]
      rfl
theorem beN_succ {k m j : Nat} (h : j < k) : (beN k m).take (j + 1) = (beN k m).take j ++ [UInt8.ofNat (m / 256 ^ (k - 1 - j) % 256)] := by
  have h1 := beN_at k m j h
  have hl : j < (beN k m).length := (List.getElem?_eq_some_iff.1 h1).1
  rw [List.take_succ_eq_append_getElem hl, (List.getElem?_eq_some_iff.1 h1).2]
theorem escB_append (a b : List UInt8) : escB (a ++ b) = escB a ++ escB b := by
  induction a with
  | nil => rfl
  | cons x a ih =>
    show escB (x :: (a ++ b)) = _
    rw [escB, escB, ih]
    split <;> rfl
theorem escB_succ {l : List UInt8} {j : Nat} {b : UInt8} (h : l[j]? = some b) : escB (l.take (j + 1)) = escB (l.take j) ++ (if b = 0 then [0, 255] else [b]) := by
  have hl : j < l.length := (List.getElem?_eq_some_iff.1 h).1
  rw [List.take_succ_eq_append_getElem hl, escB_append, (List.getElem?_eq_some_iff.1 h).2, escB, escB]
theorem shift_byte {m : Nat} {j : Nat} (h : j < 8) : (m : Int) / 2 ^ (56 - 8 * (j : Int)).toNat % 256 = ((m / 256 ^ (8 - 1 - j) % 256 : Nat) : Int) := by
  have e : (2 : Int) ^ (56 - 8 * (j : Int)).toNat = ((256 ^ (8 - 1 - j) : Nat) : Int) := by
    match j, h with
    | 0, _ => rfl
    | 1, _ => rfl
    | 2, _ => rfl
    | 3, _ => rfl
    | 4, _ => rfl
    | 5, _ => rfl
    | 6, _ => rfl
    | 7, _ => rfl
  rw [e, ← Int.natCast_ediv]
  show _ = ((_ : Nat) : Int)
  rw [Int.natCast_emod]
  rfl
theorem head_eq {l : List UInt8} {i : Nat} {c d : UInt8} {t u : List UInt8} (h : l[i]? = some c) (hd : l.drop i = (d :: t) ++ u) : c = d ∧ l.drop (i + 1) = t ++ u := by
  rw [dropB h] at hd
  simpa using hd
theorem rd_null {l : List UInt8} {i : Nat} (h : l[i]? = some 1) : RdSays l i (0, 0, ⟨#[]⟩) (i + 1) := by
  refine ⟨Nat.lt_succ_self _, ?_⟩
  rintro ⟨k, n, s⟩ r hy hd
  dsimp only at hy
  rcases hy with ⟨rfl, rfl, h2⟩ | ⟨rfl, h1, h2⟩ | ⟨rfl, h1, h2⟩ | ⟨rfl, rfl, h2⟩
  · rw [str_nil h2]
    exact ⟨rfl, rfl⟩
  · exact absurd (head_eq (t := [UInt8.ofNat n.toNat]) h hd).1 (by decide)
  · exact absurd (head_eq (t := beN 8 (n + 4611686018427387904).toNat) h hd).1 (by decide)
  · exact absurd (head_eq (t := escB s.data.toList ++ [0, 1]) h hd).1 (by decide)
theorem rd_flag {l : List UInt8} {i : Nat} {b : UInt8} (h : l[i]? = some 2) (h1 : l[i + 1]? = some b) : RdSays l i (1, (b.toNat : Int), ⟨#[]⟩) (i + 2) := by
  refine ⟨by omega, ?_⟩
  rintro ⟨k, n, s⟩ r hy hd
  dsimp only at hy
  rcases hy with ⟨rfl, rfl, h2⟩ | ⟨rfl, h3, h2⟩ | ⟨rfl, h3, h2⟩ | ⟨rfl, rfl, h2⟩
  · exact absurd (head_eq (t := []) h hd).1 (by decide)
  · have h4 := (head_eq (t := [UInt8.ofNat n.toNat]) h hd).2
    have h5 := (head_eq (t := []) h1 h4).1
    rw [str_nil h2, h5]
    have e : ((UInt8.ofNat n.toNat).toNat : Int) = n := by rw [u8_nat (by omega)]; omega
    rw [e]
    exact ⟨rfl, rfl⟩
  · exact absurd (head_eq (t := beN 8 (n + 4611686018427387904).toNat) h hd).1 (by decide)
  · exact absurd (head_eq (t := escB s.data.toList ++ [0, 1]) h hd).1 (by decide)
theorem rd_flag0 {l : List UInt8} {i : Nat} (h : l[i]? = some 2) (h1 : ¬ i + 1 < l.length) (m : Int) : RdSays l i (1, m, ⟨#[]⟩) (i + 2) := by
  refine ⟨by omega, ?_⟩
  rintro ⟨k, n, s⟩ r hy hd
  dsimp only at hy
  rcases hy with ⟨rfl, rfl, h2⟩ | ⟨rfl, h3, h2⟩ | ⟨rfl, h3, h2⟩ | ⟨rfl, rfl, h2⟩
  · exact absurd (head_eq (t := []) h hd).1 (by decide)
  · have h4 := congrArg List.length (head_eq (t := [UInt8.ofNat n.toNat]) h hd).2
    rw [List.length_drop, List.length_append, List.length_singleton] at h4
    omega
  · exact absurd (head_eq (t := beN 8 (n + 4611686018427387904).toNat) h hd).1 (by decide)
  · exact absurd (head_eq (t := escB s.data.toList ++ [0, 1]) h hd).1 (by decide)
theorem rd_int {l : List UInt8} {i : Nat} {N : Int} (h : l[i]? = some 3) (hN : ∀ m : Nat, m < 9223372036854775808 → (l.drop (i + 1)).take 8 = beN 8 m → N = (m : Int) - 4611686018427387904) : RdSays l i (2, N, ⟨#[]⟩) (i + 9) := by
  refine ⟨by omega, ?_⟩
  rintro ⟨k, n, s⟩ r hy hd
  dsimp only at hy
  rcases hy with ⟨rfl, rfl, h2⟩ | ⟨rfl, h3, h2⟩ | ⟨rfl, h3, h2⟩ | ⟨rfl, rfl, h2⟩
  · exact absurd (head_eq (t := []) h hd).1 (by decide)
  · exact absurd (head_eq (t := [UInt8.ofNat n.toNat]) h hd).1 (by decide)
  · have h4 := (head_eq (t := beN 8 (n + 4611686018427387904).toNat) h hd).2
    have h5 := hN (n + 4611686018427387904).toNat (by omega) (by rw [h4, List.take_left' (beN_length _ _)])
    rw [str_nil h2]
    refine ⟨?_, ?_⟩
    · have e : N = n := by omega
      rw [e]
    · show _ = i + (3 :: beN 8 _).length
      rw [List.length_cons, beN_length]
  · exact absurd (head_eq (t := escB s.data.toList ++ [0, 1]) h hd).1 (by decide)
theorem rd_text {l : List UInt8} {i next : Nat} {s' : ByteArray} (h : l[i]? = some 4) (hlt : i + 1 < next) (hs : ∀ t r, rdT (l.drop (i + 1)) = some (t, r) → s'.data.toList = t ∧ next + r.length = l.length) : RdSays l i (3, 0, s') next := by
  refine ⟨by omega, ?_⟩
  rintro ⟨k, n, s⟩ r hy hd
  dsimp only at hy
  rcases hy with ⟨rfl, rfl, h2⟩ | ⟨rfl, h3, h2⟩ | ⟨rfl, h3, h2⟩ | ⟨rfl, rfl, h2⟩
  · exact absurd (head_eq (t := []) h hd).1 (by decide)
  · exact absurd (head_eq (t := [UInt8.ofNat n.toNat]) h hd).1 (by decide)
  · exact absurd (head_eq (t := beN 8 (n + 4611686018427387904).toNat) h hd).1 (by decide)
  · have h4 := (head_eq (t := escB s.data.toList ++ [0, 1]) h hd).2
    have e : (escB s.data.toList ++ [0, 1]) ++ r = escB s.data.toList ++ 0 :: 1 :: r := by simp
    obtain ⟨h5, h6⟩ := hs s.data.toList r (by rw [h4, e, rdT_esc])
    rw [str_eq h5]
    refine ⟨rfl, ?_⟩
    have h7 := congrArg List.length h4
    rw [List.length_drop, List.length_append] at h7
    show _ = i + (4 :: (escB s.data.toList ++ [0, 1])).length
    rw [List.length_cons]
    have h8 : i < l.length := (List.getElem?_eq_some_iff.1 h).1
    omega
theorem rd_none {l : List UInt8} {i next : Nat} {c : UInt8} (x : Va3) (h : l[i]? = some c) (hc : ¬ (1 ≤ c.toNat ∧ c.toNat ≤ 4)) (hlt : i < next) : RdSays l i x next := by
  refine ⟨hlt, ?_⟩
  rintro ⟨k, n, s⟩ r hy hd
  dsimp only at hy
  exfalso
  apply hc
  rcases hy with ⟨rfl, rfl, h2⟩ | ⟨rfl, h3, h2⟩ | ⟨rfl, h3, h2⟩ | ⟨rfl, rfl, h2⟩
  · rw [(head_eq (t := []) h hd).1]; decide
  · rw [(head_eq (t := [UInt8.ofNat n.toNat]) h hd).1]; decide
  · rw [(head_eq (t := beN 8 (n + 4611686018427387904).toNat) h hd).1]; decide
  · rw [(head_eq (t := escB s.data.toList ++ [0, 1]) h hd).1]; decide
theorem or_byte {x : Int} {b : Nat} (hx : 0 ≤ x) (hb : b < 256) (hm : x * 256 + b ≤ 9223372036854775807) : bits .or .i64 (x * 256) (b : Int) = x * 256 + b := by
  obtain ⟨n, rfl⟩ := Int.eq_ofNat_of_zero_le hx
  have hn : n * 256 + b < 18446744073709551616 := by omega
  have e : (BitVec.ofInt 64 ((n : Int) * 256) ||| BitVec.ofInt 64 (b : Int)).toNat = n * 256 + b := by
    have e1 : (n : Int) * 256 = ((n * 256 : Nat) : Int) := by omega
    have eA := ofInt_u64 (n * 256) (Nat.lt_of_le_of_lt (Nat.le_add_right _ b) hn)
    have eB := ofInt_u64 b (Nat.lt_of_le_of_lt (Nat.le_add_left _ _) hn)
    rw [e1, BitVec.toNat_or, eA, eB]
    exact nat_join 8 _ _ (by omega) (by omega)
  show IntKind.i64.wrap (((BitVec.ofInt 64 ((n : Int) * 256)) ||| (BitVec.ofInt 64 (b : Int))).toNat : Int) = _
  rw [e, IntKind.wrap_i64]
  omega
def RdN (l : List UInt8) (i j : Nat) (N : Int) : Prop := ∀ m : Nat, m < 9223372036854775808 → (l.drop (i + 1)).take 8 = beN 8 m → N = ((m / 256 ^ (8 - j) : Nat) : Int)
theorem RdN.start (l : List UInt8) (i : Nat) : RdN l i 0 0 := fun m hm _ => by
  have : m / 256 ^ (8 - 0) = 0 := Nat.div_eq_of_lt (by omega)
  rw [this]
  rfl
theorem RdN.next {l : List UInt8} {i j : Nat} {N : Int} {b : UInt8} (h : RdN l i j N) (hj : j < 8) (hb : l[i + 1 + j]? = some b) : RdN l i (j + 1) (bits .or .i64 (wrap64 (N * 256)) (b.toNat : Int)) := by
  intro m hm he
  have h1 := h m hm he
  have h2 : ((l.drop (i + 1)).take 8)[j]? = some b := by
    rw [List.getElem?_take_of_lt hj, List.getElem?_drop, hb]
  rw [he, beN_at 8 m j hj] at h2
  have h3 : b.toNat = m / 256 ^ (8 - 1 - j) % 256 := by
    rw [← Option.some.inj h2, u8_nat (Nat.mod_lt _ (by decide))]
  have h4 : m / 256 ^ (8 - j) = m / 256 ^ (8 - 1 - j) / 256 := by
    rw [Nat.div_div_eq_div_mul, ← Nat.pow_succ, show (8 - 1 - j).succ = 8 - j by omega]
  have h5 : m / 256 ^ (8 - (j + 1)) = m / 256 ^ (8 - 1 - j) := by rw [show 8 - (j + 1) = 8 - 1 - j by omega]
  have h6 : m / 256 ^ (8 - 1 - j) ≤ m := Nat.div_le_self _ _
  rw [h5, h1, h4]
  generalize m / 256 ^ (8 - 1 - j) = q at h3 h6 ⊢
  have h7 : wrap64 (((q / 256 : Nat) : Int) * 256) = ((q / 256 : Nat) : Int) * 256 := by unfold wrap64; omega
  rw [h7, h3, or_byte (by omega) (Nat.mod_lt _ (by decide)) (by omega)]
  omega
theorem RdN.done {l : List UInt8} {i : Nat} {N : Int} (h : RdN l i 8 N) (h0 : l[i]? = some 3) : RdSays l i (2, wrap64 (N - 4611686018427387904), ⟨#[]⟩) (i + 9) := rd_int h0 fun m hm he => by
  have h1 := h m hm he
  rw [h1, show m / 256 ^ (8 - 8) = m by simp]
  unfold wrap64
  omega
theorem RdN.short {l : List UInt8} {i : Nat} (N : Int) (h0 : l[i]? = some 3) (hs : l.length < i + 9) : RdSays l i (2, N, ⟨#[]⟩) (i + 9) := rd_int h0 fun m _ he => by
  have h1 := congrArg List.length he
  rw [beN_length, List.length_take, List.length_drop] at h1
  omega
open Go.Lib (byteCells byteCells_length byteCells_append)

theorem l18Text_any (a : Option Addr) (n c i : Nat) (l : List UInt8) (w : World) (h : BysAt w a n l) (hi : i ≤ n) :
    Calls Tryd.prog 29 #[.slice a n c, .int .i64 (i : Int)] w fun e w' => TxAns l i e ∧ Below w.heap.size w w' := by
  have HL : Hid (BysAt w a n l) := h
  have hl := h.1
  have hn := h.2.1
  obtain ⟨W, hW⟩ : ∃ W, w.alloc (.cells #[] 5) = W := ⟨_, rfl⟩
  obtain ⟨g, hg⟩ : ∃ g, w.heap.size = g := ⟨_, rfl⟩
  have HG : Hid (w.heap.size = g) := hg
  have HO0 : Hid (BOwn W g (.slice (some ⟨g, 0, none⟩) 0 0) []) := by rw [← hW]; exact bown_new w (l := []) hg rfl (Nat.le_refl _) (by decide)
  have HB0 : Hid (Below g w W) := by rw [← hW]; exact (Below.refl _ w).alloc (Nat.le_of_eq hg.symm) _
  have HW : Hid (w.alloc (.cells #[] 5) = W) := hW
  have HS0 : Hid (g ≤ W.heap.size) := by show g ≤ W.heap.size; rw [← hW, World.size_alloc, hg]; exact Nat.le_succ _
  have HI : Hid (i ≤ n) := hi
  clear h hW hg hi
  go_enter Tryd.func29, Tryd.ntmps29
  go_upto_region 2 with (fail)
  rw [HW.out, HG.out]
  go_loopw [1, 6] (fun at_ v wr => ∃ (j : Nat) (o : List UInt8), i ≤ j ∧ j ≤ n ∧ at_ = .int .i64 (j : Int) ∧ BOwn wr g v o ∧ RdT l i j o ∧ Below g w wr ∧ g ≤ wr.heap.size) (fun at_ _ _ => n - (RowKit.intOf at_).toNat)
  case atStart => exact ⟨i, [], Nat.le_refl _, HI.out, rfl, HO0.out, RdT.start l i, HB0.out, HS0.out⟩
  case round =>
    obtain ⟨j, o, hij, hjn, rfl, ho, hr, hb, hz⟩ := hrel
    have HO : Hid (BOwn wr g u6 o) := ho
    have HR : Hid (RdT l i j o) := hr
    have HBW : Hid (Below g w wr) := hb
    have HSZ : Hid (g ≤ wr.heap.size) := hz
    have HLW : Hid (BysAt wr a n l) := HL.out.below hb (Nat.le_of_eq HG.out)
    have HLEN : Hid (o.length ≤ 2097152) := by show _ ≤ _; have := hr.1; omega
    have hk0 : (0 : Int) ≤ (j : Int) := by omega
    have hk2 : (j : Int) ≤ 2097152 := by omega
    clear ho hr hb hz
    by_cases hlt : j + 1 < n
    · have hk1 : (j : Int) + 1 < (n : Int) := by omega
      have hk3 : (j : Int) < (n : Int) := by omega
      rcases HLW.out.2.2 with h0 | ⟨p1, o1, rfl, g1⟩
      · omega
      obtain ⟨x, hx⟩ : ∃ x, l[j]? = some x := ⟨_, List.getElem?_eq_getElem (by omega)⟩
      obtain ⟨y, hy⟩ : ∃ y, l[j + 1]? = some y := ⟨_, List.getElem?_eq_getElem (by omega)⟩
      have e0 := g1 j x hx
      have e1 := g1 (j + 1) y hy
      have HLT : Hid (p1 < wr.heap.size) := World.block_lt_of_cell? wr _ e0
      have e1' : wr.cell? ⟨p1, o1 + j + 1, none⟩ = some (.int .u8 (y.toNat : Int)) := by rw [Nat.add_assoc]; exact e1
      clear g1
      by_cases hx0 : x = 0
      · by_cases hy1 : y = 1
        · subst hx0 hy1
          have HD := HR.out.done hx hy
          have HDD : Hid (rdT (l.drop i) = some (o, l.drop (j + 2))) := HD
          have hcv := bown_text HO.out
          clear HD hx hy
          go_wp2
          go_ret2
          refine ⟨⟨⟨o.toArray⟩, j + 2, ?_, by omega, by omega, ?_, ?_⟩, HG.out ▸ HBW.out⟩
          · have e : (j : Int) + 2 = ((j + 2 : Nat) : Int) := by omega
            rw [e]
            rfl
          · have h1 := HR.out.1
            show o.toArray.size ≤ _
            simp
            omega
          · intro t r h1
            rw [HDD.out] at h1
            cases h1
            refine ⟨rfl, ?_⟩
            rw [List.length_drop]
            omega
        · subst hx0
          have hyb : ((y.toNat : Int) == 1) = false := by
            rw [beq_eq_false_iff_ne]
            intro h1
            exact hy1 (UInt8.toNat_inj.1 (show y.toNat = 1 by omega))
          have HN : Hid (RdT l i (j + 2) (o ++ [0])) := HR.out.two hx hy hy1
          have HJ : Hid (l[j]? = some 0) := hx
          clear hx hy hy1
          go_upto_region 6 with
            (at_builtin
             refine list_appB _ rfl _ _ rfl g u6 _ rfl (HO.out.alloc _) ⟨wr.heap.size, 0, none⟩ 1 [0] rfl (bnews _ _ rfl _ rfl) (by have := HLEN.out; simp only [List.length_singleton]; omega) (by have := HSZ.out; simp; omega) ?_
             intro v1 w1 hown hbel _
             have HO1 : Hid (BOwn w1 g v1 (o ++ [0])) := hown
             have HB1 : Hid (Below g w w1) := hbel w g (Nat.le_refl _) (HBW.out.alloc HSZ.out _)
             have HZ1 : Hid (g ≤ w1.heap.size) := Nat.le_trans HSZ.out (hbel wr 0 (Nat.zero_le _) ((Below.refl 0 wr).alloc (Nat.zero_le _) _)).size
             clear hown hbel)
          rcases (HL.out.below HB1.out (Nat.le_of_eq HG.out)).2.2 with h0 | ⟨p2, o2, hq, g2⟩
          · omega
          cases hq
          have e2 := g2 j 0 HJ.out
          clear g2
          go_wp2
          go_roundw
          case rel => exact ⟨j + 2, o ++ [0], by omega, by omega, by simp only [Value.int.injEq, true_and]; push_cast; omega, HO1.out, HN.out, HB1.out, HZ1.out⟩
          case measure => simp [RowKit.intOf]; omega
      · have hxb : ((x.toNat : Int) == 0) = false := by
          rw [beq_eq_false_iff_ne]
          intro h1
          exact hx0 (UInt8.toNat_inj.1 (show x.toNat = 0 by omega))
        have HN : Hid (RdT l i (j + 1) (o ++ [x])) := HR.out.one hx hy hx0
        have HJ : Hid (l[j]? = some x) := hx
        clear hx hy hx0
        go_upto_region 6 with
          (at_builtin
           refine list_appB _ rfl _ _ rfl g u6 _ rfl (HO.out.alloc _) ⟨wr.heap.size, 0, none⟩ 1 [x] rfl (bnews _ _ rfl _ rfl) (by have := HLEN.out; simp only [List.length_singleton]; omega) (by have := HSZ.out; simp; omega) ?_
           intro v1 w1 hown hbel _
           have HO1 : Hid (BOwn w1 g v1 (o ++ [x])) := hown
           have HB1 : Hid (Below g w w1) := hbel w g (Nat.le_refl _) (HBW.out.alloc HSZ.out _)
           have HZ1 : Hid (g ≤ w1.heap.size) := Nat.le_trans HSZ.out (hbel wr 0 (Nat.zero_le _) ((Below.refl 0 wr).alloc (Nat.zero_le _) _)).size
           clear hown hbel)
        rcases (HL.out.below HB1.out (Nat.le_of_eq HG.out)).2.2 with h0 | ⟨p2, o2, hq, g2⟩
        · omega
        cases hq
        have e2 := g2 j x HJ.out
        clear g2
        go_wp2
        go_roundw
        case rel => exact ⟨j + 1, o ++ [x], by omega, by omega, by go_num, HO1.out, HN.out, HB1.out, HZ1.out⟩
        case measure => simp [RowKit.intOf]; omega
    · have HN : Hid (rdT (l.drop i) = none) := HR.out.none (by omega)
      have hk1 : ¬ ((j : Int) + 1 < (n : Int)) := by omega
      go_wp2
      go_ret2
      refine ⟨⟨⟨#[]⟩, n + 1, ?_, by omega, by omega, Nat.zero_le _, ?_⟩, HG.out ▸ HBW.out⟩
      · have e : (n : Int) + 1 = ((n + 1 : Nat) : Int) := by omega
        rw [e]
        rfl
      · intro t r h1
        rw [HN.out] at h1
        cases h1
end
end Go.Proofs.YtgibeakclknhnabDoor
