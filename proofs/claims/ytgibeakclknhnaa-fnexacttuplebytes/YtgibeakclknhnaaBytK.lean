/- The laws' own helpers on bytes, walked: whether two lists are alike; what marks one, and whether it is marked. -/
import Derived.Test.YtgibeakclknhnaaByA
import Derived.Test.YtgibeakclknhnaaCur
import Derived.WalkSmall
import Derived.Deep.RegionHeld3
namespace Go.Proofs.Ytgibeakclknhnaa
open Go.ChangeShapes Go.WideShapes Go.ChangeAt Go.RowKit
open Go.Lib (byteCells byteCells_length byteCells_append)

/-- The bytes that markByteS lays, from 1 on. -/
def marksB (n : Nat) : List UInt8 := (List.range n).map fun i => UInt8.ofNat ((i + 1) % 256)
theorem marksB_len (n : Nat) : (marksB n).length = n := by simp [marksB]
theorem marksB_at {n i : Nat} (h : i < n) : (marksB n)[i]? = some (UInt8.ofNat ((i + 1) % 256)) := by simp [marksB, h]
theorem u8_mark (i : Nat) : ((UInt8.ofNat ((i + 1) % 256)).toNat : Int) = ((i : Int) + 1) % 256 := by
  have h : (UInt8.ofNat ((i + 1) % 256)).toNat = (i + 1) % 256 := by simp
  rw [h]
  omega
theorem below_drewN (w : World) (m : Nat) : Below w.heap.size w (w.drewN m) := ⟨rfl, rfl, rfl, Nat.le_refl _, fun _ _ => rfl⟩
theorem markB_step (n j : Nat) (l : List UInt8) (hx : l.length = n) (h : j < n) :
    (byteCells (marksB j ++ l.drop j)).set j (.int .u8 (((j : Int) + 1) % 256)) = byteCells (marksB (j + 1) ++ l.drop (j + 1)) := by
  have e : marksB (j + 1) = marksB j ++ [UInt8.ofNat ((j + 1) % 256)] := by simp [marksB, List.range_succ]
  rw [← u8_mark, e]
  unfold byteCells
  rw [show Value.int IntKind.u8 ((UInt8.ofNat ((j + 1) % 256)).toNat : Int) = (fun b : UInt8 => Value.int IntKind.u8 (b.toNat : Int)) (UInt8.ofNat ((j + 1) % 256)) from rfl, ← List.map_set]
  congr 1
  rw [List.set_append_right _ _ (by simp [marksB]), show j - (marksB j).length = 0 by simp [marksB], List.drop_eq_getElem_cons (show j < l.length by omega), List.set_cons_zero, List.append_assoc]
  rfl
set_option maxHeartbeats 1000000 in
theorem markByteS_own (base g n cap : Nat) (l : List UInt8) (w : World) (hx : l.length = n) (hn : n ≤ 2097152)
    (hown : w.ownsRow base 5 1 (.slice (some ⟨g, 0, none⟩) n cap) n (byteCells l)) :
    Calls Try.prog 24 #[.slice (some ⟨g, 0, none⟩) n cap, .int .i64 1] w fun e w' =>
      e = .returned (.int .i64 ((n : Int) + 1)) ∧ w'.ownsRow base 5 1 (.slice (some ⟨g, 0, none⟩) n cap) n (byteCells (marksB n)) ∧ Only g w w' := by
  have HX : Hid (l.length = n) := hx
  have HOWN : Hid (w.ownsRow base 5 1 (.slice (some ⟨g, 0, none⟩) n cap) n (byteCells l)) := hown
  clear hx hown
  go_enter Try.func24, Try.ntmps24
  go_wp2
  go_loopw [1, 5] (fun q i wr => ∃ j : Nat, j ≤ n ∧ q = .int .i64 ((j : Int) + 1) ∧ i = .int .i64 (j : Int) ∧ wr.ownsRow base 5 1 (.slice (some ⟨g, 0, none⟩) n cap) n (byteCells (marksB j ++ l.drop j)) ∧ Only g w wr) (fun _ i _ => n - (intOf i).toNat)
  case atStart => exact ⟨0, Nat.zero_le _, rfl, rfl, by simpa [marksB] using HOWN.out, Only.refl _ _⟩
  case round =>
    obtain ⟨j, hj, rfl, rfl, ho, hb⟩ := hrel
    have hj0 : (0 : Int) ≤ (j : Int) := by omega
    have hjm : (j : Int) ≤ 2097152 := by omega
    by_cases hlt : j < n
    · have hf1 := ho.frozenAt j
      obtain ⟨u, hc1⟩ := own_cell ho hlt
      have ho1 := ho.stored j (.int .u8 (((j : Int) + 1) % 256))
      rw [markB_step n j l HX.out hlt] at ho1
      have hjn : (j : Int) < (n : Int) := by omega
      go_wp2
      exact ⟨⟨j + 1, by omega, by go_num, by go_num, ho1.1, hb.setCell j _⟩, by simp [intOf]; omega⟩
    · obtain rfl : n = j := by omega
      go_wp2
      go_ret
      refine ⟨rfl, ?_, hb⟩
      have hx := HX.out
      rwa [List.drop_of_length_le (by omega), List.append_nil] at ho
theorem markByteS_none (cap : Nat) (w : World) :
    Calls Try.prog 24 #[.slice none 0 cap, .int .i64 1] w fun e w' => e = .returned (.int .i64 1) ∧ w' = w := by
  go_enter Try.func24, Try.ntmps24
  go_wp2
  go_loopw [1, 5] (fun q i wr => q = .int .i64 1 ∧ i = .int .i64 0 ∧ wr = w) (fun _ _ _ => 0)
  case atStart => exact ⟨rfl, rfl, rfl⟩
  case round =>
    obtain ⟨rfl, rfl, rfl⟩ := hrel
    go_wp2
    go_ret
    exact ⟨rfl, rfl⟩
set_option maxHeartbeats 1000000 in
theorem heldByteS_any (a : Option Addr) (n cap : Nat) (w : World) (h : BysAt w a n (marksB n)) :
    Calls Try.prog 25 #[.slice a n cap, .int .i64 1] w fun e w' => e = .returned (.int .i64 ((n : Int) + 1)) ∧ w' = w := by
  have HA : Hid (BysAt w a n (marksB n)) := h
  have hn := h.2.1
  clear h
  go_enter Try.func25, Try.ntmps25
  go_wp2
  go_loopw [1, 5] (fun q i wr => ∃ j : Nat, j ≤ n ∧ q = .int .i64 ((j : Int) + 1) ∧ i = .int .i64 (j : Int) ∧ wr = w) (fun _ i _ => n - (intOf i).toNat)
  case atStart => exact ⟨0, Nat.zero_le _, rfl, rfl, rfl⟩
  case round =>
    obtain ⟨j, hj, rfl, rfl, rfl⟩ := hrel
    have hj0 : (0 : Int) ≤ (j : Int) := by omega
    have hjm : (j : Int) ≤ 2097152 := by omega
    by_cases hlt : j < n
    · rcases HA.out.2.2 with h0 | ⟨b, o, rfl, g1⟩
      · omega
      have e1 := g1 j _ (marksB_at hlt)
      rw [u8_mark] at e1
      have hjn : (j : Int) < (n : Int) := by omega
      clear g1
      go_wp2
      exact ⟨⟨j + 1, by omega, by go_num, by go_num, by first | rfl | trivial⟩, by simp [intOf]; omega⟩
    · obtain rfl : n = j := by omega
      go_wp2
      go_ret
      exact ⟨rfl, rfl⟩
set_option maxHeartbeats 1000000 in
theorem eqByteS_any (a1 a2 : Option Addr) (n1 n2 c1 c2 : Nat) (xs ys : List UInt8) (w : World) (h1 : BysAt w a1 n1 xs) (h2 : BysAt w a2 n2 ys) :
    Calls Try.prog 22 #[.slice a1 n1 c1, .slice a2 n2 c2] w fun e w' => e = .returned (.bool (decide (xs = ys))) ∧ Below w.heap.size w w' := by
  have H1 : Hid (BysAt w a1 n1 xs) := h1
  have H2 : Hid (BysAt w a2 n2 ys) := h2
  have l1 := h1.1
  have l2 := h2.1
  have b1 := h1.2.1
  clear h1 h2
  by_cases hn : n1 = n2
  · subst hn
    go_enter Try.func22, Try.ntmps22
    go_wp2
    go_loopw [5] (fun i wr => ∃ k m : Nat, k ≤ n1 ∧ i = .int .i64 k ∧ xs.take k = ys.take k ∧ wr = w.drewN m) (fun i _ => n1 - (intOf i).toNat)
    case atStart => exact ⟨0, 0, Nat.zero_le _, rfl, rfl, rfl⟩
    case round =>
      obtain ⟨k, m, hk, rfl, ht, rfl⟩ := hrel
      have HT : Hid (xs.take k = ys.take k) := ht
      clear ht
      by_cases hlt : k < n1
      · rcases H1.out.2.2 with h | ⟨p1, o1, rfl, g1⟩
        · omega
        rcases H2.out.2.2 with h | ⟨p2, o2, rfl, g2⟩
        · omega
        obtain ⟨x, hx⟩ : ∃ x, xs[k]? = some x := ⟨_, List.getElem?_eq_getElem (by omega)⟩
        obtain ⟨y, hy⟩ : ∃ y, ys[k]? = some y := ⟨_, List.getElem?_eq_getElem (by omega)⟩
        have e1 := g1 k x hx
        have e2 := g2 k y hy
        have HX : Hid (xs[k]? = some x) := hx
        have HY : Hid (ys[k]? = some y) := hy
        clear g1 g2 hx hy
        go_wp2
        go_region
        go_wp2
        · have hd : ((x.toNat : Int) != (y.toNat : Int)) = true := by assumption
          go_ret
          refine ⟨?_, below_drewN w (m + 1)⟩
          have e : xs ≠ ys := fun e => by
            have h1 := HX.out
            rw [e, HY.out] at h1
            cases h1
            simp at hd
          simp [e]
        · have hd : ((x.toNat : Int) != (y.toNat : Int)) = false := by assumption
          have hxy : x = y := UInt8.toNat_inj.1 (by have : ((x.toNat : Int)) = (y.toNat : Int) := by simpa using hd
                                                    omega)
          refine ⟨⟨k + 1, m + 1, by omega, by go_num, ?_, rfl⟩, by simp [intOf]; omega⟩
          rw [List.take_succ_eq_append_getElem (by omega), List.take_succ_eq_append_getElem (by omega), HT.out, (List.getElem?_eq_some_iff.1 HX.out).2, (List.getElem?_eq_some_iff.1 HY.out).2, hxy]
      · go_wp2
        go_ret
        refine ⟨?_, below_drewN w m⟩
        have e : xs = ys := by
          have := HT.out
          rwa [List.take_of_length_le (by omega), List.take_of_length_le (by omega)] at this
        simp [e]
  · have hz : ((n1 : Int) != (n2 : Int)) = true := by simp; omega
    go_enter Try.func22, Try.ntmps22
    go_wp2
    go_ret
    refine ⟨?_, Below.refl _ _⟩
    have e : xs ≠ ys := fun e => hn (by rw [← l1, ← l2, e])
    simp [e]
/-- What has been written of bytes so far: the first k of xs, noughts behind them. -/
def uptoB (xs : List UInt8) (k n : Nat) : List UInt8 := xs.take k ++ List.replicate (n - k) 0
theorem uptoB_step {xs : List UInt8} {k n : Nat} {x : UInt8} (hx : xs.length = n) (h : xs[k]? = some x) : (byteCells (uptoB xs k n)).set k (.int .u8 (x.toNat : Int)) = byteCells (uptoB xs (k + 1) n) := by
  have hk : k < xs.length := (List.getElem?_eq_some_iff.1 h).1
  unfold byteCells
  rw [show Value.int IntKind.u8 (x.toNat : Int) = (fun b : UInt8 => Value.int IntKind.u8 (b.toNat : Int)) x from rfl, ← List.map_set]
  congr 1
  unfold uptoB
  have hl : (xs.take k).length = k := by rw [List.length_take]; omega
  rw [List.set_append_right _ _ (by omega), hl, Nat.sub_self, show n - k = (n - (k + 1)) + 1 by omega, List.replicate_succ, List.set_cons_zero,
    List.take_succ_eq_append_getElem hk, (List.getElem?_eq_some_iff.1 h).2, List.append_assoc]
  rfl
theorem uptoB_end {xs : List UInt8} {n : Nat} (hx : xs.length = n) : uptoB xs n n = xs := by
  unfold uptoB
  rw [List.take_of_length_le (by omega)]; simp
end Go.Proofs.Ytgibeakclknhnaa
