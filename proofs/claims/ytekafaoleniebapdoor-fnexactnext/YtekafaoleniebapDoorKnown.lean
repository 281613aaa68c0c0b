/- The program's methods on what was read: what stands at a place (nought, where nothing was read). -/
import Derived.Test.YtekafaoleniebapDoorTellM
import Derived.Test.YtekafaoleniebapDoorImplRead
import Derived.Test.YtekafaoleniebapDoorRowAt
import Derived.Test.YtekafaoleniebapDoorOwnerAt
import Derived.Test.YtekafaoleniebapDoorStateAt
import Derived.Test.YtekafaoleniebapDoorViaAt
namespace Go.Proofs.YtekafaoleniebapDoor
open Go.ChangeShapes Go.WideShapes Go.ChangeAt Go.RowKit

set_option maxHeartbeats 1000000 in
theorem knownAt_any (a : Option Addr) (n c : Nat) (p : Int) (fs : List Int) (w : World) (h : PairAt w a n fs) :
    Calls Tryd.prog 61 #[.slice a n c, .int .i64 p] w fun e w' => e = .returned (.int .i64 (rd fs n p)) ∧ Below w.heap.size w w' := by
  have HP : Hid (PairAt w a n fs) := h
  clear h
  unfold rd
  by_cases hp : p < 0
  · rw [if_pos hp]
    go_enter Tryd.func61, Tryd.ntmps61
    go_wp2
    go_ret
    exact ⟨rfl, Below.refl _ _⟩
  rw [if_neg hp]
  obtain ⟨r, hr⟩ : ∃ r, readF fs p n = r := ⟨_, rfl⟩
  have HR : Hid (readF fs p n = r) := hr
  clear hr
  rw [HR.out]
  obtain ⟨r1, r2⟩ := r
  go_enter Tryd.func61, Tryd.ntmps61
  go_wp2_with fail
  refine (implRead_any a n c p fs _ HP.out).mono ?_
  rintro e w1 ⟨rfl, hb⟩
  rw [HR.out]
  go_wp2
  go_ret
  exact ⟨rfl, hb⟩

set_option maxHeartbeats 1000000 in
theorem knownRow_any (a : Option Addr) (n c : Nat) (k : Int) (fs : List Int) (w : World) (hN : Names w) (h : PairAt w a n fs) :
    Calls Tryd.prog 54 #[.slice a n c, .int .i64 k] w fun e w' => e = .returned (.int .i64 (rd fs n (placeN 1 k))) ∧ Below w.heap.size w w' := by
  have HP : Hid (Names w ∧ PairAt w a n fs) := ⟨hN, h⟩
  clear h hN
  go_enter Tryd.func54, Tryd.ntmps54
  go_wp2_with fail
  refine (implRowAt_any k _ HP.out.1).mono ?_
  rintro e w1 ⟨rfl, hb⟩
  go_wp2_with fail
  refine (knownAt_any a n c _ fs _ (HP.out.2.below hb (Nat.le_refl _))).mono ?_
  rintro e w2 ⟨rfl, hb2⟩
  go_wp2
  go_ret
  exact ⟨rfl, hb.trans (hb2.mono hb.size)⟩

set_option maxHeartbeats 1000000 in
theorem knownOwner_any (a : Option Addr) (n c : Nat) (k : Int) (fs : List Int) (w : World) (hN : Names w) (h : PairAt w a n fs) :
    Calls Tryd.prog 55 #[.slice a n c, .int .i64 k] w fun e w' => e = .returned (.int .i64 (rd fs n (placeN 2 k))) ∧ Below w.heap.size w w' := by
  have HP : Hid (Names w ∧ PairAt w a n fs) := ⟨hN, h⟩
  clear h hN
  go_enter Tryd.func55, Tryd.ntmps55
  go_wp2_with fail
  refine (implOwnerAt_any k _ HP.out.1).mono ?_
  rintro e w1 ⟨rfl, hb⟩
  go_wp2_with fail
  refine (knownAt_any a n c _ fs _ (HP.out.2.below hb (Nat.le_refl _))).mono ?_
  rintro e w2 ⟨rfl, hb2⟩
  go_wp2
  go_ret
  exact ⟨rfl, hb.trans (hb2.mono hb.size)⟩

set_option maxHeartbeats 1000000 in
theorem knownState_any (a : Option Addr) (n c : Nat) (fs : List Int) (w : World) (hN : Names w) (h : PairAt w a n fs) :
    Calls Tryd.prog 63 #[.slice a n c] w fun e w' => e = .returned (.int .i64 (rd fs n 13)) ∧ Below w.heap.size w w' := by
  have HP : Hid (Names w ∧ PairAt w a n fs) := ⟨hN, h⟩
  clear h hN
  go_enter Tryd.func63, Tryd.ntmps63
  go_wp2_with fail
  refine (implStateAt_any _ HP.out.1).mono ?_
  rintro e w1 ⟨rfl, hb⟩
  go_wp2_with fail
  refine (knownAt_any a n c _ fs _ (HP.out.2.below hb (Nat.le_refl _))).mono ?_
  rintro e w2 ⟨rfl, hb2⟩
  go_wp2
  go_ret
  exact ⟨rfl, hb.trans (hb2.mono hb.size)⟩
end Go.Proofs.YtekafaoleniebapDoor
