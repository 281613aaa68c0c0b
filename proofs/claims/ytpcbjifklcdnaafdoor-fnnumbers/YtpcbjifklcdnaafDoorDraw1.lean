/- The drawing of chapter 1's inputs, walked: what is drawn lies within its bounds, and nothing that was there turns. -/
import Derived.Test.YtpcbjifklcdnaafDoorDraw
import Derived.Test.YtpcbjifklcdnaafDoorIntAt
import Derived.Test.YtpcbjifklcdnaafDoorNums2
namespace Go.Proofs.YtpcbjifklcdnaafDoor
open Go.ChangeShapes Go.WideShapes Go.ChangeAt Go.RowKit

def digitsList : List Int := [0, 7, -12, 100000, 9223372036854775807, -9223372036854775808]
def numberList : List (List UInt8) := [[48], [55], [57, 57, 57, 57, 57, 57], [49, 48, 48, 48, 48, 48, 48], [48, 49], [], [45, 49], [120], [49, 50, 97]]
def splitList : List (List UInt8) := [[], [97], [97, 44, 98], [44], [97, 44, 44, 98, 44], [97, 47, 98, 44, 99, 47]]
theorem digitsList_in (i : Nat) : -9223372036854775808 ≤ digitsList.getD i 0 ∧ digitsList.getD i 0 ≤ 9223372036854775807 := by
  match i with
  | 0 | 1 | 2 | 3 | 4 | 5 => decide
  | i + 6 => simp [digitsList]
theorem numberList_in (i : Nat) : (numberList.getD i []).length ≤ 7 := by
  match i with
  | 0 | 1 | 2 | 3 | 4 | 5 | 6 | 7 | 8 => decide
  | i + 9 => simp [numberList]
theorem splitList_in (i : Nat) : (splitList.getD i []).length ≤ 7 := by
  match i with
  | 0 | 1 | 2 | 3 | 4 | 5 => decide
  | i + 6 => simp [splitList]

theorem cur_alloc {T : TypeId} {w : World} {p : Nat} {a : Option Addr} {n c : Nat} (h : Cur T w p a n c) (o : Obj) : Cur T (w.alloc o) p a n c :=
  h.keep fun k hk => Below.heap_alloc _ _ _ (by have := h.lt; omega)

set_option maxHeartbeats 1000000 in
theorem drawDigits_any (a : Option Addr) (n c : Nat) (w : World) (hn : n ≤ 1048576) (hB : BytesAt w w.heap.size a n) :
    Calls Tryd.prog 5 #[.slice a n c] w fun e w' => ∃ i : Nat, e = .returned (.int .i64 (digitsList.getD i 0)) ∧ Below w.heap.size w w' := by
  have HB : Hid (BytesAt w w.heap.size a n) := hB
  clear hB
  go_enter Tryd.func5, Tryd.ntmps5
  go_wp2_with fail
  refine (l1New_any a n c _ hn HB.out).mono ?_
  rintro e w1 ⟨rfl, hC, hb, hz⟩
  have HZ : Hid (w1.heap.size = w.heap.size + 1) := hz
  clear hz
  go_wp2_with fail
  refine (l1PickInt_any w.heap.size a n c w1.heap.size 6 6 digitsList (by omega) (by omega) _ (cur_alloc hC _) (by have := HZ.out; omega) ?_).mono ?_
  · intro i hi
    match i, hi with
    | 0, _ | 1, _ | 2, _ | 3, _ | 4, _ | 5, _ => simp [digitsList]
  rintro e w2 ⟨x, hx, rfl, hC2, hO2⟩
  have hall : Below w.heap.size w w2 := (hb.alloc hb.size _).trans (hO2.below (Nat.le_refl _))
  clear hC2 hO2 hC hb
  go_wp2
  go_ret
  exact ⟨x, rfl, hall⟩

set_option maxHeartbeats 1000000 in
theorem drawNumber_any (a : Option Addr) (n c : Nat) (w : World) (hn : n ≤ 1048576) (hB : BytesAt w w.heap.size a n) :
    Calls Tryd.prog 6 #[.slice a n c] w fun e w' => ∃ i : Nat, e = .returned (S (numberList.getD i [])) ∧ Below w.heap.size w w' := by
  have HB : Hid (BytesAt w w.heap.size a n) := hB
  clear hB
  go_enter Tryd.func6, Tryd.ntmps6
  go_wp2_with fail
  refine (l1New_any a n c _ hn HB.out).mono ?_
  rintro e w1 ⟨rfl, hC, hb, hz⟩
  have HZ : Hid (w1.heap.size = w.heap.size + 1) := hz
  clear hz
  go_wp2_with fail
  refine (l1Pick_any w.heap.size a n c w1.heap.size 9 9 numberList (by omega) (by omega) _ (cur_alloc hC _) (by have := HZ.out; omega) ?_).mono ?_
  · intro i hi
    match i, hi with
    | 0, _ | 1, _ | 2, _ | 3, _ | 4, _ | 5, _ | 6, _ | 7, _ | 8, _ => simp [numberList]
  rintro e w2 ⟨x, hx, rfl, hC2, hO2⟩
  have hall : Below w.heap.size w w2 := (hb.alloc hb.size _).trans (hO2.below (Nat.le_refl _))
  clear hC2 hO2 hC hb
  go_wp2
  go_ret
  exact ⟨x, rfl, hall⟩

set_option maxHeartbeats 1000000 in
theorem drawSplit_any (a : Option Addr) (n c : Nat) (w : World) (hn : n ≤ 1048576) (hB : BytesAt w w.heap.size a n) :
    Calls Tryd.prog 10 #[.slice a n c] w fun e w' => ∃ (i : Nat) (b : UInt8), e = .returned (.tuple #[S (splitList.getD i []), .int .u8 (b.toNat : Int)]) ∧ Below w.heap.size w w' := by
  have HB : Hid (BytesAt w w.heap.size a n) := hB
  clear hB
  go_enter Tryd.func10, Tryd.ntmps10
  go_wp2_with fail
  refine (l1New_any a n c _ hn HB.out).mono ?_
  rintro e w1 ⟨rfl, hC, hb, hz⟩
  have HZ : Hid (w1.heap.size = w.heap.size + 1) := hz
  clear hz
  go_wp2_with fail
  refine (l1Pick_any w.heap.size a n c w1.heap.size 6 6 splitList (by omega) (by omega) _ (cur_alloc hC _) (by have := HZ.out; omega) ?_).mono ?_
  · intro i hi
    match i, hi with
    | 0, _ | 1, _ | 2, _ | 3, _ | 4, _ | 5, _ => simp [splitList]
  rintro e w2 ⟨x, hx, rfl, hC2, hO2⟩
  have hb2 : Below w.heap.size w w2 := (hb.alloc hb.size _).trans (hO2.below (Nat.le_refl _))
  have HZ2 : Hid (w2.heap.size = w.heap.size + 2) := by
    have h1 := hO2.size
    have h2 := HZ.out
    show w2.heap.size = _
    simp at h1
    omega
  clear hO2 hC hb
  go_wp2_with fail
  refine (l1PickInt_any w.heap.size a n c w2.heap.size 2 2 [44, 47] (by omega) (by omega) _ (cur_alloc hC2 _) (by have := HZ2.out; omega) ?_).mono ?_
  · intro i hi
    match i, hi with
    | 0, _ | 1, _ => simp
  rintro e w3 ⟨y, hy, rfl, hC3, hO3⟩
  have hall : Below w.heap.size w w3 := (hb2.alloc hb2.size _).trans (hO3.below (Nat.le_refl _))
  clear hC3 hO3 hC2 hb2
  obtain rfl | rfl : y = 0 ∨ y = 1 := by omega
  · go_wp2
    go_ret2
    exact ⟨x, 44, rfl, hall⟩
  · go_wp2
    go_ret2
    exact ⟨x, 47, rfl, hall⟩

theorem own_slice {w : World} {base : Nat} {e : TypeId} {v : Value} {n : Nat} {xs : List Int} (h : w.ownsRow base e 1 v n (xs.map I)) (hn : n ≤ 1099511627776) : ∃ a c, v = .slice a n c ∧ IntAt w a n xs := by
  have hl : xs.length = n := by have := h.1; simpa using this
  rcases h.2 with ⟨rfl, h0⟩ | ⟨g, cap, cur, rfl, _⟩
  · exact ⟨none, 0, by rw [h0], hl, hn, .inl h0⟩
  · exact ⟨_, cap, rfl, own_intAt h hn⟩

theorem appendI_step {w wr w1 : World} {base B : Nat} {v v1 : Value} {done : List Int} {x : Int} {o : Obj} (hBb : B ≤ base) (hB : B ≤ wr.heap.size) (hown : wr.ownsRow base 3 1 v done.length (done.map I)) (hb : Below B w wr)
    (h1 : w1.ownsRow base 3 1 v1 (done.length + 1) (done.map I ++ [I x])) (hg : (wr.alloc o).grownBy w1 v.ownBlock) :
    w1.ownsRow base 3 1 v1 (done ++ [x]).length ((done ++ [x]).map I) ∧ Below B w w1 := by
  refine ⟨by simpa using h1, (hb.alloc hB _).grown hg (by simp; omega) fun k e => Nat.le_trans hBb (hown.lt k e).1⟩
theorem cur_grown {T : TypeId} {w w1 : World} {p base : Nat} {v : Value} {a : Option Addr} {n c : Nat} {e : TypeId} {m : Nat} {xs : List Value} {o : Obj} (h : Cur T w p a n c) (hown : w.ownsRow base e 1 v m xs) (hp : p < base) (hg : (w.alloc o).grownBy w1 v.ownBlock) : Cur T w1 p a n c := by
  refine (cur_alloc h o).keep fun k hk => hg.block k (by have := h.lt; simp; omega) fun e => ?_
  have := (hown.lt k e.symm).1
  omega

set_option maxHeartbeats 1000000 in
theorem drawNums_any (a : Option Addr) (n c : Nat) (w : World) (hn : n ≤ 1048576) (hB : BytesAt w w.heap.size a n) :
    Calls Tryd.prog 9 #[.slice a n c] w fun e w' => ∃ (xs : List Int) (a' : Option Addr) (c' : Nat), e = .returned (.slice a' xs.length c') ∧ xs.length ≤ 5 ∧ In64s xs ∧ IntAt w' a' xs.length xs ∧ Below w.heap.size w w' := by
  have HB : Hid (BytesAt w w.heap.size a n) := hB
  clear hB
  obtain ⟨i0, hi, hz0, hz1, hz2⟩ := info_parts infoInt
  go_enter Tryd.func9, Tryd.ntmps9
  go_wp2_with fail
  refine (l1New_any a n c _ hn HB.out).mono ?_
  rintro e w1 ⟨rfl, hC, hb, hz⟩
  have HZ : Hid (w1.heap.size = w.heap.size + 1) := hz
  clear hz
  go_wp2_with fail
  go_loopw [4, 5] (fun v i wr => ∃ (k : Nat) (xs : List Int), i = .int .i64 (k : Int) ∧ xs.length = k ∧ k ≤ 5 ∧ In64s xs ∧ wr.ownsRow (w.heap.size + 1) 3 1 v xs.length (xs.map I) ∧ Cur 46 wr w.heap.size a n c ∧ Below w.heap.size w wr) (fun _ i _ => 5 - (intOf i).toNat)
  case atStart =>
    exact ⟨0, [], rfl, rfl, by omega, fun x hx => by simp at hx, World.ownsRow_made w1 #[] 0 (by have := HZ.out; omega) (by unfold maxLen; omega) rfl, cur_alloc hC _, hb.alloc hb.size _⟩
  case round =>
    obtain ⟨k, xs, rfl, hxl, hk, hin, ho, hC1, hb1⟩ := hrel
    clear hC hb
    have HXL : Hid (xs.length = k) := hxl
    have HIN : Hid (In64s xs) := hin
    clear hxl hin
    go_wp2_with fail
    refine (l1Below_any w.heap.size a n c 5 (by omega) (by omega) _ hC1).mono ?_
    rintro e w2 ⟨y, hy, rfl, hC2, hO2⟩
    have ho2 := hO2.owns ho (by omega)
    have hb2 : Below w.heap.size w w2 := hb1.trans (hO2.below (Nat.le_refl _))
    clear hC1 hb1 ho hO2
    by_cases hlt : k < y
    · go_wp2_with fail
      refine (l1Below_any w.heap.size a n c 20 (by omega) (by omega) _ hC2).mono ?_
      rintro e w3 ⟨z, hz, rfl, hC3, hO3⟩
      have ho3 := hO3.owns ho2 (by omega)
      have hb3 : Below w.heap.size w w3 := hb2.trans (hO3.below (Nat.le_refl _))
      have hB3 := hb3.size
      have hl3 := hC3.lt
      clear hC2 hb2 ho2 hO3
      have hxl5 : xs.length ≤ 5 := by have := HXL.out; omega
      go_wp2_with (at_builtin; refine wpList_append_own _ rfl _ _ 28 rfl (w.heap.size + 1) 3 i0 (.int .i64 0) 1 8 Tryd.underlying28 hi hz0 hz1 hz2 rfl (by decide) _ _ _ rfl (ho3.alloc _) ⟨w3.heap.size, 0, none⟩ 1 1 [I ((z : Int) - 3)] rfl rfl ?c1 ?c2 ?c3 ?c4 ?c5 ?_)
      case c1 =>
        intro j u hj
        match j, hj with
        | 0, hj => simp at hj; subst hj; simp [Addr.add]
      case c2 => intro u hu; simp at hu; subst hu; rfl
      case c3 => unfold maxLen; omega
      case c4 => omega
      case c5 => simp; omega
      · intro v1 w4 hown1 hgrow _
        have R := appendI_step (by omega) hB3 ho3 hb3 hown1 hgrow
        have RC := cur_grown hC3 ho3 (by omega) hgrow
        clear hown1 hgrow ho3 hb3 hC3
        go_wp2
        go_roundw
        case rel =>
          refine ⟨k + 1, xs ++ [(z : Int) - 3], by go_num, by have := HXL.out; simp [this], by omega, fun x hx => ?_, R.1, RC, R.2⟩
          rcases List.mem_append.1 hx with hx | hx
          · exact HIN.out x hx
          · simp at hx; omega
        case measure => simp [intOf]; omega
    · obtain ⟨a', c', rfl, hA⟩ := own_slice ho2 (by have := HXL.out; omega)
      go_wp2
      go_ret
      exact ⟨xs, a', c', rfl, by have := HXL.out; omega, HIN.out, hA, hb2⟩
end Go.Proofs.YtpcbjifklcdnaafDoor
