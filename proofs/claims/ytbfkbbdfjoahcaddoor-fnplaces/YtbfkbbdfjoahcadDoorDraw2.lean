/- The drawing of chapter 2's inputs, walked: what is drawn lies within its bounds, and nothing that was there turns. -/
import Derived.Test.YtbfkbbdfjoahcadDoorDraw
namespace Go.Proofs.YtbfkbbdfjoahcadDoor
open Go.ChangeShapes Go.WideShapes Go.ChangeAt Go.RowKit

theorem bytes_now {w w' : World} {a : Option Addr} {n : Nat} (h : BytesAt w w.heap.size a n) (hb : Below w.heap.size w w') : BytesAt w' w'.heap.size a n :=
  (h.keep fun k hk => hb.block k hk).mono hb.size
theorem draw_fin {w w1 w2 : World} (h1 : Below w.heap.size w w1) (h2 : Only w.heap.size w1 w2) : Below w.heap.size w w2 :=
  h1.trans (h2.below (Nat.le_refl _))

theorem drawRowAt_any (a : Option Addr) (n c : Nat) (w : World) (hn : n ≤ 1048576) (hB : BytesAt w w.heap.size a n) :
    Calls Tryd.prog 5 #[.slice a n c] w fun e w' => ∃ x : Int, e = .returned (.int .i64 x) ∧ -2 ≤ x ∧ x ≤ 7 ∧ Below w.heap.size w w' := by
  have HB : Hid (BytesAt w w.heap.size a n) := hB
  clear hB
  go_enter Tryd.func5, Tryd.ntmps5
  go_wp2_with (first
    | (go_at_call 29; refine (l1New_any a n c _ hn HB.out).mono ?_; rintro e w1 ⟨rfl, hC, hb1, -⟩)
    | (go_at_call 28; refine (l1Below_any w.heap.size a n c 10 (by omega) (by omega) _ hC).mono ?_; rintro e w2 ⟨x, hx, rfl, hC2, hO⟩; have hx2 : (x : Int) ≤ 9 := by omega))
  go_ret
  exact ⟨_, rfl, by omega, by omega, draw_fin hb1 hO⟩

theorem drawOwnerAt_any (a : Option Addr) (n c : Nat) (w : World) (hn : n ≤ 1048576) (hB : BytesAt w w.heap.size a n) :
    Calls Tryd.prog 6 #[.slice a n c] w fun e w' => ∃ x : Int, e = .returned (.int .i64 x) ∧ -2 ≤ x ∧ x ≤ 7 ∧ Below w.heap.size w w' := by
  have HB : Hid (BytesAt w w.heap.size a n) := hB
  clear hB
  go_enter Tryd.func6, Tryd.ntmps6
  go_wp2_with (first
    | (go_at_call 29; refine (l1New_any a n c _ hn HB.out).mono ?_; rintro e w1 ⟨rfl, hC, hb1, -⟩)
    | (go_at_call 28; refine (l1Below_any w.heap.size a n c 10 (by omega) (by omega) _ hC).mono ?_; rintro e w2 ⟨x, hx, rfl, hC2, hO⟩; have hx2 : (x : Int) ≤ 9 := by omega))
  go_ret
  exact ⟨_, rfl, by omega, by omega, draw_fin hb1 hO⟩

theorem drawCountAt_any (a : Option Addr) (n c : Nat) (w : World) (hn : n ≤ 1048576) (hB : BytesAt w w.heap.size a n) :
    Calls Tryd.prog 7 #[.slice a n c] w fun e w' => ∃ x : Int, e = .returned (.int .i64 x) ∧ -2 ≤ x ∧ x ≤ 7 ∧ Below w.heap.size w w' := by
  have HB : Hid (BytesAt w w.heap.size a n) := hB
  clear hB
  go_enter Tryd.func7, Tryd.ntmps7
  go_wp2_with (first
    | (go_at_call 29; refine (l1New_any a n c _ hn HB.out).mono ?_; rintro e w1 ⟨rfl, hC, hb1, -⟩)
    | (go_at_call 28; refine (l1Below_any w.heap.size a n c 10 (by omega) (by omega) _ hC).mono ?_; rintro e w2 ⟨x, hx, rfl, hC2, hO⟩; have hx2 : (x : Int) ≤ 9 := by omega))
  go_ret
  exact ⟨_, rfl, by omega, by omega, draw_fin hb1 hO⟩

theorem drawViaAt_any (a : Option Addr) (n c : Nat) (w : World) (hn : n ≤ 1048576) (hB : BytesAt w w.heap.size a n) :
    Calls Tryd.prog 8 #[.slice a n c] w fun e w' => ∃ x : Int, e = .returned (.int .i64 x) ∧ -2 ≤ x ∧ x ≤ 7 ∧ Below w.heap.size w w' := by
  have HB : Hid (BytesAt w w.heap.size a n) := hB
  clear hB
  go_enter Tryd.func8, Tryd.ntmps8
  go_wp2_with (first
    | (go_at_call 29; refine (l1New_any a n c _ hn HB.out).mono ?_; rintro e w1 ⟨rfl, hC, hb1, -⟩)
    | (go_at_call 28; refine (l1Below_any w.heap.size a n c 10 (by omega) (by omega) _ hC).mono ?_; rintro e w2 ⟨x, hx, rfl, hC2, hO⟩; have hx2 : (x : Int) ≤ 9 := by omega))
  go_ret
  exact ⟨_, rfl, by omega, by omega, draw_fin hb1 hO⟩

theorem drawKeyOk_any (a : Option Addr) (n c : Nat) (w : World) (hn : n ≤ 1048576) (hB : BytesAt w w.heap.size a n) :
    Calls Tryd.prog 9 #[.slice a n c] w fun e w' => ∃ x : Int, e = .returned (.int .i64 x) ∧ -2 ≤ x ∧ x ≤ 7 ∧ Below w.heap.size w w' := by
  have HB : Hid (BytesAt w w.heap.size a n) := hB
  clear hB
  go_enter Tryd.func9, Tryd.ntmps9
  go_wp2_with (first
    | (go_at_call 29; refine (l1New_any a n c _ hn HB.out).mono ?_; rintro e w1 ⟨rfl, hC, hb1, -⟩)
    | (go_at_call 28; refine (l1Below_any w.heap.size a n c 10 (by omega) (by omega) _ hC).mono ?_; rintro e w2 ⟨x, hx, rfl, hC2, hO⟩; have hx2 : (x : Int) ≤ 9 := by omega))
  go_ret
  exact ⟨_, rfl, by omega, by omega, draw_fin hb1 hO⟩

theorem drawValOk_any (a : Option Addr) (n c : Nat) (w : World) (hn : n ≤ 1048576) (hB : BytesAt w w.heap.size a n) :
    Calls Tryd.prog 10 #[.slice a n c] w fun e w' => ∃ x : Int, e = .returned (.int .i64 x) ∧ -2 ≤ x ∧ x ≤ 7 ∧ Below w.heap.size w w' := by
  have HB : Hid (BytesAt w w.heap.size a n) := hB
  clear hB
  go_enter Tryd.func10, Tryd.ntmps10
  go_wp2_with (first
    | (go_at_call 29; refine (l1New_any a n c _ hn HB.out).mono ?_; rintro e w1 ⟨rfl, hC, hb1, -⟩)
    | (go_at_call 28; refine (l1Below_any w.heap.size a n c 10 (by omega) (by omega) _ hC).mono ?_; rintro e w2 ⟨x, hx, rfl, hC2, hO⟩; have hx2 : (x : Int) ≤ 9 := by omega))
  go_ret
  exact ⟨_, rfl, by omega, by omega, draw_fin hb1 hO⟩

theorem drawClassOf_any (a : Option Addr) (n c : Nat) (w : World) (hn : n ≤ 1048576) (hB : BytesAt w w.heap.size a n) :
    Calls Tryd.prog 11 #[.slice a n c] w fun e w' => ∃ x : Int, e = .returned (.int .i64 x) ∧ -2 ≤ x ∧ x ≤ 7 ∧ Below w.heap.size w w' := by
  have HB : Hid (BytesAt w w.heap.size a n) := hB
  clear hB
  go_enter Tryd.func11, Tryd.ntmps11
  go_wp2_with (first
    | (go_at_call 29; refine (l1New_any a n c _ hn HB.out).mono ?_; rintro e w1 ⟨rfl, hC, hb1, -⟩)
    | (go_at_call 28; refine (l1Below_any w.heap.size a n c 10 (by omega) (by omega) _ hC).mono ?_; rintro e w2 ⟨x, hx, rfl, hC2, hO⟩; have hx2 : (x : Int) ≤ 9 := by omega))
  go_ret
  exact ⟨_, rfl, by omega, by omega, draw_fin hb1 hO⟩
end Go.Proofs.YtbfkbbdfjoahcadDoor
