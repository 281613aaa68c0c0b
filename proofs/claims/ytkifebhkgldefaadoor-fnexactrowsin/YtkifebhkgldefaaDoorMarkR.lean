/- The laws' own helper markIntS, walked from any number on (what it lays is not told, only where), and markRes; markRows of a list that may be nil. -/
import Derived.Test.YtkifebhkgldefaaDoorMarkI
import Derived.Test.YtkifebhkgldefaaDoorSpecRes
namespace Go.Proofs.YtkifebhkgldefaaDoor
open Go.ChangeShapes Go.WideShapes Go.ChangeAt Go.RowKit

set_option maxHeartbeats 400000 in
theorem markIntS_from (g n cap : Nat) (k0 : Int) (xs : List Int) (w : World) (hx : xs.length = n) (hn : n ≤ 1099511627776) (hk0 : 0 ≤ k0) (hk1 : k0 ≤ 1099511627777)
    (hown : w.ownsRow g 3 1 (.slice (some ⟨g, 0, none⟩) n cap) n (xs.map I)) :
    Calls Tryd.prog 13 #[.slice (some ⟨g, 0, none⟩) n cap, .int .i64 k0] w fun e w' =>
      e = .returned (.int .i64 (k0 + (n : Int))) ∧ Below g w w' ∧ w'.heap.size = w.heap.size ∧ ∀ k, k ≠ g → w'.heap[k]? = w.heap[k]? := by
  have HX : Hid (xs.length = n) := hx
  clear hx
  go_enter Tryd.func13, Tryd.ntmps13
  go_wp2
  go_loopw [1, 5] (fun q i wr => ∃ j : Nat, j ≤ n ∧ q = .int .i64 (k0 + (j : Int)) ∧ i = .int .i64 (j : Int) ∧ (∃ zs : List Int, wr.ownsRow g 3 1 (.slice (some ⟨g, 0, none⟩) n cap) n (zs.map I)) ∧ Below g w wr ∧ wr.heap.size = w.heap.size ∧ ∀ k, k ≠ g → wr.heap[k]? = w.heap[k]?) (fun _ i _ => n - (intOf i).toNat)
  case atStart => exact ⟨0, Nat.zero_le _, by simp, rfl, ⟨xs, hown⟩, Below.refl _ _, rfl, fun _ _ => rfl⟩
  case round =>
    obtain ⟨j, hj, rfl, rfl, ⟨zs, ho⟩, hb, hsz, hoth⟩ := hrel
    have HOT : Hid (∀ k, k ≠ g → wr.heap[k]? = w.heap[k]?) := hoth
    clear hown hoth
    by_cases hlt : j < n
    · have hf1 := ho.frozenAt j
      obtain ⟨u, hc1⟩ := own_cell ho hlt
      have ho1 := ho.stored j (I (k0 + (j : Int)))
      rw [← List.map_set] at ho1
      have HO1 : Hid ((wr.setCell ⟨g, j, none⟩ (I (k0 + (j : Int)))).ownsRow g 3 1 (.slice (some ⟨g, 0, none⟩) n cap) n ((zs.set j (k0 + (j : Int))).map I)) := ho1.1
      clear ho ho1
      go_wp2
      go_roundw
      case rel => exact ⟨j + 1, by omega, by go_num, by go_num, ⟨_, HO1.out⟩, hb.setCell (Nat.le_refl _) _, by simpa [World.setCell] using hsz, fun k hk => (Below.heap_setCell _ _ _ _ hk).trans (HOT.out k hk)⟩
      case measure => simp [intOf]; omega
    · go_wp2
      go_ret
      obtain rfl : j = n := by omega
      exact ⟨rfl, hb, hsz, HOT.out⟩

/-- Rows of the call's own, whose list may be nil, marked from 1 on. -/
theorem markRows_row (base : Nat) (a : Option Addr) (n cap : Nat) (st : Int) (xs : List Int) (w : World) (hx : xs.length = n) (hn : n ≤ 1099511627776)
    (hown : w.ownsRow base 3 1 (.slice a n cap) n (xs.map I)) :
    Calls Tryd.prog 14 #[RowsV a n cap st, .int .i64 1] w fun e w' => e = .returned (.int .i64 ((n : Int) + 1)) ∧ w'.ownsRow base 3 1 (.slice a n cap) n ((marksI n).map I) ∧ w.grownBy w' (Value.slice a n cap).ownBlock := by
  rcases hown.2 with ⟨hv, h0⟩ | ⟨g, c, cur, hv, hbg, hr⟩
  · obtain ⟨rfl, rfl⟩ : a = none ∧ cap = 0 := by simpa [h0] using hv
    subst h0
    go_enter Tryd.func14, Tryd.ntmps14
    go_wp2_with fail
    refine (markIntS_none none 0 _).mono ?_
    rintro e w1 ⟨rfl, rfl⟩
    go_wp2
    go_ret
    exact ⟨rfl, World.ownsRow_nil _ _ _ _, World.grownBy_alloc _ _ _⟩
  · obtain ⟨rfl, rfl⟩ : a = some ⟨g, 0, none⟩ ∧ cap = c := by simpa using hv
    refine (markRows_own base g n cap st xs w hx hn hown).mono ?_
    rintro e w1 ⟨rfl, o, hs, h1, h2, h3, h4⟩
    exact ⟨rfl, o, ⟨h1, h2, h3, hs, fun k hk hkg => h4 k hk (fun e => hkg (by rw [e]; rfl))⟩⟩
end Go.Proofs.YtkifebhkgldefaaDoor
