/- The laws' own helper markRows, walked from the number 1 on. -/
import Derived.Test.YtkifebhkgldefaaDoorLawRows
import Derived.Test.YtkifebhkgldefaaDoorMarkN
namespace Go.Proofs.YtkifebhkgldefaaDoor
open Go.ChangeShapes Go.WideShapes Go.ChangeAt Go.RowKit

set_option maxHeartbeats 400000 in
theorem markRows_own (base g n cap : Nat) (st : Int) (xs : List Int) (w : World) (hx : xs.length = n) (hn : n ≤ 1099511627776)
    (hown : w.ownsRow base 3 1 (.slice (some ⟨g, 0, none⟩) n cap) n (xs.map I)) :
    Calls Tryd.prog 14 #[RowsV (some ⟨g, 0, none⟩) n cap st, .int .i64 1] w fun e w' =>
      e = .returned (.int .i64 ((n : Int) + 1)) ∧ w'.ownsRow base 3 1 (.slice (some ⟨g, 0, none⟩) n cap) n ((marksI n).map I) ∧ w.heap.size ≤ w'.heap.size ∧ w'.os = w.os ∧ w'.tape = w.tape ∧ w'.output = w.output ∧ ∀ k, k < w.heap.size → k ≠ g → w'.heap[k]? = w.heap[k]? := by
  have HO : Hid (w.ownsRow base 3 1 (.slice (some ⟨g, 0, none⟩) n cap) n (xs.map I)) := hown
  clear hown
  go_enter Tryd.func14, Tryd.ntmps14
  go_wp2_with fail
  refine (markIntS_own base g n cap xs _ hx hn (HO.out.alloc _)).mono ?_
  rintro e w1 ⟨rfl, own1, hb1, hs1, ho1⟩
  have HO1 : Hid (w1.ownsRow base 3 1 (.slice (some ⟨g, 0, none⟩) n cap) n ((marksI n).map I)) := own1
  have HH : Hid (∀ k, k < w.heap.size → k ≠ g → w1.heap[k]? = w.heap[k]?) := fun k hk hkg => (ho1 k hkg).trans (Below.heap_alloc _ _ _ hk)
  have e1 : w1.os = w.os := hb1.os
  have e2 : w1.tape = w.tape := hb1.tape
  have e3 : w1.output = w.output := hb1.output
  have hsz : w.heap.size ≤ w1.heap.size := by simp at hs1; omega
  clear own1 ho1 hb1 hs1
  go_wp2
  go_ret
  exact ⟨rfl, HO1.out, hsz, e1, e2, e3, HH.out⟩
end Go.Proofs.YtkifebhkgldefaaDoor
