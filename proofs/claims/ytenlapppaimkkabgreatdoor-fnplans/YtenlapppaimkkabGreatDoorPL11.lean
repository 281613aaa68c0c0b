/- Texts joined: SortedE. -/
import Derived.Test.YtenlapppaimkkabGreatDoorPL10
set_option maxHeartbeats 1000000
set_option maxRecDepth 100000
namespace Go.Proofs.YtenlapppaimkkabGreatDoor
section
open Go.ChangeShapes Go.WideShapes Go.ChangeAt Go.RowKit Go.Shelf
theorem sortedFunc_any (g : Nat) (lb : Array Value) (L : List Ent) (w : World) (eg : ∀ args w, (callFunc g args).run Tryz.prog w = .ok (.enter g args) w)
    (hseq : SeqGo Tryz.prog g lb encE (fun _ => true) w.heap.size [34, 47] L (w.alloc (.cells #[.slice none 0 0] 34))) (h0 : 0 < L.length) (hL : L.length ≤ 12) :
    Calls Tryz.prog 25 #[.func (.func g) #[] lb, .func (.func 27) #[] #[]] w fun e w' => ∃ q cap, e = .returned (.slice (some ⟨q, 0, none⟩) L.length cap) ∧ w.heap.size ≤ q ∧ EntAt w' (some ⟨q, 0, none⟩) L.length (flatE (sortL L)) ∧ Below w.heap.size w w' := by
  have HH : Hid (Calls Tryz.prog 71 #[.func (.func g) #[] lb] w fun e w' => ∃ v, e = .returned v ∧ w'.ownsRow w.heap.size 47 3 v L.length ((flatE L).map I) ∧ Below w.heap.size w w') := collect_any g lb L w eg hseq
  have HL : Hid (0 < L.length ∧ L.length ≤ 12) := ⟨h0, hL⟩
  clear hseq eg h0 hL
  go_enter Tryz.func25, Tryz.ntmps25
  go_wp2_with fail
  refine HH.out.mono ?_
  rintro e w' ⟨v, rfl, h1, h2⟩
  obtain ⟨q, cap, rfl⟩ : ∃ q cap, v = .slice (some ⟨q, 0, none⟩) L.length cap := by
    rcases h1.2 with ⟨_, h⟩ | ⟨q, cap, _, e, _⟩
    · have := HL.out.1; omega
    · exact ⟨q, cap, e⟩
  have H2 : Hid (w'.ownsRow w.heap.size 47 3 (.slice (some ⟨q, 0, none⟩) L.length cap) L.length ((flatE L).map I) ∧ Below w.heap.size w w') := ⟨h1, h2⟩
  clear h1 h2
  go_wp2_with fail
  refine (sortE_any w.heap.size q cap L _ H2.out.1 HL.out.2).mono ?_
  rintro e w2 ⟨rfl, h3, h4⟩
  have hq := (H2.out.1.lt q rfl).1
  have H3 : Hid (EntAt w2 (some ⟨q, 0, none⟩) L.length (flatE (sortL L)) ∧ Below w.heap.size w w2 ∧ w.heap.size ≤ q) := ⟨h3, H2.out.2.trans (h4.mono hq), hq⟩
  clear h3 h4 hq
  go_wp2
  go_ret
  exact ⟨q, cap, rfl, H3.out.2.2, H3.out.1, H3.out.2.1⟩
end
end Go.Proofs.YtenlapppaimkkabGreatDoor
