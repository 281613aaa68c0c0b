/- The program's teller: what a scan needs. -/
import Derived.Test.YtekafaoleniebapDoorTell2
import Derived.LoopN
namespace Go.Proofs.YtekafaoleniebapDoor
open Go.ChangeShapes Go.WideShapes Go.ChangeAt Go.RowKit

def scanJ (fs : List Int) (n : Nat) : Nat → List Stp
  | 0 => []
  | j + 1 => scanJ fs n j ++ [stayS fs n (placeN 1 (j : Int))]
theorem scanJ_four (fs : List Int) (n : Nat) : scanJ fs n 4 = scanS fs n := rfl
theorem scanJ_len (fs : List Int) (n j : Nat) (h : j ≤ 4) : (scanJ fs n j).length ≤ 4 := by
  have e : ∀ j, (scanJ fs n j).length = j := fun j => by
    induction j with
    | zero => rfl
    | succ j ih => simp [scanJ, ih]
  rw [e]; exact h
/-- What has been told, and that it goes on from there. -/
structure Scans (wh : Bool) (go : Ent → Bool) (ts : List TypeId) (J Jx : List Ent → World → Prop) (a : Option Addr) (n c : Nat) (F : Value) (fs : List Int) (W0 W : World) (pre : List Ent) (j : Nat) (wr : World) : Prop where
  sits : Sits W0.heap.size ts J a n fs W0 W wr (pre ++ wordsT wh (scanJ fs n j))
  more : ∀ (B : List Stp) (b : Bool) (W'' : World), Fin wh go W0.heap.size ts J Jx W B (pre ++ wordsT wh (scanJ fs n j)) b W'' → Fin wh go W0.heap.size ts J Jx W (scanJ fs n j ++ B) pre b W''
  box : wr.heap[W.heap.size]? = some (tellCells a n c F wh)

set_option maxRecDepth 100000 in
set_option maxHeartbeats 2000000 in
theorem scan_any (a : Option Addr) (n c : Nat) (F : Value) (wh : Bool) (fs : List Int) (go : Ent → Bool) (ts : List TypeId) (J Jx : List Ent → World → Prop) (pre : List Ent) (W0 W : World)
    (hG : Goes F wh a n c fs go W0 ts J Jx) (hB : Base W0 a n fs) (hl : pre.length ≤ 50) (hW : Below W0.heap.size W0 W) (hJ : J pre W) :
    Calls Tryd.prog 47 #[.agg #[.slice a n c, F, .bool wh]] W fun e W' => ∃ b, e = .returned (.bool b) ∧ Fin wh go W0.heap.size ts J Jx W (scanS fs n) pre b W' := by
  have HG : Hid (Goes F wh a n c fs go W0 ts J Jx) := hG
  have HLN : Hid (pre.length ≤ 50) := hl
  clear hl
  have HI : Hid (Scans wh go ts J Jx a n c F fs W0 W pre 0 (W.alloc (.cells #[.slice a n c, F, .bool wh] 65))) :=
    ⟨by simpa [scanJ, wordsT] using (show Sits W0.heap.size ts J a n fs W0 W W pre from ⟨hB, hW, hJ, Kp.of_below (Below.refl _ _) hW.size⟩).on hG.gj ((Below.refl _ _).alloc (Nat.le_refl _) _), fun B b W'' h => by simpa [scanJ, wordsT] using h, World.alloc_heap_new W _⟩
  clear hG hB hW hJ
  go_enter Tryd.func47, Tryd.ntmps47
  go_wp2_with fail
  go_loopw [4] (fun i wr => ∃ j : Nat, j ≤ 4 ∧ i = .int .i64 (j : Int) ∧ Scans wh go ts J Jx a n c F fs W0 W pre j wr) (fun i _ => 4 - (intOf i).toNat)
  case atStart => exact ⟨0, by omega, rfl, HI.out⟩
  case round =>
    obtain ⟨j, hj, rfl, hs⟩ := hrel
    have HS : Hid (Scans wh go ts J Jx a n c F fs W0 W pre j wr) := hs
    clear hs
    by_cases hlt : j < 4
    · have hl1 : (j : Int) < 4 := by omega
      have HL : Hid (j < 4) := hlt
      clear hlt
      obtain ⟨wd, hwd⟩ : ∃ wd, wr.drew = wd := ⟨_, rfl⟩
      have hdd : Below wr.heap.size wr wd := by rw [← hwd]; exact (Below.refl _ _).drew
      have HS0 : Hid (Sits W0.heap.size ts J a n fs W0 W wd (pre ++ wordsT wh (scanJ fs n j))) := HS.out.sits.on HG.out.gj hdd
      have B0 : Hid (wd.heap[W.heap.size]? = some (tellCells a n c F wh)) := (hdd.block _ (Array.getElem?_eq_some_iff.1 HS.out.box).1).trans HS.out.box
      have K0 : Hid (TBox a n c F wh W.heap.size wd) := tbox_of B0.out
      clear hdd
      go_wp2_with fail
      go_region_held3 (fun w' => w'.cell? ⟨W.heap.size, 0, none⟩ = some (.slice a n c) ∧ w'.cell? ⟨W.heap.size, 1, none⟩ = some F ∧ w'.cell? ⟨W.heap.size, 2, none⟩ = some (.bool wh))
        (first | (with_reducible exact K2.out) | (with_reducible exact K1.out) | (with_reducible exact K0.out) | exact hwd ▸ K0.out | go_keep)
        (first
        | (go_at_call 44
           refine (implRowAt_any (j : Int) _ (by first | exact HS0.out.names | exact hwd ▸ HS0.out.names)).mono ?_
           rintro e w1 ⟨rfl, hb1⟩
           have hb1' : Below wd.heap.size wd w1 := by first | exact hb1 | exact hwd ▸ hb1
           have HS1 : Hid (Sits W0.heap.size ts J a n fs W0 W w1 (pre ++ wordsT wh (scanJ fs n j))) := HS0.out.on HG.out.gj hb1'
           have B1 : Hid (w1.heap[W.heap.size]? = some (tellCells a n c F wh)) := (hb1'.block _ (Array.getElem?_eq_some_iff.1 B0.out).1).trans B0.out
           have K1 : Hid (TBox a n c F wh W.heap.size w1) := tbox_of B1.out
           clear hb1 hb1')
        | (go_at_call 43
           refine (stays_any a n c F wh (placeN 1 (j : Int)) fs go ts J Jx _ W0 _ HG.out HS1.out.base (lenLt (lenA (scanJ_len fs n j (Nat.le_of_lt HL.out)) HLN.out) (by decide)) HS1.out.low HS1.out.j).mono ?_
           rintro e w2 ⟨b, rfl, hF⟩
           have HF : Hid (Fin wh go W0.heap.size ts J Jx w1 [stayS fs n (placeN 1 (j : Int))] (pre ++ wordsT wh (scanJ fs n j)) b w2) := hF
           have B2 : Hid (w2.heap[W.heap.size]? = some (tellCells a n c F wh)) := hF.kx.keep _ _ _ _ B1.out (HG.out.tt _ (by simp))
           have K2 : Hid (TBox a n c F wh W.heap.size w2) := tbox_of B2.out
           clear hF))
      cases b with
      | false =>
        go_wp2
        go_ret
        refine ⟨false, rfl, ?_⟩
        have h1 := HS.out.more _ _ _ (Fin.noL (Fin.kp HS1.out.kp HF.out) ((scanS fs n).drop (j + 1)))
        have e : scanJ fs n j ++ ([stayS fs n (placeN 1 (j : Int))] ++ (scanS fs n).drop (j + 1)) = scanS fs n := by
          have := HL.out
          rcases j with _ | _ | _ | _ | j
          · rfl
          · rfl
          · rfl
          · rfl
          · omega
        rw [e] at h1
        exact h1
      | true =>
        go_wp2
        have hp := Fin.passed HF.out
        have hp' := Fin.passed (Fin.kp HS1.out.kp HF.out)
        have e : pre ++ wordsT wh (scanJ fs n (j + 1)) = pre ++ wordsT wh (scanJ fs n j) ++ wordsT wh [stayS fs n (placeN 1 (j : Int))] := by
          have hj4 := HL.out
          have p0 : placeN 1 0 = 0 := by decide
          have p1 : placeN 1 1 = 1 := by decide
          have p2 : placeN 1 2 = 2 := by decide
          have p3 : placeN 1 3 = 3 := by decide
          rcases j with _ | _ | _ | _ | j
          · simp [scanJ, wordsT, stayS, p0]
          · simp [scanJ, wordsT, stayS, p0, p1]
          · simp [scanJ, wordsT, stayS, p0, p1, p2]
          · simp [scanJ, wordsT, stayS, p0, p1, p2, p3]
          · omega
        refine ⟨⟨j + 1, HL.out, by go_num, ⟨?_, ?_, B2.out⟩⟩, by simp [intOf]; omega⟩
        · rw [e]; exact HS1.out.told hp.1 hp.2.1
        · intro B b W'' h
          rw [e] at h
          have := HS.out.more _ _ _ (hp'.2.2 B b W'' h)
          rwa [← List.append_assoc] at this
    · obtain rfl : j = 4 := by omega
      go_wp2
      go_ret
      refine ⟨true, rfl, ?_⟩
      have := HS.out.more [] true wr ⟨rfl, HS.out.sits.j, HS.out.sits.kp⟩
      rwa [List.append_nil, scanJ_four] at this
end Go.Proofs.YtekafaoleniebapDoor
