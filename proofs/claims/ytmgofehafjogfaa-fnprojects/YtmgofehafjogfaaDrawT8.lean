/- The drawing of tuples, walked. -/
import Derived.Test.YtmgofehafjogfaaDrawV2
import Derived.Test.YtmgofehafjogfaaOnceL
import Derived.Test.YtmgofehafjogfaaVasO
import Derived.Deep.Cut
namespace Go.Proofs.Ytmgofehafjogfaa
open Go.ChangeShapes Go.WideShapes Go.ChangeAt Go.RowKit

theorem far_low {w0 w w' : World} {row : Option Nat} (h0 : w0.grownBy w row) (h : Below w0.heap.size w w') : w0.grownBy w' row :=
  ⟨h.os.trans h0.os, h.tape.trans h0.tape, h.output.trans h0.output, Nat.le_trans h0.size h.size, fun k hk hr => (h.block k hk).trans (h0.block k hk hr)⟩
set_option maxHeartbeats 4000000 in
set_option maxRecDepth 100000 in
theorem l18DrawRight_any (p : Nat) (a : Option Addr) (n c : Nat) (w : World) (hC : Cur 102 w p a n c) :
    Calls Try.prog 64 #[.pointer (some ⟨p, 0, none⟩)] w fun e w' => ∃ v L, e = .returned v ∧ VOwn w' w.heap.size v L ∧ (TupGood L ∧ ¬ v = .slice none 0 0) ∧ Cur 102 w' p a n c ∧ w.grownBy w' (some p) := by
  have hpw := hC.lt
  obtain ⟨g, hg⟩ : ∃ g, w.heap.size = g := ⟨_, rfl⟩
  obtain ⟨W, hW⟩ : ∃ W, w.alloc (.cells #[] 43) = W := ⟨_, rfl⟩
  have HW : Hid (w.alloc (.cells #[] 43) = W) := hW
  have HG : Hid (w.heap.size = g) := hg
  have HPG : Hid (p < g) := by rw [← hg]; exact hpw
  have C0 : Hid (Cur 102 W p a n c) := by rw [← hW]; exact cur_alloc hC _
  have O0 : Hid (VOwn W g (.slice (some ⟨g, 0, none⟩) 0 0) []) := by rw [← hW]; exact vown_nil w hg (Nat.le_refl _)
  have F0 : Hid (w.grownBy W (some p)) := by rw [← hW]; exact World.grownBy_alloc _ _ _
  have Z0 : Hid (g ≤ W.heap.size) := by show g ≤ W.heap.size; rw [← hW, World.size_alloc, hg]; exact Nat.le_succ _
  clear hW hC hg
  go_enter Try.func64, Try.ntmps64
  go_upto_region 2 with (fail)
  rw [HW.out, HG.out]
  go_wp2
  go_loopw [3, 4] (fun v i wr => ∃ L : List Va3, L.length ≤ 4 ∧ i = .int .i64 (L.length : Int) ∧ (∀ x ∈ L, VaGood x.1 x.2.1 x.2.2) ∧ VOwn wr g v L ∧ (¬ v = .slice none 0 0) ∧ Cur 102 wr p a n c ∧ w.grownBy wr (some p) ∧ g ≤ wr.heap.size) (fun _ i _ => 4 - (RowKit.intOf i).toNat)
  case atStart => exact ⟨[], Nat.zero_le _, rfl, fun x hx => (by cases hx), O0.out, (fun e => by cases e), C0.out, F0.out, Z0.out⟩
  case round =>
    obtain ⟨L, hL4, rfl, hgd, ho, hnn, hc, hf, hz⟩ := hrel
    have N1 : Hid (¬ u3 = .slice none 0 0) := hnn
    have HGD : Hid (∀ x ∈ L, VaGood x.1 x.2.1 x.2.2) := hgd
    have O1 : Hid (VOwn wr g u3 L) := ho
    have C1 : Hid (Cur 102 wr p a n c) := hc
    have F1 : Hid (w.grownBy wr (some p)) := hf
    have Z1 : Hid (g ≤ wr.heap.size) := hz
    have hL0 : (0 : Int) ≤ (L.length : Int) := by omega
    have hLi : (L.length : Int) ≤ 4 := by omega
    clear hgd ho hc hf hz hnn
    go_wp2_with fail
    refine (l1Below_any p a n c 5 (by omega) (by omega) wr C1.out).mono ?_
    rintro e w2 ⟨x, hx, rfl, hC2, hO2⟩
    have C2 : Hid (Cur 102 w2 p a n c) := hC2
    have O2 : Hid (VOwn w2 g u3 L) := own_only O1.out (far_only hO2) HPG.out
    have F2 : Hid (w.grownBy w2 (some p)) := F1.out.trans (far_only hO2)
    have Z2 : Hid (g ≤ w2.heap.size) := Nat.le_trans Z1.out (Nat.le_of_eq hO2.size.symm)
    clear hC2 hO2
    by_cases hlt : L.length < x
    · have hlt' : (L.length : Int) < (x : Int) := by omega
      have HLN : Hid (L.length < 4) := by show L.length < 4; omega
      clear hx hlt
      go_upto_region 5 with (fail)
      go_wp2_with (first
        | (go_at_call 82
           refine (l17DrawRight_any p a n c w2 C2.out).mono ?_
           rintro e w3 ⟨k, m, s, rfl, hg3, hC3, hO3⟩
           have HG3 : Hid (VaGood k m s) := hg3
           have CX : Hid (Cur 102 w3 p a n c) := hC3
           have OX : Hid (VOwn w3 g u3 L) := own_only O2.out hO3 HPG.out
           have FX : Hid (w.grownBy w3 (some p)) := F2.out.trans hO3
           have ZX : Hid (g ≤ w3.heap.size) := Nat.le_trans Z2.out hO3.size
           clear hg3 hC3 hO3)
        | (at_builtin
           refine list_appV _ rfl _ _ rfl g u3 L rfl (OX.out.alloc _) ⟨w3.heap.size, 0, none⟩ 1 1 [(k, m, s)] rfl rfl (vnews _ _ rfl (k, m, s)) (by have := HLN.out; omega) (by have := ZX.out; simp; omega) ?_
           intro v4 w4 hown hbel hnil
           have N4 : Hid (¬ v4 = .slice none 0 0) := fun e => by have h1 := (hnil.1 e).2; cases h1
           have O4 : Hid (VOwn w4 g v4 (L ++ [(k, m, s)])) := hown
           have hb4 : Below g w3 w4 := hbel w3 g (Nat.le_refl _) ((Below.refl g w3).alloc ZX.out _)
           have C4 : Hid (Cur 102 w4 p a n c) := CX.out.keep fun k hk => hb4.block k (Nat.lt_of_le_of_lt hk HPG.out)
           have F4 : Hid (w.grownBy w4 (some p)) := far_low FX.out (by rw [HG.out]; exact hb4)
           have Z4 : Hid (g ≤ w4.heap.size) := Nat.le_trans ZX.out hb4.size
           clear hown hbel hb4 hnil))
      go_roundw
      case rel =>
        refine ⟨L ++ [(k, m, s)], ?_, ?_, ?_, O4.out, N4.out, C4.out, F4.out, Z4.out⟩
        · rw [List.length_append]; have := HLN.out; show L.length + 1 ≤ 4; omega
        · rw [List.length_append]; show Value.int .i64 ((L.length : Int) + 1) = .int .i64 ((L.length + 1 : Nat) : Int); rfl
        · intro x hx
          rcases List.mem_append.1 hx with hx | hx
          · exact HGD.out x hx
          · rw [List.mem_singleton.1 hx]; exact HG3.out
      case measure => have := HLN.out; simp [RowKit.intOf]; omega
    · have hlt' : ¬ ((L.length : Int) < (x : Int)) := by omega
      go_wp2
      go_ret
      have ho := O2.out
      have hg := HG.out
      subst hg
      exact ⟨_, L, rfl, ho, ⟨⟨HGD.out, hL4⟩, N1.out⟩, C2.out, F2.out⟩
end Go.Proofs.Ytmgofehafjogfaa
