/- The drawing of a row and of places, walked. -/
import Derived.Test.YtmgofehafjogfaaDrawT9
import Derived.Test.YtmgofehafjogfaaAppI
import Derived.Test.YtmgofehafjogfaaProjL
import Derived.Deep.Cut
namespace Go.Proofs.Ytmgofehafjogfaa
open Go.ChangeShapes Go.WideShapes Go.ChangeAt Go.RowKit

set_option maxHeartbeats 8000000 in
set_option maxRecDepth 100000 in
theorem drawProject_any (a : Option Addr) (n c : Nat) (w : World) (hn : n ≤ 1048576) (hB : BytesAt w w.heap.size a n) :
    Calls Try.prog 27 #[.slice a n c] w fun e w' => (∃ v u L xs, e = .returned (.tuple #[v, u]) ∧ VOwn w' w.heap.size v L ∧ IOwn w' w.heap.size u xs ∧ L.length ≤ 4 ∧ xs.length ≤ 3 ∧ (¬ u = .slice none 0 0) ∧ VasSz L) ∧ Below w.heap.size w w' := by
  have HB : Hid (BytesAt w w.heap.size a n) := hB
  clear hB
  go_enter Try.func27, Try.ntmps27
  go_wp2_with fail
  refine (l1New_any a n c _ hn HB.out).mono ?_
  rintro e w1 ⟨rfl, hC, hb, hz⟩
  obtain ⟨p, hp⟩ : ∃ p, w.heap.size = p := ⟨_, rfl⟩
  have HP : Hid (w.heap.size = p) := hp
  rw [HP.out] at hC ⊢
  have C1 : Hid (Cur 102 w1 p a n c) := hC
  have B1 : Hid (Below p w w1) := by rw [← hp]; exact hb
  have HPG : Hid (p < w1.heap.size) := hC.lt
  clear hC hb hz hp
  go_wp2_with fail
  refine (l18DrawRight_any p a n c w1 C1.out).mono ?_
  rintro e w2 ⟨v2, L, rfl, ho, ⟨hgd, -⟩, hc, hf⟩
  have A2 : Hid (VOwn w2 w1.heap.size v2 L) := ho
  have HL4 : Hid (L.length ≤ 4) := hgd.2
  have HVZ : Hid (VasSz L) := fun x hx => by have h1 := hgd.1 x hx; unfold VaGood at h1; omega
  have C2 : Hid (Cur 102 w2 p a n c) := hc
  have B2 : Hid (Below p w w2) := B1.out.grown hf (Nat.le_of_lt HPG.out) (fun k hk => by cases hk; exact Nat.le_refl _)
  have S12 : Hid (w1.heap.size ≤ w2.heap.size) := hf.size
  have LA : Hid (∀ k, v2.ownBlock = some k → k < w2.heap.size) := own_lt ho
  clear ho hgd hc hf
  obtain ⟨g, hg⟩ : ∃ g, w2.heap.size = g := ⟨_, rfl⟩
  obtain ⟨W3, hW3⟩ : ∃ W3, w2.alloc (.cells #[] 3) = W3 := ⟨_, rfl⟩
  have HG : Hid (w2.heap.size = g) := hg
  have HW3 : Hid (w2.alloc (.cells #[] 3) = W3) := hW3
  have O3 : Hid (IOwn W3 g (.slice (some ⟨g, 0, none⟩) 0 0) []) := by rw [← hW3]; exact iown_nil w2 hg (Nat.le_refl _)
  have A3 : Hid (VOwn W3 w1.heap.size v2 L) := by rw [← hW3]; exact A2.out.alloc _
  have C3 : Hid (Cur 102 W3 p a n c) := by rw [← hW3]; exact cur_alloc C2.out _
  have B3 : Hid (Below p w W3) := by rw [← hW3]; exact B2.out.alloc (Nat.le_trans (Nat.le_of_lt HPG.out) S12.out) _
  have Z3 : Hid (g ≤ W3.heap.size) := by show g ≤ W3.heap.size; rw [← hW3, World.size_alloc, hg]; exact Nat.le_succ _
  have LG : Hid (∀ k, v2.ownBlock = some k → k < g) := by rw [← hg]; exact LA.out
  have PG : Hid (p < g) := by rw [← hg]; exact Nat.lt_of_lt_of_le HPG.out S12.out
  clear hg hW3
  go_upto_region 4 with (fail)
  rw [HW3.out, HG.out]
  go_wp2
  go_loopw [6, 7] (fun v i wr => ∃ xs : List Int, xs.length ≤ 3 ∧ i = .int .i64 (xs.length : Int) ∧ IOwn wr g v xs ∧ (¬ v = .slice none 0 0) ∧ VOwn wr w1.heap.size v2 L ∧ Cur 102 wr p a n c ∧ Below p w wr ∧ g ≤ wr.heap.size) (fun _ i _ => 3 - (RowKit.intOf i).toNat)
  case atStart => exact ⟨[], Nat.zero_le _, rfl, O3.out, (fun e => by cases e), A3.out, C3.out, B3.out, Z3.out⟩
  case round =>
    obtain ⟨xs, hx3, rfl, ho, hnn, ha, hc, hb, hz⟩ := hrel
    have N1 : Hid (¬ u6 = .slice none 0 0) := hnn
    have O4 : Hid (IOwn wr g u6 xs) := ho
    have A4 : Hid (VOwn wr w1.heap.size v2 L) := ha
    have C4 : Hid (Cur 102 wr p a n c) := hc
    have B4 : Hid (Below p w wr) := hb
    have Z4 : Hid (g ≤ wr.heap.size) := hz
    have hX0 : (0 : Int) ≤ (xs.length : Int) := by omega
    have hXi : (xs.length : Int) ≤ 3 := by omega
    clear ho ha hc hb hz hnn
    go_wp2_with fail
    refine (l1Below_any p a n c 4 (by omega) (by omega) wr C4.out).mono ?_
    rintro e w5 ⟨x, hx, rfl, hC5, hO5⟩
    have C5 : Hid (Cur 102 w5 p a n c) := hC5
    have O5 : Hid (IOwn w5 g u6 xs) := own_only O4.out (far_only hO5) PG.out
    have A5 : Hid (VOwn w5 w1.heap.size v2 L) := own_only A4.out (far_only hO5) HPG.out
    have B5 : Hid (Below p w w5) := B4.out.grown (far_only hO5) (Nat.le_trans (Nat.le_of_lt PG.out) Z4.out) (fun k hk => by cases hk; exact Nat.le_refl _)
    have Z5 : Hid (g ≤ w5.heap.size) := Nat.le_trans Z4.out (Nat.le_of_eq hO5.size.symm)
    clear hC5 hO5
    by_cases hlt : xs.length < x
    · have hlt' : (xs.length : Int) < (x : Int) := by omega
      have HLN : Hid (xs.length < 3) := by show xs.length < 3; omega
      clear hx hlt
      go_upto_region 7 with (fail)
      go_wp2_with fail
      refine (l1Below_any p a n c 6 (by omega) (by omega) w5 C5.out).mono ?_
      rintro e w6 ⟨y, hy, rfl, hC6, hO6⟩
      have C6 : Hid (Cur 102 w6 p a n c) := hC6
      have O6 : Hid (IOwn w6 g u6 xs) := own_only O5.out (far_only hO6) PG.out
      have A6 : Hid (VOwn w6 w1.heap.size v2 L) := own_only A5.out (far_only hO6) HPG.out
      have B6 : Hid (Below p w w6) := B5.out.grown (far_only hO6) (Nat.le_trans (Nat.le_of_lt PG.out) Z5.out) (fun k hk => by cases hk; exact Nat.le_refl _)
      have Z6 : Hid (g ≤ w6.heap.size) := Nat.le_trans Z5.out (Nat.le_of_eq hO6.size.symm)
      have hy0 : (0 : Int) ≤ (y : Int) := by omega
      clear hC6 hO6
      go_wp2_with
        (at_builtin
         refine list_appI _ rfl _ _ rfl g u6 xs rfl (O6.out.alloc _) ⟨w6.heap.size, 0, none⟩ 1 1 [(y : Int) - 1] rfl rfl (inews _ _ rfl _) (by have := HLN.out; omega) (by have := Z6.out; simp; omega) ?_
         intro v7 w7 hown hbel
         have O7 : Hid (IOwn w7 g v7 (xs ++ [(y : Int) - 1])) := hown
         have hb7 : Below g w6 w7 := hbel w6 g (Nat.le_refl _) ((Below.refl g w6).alloc Z6.out _)
         have C7 : Hid (Cur 102 w7 p a n c) := C6.out.keep fun k hk => hb7.block k (Nat.lt_of_le_of_lt hk PG.out)
         have A7 : Hid (VOwn w7 w1.heap.size v2 L) := own_low A6.out LG.out hb7
         have B7 : Hid (Below p w w7) := B6.out.trans (hb7.mono (Nat.le_of_lt PG.out))
         have Z7 : Hid (g ≤ w7.heap.size) := Nat.le_trans Z6.out hb7.size
         have N7 : Hid (¬ v7 = .slice none 0 0) := fun e => by have h1 := hown.1; subst e; rcases hown.2 with ⟨_, h2⟩ | ⟨_, _, _, h2, _⟩; all_goals first | (cases h2; done) | (simp at h2; done)
         clear hown hbel hb7)
      go_roundw
      case rel =>
        refine ⟨xs ++ [(y : Int) - 1], ?_, ?_, O7.out, N7.out, A7.out, C7.out, B7.out, Z7.out⟩
        · rw [List.length_append]; have := HLN.out; show xs.length + 1 ≤ 3; omega
        · rw [List.length_append]; show Value.int .i64 ((xs.length : Int) + 1) = .int .i64 ((xs.length + 1 : Nat) : Int); rfl
      case measure => have := HLN.out; simp [RowKit.intOf]; omega
    · have hlt' : ¬ ((xs.length : Int) < (x : Int)) := by omega
      go_wp2
      (try simp only [Exit.inBlock, Exit.then])
      refine bodyPost_ret (by simp [results, Try.results27, go_sem]; try rfl) rfl ?_
      exact ⟨⟨_, _, L, xs, rfl, own_weaken A5.out (by rw [HP.out]; exact Nat.le_of_lt HPG.out), own_weaken O5.out (by rw [HP.out]; exact Nat.le_of_lt PG.out), HL4.out, hx3, N1.out, HVZ.out⟩, by rw [HP.out]; exact B5.out⟩
end Go.Proofs.Ytmgofehafjogfaa
