/- What the law FnExactBegin needs besides: Helps, Res, a Mem that is handed in. -/
import Derived.Test.YtbdfopokimpeiaqSpecBegin
import Derived.Test.YtbdfopokimpeiaqMarkM
namespace Go.Proofs.Ytbdfopokimpeiaq
open Go.ChangeShapes Go.WideShapes Go.ChangeAt Go.RowKit Go.Joins

abbrev HelpV (a b c d : Int) : Value := .agg #[.int .i64 a, .int .i64 b, .int .i64 c, .int .i64 d]
set_option maxHeartbeats 1000000 in
theorem eqHelp_same (a b c d : Int) (w : World) : Calls Try.prog 31 #[HelpV a b c d, HelpV a b c d] w fun e w' => e = .returned (.bool true) ∧ Below w.heap.size w w' := by
  have hb : Below w.heap.size w ((w.alloc (.cells #[.int .i64 a, .int .i64 b, .int .i64 c, .int .i64 d] 52)).alloc (.cells #[.int .i64 a, .int .i64 b, .int .i64 c, .int .i64 d] 52)) := ((Below.refl _ w).alloc (Nat.le_refl _) _).alloc (by simp) _
  have HB : Hid _ := hb
  clear hb
  go_enter Try.func31, Try.ntmps31
  go_wp2
  go_ret
  exact ⟨rfl, HB.out⟩
theorem markRes_o (base : Nat) (code : Int) (v : Value) (n : Nat) (k0 : Int) (zs : List Int) (w : World) (hn : n ≤ 1048576) (hk0 : 0 ≤ k0) (hk1 : k0 ≤ 4611686018427387904) (h : w.ownsRow base 3 1 v n (zs.map I)) :
    Calls Try.prog 43 #[.agg #[.int .i64 code, v], .int .i64 k0] w fun e w' => e = .returned (.int .i64 (k0 + (n : Int))) ∧ Below (min base w.heap.size) w w' ∧ ∀ b, b < w.heap.size → v.ownBlock ≠ some b → w'.heap[b]? = w.heap[b]? := by
  obtain ⟨a, c, rfl, _⟩ := owns_slice h
  obtain ⟨W, hW⟩ : ∃ W, w.alloc (.cells #[.int .i64 code, .slice a n c] 68) = W := ⟨_, rfl⟩
  have hb0 : Below w.heap.size w W := by rw [← hW]; exact (Below.refl _ w).alloc (Nat.le_refl _) _
  have HB0 : Hid (Below w.heap.size w W) := hb0
  have HO : Hid (W.ownsRow base 3 1 (.slice a n c) n (zs.map I)) := owns_below h hb0 (Nat.le_refl _)
  have HW : Hid (w.alloc (.cells #[.int .i64 code, .slice a n c] 68) = W) := hW
  clear h hW hb0
  go_enter Try.func43, Try.ntmps43
  go_wp2_with fail
  rw [HW.out]
  refine (markIntS_o base _ n k0 zs _ hn hk0 hk1 HO.out).mono ?_
  rintro e w1 ⟨rfl, _, ob⟩
  have OB : Hid _ := ob
  clear ob
  go_wp2
  go_ret
  exact ⟨rfl, (HB0.out.mono (Nat.min_le_right _ _)).trans (OB.out.bel.mono (Nat.min_le_left _ _)), fun b hb hne => by rw [OB.out.oth b hne, HB0.out.block b hb]⟩
/-- A Mem that is handed in: all that is asked of it. -/
def MemIn (x : World) (g h m n : Nat) (fs : List Int) (ds : List DK) : Prop :=
  TripAt x (some ⟨g, 0, none⟩) m fs ∧ DescAt x (some ⟨h, 0, none⟩) n ds ∧ SomeAt x (some ⟨h, 0, none⟩) n ds ∧ CapAt x (some ⟨h, 0, none⟩) n ds ∧ NilAt x (some ⟨h, 0, none⟩) n ds
theorem MemIn.below {x y : World} {g h m n : Nat} {fs : List Int} {ds : List DK} (i : MemIn x g h m n fs ds) {B : Nat} (hb : Below B x y) (hB : x.heap.size ≤ B) : MemIn y g h m n fs ds :=
  ⟨i.1.below hb hB, i.2.1.below hb hB, i.2.2.1.below hb hB, i.2.2.2.1.below hb hB, i.2.2.2.2.below hb hB⟩
theorem memIn_of {x : World} {g h m n : Nat} {fs : List Int} {ds : List DK} (o : x.ownsRow g 80 3 (SL g m) m (fs.map I)) (p : DescOwn x h n ds n) (hl : ds.length = n) (hm : m ≤ 1048576) (hn : n ≤ 1048576) (hs : Small n ds) : MemIn x g h m n fs ds :=
  ⟨own_tripAt o hm, p.at hl hn hs, p.somes, p.caps, p.nils⟩
/-- The answer of one of both, laid in boxes. -/
structure BegAns (W0 : World) (b1 b2 : Nat) (F : Nat → Value) (m : Nat) (fs : List Int) (n : Nat) (ds' : List DK) (hT hS : Int) (y : World) : Prop where
  bel : Below W0.heap.size W0 y
  mem : Box y b1 #[F 0, F 1] 46
  help : Box y b2 #[.int .i64 hT, .int .i64 hS, .int .i64 0, .int .i64 0] 52
  l1 : W0.heap.size ≤ b1
  l2 : W0.heap.size ≤ b2
  own : MemO y W0.heap.size F m fs n ds'
  n1 : ∀ a, a < 2 + 2 * n → (F a).ownBlock ≠ some b1
  n2 : ∀ a, a < 2 + 2 * n → (F a).ownBlock ≠ some b2
theorem begAns_of {W0 x : World} {b1 b2 : Nat} {F : Nat → Value} {m : Nat} {fs : List Int} {n : Nat} {ds' : List DK} {hT hS : Int} (hb : Below W0.heap.size W0 x) (X1 : Box x b1 #[.slice none 0 0, .slice none 0 0] 46) (X2 : Box x b2 #[.int .i64 0, .int .i64 0, .int .i64 0, .int .i64 0] 52) (l1 : W0.heap.size ≤ b1) (l2 : W0.heap.size ≤ b2) (hne : b1 ≠ b2) (own : MemO x W0.heap.size F m fs n ds') (n1 : ∀ a, a < 2 + 2 * n → (F a).ownBlock ≠ some b1) (n2 : ∀ a, a < 2 + 2 * n → (F a).ownBlock ≠ some b2) :
    BegAns W0 b1 b2 F m fs n ds' hT hS ((((((x.setCell ⟨b1, 0, none⟩ (F 0)).setCell ⟨b1, 1, none⟩ (F 1)).setCell ⟨b2, 0, none⟩ (.int .i64 hT)).setCell ⟨b2, 1, none⟩ (.int .i64 hS)).setCell ⟨b2, 2, none⟩ (.int .i64 0)).setCell ⟨b2, 3, none⟩ (.int .i64 0)) := by
  refine ⟨(((((hb.setCell l1 _).setCell l1 _).setCell l2 _).setCell l2 _).setCell l2 _).setCell l2 _, ((((((X1.put 0 _).put 1 _).set (show b1 ≠ b2 from hne) _).set (show b1 ≠ b2 from hne) _).set (show b1 ≠ b2 from hne) _).set (show b1 ≠ b2 from hne) _), (((((X2.set (show b2 ≠ b1 from hne.symm) _).set (show b2 ≠ b1 from hne.symm) _).put 0 _).put 1 _).put 2 _).put 3 _, l1, l2, own.heap fun a ha b hbb => ?_, n1, n2⟩
  have e1 : b ≠ b1 := fun e => n1 a ha (by rw [hbb, e])
  have e2 : b ≠ b2 := fun e => n2 a ha (by rw [hbb, e])
  rw [Below.heap_setCell _ _ _ _ e2, Below.heap_setCell _ _ _ _ e2, Below.heap_setCell _ _ _ _ e2, Below.heap_setCell _ _ _ _ e2, Below.heap_setCell _ _ _ _ e1, Below.heap_setCell _ _ _ _ e1]
end Go.Proofs.Ytbdfopokimpeiaq
