/- What stands while a law of chapter 8 goes on: what was answered first, what was handed in, what the program answered; each in blocks of its own. -/
import Derived.Test.YtemeklfkbjpnmarThr
import Derived.Deep.Cut
import Derived.WalkKit
import Derived.ProofKit
namespace Go.Proofs.Ytemeklfkbjpnmar
open Go.ChangeShapes Go.WideShapes Go.ChangeAt Go.RowKit Go.Joins

/-- Where all lies. -/
structure LH (sz B5 q4 q5 B6 q6 : Nat) (x0 x1 x2 u0 u1 u2 g0 g1 g2 : Value) : Prop where
  a : sz < B5
  b : q4 < B5
  x : ∀ k, In3 x0 x1 x2 k → k < B5
  u : ∀ k, In3 u0 u1 u2 k → B5 ≤ k ∧ k < q5
  q : q5 < B6
  g : ∀ k, In3 g0 g1 g2 k → B6 ≤ k ∧ k ≠ q6
  z : B6 ≤ q6
  v : B5 ≤ q5
structure LC (w : World) (sz B4 B5 B6 q4 q5 q6 : Nat) (x0 x1 x2 u0 u1 u2 g0 g1 g2 : Value) (T tu tg : TD) (y : World) : Prop where
  bel : Below sz w y
  b4 : Box y q4 #[x0, .int .i64 T.pc, .bool T.on, x1, x2] 46
  o4 : ThO y B4 x0 x1 x2 T
  b5 : Box y q5 #[u0, .int .i64 tu.pc, .bool tu.on, u1, u2] 46
  o5 : ThO y B5 u0 u1 u2 tu
  b6 : Box y q6 #[g0, .int .i64 tg.pc, .bool tg.on, g1, g2] 46
  o6 : ThO y B6 g0 g1 g2 tg
theorem LC.on {w : World} {sz B4 B5 B6 q4 q5 q6 : Nat} {x0 x1 x2 u0 u1 u2 g0 g1 g2 : Value} {T tu tg : TD} {y y' : World} (h : LC w sz B4 B5 B6 q4 q5 q6 x0 x1 x2 u0 u1 u2 g0 g1 g2 T tu tg y) (hs : sz ≤ y.heap.size) (hb : Below y.heap.size y y') : LC w sz B4 B5 B6 q4 q5 q6 x0 x1 x2 u0 u1 u2 g0 g1 g2 T tu tg y' :=
  ⟨h.bel.trans (hb.mono hs), h.b4.below hb h.b4.lt, h.o4.below hb (Nat.le_refl _), h.b5.below hb h.b5.lt, h.o5.below hb (Nat.le_refl _), h.b6.below hb h.b6.lt, h.o6.below hb (Nat.le_refl _)⟩
theorem LC.size {w : World} {sz B4 B5 B6 q4 q5 q6 : Nat} {x0 x1 x2 u0 u1 u2 g0 g1 g2 : Value} {T tu tg : TD} {y : World} (h : LC w sz B4 B5 B6 q4 q5 q6 x0 x1 x2 u0 u1 u2 g0 g1 g2 T tu tg y) (hw : w.heap.size = sz) : sz ≤ y.heap.size := by have := h.bel.size; omega
theorem LC.markU {w : World} {sz B4 B5 B6 q4 q5 q6 : Nat} {x0 x1 x2 u0 u1 u2 g0 g1 g2 : Value} {T tu tg : TD} {y y' : World} (h : LC w sz B4 B5 B6 q4 q5 q6 x0 x1 x2 u0 u1 u2 g0 g1 g2 T tu tg y) (H : LH sz B5 q4 q5 B6 q6 x0 x1 x2 u0 u1 u2 g0 g1 g2) (tu' : TD) (hpc : tu'.pc = tu.pc ∧ tu'.on = tu.on) (ho : ThO y' B5 u0 u1 u2 tu') (hb : Below (min B5 y.heap.size) y y') (he : ∀ b, b < y.heap.size → ¬ In3 u0 u1 u2 b → y'.heap[b]? = y.heap[b]?) : LC w sz B4 B5 B6 q4 q5 q6 x0 x1 x2 u0 u1 u2 g0 g1 g2 T tu' tg y' := by
  have l5 := h.b5.lt
  have hle : sz ≤ min B5 y.heap.size := by have := H.a; have := H.v; omega
  refine ⟨h.bel.trans (hb.mono hle), (he q4 h.b4.lt (fun hk => by have := (H.u _ hk).1; have := H.b; omega)).trans h.b4, h.o4.heap fun k hk => he k (h.o4.blk hk).2 (fun hk' => by have := H.x k hk; have := (H.u k hk').1; omega), ?_, ho,
    (he q6 h.b6.lt (fun hk => by have := (H.u _ hk).2; have := H.q; have := H.z; omega)).trans h.b6, h.o6.heap fun k hk => he k (h.o6.blk hk).2 (fun hk' => by have := (H.g k hk).1; have := (H.u k hk').2; have := H.q; omega)⟩
  rw [hpc.1, hpc.2]
  exact (he q5 l5 (fun hk => by have := (H.u _ hk).2; omega)).trans h.b5
theorem LC.markG {w : World} {sz B4 B5 B6 q4 q5 q6 : Nat} {x0 x1 x2 u0 u1 u2 g0 g1 g2 : Value} {T tu tg : TD} {y y' : World} (h : LC w sz B4 B5 B6 q4 q5 q6 x0 x1 x2 u0 u1 u2 g0 g1 g2 T tu tg y) (H : LH sz B5 q4 q5 B6 q6 x0 x1 x2 u0 u1 u2 g0 g1 g2) (tg' : TD) (hpc : tg'.pc = tg.pc ∧ tg'.on = tg.on) (ho : ThO y' B6 g0 g1 g2 tg') (hb : Below (min B6 y.heap.size) y y') (he : ∀ b, b < y.heap.size → ¬ In3 g0 g1 g2 b → y'.heap[b]? = y.heap[b]?) : LC w sz B4 B5 B6 q4 q5 q6 x0 x1 x2 u0 u1 u2 g0 g1 g2 T tu tg' y' := by
  have l6 := h.b6.lt
  have hle : sz ≤ min B6 y.heap.size := by have := H.a; have := H.v; have := H.q; have := H.z; omega
  have far : ∀ k, k < B6 → ¬ In3 g0 g1 g2 k := fun k hk hi => by have := (H.g k hi).1; omega
  refine ⟨h.bel.trans (hb.mono hle), (he q4 h.b4.lt (far _ (by have := H.b; have := H.v; have := H.q; omega))).trans h.b4, h.o4.heap fun k hk => he k (h.o4.blk hk).2 (far k (by have := H.x k hk; have := H.v; have := H.q; omega)), (he q5 h.b5.lt (far _ H.q)).trans h.b5, h.o5.heap fun k hk => he k (h.o5.blk hk).2 (far k (by have := (H.u k hk).2; have := H.q; omega)), ?_, ho⟩
  rw [hpc.1, hpc.2]
  exact (he q6 l6 (fun hk => (H.g _ hk).2 rfl)).trans h.b6
/-- A value that is a list, as one. -/
theorem ThO.forms {w : World} {base : Nat} {v0 v1 v2 : Value} {t : TD} (h : ThO w base v0 v1 v2 t) : ∃ p0 d0 p1 d1 p2 d2, v0 = .slice p0 t.n0 d0 ∧ v1 = .slice p1 t.n1 d1 ∧ v2 = .slice p2 t.n2 d2 := by
  obtain ⟨p0, d0, e0, -⟩ := owns_slice h.ops
  obtain ⟨p1, d1, e1, -⟩ := owns_slice h.got
  obtain ⟨p2, d2, e2, -⟩ := owns_slice h.stk
  exact ⟨p0, d0, p1, d1, p2, d2, e0, e1, e2⟩
theorem mark_pc (t : TD) (k : Int) : (t.mark k).pc = t.pc ∧ (t.mark k).on = t.on := ⟨rfl, rfl⟩
theorem mark_small {t : TD} {k : Int} (h : t.Small) : (t.mark k).Small := h
theorem off_nonneg (t : TD) : 0 ≤ t.off := by unfold TD.off; omega
end Go.Proofs.Ytemeklfkbjpnmar
