/- What holds while, in whatever order, a Thread and a Help are made, a function is called on them, and the box of its answer is made. -/
import Derived.Test.YtemeklfkbjpnmarLawT
import Derived.Test.YtemeklfkbjpnmarInvReg
import Derived.Test.YtemeklfkbjpnmarSpec8
namespace Go.Proofs.Ytemeklfkbjpnmar
open Go.ChangeShapes Go.WideShapes Go.ChangeAt Go.RowKit Go.Joins

/-- What follows a region is walked once. -/
theorem wp_cut {P : Program} {code : Code} {K : Act → World → Prop} {a : Act} {w : World} {Q : Exit → Act → World → Prop} (hreg : code.wp P (Exit.then K (fun _ _ _ => False)) a w) (hrest : ∀ a' w', K a' w' → Q .normal a' w') : code.wp P Q a w := by
  refine Code.wp_mono (fun e a' w' h => ?_) hreg
  cases e with
  | normal => exact hrest _ _ h
  | _ => exact h.elim
theorem cellsLHelp : Try.prog.cellsOf 60 = 4 := by kernel_rfl
set_option maxRecDepth 100000 in
/-- A Help that came in, opened. -/
theorem open_help {H : Type} {enc : TypeId × Value → H} {W : World} {base b0 : Nat} {held : Bool} {v : Value} {d : DataW H} {p : List MemPlace}
    (hv : Value.okWide Try.prog W .any b0 60 v) (h : DataW.Trod enc Try.prog W base (fun _ => true) held 60 v d p) : ∃ h : Nat → Int, v = HelpV h := by
  obtain ⟨x0, x1, x2, x3, y0, y1, y2, y3, n, rfl, -, -, h0, h1, h2, h3⟩ := open_agg4 Try.underlying60 (by kernel_rfl) cellsLHelp hv h
  obtain ⟨z0, q0, _, _⟩ := DataW.trod_int Try.underlying3 h0
  obtain ⟨z1, q1, _, _⟩ := DataW.trod_int Try.underlying3 h1
  obtain ⟨z2, q2, _, _⟩ := DataW.trod_int Try.underlying3 h2
  obtain ⟨z3, q3, _, _⟩ := DataW.trod_int Try.underlying3 h3
  obtain rfl : x0 = .int .i64 z0 := by simpa using q0
  obtain rfl : x1 = .int .i64 z1 := by simpa using q1
  obtain rfl : x2 = .int .i64 z2 := by simpa using q2
  obtain rfl : x3 = .int .i64 z3 := by simpa using q3
  exact ⟨fun i => if i = 0 then z0 else if i = 1 then z1 else if i = 2 then z2 else z3, rfl⟩
/-- b1: the Thread is made; b3: the Help; b4: the answer is there; b5: its box. -/
structure R5 (w1 : World) (t T : TD) (h : Nat → Int) (b1 b3 b4 b5 : Bool) (s1 s3 s4 s5 : Value) (y : World) : Prop where
  bel : Below w1.heap.size w1 y
  c1 : b1 = true → ∃ v0 v1 v2, s1 = ThV v0 v1 v2 t.pc t.on ∧ ThO y w1.heap.size v0 v1 v2 t
  c3 : b3 = true → s3 = HelpV h
  c4 : b4 = true → ∃ v0 v1 v2, s4 = ThV v0 v1 v2 T.pc T.on ∧ ThO y w1.heap.size v0 v1 v2 T ∧ (b5 = true → ∀ q, s5 = .pointer (some ⟨q, 0, none⟩) → ¬ In3 v0 v1 v2 q)
  c5 : b5 = true → ∃ q, s5 = .pointer (some ⟨q, 0, none⟩) ∧ Box y q #[.slice none 0 0, .int .i64 0, .bool false, .slice none 0 0, .slice none 0 0] 46 ∧ w1.heap.size ≤ q
theorem R5.begin (w1 : World) (t T : TD) (h : Nat → Int) (s1 s3 s4 s5 : Value) : R5 w1 t T h false false false false s1 s3 s4 s5 w1.drew :=
  ⟨(Below.refl _ _).drew, (fun q => by cases q), (fun q => by cases q), (fun q => by cases q), (fun q => by cases q)⟩
theorem R5.begin7 (w1 : World) (t T : TD) (h : Nat → Int) (s1 s3 s4 s5 : Value) : R5 w1 t T h false false false false s1 s3 s4 s5 w1.drew := R5.begin w1 t T h s1 s3 s4 s5
theorem R5.begin1 {w1 : World} {t T : TD} {h : Nat → Int} {v0 v1 v2 s3 s4 s5 : Value} (hO : ThO w1 w1.heap.size v0 v1 v2 t) : R5 w1 t T h true false false false (ThV v0 v1 v2 t.pc t.on) s3 s4 s5 w1.drew :=
  ⟨(Below.refl _ _).drew, fun _ => ⟨_, _, _, rfl, hO.below (Below.refl w1.heap.size _).drew (Nat.le_refl _)⟩, (fun q => by cases q), (fun q => by cases q), (fun q => by cases q)⟩
section
variable {w1 : World} {t T : TD} {h : Nat → Int} {b1 b3 b4 b5 : Bool} {s1 s3 s4 s5 : Value} {y y' : World}
theorem R5.on (J : R5 w1 t T h b1 b3 b4 b5 s1 s3 s4 s5 y) (hb : Below y.heap.size y y') : R5 w1 t T h b1 b3 b4 b5 s1 s3 s4 s5 y' :=
  ⟨J.bel.trans (hb.mono J.bel.size), fun q => by obtain ⟨v0, v1, v2, e, o⟩ := J.c1 q; exact ⟨v0, v1, v2, e, o.below hb (Nat.le_refl _)⟩, J.c3,
    fun q => by obtain ⟨v0, v1, v2, e, o, n⟩ := J.c4 q; exact ⟨v0, v1, v2, e, o.below hb (Nat.le_refl _), n⟩, fun q => by obtain ⟨k, e, b, l⟩ := J.c5 q; exact ⟨k, e, b.below hb b.lt, l⟩⟩
theorem R5.thread (J : R5 w1 t T h b1 b3 b4 b5 s1 s3 s4 s5 y) {v0 v1 v2 : Value} (hO : ThO y' y.heap.size v0 v1 v2 t) (hb : Below y.heap.size y y') : R5 w1 t T h true b3 b4 b5 (ThV v0 v1 v2 t.pc t.on) s3 s4 s5 y' :=
  { J.on hb with c1 := fun _ => ⟨v0, v1, v2, rfl, hO.weaken J.bel.size⟩ }
theorem R5.help (J : R5 w1 t T h b1 b3 b4 b5 s1 s3 s4 s5 y) (hb : Below y.heap.size y y') : R5 w1 t T h b1 true b4 b5 s1 (HelpV h) s4 s5 y' :=
  { J.on hb with c3 := fun _ => rfl }
theorem R5.call (J : R5 w1 t T h b1 b3 b4 b5 s1 s3 s4 s5 y) {v0 v1 v2 : Value} (hO : ThO y' y.heap.size v0 v1 v2 T) (hb : Below y.heap.size y y') : R5 w1 t T h b1 b3 true b5 s1 s3 (ThV v0 v1 v2 T.pc T.on) s5 y' :=
  { J.on hb with c4 := fun _ => ⟨v0, v1, v2, rfl, hO.weaken J.bel.size, fun q5 q e hk => by
      obtain ⟨k, e', b, _⟩ := J.c5 q5
      rw [e'] at e
      cases e
      have h1 := (hO.blk hk).1
      have h2 := b.lt
      omega⟩ }
theorem R5.box (J : R5 w1 t T h b1 b3 b4 b5 s1 s3 s4 s5 y) : R5 w1 t T h b1 b3 b4 true s1 s3 s4 (.pointer (some ⟨y.heap.size, 0, none⟩)) (y.alloc (.cells #[.slice none 0 0, .int .i64 0, .bool false, .slice none 0 0, .slice none 0 0] 46)) := by
  have hb : Below y.heap.size y (y.alloc (.cells #[.slice none 0 0, .int .i64 0, .bool false, .slice none 0 0, .slice none 0 0] 46)) := (Below.refl _ _).alloc (Nat.le_refl _) _
  have J' := J.on hb
  refine ⟨J'.bel, J'.c1, J'.c3, fun q4 => ?_, fun _ => ⟨y.heap.size, rfl, box_of y _ _, J.bel.size⟩⟩
  obtain ⟨v0, v1, v2, e, o, -⟩ := J.c4 q4
  refine ⟨v0, v1, v2, e, o.below hb (Nat.le_refl _), fun _ q e hk => ?_⟩
  cases e
  have := (o.blk hk).2
  omega
end
end Go.Proofs.Ytemeklfkbjpnmar
