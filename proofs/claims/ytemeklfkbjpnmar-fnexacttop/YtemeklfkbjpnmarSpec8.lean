/- The specification's ThreadDone, ThreadNew, Top, Swap, Pop. -/
import Derived.Test.YtemeklfkbjpnmarCopy8
namespace Go.Proofs.Ytemeklfkbjpnmar
open Go.ChangeShapes Go.WideShapes Go.ChangeAt Go.RowKit Go.Joins

abbrev HelpV (h : Nat → Int) : Value := .agg #[.int .i64 (h 0), .int .i64 (h 1), .int .i64 (h 2), .int .i64 (h 3)]
abbrev helpL (h : Nat → Int) : List Int := [h 0, h 1, h 2, h 3]
/-- Whom a thread helps last. -/
def TD.top (t : TD) : Nat → Int := fun i => t.hs.getD ((t.n2 - 1) * 4 + i) 0
def TD.topV (t : TD) : Value := if t.n2 = 0 then HelpV (fun _ => 0) else HelpV t.top
def TD.push (t : TD) (h : Nat → Int) : TD := { t with n2 := t.n2 + 1, hs := t.hs ++ helpL h }
def TD.swap (t : TD) (h : Nat → Int) : TD := if t.n2 = 0 then t else { t with hs := t.hs.take ((t.n2 - 1) * 4) ++ helpL h }
def TD.pop (t : TD) : TD := { t with n2 := t.n2 - 1, hs := t.hs.take ((t.n2 - 1) * 4) }

theorem ThO.set5 {w : World} {base : Nat} {v0 v1 v2 : Value} {t : TD} (h : ThO w base v0 v1 v2 t) {b : Nat} (hb : ¬ In3 v0 v1 v2 b) (x0 x1 x2 x3 x4 : Value) :
    ThO (((((w.setCell ⟨b, 0, none⟩ x0).setCell ⟨b, 1, none⟩ x1).setCell ⟨b, 2, none⟩ x2).setCell ⟨b, 3, none⟩ x3).setCell ⟨b, 4, none⟩ x4) base v0 v1 v2 t :=
  ((((h.set (q := ⟨b, 0, none⟩) hb x0).set (q := ⟨b, 1, none⟩) hb x1).set (q := ⟨b, 2, none⟩) hb x2).set (q := ⟨b, 3, none⟩) hb x3).set (q := ⟨b, 4, none⟩) hb x4
theorem below_set5 {B : Nat} {w w' : World} (h : Below B w w') {b : Nat} (hb : B ≤ b) (x0 x1 x2 x3 x4 : Value) :
    Below B w (((((w'.setCell ⟨b, 0, none⟩ x0).setCell ⟨b, 1, none⟩ x1).setCell ⟨b, 2, none⟩ x2).setCell ⟨b, 3, none⟩ x3).setCell ⟨b, 4, none⟩ x4) :=
  ((((h.setCell hb x0).setCell hb x1).setCell hb x2).setCell hb x3).setCell hb x4
set_option maxHeartbeats 1000000 in
theorem specDone_any (v0 v1 v2 : Value) (t : TD) (w : World) (h : ThAt w v0 v1 v2 t) :
    Calls Try.prog 27 #[ThV v0 v1 v2 t.pc t.on] w fun e w' => e = .returned (.bool (decide (t.pc = (t.n0 : Int)))) ∧ Below w.heap.size w w' := by
  obtain ⟨⟨a0, c0, rfl, -⟩, ⟨a1, c1, rfl, -⟩, ⟨a2, c2, rfl, -⟩⟩ := h
  obtain ⟨B, hB⟩ : ∃ B, decide (t.pc = (t.n0 : Int)) = B := ⟨_, rfl⟩
  rw [hB]
  have HB : Hid (decide (t.pc = (t.n0 : Int)) = B) := hB
  have hq : (t.pc == (t.n0 : Int)) = B := by rw [← hB]; rfl
  clear hB
  go_enter Try.func27, Try.ntmps27
  go_wp2
  go_ret
  exact ⟨rfl, (Below.refl _ _).alloc (Nat.le_refl _) _⟩

set_option maxHeartbeats 1000000 in
theorem specNewT_any (v : Value) (n : Nat) (fs : List Int) (w : World) (h : LAt 3 w v n fs) :
    Calls Try.prog 20 #[v] w (ThAns w ⟨n, fs, 0, false, 0, [], 0, []⟩) := by
  obtain ⟨a, c, rfl, hc, hA⟩ := h
  have hn := hA.2.1
  have HC : Hid (a = none → c = 0) := hc.1
  clear hc
  obtain ⟨i0, hi0, hz0, hz1, hz2⟩ := info_parts kInfoOp
  obtain ⟨sz, hsz⟩ : ∃ sz, w.heap.size = sz := ⟨_, rfl⟩
  obtain ⟨W, hW⟩ : ∃ W, w.alloc (.cells #[.slice none 0 0, .int .i64 0, .bool false, .slice none 0 0, .slice none 0 0] 46) = W := ⟨_, rfl⟩
  have hWs : W.heap.size = sz + 1 := by rw [← hW, ← hsz]; simp
  have hb0 : Below sz w W := by rw [← hW, ← hsz]; exact (Below.refl _ w).alloc (Nat.le_refl _) _
  have R0 : Hid (Box W sz #[.slice none 0 0, .int .i64 0, .bool false, .slice none 0 0, .slice none 0 0] 46) := by rw [← hW, ← hsz]; exact box_of w _ _
  have HW : Hid _ := hW
  have HSZ : Hid (w.heap.size = sz) := hsz
  have HB0 : Hid (Below sz w W) := hb0
  have HWS : Hid (W.heap.size = sz + 1) := hWs
  have HK : Hid (KAt 3 (W.alloc (.cells #[] 84)) a n fs) := (hA.below hb0 (by omega)).below ((Below.refl W.heap.size W).alloc (Nat.le_refl _) _) (Nat.le_refl _)
  have HWw : Hid (w.alloc (.cells #[.slice none 0 0, .int .i64 0, .bool false, .slice none 0 0, .slice none 0 0] 46) = W) := hW
  subst hW
  clear hA hb0 hsz hWs
  go_enter Try.func20, Try.ntmps20
  go_wp2_with
    (at_builtin
     refine wpList_append_any _ rfl _ _ 42 rfl (w.heap.size + 1) 84 i0 (.agg #[.int .i64 0, .int .i64 0, .int .i64 0]) 3 24 Try.underlying42 hi0 hz0 hz1 hz2 rfl (by decide) (.slice (some ⟨w.heap.size + 1, 0, none⟩) 0 0) 0 [] rfl (by have := own_emptyK (w := w.alloc (.cells #[.slice none 0 0, .int .i64 0, .bool false, .slice none 0 0, .slice none 0 0] 46)) (base := w.heap.size + 1) (T := 84) (size := 3) (by simp); simpa using this) a n c fs rfl HC.out HK.out (by unfold maxLen; omega) (by omega) (by simp) ?_
     intro v' w1 own' gr at'
     rw [Nat.zero_add, List.nil_append] at own'
     obtain ⟨p, d, rfl, -⟩ := owns_slice own'
     have HO : Hid (w1.ownsRow (w.heap.size + 1) 84 3 (.slice p n d) n (fs.map I)) := own'
     have hb1 : Below (w.heap.size + 1) ((w.alloc (.cells #[.slice none 0 0, .int .i64 0, .bool false, .slice none 0 0, .slice none 0 0] 46)).alloc (.cells #[] 84)) w1 := (Below.refl _ _).grown gr (by simp only [World.size_alloc]; omega) (fun k e => by have := sl_blk e; omega)
     have hb2 : Below (w.heap.size + 1) (w.alloc (.cells #[.slice none 0 0, .int .i64 0, .bool false, .slice none 0 0, .slice none 0 0] 46)) w1 := ((Below.refl _ _).alloc (by simp) _).trans hb1
     have HB1 : Hid (Below (w.heap.size + 1) (w.alloc (.cells #[.slice none 0 0, .int .i64 0, .bool false, .slice none 0 0, .slice none 0 0] 46)) w1) := hb2
     obtain ⟨u0, u1, u2, u3, u4, f0, f1, f2, f3, f4⟩ := (Box.below (show Box (w.alloc (.cells #[.slice none 0 0, .int .i64 0, .bool false, .slice none 0 0, .slice none 0 0] 46)) w.heap.size #[.slice none 0 0, .int .i64 0, .bool false, .slice none 0 0, .slice none 0 0] 46 from box_of w _ _) hb2 (by omega)).five
     clear own' gr at' hb1 hb2)
  (try simp only [Exit.inBlock, Exit.then])
  have X : Box w1 w.heap.size #[.slice none 0 0, .int .i64 0, .bool false, .slice none 0 0, .slice none 0 0] 46 := Box.below (box_of w _ _) HB1.out (by omega)
  obtain ⟨z0, z1, z2, z3, z4, _⟩ := (((((X.put 0 (.slice p n d)).put 1 (.int .i64 0)).put 2 (.bool false)).put 3 (.slice none 0 0)).put 4 (.slice none 0 0)).five
  refine bodyPost_ret (by simp [results, Try.results20, go_sem, z0, z1, z2, z3, z4]; try rfl) rfl ?_
  have nin : ¬ In3 (.slice p n d) (.slice none 0 0) (.slice none 0 0) w.heap.size := by
    rintro (e | e | e)
    · have := (HO.out.lt _ e).1; omega
    · cases e
    · cases e
  have tO : ThO w1 w.heap.size (.slice p n d) (.slice none 0 0) (.slice none 0 0) ⟨n, fs, 0, false, 0, [], 0, []⟩ := ⟨own_weaken HO.out (by omega), World.ownsRow_nil _ _ _ _, World.ownsRow_nil _ _ _ _, (fun _ _ e => by cases e), (fun _ _ e => by cases e), (fun _ e => by cases e)⟩
  exact ⟨_, _, _, rfl, tO.set5 nin _ _ _ _ _, below_set5 (((Below.refl _ w).alloc (Nat.le_refl _) _).trans (HB1.out.mono (by omega))) (Nat.le_refl _) _ _ _ _ _⟩

set_option maxHeartbeats 1000000 in
theorem specTop_any (v0 v1 v2 : Value) (t : TD) (w : World) (h : ThAt w v0 v1 v2 t) :
    Calls Try.prog 32 #[ThV v0 v1 v2 t.pc t.on] w fun e w' => e = .returned (.tuple #[t.topV, .bool (decide (t.n2 ≠ 0))]) ∧ Below w.heap.size w w' := by
  obtain ⟨⟨a0, c0, rfl, e0, h0⟩, ⟨a1, c1, rfl, e1, h1⟩, ⟨a2, c2, rfl, e2, h2⟩⟩ := h
  obtain ⟨n0, fs, pc, on, n1, gs, n2, hs⟩ := t
  simp only at h0 h1 h2 ⊢
  have hb0 : Below w.heap.size w ((w.alloc (.cells #[.slice a0 n0 c0, .int .i64 pc, .bool on, .slice a1 n1 c1, .slice a2 n2 c2] 46)).alloc (.cells #[.int .i64 0, .int .i64 0, .int .i64 0, .int .i64 0] 62)) := ((Below.refl _ w).alloc (Nat.le_refl _) _).alloc (by simp) _
  by_cases hn : n2 = 0
  · subst hn
    obtain ⟨V, hV⟩ : ∃ V, TD.topV ⟨n0, fs, pc, on, n1, gs, 0, hs⟩ = V := ⟨_, rfl⟩
    rw [hV]
    have HV : Hid (V = .agg #[.int .i64 0, .int .i64 0, .int .i64 0, .int .i64 0]) := by rw [← hV]; rfl
    clear h0 h1 h2 hV
    have HB : Hid _ := hb0
    clear hb0
    go_enter Try.func32, Try.ntmps32
    go_wp2
    (try simp only [Exit.inBlock, Exit.then])
    refine bodyPost_ret (by simp [results, Try.results32, go_sem]; try rfl) rfl ?_
    exact ⟨by first | (rw [HV.out]; done) | (rw [HV.out]; rfl), HB.out⟩
  · have hlt : (0 : Int) < (n2 : Int) := by omega
    have hm := h2.2.1
    rcases (h2.below hb0 (Nat.le_refl _)).2.2 with hz | ⟨b, o, rfl, g⟩
    · exact absurd hz hn
    obtain ⟨k, rfl⟩ : ∃ k, n2 = k + 1 := ⟨n2 - 1, by omega⟩
    obtain ⟨V, hV⟩ : ∃ V, TD.topV ⟨n0, fs, pc, on, n1, gs, k + 1, hs⟩ = V := ⟨_, rfl⟩
    rw [hV]
    have x0 := g (k * 4) (by omega)
    have x1 := g (k * 4 + 1) (by omega)
    have x2 := g (k * 4 + 2) (by omega)
    have x3 := g (k * 4 + 3) (by omega)
    obtain ⟨t0, ht0⟩ : ∃ t, hs.getD (k * 4) 0 = t := ⟨_, rfl⟩
    obtain ⟨t1, ht1⟩ : ∃ t, hs.getD (k * 4 + 1) 0 = t := ⟨_, rfl⟩
    obtain ⟨t2, ht2⟩ : ∃ t, hs.getD (k * 4 + 2) 0 = t := ⟨_, rfl⟩
    obtain ⟨t3, ht3⟩ : ∃ t, hs.getD (k * 4 + 3) 0 = t := ⟨_, rfl⟩
    have HV : Hid (V = .agg #[.int .i64 t0, .int .i64 t1, .int .i64 t2, .int .i64 t3]) := by
      rw [← hV, TD.topV, if_neg hn]
      show Value.agg #[.int .i64 (hs.getD ((k + 1 - 1) * 4 + 0) 0), .int .i64 (hs.getD ((k + 1 - 1) * 4 + 1) 0), .int .i64 (hs.getD ((k + 1 - 1) * 4 + 2) 0), .int .i64 (hs.getD ((k + 1 - 1) * 4 + 3) 0)] = _
      rw [Nat.add_sub_cancel, Nat.add_zero, ht0, ht1, ht2, ht3]
    rw [ht0] at x0
    rw [ht1, ← Nat.add_assoc] at x1
    rw [ht2, ← Nat.add_assoc] at x2
    rw [ht3, ← Nat.add_assoc] at x3
    have HB : Hid _ := hb0
    have HNE : Hid (decide (k + 1 ≠ 0) = true) := decide_eq_true hn
    have hk0 : (0 : Int) ≤ (k : Int) := by omega
    clear h0 h1 h2 hb0 g ht0 ht1 ht2 ht3 hV
    rw [HNE.out]
    clear hn
    go_enter Try.func32, Try.ntmps32
    go_wp2
    (try simp only [Exit.inBlock, Exit.then])
    refine bodyPost_ret (by simp [results, Try.results32, go_sem]; try rfl) rfl ?_
    exact ⟨by first | (rw [HV.out]; done) | (rw [HV.out]; rfl), ((Below.refl _ w).alloc (Nat.le_refl _) _).alloc (by simp) _⟩
end Go.Proofs.Ytemeklfkbjpnmar
