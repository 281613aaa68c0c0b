/- spec.RowsIn, walked at any list. -/
import Derived.Test.YtkifebhkgldefaaDoorIn13
import Derived.Test.YtkifebhkgldefaaDoorCloneI
import Derived.Test.YtkifebhkgldefaaDoorStateAt
namespace Go.Proofs.YtkifebhkgldefaaDoor
open Go.ChangeShapes Go.WideShapes Go.ChangeAt Go.RowKit Go.Joins

/-- Rows of the words' own telling, in memory of their own. -/
def RowsSay (e : Ending) (w w' : World) (ws : List Int) : Prop := ∃ a c, e = .returned (.agg #[.slice a (inX ws).length c, .int .i64 (inS ws)]) ∧ (inX ws).length ≤ c ∧ w'.ownsRow w.heap.size 3 1 (.slice a (inX ws).length c) (inX ws).length ((inX ws).map I)
theorem RowsSay.at {e : Ending} {w w' : World} {ws : List Int} (h : RowsSay e w w' ws) : ∃ a c, e = .returned (.agg #[.slice a (inX ws).length c, .int .i64 (inS ws)]) ∧ (inX ws).length ≤ c ∧ IntAt w' a (inX ws).length (inX ws) := by
  obtain ⟨a, c, h1, h2, h3⟩ := h
  obtain ⟨a', c', he, hi⟩ := own_at h3 (by have := inX_len (ws := ws); omega)
  cases he
  exact ⟨a, c, h1, h2, hi⟩
theorem rowsSay_of {e : Ending} {w w' : World} {ws : List Int} {a : Option Addr} {n c : Nat} {st : Int} {xs : List Int} (hx : inX ws = xs) (hs : inS ws = st) (hn : n = xs.length) (he : e = .returned (.agg #[.slice a n c, .int .i64 st])) (ho : w'.ownsRow w.heap.size 3 1 (.slice a n c) n (xs.map I)) : RowsSay e w w' ws := by
  subst hn hx hs
  obtain ⟨a', c', h1, h2⟩ := owns_slice ho
  cases h1
  exact ⟨a, c, he, h2, ho⟩

theorem own_empty_g {w : World} {base g : Nat} (hg : w.heap.size = g) (hb : base ≤ g) : (w.alloc (.cells #[] 3)).ownsRow base 3 1 (.slice (some ⟨g, 0, none⟩) 0 0) 0 [] := by
  subst hg
  exact own_empty hb
set_option maxHeartbeats 2000000 in
set_option maxRecDepth 100000 in
theorem specRowsIn_any (a : Option Addr) (n c : Nat) (ws : List Int) (w : World) (hA : IntAt w a n ws) (hc : n ≤ c) :
    Calls Tryd.prog 8 #[.slice a n c] w fun e w' => RowsSay e w w' ws ∧ Below w.heap.size w w' := by
  obtain ⟨i0, hi, hz0, hz1, hz2⟩ := info_parts infoInt
  by_cases hn : n = 20
  case neg =>
    have hl : ¬ ws.length = 20 := by rw [hA.1]; exact hn
    have HX : Hid (inX ws = [] ∧ inS ws = 0) := ⟨inX_no hl, inS_no hl⟩
    have hd : ((n : Int) != 20) = true := by simp; omega
    have HB : Hid (Below w.heap.size w (w.alloc (.cells #[.slice none 0 0, .int .i64 0] 24))) := (Below.refl _ w).alloc (Nat.le_refl _) _
    have hnn := hA.2.1
    clear hA hl hn
    go_enter Tryd.func8, Tryd.ntmps8
    go_wp2
    (try simp only [Exit.inBlock, Exit.then])
    refine bodyPost_ret (by simp [results, Tryd.results8, go_sem]; try rfl) rfl ?_
    exact ⟨rowsSay_of HX.out.1 HX.out.2 rfl rfl (World.ownsRow_nil _ _ _ _), by first | exact HB.out | exact (HB.out.setCell (by simp) _).setCell (by simp) _⟩
  subst hn
  have hl : ws.length = 20 := hA.1
  obtain ⟨hl0, hn0, h0 | ⟨p, o, rfl, hcell⟩⟩ := hA
  · omega
  have HX : Hid (inX ws = ws.take 4 ∧ inS ws = ws.getD 13 0) := ⟨inX_yes hl, inS_yes hl⟩
  obtain ⟨st, hst⟩ : ∃ st, ws.getD 13 0 = st := ⟨_, rfl⟩
  rw [hst] at HX
  have h4 : ∀ i, i < 4 → w.cell? ⟨p, o + i, none⟩ = some (I ((ws.take 4).getD i 0)) := fun i hi => by
    rw [hcell i (by omega)]
    have : (ws.take 4).getD i 0 = ws.getD i 0 := by simp [List.getD, hi]
    rw [this]
  have H4 : Hid (IntAt w (some ⟨p, o, none⟩) 4 (ws.take 4)) := ⟨by simp; omega, by omega, .inr ⟨p, o, rfl, h4⟩⟩
  have c13 := hcell 13 (by omega)
  rw [hst] at c13
  obtain ⟨o13, ho13⟩ : ∃ o13, o + 13 = o13 := ⟨_, rfl⟩
  rw [ho13] at c13
  have plt : p < w.heap.size := World.block_lt_of_cell? w _ c13
  have hl4 : Hid ((ws.take 4).length = 4) := H4.out.1
  have H20 : Hid (20 ≤ c) := hc
  obtain ⟨m, hm⟩ : ∃ m, 4 = m := ⟨_, rfl⟩
  have HM : Hid (4 = m) := hm
  have hsl : ∀ w : World, (Instr.slice 22 (.slice (some ⟨p, o, none⟩) 20 c) none (some (.int .i64 4)) none).run Tryd.prog w = .ok (.slice (some ⟨p, o, none⟩) m c) w := fun w => by
    rw [run_slice_h w 22 (some ⟨p, o, none⟩) 20 c Tryd.underlying22 .i64 4 (by omega) (by omega), show Tryd.prog.elem 22 = 3 from rfl, Tryd.sizeOf3 w, ← hm]
    simp [Result.andThen, sliced, Addr.add]
  obtain ⟨xs, hxs⟩ : ∃ xs, ws.take 4 = xs := ⟨_, rfl⟩
  rw [hxs] at H4 HX
  rw [hm] at H4
  have hl4 : Hid (xs.length = m) := H4.out.1
  have hm2 : m ≤ 20 := by omega
  clear hcell hl hl0 h4 hst hc hm hxs
  go_enter Tryd.func8, Tryd.ntmps8
  have HB0 : Hid (Below w.heap.size w (w.alloc (.cells #[.slice none 0 0, .int .i64 0] 24))) := (Below.refl _ w).alloc (Nat.le_refl _) _
  have HG1 : Hid _ := (H4.out.below HB0.out (Nat.le_refl _)).cells
  go_wp2_with
    (at_builtin
     refine wpList_append_own _ rfl _ _ 22 rfl (w.heap.size + 1) 3 i0 (.int .i64 0) 1 8 Tryd.underlying22 hi hz0 hz1 hz2 rfl (by decide) (.slice (some ⟨w.heap.size + 1, 0, none⟩) 0 0) 0 [] rfl (own_empty_g (by simp) (by omega)) ⟨p, o, none⟩ m c (xs.map I) rfl (news_len hl4.out) (news_at hl4.out HG1.out) news_one (by unfold maxLen; omega) (by omega) (by rw [World.size_alloc, World.size_alloc]; omega) ?_
     intro v' w2 own2 grow2 _
     rw [Nat.zero_add, List.nil_append] at own2
     obtain ⟨va, vc, rfl, _⟩ := owns_slice own2
     have HO : Hid (w2.ownsRow (w.heap.size + 1) 3 1 (.slice va m vc) m (xs.map I)) := own2
     have hb2 : Below (w.heap.size + 1) (w.alloc (.cells #[.slice none 0 0, .int .i64 0] 24)) w2 := ((Below.refl _ _).alloc (by simp) _).grown grow2 (by simp) (fun k e => by
       have h1 : w.heap.size + 1 = k := by simpa [Value.ownBlock] using e
       omega)
     have R2 : Hid (Box w2 w.heap.size #[.slice none 0 0, .int .i64 0] 24) := (box_of w _ _).below hb2 (by omega)
     have HB2 : Hid (Below w.heap.size w w2) := HB0.out.trans (hb2.mono (by omega))
     have c13' : w2.cell? ⟨p, o13, none⟩ = some (I st) := (HB2.out.cell plt).trans c13
     have hsz2 : w.heap.size < w2.heap.size := R2.out.lt
     clear own2 grow2 hb2)
  refine (specStateAt_any _).mono ?_
  rintro e w3 ⟨rfl, hw3⟩
  rw [hw3]
  have HO13 : Hid (o + 13 = o13) := ho13
  obtain ⟨r0, r1, z0, z1⟩ := R2.out.two
  go_wp2
  obtain ⟨e0, e1, _, _⟩ := ((R2.out.put 0 (.slice va m vc)).put 1 (.int .i64 st)).two
  (try simp only [Exit.inBlock, Exit.then])
  refine bodyPost_ret (by simp [results, Tryd.results8, go_sem, e0, e1]; try rfl) rfl ?_
  have hwb : (Value.slice va m vc).ownBlock ≠ some w.heap.size := fun e => by have := (HO.out.lt _ e).1; omega
  exact ⟨rowsSay_of HX.out.1 HX.out.2 hl4.out.symm rfl (own_setCell_far (own_setCell_far (own_weaken HO.out (by omega)) hwb _) hwb _), (HB2.out.setCell (by simp) _).setCell (by simp) _⟩
end Go.Proofs.YtkifebhkgldefaaDoor
