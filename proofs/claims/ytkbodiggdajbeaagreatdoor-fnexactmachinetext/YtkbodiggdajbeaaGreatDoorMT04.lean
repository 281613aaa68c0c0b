/- Texts joined: Copy3, ImplVal, ImplVal2, SpecMean, Hold, Range3, ImplRows, SpecRows, ClassOf, WordsM, SpecHow, Place, RowAt, OwnerAt, CountAt, StateAt. -/
import Derived.Test.YtkbodiggdajbeaaGreatDoorMT01
import Derived.Laws.CopyOwn
import Derived.Test.YtkbodiggdajbeaaGreatDoorMT03
import Derived.Deep.RegionHeld3
import Derived.Laws.AppendOwn
import Derived.Test.YtkbodiggdajbeaaGreatDoorRows
import Derived.WalkKit
import Derived.ProofKit
import Derived.WalkSmall
import Derived.WalkSpells
import Derived.OpenShut
import Derived.Maps.OwnRows
import Derived.Maps.OwnSet
import Derived.Maps.RangeWalk
import Derived.Maps.Views
import Derived.Test.YtkbodiggdajbeaaGreatDoorMT02
import Derived.Deep.RegionWith
import Derived.Deep.QuietTactic
import Derived.BigQuiet
import Derived.Below
import Derived.Laws.StructEq
import Derived.ChangeKeysEq
import Derived.OwnWalk
/- copy of a list of structs of three cells onto a list that the call made, as long as it: a law for the walk. -/
namespace Go.Proofs.YtkbodiggdajbeaaGreatDoor
open Go.RowKit

theorem run_copy3 {P : Program} (w : World) (dT sT ty elem : TypeId) (g n c : Nat) (ad : Option Addr) (sCap : Nat) (cur : Array Value) (t : TypeId) (cs : List Value)
    (hu : P.underlying dT = some (.slice elem)) (hs : (P.info? elem).map (·.size) = some 3)
    (hg : w.heap[g]? = some (.cells cur t (0, 0))) (hcur : cur.size = n * 3) (hn : cs.length = n * 3)
    (hsrc : n = 0 ∨ ∃ a, ad = some a ∧ ∀ j v, cs[j]? = some v → w.cell? (a.add j) = some v) (h1 : ∀ v ∈ cs, v.oneCell' = true) :
    ∃ w', (Builtin.copy_ #[dT, sT] ty #[.slice (some ⟨g, 0, none⟩) n c, .slice ad n sCap]).run P w = .ok (goInt n) w' ∧ w'.heap[g]? = some (.cells cs.toArray t (0, 0)) ∧ ∀ B w0, Below B w0 w → B ≤ g → Below B w0 w' := by
  cases hq : P.info? elem with
  | none => simp [hq] at hs
  | some i =>
    have hi : i.size = 3 := by simpa [hq] using hs
    rcases hsrc with rfl | ⟨a, rfl, hsrc⟩
    · obtain rfl : cs = [] := List.eq_nil_of_length_eq_zero (by simpa using hn)
      obtain rfl : cur = #[] := Array.eq_empty_of_size_eq_zero (by simpa using hcur)
      have hl : ∀ (x : Addr), (loadCells x 0).run P w = .ok #[] w := fun x => by simpa using run_loadCells_list (P := P) w x [] (by simp)
      refine ⟨w, ?_, hg, fun _ _ hb _ => hb⟩
      cases ad <;> simp [Builtin.copy_, run_underlying hu, Builtin.lenOf, Builtin.firstCells, sizeOf, typeInfo, hq, storeCells, hl]
    · have hl := run_loadCells_list (P := P) w a cs hsrc
      have hst := run_storeCells_at P g 0 t cs 0 cur w hg (by simp; omega) h1
      rw [hn] at hl
      have e : (cur.toList.take (0 + 0) ++ cs ++ cur.toList.drop (0 + 0 + cs.length)) = cs := by
        rw [List.drop_of_length_le (by simp; omega)]; simp
      rw [e] at hst
      refine ⟨w.setRow g cs.toArray, ?_, setRow_heap w g _ _ t _ hg, fun B w0 hb hB => below_setRow hb hB _⟩
      simp [Builtin.copy_, run_underlying hu, Builtin.lenOf, Builtin.firstCells, sizeOf, typeInfo, hq, hi, hl, hst]
theorem wpList_copy3 {P : Program} {w : World} {ops : Array Oper} {rest : List Oper} {o : Oper} {a : Act} {Q : Exit → Act → World → Prop} (hgd : o.guard = none) (d s : Operand) (dT sT : TypeId)
    (ho : o.op = .call { callee := .builtin .copy, args := #[d, s], argTypes := #[dT, sT] }) (elem : TypeId) (hu : P.underlying dT = some (.slice elem)) (hsz : (P.info? elem).map (·.size) = some 3)
    (g n c : Nat) (ad : Option Addr) (sCap : Nat) (hd : a.eval d = .slice (some ⟨g, 0, none⟩) n c) (hs : a.eval s = .slice ad n sCap)
    (cur : Array Value) (t : TypeId) (hg : w.heap[g]? = some (.cells cur t (0, 0))) (hcur : cur.size = n * 3) (cs : List Value) (hn : cs.length = n * 3)
    (hsrc : n = 0 ∨ ∃ a, ad = some a ∧ ∀ j v, cs[j]? = some v → w.cell? (a.add j) = some v) (h1 : ∀ v ∈ cs, v.oneCell' = true)
    (h : ∀ w', Hid (w'.heap[g]? = some (.cells cs.toArray t (0, 0))) → Hid (∀ B w0, Below B w0 w → B ≤ g → Below B w0 w') → wpList P ops Q rest (a.put o.dst (goInt n)) w') : wpList P ops Q (o :: rest) a w := by
  obtain ⟨w', hrun, h2, h3⟩ := run_copy3 (P := P) w dT sT o.type elem g n c ad sCap cur t cs hu hsz hg hcur hn hsrc h1
  refine wpList_plain hgd fun K hK => ?_
  unfold Oper.wp
  simp [execOp, ho, resolve, invoke, builtin, hd, hs, hrun, Result.andThen]
  exact hK _ _ (h w' h2 h3)
end Go.Proofs.YtkbodiggdajbeaaGreatDoor

/- impl.tryOf, (*try).meansAt and impl.ValueAt, walked at any words, Descs and place. -/
namespace Go.Proofs.YtkbodiggdajbeaaGreatDoor
open Go.ChangeShapes Go.WideShapes Go.ChangeAt Go.RowKit

theorem own_block {w : World} {base : Nat} {e : TypeId} {size g n cap : Nat} {xs : List Value} (h : w.ownsRow base e size (.slice (some ⟨g, 0, none⟩) n cap) n xs) : ∃ cur, w.heap[g]? = some (.cells cur e (0, 0)) ∧ cur.size = cap * size := by
  rcases h.2 with ⟨h0, _⟩ | ⟨g', cap', cur, hv, _, hh, _, _, hs, _⟩
  · cases h0
  · cases hv
    exact ⟨cur, hh, hs⟩
theorem trip_src {w : World} {a : Option Addr} {n : Nat} {es : List Int} (h : TripAt w a n es) : n = 0 ∨ ∃ ad, a = some ad ∧ ∀ j v, (es.map I)[j]? = some v → w.cell? (ad.add j) = some v := by
  rcases h.2.2 with h0 | ⟨b, o, rfl, g⟩
  · exact .inl h0
  · refine .inr ⟨_, rfl, fun j v hj => ?_⟩
    have hl := h.1
    have hjl : j < es.length := by
      rcases Nat.lt_or_ge j es.length with h1 | h1
      · exact h1
      · rw [List.getElem?_eq_none (by simpa using h1)] at hj; cases hj
    rw [show (⟨b, o, none⟩ : Addr).add j = ⟨b, o + j, none⟩ by simp [Addr.add], g j (by omega)]
    rw [List.getElem?_map, List.getElem?_eq_getElem hjl] at hj
    simpa [List.getD, hjl] using hj
theorem trip_block {w : World} {g n : Nat} {t : TypeId} {es : List Int} (h : w.heap[g]? = some (.cells (es.map I).toArray t (0, 0))) (hl : es.length = n * 3) (hn : n ≤ 1048576) : TripAt w (some ⟨g, 0, none⟩) n es := by
  refine ⟨hl, hn, .inr ⟨g, 0, rfl, fun i hi => ?_⟩⟩
  simp [World.cell?, h, List.getD, show i < es.length by omega]
theorem news3 {es : List Int} : ∀ v ∈ es.map I, v.oneCell' = true := by
  intro u hu
  simp at hu
  obtain ⟨x, _, rfl⟩ := hu
  rfl
theorem size3 : (Tryz.prog.info? 139).map (·.size) = some 3 := by kernel_rfl
theorem tryOf_none (x t s : Int) (da : Option Addr) (dn dc : Nat) (w : World) (h : inB t 1 (dn : Int) = false) :
    Calls Tryz.prog 81 #[WordV x t s, .slice da dn dc] w fun e w' => e = .returned (.pointer none) ∧ Below w.heap.size w w' := by
  have HT : Hid (inB t 1 (dn : Int) = false) := h
  clear h
  go_enter Tryz.func81, Tryz.ntmps81
  go_wp2_with fail
  refine (within_g t 1 _ _).mono ?_
  rintro e w1 ⟨rfl, rfl⟩
  rw [HT.out]
  go_wp2
  go_ret
  exact ⟨rfl, (Below.refl _ w).alloc (Nat.le_refl _) _⟩
/-- The cells of a try. -/
abbrev TryC (sq : Int) (y : Bool) (g n : Nat) : Array Value := #[.int .i64 sq, .bool y, .slice (some ⟨g, 0, none⟩) n n]
set_option maxHeartbeats 2000000 in
set_option maxRecDepth 100000 in
theorem tryOf_some (x s : Int) (j : Nat) (b o dn dc : Nat) (d : DK) (ea : Option Addr) (ec : Nat) (ra : Option Addr) (rc : Nat) (w : World) (hj : j < dn) (hdn : dn ≤ 1048576) (h5 : Five w b (o + j * 5) d ea ec ra rc) (h6 : TripAt w ea d.en d.es) :
    Calls Tryz.prog 81 #[WordV x ((j : Int) + 1) s, .slice (some ⟨b, o, none⟩) dn dc] w fun e w' => ∃ t g : Nat, e = .returned (.pointer (some ⟨t, 0, none⟩)) ∧ Box w' t (TryC d.sq (d.st == 2) g d.en) 185 ∧ TripAt w' (some ⟨g, 0, none⟩) d.en d.es ∧ Below w.heap.size w w' := by
  obtain ⟨dsq, dst, den, des, dcd, drn, drs⟩ := d
  dsimp only at h6 ⊢
  obtain ⟨f0, f1, f2, f3, f4⟩ := h5
  dsimp only at f0 f1 f2 f3 f4
  have H6 : Hid (TripAt w ea den des) := h6
  have hen := h6.2.1
  have HL : Hid (des.length = den * 3) := h6.1
  have hq1 : b < w.heap.size := World.block_lt_of_cell? w _ f0
  have hj0 : (0 : Int) ≤ (j : Int) := by omega
  have hj1 : (j : Int) < (dn : Int) := by omega
  have HT : Hid (inB ((j : Int) + 1) 1 (dn : Int) = true) := inB_yes (by omega)
  have HB2 : Hid (Below w.heap.size w ((w.alloc (.cells #[.int .i64 x, .int .i64 ((j : Int) + 1), .int .i64 s] 134)).alloc (.cells (DescC dsq dst ea den ec dcd ra drn rc) 137))) := ((Below.refl _ w).alloc (Nat.le_refl _) _).alloc (by simp) _
  have Y0 : Hid (Box ((w.alloc (.cells #[.int .i64 x, .int .i64 ((j : Int) + 1), .int .i64 s] 134)).alloc (.cells (DescC dsq dst ea den ec dcd ra drn rc) 137)) (w.heap.size + 1) (DescC dsq dst ea den ec dcd ra drn rc) 137) := by
    have := box_of (w.alloc (.cells #[.int .i64 x, .int .i64 ((j : Int) + 1), .int .i64 s] 134)) (DescC dsq dst ea den ec dcd ra drn rc) 137
    simp at this
    exact this
  obtain ⟨i0, hi, hz0, hz1, hz2⟩ := info_parts infoEntry
  clear h6
  go_enter Tryz.func81, Tryz.ntmps81
  go_wp2_with fail
  refine (within_g _ 1 _ _).mono ?_
  rintro e w0 ⟨rfl, rfl⟩
  rw [HT.out]
  go_wp2_with (first
    | (at_make
       refine wpList_make_full _ rfl _ _ 135 rfl (w.heap.size + 1 + 1) 139 i0 (.agg #[.int .i64 0, .int .i64 0, .int .i64 0]) 3 Tryz.underlying135 hi hz0 hz1 .i64 .i64 _ _ den rfl rfl rfl rfl (by rw [hz2]; omega) (by unfold maxLen; omega) (by simp) ?_
       intro w1 own1 grow1
       have HB1' := HB2.out.grown grow1 (by simp; omega) (fun k e => by cases e)
       have HB1 : Hid (Below w.heap.size w w1) := HB1'
       have Y1 : Hid (Box w1 (w.heap.size + 1) (DescC dsq dst ea den ec dcd ra drn rc) 137) := Y0.out.below ((Below.refl (w.heap.size + 1 + 1) _).grown grow1 (by simp) (fun k e => by cases e)) (by omega)
       obtain ⟨cur, hcur, hsz⟩ := own_block own1
       simp only [World.size_alloc] at hcur
       obtain ⟨_, _, u2, _, _, _, _, _, _, _⟩ := Y1.out.desc
       clear own1 grow1 HB1'))
  obtain ⟨w2, hrun, hg2, hf2⟩ := run_copy3 (P := Tryz.prog) w1 135 135 3 139 (w.heap.size + 1 + 1) den den ea ec cur _ (des.map I) Tryz.underlying135 size3 hcur hsz (by rw [List.length_map]; exact HL.out) (trip_src (H6.out.below HB1.out (Nat.le_refl _))) news3
  rw [hrun]
  have T2 : Hid (TripAt w2 (some ⟨w.heap.size + 1 + 1, 0, none⟩) den des) := trip_block hg2 HL.out hen
  have BB : Hid (Below w.heap.size w w2) := hf2 _ _ HB1.out (by omega)
  have Y2 : Hid (Box w2 (w.heap.size + 1) (DescC dsq dst ea den ec dcd ra drn rc) 137) := Y1.out.below (hf2 (w.heap.size + 1 + 1) w1 (Below.refl _ _) (Nat.le_refl _)) (by omega)
  have hlt2 : w.heap.size + 1 < w2.heap.size := Y2.out.lt
  obtain ⟨y0, y1, y2, y3, y4, _, _, _, _, _⟩ := Y2.out.desc
  clear hcur hsz hrun hg2 hf2 HB1 Y1 Y0 HB2 u2
  go_wp2
  go_ret
  refine ⟨w2.heap.size, w.heap.size + 1 + 1, rfl, box_of w2 _ _, T2.out.below ((Below.refl w2.heap.size w2).alloc (Nat.le_refl _) _) (Nat.le_refl _), BB.out.alloc BB.out.size _⟩
set_option maxHeartbeats 2000000 in
theorem meansAt_nil (sq at_ : Int) (w : World) : Calls Tryz.prog 82 #[.pointer none, .int .i64 sq, .int .i64 at_] w fun e w' => e = .returned (.int .i64 0) ∧ Below w.heap.size w w' := by
  go_enter Tryz.func82, Tryz.ntmps82
  go_wp2
  go_ret
  exact ⟨rfl, Below.refl _ _⟩
theorem Box.try3 {w : World} {b : Nat} {T : TypeId} {sq : Int} {y : Bool} {g n : Nat} (h : Box w b (TryC sq y g n) T) :
    w.cell? ⟨b, 0, none⟩ = some (.int .i64 sq) ∧ w.cell? ⟨b, 1, none⟩ = some (.bool y) ∧ w.cell? ⟨b, 2, none⟩ = some (.slice (some ⟨g, 0, none⟩) n n) := ⟨h.cell 0, h.cell 1, h.cell 2⟩
set_option maxHeartbeats 2000000 in
theorem meansAt_some (t g : Nat) (dsq dst : Int) (en : Nat) (es : List Int) (sq at_ : Int) (w : World) (hbx : Box w t (TryC dsq (dst == 2) g en) 185) (h6 : TripAt w (some ⟨g, 0, none⟩) en es) :
    Calls Tryz.prog 82 #[.pointer (some ⟨t, 0, none⟩), .int .i64 sq, .int .i64 at_] w fun e w' => e = .returned (.int .i64 (if dsq = sq ∧ dst = 2 then (entM es en at_).2.2.1 else (entM es en at_).2.1)) ∧ Below w.heap.size w w' := by
  obtain ⟨V, hV⟩ : ∃ V, (if dsq = sq ∧ dst = 2 then (entM es en at_).2.2.1 else (entM es en at_).2.1) = V := ⟨_, rfl⟩
  rw [hV]
  have HV : Hid ((if dsq = sq ∧ dst = 2 then (entM es en at_).2.2.1 else (entM es en at_).2.1) = V) := hV
  have H6 : Hid (TripAt w (some ⟨g, 0, none⟩) en es) := h6
  have HX : Hid (Box w t (TryC dsq (dst == 2) g en) 185) := hbx
  obtain ⟨x0, x1, x2⟩ := hbx.try3
  have hen := h6.2.1
  clear hV h6 hbx
  by_cases hk : idxE es en at_ < en
  · obtain ⟨k, hK⟩ : ∃ k, idxE es en at_ = k := ⟨_, rfl⟩
    have HK : Hid (idxE es en at_ = k) := hK
    have hlt : k < en := hK ▸ hk
    rw [entM_yes hK hlt] at HV
    clear hk hK
    go_enter Tryz.func82, Tryz.ntmps82
    go_wp2_with fail
    refine (cutAt_some at_ g 0 en en k es _ H6.out (Nat.le_refl _) HK.out hlt).mono ?_
    rintro e w1 ⟨rfl, hb1⟩
    have HB : Hid (Below w.heap.size w w1) := hb1
    obtain ⟨y0, y1, y2⟩ := (HX.out.below hb1 HX.out.lt).try3
    rcases (H6.out.below hb1 (Nat.le_refl _)).2.2 with h0 | ⟨p1, o1, e0, g1⟩
    · omega
    cases e0
    have e1 := g1 (k * 3) (by omega)
    have e2 := g1 (k * 3 + 1) (by omega)
    have e3 := g1 (k * 3 + 2) (by omega)
    obtain ⟨x, hx⟩ : ∃ x, es.getD (k * 3) 0 = x := ⟨_, rfl⟩
    obtain ⟨y, hy⟩ : ∃ y, es.getD (k * 3 + 1) 0 = y := ⟨_, rfl⟩
    obtain ⟨z, hz⟩ : ∃ z, es.getD (k * 3 + 2) 0 = z := ⟨_, rfl⟩
    rw [hy, hz] at HV
    rw [hx] at e1
    rw [hy, ← Nat.add_assoc] at e2
    rw [hz, ← Nat.add_assoc] at e3
    simp only [Nat.zero_add] at e1 e2 e3
    clear g1 hx hy hz hb1 x0 x1 x2
    by_cases hst : dst = 2
    · have hst' : (dst == 2) = true := by simpa using hst
      rw [hst'] at y1
      by_cases hsq : dsq = sq
      · have hsq' : (dsq == sq) = true := by simpa using hsq
        obtain rfl : V = z := by rw [← HV.out, if_pos ⟨hsq, hst⟩]
        clear hst hsq HV hst'
        go_wp2
        go_ret
        exact ⟨rfl, HB.out⟩
      · have hsq' : (dsq == sq) = false := by simpa using hsq
        obtain rfl : V = y := by rw [← HV.out, if_neg (fun h => hsq h.1)]
        clear hst hsq HV hst'
        go_wp2
        go_ret
        exact ⟨rfl, HB.out⟩
    · have hst' : (dst == 2) = false := by simpa using hst
      rw [hst'] at y1
      obtain rfl : V = y := by rw [← HV.out, if_neg (fun h => hst h.2)]
      clear hst HV hst'
      go_wp2
      go_ret
      exact ⟨rfl, HB.out⟩
  · have HK : Hid (¬ idxE es en at_ < en) := hk
    obtain rfl : V = 0 := by rw [← HV.out]; unfold entM; rw [if_neg hk]; simp
    clear hk HV
    go_enter Tryz.func82, Tryz.ntmps82
    go_wp2_with fail
    refine (cutAt_none at_ _ en en es _ H6.out HK.out).mono ?_
    rintro e w1 ⟨rfl, hb1⟩
    have HB : Hid (Below w.heap.size w w1) := hb1
    clear hb1
    go_wp2
    go_ret
    exact ⟨rfl, HB.out⟩
end Go.Proofs.YtkbodiggdajbeaaGreatDoor

/- impl.ValueAt, walked at any words, Descs and place. -/
namespace Go.Proofs.YtkbodiggdajbeaaGreatDoor
open Go.ChangeShapes Go.WideShapes Go.ChangeAt Go.RowKit

set_option maxHeartbeats 4000000 in
set_option maxRecDepth 100000 in
theorem implValueAt_any (a : Option Addr) (m c : Nat) (fs : List Int) (da : Option Addr) (dn dc : Nat) (ds : List DK) (at_ : Int) (w : World) (h1 : TripAt w a m fs) (h2 : DescAt w da dn ds) :
    Calls Tryz.prog 49 #[.slice a m c, .slice da dn dc, .int .i64 at_] w fun e w' => e = .returned (.int .i64 (valM fs m ds at_)) ∧ Below w.heap.size w w' := by
  have H1 : Hid (TripAt w a m fs) := h1
  have H2 : Hid (DescAt w da dn ds) := h2
  have hm := h1.2.1
  have hdn := h2.2.1
  obtain ⟨V, hV⟩ : ∃ V, valM fs m ds at_ = V := ⟨_, rfl⟩
  rw [hV]
  have HV : Hid (valM fs m ds at_ = V) := hV
  clear h1 h2 hV
  by_cases hneg : at_ < 0
  · obtain rfl : V = 0 := by rw [← HV.out]; unfold valM; rw [if_neg (by omega)]
    clear HV
    go_enter Tryz.func49, Tryz.ntmps49
    go_wp2
    go_ret
    exact ⟨rfl, Below.refl _ _⟩
  by_cases hbig : (m : Int) ≤ at_
  · obtain rfl : V = 0 := by rw [← HV.out]; unfold valM; rw [if_neg (by omega)]
    clear HV
    go_enter Tryz.func49, Tryz.ntmps49
    go_wp2
    go_ret
    exact ⟨rfl, Below.refl _ _⟩
  obtain ⟨i, rfl⟩ : ∃ i : Nat, at_ = (i : Int) := ⟨at_.toNat, by omega⟩
  have hi0 : (0 : Int) ≤ (i : Int) := by omega
  have hi1 : (i : Int) < (m : Int) := by omega
  rcases H1.out.2.2 with h0 | ⟨p1, o1, rfl, g1⟩
  · omega
  have e1 := g1 (i * 3) (by omega)
  have e2 := g1 (i * 3 + 1) (by omega)
  have e3 := g1 (i * 3 + 2) (by omega)
  have HV2 : Hid (wordM (fs.getD (i * 3) 0) (fs.getD (i * 3 + 1) 0) (fs.getD (i * 3 + 2) 0) ds i = V) := by
    show _ = _
    rw [← HV.out]
    unfold valM
    rw [if_pos ⟨hi0, hi1⟩]
    simp
  obtain ⟨x, hx⟩ : ∃ x, fs.getD (i * 3) 0 = x := ⟨_, rfl⟩
  obtain ⟨t, ht⟩ : ∃ y, fs.getD (i * 3 + 1) 0 = y := ⟨_, rfl⟩
  obtain ⟨s, hs⟩ : ∃ z, fs.getD (i * 3 + 2) 0 = z := ⟨_, rfl⟩
  rw [hx, ht, hs] at HV2
  rw [hx] at e1
  rw [ht, ← Nat.add_assoc] at e2
  rw [hs, ← Nat.add_assoc] at e3
  clear g1 hx ht hs HV
  have HBX : Hid (Below w.heap.size w (w.alloc (.cells #[.int .i64 x, .int .i64 t, .int .i64 s] 134))) := (Below.refl _ w).alloc (Nat.le_refl _) _
  go_enter Tryz.func49, Tryz.ntmps49
  go_wp2_with fail
  refine (isMark_any x t s _).mono ?_
  rintro e w1 ⟨rfl, hb1⟩
  have X1 : Hid (Box w1 w.heap.size #[.int .i64 x, .int .i64 t, .int .i64 s] 134) := (box_of w _ _).below hb1 (by simp)
  have HB1 : Hid (Below w.heap.size w w1) := HBX.out.trans (hb1.mono (by simp))
  have hlt : w.heap.size < w1.heap.size := X1.out.lt
  obtain ⟨x0, x1, x2, _, _, _⟩ := X1.out.three
  clear hb1 e1 e2 e3 HBX
  by_cases ht : t = 0
  · subst ht
    obtain rfl : V = x := by rw [← HV2.out]; simp [wordM]
    rw [show ((0 : Int) != 0) = false from rfl]
    clear HV2
    go_wp2
    go_ret
    exact ⟨rfl, HB1.out⟩
  · rw [show (t != 0) = true by simpa using ht]
    have K0 : Hid (w1.cell? ⟨w.heap.size, 0, none⟩ = some (.int .i64 x) ∧ w1.cell? ⟨w.heap.size, 1, none⟩ = some (.int .i64 t) ∧ w1.cell? ⟨w.heap.size, 2, none⟩ = some (.int .i64 s)) := ⟨x0, x1, x2⟩
    rcases hT : inB t 1 (dn : Int) with _ | _
    · have HT : Hid (inB t 1 (dn : Int) = false) := hT
      obtain rfl : V = 0 := by rw [← HV2.out]; unfold wordM; rw [if_neg ht, H2.out.1, hT]; rfl
      clear HV2 hT ht
      go_wp2_with fail
      go_region_held3 (fun w' => w'.cell? ⟨w.heap.size, 0, none⟩ = some (.int .i64 x) ∧ w'.cell? ⟨w.heap.size, 1, none⟩ = some (.int .i64 t) ∧ w'.cell? ⟨w.heap.size, 2, none⟩ = some (.int .i64 s))
        (first | (with_reducible exact K2.out) | (with_reducible exact K1.out) | (with_reducible exact K0.out) | go_keep)
        (first
        | (go_at_call 81
           refine (tryOf_none x t s da dn dc _ HT.out).mono ?_
           rintro e w2 ⟨rfl, hb2⟩
           have hb2' : Below w1.heap.size w1 w2 := (Below.refl _ w1).drew.trans hb2
           have hs2 := hb2'.size
           have HB2 : Hid (Below w.heap.size w w2) := HB1.out.trans (hb2'.mono HB1.out.size)
           have K1 : Hid (w2.cell? ⟨w.heap.size, 0, none⟩ = some (.int .i64 x) ∧ w2.cell? ⟨w.heap.size, 1, none⟩ = some (.int .i64 t) ∧ w2.cell? ⟨w.heap.size, 2, none⟩ = some (.int .i64 s)) := ⟨(hb2'.cell hlt).trans x0, (hb2'.cell hlt).trans x1, (hb2'.cell hlt).trans x2⟩
           clear hb2)
        | (go_at_call 82
           refine (meansAt_nil s i _).mono ?_
           rintro e w3 ⟨rfl, hb3⟩
           have HB3 : Hid (Below w.heap.size w w3) := HB2.out.trans (hb3.mono HB2.out.size)
           have K2 : Hid (w3.cell? ⟨w.heap.size, 0, none⟩ = some (.int .i64 x) ∧ w3.cell? ⟨w.heap.size, 1, none⟩ = some (.int .i64 t) ∧ w3.cell? ⟨w.heap.size, 2, none⟩ = some (.int .i64 s)) := ⟨(hb3.cell (Nat.lt_of_lt_of_le hlt hs2)).trans K1.out.1, (hb3.cell (Nat.lt_of_lt_of_le hlt hs2)).trans K1.out.2.1, (hb3.cell (Nat.lt_of_lt_of_le hlt hs2)).trans K1.out.2.2⟩
           clear hb3))
      clear K0 K1 K2 x0 x1 x2
      go_wp2
      go_ret
      exact ⟨rfl, HB3.out⟩
    · have htv := inB_val hT
      obtain ⟨j, rfl⟩ : ∃ j : Nat, t = (j : Int) + 1 := ⟨(t - 1).toNat, by omega⟩
      have HV3 : Hid ((if (dk ds j).sq = s ∧ (dk ds j).st = 2 then (entM (dk ds j).es (dk ds j).en i).2.2.1 else (entM (dk ds j).es (dk ds j).en i).2.1) = V) := by
        show _ = _
        rw [← HV2.out]
        unfold wordM
        rw [if_neg ht, H2.out.1, if_pos hT, show ((j : Int) + 1 - 1).toNat = j by omega]
      clear HV2 hT ht
      rcases (H2.out.below HB1.out (Nat.le_refl _)).2.2 with h0 | ⟨q1, o2, rfl, g2⟩
      · omega
      obtain ⟨ea, ec, ra, rc, h5, h6, h7⟩ := g2 j (by omega)
      have H5 : Hid (Five w1 q1 (o2 + j * 5) (dk ds j) ea ec ra rc) := h5
      have H6 : Hid (TripAt w1 ea (dk ds j).en (dk ds j).es) := h6
      have hj : j < dn := by omega
      clear g2 h5 h6 h7 htv
      go_wp2_with fail
      go_region_held3 (fun w' => w'.cell? ⟨w.heap.size, 0, none⟩ = some (.int .i64 x) ∧ w'.cell? ⟨w.heap.size, 1, none⟩ = some (.int .i64 ((j : Int) + 1)) ∧ w'.cell? ⟨w.heap.size, 2, none⟩ = some (.int .i64 s))
        (first | (with_reducible exact K2.out) | (with_reducible exact K1.out) | (with_reducible exact K0.out) | go_keep)
        (first
        | (go_at_call 81
           refine (tryOf_some x s j q1 o2 dn dc (dk ds j) ea ec ra rc _ hj hdn (H5.out.below (Below.refl w1.heap.size w1).drew (Nat.le_refl _)) (H6.out.below (Below.refl w1.heap.size w1).drew (Nat.le_refl _))).mono ?_
           rintro e w2 ⟨tt, gg, rfl, hbx2, ht2, hb2⟩
           have BX2 : Hid (Box w2 tt (TryC (dk ds j).sq ((dk ds j).st == 2) gg (dk ds j).en) 185) := hbx2
           have T2 : Hid (TripAt w2 (some ⟨gg, 0, none⟩) (dk ds j).en (dk ds j).es) := ht2
           have hb2' : Below w1.heap.size w1 w2 := (Below.refl _ w1).drew.trans hb2
           have hs2 := hb2'.size
           have HB2 : Hid (Below w.heap.size w w2) := HB1.out.trans (hb2'.mono HB1.out.size)
           have K1 : Hid (w2.cell? ⟨w.heap.size, 0, none⟩ = some (.int .i64 x) ∧ w2.cell? ⟨w.heap.size, 1, none⟩ = some (.int .i64 ((j : Int) + 1)) ∧ w2.cell? ⟨w.heap.size, 2, none⟩ = some (.int .i64 s)) := ⟨(hb2'.cell hlt).trans x0, (hb2'.cell hlt).trans x1, (hb2'.cell hlt).trans x2⟩
           clear hb2 hbx2 ht2)
        | (go_at_call 82
           refine (meansAt_some tt gg (dk ds j).sq (dk ds j).st (dk ds j).en (dk ds j).es s i _ BX2.out T2.out).mono ?_
           rintro e w3 ⟨rfl, hb3⟩
           rw [HV3.out]
           have HB3 : Hid (Below w.heap.size w w3) := HB2.out.trans (hb3.mono HB2.out.size)
           have K2 : Hid (w3.cell? ⟨w.heap.size, 0, none⟩ = some (.int .i64 x) ∧ w3.cell? ⟨w.heap.size, 1, none⟩ = some (.int .i64 ((j : Int) + 1)) ∧ w3.cell? ⟨w.heap.size, 2, none⟩ = some (.int .i64 s)) := ⟨(hb3.cell (Nat.lt_of_lt_of_le hlt hs2)).trans K1.out.1, (hb3.cell (Nat.lt_of_lt_of_le hlt hs2)).trans K1.out.2.1, (hb3.cell (Nat.lt_of_lt_of_le hlt hs2)).trans K1.out.2.2⟩
           clear hb3))
      clear K0 K1 K2 x0 x1 x2
      go_wp2
      go_ret
      exact ⟨rfl, HB3.out⟩
end Go.Proofs.YtkbodiggdajbeaaGreatDoor

/- spec.Meaning and impl.Meaning, walked at any words and Descs. -/
namespace Go.Proofs.YtkbodiggdajbeaaGreatDoor
open Go.ChangeShapes Go.WideShapes Go.ChangeAt Go.RowKit

def meanM (fs : List Int) (m : Nat) (ds : List DK) : List Int := (List.range m).map fun (i : Nat) => valM fs m ds (i : Int)
theorem meanM_len (fs : List Int) (m : Nat) (ds : List DK) : (meanM fs m ds).length = m := by simp [meanM]
theorem meanM_at (fs : List Int) (m : Nat) (ds : List DK) {k : Nat} (h : k < m) : (meanM fs m ds).getD k 0 = valM fs m ds (k : Int) := by simp [meanM, List.getD, h]
theorem meanM_next (fs : List Int) (m : Nat) (ds : List DK) {k : Nat} (h : k < m) : (meanM fs m ds).take (k + 1) = (meanM fs m ds).take k ++ [valM fs m ds (k : Int)] := by
  rw [List.take_succ_eq_append_getElem (by rw [meanM_len]; exact h)]
  congr 2
  have := meanM_at fs m ds h
  simpa [List.getD, meanM_len, h] using this
set_option maxHeartbeats 1000000 in
theorem specMeaning_any (a : Option Addr) (m c : Nat) (fs : List Int) (da : Option Addr) (dn dc : Nat) (ds : List DK) (w : World) (h1 : TripAt w a m fs) (h2 : DescAt w da dn ds) :
    Calls Tryz.prog 16 #[.slice a m c, .slice da dn dc] w fun e w' => ∃ v, e = .returned v ∧ w'.ownsRow w.heap.size 3 1 v m ((meanM fs m ds).map I) ∧ Below w.heap.size w w' := by
  have H1 : Hid (TripAt w a m fs) := h1
  have H2 : Hid (DescAt w da dn ds) := h2
  have hm := h1.2.1
  clear h1 h2
  obtain ⟨i0, hi, hz0, hz1, hz2⟩ := info_parts infoInt
  go_enter Tryz.func16, Tryz.ntmps16
  go_wp2
  go_loopw [5, 6] (fun v i wr => ∃ k : Nat, k ≤ m ∧ i = .int .i64 (k : Int) ∧ wr.ownsRow w.heap.size 3 1 v k (((meanM fs m ds).take k).map I) ∧ Below w.heap.size w wr) (fun _ i _ => m - (intOf i).toNat)
  case atStart => exact ⟨0, Nat.zero_le _, rfl, own_empty (Nat.le_refl _), (Below.refl _ w).alloc (Nat.le_refl _) _⟩
  case round =>
    obtain ⟨k, hk, rfl, ho, hb⟩ := hrel
    by_cases hlt : k < m
    · have HO : Hid _ := ho
      have hk0 : (0 : Int) ≤ (k : Int) := by omega
      clear ho
      go_wp2_with fail
      refine (specValueAt_any a m c fs da dn dc ds k _ (H1.out.below hb (Nat.le_refl _)) (H2.out.below hb (Nat.le_refl _))).mono ?_
      rintro e w1 ⟨rfl, hb1⟩
      have ho1 := owns_below HO.out hb1 (Nat.le_refl _)
      have hb2 : Below w.heap.size w w1 := hb.trans (hb1.mono hb.size)
      have hB := hb2.size
      obtain ⟨x, hx⟩ : ∃ x, valM fs m ds (k : Int) = x := ⟨_, rfl⟩
      have HN : Hid ((meanM fs m ds).take (k + 1) = (meanM fs m ds).take k ++ [x]) := by rw [← hx]; exact meanM_next fs m ds hlt
      rw [hx]
      clear hx hb1 HO
      go_wp2_with (at_builtin; refine wpList_append_own _ rfl _ _ 28 rfl w.heap.size 3 i0 (.int .i64 0) 1 8 Tryz.underlying28 hi hz0 hz1 hz2 rfl (by decide) _ _ _ rfl (ho1.alloc _) ⟨w1.heap.size, 0, none⟩ 1 1 [I x] rfl rfl ?c1 ?c2 ?c3 ?c4 ?c5 ?_)
      case c1 =>
        intro j u hj
        match j, hj with
        | 0, hj => simp at hj; subst hj; simp [Addr.add]
      case c2 => intro u hu; simp at hu; subst hu; rfl
      case c3 => unfold maxLen; omega
      case c4 => omega
      case c5 => simp; omega
      · intro v1 w4 hown1 hgrow _
        have HO4 : Hid (w4.ownsRow w.heap.size 3 1 v1 (k + 1) (((meanM fs m ds).take (k + 1)).map I)) := by
          show World.ownsRow _ _ _ _ _ _ _
          rw [HN.out, List.map_append, List.map_take]
          exact hown1
        have HB4 : Hid (Below w.heap.size w w4) := (hb2.alloc hB _).grown hgrow (by simp; omega) (fun q e => (ho1.lt q e).1)
        clear hown1 hgrow ho1 hb2
        go_wp2
        go_roundw
        case rel => exact ⟨k + 1, by omega, by go_num, HO4.out, HB4.out⟩
        case measure => simp [intOf]; omega
    · obtain rfl : k = m := by omega
      have e : (meanM fs k ds).take k = meanM fs k ds := List.take_of_length_le (by rw [meanM_len]; exact Nat.le_refl _)
      rw [e] at ho
      have HO : Hid _ := ho
      clear e
      clear ho
      go_wp2
      go_ret
      exact ⟨_, rfl, HO.out, hb⟩
set_option maxHeartbeats 1000000 in
theorem implMeaning_any (a : Option Addr) (m c : Nat) (fs : List Int) (da : Option Addr) (dn dc : Nat) (ds : List DK) (w : World) (h1 : TripAt w a m fs) (h2 : DescAt w da dn ds) :
    Calls Tryz.prog 24 #[.slice a m c, .slice da dn dc] w fun e w' => e = .returned (.slice (some ⟨w.heap.size, 0, none⟩) m m) ∧ w'.ownsRow w.heap.size 3 1 (.slice (some ⟨w.heap.size, 0, none⟩) m m) m ((meanM fs m ds).map I) ∧ Below w.heap.size w w' := by
  have H1 : Hid (TripAt w a m fs) := h1
  have H2 : Hid (DescAt w da dn ds) := h2
  have hm := h1.2.1
  have HL : Hid ((meanM fs m ds).length = m) := meanM_len fs m ds
  clear h1 h2
  obtain ⟨i0, hi, hz0, hz1, hz2⟩ := info_parts infoInt
  go_enter Tryz.func24, Tryz.ntmps24
  go_wp2_with (at_make; refine wpList_make_full _ rfl _ _ 28 rfl w.heap.size 3 i0 (.int .i64 0) 1 Tryz.underlying28 hi hz0 hz1 .i64 .i64 _ _ m rfl rfl rfl rfl (by rw [hz2]; omega) (by unfold maxLen; omega) (Nat.le_refl _) ?_; intro w1 own1 grow1)
  have own0 : Hid (w1.ownsRow w.heap.size 3 1 (.slice (some ⟨w.heap.size, 0, none⟩) m m) m ((upto (meanM fs m ds) 0 m).map I)) := by
    show World.ownsRow _ _ _ _ _ _ _
    have e : (madeCells (Value.int .i64 0).cells (m * 1)).toList = (upto (meanM fs m ds) 0 m).map I := by
      rw [Nat.mul_one]
      exact (toList_madeCells_one _ _).trans (by simp [upto])
    rwa [e] at own1
  have hb1 : Below w.heap.size w w1 := (Below.refl _ _).grown grow1 (Nat.le_refl _) (fun k e => by cases e)
  clear own1 grow1
  go_loopw [12] (fun i wr => ∃ k : Nat, k ≤ m ∧ i = .int .i64 (k : Int) ∧ wr.ownsRow w.heap.size 3 1 (.slice (some ⟨w.heap.size, 0, none⟩) m m) m ((upto (meanM fs m ds) k m).map I) ∧ Below w.heap.size w wr) (fun i _ => m - (intOf i).toNat)
  case atStart => exact ⟨0, Nat.zero_le _, rfl, own0.out, hb1⟩
  case round =>
    obtain ⟨k, hk, rfl, ho, hb⟩ := hrel
    have HO : Hid (wr.ownsRow w.heap.size 3 1 (.slice (some ⟨w.heap.size, 0, none⟩) m m) m ((upto (meanM fs m ds) k m).map I)) := ho
    clear own0 hb1 ho
    by_cases hlt : k < m
    · have hk0 : (0 : Int) ≤ (k : Int) := by omega
      have hk1 : (k : Int) < (m : Int) := by omega
      go_wp2_with fail
      refine (implValueAt_any a m c fs da dn dc ds k _ (H1.out.below hb (Nat.le_refl _)) (H2.out.below hb (Nat.le_refl _))).mono ?_
      rintro e w2 ⟨rfl, hb2⟩
      have ho2 := owns_below HO.out hb2 (Nat.le_refl _)
      have hb02 : Below w.heap.size w w2 := hb.trans (hb2.mono hb.size)
      obtain ⟨x, hx⟩ : ∃ x, valM fs m ds (k : Int) = x := ⟨_, rfl⟩
      have hs1 := ho2.stored k (I x)
      rw [← hx, ← meanM_at fs m ds hlt, upto_step HL.out hlt, meanM_at fs m ds hlt, hx] at hs1
      have HS : Hid ((w2.setCell ⟨w.heap.size, k, none⟩ (I x)).ownsRow w.heap.size 3 1 (.slice (some ⟨w.heap.size, 0, none⟩) m m) m ((upto (meanM fs m ds) (k + 1) m).map I)) := hs1.1
      rw [hx]
      have z0 := ho2.frozenAt k
      obtain ⟨u0, hu0⟩ := own_cell ho2 hlt
      clear hs1 ho2 hb2 hx
      go_wp2
      go_roundw
      case rel => exact ⟨k + 1, by omega, by go_num, HS.out, hb02.setCell (Nat.le_refl _) _⟩
      case measure => simp [intOf]; omega
    · obtain rfl : k = m := by omega
      have HE : Hid (wr.ownsRow w.heap.size 3 1 (.slice (some ⟨w.heap.size, 0, none⟩) k k) k ((meanM fs k ds).map I)) := by
        show World.ownsRow _ _ _ _ _ _ _
        have h := HO.out
        rw [show upto (meanM fs k ds) k k = meanM fs k ds by unfold upto; rw [List.take_of_length_le (by rw [meanM_len]; exact Nat.le_refl _)]; simp] at h
        exact h
      go_wp2
      go_ret
      exact ⟨rfl, HE.out, hb⟩
end Go.Proofs.YtkbodiggdajbeaaGreatDoor

/- impl.holdersOf, walked at four numbers: a new map of its own that has, at each number but nought that is held, the keys that hold it, rising. -/
namespace Go.Proofs.YtkbodiggdajbeaaGreatDoor
open Go.ChangeShapes Go.WideShapes Go.ChangeAt Go.RowKit Go.Maps

theorem mapLaw : Keyed Tryz.prog 3 := int_keyed Tryz.underlying3
theorem zeroInts (w : World) : (zeroValue 28).run Tryz.prog w = .ok (.slice none 0 0) w := by kernel_rfl

/-- Which of the first k places hold x. -/
def posK (xs : List Int) (k : Nat) (x : Int) : List Int := ((List.range k).filter fun i => xs.getD i 0 == x).map fun (i : Nat) => (i : Int)
theorem posK_zero (xs : List Int) (x : Int) : posK xs 0 x = [] := rfl
theorem posK_same {xs : List Int} {k : Nat} {x : Int} (h : xs.getD k 0 = x) : posK xs (k + 1) x = posK xs k x ++ [(k : Int)] := by
  simp only [posK, List.range_succ, List.filter_append, List.map_append]
  rw [List.filter_cons_of_pos (by simpa using h)]
  rfl
theorem posK_other {xs : List Int} {k : Nat} {x : Int} (h : xs.getD k 0 ≠ x) : posK xs (k + 1) x = posK xs k x := by
  simp only [posK, List.range_succ, List.filter_append, List.map_append]
  rw [List.filter_cons_of_neg (by simpa using h)]
  simp

section
variable {H : Type}
/-- What a list of keys reads as. -/
def rowOf : List Int → DataW H
  | [] => .nil
  | z :: r => .slice (lits .i64 (z :: r)) []
theorem rowOf_pos {l : List Int} (h : l ≠ []) : rowOf (H := H) l = .slice (lits .i64 l) [] := by
  cases l with
  | nil => exact absurd rfl h
  | cons z r => rfl

/-- The map D has, at each number, the keys below k that hold it. -/
def GD (xs : List Int) (k : Nat) (D : DataW H) : Prop :=
  IsMap D ∧ ∀ x : Int, Maps.has D (.int .i64 x) = decide (posK xs k x ≠ []) ∧ D.atKey (.int .i64 x) .nil = rowOf (posK xs k x)

theorem lits_inj {a b : List Int} (h : lits (H := H) .i64 a = lits .i64 b) : a = b := by
  unfold lits at h
  exact (List.map_inj_right (fun _ _ hxy => by cases hxy; rfl)).1 h

theorem GD_zero (xs : List Int) : GD (H := H) xs 0 (.map []) := ⟨⟨[], rfl⟩, fun _ => ⟨rfl, rfl⟩⟩

theorem GD_zs {xs : List Int} {k : Nat} {D : DataW H} {x : Int} {w : World} {base : Nat} {v : Value} {zs : List Int} (h : GD xs k D) (hat : D.atKey (.int .i64 x) .nil = rowDatum .i64 v zs) (hoi : w.ownsInts base 3 .i64 v zs) : zs = posK xs k x := by
  rw [(h.2 x).2] at hat
  rcases hoi.datum (H := H) with ⟨h1, h2⟩ | h1
  · rw [h1] at hat
    rw [h2]
    cases hp : posK xs k x with
    | nil => rfl
    | cons z r => rw [hp] at hat; cases hat
  · rw [h1] at hat
    cases hp : posK xs k x with
    | nil => rw [hp] at hat; cases hat
    | cons z r =>
      rw [hp] at hat
      simp only [rowOf, DataW.slice.injEq] at hat
      exact (lits_inj hat.1).symm

theorem GD_step {xs : List Int} {k : Nat} {D : DataW H} {x : Int} (h : GD xs k D) (hx : xs.getD k 0 = x) (hw : (Lit.int .i64 x).wf = true) : GD xs (k + 1) (D.put (.int .i64 x) (.slice (lits .i64 (posK xs k x ++ [(k : Int)])) [])) := by
  have hk : WideAt.IsKeyLit (.int .i64 x) := mapLaw.key (keyOf_int_mk Tryz.underlying3 hw)
  refine ⟨h.1.put _ _, fun y => ?_⟩
  by_cases hy : y = x
  · subst hy
    rw [posK_same hx, has_put_same h.1 hk, atKey_put_same h.1 hk, rowOf_pos (by simp)]
    simp
  · have hne : Lit.int .i64 y ≠ .int .i64 x := fun e => hy (by cases e; rfl)
    rw [posK_other (fun e => hy (by rw [← hx, e])), has_put_other hne, atKey_put_other hne]
    exact h.2 y

/-- .. and nothing at nought. -/
def HD (xs : List Int) (D : DataW H) : Prop :=
  ∀ x : Int, Maps.has D (.int .i64 x) = decide (x ≠ 0 ∧ posK xs 4 x ≠ []) ∧ (x ≠ 0 → ∀ zd, posK xs 4 x ≠ [] → D.atKey (.int .i64 x) zd = .slice (lits .i64 (posK xs 4 x)) [])

end

theorem groups_map {H : Type} {w : World} {P : Program} {k : TypeId} {base : Nat} {e : TypeId} {q : IntKind} {b n : Nat} {D : DataW H} (h : w.ownsGroups P k base e q b n D) : w.ownsMap P k (rowElem w base e q) b n D := by
  obtain ⟨es, clock, hb, F, hs, hD, _⟩ := h
  exact ⟨es, clock, hb, F, hs, hD⟩
theorem groups_base {H : Type} {w : World} {P : Program} {k : TypeId} {base : Nat} {e : TypeId} {q : IntKind} {b n : Nat} {D : DataW H} (h : w.ownsGroups P k base e q b n D) : b < base := by
  obtain ⟨es, clock, hb, F, hs, hD, h1, _⟩ := h
  exact h1

/-- What stands at a key that is there does not hang on what would be told if it were not. -/
theorem atKey_has {H : Type} {D : DataW H} {k : Lit} (h : Maps.has D k = true) (z z' : DataW H) : D.atKey k z = D.atKey k z' := by
  cases D <;> try (simp [Maps.has] at h; done)
  rename_i es
  simp only [Maps.has] at h
  simp only [DataW.atKey]
  obtain ⟨p, hp, hk⟩ := List.any_eq_true.1 h
  cases hf : es.find? (fun p => p.1.sameKey k) with
  | some q => rfl
  | none => exact absurd hk (by simpa using List.find?_eq_none.1 hf p hp)

/-- What the elements of the map are: lists of numbers of the call's own. -/
def RowsIn {H : Type} (R : Value → Option (DataW H × List MemPlace)) (w : World) (base : Nat) : Prop :=
  ∀ v y, R v = some y → ∃ zs, w.ownsInts base 3 .i64 v zs ∧ y.1 = rowDatum .i64 v zs

end Go.Proofs.YtkbodiggdajbeaaGreatDoor

/- Going through the map of holdersOf: what a step hands over. -/
namespace Go.Proofs.YtkbodiggdajbeaaGreatDoor
open Go.ChangeShapes Go.WideShapes Go.ChangeAt Go.RowKit Go.Maps

theorem row_slice {w : World} {base : Nat} {v : Value} {zs : List Int} (h : w.ownsInts base 3 .i64 v zs) : ∃ p : Option Addr × Nat × Nat, v = .slice p.1 p.2.1 p.2.2 := by
  rcases h.1.2 with ⟨rfl, _⟩ | ⟨g, cap, cur, rfl, _⟩
  · exact ⟨(none, 0, 0), rfl⟩
  · exact ⟨(some ⟨g, 0, none⟩, zs.length, cap), rfl⟩

theorem row_len {w : World} {base : Nat} {a : Option Addr} {n c : Nat} {zs : List Int} (h : w.ownsInts base 3 .i64 (.slice a n c) zs) : n = zs.length := by
  rcases h.1.2 with ⟨h1, h2⟩ | ⟨g, cap, cur, h1, _⟩
  · simp only [Value.slice.injEq] at h1
    omega
  · simp only [Value.slice.injEq] at h1
    exact h1.2.1

theorem row_intAt {w : World} {base : Nat} {a : Option Addr} {n c : Nat} {zs : List Int} (h : w.ownsInts base 3 .i64 (.slice a n c) zs) (h0 : zs ≠ []) (hn : zs.length ≤ 4) : ∃ g, a = some ⟨g, 0, none⟩ ∧ w.cell? ⟨g, 0, none⟩ = some (I (zs.getD 0 0)) ∧ g < w.heap.size ∧ base ≤ g := by
  have hl := row_len h
  have h00 : 0 < zs.length := List.length_pos_iff.2 h0
  rcases h.1.2 with ⟨h1, h2⟩ | ⟨g, cap, cur, h1, h3⟩
  · omega
  · simp only [Value.slice.injEq] at h1
    obtain ⟨rfl, rfl, rfl⟩ := h1
    have h4 := own_intAt h.1 (by omega)
    have h5 := h.1.lt g rfl
    refine ⟨g, rfl, ?_, h5.2, h5.1⟩
    rcases h4.2.2 with h6 | ⟨b, o, h6, h7⟩
    · omega
    · simp only [Option.some.injEq, Addr.mk.injEq] at h6
      obtain ⟨rfl, rfl, _⟩ := h6
      exact h7 0 h00

/-- What the keys of the map are told with. -/
theorem step_row {H : Type} {xs : List Int} {D : DataW H} {R : Value → Option (DataW H × List MemPlace)} {w0 : World} {base : Nat} {x : Int} {v : Value} {y : DataW H × List MemPlace} (hR : RowsIn R w0 base) (hD : HD xs D) (hv : R v = some y) (hat : ∀ zd, D.atKey (.int .i64 x) zd = y.1) :
    x ≠ 0 ∧ posK xs 4 x ≠ [] ∧ w0.ownsInts base 3 .i64 v (posK xs 4 x) := by
  have hh := has_true_of_atKey hat
  rw [(hD x).1] at hh
  obtain ⟨h0, hp⟩ := of_decide_eq_true hh
  obtain ⟨zs, ho, hy⟩ := hR v y hv
  have h1 := (hD x).2 h0 .nil hp
  rw [hat, hy] at h1
  refine ⟨h0, hp, ?_⟩
  rcases ho.datum (H := H) with ⟨h2, _⟩ | h2
  · rw [h2] at h1; cases h1
  · rw [h2] at h1
    simp only [DataW.slice.injEq] at h1
    rw [← lits_inj h1.1]
    exact ho

section
variable {H : Type} {P : Program} (w : World) {ops : Array Oper} {rest : List Oper} {o : Oper} {a : Act} {Q : Exit → Act → World → Prop}
/-- THE STEP of a loop over such a map. -/
theorem wpList_next_rows (hg : o.guard = none) (it : Operand) (hop : o.op = Op.next it false) (R : Value → Option (DataW H × List MemPlace)) {w0 : World} {base : Nat} (hR : RowsIn R w0 base) {xs : List Int}
    (b r n : Nat) (D : DataW H) (hD : HD xs D) (left : Lit → Bool) (cnt : Nat) (hit : a.eval it = .pointer (some ⟨r, 0, none⟩)) (h : w.ranges Tryz.prog 3 R b r n D left cnt)
    (hDone : cnt = 0 → (∀ kl, left kl = false) → wpList Tryz.prog ops Q rest (a.put o.dst (.tuple #[.bool false])) w)
    (hMore : ∀ (x : Int) (p : Option Addr) (l c : Nat) (w' : World) (cnt' : Nat), left (.int .i64 x) = true → x ≠ 0 → posK xs 4 x ≠ [] → w0.ownsInts base 3 .i64 (.slice p l c) (posK xs 4 x) → w'.ranges Tryz.prog 3 R b r n D (fun z => left z && !z.sameKey (.int .i64 x)) cnt' → cnt' < cnt →
      w.grownBy w' (some r) → w'.heap.size = w.heap.size → (Instr.entry (.pointer (some ⟨r, 0, none⟩))).run Tryz.prog w' = .ok (.tuple #[.int .i64 x, .slice p l c]) w' → wpList Tryz.prog ops Q rest (a.put o.dst (.tuple #[.bool true, .int .i64 x, .slice p l c])) w') :
    wpList Tryz.prog ops Q (o :: rest) a w :=
  wpList_next_ranges w hg it hop 3 mapLaw R (Value.int .i64) (fun p : Option Addr × Nat × Nat => Value.slice p.1 p.2.1 p.2.2) (fun key kl hkey => by obtain ⟨x, rfl, _⟩ := Maps.keyOf_int_inv Tryz.underlying3 hkey; exact ⟨x, rfl⟩)
    (fun v y hv => by obtain ⟨zs, ho, _⟩ := hR v y hv; exact row_slice ho)
    b r n D left cnt hit h hDone (fun x c kl y w' cnt' hkey hlk hv hat hrg hlt hgr hsz hen => by
      obtain ⟨x', ex, rfl, hwx⟩ := Maps.keyOf_int_inv Tryz.underlying3 hkey
      cases ex
      obtain ⟨h1, h2, h3⟩ := step_row hR hD hv hat
      exact hMore x c.1 c.2.1 c.2.2 w' cnt' hlk h1 h2 h3 hrg hlt hgr hsz hen)
end

/-- Which keys have come already: those of the map that are not to come. -/
theorem sameKey_int (x y : Int) : (Lit.int .i64 x).sameKey (.int .i64 y) = decide (x = y) := by
  by_cases h : x = y
  · subst h
    simp [Lit.sameKey]
  · rw [Maps.sameKey_ne (fun e => h (by cases e; rfl))]
    simp [h]
end Go.Proofs.YtkbodiggdajbeaaGreatDoor

/- impl.RowsOk, walked: whether the rows can be a table. -/
namespace Go.Proofs.YtkbodiggdajbeaaGreatDoor
open Go.ChangeShapes Go.WideShapes Go.ChangeAt Go.RowKit Go.Maps

/-- The answer e is the Boolean that says whether p. -/
def Says (e : Ending) (p : Prop) : Prop := ∃ ok : Bool, e = .returned (.bool ok) ∧ (ok = true ↔ p)
/-- What is held at x is right: it can be held, and one key at most holds it. -/
def Good (xs : List Int) (x : Int) : Prop := (1 ≤ x ∧ x ≤ 6) ∧ (posK xs 4 x).length ≤ 1
/-- The rows can be a table. -/
def OkRows (xs : List Int) (st : Int) : Prop := xs.length = 4 ∧ 0 ≤ st ∧ st ≤ 5 ∧ ∀ x, x ≠ 0 → posK xs 4 x ≠ [] → Good xs x

end Go.Proofs.YtkbodiggdajbeaaGreatDoor

/- spec.KeyOf and spec.RowsOk, walked at any list. -/
namespace Go.Proofs.YtkbodiggdajbeaaGreatDoor
open Go.ChangeShapes Go.WideShapes Go.ChangeAt Go.RowKit Go.Maps

/-- r is the first place of v among the first n of xs, or -1. -/
def KeyIs (xs : List Int) (n : Nat) (v r : Int) : Prop := (r = -1 ∧ ∀ i, i < n → xs.getD i 0 ≠ v) ∨ ∃ i : Nat, i < n ∧ r = (i : Int) ∧ xs.getD i 0 = v ∧ ∀ j, j < i → xs.getD j 0 ≠ v
/-- The answer is that number. -/
def KeySays (e : Ending) (xs : List Int) (n : Nat) (v : Int) : Prop := ∃ r : Int, e = .returned (.int .i64 r) ∧ KeyIs xs n v r

/-- The rows can be a table, as the specification looks at them: what each place of the first k holds is right. -/
def SpecGood (xs : List Int) (n : Nat) (i : Nat) : Prop := xs.getD i 0 = 0 ∨ ((1 ≤ xs.getD i 0 ∧ xs.getD i 0 ≤ 6) ∧ KeyIs xs n (xs.getD i 0) i)
def SpecOk (xs : List Int) (n : Nat) (st : Int) : Prop := (∀ i, i < n → SpecGood xs n i) ∧ n = 4 ∧ 0 ≤ st ∧ st ≤ 5

theorem KeyIs.one {xs : List Int} {n : Nat} {v r s : Int} (h : KeyIs xs n v r) (k : KeyIs xs n v s) : r = s := by
  rcases h with ⟨rfl, h⟩ | ⟨i, hi, rfl, h1, h2⟩ <;> rcases k with ⟨rfl, k⟩ | ⟨j, hj, rfl, k1, k2⟩
  · rfl
  · exact absurd k1 (h j hj)
  · exact absurd h1 (k i hi)
  · by_cases hij : i < j
    · exact absurd h1 (k2 i hij)
    · by_cases hji : j < i
      · exact absurd k1 (h2 j hji)
      · rw [show i = j by omega]

theorem specValOk_not {x : Int} (h : ¬ (1 ≤ x ∧ x ≤ 6)) (w : World) : Calls Tryz.prog 99 #[.int .i64 x] w fun e w' => e = .returned (.bool false) ∧ w' = w := by
  have := specValOk_any x w
  rwa [show decide (1 ≤ x ∧ x ≤ 6) = false from decide_eq_false h] at this

theorem good_next {xs : List Int} {n k : Nat} (h : ∀ j, j < k → SpecGood xs n j) (h1 : SpecGood xs n k) : ∀ j, j < k + 1 → SpecGood xs n j := fun j hj => by
  by_cases hjk : j = k
  · subst hjk
    exact h1
  · exact h j (by omega)

/-- Both look for the same. -/
theorem mem_posK {xs : List Int} {k : Nat} {x : Int} {i : Int} : i ∈ posK xs k x ↔ ∃ j : Nat, j < k ∧ xs.getD j 0 = x ∧ i = (j : Int) := by
  simp only [posK, List.mem_map, List.mem_filter, List.mem_range, beq_iff_eq]
  constructor
  · rintro ⟨j, ⟨h1, h2⟩, rfl⟩
    exact ⟨j, h1, h2, rfl⟩
  · rintro ⟨j, h1, h2, rfl⟩
    exact ⟨j, ⟨h1, h2⟩, rfl⟩
theorem one_of {l : List Int} (h : l.length ≤ 1) {a b : Int} (ha : a ∈ l) (hb : b ∈ l) : a = b := by
  match l, h with
  | [], _ => simp at ha
  | [x], _ => simp at ha hb; rw [ha, hb]
  | _ :: _ :: _, h => simp at h
theorem len_of {l : List Int} (hd : l.Nodup) {j : Int} (h : ∀ a ∈ l, a = j) : l.length ≤ 1 := by
  match l, hd with
  | [], _ => simp
  | [x], _ => simp
  | x :: y :: r, hd =>
    have h1 := h x (by simp)
    have h2 := h y (by simp)
    rw [h1, h2] at hd
    simp at hd
theorem posK_nodup (xs : List Int) (k : Nat) (x : Int) : (posK xs k x).Nodup := by
  unfold posK
  exact List.Pairwise.map _ (fun a b hab e => hab (by omega)) (List.nodup_range.filter _)

theorem ok_iff {xs : List Int} {n : Nat} {st : Int} (hl : xs.length = n) : SpecOk xs n st ↔ OkRows xs st := by
  constructor
  · rintro ⟨h, rfl, h0, h1⟩
    refine ⟨hl, h0, h1, fun x hx hp => ?_⟩
    obtain ⟨i, hi⟩ := List.exists_mem_of_ne_nil _ hp
    obtain ⟨j, hj, hjx, rfl⟩ := mem_posK.1 hi
    rcases h j hj with h2 | ⟨h2, h3⟩
    · exact absurd (hjx.symm.trans h2) hx
    rw [hjx] at h2 h3
    refine ⟨h2, len_of (posK_nodup _ _ _) (j := (j : Int)) fun a ha => ?_⟩
    obtain ⟨i, hi, hix, rfl⟩ := mem_posK.1 ha
    rcases h i hi with h4 | ⟨_, h4⟩
    · exact absurd (hix.symm.trans h4) hx
    rw [hix] at h4
    exact h4.one h3
  · rintro ⟨h4, h0, h1, h⟩
    obtain rfl : n = 4 := by omega
    refine ⟨fun i hi => ?_, rfl, h0, h1⟩
    by_cases hx : xs.getD i 0 = 0
    · exact .inl hx
    · have hm : (i : Int) ∈ posK xs 4 (xs.getD i 0) := mem_posK.2 ⟨i, hi, rfl, rfl⟩
      obtain ⟨h2, h3⟩ := h _ hx (List.ne_nil_of_mem hm)
      refine .inr ⟨h2, .inr ⟨i, hi, rfl, rfl, fun j hj e => ?_⟩⟩
      have := one_of h3 hm (mem_posK.2 ⟨j, by omega, e, rfl⟩)
      omega
end Go.Proofs.YtkbodiggdajbeaaGreatDoor

/- spec.ClassOf and impl.ClassOf, walked: both answer the class, -1 of what is none. -/
namespace Go.Proofs.YtkbodiggdajbeaaGreatDoor
open Go.ChangeShapes Go.WideShapes Go.ChangeAt Go.RowKit

def classN (v : Int) : Int := if 1 ≤ v ∧ v ≤ 6 then v % 3 else -1

end Go.Proofs.YtkbodiggdajbeaaGreatDoor

/- The words of a table of four keys, as a list: what is told of which keys so far. No program. -/
namespace Go.Proofs.YtkbodiggdajbeaaGreatDoor

/-- The key and 1 of who holds v, or 0. -/
def ownW (y0 y1 y2 y3 v : Int) : Int := if y0 = v then 1 else if y1 = v then 2 else if y2 = v then 3 else if y3 = v then 4 else 0
/-- Whether y is of class c. -/
def bitW (y c : Int) : Int := if (1 ≤ y ∧ y ≤ 6) ∧ classN y = c then 1 else 0
def clsW (y0 y1 y2 y3 c : Int) : Int := bitW y0 c + bitW y1 c + bitW y2 c + bitW y3 c
/-- .. by the other way, as far as it is made. -/
def viaW (y0 y1 y2 y3 st v : Int) : Int := if ownW y0 y1 y2 y3 v < st then ownW y0 y1 y2 y3 v else 0
/-- All words; the counts and the state as they are handed in. -/
def wordsG (y0 y1 y2 y3 c0 c1 c2 s st : Int) : List Int :=
  [y0, y1, y2, y3, ownW y0 y1 y2 y3 1, ownW y0 y1 y2 y3 2, ownW y0 y1 y2 y3 3, ownW y0 y1 y2 y3 4, ownW y0 y1 y2 y3 5, ownW y0 y1 y2 y3 6, c0, c1, c2, s,
   viaW y0 y1 y2 y3 st 1, viaW y0 y1 y2 y3 st 2, viaW y0 y1 y2 y3 st 3, viaW y0 y1 y2 y3 st 4, viaW y0 y1 y2 y3 st 5, viaW y0 y1 y2 y3 st 6]
def wordsL (y0 y1 y2 y3 st : Int) : List Int := wordsG y0 y1 y2 y3 (clsW y0 y1 y2 y3 0) (clsW y0 y1 y2 y3 1) (clsW y0 y1 y2 y3 2) st st

theorem wordsG_len (y0 y1 y2 y3 c0 c1 c2 s st : Int) : (wordsG y0 y1 y2 y3 c0 c1 c2 s st).length = 20 := rfl

theorem ownW_none {y0 y1 y2 y3 v : Int} (h0 : y0 ≠ v) (h1 : y1 ≠ v) (h2 : y2 ≠ v) (h3 : y3 ≠ v) : ownW y0 y1 y2 y3 v = 0 := by simp [ownW, h0, h1, h2, h3]

/-- What one key adds: at its own place, at what it holds, and at that by the other way. -/
def stepW (L : List Int) (k : Nat) (x : Int) (st : Int) : List Int :=
  if (k : Int) + 1 < st then ((L.set k x).set (x + 3).toNat ((k : Int) + 1)).set (x + 13).toNat ((k : Int) + 1) else (L.set k x).set (x + 3).toNat ((k : Int) + 1)

theorem vals6 {x : Int} (h : 1 ≤ x ∧ x ≤ 6) : x = 1 ∨ x = 2 ∨ x = 3 ∨ x = 4 ∨ x = 5 ∨ x = 6 := by omega

theorem step0 (y1 y2 y3 c0 c1 c2 s st x : Int) (hx : 1 ≤ x ∧ x ≤ 6) (h1 : y1 ≠ x) (h2 : y2 ≠ x) (h3 : y3 ≠ x) : stepW (wordsG 0 y1 y2 y3 c0 c1 c2 s st) 0 x st = wordsG x y1 y2 y3 c0 c1 c2 s st := by
  rcases vals6 hx with rfl | rfl | rfl | rfl | rfl | rfl <;> by_cases hs : 1 < st <;> simp [stepW, wordsG, ownW, viaW, h1, h2, h3, hs]
theorem step1 (y0 y2 y3 c0 c1 c2 s st x : Int) (hx : 1 ≤ x ∧ x ≤ 6) (h0 : y0 ≠ x) (h2 : y2 ≠ x) (h3 : y3 ≠ x) : stepW (wordsG y0 0 y2 y3 c0 c1 c2 s st) 1 x st = wordsG y0 x y2 y3 c0 c1 c2 s st := by
  rcases vals6 hx with rfl | rfl | rfl | rfl | rfl | rfl <;> by_cases hs : 2 < st <;> simp [stepW, wordsG, ownW, viaW, h0, h2, h3, hs]
theorem step2 (y0 y1 y3 c0 c1 c2 s st x : Int) (hx : 1 ≤ x ∧ x ≤ 6) (h0 : y0 ≠ x) (h1 : y1 ≠ x) (h3 : y3 ≠ x) : stepW (wordsG y0 y1 0 y3 c0 c1 c2 s st) 2 x st = wordsG y0 y1 x y3 c0 c1 c2 s st := by
  rcases vals6 hx with rfl | rfl | rfl | rfl | rfl | rfl <;> by_cases hs : 3 < st <;> simp [stepW, wordsG, ownW, viaW, h0, h1, h3, hs]
theorem step3 (y0 y1 y2 c0 c1 c2 s st x : Int) (hx : 1 ≤ x ∧ x ≤ 6) (h0 : y0 ≠ x) (h1 : y1 ≠ x) (h2 : y2 ≠ x) : stepW (wordsG y0 y1 y2 0 c0 c1 c2 s st) 3 x st = wordsG y0 y1 y2 x c0 c1 c2 s st := by
  rcases vals6 hx with rfl | rfl | rfl | rfl | rfl | rfl <;> by_cases hs : 4 < st <;> simp [stepW, wordsG, ownW, viaW, h0, h1, h2, hs]

theorem bitW_zero {c : Int} : bitW 0 c = 0 := by simp [bitW]
theorem wordsG_new (st : Int) : wordsG 0 0 0 0 0 0 0 0 st = List.replicate 20 0 := by
  simp [wordsG, ownW, viaW, List.replicate_succ]
theorem wordsL_new (st : Int) : wordsL 0 0 0 0 st = (List.replicate 20 0).set 13 st := by
  simp [wordsL, clsW, bitW_zero, wordsG, ownW, viaW, List.replicate_succ]
theorem wordsG_cls (y0 y1 y2 y3 c0 c1 c2 s st : Int) (i : Nat) (hi : i < 3) : (wordsG y0 y1 y2 y3 c0 c1 c2 s st).getD (10 + i) 0 = [c0, c1, c2].getD i 0 := by
  have h : i = 0 ∨ i = 1 ∨ i = 2 := by omega
  rcases h with rfl | rfl | rfl <;> rfl
theorem wordsG_set (y0 y1 y2 y3 c0 c1 c2 s st u : Int) : (wordsG y0 y1 y2 y3 c0 c1 c2 s st).set 10 u = wordsG y0 y1 y2 y3 u c1 c2 s st ∧ (wordsG y0 y1 y2 y3 c0 c1 c2 s st).set 11 u = wordsG y0 y1 y2 y3 c0 u c2 s st ∧
    (wordsG y0 y1 y2 y3 c0 c1 c2 s st).set 12 u = wordsG y0 y1 y2 y3 c0 c1 u s st ∧ (wordsG y0 y1 y2 y3 c0 c1 c2 s st).set 13 u = wordsG y0 y1 y2 y3 c0 c1 c2 u st := ⟨rfl, rfl, rfl, rfl⟩

/-- What one key adds, as the program tells it: the count too. -/
def istepW (L : List Int) (k : Nat) (x : Int) (st : Int) : List Int :=
  if (k : Int) + 1 < st then (((L.set k x).set (x + 3).toNat ((k : Int) + 1)).set (10 + x % 3).toNat (((L.set k x).set (x + 3).toNat ((k : Int) + 1)).getD (10 + x % 3).toNat 0 + 1)).set (x + 13).toNat ((k : Int) + 1)
  else ((L.set k x).set (x + 3).toNat ((k : Int) + 1)).set (10 + x % 3).toNat (((L.set k x).set (x + 3).toNat ((k : Int) + 1)).getD (10 + x % 3).toNat 0 + 1)
theorem bitW_vals : bitW 1 0 = 0 ∧ bitW 1 1 = 1 ∧ bitW 1 2 = 0 ∧ bitW 2 0 = 0 ∧ bitW 2 1 = 0 ∧ bitW 2 2 = 1 ∧ bitW 3 0 = 1 ∧ bitW 3 1 = 0 ∧ bitW 3 2 = 0 ∧ bitW 4 0 = 0 ∧ bitW 4 1 = 1 ∧ bitW 4 2 = 0 ∧ bitW 5 0 = 0 ∧ bitW 5 1 = 0 ∧ bitW 5 2 = 1 ∧ bitW 6 0 = 1 ∧ bitW 6 1 = 0 ∧ bitW 6 2 = 0 := by decide
theorem istep0 (y1 y2 y3 st x : Int) (hx : 1 ≤ x ∧ x ≤ 6) (h1 : y1 ≠ x) (h2 : y2 ≠ x) (h3 : y3 ≠ x) : istepW (wordsL 0 y1 y2 y3 st) 0 x st = wordsL x y1 y2 y3 st := by
  rcases vals6 hx with rfl | rfl | rfl | rfl | rfl | rfl <;> by_cases hs : 1 < st <;> simp [istepW, wordsL, wordsG, ownW, viaW, clsW, bitW_zero, bitW_vals, h1, h2, h3, hs] <;> omega
theorem istep1 (y0 y2 y3 st x : Int) (hx : 1 ≤ x ∧ x ≤ 6) (h0 : y0 ≠ x) (h2 : y2 ≠ x) (h3 : y3 ≠ x) : istepW (wordsL y0 0 y2 y3 st) 1 x st = wordsL y0 x y2 y3 st := by
  rcases vals6 hx with rfl | rfl | rfl | rfl | rfl | rfl <;> by_cases hs : 2 < st <;> simp [istepW, wordsL, wordsG, ownW, viaW, clsW, bitW_zero, bitW_vals, h0, h2, h3, hs] <;> omega
theorem istep2 (y0 y1 y3 st x : Int) (hx : 1 ≤ x ∧ x ≤ 6) (h0 : y0 ≠ x) (h1 : y1 ≠ x) (h3 : y3 ≠ x) : istepW (wordsL y0 y1 0 y3 st) 2 x st = wordsL y0 y1 x y3 st := by
  rcases vals6 hx with rfl | rfl | rfl | rfl | rfl | rfl <;> by_cases hs : 3 < st <;> simp [istepW, wordsL, wordsG, ownW, viaW, clsW, bitW_zero, bitW_vals, h0, h1, h3, hs] <;> omega
theorem istep3 (y0 y1 y2 st x : Int) (hx : 1 ≤ x ∧ x ≤ 6) (h0 : y0 ≠ x) (h1 : y1 ≠ x) (h2 : y2 ≠ x) : istepW (wordsL y0 y1 y2 0 st) 3 x st = wordsL y0 y1 y2 x st := by
  rcases vals6 hx with rfl | rfl | rfl | rfl | rfl | rfl <;> by_cases hs : 4 < st <;> simp [istepW, wordsL, wordsG, ownW, viaW, clsW, bitW_zero, bitW_vals, h0, h1, h2, hs] <;> omega
end Go.Proofs.YtkbodiggdajbeaaGreatDoor

/- spec.HowMany, walked at four numbers. -/
namespace Go.Proofs.YtkbodiggdajbeaaGreatDoor
open Go.ChangeShapes Go.WideShapes Go.ChangeAt Go.RowKit

/-- How many of the first k are of class c. -/
def cntK (xs : List Int) (c : Int) : Nat → Int
  | 0 => 0
  | k + 1 => cntK xs c k + bitW (xs.getD k 0) c
theorem bitW_le (y c : Int) : 0 ≤ bitW y c ∧ bitW y c ≤ 1 := by unfold bitW; split <;> omega
theorem cntK_le (xs : List Int) (c : Int) (k : Nat) : 0 ≤ cntK xs c k ∧ cntK xs c k ≤ (k : Int) := by
  induction k with
  | zero => simp [cntK]
  | succ k ih =>
    have := bitW_le (xs.getD k 0) c
    simp only [cntK]
    omega
theorem cntK_four (xs : List Int) (c : Int) : cntK xs c 4 = clsW (xs.getD 0 0) (xs.getD 1 0) (xs.getD 2 0) (xs.getD 3 0) c := by
  simp [cntK, clsW]

end Go.Proofs.YtkbodiggdajbeaaGreatDoor

/- impl.placeOf, walked: the place of a name in the program's table of names, or -1. -/
namespace Go.Proofs.YtkbodiggdajbeaaGreatDoor
open Go.ChangeShapes Go.WideShapes Go.ChangeAt Go.RowKit

/-- The names, at their places. -/
def nmL : List (Int × Int) := [(1, 0), (1, 1), (1, 2), (1, 3), (2, 1), (2, 2), (2, 3), (2, 4), (2, 5), (2, 6), (3, 0), (3, 1), (3, 2), (4, 0), (5, 1), (5, 2), (5, 3), (5, 4), (5, 5), (5, 6)]
def nmA (k : Nat) : Int := (nmL.getD k (0, 0)).1
def nmB (k : Nat) : Int := (nmL.getD k (0, 0)).2
def nmCells : Array Value := (nmL.flatMap fun p => [Value.int .i64 p.1, .int .i64 p.2]).toArray
/-- The variable holds the names. -/
def Names (w : World) : Prop := w.var? Tryz.prog "loop.example/g00468/impl.wordNames" = some nmCells

theorem gNames : Tryz.prog.globalNamed "loop.example/g00468/impl.wordNames" = some 1 := by kernel_rfl
theorem gNamesType : (Tryz.prog.globals[1]?).map (·.type) = some 183 := by kernel_rfl

theorem Names.block {w : World} (h : Names w) : ∃ t fr, w.heap[1]? = some (.cells nmCells t fr) := by
  unfold Names at h
  simp only [World.var?, gNames, Option.bind_some] at h
  split at h
  · rename_i c t fr hb
    simp only [Option.some.injEq] at h
    subst h
    exact ⟨t, fr, hb⟩
  · cases h
theorem Names.lt {w : World} (h : Names w) : 1 < w.heap.size := by
  obtain ⟨t, fr, h1⟩ := h.block
  exact (Array.getElem?_eq_some_iff.1 h1).1
theorem Names.below {w w' : World} {B : Nat} (h : Names w) (hb : Below B w w') (hB : 1 < B) : Names w' :=
  var?_below hb gNames hB h

theorem index_names (k : Nat) (hk : k < 20) (w : World) : (Instr.index 183 (.agg nmCells) (.int .i64 (k : Int))).run Tryz.prog w = .ok (.agg #[.int .i64 (nmA k), .int .i64 (nmB k)]) w := by
  have h : k = 0 ∨ k = 1 ∨ k = 2 ∨ k = 3 ∨ k = 4 ∨ k = 5 ∨ k = 6 ∨ k = 7 ∨ k = 8 ∨ k = 9 ∨ k = 10 ∨ k = 11 ∨ k = 12 ∨ k = 13 ∨ k = 14 ∨ k = 15 ∨ k = 16 ∨ k = 17 ∨ k = 18 ∨ k = 19 := by omega
  rcases h with rfl | rfl | rfl | rfl | rfl | rfl | rfl | rfl | rfl | rfl | rfl | rfl | rfl | rfl | rfl | rfl | rfl | rfl | rfl | rfl <;> (show _ = _; kernel_rfl)

/-- The place of a name. -/
def placeN (a b : Int) : Int :=
  if a = 1 ∧ 0 ≤ b ∧ b ≤ 3 then b else if a = 2 ∧ 1 ≤ b ∧ b ≤ 6 then b + 3 else if a = 3 ∧ 0 ≤ b ∧ b ≤ 2 then b + 10 else if a = 4 ∧ b = 0 then 13 else if a = 5 ∧ 1 ≤ b ∧ b ≤ 6 then b + 13 else -1

theorem place_at (k : Nat) (hk : k < 20) : placeN (nmA k) (nmB k) = k := by
  have h : k = 0 ∨ k = 1 ∨ k = 2 ∨ k = 3 ∨ k = 4 ∨ k = 5 ∨ k = 6 ∨ k = 7 ∨ k = 8 ∨ k = 9 ∨ k = 10 ∨ k = 11 ∨ k = 12 ∨ k = 13 ∨ k = 14 ∨ k = 15 ∨ k = 16 ∨ k = 17 ∨ k = 18 ∨ k = 19 := by omega
  rcases h with rfl | rfl | rfl | rfl | rfl | rfl | rfl | rfl | rfl | rfl | rfl | rfl | rfl | rfl | rfl | rfl | rfl | rfl | rfl | rfl <;> (show _ = _; kernel_rfl)
theorem place_none (a b : Int) (h : ∀ k : Nat, k < 20 → ¬ (nmA k = a ∧ nmB k = b)) : placeN a b = -1 := by
  have e1 : ¬ (a = 1 ∧ 0 ≤ b ∧ b ≤ 3) := by
    rintro ⟨rfl, h0, h1⟩
    have h2 : b = 0 ∨ b = 1 ∨ b = 2 ∨ b = 3 := by omega
    rcases h2 with rfl | rfl | rfl | rfl
    · exact h 0 (by omega) ⟨rfl, rfl⟩
    · exact h 1 (by omega) ⟨rfl, rfl⟩
    · exact h 2 (by omega) ⟨rfl, rfl⟩
    · exact h 3 (by omega) ⟨rfl, rfl⟩
  have e2 : ¬ (a = 2 ∧ 1 ≤ b ∧ b ≤ 6) := by
    rintro ⟨rfl, h0, h1⟩
    have h2 : b = 1 ∨ b = 2 ∨ b = 3 ∨ b = 4 ∨ b = 5 ∨ b = 6 := by omega
    rcases h2 with rfl | rfl | rfl | rfl | rfl | rfl
    · exact h 4 (by omega) ⟨rfl, rfl⟩
    · exact h 5 (by omega) ⟨rfl, rfl⟩
    · exact h 6 (by omega) ⟨rfl, rfl⟩
    · exact h 7 (by omega) ⟨rfl, rfl⟩
    · exact h 8 (by omega) ⟨rfl, rfl⟩
    · exact h 9 (by omega) ⟨rfl, rfl⟩
  have e3 : ¬ (a = 3 ∧ 0 ≤ b ∧ b ≤ 2) := by
    rintro ⟨rfl, h0, h1⟩
    have h2 : b = 0 ∨ b = 1 ∨ b = 2 := by omega
    rcases h2 with rfl | rfl | rfl
    · exact h 10 (by omega) ⟨rfl, rfl⟩
    · exact h 11 (by omega) ⟨rfl, rfl⟩
    · exact h 12 (by omega) ⟨rfl, rfl⟩
  have e4 : ¬ (a = 4 ∧ b = 0) := by
    rintro ⟨rfl, rfl⟩
    exact h 13 (by omega) ⟨rfl, rfl⟩
  have e5 : ¬ (a = 5 ∧ 1 ≤ b ∧ b ≤ 6) := by
    rintro ⟨rfl, h0, h1⟩
    have h2 : b = 1 ∨ b = 2 ∨ b = 3 ∨ b = 4 ∨ b = 5 ∨ b = 6 := by omega
    rcases h2 with rfl | rfl | rfl | rfl | rfl | rfl
    · exact h 14 (by omega) ⟨rfl, rfl⟩
    · exact h 15 (by omega) ⟨rfl, rfl⟩
    · exact h 16 (by omega) ⟨rfl, rfl⟩
    · exact h 17 (by omega) ⟨rfl, rfl⟩
    · exact h 18 (by omega) ⟨rfl, rfl⟩
    · exact h 19 (by omega) ⟨rfl, rfl⟩
  unfold placeN
  rw [if_neg e1, if_neg e2, if_neg e3, if_neg e4, if_neg e5]

theorem info_int : (Tryz.prog.info? 3).map (fun i => (i.zero, i.size, i.bytes)) = some (some (.int .i64 0), 1, 8) := by kernel_rfl
theorem cells_int : Tryz.prog.cellsOf 3 = 1 := by kernel_rfl
theorem part0 (x y : Int) (w : World) : (part 3 #[.int .i64 x, .int .i64 y] 0).run Tryz.prog w = .ok (.int .i64 x) w := by kernel_rfl
theorem part1 (x y : Int) (w : World) : (part 3 #[.int .i64 x, .int .i64 y] 1).run Tryz.prog w = .ok (.int .i64 y) w := by kernel_rfl
theorem eq_names (x y a b : Int) (w : World) : (binOp .eql 156 (.agg #[.int .i64 x, .int .i64 y]) (.agg #[.int .i64 a, .int .i64 b])).run Tryz.prog w = .ok (.bool (decide (x = a ∧ y = b))) w := by
  obtain ⟨i0, hi, hz0, hz1, hz2⟩ := info_parts info_int
  rw [run_eql_struct, run_equalIn_array w 9999 _ _ Tryz.underlying156 hi, cells_int, show List.range 2 = [0, 1] from rfl]
  simp only [Op.eqItems, Sem.run_bind, Nat.zero_mul, Nat.one_mul, part0, Result.andThen_ok, run_equalIn_int w 9998 3 .i64 .i64 _ _ Tryz.underlying3]
  by_cases h0 : x = a <;> by_cases h1 : y = b <;> simp [h0, h1, part1, run_equalIn_int w 9998 3 .i64 .i64 _ _ Tryz.underlying3]

set_option maxRecDepth 100000 in
theorem placeOf_any (a b : Int) (w : World) (hN : Names w) :
    Calls Tryz.prog 79 #[.agg #[.int .i64 a, .int .i64 b]] w fun e w' => e = .returned (.int .i64 (placeN a b)) ∧ Below w.heap.size w w' := by
  have hlt := hN.lt
  obtain ⟨tn, fr, hbl⟩ := (hN.below ((Below.refl _ w).alloc (Nat.le_refl _) (.cells #[.int .i64 a, .int .i64 b] 156)) hN.lt).block
  have hsz : nmCells.size = 40 := by decide +kernel
  have hix := index_names
  clear hN
  obtain ⟨C, hC⟩ : ∃ C, C = nmCells := ⟨_, rfl⟩
  rw [← hC] at hbl hsz hix
  have HC : Hid (C = nmCells) := hC
  have HB : Hid (_) := hbl
  have HS : Hid (_) := hsz
  clear hC hbl hsz
  go_enter Tryz.func79, Tryz.ntmps79
  iterate 15 (first | go_values | go_skip | go_guarded | go_step | go_upon)
  refine wpList_load_row rfl 183 (.global 1) rfl 1 ?q1 tn C fr _ HB.out Tryz.underlying183 rfl ?q3 ?_
  case q1 => rfl
  case q3 => rw [HS.out]; kernel_rfl
  go_wp2
  go_loopw [6] (fun i wr => ∃ k : Nat, i = .int .i64 (k : Int) ∧ k ≤ 20 ∧ (∀ j, j < k → ¬ (nmA j = a ∧ nmB j = b)) ∧ Below w.heap.size w wr ∧ wr.heap[w.heap.size]? = some (.cells #[.int .i64 a, .int .i64 b] 156 (0, 0))) (fun i _ => 20 - (intOf i).toNat)
  case atStart =>
    exact ⟨0, rfl, by omega, fun j hj => by omega, (Below.refl _ w).alloc (Nat.le_refl _) _, heap_alloc_new _ _⟩
  case round =>
    obtain ⟨k, rfl, hk, hno, hb, hnm⟩ := hrel
    have HNO : Hid (_) := hno
    have hB : w.heap.size < wr.heap.size := (Array.getElem?_eq_some_iff.1 hnm).1
    have c0 : wr.cell? ⟨w.heap.size, 0, none⟩ = some (.int .i64 a) := by rw [cell_of_row _ _ 0 _ _ _ hnm]; rfl
    have c1 : wr.cell? ⟨w.heap.size, 1, none⟩ = some (.int .i64 b) := by rw [cell_of_row _ _ 1 _ _ _ hnm]; rfl
    have HNM : Hid (_) := hnm
    clear hno hnm
    by_cases hlt : k < 20
    · obtain ⟨x, hx⟩ : ∃ x, x = nmA k := ⟨_, rfl⟩
      obtain ⟨y, hy⟩ : ∃ y, y = nmB k := ⟨_, rfl⟩
      have hi1 := hix k hlt
      rw [← hx, ← hy] at hi1
      have HX : Hid (_) := hx
      have HY : Hid (_) := hy
      clear hx hy hix
      have hq := eq_names x y a b
      by_cases he : x = a ∧ y = b
      · obtain ⟨rfl, rfl⟩ := he
        go_wp2
        go_ret
        exact ⟨by rw [HX.out, HY.out, place_at k hlt]; rfl, hb.alloc (Nat.le_of_lt hB) _⟩
      · go_wp2
        go_roundw
        case rel =>
          refine ⟨k + 1, by go_num, by omega, fun j hj => ?_, hb.alloc (Nat.le_of_lt hB) _, (Below.heap_alloc _ _ _ hB).trans HNM.out⟩
          by_cases hjk : j = k
          · subst hjk; rw [← HX.out, ← HY.out]; exact he
          · exact HNO.out j (by omega)
        case measure => simp [intOf]; omega
    · obtain rfl : k = 20 := by omega
      go_wp2
      go_ret
      exact ⟨by rw [place_none a b HNO.out]; rfl, hb⟩
end Go.Proofs.YtkbodiggdajbeaaGreatDoor

/- spec.RowAt and impl.RowAt, walked: both answer the place of the name. -/
namespace Go.Proofs.YtkbodiggdajbeaaGreatDoor
open Go.ChangeShapes Go.WideShapes Go.ChangeAt Go.RowKit

end Go.Proofs.YtkbodiggdajbeaaGreatDoor

/- spec.OwnerAt and impl.OwnerAt, walked: both answer the place of the name. -/
namespace Go.Proofs.YtkbodiggdajbeaaGreatDoor
open Go.ChangeShapes Go.WideShapes Go.ChangeAt Go.RowKit

end Go.Proofs.YtkbodiggdajbeaaGreatDoor

/- spec.CountAt and impl.CountAt, walked: both answer the place of the name. -/
namespace Go.Proofs.YtkbodiggdajbeaaGreatDoor
open Go.ChangeShapes Go.WideShapes Go.ChangeAt Go.RowKit

end Go.Proofs.YtkbodiggdajbeaaGreatDoor

/- spec.StateAt and impl.StateAt, walked: both answer the place of the name. -/
namespace Go.Proofs.YtkbodiggdajbeaaGreatDoor
open Go.ChangeShapes Go.WideShapes Go.ChangeAt Go.RowKit

theorem specStateAt_any (w : World) :
    Calls Tryz.prog 39 #[] w fun e w' => e = .returned (.int .i64 13) ∧ w' = w := by
  go_enter Tryz.func39, Tryz.ntmps39
  go_wp2
  go_ret
  exact ⟨rfl, rfl⟩

theorem implStateAt_any (w : World) (hN : Names w) :
    Calls Tryz.prog 48 #[] w fun e w' => e = .returned (.int .i64 13) ∧ Below w.heap.size w w' := by
  go_enter Tryz.func48, Tryz.ntmps48
  go_wp2_with (go_at_call 79; refine (placeOf_any 4 0 _ hN).mono ?_; rintro e w1 ⟨rfl, hb⟩)
  go_ret
  exact ⟨rfl, hb⟩
end Go.Proofs.YtkbodiggdajbeaaGreatDoor
