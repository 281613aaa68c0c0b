/- Texts joined: NwB, CloneO, AnewW, Clone8, Spec8b, Spec8c, Work8, Work8b, Impl8. -/
import Derived.Test.YtcfimaffeopbbaaGreatDoorQM21
import Derived.Test.YtcfimaffeopbbaaGreatDoorQM12
import Derived.Lib.LazyBuf
import Derived.Deep.RegionHeld3
import Derived.Test.YtcfimaffeopbbaaGreatDoorQM16
import Derived.Deep.Cut
import Derived.Laws.IdiomCopy
set_option maxHeartbeats 2000000
set_option maxRecDepth 100000
namespace Go.Proofs.YtcfimaffeopbbaaGreatDoor
section
open Go.ChangeShapes Go.WideShapes Go.ChangeAt Go.RowKit Go.Joins
theorem zero_ent (n i : Nat) : (dk (zds n) i).en = 0 ∧ (dk (zds n) i).es = [] ∧ (dk (zds n) i).rn = 0 ∧ (dk (zds n) i).rs = [] ∧ (dk (zds n) i).sq = 0 ∧ (dk (zds n) i).st = 0 ∧ (dk (zds n) i).cd = 0 := by rw [zds_at]; exact ⟨rfl, rfl, rfl, rfl, rfl, rfl, rfl⟩
def InF (F : Nat → Value) (lo hi : Nat) (x : Nat) : Prop := ∃ a, lo ≤ a ∧ a < hi ∧ (F a).ownBlock = some x
theorem own_descs {w : World} {base n : Nat} {F : Nat → Value} (h : DescO w base F n (zds n)) (hn : n ≤ 2097152) : Own w base (F 1) (.l 104 5 n (zdc n)) (InF F 1 (2 + 2 * n)) := by
 obtain ⟨vs, h1, h2⟩ := h.descs
 rcases owns_forms h1 with ⟨e, rfl⟩ | ⟨g, cap, e⟩
 · rw [e]
   refine .nil _ 5 _ fun x hx => ?_
   obtain ⟨a, ha, hb, hc⟩ := hx
   obtain rfl : a = 1 := by omega
   rw [e] at hc
   cases hc
 have hg : (F 1).ownBlock = some g := by rw [e]; rfl
 rw [e] at h1
 rw [e]
 refine .l g cap _ 5 n (zdc n) vs _ (fun j x => (j < n * 5 ∧ j % 5 = 2 ∧ (F (2 + 2 * (j / 5))).ownBlock = some x) ∨ (j < n * 5 ∧ j % 5 = 4 ∧ (F (3 + 2 * (j / 5))).ownBlock = some x)) h1 (flat_len (k := 5) n (fun _ _ => rfl)) hn (fun j v c hv hc => ?_) (fun j hj => ?_) (fun i j x hij hi hj => ?_) (fun x => ⟨fun hx => ?_, fun hx => ?_⟩)
 · have hj : j < n * 5 := by have := (List.getElem?_eq_some_iff.1 hv).1; have h3 := h1.1; omega
   have hd : j / 5 < n := by omega
   have hm : j % 5 < 5 := by omega
   obtain ⟨c0, c1, c2, c3, c4⟩ := h2 (j / 5) hd
   obtain ⟨z0, z1, z2, z3, z4, z5, z6⟩ := zero_ent n (j / 5)
   have o2 := h.ents (j / 5) hd
   have o4 := h.ints (j / 5) hd
   rw [z0, z1] at o2
   rw [z2, z3] at o4
   rw [z4] at c0
   rw [z5] at c1
   rw [z6] at c3
   unfold zdc at hc
   rw [show j = (j / 5) * 5 + j % 5 by omega, flat_at (k := 5) n (fun _ _ => rfl) (j / 5) (j % 5) hd hm] at hc
   rw [show j = (j / 5) * 5 + j % 5 by omega] at hv
   rcases (show j % 5 = 0 ∨ j % 5 = 1 ∨ j % 5 = 2 ∨ j % 5 = 3 ∨ j % 5 = 4 by omega) with em | em | em | em | em <;> rw [em] at hv hc
   · rw [Nat.add_zero, c0] at hv
     cases hv; cases hc
     exact .i 0 _ (fun x hx => by omega)
   · rw [c1] at hv
     cases hv; cases hc
     exact .i 0 _ (fun x hx => by omega)
   · rw [c2] at hv
     cases hv; cases hc
     exact (own_row (fs := []) o2 (by omega)).set fun x => ⟨fun hx => .inl ⟨hj, em, hx⟩, fun hx => by rcases hx with ⟨_, _, hx⟩ | ⟨_, hx, _⟩; exact hx; omega⟩
   · rw [c3] at hv
     cases hv; cases hc
     exact .i 0 _ (fun x hx => by omega)
   · rw [c4] at hv
     cases hv; cases hc
     exact (own_row (fs := []) o4 (by omega)).set fun x => ⟨fun hx => .inr ⟨hj, em, hx⟩, fun hx => by rcases hx with ⟨_, hx, _⟩ | ⟨_, _, hx⟩; omega; exact hx⟩
 · rcases hj with ⟨h3, _, h4⟩ | ⟨h3, _, h4⟩
   · exact h.sep 1 (2 + 2 * (j / 5)) (by omega) (by omega) (by omega) g hg h4
   · exact h.sep 1 (3 + 2 * (j / 5)) (by omega) (by omega) (by omega) g hg h4
 · rcases hi with ⟨h3, h4, h5⟩ | ⟨h3, h4, h5⟩ <;> rcases hj with ⟨h6, h7, h8⟩ | ⟨h6, h7, h8⟩ <;> exact h.sep _ _ (by omega) (by omega) (by omega) x h5 h8
 · obtain ⟨a, ha, hb, hc⟩ := hx
   by_cases e1 : a = 1
   · subst e1
     rw [hg] at hc
     exact .inl (Option.some.inj hc).symm
   · refine .inr ?_
     by_cases e2 : a % 2 = 0
     · refine ⟨(a - 2) / 2 * 5 + 2, by omega, .inl ⟨by omega, by omega, ?_⟩⟩
       rw [show 2 + 2 * (((a - 2) / 2 * 5 + 2) / 5) = a by omega]
       exact hc
     · refine ⟨(a - 2) / 2 * 5 + 4, by omega, .inr ⟨by omega, by omega, ?_⟩⟩
       rw [show 3 + 2 * (((a - 2) / 2 * 5 + 4) / 5) = a by omega]
       exact hc
 · rcases hx with rfl | ⟨j, _, ⟨h3, _, h4⟩ | ⟨h3, _, h4⟩⟩
   · exact ⟨1, by omega, by omega, hg⟩
   · exact ⟨_, by omega, by omega, h4⟩
   · exact ⟨_, by omega, by omega, h4⟩
theorem own_machine {w : World} {base : Nat} {v0 v1 v2 v6 : Value} {c0 c1 c2 c6 : Cel} {S0 S1 S2 S6 : Nat → Prop} {st : Int} (o0 : Own w base v0 c0 S0) (o1 : Own w base v1 c1 S1) (o2 : Own w base v2 c2 S2) (o6 : Own w base v6 c6 S6)
   (d01 : ∀ x, S0 x → ¬ S1 x) (d02 : ∀ x, S0 x → ¬ S2 x) (d06 : ∀ x, S0 x → ¬ S6 x) (d12 : ∀ x, S1 x → ¬ S2 x) (d16 : ∀ x, S1 x → ¬ S6 x) (d26 : ∀ x, S2 x → ¬ S6 x) :
   ∃ S, OwnL w base [v0, v1, v2, .int .i64 0, .slice none 0 0, .slice none 0 0, v6, .int .i64 st] [c0, c1, c2, .i 0, .l 93 9 0 [], .l 3 1 0 [], c6, .i st] S := by
 have L7 : OwnL w base [.int .i64 st] [.i st] (fun _ => False) := (Own.i st (fun _ => False) (fun _ h => h)).oneL
 have L6 := OwnL.cons (S' := S6) o6 L7 (fun _ _ h => h) (fun x => by simp)
 have L5 := OwnL.cons (S' := S6) (S0 := fun _ => False) (.nil 3 1 _ (fun _ h => h)) L6 (fun _ h => h.elim) (fun x => by simp)
 have L4 := OwnL.cons (S' := S6) (S0 := fun _ => False) (.nil 93 9 _ (fun _ h => h)) L5 (fun _ h => h.elim) (fun x => by simp)
 have L3 := OwnL.cons (S' := S6) (S0 := fun _ => False) (.i 0 _ (fun _ h => h)) L4 (fun _ h => h.elim) (fun x => by simp)
 have L2 := OwnL.cons (S' := fun x => S2 x ∨ S6 x) o2 L3 d26 (fun x => Iff.rfl)
 have L1 := OwnL.cons (S' := fun x => S1 x ∨ S2 x ∨ S6 x) o1 L2 (fun x hx h => by rcases h with h | h; exact d12 x hx h; exact d16 x hx h) (fun x => Iff.rfl)
 exact ⟨_, OwnL.cons (S' := fun x => S0 x ∨ S1 x ∨ S2 x ∨ S6 x) o0 L1 (fun x hx h => by rcases h with h | h | h; exact d01 x hx h; exact d02 x hx h; exact d06 x hx h) (fun x => Iff.rfl)⟩
theorem own_zero (w : World) (base : Nat) : ∃ S, OwnL w base [.slice none 0 0, .slice none 0 0, .slice none 0 0, .int .i64 0, .slice none 0 0, .slice none 0 0, .slice none 0 0, .int .i64 0] zeroC S :=
 own_machine (S0 := fun _ => False) (S1 := fun _ => False) (S2 := fun _ => False) (S6 := fun _ => False) (.nil _ _ _ (fun _ h => h)) (.nil _ _ _ (fun _ h => h)) (.nil _ _ _ (fun _ h => h)) (.nil _ _ _ (fun _ h => h)) (fun _ h => h.elim) (fun _ h => h.elim) (fun _ h => h.elim) (fun _ h => h.elim) (fun _ h => h.elim) (fun _ h => h.elim)
def NewOwn (L : List Int) (n : Nat) (cl : List Cel) (nh : Nat) (hs : List Int) (st : Int) (base : Nat) (e : Ending) (w' : World) : Prop :=
 ∃ us ok S, e = .returned (.tuple #[.agg us.toArray, .bool ok]) ∧ ((ok = true ∧ NewOk L n cl nh hs st ∧ OwnL w' base us (newCs L n cl nh hs st) S) ∨ (ok = false ∧ ¬ NewOk L n cl nh hs st ∧ OwnL w' base us zeroC S))
theorem small_zds (n : Nat) : Small n (zds n) := fun i _ => by
 obtain ⟨z0, _, z2, _⟩ := zero_ent n i
 rw [z0, z2]
 exact ⟨by omega, by omega⟩
theorem own_emptyT {w : World} {base : Nat} {T : TypeId} {size : Nat} (hb : base ≤ w.heap.size) : (w.alloc (.cells #[] T)).ownsRow base T size (.slice (some ⟨w.heap.size, 0, none⟩) 0 0) 0 [] :=
 ⟨by simp, .inr ⟨w.heap.size, 0, #[], rfl, hb, (by show (w.heap.push _)[w.heap.size]? = _; simp), Nat.le_refl _, by unfold maxLen; omega, by simp, by simp⟩⟩
theorem eql_nil {P : Program} (w : World) {t e : TypeId} {a : Option Addr} {l c : Nat} (h : P.underlying t = some (.slice e)) : (binOp .eql t (.slice a l c) (.slice none 0 0)).run P w = .ok (.bool a.isNone) w := by
 simp [binOp, run_equal_slice_nil w t e a l c h]
theorem cell_alloc {w : World} {q : Addr} {u : Value} {o : Obj} (h : w.cell? q = some u) : (w.alloc o).cell? q = some u := by
 rw [World.cell?_of_block (Below.heap_alloc _ _ _ (World.block_lt_of_cell? w _ h))]
 exact h
theorem int_cell {w : World} {ad : Addr} {n : Nat} {es : List Int} {o : Obj} (h : IntAt w (some ad) n es) {j : Nat} {v : Value} (hj : (es.map I)[j]? = some v) : (w.alloc o).cell? (ad.add j) = some v := by
 refine cell_alloc ?_
 rw [List.getElem?_map] at hj
 have hl : j < es.length := by
   rcases Nat.lt_or_ge j es.length with h1 | h1
   · exact h1
   · rw [List.getElem?_eq_none h1] at hj; cases hj
 rcases h.2.2 with h0 | ⟨b, o, he, g⟩
 · have := h.1; omega
 · cases he
   have h1 := g j (by have := h.1; omega)
   have e : (⟨b, o, none⟩ : Addr).add j = ⟨b, o + j, none⟩ := by simp [Addr.add]
   rw [e, h1]
   rw [List.getElem?_eq_getElem hl] at hj
   simpa [List.getD, hl] using hj
theorem cloneI_o (a : Option Addr) (n c : Nat) (es : List Int) (w : World) (h : IntAt w a n es) (ha : a = none → c = 0) :
   Calls Tryz.prog 55 #[.slice a n c] w fun e w' => ∃ v, e = .returned v ∧ w'.ownsRow w.heap.size 3 1 v n (es.map I) ∧ Below w.heap.size w w' := by
 obtain ⟨i0, hi, hz0, hz1, hz2⟩ := info_parts infoInt
 rcases a with _ | ad
 · obtain rfl : c = 0 := ha rfl
   obtain rfl : n = 0 := by
     rcases h.2.2 with h0 | ⟨_, _, he, _⟩
     · exact h0
     · cases he
   have HV : Hid ((es.map I) = []) := by
     show _ = []
     rw [show es = [] from List.length_eq_zero_iff.1 (by have := h.1; simpa using this)]; rfl
   have hE : ∀ w : World, (binOp .eql 22 (.slice none 0 0) (.slice none 0 0)).run Tryz.prog w = .ok (.bool true) w := fun w => eql_nil w Tryz.underlying22
   clear h ha
   go_enter Tryz.func55, Tryz.ntmps55
   go_wp2
   go_ret
   exact ⟨_, rfl, by rw [HV.out]; exact World.ownsRow_nil _ _ _ _, Below.refl _ _⟩
 have hn := h.2.1
 have HS : Hid (((es.map I)).length = n * 1 ∧ (∀ j u, ((es.map I))[j]? = some u → (w.alloc (.cells #[] 3)).cell? (ad.add j) = some u) ∧ ∀ u ∈ (es.map I), u.oneCell' = true) := by
   exact ⟨by rw [List.length_map, h.1]; omega, fun j u hj => int_cell h hj, news_one⟩
 have hE : ∀ w : World, (binOp .eql 22 (.slice (some ad) n c) (.slice none 0 0)).run Tryz.prog w = .ok (.bool false) w := fun w => eql_nil w Tryz.underlying22
 clear h ha
 go_enter Tryz.func55, Tryz.ntmps55
 go_wp2_with
   (at_builtin
    refine wpList_append_own _ rfl _ _ 22 rfl w.heap.size 3 i0 (.int .i64 0) 1 8 Tryz.underlying22 hi hz0 hz1 hz2 rfl (by decide) (.slice (some ⟨w.heap.size, 0, none⟩) 0 0) 0 [] rfl (own_emptyT (Nat.le_refl _)) ad n c ((es.map I)) rfl HS.out.1 HS.out.2.1 HS.out.2.2 (by unfold maxLen; omega) (by omega) (by simp) ?_
    intro v' w2 own2 grow2 _)
 have hb2 : Below w.heap.size w w2 := ((Below.refl _ w).alloc (Nat.le_refl _) _).grown grow2 (by simp) (fun k e => by
   have h1 : w.heap.size = k := by simpa [Value.ownBlock] using e
   omega)
 rw [Nat.zero_add, List.nil_append] at own2
 go_ret
 exact ⟨_, rfl, own2, hb2⟩
theorem rowsAnew_o (st : Int) (a : Option Addr) (n c : Nat) (rs : List Int) (w : World) (h : IntAt w a n rs) (ha : a = none → c = 0) :
   Calls Tryz.prog 26 #[.agg #[.slice a n c, .int .i64 st]] w fun e w' => ∃ v, e = .returned (.agg #[v, .int .i64 st]) ∧ w'.ownsRow w.heap.size 3 1 v n (rs.map I) ∧ Below w.heap.size w w' := by
 obtain ⟨W, hW⟩ : ∃ W, ((w.alloc (.cells #[.slice a n c, .int .i64 st] 34)).alloc (.cells #[.slice none 0 0, .int .i64 0] 34)) = W := ⟨_, rfl⟩
 have hb0 : Below w.heap.size w W := by rw [← hW]; exact ((Below.refl _ w).alloc (Nat.le_refl _) _).alloc (by simp) _
 have hsz : w.heap.size + 1 < W.heap.size := by rw [← hW]; simp
 have X0 : Hid (Box W w.heap.size #[.slice a n c, .int .i64 st] 34) := by rw [← hW]; exact (box_of w _ _).alloc _
 have R0 : Hid (Box W (w.heap.size + 1) #[.slice none 0 0, .int .i64 0] 34) := by
   have := box_of (w.alloc (.cells #[.slice a n c, .int .i64 st] 34)) #[.slice none 0 0, .int .i64 0] 34
   rw [hW] at this
   show Box _ _ _ _
   simpa using this
 have HA : Hid (IntAt W a n rs) := h.below hb0 (Nat.le_refl _)
 have HB0 : Hid (Below w.heap.size w W) := hb0
 have HW : Hid (((w.alloc (.cells #[.slice a n c, .int .i64 st] 34)).alloc (.cells #[.slice none 0 0, .int .i64 0] 34)) = W) := hW
 have HAN : Hid (a = none → c = 0) := ha
 obtain ⟨k0, k1, _, _⟩ := X0.out.two
 have K0 : Hid (W.drew.cell? ⟨w.heap.size, 0, none⟩ = some (.slice a n c) ∧ W.drew.cell? ⟨w.heap.size, 1, none⟩ = some (.int .i64 st)) := ⟨k0, k1⟩
 clear h ha hW hb0 k0 k1
 go_enter Tryz.func26, Tryz.ntmps26
 go_wp2_with fail
 rw [HW.out]
 go_region_held3 (fun w' => w'.cell? ⟨w.heap.size, 0, none⟩ = some (.slice a n c) ∧ w'.cell? ⟨w.heap.size, 1, none⟩ = some (.int .i64 st))
   (first | (with_reducible exact K2.out) | (with_reducible exact K1.out) | (with_reducible exact K0.out) | go_keep)
   (first
   | (go_at_call 55
      refine (cloneI_o a n c rs _ (HA.out.below (Below.refl W.heap.size W).drew (Nat.le_refl _)) HAN.out).mono ?_
      rintro e w1 ⟨v, rfl, own1, hb1⟩
      have hb1' : Below W.heap.size W w1 := (Below.refl W.heap.size W).drew.trans hb1
      obtain ⟨va, vc, rfl, _⟩ := owns_slice own1
      have OW : Hid (w1.ownsRow W.heap.size 3 1 (.slice va n vc) n (rs.map I)) := own1
      have HB1 : Hid (Below W.heap.size W w1) := hb1'
      have R1 : Hid (Box w1 (w.heap.size + 1) #[.slice none 0 0, .int .i64 0] 34) := R0.out.below hb1' hsz
      obtain ⟨r0, r1, z0, z1⟩ := R1.out.two
      obtain ⟨k0, k1, _, _⟩ := (X0.out.below hb1' X0.out.lt).two
      have K1 : Hid (w1.cell? ⟨w.heap.size, 0, none⟩ = some (.slice a n c) ∧ w1.cell? ⟨w.heap.size, 1, none⟩ = some (.int .i64 st)) := ⟨k0, k1⟩
      have K2 : Hid (((w1.setCell ⟨w.heap.size + 1, 0, none⟩ (.slice va n vc)).setCell ⟨w.heap.size + 1, 1, none⟩ (.int .i64 st)).cell? ⟨w.heap.size, 0, none⟩ = some (.slice a n c) ∧ ((w1.setCell ⟨w.heap.size + 1, 0, none⟩ (.slice va n vc)).setCell ⟨w.heap.size + 1, 1, none⟩ (.int .i64 st)).cell? ⟨w.heap.size, 1, none⟩ = some (.int .i64 st)) := by
        have := (((X0.out.below hb1' X0.out.lt).set (q := ⟨w.heap.size + 1, 0, none⟩) (show w.heap.size ≠ w.heap.size + 1 by omega) (.slice va n vc)).set (q := ⟨w.heap.size + 1, 1, none⟩) (show w.heap.size ≠ w.heap.size + 1 by omega) (.int .i64 st)).two
        exact ⟨this.1, this.2.1⟩
      clear own1 hb1 hb1' k0 k1))
 obtain ⟨e0, e1, _, _⟩ := ((R1.out.put 0 (.slice va n vc)).put 1 (.int .i64 st)).two
 go_wp2
 (try simp only [Exit.inBlock, Exit.then])
 refine bodyPost_ret (by simp [results, Tryz.results26, go_sem, e0, e1]; try rfl) rfl ?_
 have hwb : (Value.slice va n vc).ownBlock ≠ some (w.heap.size + 1) := fun e => by have := (OW.out.lt _ e).1; omega
 exact ⟨.slice va n vc, rfl, own_setCell_far (own_setCell_far (own_weaken OW.out HB0.out.size) hwb _) hwb _, ((HB0.out.trans (HB1.out.mono HB0.out.size)).setCell (by simp) _).setCell (by simp) _⟩
theorem cloneOp (v : Value) (n : Nat) (fs : List Int) (w : World) (h : LAt 3 w v n fs) :
   Calls Tryz.prog 56 #[v] w fun e w' => ∃ v', e = .returned v' ∧ w'.ownsRow w.heap.size 82 3 v' n (fs.map I) ∧ Below w.heap.size w w' := by
 obtain ⟨a, c, rfl, ⟨hc, -⟩, hA⟩ := h
 obtain ⟨i0, hi0, hz0, hz1, hz2⟩ := info_parts kInfoOp
 rcases a with _ | ad
 · obtain rfl : c = 0 := hc rfl
   obtain ⟨rfl, rfl⟩ := hA.nilE
   have hE : ∀ w : World, (binOp .eql 55 (.slice none 0 0) (.slice none 0 0)).run Tryz.prog w = .ok (.bool true) w := fun w => eql_nilK w Tryz.underlying55
   clear hA hc
   go_enter Tryz.func56, Tryz.ntmps56
   go_wp2
   go_ret
   exact ⟨_, rfl, World.ownsRow_nil _ _ _ _, Below.refl _ _⟩
 have hn := hA.2.1
 have HA : Hid (KAt 3 (w.alloc (.cells #[] 82)) (some ad) n fs) := hA.below ((Below.refl w.heap.size w).alloc (Nat.le_refl _) _) (Nat.le_refl _)
 have hE : ∀ w : World, (binOp .eql 55 (.slice (some ad) n c) (.slice none 0 0)).run Tryz.prog w = .ok (.bool false) w := fun w => eql_nilK w Tryz.underlying55
 clear hA hc
 go_enter Tryz.func56, Tryz.ntmps56
 go_wp2_with
   (at_builtin
    refine wpList_append_any _ rfl _ _ 55 rfl w.heap.size 82 i0 (.agg #[.int .i64 0, .int .i64 0, .int .i64 0]) 3 24 Tryz.underlying55 hi0 hz0 hz1 hz2 rfl (by decide) (.slice (some ⟨w.heap.size, 0, none⟩) 0 0) 0 [] rfl (own_emptyK (Nat.le_refl _)) (some ad) n c fs rfl (fun e => by cases e) HA.out (by unfold maxLen; omega) (by omega) (by simp) ?_
    intro v' w1 own' gr at'
    rw [Nat.zero_add, List.nil_append] at own'
    have HO : Hid (w1.ownsRow w.heap.size 82 3 v' n (fs.map I)) := own'
    have hb1 : Below w.heap.size w w1 := ((Below.refl _ w).alloc (Nat.le_refl _) _).grown gr (by simp only [World.size_alloc]; omega) (fun k e => by have := sl_blk e; omega)
    have HB : Hid (Below w.heap.size w w1) := hb1
    clear own' gr at' hb1)
 go_ret
 exact ⟨_, rfl, HO.out, HB.out⟩

structure PI (W1 : World) (g n2 : Nat) (hs : List Int) (h : Nat → Int) (b0 b3 b5 b6 b7 : Bool) (s8 s11 s13 s14 s15 x : Value) (w : World) : Prop where
 bel : Below W1.heap.size W1 w
 way : b6 = false → Way 117 4 W1.heap.size n2 hs w b0 b3 s8 s11 x
 one : b6 = false → b5 = true → ∃ q, s13 = .slice (some ⟨q, 0, none⟩) 1 1 ∧ Box w q #[.int .i64 (h 0), .int .i64 (h 1), .int .i64 (h 2), .int .i64 (h 3)] 117 ∧ x.ownBlock ≠ some q
 dep : b6 = true → b0 = true ∧ b3 = true ∧ b5 = true
 fin : b6 = true → w.ownsRow W1.heap.size 117 4 s14 (n2 + 1) ((hs ++ helpL h).map I)
 adr : b7 = true → b6 = true ∧ s15 = .pointer (some ⟨g, 4, none⟩)
def PR (W1 : World) (sz g : Nat) (a0 a1 a2 p0 p1 p2 : Option Addr) (c0 c1 c2 d0 d1 d2 n0 n1 n2 : Nat) (hs : List Int) (pc : Int) (on : Bool) (h : Nat → Int) (l : Array Bool) (a : Act) (w : World) : Prop :=
 ∃ (b0 b3 b5 b6 b7 : Bool) (s8 s11 s13 s14 s15 x : Value), l = #[b0, true, true, b3, true, b5, b6, b7, false] ∧ a = ⟨#[ThV (.slice a0 n0 c0) (.slice a1 n1 c1) (.slice a2 n2 c2) pc on, HelpV h, .pointer (some ⟨sz, 0, none⟩), .pointer (some ⟨sz + 1, 0, none⟩), .pointer (some ⟨sz + 1 + 1, 0, none⟩), .pointer (some ⟨g, 0, none⟩), .agg #[.slice a0 n0 c0, .int .i64 pc, .bool on, .slice a1 n1 c1, .slice a2 n2 c2], ThV (.slice p0 n0 d0) (.slice p1 n1 d1) (.slice p2 n2 d2) pc on, s8, .pointer (some ⟨sz, 4, none⟩), .slice a2 n2 c2, s11, .agg #[.int .i64 (h 0), .int .i64 (h 1), .int .i64 (h 2), .int .i64 (h 3)], s13, s14, s15, undef], []⟩ ∧ PI W1 g n2 hs h b0 b3 b5 b6 b7 s8 s11 s13 s14 s15 x w


theorem implNewT_any (v : Value) (n : Nat) (fs : List Int) (w : World) (h : LAt 3 w v n fs) :
   Calls Tryz.prog 27 #[v] w (ThAns w ⟨n, fs, 0, false, 0, [], 0, []⟩) := by
 obtain ⟨sz, hsz⟩ : ∃ sz, w.heap.size = sz := ⟨_, rfl⟩
 obtain ⟨W, hW⟩ : ∃ W, w.alloc (.cells #[.slice none 0 0, .int .i64 0, .bool false, .slice none 0 0, .slice none 0 0] 59) = W := ⟨_, rfl⟩
 have hWs : W.heap.size = sz + 1 := by rw [← hW, ← hsz]; simp
 have hb0 : Below sz w W := by rw [← hW, ← hsz]; exact (Below.refl _ w).alloc (Nat.le_refl _) _
 have R0 : Hid (Box W sz #[.slice none 0 0, .int .i64 0, .bool false, .slice none 0 0, .slice none 0 0] 59) := by rw [← hW, ← hsz]; exact box_of w _ _
 have HL : Hid (LAt 3 W v n fs) := h.below hb0 (by omega)
 have HW : Hid _ := hW
 have HSZ : Hid (w.heap.size = sz) := hsz
 have HB0 : Hid (Below sz w W) := hb0
 have HWS : Hid (W.heap.size = sz + 1) := hWs
 clear h hW hb0 hsz hWs
 go_enter Tryz.func27, Tryz.ntmps27
 go_wp2_with fail
 rw [HW.out]
 (try rw [HSZ.out])
 refine (cloneOp v n fs _ HL.out).mono ?_
 rintro e w1 ⟨v', rfl, own1, hb1⟩
 obtain ⟨p, d, rfl, -⟩ := owns_slice own1
 have HO : Hid (w1.ownsRow W.heap.size 82 3 (.slice p n d) n (fs.map I)) := own1
 have HB1 : Hid (Below W.heap.size W w1) := hb1
 have X : Hid (Box w1 sz #[.slice none 0 0, .int .i64 0, .bool false, .slice none 0 0, .slice none 0 0] 59) := R0.out.below hb1 R0.out.lt
 obtain ⟨u0, u1, u2, u3, u4, f0, f1, f2, f3, f4⟩ := X.out.five
 clear own1 hb1
 go_wp2
 (try simp only [Exit.inBlock, Exit.then])
 obtain ⟨z0, z1, z2, z3, z4, _⟩ := (((((X.out.put 0 (.slice p n d)).put 1 (.int .i64 0)).put 2 (.bool false)).put 3 (.slice none 0 0)).put 4 (.slice none 0 0)).five
 refine bodyPost_ret (by simp [results, Tryz.results27, go_sem, z0, z1, z2, z3, z4]; try rfl) rfl ?_
 have hz := HWS.out
 have nin : ¬ In3 (.slice p n d) (.slice none 0 0) (.slice none 0 0) sz := by
   rintro (e | e | e)
   · have := (HO.out.lt _ e).1; omega
   · cases e
   · cases e
 have tO : ThO w1 sz (.slice p n d) (.slice none 0 0) (.slice none 0 0) ⟨n, fs, 0, false, 0, [], 0, []⟩ := ⟨own_weaken HO.out (by omega), World.ownsRow_nil _ _ _ _, World.ownsRow_nil _ _ _ _, (fun _ _ e => by cases e), (fun _ _ e => by cases e), (fun _ e => by cases e)⟩
 refine ⟨_, _, _, rfl, ?_, ?_⟩
 · rw [HSZ.out]; exact tO.set5 nin _ _ _ _ _
 · rw [HSZ.out]; exact below_set5 (HB0.out.trans (HB1.out.mono (by omega))) (Nat.le_refl _) _ _ _ _ _
end
end Go.Proofs.YtcfimaffeopbbaaGreatDoor
