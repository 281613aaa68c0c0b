/- Texts joined: ImplAfter, LawAlways, SameE, PlanWords. -/
import Derived.Test.YtenlapppaimkkabGreatDoorPL35
import Derived.Test.YtenlapppaimkkabGreatDoorPL25
import Derived.Test.YtenlapppaimkkabGreatDoorPL29
import Derived.Test.YtenlapppaimkkabGreatDoorPL30
import Derived.Test.YtenlapppaimkkabGreatDoorPL22
import Derived.Deep.RegionHeld3
import Derived.Test.YtenlapppaimkkabGreatDoorPL03
import Derived.Laws.StructEq
import Derived.Test.YtenlapppaimkkabGreatDoorPL26
set_option maxHeartbeats 4000000
set_option maxRecDepth 100000
namespace Go.Proofs.YtenlapppaimkkabGreatDoor
section
open Go.ChangeShapes Go.WideShapes Go.ChangeAt Go.RowKit
def Box0 (w : World) (b : Nat) : Prop := w.heap[b]? = some (.cells #[.slice none 0 0, .int .i64 0] 26)
theorem Box0.facts {w : World} {b : Nat} (h : Box0 w b) : w.cell? ⟨b, 0, none⟩ = some (.slice none 0 0) ∧ w.cell? ⟨b, 1, none⟩ = some (.int .i64 0) ∧ w.frozen? ⟨b, 0, none⟩ = false ∧ w.frozen? ⟨b, 1, none⟩ = false ∧ b < w.heap.size := by
  unfold Box0 at h
  exact ⟨by simp [World.cell?, h], by simp [World.cell?, h], by simp [World.frozen?, h], by simp [World.frozen?, h], (Array.getElem?_eq_some_iff.1 h).1⟩
theorem box_first {W w' : World} {b : Nat} {ob : Obj} (hb : W.heap.size = b) (hg : ((W.alloc (.cells #[.slice none 0 0, .int .i64 0] 26)).alloc ob).drew.grownBy w' (some (b + 1))) : Box0 w' b := by
  subst hb
  unfold Box0
  rw [hg.block W.heap.size (by simp; omega) (by simp)]
  show ((W.heap.push _).push _)[W.heap.size]? = _
  rw [Array.getElem?_push_lt (by simp), Array.getElem_push_eq]
theorem box_second {W w' : World} {b : Nat} {ob : Obj} (hb : W.heap.size = b) (hg : ((W.alloc ob).alloc (.cells #[.slice none 0 0, .int .i64 0] 26)).drew.grownBy w' (some b)) : Box0 w' (b + 1) := by
  subst hb
  unfold Box0
  rw [hg.block (W.heap.size + 1) (by simp) (by simp)]
  show ((W.heap.push ob).push _)[W.heap.size + 1]? = _
  rw [show W.heap.size + 1 = (W.heap.push ob).size by simp, Array.getElem?_push_size]
theorem Box0.apart {w : World} {b base n : Nat} {v : Value} {xs : List Value} (h : Box0 w b) (ho : w.ownsRow base 3 1 v n xs) : v.ownBlock ≠ some b := by
  intro e
  rcases ho.2 with ⟨rfl, _⟩ | ⟨g, cap, cur, rfl, _, hg, _⟩
  · simp [Value.ownBlock] at e
  · have e' : g = b := by simpa [Value.ownBlock] using e
    subst e'
    unfold Box0 at h
    rw [hg] at h
    simp at h
theorem stored_box {w : World} {b : Nat} {u0 u1 : Value} (h0 : w.cell? ⟨b, 0, none⟩ = some u0) (h1 : w.cell? ⟨b, 1, none⟩ = some u1) (x y : Value) :
    ((w.setCell ⟨b, 0, none⟩ x).setCell ⟨b, 1, none⟩ y).cell? ⟨b, 0, none⟩ = some x ∧ ((w.setCell ⟨b, 0, none⟩ x).setCell ⟨b, 1, none⟩ y).cell? ⟨b, 1, none⟩ = some y := by
  refine ⟨?_, ?_⟩
  · rw [World.cell?_setCell_other _ _ _ _ (fun e => by cases e), World.cell?_setCell_same _ _ _ h0]
  · refine World.cell?_setCell_same _ _ _ (u := u1) ?_
    rw [World.cell?_setCell_other _ _ _ _ (fun e => by cases e)]
    exact h1
theorem own_empty_at {w : World} {base g : Nat} (hg : w.heap.size = g) (hb : base ≤ g) : (w.alloc (.cells #[] 3)).ownsRow base 3 1 (.slice (some ⟨g, 0, none⟩) 0 0) 0 [] := by
  subst hg
  exact own_empty hb
theorem own_empty_box_drew {w : World} {base g : Nat} {ob : Obj} (hg : w.heap.size = g) (hb : base ≤ g) : ((w.alloc (.cells #[] 3)).alloc ob).drew.ownsRow base 3 1 (.slice (some ⟨g, 0, none⟩) 0 0) 0 [] := (own_empty_at hg hb).alloc ob
theorem news_of {w : World} {p o n : Nat} {xs : List Int} (h : IntAt w (some ⟨p, o, none⟩) n xs) : ∀ (j : Nat) (u : Value), (xs.map I)[j]? = some u → w.cell? ((⟨p, o, none⟩ : Addr).add j) = some u := by
  intro j u hj
  have hl := h.1
  have hj' : j < n := by
    rcases Nat.lt_or_ge j n with h1 | h1
    · exact h1
    · rw [List.getElem?_eq_none (by simp; omega)] at hj; cases hj
  have e : (⟨p, o, none⟩ : Addr).add j = ⟨p, o + j, none⟩ := by simp [Addr.add]
  rw [e, h.cells j hj']
  rw [List.getElem?_map, List.getElem?_eq_getElem (by omega)] at hj
  simpa [List.getD, show j < xs.length by omega] using hj

theorem implAfter_cap (a2 : Option Addr) (p o n cp n2 c2 : Nat) (st kind k v code : Int) (xs ys : List Int) (w : World) (hcp : n = 4 → cp = 4) (hA : IntAt w (some ⟨p, o, none⟩) n xs) (h2 : IntAt w a2 n2 ys) (hi : ∀ x ∈ xs, (Lit.int .i64 x).wf = true) :
    Calls Tryz.prog 15 #[.agg #[.slice (some ⟨p, o, none⟩) n cp, .int .i64 st], OpV kind k v, ResV code a2 n2 c2] w fun e w' => AfterSays e w w' n (AfterM xs st kind k v code ys) ∧ Below w.heap.size w w' := by
  obtain ⟨i0, hi0, hz0, hz1, hz2⟩ := info_parts infoInt
  have HA : Hid (IntAt w (some ⟨p, o, none⟩) n xs) := hA
  have HL : Hid (xs.length = n) := hA.1
  have hn := hA.2.1
  have H2 : Hid (IntAt w a2 n2 ys) := h2
  have HI : Hid (∀ x ∈ xs, (Lit.int .i64 x).wf = true) := hi
  clear hA h2 hi
  obtain ⟨W4, hW4⟩ : ∃ W4, W4 = ((((w.alloc (.cells #[.slice (some ⟨p, o, none⟩) n cp, .int .i64 st] 26)).alloc (.cells #[.int .i64 kind, .int .i64 k, .int .i64 v] 28)).alloc (.cells #[.int .i64 code, .slice a2 n2 c2] 33)).alloc (.cells #[.slice none 0 0, .int .i64 0] 26)) := ⟨_, rfl⟩
  have hs4 : W4.heap.size = w.heap.size + 1 + 1 + 1 + 1 := by rw [hW4]; simp
  have HC : Hid (∀ wr, Below (w.heap.size + 1 + 1 + 1 + 1) W4 wr → Four w #[.slice (some ⟨p, o, none⟩) n cp, .int .i64 st] #[.int .i64 kind, .int .i64 k, .int .i64 v] #[.int .i64 code, .slice a2 n2 c2] #[.slice none 0 0, .int .i64 0] wr ∧ Below w.heap.size w wr) := fun wr hb => by
    rw [hW4] at hb
    exact ⟨four_at w _ _ _ _ _ _ _ _ wr hb, (((((Below.refl _ w).alloc (Nat.le_refl _) _).alloc (by simp) _).alloc (by simp; omega) _).alloc (by simp; omega) _).trans (hb.mono (by omega))⟩
  have HBX : Hid (∀ wr, Below (w.heap.size + 1 + 1 + 1 + 1) W4 wr → wr.cell? ⟨w.heap.size, 0, none⟩ = some (.slice (some ⟨p, o, none⟩) n cp) ∧ wr.cell? ⟨w.heap.size, 1, none⟩ = some (.int .i64 st)) := fun wr hb => ⟨(HC.out wr hb).1.1 0 _ rfl, (HC.out wr hb).1.1 1 _ rfl⟩
  go_enter Tryz.func15, Tryz.ntmps15
  go_wp2_with fail
  rw [← hW4]
  clear hW4
  have hb4 : Below (w.heap.size + 1 + 1 + 1 + 1) W4 W4 := Below.refl _ _
  refine Code.wp_mono (Q := Exit.then (fun a' w' => ∃ (b e : Nat) (a9 : Option Addr) (c9 : Nat), a' = ⟨List.toArray (Value.agg #[Value.slice (some ⟨p, o, none⟩) n cp, Value.int IntKind.i64 st] :: OpV kind k v :: ResV code a2 n2 c2 :: Value.pointer (some ⟨w.heap.size, 0, none⟩) :: Value.pointer (some ⟨w.heap.size + 1, 0, none⟩) :: Value.pointer (some ⟨w.heap.size + 1 + 1, 0, none⟩) :: Value.pointer (some ⟨w.heap.size + 1 + 1 + 1, 0, none⟩) :: Value.pointer (some ⟨b, 0, none⟩) :: Value.slice (some ⟨e, 0, none⟩) 0 0 :: Value.pointer (some ⟨w.heap.size, 0, none⟩) :: Value.slice (some ⟨p, o, none⟩) n cp :: Value.slice a9 n c9 :: Value.pointer (some ⟨w.heap.size, 1, none⟩) :: Value.int IntKind.i64 st :: Value.agg #[Value.slice a9 n c9, Value.int IntKind.i64 st] :: undef :: undef :: undef :: undef :: undef :: undef :: undef :: undef :: undef :: undef :: undef :: undef :: undef :: undef :: undef :: []), []⟩ ∧ w'.cell? ⟨b, 0, none⟩ = some (.slice a9 n c9) ∧ w'.cell? ⟨b, 1, none⟩ = some (.int .i64 st) ∧ b < w'.heap.size ∧ (w.heap.size + 1 + 1 + 1 + 1) ≤ b ∧ w'.ownsRow (w.heap.size + 1 + 1 + 1 + 1) 3 1 (.slice a9 n c9) n (xs.map I) ∧ Below (w.heap.size + 1 + 1 + 1 + 1) W4 w') (fun _ _ _ => False)) ?rest ?reg
  case reg =>
    go_region_held3 (fun w' => w'.cell? ⟨w.heap.size, 0, none⟩ = some (.slice (some ⟨p, o, none⟩) n cp) ∧ w'.cell? ⟨w.heap.size, 1, none⟩ = some (.int .i64 st))
      (first | (exact HBX.out _ hb9) | (exact HBX.out _ (hb9.alloc (by omega) _)) | (exact HBX.out _ (hb9.setCell bge _)) | (exact HBX.out _ ((hb9.setCell bge _).setCell bge _)) | (exact HBX.out _ hb4.drew) | (exact HBX.out _ (hb4.alloc (by omega) _).drew) | (exact HBX.out _ ((hb4.alloc (by omega) _).alloc (by simp; omega) _).drew) | go_keep)
      (first
      | (refine step_append_own _ (by rfl) _ _ 24 (by rfl) (w.heap.size + 1 + 1 + 1 + 1) 3 i0 (.int .i64 0) 1 8 Tryz.underlying24 hi0 hz0 hz1 hz2 (by rfl) (by decide) _ 0 [] (by rfl) (by first | exact own_empty_drew (by simp [hs4]) (by omega) | exact own_empty_box_drew hs4 (by omega)) ⟨p, o, none⟩ n cp (xs.map I) (by rfl) (news_len HL.out) (news_of (HA.out.below (HC.out _ (by first | exact (hb4.alloc (by omega) _).drew | exact ((hb4.alloc (by omega) _).alloc (by simp; omega) _).drew)).2 (Nat.le_refl _))) news_one (by unfold maxLen; omega) (by omega) (by simp [hs4]) ?_
         intro v' w9 hown hgrow _
         have hown2 : w9.ownsRow (w.heap.size + 1 + 1 + 1 + 1) 3 1 v' n (xs.map I) := by simpa using hown
         obtain ⟨a9, c9, rfl, hat⟩ := own_at hown2 hn
         have hb9 : Below (w.heap.size + 1 + 1 + 1 + 1) W4 w9 := (show Below (w.heap.size + 1 + 1 + 1 + 1) W4 _ by first | exact (hb4.alloc (by omega) _).drew | exact ((hb4.alloc (by omega) _).alloc (by simp; omega) _).drew).grown hgrow (by simp [hs4]) (fun k e => by cases e; first | exact Nat.le_refl _ | exact Nat.le_succ _)
         have hs9 : w.heap.size + 1 + 1 + 1 + 1 ≤ w9.heap.size := by have h := hb9.size; omega
         first
           | (have hx := box_first hs4 hgrow
              have hne := hx.apart hown2
              obtain ⟨k0, k1, z0, z1, kl⟩ := hx.facts
              have bge : (w.heap.size + 1 + 1 + 1 + 1) ≤ w.heap.size + 1 + 1 + 1 + 1 := Nat.le_refl _)
           | (have hx := box_second hs4 hgrow
              have hne := hx.apart hown2
              obtain ⟨k0, k1, z0, z1, kl⟩ := hx.facts
              have bge : (w.heap.size + 1 + 1 + 1 + 1) ≤ w.heap.size + 1 + 1 + 1 + 1 + 1 := by omega)
           | skip))
    all_goals first
      | exact ⟨_, _, a9, c9, rfl, by simp, by simp, by simp, hs9, hown2.alloc _, hb9.alloc hs9 _⟩
      | exact ⟨_, _, a9, c9, rfl, (stored_box k0 k1 _ _).1, (stored_box k0 k1 _ _).2, by simpa [World.setCell] using kl, bge, own_setCell_far (own_setCell_far hown2 hne _) hne _, (hb9.setCell bge _).setCell bge _⟩
  case rest =>
    intro ex a' w9 h
    cases ex
    case normal =>
      obtain ⟨b, e, a9, c9, rfl, k0, k1, kl, bge, own9, hb9⟩ := h
      have hs9 : (w.heap.size + 1 + 1 + 1 + 1) ≤ w9.heap.size := by have h := hb9.size; omega
      have HB9 : Hid (Below (w.heap.size + 1 + 1 + 1 + 1) W4 w9) := hb9
      have OWN9 : Hid (w9.ownsRow (w.heap.size + 1 + 1 + 1 + 1) 3 1 (.slice a9 n c9) n (xs.map I)) := own9
      have c0 := (HC.out _ hb9).1.1 0 _ rfl
      have c1 := (HC.out _ hb9).1.1 1 _ rfl
      have d0 := (HC.out _ hb9).1.2.1 0 _ rfl
      have d1 := (HC.out _ hb9).1.2.1 1 _ rfl
      have d2 := (HC.out _ hb9).1.2.1 2 _ rfl
      have f0 := (HC.out _ hb9).1.2.2.1 0 _ rfl
      have f1 := (HC.out _ hb9).1.2.2.1 1 _ rfl
      have v0 := (HC.out _ hb9).1.2.2.2.1 0 _ rfl
      have v1 := (HC.out _ hb9).1.2.2.2.1 1 _ rfl
      have y0 := (HC.out _ hb9).1.2.2.2.2 0
      have y1 := (HC.out _ hb9).1.2.2.2.2 1
      clear own9 hb4 hi0 hz0 hz1 hz2
      by_cases hc : code = 0
      · subst hc
        go_wp2_with fail
        refine (implAllowed_cap p o n cp n2 c2 a2 st kind k v 0 xs ys _ hcp (HA.out.below (HC.out _ HB9.out).2 (Nat.le_refl _)) (H2.out.below (HC.out _ HB9.out).2 (Nat.le_refl _)) HI.out).mono ?_
        rintro e' w10 ⟨⟨ok, rfl, hok⟩, hb10⟩
        have HOK : Hid (ok = true ↔ AllowM xs st kind k v 0 ys) := hok
        have OWN10 : Hid (w10.ownsRow (w.heap.size + 1 + 1 + 1 + 1) 3 1 (.slice a9 n c9) n (xs.map I)) := owns_below OWN9.out hb10 (Nat.le_refl _)
        have k0 : w10.cell? ⟨b, 0, none⟩ = some (.slice a9 n c9) := (hb10.cell (show b < _ from kl)).trans k0
        have k1 : w10.cell? ⟨b, 1, none⟩ = some (.int .i64 st) := (hb10.cell (show b < _ from kl)).trans k1
        have hbA : Below (w.heap.size + 1 + 1 + 1 + 1) W4 w10 := HB9.out.trans (hb10.mono hs9)
        have hs10 : (w.heap.size + 1 + 1 + 1 + 1) ≤ w10.heap.size := by have h := hbA.size; omega
        have HB10 : Hid (Below (w.heap.size + 1 + 1 + 1 + 1) W4 w10) := hbA
        have hbl10 : b < w10.heap.size := Nat.lt_of_lt_of_le kl hb10.size
        clear c0 c1 d0 d1 d2 f0 f1 v0 v1 y0 y1 hb9
        have c0 := (HC.out _ hbA).1.1 0 _ rfl
        have c1 := (HC.out _ hbA).1.1 1 _ rfl
        have d0 := (HC.out _ hbA).1.2.1 0 _ rfl
        have d1 := (HC.out _ hbA).1.2.1 1 _ rfl
        have d2 := (HC.out _ hbA).1.2.1 2 _ rfl
        have v0 := (HC.out _ hbA).1.2.2.2.1 0 _ rfl
        have v1 := (HC.out _ hbA).1.2.2.2.1 1 _ rfl
        have y0 := (HC.out _ hbA).1.2.2.2.2 0
        have y1 := (HC.out _ hbA).1.2.2.2.2 1
        clear hok hb10 hbA
        cases ok
        · have HM : Hid (AfterM xs st kind k v 0 ys xs st) := .inr ⟨fun h => (by have := HOK.out.2 h.1; cases this), rfl, rfl⟩
          go_wp2
          (try simp only [Exit.inBlock, Exit.then])
          refine bodyPost_ret (by simp [results, Tryz.results15, go_sem, v0, v1]; try rfl) rfl ?_
          exact ⟨⟨xs, st, a9, c9, rfl, HM.out, own_weaken (ownsRow_setCell_below (ownsRow_setCell_below OWN10.out (by simp) _) (by simp) _) (by omega)⟩, (((HC.out _ HB10.out).2).setCell (by simp; omega) _).setCell (by simp; omega) _⟩
        · have hal := HOK.out.1 rfl
          obtain rfl : n = 4 := by rw [← HL.out]; exact hal.1.1
          have HAL : Hid (AllowM xs st kind k v 0 ys) := hal
          clear hal HOK
          obtain ⟨g, rfl⟩ : ∃ g, a9 = some ⟨g, 0, none⟩ := by
            rcases OWN10.out.2 with ⟨_, h0⟩ | ⟨g, cap, cur, hv, _⟩
            · omega
            · simp only [Value.slice.injEq] at hv
              exact ⟨g, hv.1⟩
          go_wp2_with fail
          go_region_with (first
            | (go_at_call 22
               refine (implDeedOf_any kind k v _).mono ?_
               rintro e11 w11 ⟨rfl, hb11⟩
               have k0 : w11.cell? ⟨b, 0, none⟩ = some (.slice (some ⟨g, 0, none⟩) 4 c9) := (hb11.cell (show b < _ by simpa using hbl10)).trans (by simpa using k0)
               have k1 : w11.cell? ⟨b, 1, none⟩ = some (.int .i64 st) := (hb11.cell (show b < _ by simpa using hbl10)).trans (by simpa using k1)
               have HB11 : Hid (Below (w.heap.size + 1 + 1 + 1 + 1) W4 w11) := HB10.out.drew.trans (hb11.mono (by simpa using hs10))
               have OWN11 : Hid (w11.ownsRow (w.heap.size + 1 + 1 + 1 + 1) 3 1 (.slice (some ⟨g, 0, none⟩) 4 c9) 4 (xs.map I)) := owns_below (w := w10.drew) OWN10.out hb11 (Nat.le_refl _)
               have hs11 : (w.heap.size + 1 + 1 + 1 + 1) ≤ w11.heap.size := by have h := HB11.out.size; omega
               clear hb11)
            | (go_at_call 51
               refine (turn_any (w.heap.size + 1 + 1 + 1 + 1) g c9 st kind k v xs _ OWN11.out hs11 HAL.out.2.1 ⟨HAL.out.1.2.1, HAL.out.1.2.2.1⟩).mono ?_
               rintro e12 w12 ⟨zs, st', rfl, hT, own12, hb12⟩
               have HT : Hid (TurnM xs st kind k v zs st') := hT
               have OWN12 : Hid (w12.ownsRow (w.heap.size + 1 + 1 + 1 + 1) 3 1 (.slice (some ⟨g, 0, none⟩) 4 c9) 4 (zs.map I)) := own12
               have hbB : Below (w.heap.size + 1 + 1 + 1 + 1) W4 w12 := HB11.out.trans hb12
               have HB12 : Hid (Below (w.heap.size + 1 + 1 + 1 + 1) W4 w12) := hbB
               have v0 := (HC.out _ hbB).1.2.2.2.1 0 _ rfl
               have v1 := (HC.out _ hbB).1.2.2.2.1 1 _ rfl
               have y0 := (HC.out _ hbB).1.2.2.2.2 0
               have y1 := (HC.out _ hbB).1.2.2.2.2 1
               have hs12 : (w.heap.size + 1 + 1 + 1 + 1) ≤ w12.heap.size := by have h := hbB.size; omega
               clear own12 hb12 hbB hT))
          all_goals
            go_wp2
            (try simp only [Exit.inBlock, Exit.then])
            refine bodyPost_ret (by simp [results, Tryz.results15, go_sem, v0, v1]; try rfl) rfl ?_
            exact ⟨⟨zs, st', some ⟨g, 0, none⟩, c9, rfl, .inl ⟨HAL.out, rfl, HT.out⟩, own_weaken (ownsRow_setCell_below (ownsRow_setCell_below OWN12.out (by simp) _) (by simp) _) (by omega)⟩, (((HC.out _ HB12.out).2).setCell (by simp; omega) _).setCell (by simp; omega) _⟩
      · have hc' : (code != 0) = true := by simpa using hc
        have HM : Hid (AfterM xs st kind k v code ys xs st) := .inr ⟨fun h => hc h.2, rfl, rfl⟩
        clear hc
        go_wp2
        (try simp only [Exit.inBlock, Exit.then])
        refine bodyPost_ret (by simp [results, Tryz.results15, go_sem, v0, v1]; try rfl) rfl ?_
        exact ⟨⟨xs, st, a9, c9, rfl, HM.out, own_weaken (ownsRow_setCell_below (ownsRow_setCell_below OWN9.out (by simp) _) (by simp) _) (by omega)⟩, (((HC.out _ HB9.out).2).setCell (by simp; omega) _).setCell (by simp; omega) _⟩
    all_goals exact h.elim
theorem big_is (a : Option Addr) (n c : Nat) (w : World) : Calls Tryz.prog 5 #[.slice a n c] w fun e w' => e = .returned (.bool (decide (1048576 < n))) ∧ w' = w := by
  obtain ⟨B, hB⟩ : ∃ B, decide (1048576 < n) = B := ⟨_, rfl⟩
  rw [hB]
  have HB : Hid (decide ((1048576 : Int) < (n : Int)) = B) := by
    show _ = _
    rw [← hB, decide_eq_decide]
    omega
  clear hB
  go_enter Tryz.func5, Tryz.ntmps5
  go_wp2
  go_ret
  refine ⟨?_, rfl⟩
  rw [← HB.out]
  first | rfl | simp
theorem sameInts_any (a1 a2 : Option Addr) (n1 n2 c1 c2 : Nat) (xs ys : List Int) (w : World) (h1 : IntAt w a1 n1 xs) (h2 : IntAt w a2 n2 ys) :
    Calls Tryz.prog 14 #[.slice a1 n1 c1, .slice a2 n2 c2] w fun e w' => e = .returned (.bool (decide (xs = ys))) ∧ Below w.heap.size w w' := by
  have H1 : Hid (IntAt w a1 n1 xs) := h1
  have H2 : Hid (IntAt w a2 n2 ys) := h2
  have L1 : Hid (xs.length = n1) := h1.1
  have L2 : Hid (ys.length = n2) := h2.1
  have b1 := h1.2.1
  have b2 := h2.2.1
  obtain ⟨B, hB⟩ : ∃ B, decide (xs = ys) = B := ⟨_, rfl⟩
  rw [hB]
  have HB : Hid (decide (xs = ys) = B) := hB
  clear h1 h2 hB
  by_cases hn : n1 = n2
  · subst hn
    go_enter Tryz.func14, Tryz.ntmps14
    go_wp2
    go_loopw [5] (fun i wr => ∃ k : Nat, k ≤ n1 ∧ i = .int .i64 k ∧ xs.take k = ys.take k ∧ Below w.heap.size w wr) (fun i _ => n1 - (intOf i).toNat)
    case atStart => exact ⟨0, Nat.zero_le _, rfl, rfl, Below.refl _ _⟩
    case round =>
      obtain ⟨k, hk1, rfl, ht, hb⟩ := hrel
      have HT : Hid (xs.take k = ys.take k) := ht
      clear ht
      by_cases hlt1 : k < n1
      · rcases (H1.out.below hb (Nat.le_refl _)).2.2 with h | ⟨p1, o1, rfl, g1⟩
        · omega
        rcases (H2.out.below hb (Nat.le_refl _)).2.2 with h | ⟨p2, o2, rfl, g2⟩
        · omega
        obtain ⟨x, hx⟩ : ∃ x, xs.getD k 0 = x := ⟨_, rfl⟩
        obtain ⟨y, hy⟩ : ∃ y, ys.getD k 0 = y := ⟨_, rfl⟩
        have e1 := g1 k hlt1
        have e2 := g2 k hlt1
        rw [hx] at e1
        rw [hy] at e2
        have HX : Hid (xs.getD k 0 = x) := hx
        have HY : Hid (ys.getD k 0 = y) := hy
        clear g1 g2 hx hy
        go_wp2
        go_region
        go_wp2
        · have hd : (x != y) = true := by assumption
          go_ret
          refine ⟨?_, hb.drew⟩
          have e : xs ≠ ys := fun e => by rw [← HX.out, ← HY.out, e] at hd; simp at hd
          rw [← HB.out]
          simp [e]
        · have hd : (x != y) = false := by assumption
          have l1 := L1.out
          have l2 := L2.out
          exact ⟨⟨k + 1, by omega, by go_num, take_nextI (by omega) (by omega) HT.out (by rw [HX.out, HY.out]; simpa using hd), hb.drew⟩, by simp [intOf]; omega⟩
      · obtain rfl : k = n1 := by omega
        go_wp2
        go_ret
        refine ⟨?_, hb⟩
        have l1 := L1.out
        have l2 := L2.out
        have e : xs = ys := by
          have e0 := HT.out
          rwa [List.take_of_length_le (by omega), List.take_of_length_le (by omega)] at e0
        rw [← HB.out]
        simp [e]
  · have hne : ((n1 : Int) != (n2 : Int)) = true := by simp; omega
    have hxy : xs ≠ ys := fun e => by have l1 := L1.out; have l2 := L2.out; rw [e] at l1; omega
    have HX : Hid (xs ≠ ys) := hxy
    clear hxy
    go_enter Tryz.func14, Tryz.ntmps14
    go_wp2
    go_ret
    refine ⟨?_, Below.refl _ _⟩
    rw [← HB.out]
    simp [HX.out]

theorem ok_wf2 {xs : List Int} {st : Int} (h : OkRows xs st) : ∀ x ∈ xs, (Lit.int .i64 x).wf = true := by
  obtain ⟨y0, y1, y2, y3, rfl⟩ := four_of h.1
  have hf := ((okFour_iff y0 y1 y2 y3 st).1 h).2
  unfold OkFour at hf
  intro x hx
  simp only [List.mem_cons, List.not_mem_nil, or_false] at hx
  exact WalkArith.wf_i64 (by omega)
theorem Box.c3 {w : World} {b : Nat} {T : TypeId} {x y z : Value} (h : Box w b #[x, y, z] T) : w.cell? ⟨b, 0, none⟩ = some x ∧ w.cell? ⟨b, 1, none⟩ = some y ∧ w.cell? ⟨b, 2, none⟩ = some z := ⟨h.cell 0, h.cell 1, h.cell 2⟩
theorem Box.c2 {w : World} {b : Nat} {T : TypeId} {x y : Value} (h : Box w b #[x, y] T) : w.cell? ⟨b, 0, none⟩ = some x ∧ w.cell? ⟨b, 1, none⟩ = some y := ⟨h.cell 0, h.cell 1⟩
theorem Box.c4 {w : World} {b : Nat} {T : TypeId} {x y z u : Value} (h : Box w b #[x, y, z, u] T) : w.cell? ⟨b, 0, none⟩ = some x ∧ w.cell? ⟨b, 1, none⟩ = some y ∧ w.cell? ⟨b, 2, none⟩ = some z ∧ w.cell? ⟨b, 3, none⟩ = some u := ⟨h.cell 0, h.cell 1, h.cell 2, h.cell 3⟩
structure ASt (w : World) (br bo bp g : Nat) (xs : List Int) (st kind k v : Int) (pl : Array Value) (ra : Option Addr) (rm : Nat) (ys : List Int) (wr : World) : Prop where
  rows : Box wr br #[.slice (some ⟨g, 0, none⟩) 4 4, .int .i64 st] 26
  op : Box wr bo #[.int .i64 kind, .int .i64 k, .int .i64 v] 28
  plan : Box wr bp pl 36
  held : IntAt wr (some ⟨g, 0, none⟩) 4 xs
  res : IntAt wr ra rm ys
  bel : Below w.heap.size w wr
theorem ASt.below {w wr wr' : World} {br bo bp g : Nat} {xs : List Int} {st kind k v : Int} {pl : Array Value} {ra : Option Addr} {rm : Nat} {ys : List Int} (h : ASt w br bo bp g xs st kind k v pl ra rm ys wr) (hb : Below wr.heap.size wr wr') : ASt w br bo bp g xs st kind k v pl ra rm ys wr' :=
  ⟨h.rows.below hb h.rows.lt, h.op.below hb h.op.lt, h.plan.below hb h.plan.lt, h.held.below hb (Nat.le_refl _), h.res.below hb (Nat.le_refl _), h.bel.trans (hb.mono h.bel.size)⟩
theorem not_done_same {xs : List Int} {st kind k v code : Int} {ys zs : List Int} {st' : Int} (h : AfterM xs st kind k v code ys zs st') (hc : code ≠ 0) : zs = xs ∧ st' = st := by
  rcases h with ⟨_, h2, _⟩ | ⟨_, h⟩
  · exact absurd h2 hc
  · exact h
theorem done_is {xs : List Int} {st kind k v code : Int} {ys zs : List Int} {st' : Int} (h : AfterM xs st kind k v code ys zs st') (ha : AllowM xs st kind k v code ys) (hc : code = 0) :
    ((kind = 1 ∨ kind = 2) ∧ zs = xs.set k.toNat v ∧ st' = st) ∨ (kind = 3 ∧ zs = xs.set k.toNat 0 ∧ st' = st) ∨ ((kind = 8 ∨ kind = 9) ∧ zs = xs ∧ st' = st + 1) ∨ ((4 ≤ kind ∧ kind ≤ 7 ∨ kind = 10) ∧ zs = xs ∧ st' = st) := by
  rcases h with ⟨_, _, h3⟩ | ⟨h, _⟩
  · exact h3
  · exact absurd ⟨ha, hc⟩ h
theorem neq_entry (x y z : Int) (w : World) : (binOp .neq 47 (.agg #[.int .i64 x, .int .i64 y, .int .i64 z]) (.agg #[.int .i64 x, .int .i64 y, .int .i64 z])).run Tryz.prog w = .ok (.bool false) w := by
  have hS : Tryz.prog.underlying 47 = some (.struct (Tryz.prog.fieldsOf 47)) := by kernel_rfl
  have hp : Tryz.prog.stoodInHeld 47 = false := by kernel_rfl
  have u3 := Tryz.underlying3
  rw [run_neq_struct, show (10000 : Nat) = 9999 + 1 from rfl, run_equalIn_agg w 9999 47 _ _ hS hp]
  simp only [Program.fieldsOf, Tryz.underlying47]
  go_simp

theorem sameEntries_same (a1 a2 : Option Addr) (n c1 c2 : Nat) (fs : List Int) (w : World) (h1 : EntAt w a1 n fs) (h2 : EntAt w a2 n fs) :
    Calls Tryz.prog 38 #[.slice a1 n c1, .slice a2 n c2] w fun e w' => e = .returned (.bool true) ∧ Below w.heap.size w w' := by
  have H1 : Hid (EntAt w a1 n fs) := h1
  have H2 : Hid (EntAt w a2 n fs) := h2
  have b1 := h1.2.1
  clear h1 h2
  go_enter Tryz.func38, Tryz.ntmps38
  go_wp2
  go_loopw [5] (fun i wr => ∃ k : Nat, k ≤ n ∧ i = .int .i64 k ∧ Below w.heap.size w wr) (fun i _ => n - (intOf i).toNat)
  case atStart => exact ⟨0, Nat.zero_le _, rfl, Below.refl _ _⟩
  case round =>
    obtain ⟨k, hk1, rfl, hb⟩ := hrel
    by_cases hlt1 : k < n
    · have hk0 : (0 : Int) ≤ (k : Int) := by omega
      have hk1' : (k : Int) < (n : Int) := by omega
      rcases (H1.out.below hb (Nat.le_refl _)).2.2 with h | ⟨p1, o1, rfl, g1⟩
      · omega
      rcases (H2.out.below hb (Nat.le_refl _)).2.2 with h | ⟨p2, o2, rfl, g2⟩
      · omega
      obtain ⟨x, hx⟩ : ∃ x, fs.getD (k * 3) 0 = x := ⟨_, rfl⟩
      obtain ⟨y, hy⟩ : ∃ y, fs.getD (k * 3 + 1) 0 = y := ⟨_, rfl⟩
      obtain ⟨z, hz⟩ : ∃ z, fs.getD (k * 3 + 2) 0 = z := ⟨_, rfl⟩
      have e1 := g1 (k * 3) (by omega)
      have e2 := g1 (k * 3 + 1) (by omega)
      have e3 := g1 (k * 3 + 2) (by omega)
      have e4 := g2 (k * 3) (by omega)
      have e5 := g2 (k * 3 + 1) (by omega)
      have e6 := g2 (k * 3 + 2) (by omega)
      rw [hx] at e1 e4
      rw [hy, ← Nat.add_assoc] at e2 e5
      rw [hz, ← Nat.add_assoc] at e3 e6
      clear g1 g2 hx hy hz
      have hq := neq_entry x y z
      go_wp2
      go_region
      go_wp2
      exact ⟨⟨k + 1, by omega, by go_num, hb.drew⟩, by simp [intOf]; omega⟩
    · obtain rfl : k = n := by omega
      go_wp2
      go_ret
      exact ⟨rfl, hb⟩
theorem samePlan_same (a1 a2 b1 b2 : Option Addr) (m1 m2 r1 r2 d1 d2 : Nat) (nw : Bool) (x : Int × List Int) (E : List Ent) (w : World) (h1 : IntAt w a1 m1 x.2) (h2 : IntAt w a2 m2 x.2) (g1 : EntAt w b1 E.length (flatE E)) (g2 : EntAt w b2 E.length (flatE E)) :
    Calls Tryz.prog 9 #[.agg #[.bool nw, .int .i64 x.1, .slice a1 m1 r1, .slice b1 E.length d1], .agg #[.bool nw, .int .i64 x.1, .slice a2 m2 r2, .slice b2 E.length d2]] w fun e w' => e = .returned (.bool true) ∧ Below w.heap.size w w' := by
  have H1 : Hid (IntAt w a1 m1 x.2) := h1
  have H2 : Hid (IntAt w a2 m2 x.2) := h2
  have G1 : Hid (EntAt w b1 E.length (flatE E)) := g1
  have G2 : Hid (EntAt w b2 E.length (flatE E)) := g2
  clear h1 h2 g1 g2
  have hnw : (nw == nw) = true := by simp
  go_enter Tryz.func9, Tryz.ntmps9
  go_wp2_with fail
  obtain ⟨W, hW⟩ : ∃ W, (w.alloc (.cells #[.bool nw, .int .i64 x.1, .slice a1 m1 r1, .slice b1 E.length d1] 36)).alloc (.cells #[.bool nw, .int .i64 x.1, .slice a2 m2 r2, .slice b2 E.length d2] 36) = W := ⟨_, rfl⟩
  have hb0 : Below w.heap.size w W := by rw [← hW]; exact ((Below.refl _ w).alloc (Nat.le_refl _) _).alloc (by simp) _
  have R1 : Hid (Box W w.heap.size #[.bool nw, .int .i64 x.1, .slice a1 m1 r1, .slice b1 E.length d1] 36) := by rw [← hW]; exact (box_of w _ _).alloc _
  have R2 : Hid (Box W (w.heap.size + 1) #[.bool nw, .int .i64 x.1, .slice a2 m2 r2, .slice b2 E.length d2] 36) := by
    have := box_of (w.alloc (.cells #[.bool nw, .int .i64 x.1, .slice a1 m1 r1, .slice b1 E.length d1] 36)) #[.bool nw, .int .i64 x.1, .slice a2 m2 r2, .slice b2 E.length d2] 36
    rw [hW] at this
    simp at this
    exact this
  rw [hW]
  clear hW
  refine (specResSame_any a1 a2 m1 m2 r1 r2 x.1 x.1 x.2 x.2 _ (H1.out.below hb0 (Nat.le_refl _)) (H2.out.below hb0 (Nat.le_refl _))).mono ?_
  rintro e w1 ⟨rfl, hb1⟩
  rw [show decide (x.1 = x.1 ∧ x.2 = x.2) = true from decide_eq_true ⟨rfl, rfl⟩]
  have HB : Hid (Below w.heap.size w w1) := hb0.trans (hb1.mono hb0.size)
  obtain ⟨c0, c1, c2, c3⟩ := (R1.out.below hb1 R1.out.lt).c4
  obtain ⟨f0, f1, f2, f3⟩ := (R2.out.below hb1 R2.out.lt).c4
  clear hb0 hb1
  go_wp2_with fail
  refine (sameEntries_same b1 b2 E.length d1 d2 _ _ (G1.out.below HB.out (Nat.le_refl _)) (G2.out.below HB.out (Nat.le_refl _))).mono ?_
  rintro e w2 ⟨rfl, hb2⟩
  have hall : Below w.heap.size w w2 := HB.out.trans (hb2.mono HB.out.size)
  clear hb2
  go_wp2
  go_ret
  exact ⟨rfl, hall⟩
def Free (y0 y1 y2 y3 n : Int) : Prop := n = 0 ∨ ((1 ≤ n ∧ n ≤ 6) ∧ y0 ≠ n ∧ y1 ≠ n ∧ y2 ≠ n ∧ y3 ≠ n)
section
variable {y0 y1 y2 y3 n u : Int}
theorem own_put0 (h4 : OkFour y0 y1 y2 y3) (hf : Free y0 y1 y2 y3 n) (hu : 1 ≤ u ∧ u ≤ 6) : ownW n y1 y2 y3 u = if u = n then 1 else if u = y0 then 0 else ownW y0 y1 y2 y3 u := by
  unfold OkFour at h4
  unfold Free at hf
  by_cases e1 : u = n
  · rw [if_pos e1]; unfold ownW; rw [if_pos e1.symm]
  · rw [if_neg e1]
    by_cases e2 : u = y0
    · rw [if_pos e2]; unfold ownW
      rw [if_neg (by omega), if_neg (by omega), if_neg (by omega), if_neg (by omega)]
    · rw [if_neg e2]; unfold ownW
      rw [if_neg (by omega), if_neg (show ¬ y0 = u by omega)]
theorem own_put1 (h4 : OkFour y0 y1 y2 y3) (hf : Free y0 y1 y2 y3 n) (hu : 1 ≤ u ∧ u ≤ 6) : ownW y0 n y2 y3 u = if u = n then 2 else if u = y1 then 0 else ownW y0 y1 y2 y3 u := by
  unfold OkFour at h4
  unfold Free at hf
  by_cases e1 : u = n
  · rw [if_pos e1]; unfold ownW; rw [if_neg (by omega), if_pos e1.symm]
  · rw [if_neg e1]
    by_cases e2 : u = y1
    · rw [if_pos e2]; unfold ownW
      rw [if_neg (by omega), if_neg (by omega), if_neg (by omega), if_neg (by omega)]
    · rw [if_neg e2]; unfold ownW
      rw [if_neg (show ¬ n = u by omega), if_neg (show ¬ y1 = u by omega)]
theorem own_put2 (h4 : OkFour y0 y1 y2 y3) (hf : Free y0 y1 y2 y3 n) (hu : 1 ≤ u ∧ u ≤ 6) : ownW y0 y1 n y3 u = if u = n then 3 else if u = y2 then 0 else ownW y0 y1 y2 y3 u := by
  unfold OkFour at h4
  unfold Free at hf
  by_cases e1 : u = n
  · rw [if_pos e1]; unfold ownW; rw [if_neg (by omega), if_neg (by omega), if_pos e1.symm]
  · rw [if_neg e1]
    by_cases e2 : u = y2
    · rw [if_pos e2]; unfold ownW
      rw [if_neg (by omega), if_neg (by omega), if_neg (by omega), if_neg (by omega)]
    · rw [if_neg e2]; unfold ownW
      rw [if_neg (show ¬ n = u by omega), if_neg (show ¬ y2 = u by omega)]
theorem own_put3 (h4 : OkFour y0 y1 y2 y3) (hf : Free y0 y1 y2 y3 n) (hu : 1 ≤ u ∧ u ≤ 6) : ownW y0 y1 y2 n u = if u = n then 4 else if u = y3 then 0 else ownW y0 y1 y2 y3 u := by
  unfold OkFour at h4
  unfold Free at hf
  by_cases e1 : u = n
  · rw [if_pos e1]; unfold ownW; rw [if_neg (by omega), if_neg (by omega), if_neg (by omega), if_pos e1.symm]
  · rw [if_neg e1]
    by_cases e2 : u = y3
    · rw [if_pos e2]; unfold ownW
      rw [if_neg (by omega), if_neg (by omega), if_neg (by omega), if_neg (by omega)]
    · rw [if_neg e2]; unfold ownW
      rw [if_neg (show ¬ n = u by omega), if_neg (show ¬ y3 = u by omega)]
end
def ownX (xs : List Int) (u : Int) : Int := ownW (xs.getD 0 0) (xs.getD 1 0) (xs.getD 2 0) (xs.getD 3 0) u
def clsX (xs : List Int) (c : Int) : Int := clsW (xs.getD 0 0) (xs.getD 1 0) (xs.getD 2 0) (xs.getD 3 0) c
theorem wordF_o {xs : List Int} {st u : Int} (hu : 1 ≤ u ∧ u ≤ 6) : wordF xs st (u + 3) = ownX xs u := by
  have h : u = 1 ∨ u = 2 ∨ u = 3 ∨ u = 4 ∨ u = 5 ∨ u = 6 := by omega
  rcases h with rfl | rfl | rfl | rfl | rfl | rfl <;> rfl
theorem wordF_c {xs : List Int} {st c : Int} (hc : 0 ≤ c ∧ c ≤ 2) : wordF xs st (c + 10) = clsX xs c := by
  have h : c = 0 ∨ c = 1 ∨ c = 2 := by omega
  rcases h with rfl | rfl | rfl <;> rfl
theorem wordF_v {xs : List Int} {st u : Int} (hu : 1 ≤ u ∧ u ≤ 6) : wordF xs st (u + 13) = if ownX xs u < st then ownX xs u else 0 := by
  have h : u = 1 ∨ u = 2 ∨ u = 3 ∨ u = 4 ∨ u = 5 ∨ u = 6 := by omega
  rcases h with rfl | rfl | rfl | rfl | rfl | rfl <;> rfl
structure Turns (xs zs : List Int) (k h n : Int) : Prop where
  row : ∀ j, 0 ≤ j ∧ j ≤ 3 → zs.getD j.toNat 0 = if j = k then n else xs.getD j.toNat 0
  own : ∀ u, 1 ≤ u ∧ u ≤ 6 → ownX zs u = if u = n then k + 1 else if u = h then 0 else ownX xs u
  cls : ∀ c, clsX zs c = clsX xs c - bitW h c + bitW n c
  old : 1 ≤ h ∧ h ≤ 6 → ownX xs h = k + 1
  new : 1 ≤ n ∧ n ≤ 6 → ownX xs n = 0
theorem turns_of {xs : List Int} {st k n : Int} (hok : OkRows xs st) (hk : 0 ≤ k ∧ k ≤ 3) (hf : Free (xs.getD 0 0) (xs.getD 1 0) (xs.getD 2 0) (xs.getD 3 0) n) : Turns xs (xs.set k.toNat n) k (xs.getD k.toNat 0) n := by
  obtain ⟨y0, y1, y2, y3, rfl⟩ := four_of hok.1
  have h4 := ((okFour_iff y0 y1 y2 y3 st).1 hok).2
  have hf' : Free y0 y1 y2 y3 n := hf
  have hk4 : k = 0 ∨ k = 1 ∨ k = 2 ∨ k = 3 := by omega
  have hrow : ∀ (k j : Int), 0 ≤ k ∧ k ≤ 3 → 0 ≤ j ∧ j ≤ 3 → ([y0, y1, y2, y3].set k.toNat n).getD j.toNat 0 = if j = k then n else [y0, y1, y2, y3].getD j.toNat 0 := by
    intro k j hk hj
    have hk4 : k = 0 ∨ k = 1 ∨ k = 2 ∨ k = 3 := by omega
    have hj4 : j = 0 ∨ j = 1 ∨ j = 2 ∨ j = 3 := by omega
    rcases hk4 with rfl | rfl | rfl | rfl <;> rcases hj4 with rfl | rfl | rfl | rfl <;> rfl
  have hnew : 1 ≤ n ∧ n ≤ 6 → ownX [y0, y1, y2, y3] n = 0 := fun hn => by
    unfold Free at hf'
    show ownW y0 y1 y2 y3 n = 0
    unfold ownW
    rw [if_neg (by omega), if_neg (by omega), if_neg (by omega), if_neg (by omega)]
  refine ⟨fun j hj => hrow k j hk hj, ?_, ?_, ?_, hnew⟩
  · intro u hu
    rcases hk4 with rfl | rfl | rfl | rfl
    · exact own_put0 h4 hf' hu
    · exact own_put1 h4 hf' hu
    · exact own_put2 h4 hf' hu
    · exact own_put3 h4 hf' hu
  · intro c
    rcases hk4 with rfl | rfl | rfl | rfl
    · show clsW n y1 y2 y3 c = clsW y0 y1 y2 y3 c - bitW y0 c + bitW n c; unfold clsW; omega
    · show clsW y0 n y2 y3 c = clsW y0 y1 y2 y3 c - bitW y1 c + bitW n c; unfold clsW; omega
    · show clsW y0 y1 n y3 c = clsW y0 y1 y2 y3 c - bitW y2 c + bitW n c; unfold clsW; omega
    · show clsW y0 y1 y2 n c = clsW y0 y1 y2 y3 c - bitW y3 c + bitW n c; unfold clsW; omega
  · intro hh
    unfold OkFour at h4
    rcases hk4 with rfl | rfl | rfl | rfl
    · show ownW y0 y1 y2 y3 y0 = 1; unfold ownW; rw [if_pos rfl]
    · have hh' : 1 ≤ y1 ∧ y1 ≤ 6 := hh
      show ownW y0 y1 y2 y3 y1 = 2; unfold ownW; rw [if_neg (by omega), if_pos rfl]
    · have hh' : 1 ≤ y2 ∧ y2 ≤ 6 := hh
      show ownW y0 y1 y2 y3 y2 = 3; unfold ownW; rw [if_neg (by omega), if_neg (by omega), if_pos rfl]
    · have hh' : 1 ≤ y3 ∧ y3 ≤ 6 := hh
      show ownW y0 y1 y2 y3 y3 = 4; unfold ownW; rw [if_neg (by omega), if_neg (by omega), if_neg (by omega), if_pos rfl]
theorem places {p : Int} (hp : 0 ≤ p ∧ p ≤ 19) : (∃ j, (0 ≤ j ∧ j ≤ 3) ∧ p = j) ∨ (∃ u, (1 ≤ u ∧ u ≤ 6) ∧ p = u + 3) ∨ (∃ c, (0 ≤ c ∧ c ≤ 2) ∧ p = c + 10) ∨ p = 13 ∨ ∃ u, (1 ≤ u ∧ u ≤ 6) ∧ p = u + 13 := by
  by_cases h1 : p ≤ 3
  · exact .inl ⟨p, by omega, rfl⟩
  by_cases h2 : p ≤ 9
  · exact .inr (.inl ⟨p - 3, by omega, by omega⟩)
  by_cases h3 : p ≤ 12
  · exact .inr (.inr (.inl ⟨p - 10, by omega, by omega⟩))
  by_cases h4 : p = 13
  · exact .inr (.inr (.inr (.inl h4)))
  · exact .inr (.inr (.inr (.inr ⟨p - 13, by omega, by omega⟩)))
end
end Go.Proofs.YtenlapppaimkkabGreatDoor
