/- Texts joined: ImplBn. -/
import Derived.Test.YtmgofehafjogfaaSH08
import Derived.Test.YtmgofehafjogfaaSH09
import Derived.Test.YtmgofehafjogfaaSH01
import Derived.RegionTactic
import Derived.Deep.RegionHeld3
import Derived.Deep.Cut
set_option maxHeartbeats 8000000
set_option maxRecDepth 100000
namespace Go.Proofs.Ytmgofehafjogfaa
section
open Go.ChangeShapes Go.WideShapes Go.ChangeAt Go.RowKit Go.Maps
theorem noneN (v : Value) : v.ownBlock = none ∨ v.ownBlock ≠ none := by
  cases v.ownBlock with
  | none => exact .inl rfl
  | some g => exact .inr (by simp)
theorem keptN {w w' : World} {base b n : Nat} {D : DataW Unit} (h : w.ownsGroups Try.prog 9 base 3 .i64 b n D) (hg : w.grownBy w' none) : w'.ownsGroups Try.prog 9 base 3 .i64 b n D :=
  h.kept hg (by simp) fun _ _ _ x _ => noneN x.val
theorem drewN (w : World) : w.grownBy w.drew none := ⟨rfl, rfl, rfl, Nat.le_refl _, fun _ _ _ => rfl⟩
theorem byNameCol_any (a : Option Addr) (n c : Nat) (L : List Col3) (w : World) (h : ColsAt w a n L) (hsz : ∀ x ∈ L, x.1.size ≤ 1048576) :
    Calls Try.prog 60 #[.slice a n c] w fun e w' => (e = .returned (.map (some w.heap.size)) ∧ ∃ D : DataW Unit, w'.ownsGroups Try.prog 9 (w.heap.size + 1) 3 .i64 w.heap.size n D ∧ ND D (posN (L.map (·.1)) n)) ∧ Below w.heap.size w w' := by
  obtain ⟨nm, hnm⟩ : ∃ nm, L.map (·.1) = nm := ⟨_, rfl⟩
  rw [hnm]
  have HNMS : Hid (∀ (j : Nat) x, L[j]? = some x → nm.getD j ⟨#[]⟩ = x.1) := fun j x hj => by
    rw [← hnm, List.getD, List.getElem?_map, hj]
    rfl
  have HA : Hid (ColsAt w a n L) := h
  have HSZS : Hid (∀ x ∈ L, x.1.size ≤ 1048576) := hsz
  have hl := h.1
  have hn := h.2.1
  clear hnm h hsz
  have hmm := @run_makeMap Try.prog
  go_enter Try.func60, Try.ntmps60
  go_wp2
  go_loopw [9] (fun i wr => ∃ k : Nat, k ≤ n ∧ i = .int .i64 (k : Int) ∧ ∃ D : DataW Unit, wr.ownsGroups Try.prog 9 (w.heap.size + 1) 3 .i64 w.heap.size k D ∧ ND D (posN nm k) ∧ Below w.heap.size w wr ∧ w.heap.size + 1 ≤ wr.heap.size) (fun i _ => n - (intOf i).toNat)
  case atStart => exact ⟨0, Nat.zero_le _, rfl, .map [], World.ownsGroups_made _ _ _ _ _, ND_zero _, (Below.refl _ _).alloc (Nat.le_refl _) _, by simp⟩
  case round =>
    obtain ⟨k, hk, rfl, D, hown, hnd, hnx, hws⟩ := hrel
    have HND : Hid (ND D (posN nm k)) := hnd
    have HOR : Hid (wr.ownsGroups Try.prog 9 (w.heap.size + 1) 3 .i64 w.heap.size k D) := hown
    have HBR : Hid (Below w.heap.size w wr) := hnx
    clear hnd hown hnx
    by_cases hlt : k < n
    · rcases (HA.out.below HBR.out (Nat.le_refl _)).2.2 with h0 | ⟨p1, o1, rfl, g1⟩
      · omega
      obtain ⟨x, hx⟩ : ∃ x, L[k]? = some x := ⟨_, List.getElem?_eq_getElem (by omega)⟩
      obtain ⟨e0, e1, e2⟩ := g1 k x hx
      have HNM : Hid (nm.getD k ⟨#[]⟩ = x.1) := HNMS.out k x hx
      have HSZ : Hid (x.1.size ≤ maxLen) := Nat.le_trans (HSZS.out x (List.mem_of_getElem? hx)) (by unfold maxLen; omega)
      clear g1 hx
      obtain ⟨s, k1, fl⟩ := x
      dsimp only at e0 e1 e2
      dsimp only at HNM HSZ
      have hk0 : (0 : Int) ≤ (k : Int) := by omega
      have hk1 : (k : Int) < (n : Int) := by omega
      obtain ⟨r, hr⟩ : ∃ r, wr.heap.size = r := ⟨_, rfl⟩
      obtain ⟨W, hW⟩ : ∃ W, wr.alloc (.cells #[.string s, .int .i64 k1, .bool fl] 75) = W := ⟨_, rfl⟩
      have HX0 : Hid (Box W r #[.string s, .int .i64 k1, .bool fl] 75) := by rw [← hW, ← hr]; exact box_of wr _ _
      have HGW : Hid (wr.grownBy W none) := by rw [← hW]; exact World.grownBy_alloc _ _ _
      have HW : Hid (wr.alloc (.cells #[.string s, .int .i64 k1, .bool fl] 75) = W) := hW
      have HRR : Hid (w.heap.size + 1 ≤ r) := by rw [← hr]; exact hws
      have HRQ : Hid (wr.heap.size = r) := hr
      clear hW hws hr
      have hcm := fun z => callCol_any s k1 fl z
      go_upto_region 5 with (fail)
      rw [HW.out, HRQ.out]
      obtain ⟨wd, hwd⟩ : ∃ wd, W.drew = wd := ⟨_, rfl⟩
      have HGT : Hid (wr.grownBy wd none) := by rw [← hwd]; exact HGW.out.trans (drewN _)
      have HXd : Hid (Box wd r #[.string s, .int .i64 k1, .bool fl] 75) := by rw [← hwd]; exact HX0.out.drew
      have HOWN : Hid (wd.ownsGroups Try.prog 9 (w.heap.size + 1) 3 .i64 w.heap.size k D) := keptN HOR.out HGT.out
      have HSH : Hid (wd.Shuns w.heap.size (fun g => g = r)) := (World.Shuns.reno (No := fun _ => False) (fun _ _ _ _ _ _ _ h => h) HOR.out (fun g e => .inr (by have := HRQ.out; omega))).kept HGT.out (by have := HRR.out; have := HRQ.out; omega) (by simp)
      have HLT : Hid (w.heap.size < wd.heap.size) := by have := HGT.out.size; have := HRR.out; have := HRQ.out; show _ < _; omega
      have HBS : Hid (w.heap.size + 1 ≤ wd.heap.size) := HLT.out
      have HBW : Hid (Below w.heap.size w wd) := HBR.out.grown HGT.out HBR.out.size (fun k e => by cases e)
      have HGd : Hid (wd.grownBy wd none) := ⟨rfl, rfl, rfl, Nat.le_refl _, fun _ _ _ => rfl⟩
      refine wp_region_held_drew (S := fun z => z.cell? ⟨r, 0, none⟩ = some (.string s) ∧ z.cell? ⟨r, 1, none⟩ = some (.int .i64 k1) ∧ z.cell? ⟨r, 2, none⟩ = some (.bool fl)) (by kernel_rfl) ⟨HX0.out.drew.cell 0, HX0.out.drew.cell 1, HX0.out.drew.cell 2⟩ (fun hHeld => ?_)
      rw [hwd] at hHeld ⊢
      refine wpAnyH_take (i := 0) (oi := _) (v := ?v1_0) (by rw [List.getElem?_toArray]; exact rfl) (by kernel_rfl) (by kernel_rfl) (by kernel_rfl) (by intro _ _ _ h; exact h) (Or.inl ⟨by kernel_rfl, ?y1_0⟩) hHeld ?_
      case y1_0 =>
        intro w hSw
        obtain ⟨s0, s1, s2⟩ := hSw
        go_simp
        (try with_reducible rfl)
      (try simp only [Act.put, List.setIfInBounds_toArray, List.set_cons_zero, List.set_cons_succ])
      refine wpAnyH_take (i := 1) (oi := _) (v := .agg #[.string s, .int .i64 k1, .bool fl]) (by rw [List.getElem?_toArray]; exact rfl) (by kernel_rfl) (by kernel_rfl) (by kernel_rfl) (by intro _ _ _ h; exact h) (Or.inl ⟨by kernel_rfl, ?y1_1⟩) hHeld ?_
      case y1_1 =>
        intro w hSw
        obtain ⟨s0, s1, s2⟩ := hSw
        go_simp
        (try with_reducible rfl)
      (try simp only [Act.put, List.setIfInBounds_toArray, List.set_cons_zero, List.set_cons_succ])
      refine wpAnyH_take (i := 2) (oi := _) (v := .iface 75 (.agg #[.string s, .int .i64 k1, .bool fl])) (by rw [List.getElem?_toArray]; exact rfl) (by kernel_rfl) (by kernel_rfl) (by kernel_rfl) (by intro _ _ _ h; exact h) (Or.inl ⟨by kernel_rfl, ?y1_2⟩) hHeld ?_
      case y1_2 =>
        intro w hSw
        obtain ⟨s0, s1, s2⟩ := hSw
        go_simp
        (try with_reducible rfl)
      (try simp only [Act.put, List.setIfInBounds_toArray, List.set_cons_zero, List.set_cons_succ])
      refine wpAnyH_take (i := 4) (oi := _) (v := ?v1_4) (by rw [List.getElem?_toArray]; exact rfl) (by kernel_rfl) (by kernel_rfl) (by kernel_rfl) (by intro _ _ _ h; exact h) (Or.inl ⟨by kernel_rfl, ?y1_4⟩) hHeld ?_
      case y1_4 =>
        intro w hSw
        obtain ⟨s0, s1, s2⟩ := hSw
        go_simp
        (try with_reducible rfl)
      (try simp only [Act.put, List.setIfInBounds_toArray, List.set_cons_zero, List.set_cons_succ])
      refine wpAnyH_take (i := 5) (oi := _) (v := .agg #[.string s, .int .i64 k1, .bool fl]) (by rw [List.getElem?_toArray]; exact rfl) (by kernel_rfl) (by kernel_rfl) (by kernel_rfl) (by intro _ _ _ h; exact h) (Or.inl ⟨by kernel_rfl, ?y1_5⟩) hHeld ?_
      case y1_5 =>
        intro w hSw
        obtain ⟨s0, s1, s2⟩ := hSw
        go_simp
        (try with_reducible rfl)
      (try simp only [Act.put, List.setIfInBounds_toArray, List.set_cons_zero, List.set_cons_succ])
      refine wpAnyH_take (i := 6) (oi := _) (v := .iface 75 (.agg #[.string s, .int .i64 k1, .bool fl])) (by rw [List.getElem?_toArray]; exact rfl) (by kernel_rfl) (by kernel_rfl) (by kernel_rfl) (by intro _ _ _ h; exact h) (Or.inl ⟨by kernel_rfl, ?y1_6⟩) hHeld ?_
      case y1_6 =>
        intro w hSw
        obtain ⟨s0, s1, s2⟩ := hSw
        go_simp
        (try with_reducible rfl)
      (try simp only [Act.put, List.setIfInBounds_toArray, List.set_cons_zero, List.set_cons_succ])
      refine wpAnyH_take (i := 9) (oi := _) (v := .int .i64 (k : Int)) (by rw [List.getElem?_toArray]; exact rfl) (by kernel_rfl) (by kernel_rfl) (by kernel_rfl) (by intro _ _ _ h; exact h) (Or.inl ⟨by kernel_rfl, ?y1_9⟩) hHeld ?_
      case y1_9 =>
        intro w hSw
        obtain ⟨s0, s1, s2⟩ := hSw
        go_simp
        (try with_reducible rfl)
      (try simp only [Act.put, List.setIfInBounds_toArray, List.set_cons_zero, List.set_cons_succ])
      refine wpAnyH_ready (rs := [3, 10]) (by kernel_rfl) (by simp) ?_
      refine AllReadyH.cons (o := _) (by rw [List.getElem?_toArray]; exact rfl) (fun K hK => ?_) (AllReadyH.cons (o := _) (by rw [List.getElem?_toArray]; exact rfl) (fun K hK => ?_) AllReadyH.nil)
      · rw [if_pos (by kernel_rfl)]
        go_simp
        refine (nameCol_any s k1 fl _).mono ?_
        rintro e y1 ⟨rfl, hb⟩
        have HGy1 : Hid (wd.grownBy y1 none) := HGd.out.trans (Below.grownN hb)
        have HXy1 : Hid (Box y1 r #[.string s, .int .i64 k1, .bool fl] 75) := HXd.out.below hb HXd.out.lt
        clear hb
        go_simp
        refine hK.out _ _ ⟨HXy1.out.cell 0, HXy1.out.cell 1, HXy1.out.cell 2⟩ (fun hHeld => ?_)
        clear hK K
        (try simp only [Act.put, List.setIfInBounds_toArray, List.set_cons_zero, List.set_cons_succ])
        refine wpAnyH_ready (rs := [7, 10]) (by kernel_rfl) (by simp) ?_
        refine AllReadyH.cons (o := _) (by rw [List.getElem?_toArray]; exact rfl) (fun K hK => ?_) (AllReadyH.cons (o := _) (by rw [List.getElem?_toArray]; exact rfl) (fun K hK => ?_) AllReadyH.nil)
        · rw [if_pos (by kernel_rfl)]
          go_simp
          refine (nameCol_any s k1 fl _).mono ?_
          rintro e y2 ⟨rfl, hb⟩
          have HGy2 : Hid (wd.grownBy y2 none) := HGy1.out.trans (Below.grownN hb)
          have HXy2 : Hid (Box y2 r #[.string s, .int .i64 k1, .bool fl] 75) := HXy1.out.below hb HXy1.out.lt
          clear hb
          go_simp
          refine hK.out _ _ ⟨HXy2.out.cell 0, HXy2.out.cell 1, HXy2.out.cell 2⟩ (fun hHeld => ?_)
          clear hK K
          (try simp only [Act.put, List.setIfInBounds_toArray, List.set_cons_zero, List.set_cons_succ])
          refine wpAnyH_ready (rs := [8, 10]) (by kernel_rfl) (by simp) ?_
          refine AllReadyH.cons (o := _) (by rw [List.getElem?_toArray]; exact rfl) (fun K hK => ?_) (AllReadyH.cons (o := _) (by rw [List.getElem?_toArray]; exact rfl) (fun K hK => ?_) AllReadyH.nil)
          · refine step_lookN _ rfl _ _ rfl (w.heap.size + 1) w.heap.size k D rfl (keptN HOWN.out HGy2.out) (by unfold maxLen; omega) s rfl HSZ.out ?_
            intro v zs hat hoi hzl hback hsh
            have HVR : Hid (∀ g, v.ownBlock = some g → ¬ g = r) := hsh (fun g => g = r) (HSH.out.kept HGy2.out HLT.out (by simp))
            have HAT : Hid (D.atKey (.string s.data.toList) .nil = rowDatum .i64 v zs) := hat
            have HOI : Hid (y2.ownsInts (w.heap.size + 1) 3 .i64 v zs) := hoi
            have HBK : Hid (y2.groupBack Try.prog 85 9 (w.heap.size + 1) 3 .i64 w.heap.size k D (.string s) (.string s.data.toList) v) := hback
            have HZL : Hid (zs.length ≤ k) := hzl
            clear hat hoi hback hsh hzl
            have HLy2 : Hid (y2.grownBy y2 none) := ⟨rfl, rfl, rfl, Nat.le_refl _, fun _ _ _ => rfl⟩
            refine hK.out _ _ ⟨HXy2.out.cell 0, HXy2.out.cell 1, HXy2.out.cell 2⟩ (fun hHeld => ?_)
            clear hK K
            (try simp only [Act.put, List.setIfInBounds_toArray, List.set_cons_zero, List.set_cons_succ])
            refine wpAnyH_ready (rs := [10]) (by kernel_rfl) (by simp) ?_
            refine AllReadyH.cons (o := _) (by rw [List.getElem?_toArray]; exact rfl) (fun K hK => ?_) AllReadyH.nil
            rw [if_pos (by kernel_rfl)]
            go_simp
            obtain ⟨y4, hy4⟩ : ∃ q, y2.alloc (.cells #[.int .i64 (k : Int)] 3) = q := ⟨_, rfl⟩
            obtain ⟨g, hg⟩ : ∃ g, y2.heap.size = g := ⟨_, rfl⟩
            have HGy4 : Hid (wd.grownBy y4 none) := by rw [← hy4]; exact HGy2.out.trans (World.grownBy_alloc _ _ _)
            have HXy4 : Hid (Box y4 r #[.string s, .int .i64 k1, .bool fl] 75) := by rw [← hy4]; exact HXy2.out.alloc _
            have HSy4 : Hid (y4.cell? ⟨g, 0, none⟩ = some (.int .i64 (k : Int)) ∧ g < y4.heap.size) := by rw [← hy4, ← hg]; exact ⟨(box_of _ _ _).cell 0, by simp⟩
            have HLy4 : Hid (y2.grownBy y4 none) := by rw [← hy4]; exact World.grownBy_alloc _ _ _
            rw [hy4, hg]
            clear hy4 hg
            refine hK.out _ _ ⟨HXy4.out.cell 0, HXy4.out.cell 1, HXy4.out.cell 2⟩ (fun hHeld => ?_)
            clear hK K
            (try simp only [Act.put, List.setIfInBounds_toArray, List.set_cons_zero, List.set_cons_succ])
            refine wpAnyH_ready (rs := [11]) (by kernel_rfl) (by simp) ?_
            refine AllReadyH.cons (o := _) (by rw [List.getElem?_toArray]; exact rfl) (fun K hK => ?_) AllReadyH.nil
            refine step_appN1 _ rfl _ _ rfl (w.heap.size + 1) v zs rfl (HOI.out.kept HLy4.out (noneN _)) ⟨g, 0, none⟩ 1 (k : Int) rfl HSy4.out.1 (WalkArith.wf_i64 (by omega)) (by have := HZL.out; omega) (Nat.le_trans HBS.out (HGy4.out.size)) ?_
            intro v' y5 hown' hgrow hloc
            have HXy5 : Hid (Box y5 r #[.string s, .int .i64 k1, .bool fl] 75) := (hgrow.block r HXy4.out.lt (fun e => HVR.out r e.symm rfl)).trans HXy4.out
            have HO2 : Hid (y5.ownsInts (w.heap.size + 1) 3 .i64 v' (zs ++ [(k : Int)])) := hown'
            have HGR : Hid (y2.grownBy y5 v.ownBlock) := (HLy4.out.but _).trans hgrow
            have HLO : Hid (v'.ownBlock = v.ownBlock ∨ ∃ g, v'.ownBlock = some g ∧ y2.heap.size ≤ g) := hloc.imp id fun h => ⟨_, h, HLy4.out.size⟩
            clear hown' hgrow hloc
            refine hK.out _ _ ⟨HXy5.out.cell 0, HXy5.out.cell 1, HXy5.out.cell 2⟩ (fun hHeld => ?_)
            clear hK K
            (try simp only [Act.put, List.setIfInBounds_toArray, List.set_cons_zero, List.set_cons_succ])
            refine wpAnyH_ready (rs := [12]) (by kernel_rfl) (by simp) ?_
            refine AllReadyH.cons (o := _) (by rw [List.getElem?_toArray]; exact rfl) (fun K hK => ?_) AllReadyH.nil
            refine step_storeN _ rfl _ _ _ rfl HBK.out rfl rfl rfl HGR.out HO2.out (by have := HZL.out; rw [List.length_append]; show _ + 1 ≤ _; omega) HLO.out ?_
            intro y6 hown2 hgrow2
            have HXy6 : Hid (Box y6 r #[.string s, .int .i64 k1, .bool fl] 75) := (hgrow2.block r HXy5.out.lt (fun e => by cases e; have := HRR.out; omega)).trans HXy5.out
            have HO3 : Hid (y6.ownsGroups Try.prog 9 (w.heap.size + 1) 3 .i64 w.heap.size (k + 1) (D.put (.string s.data.toList) (rowDatum .i64 v' (zs ++ [(k : Int)])))) := hown2
            have HG3 : Hid (y5.grownBy y6 (some w.heap.size)) := hgrow2
            clear hown2 hgrow2
            refine hK.out _ _ ⟨HXy6.out.cell 0, HXy6.out.cell 1, HXy6.out.cell 2⟩ (fun hHeld => ?_)
            clear hK K
            (try simp only [Act.put])
            refine wpAnyH_done (by kernel_rfl) ?_ _
            (try simp only [Exit.then])
            go_wp2
            have hz2 : zs = posN nm k s.data.toList := ND_zs HND.out HAT.out HOI.out
            have hput : rowDatum (H := Unit) .i64 v' (zs ++ [(k : Int)]) = .slice (lits .i64 (posN nm k s.data.toList ++ [(k : Int)])) [] := by rw [HO2.out.datum_pos (by simp), hz2]
            have hown3 := HO3.out
            rw [hput] at hown3
            have hb3 : Below w.heap.size w y6 := (HBW.out.grown HGy2.out HBW.out.size (fun k e => by cases e)).groups HOI.out HGR.out HG3.out (Nat.le_trans HBW.out.size HGy2.out.size) (Nat.le_succ _) (Nat.le_refl _)
            exact ⟨⟨k + 1, by omega, by go_num, _, hown3, ND_step HND.out HNM.out HSZ.out, hb3, Nat.le_trans HBS.out (Nat.le_trans HGy2.out.size (Nat.le_trans HGR.out.size HG3.out.size))⟩, by simp [intOf]; omega⟩
          · rw [if_pos (by kernel_rfl)]
            go_simp
            obtain ⟨y3, hy3⟩ : ∃ q, y2.alloc (.cells #[.int .i64 (k : Int)] 3) = q := ⟨_, rfl⟩
            obtain ⟨g, hg⟩ : ∃ g, y2.heap.size = g := ⟨_, rfl⟩
            have HGy3 : Hid (wd.grownBy y3 none) := by rw [← hy3]; exact HGy2.out.trans (World.grownBy_alloc _ _ _)
            have HXy3 : Hid (Box y3 r #[.string s, .int .i64 k1, .bool fl] 75) := by rw [← hy3]; exact HXy2.out.alloc _
            have HSy3 : Hid (y3.cell? ⟨g, 0, none⟩ = some (.int .i64 (k : Int)) ∧ g < y3.heap.size) := by rw [← hy3, ← hg]; exact ⟨(box_of _ _ _).cell 0, by simp⟩
            rw [hy3, hg]
            clear hy3 hg
            refine hK.out _ _ ⟨HXy3.out.cell 0, HXy3.out.cell 1, HXy3.out.cell 2⟩ (fun hHeld => ?_)
            clear hK K
            (try simp only [Act.put, List.setIfInBounds_toArray, List.set_cons_zero, List.set_cons_succ])
            refine wpAnyH_ready (rs := [8]) (by kernel_rfl) (by simp) ?_
            refine AllReadyH.cons (o := _) (by rw [List.getElem?_toArray]; exact rfl) (fun K hK => ?_) AllReadyH.nil
            refine step_lookN _ rfl _ _ rfl (w.heap.size + 1) w.heap.size k D rfl (keptN HOWN.out HGy3.out) (by unfold maxLen; omega) s rfl HSZ.out ?_
            intro v zs hat hoi hzl hback hsh
            have HVR : Hid (∀ g, v.ownBlock = some g → ¬ g = r) := hsh (fun g => g = r) (HSH.out.kept HGy3.out HLT.out (by simp))
            have HAT : Hid (D.atKey (.string s.data.toList) .nil = rowDatum .i64 v zs) := hat
            have HOI : Hid (y3.ownsInts (w.heap.size + 1) 3 .i64 v zs) := hoi
            have HBK : Hid (y3.groupBack Try.prog 85 9 (w.heap.size + 1) 3 .i64 w.heap.size k D (.string s) (.string s.data.toList) v) := hback
            have HZL : Hid (zs.length ≤ k) := hzl
            clear hat hoi hback hsh hzl
            have HLy3 : Hid (y3.grownBy y3 none) := ⟨rfl, rfl, rfl, Nat.le_refl _, fun _ _ _ => rfl⟩
            refine hK.out _ _ ⟨HXy3.out.cell 0, HXy3.out.cell 1, HXy3.out.cell 2⟩ (fun hHeld => ?_)
            clear hK K
            (try simp only [Act.put, List.setIfInBounds_toArray, List.set_cons_zero, List.set_cons_succ])
            refine wpAnyH_ready (rs := [11]) (by kernel_rfl) (by simp) ?_
            refine AllReadyH.cons (o := _) (by rw [List.getElem?_toArray]; exact rfl) (fun K hK => ?_) AllReadyH.nil
            refine step_appN1 _ rfl _ _ rfl (w.heap.size + 1) v zs rfl (HOI.out.kept HLy3.out (noneN _)) ⟨g, 0, none⟩ 1 (k : Int) rfl HSy3.out.1 (WalkArith.wf_i64 (by omega)) (by have := HZL.out; omega) (Nat.le_trans HBS.out (HGy3.out.size)) ?_
            intro v' y5 hown' hgrow hloc
            have HXy5 : Hid (Box y5 r #[.string s, .int .i64 k1, .bool fl] 75) := (hgrow.block r HXy3.out.lt (fun e => HVR.out r e.symm rfl)).trans HXy3.out
            have HO2 : Hid (y5.ownsInts (w.heap.size + 1) 3 .i64 v' (zs ++ [(k : Int)])) := hown'
            have HGR : Hid (y3.grownBy y5 v.ownBlock) := (HLy3.out.but _).trans hgrow
            have HLO : Hid (v'.ownBlock = v.ownBlock ∨ ∃ g, v'.ownBlock = some g ∧ y3.heap.size ≤ g) := hloc.imp id fun h => ⟨_, h, HLy3.out.size⟩
            clear hown' hgrow hloc
            refine hK.out _ _ ⟨HXy5.out.cell 0, HXy5.out.cell 1, HXy5.out.cell 2⟩ (fun hHeld => ?_)
            clear hK K
            (try simp only [Act.put, List.setIfInBounds_toArray, List.set_cons_zero, List.set_cons_succ])
            refine wpAnyH_ready (rs := [12]) (by kernel_rfl) (by simp) ?_
            refine AllReadyH.cons (o := _) (by rw [List.getElem?_toArray]; exact rfl) (fun K hK => ?_) AllReadyH.nil
            refine step_storeN _ rfl _ _ _ rfl HBK.out rfl rfl rfl HGR.out HO2.out (by have := HZL.out; rw [List.length_append]; show _ + 1 ≤ _; omega) HLO.out ?_
            intro y6 hown2 hgrow2
            have HXy6 : Hid (Box y6 r #[.string s, .int .i64 k1, .bool fl] 75) := (hgrow2.block r HXy5.out.lt (fun e => by cases e; have := HRR.out; omega)).trans HXy5.out
            have HO3 : Hid (y6.ownsGroups Try.prog 9 (w.heap.size + 1) 3 .i64 w.heap.size (k + 1) (D.put (.string s.data.toList) (rowDatum .i64 v' (zs ++ [(k : Int)])))) := hown2
            have HG3 : Hid (y5.grownBy y6 (some w.heap.size)) := hgrow2
            clear hown2 hgrow2
            refine hK.out _ _ ⟨HXy6.out.cell 0, HXy6.out.cell 1, HXy6.out.cell 2⟩ (fun hHeld => ?_)
            clear hK K
            (try simp only [Act.put])
            refine wpAnyH_done (by kernel_rfl) ?_ _
            (try simp only [Exit.then])
            go_wp2
            have hz2 : zs = posN nm k s.data.toList := ND_zs HND.out HAT.out HOI.out
            have hput : rowDatum (H := Unit) .i64 v' (zs ++ [(k : Int)]) = .slice (lits .i64 (posN nm k s.data.toList ++ [(k : Int)])) [] := by rw [HO2.out.datum_pos (by simp), hz2]
            have hown3 := HO3.out
            rw [hput] at hown3
            have hb3 : Below w.heap.size w y6 := (HBW.out.grown HGy3.out HBW.out.size (fun k e => by cases e)).groups HOI.out HGR.out HG3.out (Nat.le_trans HBW.out.size HGy3.out.size) (Nat.le_succ _) (Nat.le_refl _)
            exact ⟨⟨k + 1, by omega, by go_num, _, hown3, ND_step HND.out HNM.out HSZ.out, hb3, Nat.le_trans HBS.out (Nat.le_trans HGy3.out.size (Nat.le_trans HGR.out.size HG3.out.size))⟩, by simp [intOf]; omega⟩
        · rw [if_pos (by kernel_rfl)]
          go_simp
          obtain ⟨y2, hy2⟩ : ∃ q, y1.alloc (.cells #[.int .i64 (k : Int)] 3) = q := ⟨_, rfl⟩
          obtain ⟨g, hg⟩ : ∃ g, y1.heap.size = g := ⟨_, rfl⟩
          have HGy2 : Hid (wd.grownBy y2 none) := by rw [← hy2]; exact HGy1.out.trans (World.grownBy_alloc _ _ _)
          have HXy2 : Hid (Box y2 r #[.string s, .int .i64 k1, .bool fl] 75) := by rw [← hy2]; exact HXy1.out.alloc _
          have HSy2 : Hid (y2.cell? ⟨g, 0, none⟩ = some (.int .i64 (k : Int)) ∧ g < y2.heap.size) := by rw [← hy2, ← hg]; exact ⟨(box_of _ _ _).cell 0, by simp⟩
          rw [hy2, hg]
          clear hy2 hg
          refine hK.out _ _ ⟨HXy2.out.cell 0, HXy2.out.cell 1, HXy2.out.cell 2⟩ (fun hHeld => ?_)
          clear hK K
          (try simp only [Act.put, List.setIfInBounds_toArray, List.set_cons_zero, List.set_cons_succ])
          refine wpAnyH_ready (rs := [7]) (by kernel_rfl) (by simp) ?_
          refine AllReadyH.cons (o := _) (by rw [List.getElem?_toArray]; exact rfl) (fun K hK => ?_) AllReadyH.nil
          rw [if_pos (by kernel_rfl)]
          go_simp
          refine (nameCol_any s k1 fl _).mono ?_
          rintro e y3 ⟨rfl, hb⟩
          have HGy3 : Hid (wd.grownBy y3 none) := HGy2.out.trans (Below.grownN hb)
          have HXy3 : Hid (Box y3 r #[.string s, .int .i64 k1, .bool fl] 75) := HXy2.out.below hb HXy2.out.lt
          have HSy3 : Hid (y3.cell? ⟨g, 0, none⟩ = some (.int .i64 (k : Int)) ∧ g < y3.heap.size) := ⟨(hb.cell HSy2.out.2).trans HSy2.out.1, Nat.lt_of_lt_of_le HSy2.out.2 hb.size⟩
          clear hb
          go_simp
          refine hK.out _ _ ⟨HXy3.out.cell 0, HXy3.out.cell 1, HXy3.out.cell 2⟩ (fun hHeld => ?_)
          clear hK K
          (try simp only [Act.put, List.setIfInBounds_toArray, List.set_cons_zero, List.set_cons_succ])
          refine wpAnyH_ready (rs := [8]) (by kernel_rfl) (by simp) ?_
          refine AllReadyH.cons (o := _) (by rw [List.getElem?_toArray]; exact rfl) (fun K hK => ?_) AllReadyH.nil
          refine step_lookN _ rfl _ _ rfl (w.heap.size + 1) w.heap.size k D rfl (keptN HOWN.out HGy3.out) (by unfold maxLen; omega) s rfl HSZ.out ?_
          intro v zs hat hoi hzl hback hsh
          have HVR : Hid (∀ g, v.ownBlock = some g → ¬ g = r) := hsh (fun g => g = r) (HSH.out.kept HGy3.out HLT.out (by simp))
          have HAT : Hid (D.atKey (.string s.data.toList) .nil = rowDatum .i64 v zs) := hat
          have HOI : Hid (y3.ownsInts (w.heap.size + 1) 3 .i64 v zs) := hoi
          have HBK : Hid (y3.groupBack Try.prog 85 9 (w.heap.size + 1) 3 .i64 w.heap.size k D (.string s) (.string s.data.toList) v) := hback
          have HZL : Hid (zs.length ≤ k) := hzl
          clear hat hoi hback hsh hzl
          have HLy3 : Hid (y3.grownBy y3 none) := ⟨rfl, rfl, rfl, Nat.le_refl _, fun _ _ _ => rfl⟩
          refine hK.out _ _ ⟨HXy3.out.cell 0, HXy3.out.cell 1, HXy3.out.cell 2⟩ (fun hHeld => ?_)
          clear hK K
          (try simp only [Act.put, List.setIfInBounds_toArray, List.set_cons_zero, List.set_cons_succ])
          refine wpAnyH_ready (rs := [11]) (by kernel_rfl) (by simp) ?_
          refine AllReadyH.cons (o := _) (by rw [List.getElem?_toArray]; exact rfl) (fun K hK => ?_) AllReadyH.nil
          refine step_appN1 _ rfl _ _ rfl (w.heap.size + 1) v zs rfl (HOI.out.kept HLy3.out (noneN _)) ⟨g, 0, none⟩ 1 (k : Int) rfl HSy3.out.1 (WalkArith.wf_i64 (by omega)) (by have := HZL.out; omega) (Nat.le_trans HBS.out (HGy3.out.size)) ?_
          intro v' y5 hown' hgrow hloc
          have HXy5 : Hid (Box y5 r #[.string s, .int .i64 k1, .bool fl] 75) := (hgrow.block r HXy3.out.lt (fun e => HVR.out r e.symm rfl)).trans HXy3.out
          have HO2 : Hid (y5.ownsInts (w.heap.size + 1) 3 .i64 v' (zs ++ [(k : Int)])) := hown'
          have HGR : Hid (y3.grownBy y5 v.ownBlock) := (HLy3.out.but _).trans hgrow
          have HLO : Hid (v'.ownBlock = v.ownBlock ∨ ∃ g, v'.ownBlock = some g ∧ y3.heap.size ≤ g) := hloc.imp id fun h => ⟨_, h, HLy3.out.size⟩
          clear hown' hgrow hloc
          refine hK.out _ _ ⟨HXy5.out.cell 0, HXy5.out.cell 1, HXy5.out.cell 2⟩ (fun hHeld => ?_)
          clear hK K
          (try simp only [Act.put, List.setIfInBounds_toArray, List.set_cons_zero, List.set_cons_succ])
          refine wpAnyH_ready (rs := [12]) (by kernel_rfl) (by simp) ?_
          refine AllReadyH.cons (o := _) (by rw [List.getElem?_toArray]; exact rfl) (fun K hK => ?_) AllReadyH.nil
          refine step_storeN _ rfl _ _ _ rfl HBK.out rfl rfl rfl HGR.out HO2.out (by have := HZL.out; rw [List.length_append]; show _ + 1 ≤ _; omega) HLO.out ?_
          intro y6 hown2 hgrow2
          have HXy6 : Hid (Box y6 r #[.string s, .int .i64 k1, .bool fl] 75) := (hgrow2.block r HXy5.out.lt (fun e => by cases e; have := HRR.out; omega)).trans HXy5.out
          have HO3 : Hid (y6.ownsGroups Try.prog 9 (w.heap.size + 1) 3 .i64 w.heap.size (k + 1) (D.put (.string s.data.toList) (rowDatum .i64 v' (zs ++ [(k : Int)])))) := hown2
          have HG3 : Hid (y5.grownBy y6 (some w.heap.size)) := hgrow2
          clear hown2 hgrow2
          refine hK.out _ _ ⟨HXy6.out.cell 0, HXy6.out.cell 1, HXy6.out.cell 2⟩ (fun hHeld => ?_)
          clear hK K
          (try simp only [Act.put])
          refine wpAnyH_done (by kernel_rfl) ?_ _
          (try simp only [Exit.then])
          go_wp2
          have hz2 : zs = posN nm k s.data.toList := ND_zs HND.out HAT.out HOI.out
          have hput : rowDatum (H := Unit) .i64 v' (zs ++ [(k : Int)]) = .slice (lits .i64 (posN nm k s.data.toList ++ [(k : Int)])) [] := by rw [HO2.out.datum_pos (by simp), hz2]
          have hown3 := HO3.out
          rw [hput] at hown3
          have hb3 : Below w.heap.size w y6 := (HBW.out.grown HGy3.out HBW.out.size (fun k e => by cases e)).groups HOI.out HGR.out HG3.out (Nat.le_trans HBW.out.size HGy3.out.size) (Nat.le_succ _) (Nat.le_refl _)
          exact ⟨⟨k + 1, by omega, by go_num, _, hown3, ND_step HND.out HNM.out HSZ.out, hb3, Nat.le_trans HBS.out (Nat.le_trans HGy3.out.size (Nat.le_trans HGR.out.size HG3.out.size))⟩, by simp [intOf]; omega⟩
      · rw [if_pos (by kernel_rfl)]
        go_simp
        obtain ⟨y1, hy1⟩ : ∃ q, wd.alloc (.cells #[.int .i64 (k : Int)] 3) = q := ⟨_, rfl⟩
        obtain ⟨g, hg⟩ : ∃ g, wd.heap.size = g := ⟨_, rfl⟩
        have HGy1 : Hid (wd.grownBy y1 none) := by rw [← hy1]; exact HGd.out.trans (World.grownBy_alloc _ _ _)
        have HXy1 : Hid (Box y1 r #[.string s, .int .i64 k1, .bool fl] 75) := by rw [← hy1]; exact HXd.out.alloc _
        have HSy1 : Hid (y1.cell? ⟨g, 0, none⟩ = some (.int .i64 (k : Int)) ∧ g < y1.heap.size) := by rw [← hy1, ← hg]; exact ⟨(box_of _ _ _).cell 0, by simp⟩
        rw [hy1, hg]
        clear hy1 hg
        refine hK.out _ _ ⟨HXy1.out.cell 0, HXy1.out.cell 1, HXy1.out.cell 2⟩ (fun hHeld => ?_)
        clear hK K
        (try simp only [Act.put, List.setIfInBounds_toArray, List.set_cons_zero, List.set_cons_succ])
        refine wpAnyH_ready (rs := [3]) (by kernel_rfl) (by simp) ?_
        refine AllReadyH.cons (o := _) (by rw [List.getElem?_toArray]; exact rfl) (fun K hK => ?_) AllReadyH.nil
        rw [if_pos (by kernel_rfl)]
        go_simp
        refine (nameCol_any s k1 fl _).mono ?_
        rintro e y2 ⟨rfl, hb⟩
        have HGy2 : Hid (wd.grownBy y2 none) := HGy1.out.trans (Below.grownN hb)
        have HXy2 : Hid (Box y2 r #[.string s, .int .i64 k1, .bool fl] 75) := HXy1.out.below hb HXy1.out.lt
        have HSy2 : Hid (y2.cell? ⟨g, 0, none⟩ = some (.int .i64 (k : Int)) ∧ g < y2.heap.size) := ⟨(hb.cell HSy1.out.2).trans HSy1.out.1, Nat.lt_of_lt_of_le HSy1.out.2 hb.size⟩
        clear hb
        go_simp
        refine hK.out _ _ ⟨HXy2.out.cell 0, HXy2.out.cell 1, HXy2.out.cell 2⟩ (fun hHeld => ?_)
        clear hK K
        (try simp only [Act.put, List.setIfInBounds_toArray, List.set_cons_zero, List.set_cons_succ])
        refine wpAnyH_ready (rs := [7]) (by kernel_rfl) (by simp) ?_
        refine AllReadyH.cons (o := _) (by rw [List.getElem?_toArray]; exact rfl) (fun K hK => ?_) AllReadyH.nil
        rw [if_pos (by kernel_rfl)]
        go_simp
        refine (nameCol_any s k1 fl _).mono ?_
        rintro e y3 ⟨rfl, hb⟩
        have HGy3 : Hid (wd.grownBy y3 none) := HGy2.out.trans (Below.grownN hb)
        have HXy3 : Hid (Box y3 r #[.string s, .int .i64 k1, .bool fl] 75) := HXy2.out.below hb HXy2.out.lt
        have HSy3 : Hid (y3.cell? ⟨g, 0, none⟩ = some (.int .i64 (k : Int)) ∧ g < y3.heap.size) := ⟨(hb.cell HSy2.out.2).trans HSy2.out.1, Nat.lt_of_lt_of_le HSy2.out.2 hb.size⟩
        clear hb
        go_simp
        refine hK.out _ _ ⟨HXy3.out.cell 0, HXy3.out.cell 1, HXy3.out.cell 2⟩ (fun hHeld => ?_)
        clear hK K
        (try simp only [Act.put, List.setIfInBounds_toArray, List.set_cons_zero, List.set_cons_succ])
        refine wpAnyH_ready (rs := [8]) (by kernel_rfl) (by simp) ?_
        refine AllReadyH.cons (o := _) (by rw [List.getElem?_toArray]; exact rfl) (fun K hK => ?_) AllReadyH.nil
        refine step_lookN _ rfl _ _ rfl (w.heap.size + 1) w.heap.size k D rfl (keptN HOWN.out HGy3.out) (by unfold maxLen; omega) s rfl HSZ.out ?_
        intro v zs hat hoi hzl hback hsh
        have HVR : Hid (∀ g, v.ownBlock = some g → ¬ g = r) := hsh (fun g => g = r) (HSH.out.kept HGy3.out HLT.out (by simp))
        have HAT : Hid (D.atKey (.string s.data.toList) .nil = rowDatum .i64 v zs) := hat
        have HOI : Hid (y3.ownsInts (w.heap.size + 1) 3 .i64 v zs) := hoi
        have HBK : Hid (y3.groupBack Try.prog 85 9 (w.heap.size + 1) 3 .i64 w.heap.size k D (.string s) (.string s.data.toList) v) := hback
        have HZL : Hid (zs.length ≤ k) := hzl
        clear hat hoi hback hsh hzl
        have HLy3 : Hid (y3.grownBy y3 none) := ⟨rfl, rfl, rfl, Nat.le_refl _, fun _ _ _ => rfl⟩
        refine hK.out _ _ ⟨HXy3.out.cell 0, HXy3.out.cell 1, HXy3.out.cell 2⟩ (fun hHeld => ?_)
        clear hK K
        (try simp only [Act.put, List.setIfInBounds_toArray, List.set_cons_zero, List.set_cons_succ])
        refine wpAnyH_ready (rs := [11]) (by kernel_rfl) (by simp) ?_
        refine AllReadyH.cons (o := _) (by rw [List.getElem?_toArray]; exact rfl) (fun K hK => ?_) AllReadyH.nil
        refine step_appN1 _ rfl _ _ rfl (w.heap.size + 1) v zs rfl (HOI.out.kept HLy3.out (noneN _)) ⟨g, 0, none⟩ 1 (k : Int) rfl HSy3.out.1 (WalkArith.wf_i64 (by omega)) (by have := HZL.out; omega) (Nat.le_trans HBS.out (HGy3.out.size)) ?_
        intro v' y5 hown' hgrow hloc
        have HXy5 : Hid (Box y5 r #[.string s, .int .i64 k1, .bool fl] 75) := (hgrow.block r HXy3.out.lt (fun e => HVR.out r e.symm rfl)).trans HXy3.out
        have HO2 : Hid (y5.ownsInts (w.heap.size + 1) 3 .i64 v' (zs ++ [(k : Int)])) := hown'
        have HGR : Hid (y3.grownBy y5 v.ownBlock) := (HLy3.out.but _).trans hgrow
        have HLO : Hid (v'.ownBlock = v.ownBlock ∨ ∃ g, v'.ownBlock = some g ∧ y3.heap.size ≤ g) := hloc.imp id fun h => ⟨_, h, HLy3.out.size⟩
        clear hown' hgrow hloc
        refine hK.out _ _ ⟨HXy5.out.cell 0, HXy5.out.cell 1, HXy5.out.cell 2⟩ (fun hHeld => ?_)
        clear hK K
        (try simp only [Act.put, List.setIfInBounds_toArray, List.set_cons_zero, List.set_cons_succ])
        refine wpAnyH_ready (rs := [12]) (by kernel_rfl) (by simp) ?_
        refine AllReadyH.cons (o := _) (by rw [List.getElem?_toArray]; exact rfl) (fun K hK => ?_) AllReadyH.nil
        refine step_storeN _ rfl _ _ _ rfl HBK.out rfl rfl rfl HGR.out HO2.out (by have := HZL.out; rw [List.length_append]; show _ + 1 ≤ _; omega) HLO.out ?_
        intro y6 hown2 hgrow2
        have HXy6 : Hid (Box y6 r #[.string s, .int .i64 k1, .bool fl] 75) := (hgrow2.block r HXy5.out.lt (fun e => by cases e; have := HRR.out; omega)).trans HXy5.out
        have HO3 : Hid (y6.ownsGroups Try.prog 9 (w.heap.size + 1) 3 .i64 w.heap.size (k + 1) (D.put (.string s.data.toList) (rowDatum .i64 v' (zs ++ [(k : Int)])))) := hown2
        have HG3 : Hid (y5.grownBy y6 (some w.heap.size)) := hgrow2
        clear hown2 hgrow2
        refine hK.out _ _ ⟨HXy6.out.cell 0, HXy6.out.cell 1, HXy6.out.cell 2⟩ (fun hHeld => ?_)
        clear hK K
        (try simp only [Act.put])
        refine wpAnyH_done (by kernel_rfl) ?_ _
        (try simp only [Exit.then])
        go_wp2
        have hz2 : zs = posN nm k s.data.toList := ND_zs HND.out HAT.out HOI.out
        have hput : rowDatum (H := Unit) .i64 v' (zs ++ [(k : Int)]) = .slice (lits .i64 (posN nm k s.data.toList ++ [(k : Int)])) [] := by rw [HO2.out.datum_pos (by simp), hz2]
        have hown3 := HO3.out
        rw [hput] at hown3
        have hb3 : Below w.heap.size w y6 := (HBW.out.grown HGy3.out HBW.out.size (fun k e => by cases e)).groups HOI.out HGR.out HG3.out (Nat.le_trans HBW.out.size HGy3.out.size) (Nat.le_succ _) (Nat.le_refl _)
        exact ⟨⟨k + 1, by omega, by go_num, _, hown3, ND_step HND.out HNM.out HSZ.out, hb3, Nat.le_trans HBS.out (Nat.le_trans HGy3.out.size (Nat.le_trans HGR.out.size HG3.out.size))⟩, by simp [intOf]; omega⟩
    · obtain rfl : k = n := by omega
      go_wp2
      go_ret
      exact ⟨⟨rfl, D, HOR.out, HND.out⟩, HBR.out⟩
theorem byNameIndex_any (a : Option Addr) (n c : Nat) (L : List Idx3) (w : World) (h : IdxAt w a n L) (hsz : ∀ x ∈ L, x.1.size ≤ 1048576) :
    Calls Try.prog 90 #[.slice a n c] w fun e w' => (e = .returned (.map (some w.heap.size)) ∧ ∃ D : DataW Unit, w'.ownsGroups Try.prog 9 (w.heap.size + 1) 3 .i64 w.heap.size n D ∧ ND D (posN (L.map (·.1)) n)) ∧ Below w.heap.size w w' := by
  obtain ⟨nm, hnm⟩ : ∃ nm, L.map (·.1) = nm := ⟨_, rfl⟩
  rw [hnm]
  have HNMS : Hid (∀ (j : Nat) x, L[j]? = some x → nm.getD j ⟨#[]⟩ = x.1) := fun j x hj => by
    rw [← hnm, List.getD, List.getElem?_map, hj]
    rfl
  have HA : Hid (IdxAt w a n L) := h
  have HSZS : Hid (∀ x ∈ L, x.1.size ≤ 1048576) := hsz
  have hl := h.1
  have hn := h.2.1
  clear hnm h hsz
  have hmm := @run_makeMap Try.prog
  go_enter Try.func90, Try.ntmps90
  go_wp2
  go_loopw [9] (fun i wr => ∃ k : Nat, k ≤ n ∧ i = .int .i64 (k : Int) ∧ ∃ D : DataW Unit, wr.ownsGroups Try.prog 9 (w.heap.size + 1) 3 .i64 w.heap.size k D ∧ ND D (posN nm k) ∧ Below w.heap.size w wr ∧ w.heap.size + 1 ≤ wr.heap.size) (fun i _ => n - (intOf i).toNat)
  case atStart => exact ⟨0, Nat.zero_le _, rfl, .map [], World.ownsGroups_made _ _ _ _ _, ND_zero _, (Below.refl _ _).alloc (Nat.le_refl _) _, by simp⟩
  case round =>
    obtain ⟨k, hk, rfl, D, hown, hnd, hnx, hws⟩ := hrel
    have HND : Hid (ND D (posN nm k)) := hnd
    have HOR : Hid (wr.ownsGroups Try.prog 9 (w.heap.size + 1) 3 .i64 w.heap.size k D) := hown
    have HBR : Hid (Below w.heap.size w wr) := hnx
    clear hnd hown hnx
    by_cases hlt : k < n
    · rcases (HA.out.below HBR.out (Nat.le_refl _)).2.2 with h0 | ⟨p1, o1, rfl, g1⟩
      · omega
      obtain ⟨x, hx⟩ : ∃ x, L[k]? = some x := ⟨_, List.getElem?_eq_getElem (by omega)⟩
      obtain ⟨e0, e1, e2⟩ := g1 k x hx
      have HNM : Hid (nm.getD k ⟨#[]⟩ = x.1) := HNMS.out k x hx
      have HSZ : Hid (x.1.size ≤ maxLen) := Nat.le_trans (HSZS.out x (List.mem_of_getElem? hx)) (by unfold maxLen; omega)
      clear g1 hx
      obtain ⟨s, l1, fl⟩ := x
      obtain ⟨a1, m1, d1, e1, _⟩ := e1
      dsimp only at e0 e1 e2
      dsimp only at HNM HSZ
      have hk0 : (0 : Int) ≤ (k : Int) := by omega
      have hk1 : (k : Int) < (n : Int) := by omega
      obtain ⟨r, hr⟩ : ∃ r, wr.heap.size = r := ⟨_, rfl⟩
      obtain ⟨W, hW⟩ : ∃ W, wr.alloc (.cells #[.string s, .slice a1 m1 d1, .bool fl] 105) = W := ⟨_, rfl⟩
      have HX0 : Hid (Box W r #[.string s, .slice a1 m1 d1, .bool fl] 105) := by rw [← hW, ← hr]; exact box_of wr _ _
      have HGW : Hid (wr.grownBy W none) := by rw [← hW]; exact World.grownBy_alloc _ _ _
      have HW : Hid (wr.alloc (.cells #[.string s, .slice a1 m1 d1, .bool fl] 105) = W) := hW
      have HRR : Hid (w.heap.size + 1 ≤ r) := by rw [← hr]; exact hws
      have HRQ : Hid (wr.heap.size = r) := hr
      clear hW hws hr
      have hcm := fun z => callIndex_any s a1 m1 d1 fl z
      go_upto_region 5 with (fail)
      rw [HW.out, HRQ.out]
      obtain ⟨wd, hwd⟩ : ∃ wd, W.drew = wd := ⟨_, rfl⟩
      have HGT : Hid (wr.grownBy wd none) := by rw [← hwd]; exact HGW.out.trans (drewN _)
      have HXd : Hid (Box wd r #[.string s, .slice a1 m1 d1, .bool fl] 105) := by rw [← hwd]; exact HX0.out.drew
      have HOWN : Hid (wd.ownsGroups Try.prog 9 (w.heap.size + 1) 3 .i64 w.heap.size k D) := keptN HOR.out HGT.out
      have HSH : Hid (wd.Shuns w.heap.size (fun g => g = r)) := (World.Shuns.reno (No := fun _ => False) (fun _ _ _ _ _ _ _ h => h) HOR.out (fun g e => .inr (by have := HRQ.out; omega))).kept HGT.out (by have := HRR.out; have := HRQ.out; omega) (by simp)
      have HLT : Hid (w.heap.size < wd.heap.size) := by have := HGT.out.size; have := HRR.out; have := HRQ.out; show _ < _; omega
      have HBS : Hid (w.heap.size + 1 ≤ wd.heap.size) := HLT.out
      have HBW : Hid (Below w.heap.size w wd) := HBR.out.grown HGT.out HBR.out.size (fun k e => by cases e)
      have HGd : Hid (wd.grownBy wd none) := ⟨rfl, rfl, rfl, Nat.le_refl _, fun _ _ _ => rfl⟩
      refine wp_region_held_drew (S := fun z => z.cell? ⟨r, 0, none⟩ = some (.string s) ∧ z.cell? ⟨r, 1, none⟩ = some (.slice a1 m1 d1) ∧ z.cell? ⟨r, 2, none⟩ = some (.bool fl)) (by kernel_rfl) ⟨HX0.out.drew.cell 0, HX0.out.drew.cell 1, HX0.out.drew.cell 2⟩ (fun hHeld => ?_)
      rw [hwd] at hHeld ⊢
      refine wpAnyH_take (i := 0) (oi := _) (v := ?v2_0) (by rw [List.getElem?_toArray]; exact rfl) (by kernel_rfl) (by kernel_rfl) (by kernel_rfl) (by intro _ _ _ h; exact h) (Or.inl ⟨by kernel_rfl, ?y2_0⟩) hHeld ?_
      case y2_0 =>
        intro w hSw
        obtain ⟨s0, s1, s2⟩ := hSw
        go_simp
        (try with_reducible rfl)
      (try simp only [Act.put, List.setIfInBounds_toArray, List.set_cons_zero, List.set_cons_succ])
      refine wpAnyH_take (i := 1) (oi := _) (v := .agg #[.string s, .slice a1 m1 d1, .bool fl]) (by rw [List.getElem?_toArray]; exact rfl) (by kernel_rfl) (by kernel_rfl) (by kernel_rfl) (by intro _ _ _ h; exact h) (Or.inl ⟨by kernel_rfl, ?y2_1⟩) hHeld ?_
      case y2_1 =>
        intro w hSw
        obtain ⟨s0, s1, s2⟩ := hSw
        go_simp
        (try with_reducible rfl)
      (try simp only [Act.put, List.setIfInBounds_toArray, List.set_cons_zero, List.set_cons_succ])
      refine wpAnyH_take (i := 2) (oi := _) (v := .iface 105 (.agg #[.string s, .slice a1 m1 d1, .bool fl])) (by rw [List.getElem?_toArray]; exact rfl) (by kernel_rfl) (by kernel_rfl) (by kernel_rfl) (by intro _ _ _ h; exact h) (Or.inl ⟨by kernel_rfl, ?y2_2⟩) hHeld ?_
      case y2_2 =>
        intro w hSw
        obtain ⟨s0, s1, s2⟩ := hSw
        go_simp
        (try with_reducible rfl)
      (try simp only [Act.put, List.setIfInBounds_toArray, List.set_cons_zero, List.set_cons_succ])
      refine wpAnyH_take (i := 4) (oi := _) (v := ?v2_4) (by rw [List.getElem?_toArray]; exact rfl) (by kernel_rfl) (by kernel_rfl) (by kernel_rfl) (by intro _ _ _ h; exact h) (Or.inl ⟨by kernel_rfl, ?y2_4⟩) hHeld ?_
      case y2_4 =>
        intro w hSw
        obtain ⟨s0, s1, s2⟩ := hSw
        go_simp
        (try with_reducible rfl)
      (try simp only [Act.put, List.setIfInBounds_toArray, List.set_cons_zero, List.set_cons_succ])
      refine wpAnyH_take (i := 5) (oi := _) (v := .agg #[.string s, .slice a1 m1 d1, .bool fl]) (by rw [List.getElem?_toArray]; exact rfl) (by kernel_rfl) (by kernel_rfl) (by kernel_rfl) (by intro _ _ _ h; exact h) (Or.inl ⟨by kernel_rfl, ?y2_5⟩) hHeld ?_
      case y2_5 =>
        intro w hSw
        obtain ⟨s0, s1, s2⟩ := hSw
        go_simp
        (try with_reducible rfl)
      (try simp only [Act.put, List.setIfInBounds_toArray, List.set_cons_zero, List.set_cons_succ])
      refine wpAnyH_take (i := 6) (oi := _) (v := .iface 105 (.agg #[.string s, .slice a1 m1 d1, .bool fl])) (by rw [List.getElem?_toArray]; exact rfl) (by kernel_rfl) (by kernel_rfl) (by kernel_rfl) (by intro _ _ _ h; exact h) (Or.inl ⟨by kernel_rfl, ?y2_6⟩) hHeld ?_
      case y2_6 =>
        intro w hSw
        obtain ⟨s0, s1, s2⟩ := hSw
        go_simp
        (try with_reducible rfl)
      (try simp only [Act.put, List.setIfInBounds_toArray, List.set_cons_zero, List.set_cons_succ])
      refine wpAnyH_take (i := 9) (oi := _) (v := .int .i64 (k : Int)) (by rw [List.getElem?_toArray]; exact rfl) (by kernel_rfl) (by kernel_rfl) (by kernel_rfl) (by intro _ _ _ h; exact h) (Or.inl ⟨by kernel_rfl, ?y2_9⟩) hHeld ?_
      case y2_9 =>
        intro w hSw
        obtain ⟨s0, s1, s2⟩ := hSw
        go_simp
        (try with_reducible rfl)
      (try simp only [Act.put, List.setIfInBounds_toArray, List.set_cons_zero, List.set_cons_succ])
      refine wpAnyH_ready (rs := [3, 10]) (by kernel_rfl) (by simp) ?_
      refine AllReadyH.cons (o := _) (by rw [List.getElem?_toArray]; exact rfl) (fun K hK => ?_) (AllReadyH.cons (o := _) (by rw [List.getElem?_toArray]; exact rfl) (fun K hK => ?_) AllReadyH.nil)
      · rw [if_pos (by kernel_rfl)]
        go_simp
        refine (nameIndex_any s a1 m1 d1 fl _).mono ?_
        rintro e y1 ⟨rfl, hb⟩
        have HGy1 : Hid (wd.grownBy y1 none) := HGd.out.trans (Below.grownN hb)
        have HXy1 : Hid (Box y1 r #[.string s, .slice a1 m1 d1, .bool fl] 105) := HXd.out.below hb HXd.out.lt
        clear hb
        go_simp
        refine hK.out _ _ ⟨HXy1.out.cell 0, HXy1.out.cell 1, HXy1.out.cell 2⟩ (fun hHeld => ?_)
        clear hK K
        (try simp only [Act.put, List.setIfInBounds_toArray, List.set_cons_zero, List.set_cons_succ])
        refine wpAnyH_ready (rs := [7, 10]) (by kernel_rfl) (by simp) ?_
        refine AllReadyH.cons (o := _) (by rw [List.getElem?_toArray]; exact rfl) (fun K hK => ?_) (AllReadyH.cons (o := _) (by rw [List.getElem?_toArray]; exact rfl) (fun K hK => ?_) AllReadyH.nil)
        · rw [if_pos (by kernel_rfl)]
          go_simp
          refine (nameIndex_any s a1 m1 d1 fl _).mono ?_
          rintro e y2 ⟨rfl, hb⟩
          have HGy2 : Hid (wd.grownBy y2 none) := HGy1.out.trans (Below.grownN hb)
          have HXy2 : Hid (Box y2 r #[.string s, .slice a1 m1 d1, .bool fl] 105) := HXy1.out.below hb HXy1.out.lt
          clear hb
          go_simp
          refine hK.out _ _ ⟨HXy2.out.cell 0, HXy2.out.cell 1, HXy2.out.cell 2⟩ (fun hHeld => ?_)
          clear hK K
          (try simp only [Act.put, List.setIfInBounds_toArray, List.set_cons_zero, List.set_cons_succ])
          refine wpAnyH_ready (rs := [8, 10]) (by kernel_rfl) (by simp) ?_
          refine AllReadyH.cons (o := _) (by rw [List.getElem?_toArray]; exact rfl) (fun K hK => ?_) (AllReadyH.cons (o := _) (by rw [List.getElem?_toArray]; exact rfl) (fun K hK => ?_) AllReadyH.nil)
          · refine step_lookN _ rfl _ _ rfl (w.heap.size + 1) w.heap.size k D rfl (keptN HOWN.out HGy2.out) (by unfold maxLen; omega) s rfl HSZ.out ?_
            intro v zs hat hoi hzl hback hsh
            have HVR : Hid (∀ g, v.ownBlock = some g → ¬ g = r) := hsh (fun g => g = r) (HSH.out.kept HGy2.out HLT.out (by simp))
            have HAT : Hid (D.atKey (.string s.data.toList) .nil = rowDatum .i64 v zs) := hat
            have HOI : Hid (y2.ownsInts (w.heap.size + 1) 3 .i64 v zs) := hoi
            have HBK : Hid (y2.groupBack Try.prog 85 9 (w.heap.size + 1) 3 .i64 w.heap.size k D (.string s) (.string s.data.toList) v) := hback
            have HZL : Hid (zs.length ≤ k) := hzl
            clear hat hoi hback hsh hzl
            have HLy2 : Hid (y2.grownBy y2 none) := ⟨rfl, rfl, rfl, Nat.le_refl _, fun _ _ _ => rfl⟩
            refine hK.out _ _ ⟨HXy2.out.cell 0, HXy2.out.cell 1, HXy2.out.cell 2⟩ (fun hHeld => ?_)
            clear hK K
            (try simp only [Act.put, List.setIfInBounds_toArray, List.set_cons_zero, List.set_cons_succ])
            refine wpAnyH_ready (rs := [10]) (by kernel_rfl) (by simp) ?_
            refine AllReadyH.cons (o := _) (by rw [List.getElem?_toArray]; exact rfl) (fun K hK => ?_) AllReadyH.nil
            rw [if_pos (by kernel_rfl)]
            go_simp
            obtain ⟨y4, hy4⟩ : ∃ q, y2.alloc (.cells #[.int .i64 (k : Int)] 3) = q := ⟨_, rfl⟩
            obtain ⟨g, hg⟩ : ∃ g, y2.heap.size = g := ⟨_, rfl⟩
            have HGy4 : Hid (wd.grownBy y4 none) := by rw [← hy4]; exact HGy2.out.trans (World.grownBy_alloc _ _ _)
            have HXy4 : Hid (Box y4 r #[.string s, .slice a1 m1 d1, .bool fl] 105) := by rw [← hy4]; exact HXy2.out.alloc _
            have HSy4 : Hid (y4.cell? ⟨g, 0, none⟩ = some (.int .i64 (k : Int)) ∧ g < y4.heap.size) := by rw [← hy4, ← hg]; exact ⟨(box_of _ _ _).cell 0, by simp⟩
            have HLy4 : Hid (y2.grownBy y4 none) := by rw [← hy4]; exact World.grownBy_alloc _ _ _
            rw [hy4, hg]
            clear hy4 hg
            refine hK.out _ _ ⟨HXy4.out.cell 0, HXy4.out.cell 1, HXy4.out.cell 2⟩ (fun hHeld => ?_)
            clear hK K
            (try simp only [Act.put, List.setIfInBounds_toArray, List.set_cons_zero, List.set_cons_succ])
            refine wpAnyH_ready (rs := [11]) (by kernel_rfl) (by simp) ?_
            refine AllReadyH.cons (o := _) (by rw [List.getElem?_toArray]; exact rfl) (fun K hK => ?_) AllReadyH.nil
            refine step_appN1 _ rfl _ _ rfl (w.heap.size + 1) v zs rfl (HOI.out.kept HLy4.out (noneN _)) ⟨g, 0, none⟩ 1 (k : Int) rfl HSy4.out.1 (WalkArith.wf_i64 (by omega)) (by have := HZL.out; omega) (Nat.le_trans HBS.out (HGy4.out.size)) ?_
            intro v' y5 hown' hgrow hloc
            have HXy5 : Hid (Box y5 r #[.string s, .slice a1 m1 d1, .bool fl] 105) := (hgrow.block r HXy4.out.lt (fun e => HVR.out r e.symm rfl)).trans HXy4.out
            have HO2 : Hid (y5.ownsInts (w.heap.size + 1) 3 .i64 v' (zs ++ [(k : Int)])) := hown'
            have HGR : Hid (y2.grownBy y5 v.ownBlock) := (HLy4.out.but _).trans hgrow
            have HLO : Hid (v'.ownBlock = v.ownBlock ∨ ∃ g, v'.ownBlock = some g ∧ y2.heap.size ≤ g) := hloc.imp id fun h => ⟨_, h, HLy4.out.size⟩
            clear hown' hgrow hloc
            refine hK.out _ _ ⟨HXy5.out.cell 0, HXy5.out.cell 1, HXy5.out.cell 2⟩ (fun hHeld => ?_)
            clear hK K
            (try simp only [Act.put, List.setIfInBounds_toArray, List.set_cons_zero, List.set_cons_succ])
            refine wpAnyH_ready (rs := [12]) (by kernel_rfl) (by simp) ?_
            refine AllReadyH.cons (o := _) (by rw [List.getElem?_toArray]; exact rfl) (fun K hK => ?_) AllReadyH.nil
            refine step_storeN _ rfl _ _ _ rfl HBK.out rfl rfl rfl HGR.out HO2.out (by have := HZL.out; rw [List.length_append]; show _ + 1 ≤ _; omega) HLO.out ?_
            intro y6 hown2 hgrow2
            have HXy6 : Hid (Box y6 r #[.string s, .slice a1 m1 d1, .bool fl] 105) := (hgrow2.block r HXy5.out.lt (fun e => by cases e; have := HRR.out; omega)).trans HXy5.out
            have HO3 : Hid (y6.ownsGroups Try.prog 9 (w.heap.size + 1) 3 .i64 w.heap.size (k + 1) (D.put (.string s.data.toList) (rowDatum .i64 v' (zs ++ [(k : Int)])))) := hown2
            have HG3 : Hid (y5.grownBy y6 (some w.heap.size)) := hgrow2
            clear hown2 hgrow2
            refine hK.out _ _ ⟨HXy6.out.cell 0, HXy6.out.cell 1, HXy6.out.cell 2⟩ (fun hHeld => ?_)
            clear hK K
            (try simp only [Act.put])
            refine wpAnyH_done (by kernel_rfl) ?_ _
            (try simp only [Exit.then])
            go_wp2
            have hz2 : zs = posN nm k s.data.toList := ND_zs HND.out HAT.out HOI.out
            have hput : rowDatum (H := Unit) .i64 v' (zs ++ [(k : Int)]) = .slice (lits .i64 (posN nm k s.data.toList ++ [(k : Int)])) [] := by rw [HO2.out.datum_pos (by simp), hz2]
            have hown3 := HO3.out
            rw [hput] at hown3
            have hb3 : Below w.heap.size w y6 := (HBW.out.grown HGy2.out HBW.out.size (fun k e => by cases e)).groups HOI.out HGR.out HG3.out (Nat.le_trans HBW.out.size HGy2.out.size) (Nat.le_succ _) (Nat.le_refl _)
            exact ⟨⟨k + 1, by omega, by go_num, _, hown3, ND_step HND.out HNM.out HSZ.out, hb3, Nat.le_trans HBS.out (Nat.le_trans HGy2.out.size (Nat.le_trans HGR.out.size HG3.out.size))⟩, by simp [intOf]; omega⟩
          · rw [if_pos (by kernel_rfl)]
            go_simp
            obtain ⟨y3, hy3⟩ : ∃ q, y2.alloc (.cells #[.int .i64 (k : Int)] 3) = q := ⟨_, rfl⟩
            obtain ⟨g, hg⟩ : ∃ g, y2.heap.size = g := ⟨_, rfl⟩
            have HGy3 : Hid (wd.grownBy y3 none) := by rw [← hy3]; exact HGy2.out.trans (World.grownBy_alloc _ _ _)
            have HXy3 : Hid (Box y3 r #[.string s, .slice a1 m1 d1, .bool fl] 105) := by rw [← hy3]; exact HXy2.out.alloc _
            have HSy3 : Hid (y3.cell? ⟨g, 0, none⟩ = some (.int .i64 (k : Int)) ∧ g < y3.heap.size) := by rw [← hy3, ← hg]; exact ⟨(box_of _ _ _).cell 0, by simp⟩
            rw [hy3, hg]
            clear hy3 hg
            refine hK.out _ _ ⟨HXy3.out.cell 0, HXy3.out.cell 1, HXy3.out.cell 2⟩ (fun hHeld => ?_)
            clear hK K
            (try simp only [Act.put, List.setIfInBounds_toArray, List.set_cons_zero, List.set_cons_succ])
            refine wpAnyH_ready (rs := [8]) (by kernel_rfl) (by simp) ?_
            refine AllReadyH.cons (o := _) (by rw [List.getElem?_toArray]; exact rfl) (fun K hK => ?_) AllReadyH.nil
            refine step_lookN _ rfl _ _ rfl (w.heap.size + 1) w.heap.size k D rfl (keptN HOWN.out HGy3.out) (by unfold maxLen; omega) s rfl HSZ.out ?_
            intro v zs hat hoi hzl hback hsh
            have HVR : Hid (∀ g, v.ownBlock = some g → ¬ g = r) := hsh (fun g => g = r) (HSH.out.kept HGy3.out HLT.out (by simp))
            have HAT : Hid (D.atKey (.string s.data.toList) .nil = rowDatum .i64 v zs) := hat
            have HOI : Hid (y3.ownsInts (w.heap.size + 1) 3 .i64 v zs) := hoi
            have HBK : Hid (y3.groupBack Try.prog 85 9 (w.heap.size + 1) 3 .i64 w.heap.size k D (.string s) (.string s.data.toList) v) := hback
            have HZL : Hid (zs.length ≤ k) := hzl
            clear hat hoi hback hsh hzl
            have HLy3 : Hid (y3.grownBy y3 none) := ⟨rfl, rfl, rfl, Nat.le_refl _, fun _ _ _ => rfl⟩
            refine hK.out _ _ ⟨HXy3.out.cell 0, HXy3.out.cell 1, HXy3.out.cell 2⟩ (fun hHeld => ?_)
            clear hK K
            (try simp only [Act.put, List.setIfInBounds_toArray, List.set_cons_zero, List.set_cons_succ])
            refine wpAnyH_ready (rs := [11]) (by kernel_rfl) (by simp) ?_
            refine AllReadyH.cons (o := _) (by rw [List.getElem?_toArray]; exact rfl) (fun K hK => ?_) AllReadyH.nil
            refine step_appN1 _ rfl _ _ rfl (w.heap.size + 1) v zs rfl (HOI.out.kept HLy3.out (noneN _)) ⟨g, 0, none⟩ 1 (k : Int) rfl HSy3.out.1 (WalkArith.wf_i64 (by omega)) (by have := HZL.out; omega) (Nat.le_trans HBS.out (HGy3.out.size)) ?_
            intro v' y5 hown' hgrow hloc
            have HXy5 : Hid (Box y5 r #[.string s, .slice a1 m1 d1, .bool fl] 105) := (hgrow.block r HXy3.out.lt (fun e => HVR.out r e.symm rfl)).trans HXy3.out
            have HO2 : Hid (y5.ownsInts (w.heap.size + 1) 3 .i64 v' (zs ++ [(k : Int)])) := hown'
            have HGR : Hid (y3.grownBy y5 v.ownBlock) := (HLy3.out.but _).trans hgrow
            have HLO : Hid (v'.ownBlock = v.ownBlock ∨ ∃ g, v'.ownBlock = some g ∧ y3.heap.size ≤ g) := hloc.imp id fun h => ⟨_, h, HLy3.out.size⟩
            clear hown' hgrow hloc
            refine hK.out _ _ ⟨HXy5.out.cell 0, HXy5.out.cell 1, HXy5.out.cell 2⟩ (fun hHeld => ?_)
            clear hK K
            (try simp only [Act.put, List.setIfInBounds_toArray, List.set_cons_zero, List.set_cons_succ])
            refine wpAnyH_ready (rs := [12]) (by kernel_rfl) (by simp) ?_
            refine AllReadyH.cons (o := _) (by rw [List.getElem?_toArray]; exact rfl) (fun K hK => ?_) AllReadyH.nil
            refine step_storeN _ rfl _ _ _ rfl HBK.out rfl rfl rfl HGR.out HO2.out (by have := HZL.out; rw [List.length_append]; show _ + 1 ≤ _; omega) HLO.out ?_
            intro y6 hown2 hgrow2
            have HXy6 : Hid (Box y6 r #[.string s, .slice a1 m1 d1, .bool fl] 105) := (hgrow2.block r HXy5.out.lt (fun e => by cases e; have := HRR.out; omega)).trans HXy5.out
            have HO3 : Hid (y6.ownsGroups Try.prog 9 (w.heap.size + 1) 3 .i64 w.heap.size (k + 1) (D.put (.string s.data.toList) (rowDatum .i64 v' (zs ++ [(k : Int)])))) := hown2
            have HG3 : Hid (y5.grownBy y6 (some w.heap.size)) := hgrow2
            clear hown2 hgrow2
            refine hK.out _ _ ⟨HXy6.out.cell 0, HXy6.out.cell 1, HXy6.out.cell 2⟩ (fun hHeld => ?_)
            clear hK K
            (try simp only [Act.put])
            refine wpAnyH_done (by kernel_rfl) ?_ _
            (try simp only [Exit.then])
            go_wp2
            have hz2 : zs = posN nm k s.data.toList := ND_zs HND.out HAT.out HOI.out
            have hput : rowDatum (H := Unit) .i64 v' (zs ++ [(k : Int)]) = .slice (lits .i64 (posN nm k s.data.toList ++ [(k : Int)])) [] := by rw [HO2.out.datum_pos (by simp), hz2]
            have hown3 := HO3.out
            rw [hput] at hown3
            have hb3 : Below w.heap.size w y6 := (HBW.out.grown HGy3.out HBW.out.size (fun k e => by cases e)).groups HOI.out HGR.out HG3.out (Nat.le_trans HBW.out.size HGy3.out.size) (Nat.le_succ _) (Nat.le_refl _)
            exact ⟨⟨k + 1, by omega, by go_num, _, hown3, ND_step HND.out HNM.out HSZ.out, hb3, Nat.le_trans HBS.out (Nat.le_trans HGy3.out.size (Nat.le_trans HGR.out.size HG3.out.size))⟩, by simp [intOf]; omega⟩
        · rw [if_pos (by kernel_rfl)]
          go_simp
          obtain ⟨y2, hy2⟩ : ∃ q, y1.alloc (.cells #[.int .i64 (k : Int)] 3) = q := ⟨_, rfl⟩
          obtain ⟨g, hg⟩ : ∃ g, y1.heap.size = g := ⟨_, rfl⟩
          have HGy2 : Hid (wd.grownBy y2 none) := by rw [← hy2]; exact HGy1.out.trans (World.grownBy_alloc _ _ _)
          have HXy2 : Hid (Box y2 r #[.string s, .slice a1 m1 d1, .bool fl] 105) := by rw [← hy2]; exact HXy1.out.alloc _
          have HSy2 : Hid (y2.cell? ⟨g, 0, none⟩ = some (.int .i64 (k : Int)) ∧ g < y2.heap.size) := by rw [← hy2, ← hg]; exact ⟨(box_of _ _ _).cell 0, by simp⟩
          rw [hy2, hg]
          clear hy2 hg
          refine hK.out _ _ ⟨HXy2.out.cell 0, HXy2.out.cell 1, HXy2.out.cell 2⟩ (fun hHeld => ?_)
          clear hK K
          (try simp only [Act.put, List.setIfInBounds_toArray, List.set_cons_zero, List.set_cons_succ])
          refine wpAnyH_ready (rs := [7]) (by kernel_rfl) (by simp) ?_
          refine AllReadyH.cons (o := _) (by rw [List.getElem?_toArray]; exact rfl) (fun K hK => ?_) AllReadyH.nil
          rw [if_pos (by kernel_rfl)]
          go_simp
          refine (nameIndex_any s a1 m1 d1 fl _).mono ?_
          rintro e y3 ⟨rfl, hb⟩
          have HGy3 : Hid (wd.grownBy y3 none) := HGy2.out.trans (Below.grownN hb)
          have HXy3 : Hid (Box y3 r #[.string s, .slice a1 m1 d1, .bool fl] 105) := HXy2.out.below hb HXy2.out.lt
          have HSy3 : Hid (y3.cell? ⟨g, 0, none⟩ = some (.int .i64 (k : Int)) ∧ g < y3.heap.size) := ⟨(hb.cell HSy2.out.2).trans HSy2.out.1, Nat.lt_of_lt_of_le HSy2.out.2 hb.size⟩
          clear hb
          go_simp
          refine hK.out _ _ ⟨HXy3.out.cell 0, HXy3.out.cell 1, HXy3.out.cell 2⟩ (fun hHeld => ?_)
          clear hK K
          (try simp only [Act.put, List.setIfInBounds_toArray, List.set_cons_zero, List.set_cons_succ])
          refine wpAnyH_ready (rs := [8]) (by kernel_rfl) (by simp) ?_
          refine AllReadyH.cons (o := _) (by rw [List.getElem?_toArray]; exact rfl) (fun K hK => ?_) AllReadyH.nil
          refine step_lookN _ rfl _ _ rfl (w.heap.size + 1) w.heap.size k D rfl (keptN HOWN.out HGy3.out) (by unfold maxLen; omega) s rfl HSZ.out ?_
          intro v zs hat hoi hzl hback hsh
          have HVR : Hid (∀ g, v.ownBlock = some g → ¬ g = r) := hsh (fun g => g = r) (HSH.out.kept HGy3.out HLT.out (by simp))
          have HAT : Hid (D.atKey (.string s.data.toList) .nil = rowDatum .i64 v zs) := hat
          have HOI : Hid (y3.ownsInts (w.heap.size + 1) 3 .i64 v zs) := hoi
          have HBK : Hid (y3.groupBack Try.prog 85 9 (w.heap.size + 1) 3 .i64 w.heap.size k D (.string s) (.string s.data.toList) v) := hback
          have HZL : Hid (zs.length ≤ k) := hzl
          clear hat hoi hback hsh hzl
          have HLy3 : Hid (y3.grownBy y3 none) := ⟨rfl, rfl, rfl, Nat.le_refl _, fun _ _ _ => rfl⟩
          refine hK.out _ _ ⟨HXy3.out.cell 0, HXy3.out.cell 1, HXy3.out.cell 2⟩ (fun hHeld => ?_)
          clear hK K
          (try simp only [Act.put, List.setIfInBounds_toArray, List.set_cons_zero, List.set_cons_succ])
          refine wpAnyH_ready (rs := [11]) (by kernel_rfl) (by simp) ?_
          refine AllReadyH.cons (o := _) (by rw [List.getElem?_toArray]; exact rfl) (fun K hK => ?_) AllReadyH.nil
          refine step_appN1 _ rfl _ _ rfl (w.heap.size + 1) v zs rfl (HOI.out.kept HLy3.out (noneN _)) ⟨g, 0, none⟩ 1 (k : Int) rfl HSy3.out.1 (WalkArith.wf_i64 (by omega)) (by have := HZL.out; omega) (Nat.le_trans HBS.out (HGy3.out.size)) ?_
          intro v' y5 hown' hgrow hloc
          have HXy5 : Hid (Box y5 r #[.string s, .slice a1 m1 d1, .bool fl] 105) := (hgrow.block r HXy3.out.lt (fun e => HVR.out r e.symm rfl)).trans HXy3.out
          have HO2 : Hid (y5.ownsInts (w.heap.size + 1) 3 .i64 v' (zs ++ [(k : Int)])) := hown'
          have HGR : Hid (y3.grownBy y5 v.ownBlock) := (HLy3.out.but _).trans hgrow
          have HLO : Hid (v'.ownBlock = v.ownBlock ∨ ∃ g, v'.ownBlock = some g ∧ y3.heap.size ≤ g) := hloc.imp id fun h => ⟨_, h, HLy3.out.size⟩
          clear hown' hgrow hloc
          refine hK.out _ _ ⟨HXy5.out.cell 0, HXy5.out.cell 1, HXy5.out.cell 2⟩ (fun hHeld => ?_)
          clear hK K
          (try simp only [Act.put, List.setIfInBounds_toArray, List.set_cons_zero, List.set_cons_succ])
          refine wpAnyH_ready (rs := [12]) (by kernel_rfl) (by simp) ?_
          refine AllReadyH.cons (o := _) (by rw [List.getElem?_toArray]; exact rfl) (fun K hK => ?_) AllReadyH.nil
          refine step_storeN _ rfl _ _ _ rfl HBK.out rfl rfl rfl HGR.out HO2.out (by have := HZL.out; rw [List.length_append]; show _ + 1 ≤ _; omega) HLO.out ?_
          intro y6 hown2 hgrow2
          have HXy6 : Hid (Box y6 r #[.string s, .slice a1 m1 d1, .bool fl] 105) := (hgrow2.block r HXy5.out.lt (fun e => by cases e; have := HRR.out; omega)).trans HXy5.out
          have HO3 : Hid (y6.ownsGroups Try.prog 9 (w.heap.size + 1) 3 .i64 w.heap.size (k + 1) (D.put (.string s.data.toList) (rowDatum .i64 v' (zs ++ [(k : Int)])))) := hown2
          have HG3 : Hid (y5.grownBy y6 (some w.heap.size)) := hgrow2
          clear hown2 hgrow2
          refine hK.out _ _ ⟨HXy6.out.cell 0, HXy6.out.cell 1, HXy6.out.cell 2⟩ (fun hHeld => ?_)
          clear hK K
          (try simp only [Act.put])
          refine wpAnyH_done (by kernel_rfl) ?_ _
          (try simp only [Exit.then])
          go_wp2
          have hz2 : zs = posN nm k s.data.toList := ND_zs HND.out HAT.out HOI.out
          have hput : rowDatum (H := Unit) .i64 v' (zs ++ [(k : Int)]) = .slice (lits .i64 (posN nm k s.data.toList ++ [(k : Int)])) [] := by rw [HO2.out.datum_pos (by simp), hz2]
          have hown3 := HO3.out
          rw [hput] at hown3
          have hb3 : Below w.heap.size w y6 := (HBW.out.grown HGy3.out HBW.out.size (fun k e => by cases e)).groups HOI.out HGR.out HG3.out (Nat.le_trans HBW.out.size HGy3.out.size) (Nat.le_succ _) (Nat.le_refl _)
          exact ⟨⟨k + 1, by omega, by go_num, _, hown3, ND_step HND.out HNM.out HSZ.out, hb3, Nat.le_trans HBS.out (Nat.le_trans HGy3.out.size (Nat.le_trans HGR.out.size HG3.out.size))⟩, by simp [intOf]; omega⟩
      · rw [if_pos (by kernel_rfl)]
        go_simp
        obtain ⟨y1, hy1⟩ : ∃ q, wd.alloc (.cells #[.int .i64 (k : Int)] 3) = q := ⟨_, rfl⟩
        obtain ⟨g, hg⟩ : ∃ g, wd.heap.size = g := ⟨_, rfl⟩
        have HGy1 : Hid (wd.grownBy y1 none) := by rw [← hy1]; exact HGd.out.trans (World.grownBy_alloc _ _ _)
        have HXy1 : Hid (Box y1 r #[.string s, .slice a1 m1 d1, .bool fl] 105) := by rw [← hy1]; exact HXd.out.alloc _
        have HSy1 : Hid (y1.cell? ⟨g, 0, none⟩ = some (.int .i64 (k : Int)) ∧ g < y1.heap.size) := by rw [← hy1, ← hg]; exact ⟨(box_of _ _ _).cell 0, by simp⟩
        rw [hy1, hg]
        clear hy1 hg
        refine hK.out _ _ ⟨HXy1.out.cell 0, HXy1.out.cell 1, HXy1.out.cell 2⟩ (fun hHeld => ?_)
        clear hK K
        (try simp only [Act.put, List.setIfInBounds_toArray, List.set_cons_zero, List.set_cons_succ])
        refine wpAnyH_ready (rs := [3]) (by kernel_rfl) (by simp) ?_
        refine AllReadyH.cons (o := _) (by rw [List.getElem?_toArray]; exact rfl) (fun K hK => ?_) AllReadyH.nil
        rw [if_pos (by kernel_rfl)]
        go_simp
        refine (nameIndex_any s a1 m1 d1 fl _).mono ?_
        rintro e y2 ⟨rfl, hb⟩
        have HGy2 : Hid (wd.grownBy y2 none) := HGy1.out.trans (Below.grownN hb)
        have HXy2 : Hid (Box y2 r #[.string s, .slice a1 m1 d1, .bool fl] 105) := HXy1.out.below hb HXy1.out.lt
        have HSy2 : Hid (y2.cell? ⟨g, 0, none⟩ = some (.int .i64 (k : Int)) ∧ g < y2.heap.size) := ⟨(hb.cell HSy1.out.2).trans HSy1.out.1, Nat.lt_of_lt_of_le HSy1.out.2 hb.size⟩
        clear hb
        go_simp
        refine hK.out _ _ ⟨HXy2.out.cell 0, HXy2.out.cell 1, HXy2.out.cell 2⟩ (fun hHeld => ?_)
        clear hK K
        (try simp only [Act.put, List.setIfInBounds_toArray, List.set_cons_zero, List.set_cons_succ])
        refine wpAnyH_ready (rs := [7]) (by kernel_rfl) (by simp) ?_
        refine AllReadyH.cons (o := _) (by rw [List.getElem?_toArray]; exact rfl) (fun K hK => ?_) AllReadyH.nil
        rw [if_pos (by kernel_rfl)]
        go_simp
        refine (nameIndex_any s a1 m1 d1 fl _).mono ?_
        rintro e y3 ⟨rfl, hb⟩
        have HGy3 : Hid (wd.grownBy y3 none) := HGy2.out.trans (Below.grownN hb)
        have HXy3 : Hid (Box y3 r #[.string s, .slice a1 m1 d1, .bool fl] 105) := HXy2.out.below hb HXy2.out.lt
        have HSy3 : Hid (y3.cell? ⟨g, 0, none⟩ = some (.int .i64 (k : Int)) ∧ g < y3.heap.size) := ⟨(hb.cell HSy2.out.2).trans HSy2.out.1, Nat.lt_of_lt_of_le HSy2.out.2 hb.size⟩
        clear hb
        go_simp
        refine hK.out _ _ ⟨HXy3.out.cell 0, HXy3.out.cell 1, HXy3.out.cell 2⟩ (fun hHeld => ?_)
        clear hK K
        (try simp only [Act.put, List.setIfInBounds_toArray, List.set_cons_zero, List.set_cons_succ])
        refine wpAnyH_ready (rs := [8]) (by kernel_rfl) (by simp) ?_
        refine AllReadyH.cons (o := _) (by rw [List.getElem?_toArray]; exact rfl) (fun K hK => ?_) AllReadyH.nil
        refine step_lookN _ rfl _ _ rfl (w.heap.size + 1) w.heap.size k D rfl (keptN HOWN.out HGy3.out) (by unfold maxLen; omega) s rfl HSZ.out ?_
        intro v zs hat hoi hzl hback hsh
        have HVR : Hid (∀ g, v.ownBlock = some g → ¬ g = r) := hsh (fun g => g = r) (HSH.out.kept HGy3.out HLT.out (by simp))
        have HAT : Hid (D.atKey (.string s.data.toList) .nil = rowDatum .i64 v zs) := hat
        have HOI : Hid (y3.ownsInts (w.heap.size + 1) 3 .i64 v zs) := hoi
        have HBK : Hid (y3.groupBack Try.prog 85 9 (w.heap.size + 1) 3 .i64 w.heap.size k D (.string s) (.string s.data.toList) v) := hback
        have HZL : Hid (zs.length ≤ k) := hzl
        clear hat hoi hback hsh hzl
        have HLy3 : Hid (y3.grownBy y3 none) := ⟨rfl, rfl, rfl, Nat.le_refl _, fun _ _ _ => rfl⟩
        refine hK.out _ _ ⟨HXy3.out.cell 0, HXy3.out.cell 1, HXy3.out.cell 2⟩ (fun hHeld => ?_)
        clear hK K
        (try simp only [Act.put, List.setIfInBounds_toArray, List.set_cons_zero, List.set_cons_succ])
        refine wpAnyH_ready (rs := [11]) (by kernel_rfl) (by simp) ?_
        refine AllReadyH.cons (o := _) (by rw [List.getElem?_toArray]; exact rfl) (fun K hK => ?_) AllReadyH.nil
        refine step_appN1 _ rfl _ _ rfl (w.heap.size + 1) v zs rfl (HOI.out.kept HLy3.out (noneN _)) ⟨g, 0, none⟩ 1 (k : Int) rfl HSy3.out.1 (WalkArith.wf_i64 (by omega)) (by have := HZL.out; omega) (Nat.le_trans HBS.out (HGy3.out.size)) ?_
        intro v' y5 hown' hgrow hloc
        have HXy5 : Hid (Box y5 r #[.string s, .slice a1 m1 d1, .bool fl] 105) := (hgrow.block r HXy3.out.lt (fun e => HVR.out r e.symm rfl)).trans HXy3.out
        have HO2 : Hid (y5.ownsInts (w.heap.size + 1) 3 .i64 v' (zs ++ [(k : Int)])) := hown'
        have HGR : Hid (y3.grownBy y5 v.ownBlock) := (HLy3.out.but _).trans hgrow
        have HLO : Hid (v'.ownBlock = v.ownBlock ∨ ∃ g, v'.ownBlock = some g ∧ y3.heap.size ≤ g) := hloc.imp id fun h => ⟨_, h, HLy3.out.size⟩
        clear hown' hgrow hloc
        refine hK.out _ _ ⟨HXy5.out.cell 0, HXy5.out.cell 1, HXy5.out.cell 2⟩ (fun hHeld => ?_)
        clear hK K
        (try simp only [Act.put, List.setIfInBounds_toArray, List.set_cons_zero, List.set_cons_succ])
        refine wpAnyH_ready (rs := [12]) (by kernel_rfl) (by simp) ?_
        refine AllReadyH.cons (o := _) (by rw [List.getElem?_toArray]; exact rfl) (fun K hK => ?_) AllReadyH.nil
        refine step_storeN _ rfl _ _ _ rfl HBK.out rfl rfl rfl HGR.out HO2.out (by have := HZL.out; rw [List.length_append]; show _ + 1 ≤ _; omega) HLO.out ?_
        intro y6 hown2 hgrow2
        have HXy6 : Hid (Box y6 r #[.string s, .slice a1 m1 d1, .bool fl] 105) := (hgrow2.block r HXy5.out.lt (fun e => by cases e; have := HRR.out; omega)).trans HXy5.out
        have HO3 : Hid (y6.ownsGroups Try.prog 9 (w.heap.size + 1) 3 .i64 w.heap.size (k + 1) (D.put (.string s.data.toList) (rowDatum .i64 v' (zs ++ [(k : Int)])))) := hown2
        have HG3 : Hid (y5.grownBy y6 (some w.heap.size)) := hgrow2
        clear hown2 hgrow2
        refine hK.out _ _ ⟨HXy6.out.cell 0, HXy6.out.cell 1, HXy6.out.cell 2⟩ (fun hHeld => ?_)
        clear hK K
        (try simp only [Act.put])
        refine wpAnyH_done (by kernel_rfl) ?_ _
        (try simp only [Exit.then])
        go_wp2
        have hz2 : zs = posN nm k s.data.toList := ND_zs HND.out HAT.out HOI.out
        have hput : rowDatum (H := Unit) .i64 v' (zs ++ [(k : Int)]) = .slice (lits .i64 (posN nm k s.data.toList ++ [(k : Int)])) [] := by rw [HO2.out.datum_pos (by simp), hz2]
        have hown3 := HO3.out
        rw [hput] at hown3
        have hb3 : Below w.heap.size w y6 := (HBW.out.grown HGy3.out HBW.out.size (fun k e => by cases e)).groups HOI.out HGR.out HG3.out (Nat.le_trans HBW.out.size HGy3.out.size) (Nat.le_succ _) (Nat.le_refl _)
        exact ⟨⟨k + 1, by omega, by go_num, _, hown3, ND_step HND.out HNM.out HSZ.out, hb3, Nat.le_trans HBS.out (Nat.le_trans HGy3.out.size (Nat.le_trans HGR.out.size HG3.out.size))⟩, by simp [intOf]; omega⟩
    · obtain rfl : k = n := by omega
      go_wp2
      go_ret
      exact ⟨⟨rfl, D, HOR.out, HND.out⟩, HBR.out⟩
end
end Go.Proofs.Ytmgofehafjogfaa
