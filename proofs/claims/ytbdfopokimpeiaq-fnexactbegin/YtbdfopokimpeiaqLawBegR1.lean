/- The region of the law FnExactBegin that asks the specification: four calls and two new boxes, in whatever order. -/
import Derived.Test.YtbdfopokimpeiaqLawBegK
import Derived.Test.YtbdfopokimpeiaqRegTail
namespace Go.Proofs.Ytbdfopokimpeiaq
open Go.ChangeShapes Go.WideShapes Go.ChangeAt Go.RowKit Go.Joins

noncomputable def reg11 : List Oper := match Try.f7.body with
  | some (.seq _ (.seq _ (.seq _ (.seq _ (.seq _ (.seq _ (.seq _ (.seq _ (.seq (.region _ ops _) _))))))))) => ops.toList
  | _ => []
set_option maxHeartbeats 16000000 in
set_option maxRecDepth 100000 in
theorem reg11_wp (wa : Option Addr) (m wc : Nat) (fs : List Int) (da : Option Addr) (n dc : Nat) (ds : List DK) (t : Int) (la : Option Addr) (en lc : Nat) (es : List Int) (cd : Int) (ra : Option Addr) (rn rc : Nat) (rs : List Int) (r r' r6 : Int) (w w3 : World) (cel : (∀ w', Below w3.heap.size w3 w' → (w'.cell? ⟨w.heap.size, 0, none⟩ = some (.slice wa m wc) ∧ w'.cell? ⟨w.heap.size, 1, none⟩ = some (.slice da n dc)) ∧ w'.cell? ⟨w.heap.size + 1, 0, none⟩ = some (.int .i64 cd) ∧ w'.cell? ⟨w.heap.size + 1, 1, none⟩ = some (.slice ra rn rc))) (ins : (TripAt w3 wa m fs ∧ DescAt w3 da n ds ∧ TripAt w3 la en es ∧ IntAt w3 ra rn rs)) (sm : Small n ds) (hl : ds.length = n) (hm1 : m ≤ 1048576) (hn1 : n ≤ 1048576) (hen1 : en ≤ 1048576) (hrn1 : rn ≤ 1048576) :
    (Code.region 11 (List.toArray reg11) true).wp Try.prog (Exit.then (fun a' w' => ∃ (b1 b2 g1 h1 g2 g3 : Nat) (pa : Option Addr) (pc : Nat) (pd : Option Addr) (pdc : Nat) (F : Nat → Value) (ds' : List DK) (hT hS : Int) (ok : Bool), a' = ⟨List.toArray (MemV wa m wc da n dc :: .int .i64 t :: .slice la en lc :: ResV cd ra rn rc :: .pointer (some ⟨w.heap.size, 0, none⟩) :: undef :: undef :: .pointer (some ⟨w.heap.size + 1, 0, none⟩) :: .bool false :: .int .i64 r6 :: .pointer (some ⟨b1, 0, none⟩) :: .pointer (some ⟨b2, 0, none⟩) :: .bool ok :: undef :: undef :: undef :: undef :: undef :: undef :: undef :: undef :: undef :: undef :: undef :: undef :: .agg #[.slice wa m wc, .slice da n dc] :: .int .i64 1048576 :: .int .i64 r :: .int .i64 r :: .bool (decide (r < 0)) :: .slice la en lc :: .int .i64 r :: .int .i64 r' :: .int .i64 r' :: .bool (decide (r' < 0)) :: .agg #[.int .i64 cd, .slice ra rn rc] :: .int .i64 r' :: .int .i64 r6 :: .int .i64 r6 :: .bool (decide (r6 < 0)) :: .tuple #[MemV pa m pc pd n pdc, HelpV hT hS 0 0, .bool ok] :: .agg #[.slice wa m wc, .slice da n dc] :: MemV (some ⟨g1, 0, none⟩) m m (some ⟨h1, 0, none⟩) n n :: .int .i64 t :: .slice la en lc :: .slice (some ⟨g2, 0, none⟩) en en :: .agg #[.int .i64 cd, .slice ra rn rc] :: ResV cd (some ⟨g3, 0, none⟩) rn rn :: .tuple #[MemV pa m pc pd n pdc, HelpV hT hS 0 0, .bool ok] :: MemV pa m pc pd n pdc :: HelpV hT hS 0 0 :: .bool ok :: undef :: undef :: undef :: undef :: undef :: undef :: undef :: undef :: undef :: undef :: undef :: undef :: undef :: undef :: undef :: undef :: undef :: undef :: undef :: undef :: undef :: undef :: undef :: undef :: undef :: undef :: undef :: undef :: undef :: undef :: undef :: undef :: undef :: undef :: undef :: undef :: undef :: undef :: undef :: undef :: undef :: undef :: undef :: undef :: undef :: undef :: undef :: undef :: undef :: undef :: undef :: undef :: undef :: undef :: undef :: undef :: undef :: undef :: undef :: undef :: undef :: undef :: undef :: undef :: undef :: undef :: undef :: undef :: undef :: undef :: undef :: undef :: undef :: undef :: undef :: undef :: undef :: undef :: undef :: undef :: undef :: undef :: undef :: undef :: undef :: undef :: undef :: undef :: undef :: undef :: undef :: undef :: undef :: undef :: undef :: undef :: undef :: undef :: undef :: undef :: undef :: undef :: undef :: undef :: undef :: undef :: undef :: undef :: undef :: undef :: undef :: undef :: undef :: undef :: undef :: undef :: undef :: undef :: undef :: []), []⟩ ∧ (F 0 = .slice pa m pc ∧ F 1 = .slice pd n pdc) ∧ BeginSays fs m ds t en es cd rn rs ds' hT hS ok ∧ BegAns w3 b1 b2 F m fs n ds' hT hS w') (fun _ _ _ => False)) ⟨List.toArray (MemV wa m wc da n dc :: .int .i64 t :: .slice la en lc :: ResV cd ra rn rc :: .pointer (some ⟨w.heap.size, 0, none⟩) :: undef :: undef :: .pointer (some ⟨w.heap.size + 1, 0, none⟩) :: .bool false :: .int .i64 r6 :: undef :: undef :: undef :: undef :: undef :: undef :: undef :: undef :: undef :: undef :: undef :: undef :: undef :: undef :: undef :: .agg #[.slice wa m wc, .slice da n dc] :: .int .i64 1048576 :: .int .i64 r :: .int .i64 r :: .bool (decide (r < 0)) :: .slice la en lc :: .int .i64 r :: .int .i64 r' :: .int .i64 r' :: .bool (decide (r' < 0)) :: .agg #[.int .i64 cd, .slice ra rn rc] :: .int .i64 r' :: .int .i64 r6 :: .int .i64 r6 :: .bool (decide (r6 < 0)) :: undef :: undef :: undef :: undef :: undef :: undef :: undef :: undef :: undef :: undef :: undef :: undef :: undef :: undef :: undef :: undef :: undef :: undef :: undef :: undef :: undef :: undef :: undef :: undef :: undef :: undef :: undef :: undef :: undef :: undef :: undef :: undef :: undef :: undef :: undef :: undef :: undef :: undef :: undef :: undef :: undef :: undef :: undef :: undef :: undef :: undef :: undef :: undef :: undef :: undef :: undef :: undef :: undef :: undef :: undef :: undef :: undef :: undef :: undef :: undef :: undef :: undef :: undef :: undef :: undef :: undef :: undef :: undef :: undef :: undef :: undef :: undef :: undef :: undef :: undef :: undef :: undef :: undef :: undef :: undef :: undef :: undef :: undef :: undef :: undef :: undef :: undef :: undef :: undef :: undef :: undef :: undef :: undef :: undef :: undef :: undef :: undef :: undef :: undef :: undef :: undef :: undef :: undef :: undef :: undef :: undef :: undef :: undef :: undef :: undef :: undef :: undef :: undef :: undef :: undef :: undef :: undef :: undef :: undef :: undef :: undef :: undef :: undef :: undef :: undef :: undef :: undef :: undef :: undef :: undef :: undef :: []), []⟩ w3 := by
  have CELw3 : Hid (∀ w', Below w3.heap.size w3 w' → (w'.cell? ⟨w.heap.size, 0, none⟩ = some (.slice wa m wc) ∧ w'.cell? ⟨w.heap.size, 1, none⟩ = some (.slice da n dc)) ∧ w'.cell? ⟨w.heap.size + 1, 0, none⟩ = some (.int .i64 cd) ∧ w'.cell? ⟨w.heap.size + 1, 1, none⟩ = some (.slice ra rn rc)) := cel
  have INSw3 : Hid (TripAt w3 wa m fs ∧ DescAt w3 da n ds ∧ TripAt w3 la en es ∧ IntAt w3 ra rn rs) := ins
  have SM : Hid (Small n ds) := sm
  have HL : Hid (ds.length = n) := hl
  clear cel ins sm hl
  refine wp_region_held_drew (S := fun w' => (w'.cell? ⟨w.heap.size, 0, none⟩ = some (.slice wa m wc) ∧ w'.cell? ⟨w.heap.size, 1, none⟩ = some (.slice da n dc)) ∧ w'.cell? ⟨w.heap.size + 1, 0, none⟩ = some (.int .i64 cd) ∧ w'.cell? ⟨w.heap.size + 1, 1, none⟩ = some (.slice ra rn rc)) (by kernel_rfl) ?_ (fun hHeld => ?_)
  · exact CELw3.out _ (Below.refl _ _).drew
  obtain ⟨x0, hx0⟩ : ∃ x0, w3.drew = x0 := ⟨_, rfl⟩
  have B0 : Below w3.heap.size w3 x0 := by rw [← hx0]; exact (Below.refl _ _).drew
  rw [hx0] at hHeld ⊢
  clear hx0
  refine wpAnyH_take (i := 0) (oi := _) (v := .agg #[.slice wa m wc, .slice da n dc]) (by rw [List.getElem?_toArray]; exact rfl) (by kernel_rfl) (by kernel_rfl) (by kernel_rfl) (by intro _ _ _ h; exact h) (Or.inl ⟨by kernel_rfl, ?_⟩) hHeld ?_
  · intro w hSw; obtain ⟨⟨s1, s2⟩, s3, s4⟩ := hSw; go_simp
  (try simp only [Act.put, List.setIfInBounds_toArray, List.set_cons_zero, List.set_cons_succ])
  refine wpAnyH_take (i := 2) (oi := _) (v := .int .i64 t) (by rw [List.getElem?_toArray]; exact rfl) (by kernel_rfl) (by kernel_rfl) (by kernel_rfl) (by intro _ _ _ h; exact h) (Or.inl ⟨by kernel_rfl, ?_⟩) hHeld ?_
  · intro w hSw; obtain ⟨⟨s1, s2⟩, s3, s4⟩ := hSw; go_simp
  (try simp only [Act.put, List.setIfInBounds_toArray, List.set_cons_zero, List.set_cons_succ])
  refine wpAnyH_take (i := 3) (oi := _) (v := .slice la en lc) (by rw [List.getElem?_toArray]; exact rfl) (by kernel_rfl) (by kernel_rfl) (by kernel_rfl) (by intro _ _ _ h; exact h) (Or.inl ⟨by kernel_rfl, ?_⟩) hHeld ?_
  · intro w hSw; obtain ⟨⟨s1, s2⟩, s3, s4⟩ := hSw; go_simp
  (try simp only [Act.put, List.setIfInBounds_toArray, List.set_cons_zero, List.set_cons_succ])
  refine wpAnyH_take (i := 5) (oi := _) (v := .agg #[.int .i64 cd, .slice ra rn rc]) (by rw [List.getElem?_toArray]; exact rfl) (by kernel_rfl) (by kernel_rfl) (by kernel_rfl) (by intro _ _ _ h; exact h) (Or.inl ⟨by kernel_rfl, ?_⟩) hHeld ?_
  · intro w hSw; obtain ⟨⟨s1, s2⟩, s3, s4⟩ := hSw; go_simp
  (try simp only [Act.put, List.setIfInBounds_toArray, List.set_cons_zero, List.set_cons_succ])
  have s0 : w3.heap.size ≤ x0.heap.size := B0.size
  refine wpAnyH_ready (rs := [1, 12, 13]) (by kernel_rfl) (by simp) ?_
  refine AllReadyH.cons (o := _) (by rw [List.getElem?_toArray]; exact rfl) (fun K hK => ?_) (AllReadyH.cons (o := _) (by rw [List.getElem?_toArray]; exact rfl) (fun K hK => ?_) (AllReadyH.cons (o := _) (by rw [List.getElem?_toArray]; exact rfl) (fun K hK => ?_) AllReadyH.nil))
  · rw [if_pos (by kernel_rfl)]
    go_simp
    refine (toMem_any wa m wc fs da n dc ds _ (INSw3.out.1.below B0 (Nat.le_refl _)) (INSw3.out.2.1.below B0 (Nat.le_refl _))).mono ?_
    rintro e x1 ⟨g1, h1, rfl, hg1, hh1, o1, p1, hb⟩
    have B1 : Below w3.heap.size w3 x1 := B0.trans (hb.mono B0.size)
    have MI1 : MemIn x1 g1 h1 m n fs ds := memIn_of o1 p1 HL.out hm1 hn1 SM.out
    have s1 : x0.heap.size ≤ x1.heap.size := hb.size
    refine hK.out _ _ (CELw3.out _ B1) (fun hHeld => ?_)
    clear hK K
    (try simp only [Act.put, List.setIfInBounds_toArray, List.set_cons_zero, List.set_cons_succ])
    clear hb B0 o1 p1 hg1 hh1
    refine wpAnyH_ready (rs := [4, 12, 13]) (by kernel_rfl) (by simp) ?_
    refine AllReadyH.cons (o := _) (by rw [List.getElem?_toArray]; exact rfl) (fun K hK => ?_) (AllReadyH.cons (o := _) (by rw [List.getElem?_toArray]; exact rfl) (fun K hK => ?_) (AllReadyH.cons (o := _) (by rw [List.getElem?_toArray]; exact rfl) (fun K hK => ?_) AllReadyH.nil))
    · rw [if_pos (by kernel_rfl)]
      go_simp
      refine (toEntryS_any la en lc es _ (INSw3.out.2.2.1.below B1 (Nat.le_refl _))).mono ?_
      rintro e x2 ⟨rfl, o2, hb⟩
      have B2 : Below w3.heap.size w3 x2 := B1.trans (hb.mono B1.size)
      have MI2 := MI1.below hb (Nat.le_refl _)
      have E2 : TripAt x2 (some ⟨x1.heap.size, 0, none⟩) en es := own_tripAt o2 hen1
      have s2 : x1.heap.size ≤ x2.heap.size := hb.size
      refine hK.out _ _ (CELw3.out _ B2) (fun hHeld => ?_)
      clear hK K
      (try simp only [Act.put, List.setIfInBounds_toArray, List.set_cons_zero, List.set_cons_succ])
      clear hb B1 MI1 o2
      refine wpAnyH_ready (rs := [6, 12, 13]) (by kernel_rfl) (by simp) ?_
      refine AllReadyH.cons (o := _) (by rw [List.getElem?_toArray]; exact rfl) (fun K hK => ?_) (AllReadyH.cons (o := _) (by rw [List.getElem?_toArray]; exact rfl) (fun K hK => ?_) (AllReadyH.cons (o := _) (by rw [List.getElem?_toArray]; exact rfl) (fun K hK => ?_) AllReadyH.nil))
      · rw [if_pos (by kernel_rfl)]
        go_simp
        refine (toRes_g ra rn rc cd rs _ (INSw3.out.2.2.2.below B2 (Nat.le_refl _))).mono ?_
        rintro e x3 ⟨g3, rfl, hg3, o3, hb⟩
        have B3 : Below w3.heap.size w3 x3 := B2.trans (hb.mono B2.size)
        have MI3 := MI2.below hb (Nat.le_refl _)
        have E3 := E2.below hb (Nat.le_refl _)
        have R3 : IntAt x3 (some ⟨g3, 0, none⟩) rn rs := own_intAt o3 (by omega)
        have s3 : x2.heap.size ≤ x3.heap.size := hb.size
        refine hK.out _ _ (CELw3.out _ B3) (fun hHeld => ?_)
        clear hK K
        (try simp only [Act.put, List.setIfInBounds_toArray, List.set_cons_zero, List.set_cons_succ])
        clear hb B2 MI2 E2 o3 hg3
        refine wpAnyH_ready (rs := [7, 12, 13]) (by kernel_rfl) (by simp) ?_
        refine AllReadyH.cons (o := _) (by rw [List.getElem?_toArray]; exact rfl) (fun K hK => ?_) (AllReadyH.cons (o := _) (by rw [List.getElem?_toArray]; exact rfl) (fun K hK => ?_) (AllReadyH.cons (o := _) (by rw [List.getElem?_toArray]; exact rfl) (fun K hK => ?_) AllReadyH.nil))
        · rw [if_pos (by kernel_rfl)]
          go_simp
          refine (specBegin_any ⟨g1, 0, none⟩ m m fs (some ⟨h1, 0, none⟩) n n ds t ⟨x1.heap.size, 0, none⟩ en en es cd ⟨g3, 0, none⟩ rn rn rs _ MI3.1 MI3.2.1 MI3.2.2.1 SM.out E3 R3 hrn1).mono ?_
          rintro e x4 ⟨⟨F, ds', hT, hS, ok, rfl, says, mo⟩, hb⟩
          have B4 : Below w3.heap.size w3 x4 := B3.trans (hb.mono B3.size)
          have MI4 := MI3.below hb (Nat.le_refl _)
          have E4 := E3.below hb (Nat.le_refl _)
          have R4 := R3.below hb (Nat.le_refl _)
          have MO4 : MemO x4 x3.heap.size F m fs n ds' := mo
          have FB : Hid (∀ a, a < 2 + 2 * n → ∀ b, (F a).ownBlock = some b → x3.heap.size ≤ b ∧ b < x4.heap.size) := mo.blk
          have SAYS : Hid (BeginSays fs m ds t en es cd rn rs ds' hT hS ok) := says
          obtain ⟨pa, pc, e0, _⟩ := owns_slice mo.words
          obtain ⟨gvs, gd, _⟩ := mo.descO.descs
          obtain ⟨pd, pdc, e1, _⟩ := owns_slice gd
          have HF : Hid (F 0 = .slice pa m pc ∧ F 1 = .slice pd n pdc) := ⟨e0, e1⟩
          rw [show MemF F = MemV pa m pc pd n pdc by rw [MemF, e0, e1]]
          have s4 : x3.heap.size ≤ x4.heap.size := hb.size
          refine hK.out _ _ (CELw3.out _ B4) (fun hHeld => ?_)
          clear hK K
          (try simp only [Act.put, List.setIfInBounds_toArray, List.set_cons_zero, List.set_cons_succ])
          clear hb B3 MI3 E3 R3 mo gd e0 e1 says
          refine wpAnyH_take (i := 8) (oi := _) (v := .tuple #[MemV pa m pc pd n pdc, HelpV hT hS 0 0, .bool ok]) (by rw [List.getElem?_toArray]; exact rfl) (by kernel_rfl) (by kernel_rfl) (by kernel_rfl) (by intro _ _ _ h; exact h) (Or.inl ⟨by kernel_rfl, ?_⟩) hHeld ?_
          · intro w hSw; go_simp
          (try simp only [Act.put, List.setIfInBounds_toArray, List.set_cons_zero, List.set_cons_succ])
          refine wpAnyH_take (i := 9) (oi := _) (v := MemV pa m pc pd n pdc) (by rw [List.getElem?_toArray]; exact rfl) (by kernel_rfl) (by kernel_rfl) (by kernel_rfl) (by intro _ _ _ h; exact h) (Or.inl ⟨by kernel_rfl, ?_⟩) hHeld ?_
          · intro w hSw; go_simp
          (try simp only [Act.put, List.setIfInBounds_toArray, List.set_cons_zero, List.set_cons_succ])
          refine wpAnyH_take (i := 10) (oi := _) (v := HelpV hT hS 0 0) (by rw [List.getElem?_toArray]; exact rfl) (by kernel_rfl) (by kernel_rfl) (by kernel_rfl) (by intro _ _ _ h; exact h) (Or.inl ⟨by kernel_rfl, ?_⟩) hHeld ?_
          · intro w hSw; go_simp
          (try simp only [Act.put, List.setIfInBounds_toArray, List.set_cons_zero, List.set_cons_succ])
          refine wpAnyH_take (i := 11) (oi := _) (v := .bool ok) (by rw [List.getElem?_toArray]; exact rfl) (by kernel_rfl) (by kernel_rfl) (by kernel_rfl) (by intro _ _ _ h; exact h) (Or.inl ⟨by kernel_rfl, ?_⟩) hHeld ?_
          · intro w hSw; go_simp
          (try simp only [Act.put, List.setIfInBounds_toArray, List.set_cons_zero, List.set_cons_succ])
          refine wpAnyH_ready (rs := [12, 13]) (by kernel_rfl) (by simp) ?_
          refine AllReadyH.cons (o := _) (by rw [List.getElem?_toArray]; exact rfl) (fun K hK => ?_) (AllReadyH.cons (o := _) (by rw [List.getElem?_toArray]; exact rfl) (fun K hK => ?_) AllReadyH.nil)
          · rw [if_pos (by kernel_rfl)]
            go_simp
            obtain ⟨x5, hx⟩ : ∃ y, x4.alloc (.cells #[.slice none 0 0, .slice none 0 0] 46) = y := ⟨_, rfl⟩
            have hb : Below x4.heap.size x4 x5 := by rw [← hx]; exact (Below.refl _ _).alloc (Nat.le_refl _) _
            have B5 : Below w3.heap.size w3 x5 := B4.trans (hb.mono B4.size)
            have MI5 := MI4.below hb (Nat.le_refl _)
            have E5 := E4.below hb (Nat.le_refl _)
            have R5 := R4.below hb (Nat.le_refl _)
            have MO5 := MO4.below hb (Nat.le_refl _)
            have XM5 : Box x5 x4.heap.size #[.slice none 0 0, .slice none 0 0] 46 := by rw [← hx]; exact box_of x4 _ _
            have s5 : x4.heap.size < x5.heap.size := by rw [← hx]; simp
            rw [hx]
            refine hK.out _ _ (CELw3.out _ B5) (fun hHeld => ?_)
            clear hK K
            (try simp only [Act.put, List.setIfInBounds_toArray, List.set_cons_zero, List.set_cons_succ])
            clear hb hx B4 MI4 E4 R4 MO4
            refine wpAnyH_ready (rs := [13]) (by kernel_rfl) (by simp) ?_
            refine AllReadyH.cons (o := _) (by rw [List.getElem?_toArray]; exact rfl) (fun K hK => ?_) AllReadyH.nil
            rw [if_pos (by kernel_rfl)]
            go_simp
            obtain ⟨x6, hx⟩ : ∃ y, x5.alloc (.cells #[.int .i64 0, .int .i64 0, .int .i64 0, .int .i64 0] 52) = y := ⟨_, rfl⟩
            have hb : Below x5.heap.size x5 x6 := by rw [← hx]; exact (Below.refl _ _).alloc (Nat.le_refl _) _
            have B6 : Below w3.heap.size w3 x6 := B5.trans (hb.mono B5.size)
            have MI6 := MI5.below hb (Nat.le_refl _)
            have E6 := E5.below hb (Nat.le_refl _)
            have R6 := R5.below hb (Nat.le_refl _)
            have MO6 := MO5.below hb (Nat.le_refl _)
            have XM6 := XM5.below hb XM5.lt
            have XH6 : Box x6 x5.heap.size #[.int .i64 0, .int .i64 0, .int .i64 0, .int .i64 0] 52 := by rw [← hx]; exact box_of x5 _ _
            have s6 : x5.heap.size < x6.heap.size := by rw [← hx]; simp
            rw [hx]
            refine hK.out _ _ (CELw3.out _ B6) (fun hHeld => ?_)
            clear hK K
            (try simp only [Act.put, List.setIfInBounds_toArray, List.set_cons_zero, List.set_cons_succ])
            clear hb hx B5 MI5 E5 R5 MO5 XM5
            have l1 : w3.heap.size ≤ x4.heap.size := by omega
            have l2 : w3.heap.size ≤ x5.heap.size := by omega
            have hne : x4.heap.size ≠ x5.heap.size := by omega
            have n1 : ∀ a, a < 2 + 2 * n → (F a).ownBlock ≠ some x4.heap.size := fun a ha e => by have := FB.out a ha _ e; omega
            have n2 : ∀ a, a < 2 + 2 * n → (F a).ownBlock ≠ some x5.heap.size := fun a ha e => by have := FB.out a ha _ e; omega
            have ANS : Hid (BegAns w3 x4.heap.size x5.heap.size F m fs n ds' hT hS _) := begAns_of (hT := hT) (hS := hS) B6 XM6 XH6 l1 l2 hne (MO6.weaken (by omega)) n1 n2
            rw [HF.out.1, HF.out.2] at ANS
            obtain ⟨y0, y1, z0, z1⟩ := XM6.two
            refine wpAnyH_ready (rs := [14]) (by kernel_rfl) (by simp) ?_
            refine AllReadyH.cons (o := _) (by rw [List.getElem?_toArray]; exact rfl) (fun K hK => ?_) AllReadyH.nil
            rw [if_pos (by kernel_rfl)]
            go_simp
            refine hK.out _ _ (CELw3.out _ ((B6.setCell l1 _).setCell l1 _)) (fun hHeld => ?_)
            clear hK K
            (try simp only [Act.put, List.setIfInBounds_toArray, List.set_cons_zero, List.set_cons_succ])
            have XH' := (XH6.set (q := ⟨x4.heap.size, 0, none⟩) (show x5.heap.size ≠ x4.heap.size from hne.symm) (.slice pa m pc)).set (q := ⟨x4.heap.size, 1, none⟩) (show x5.heap.size ≠ x4.heap.size from hne.symm) (.slice pd n pdc)
            obtain ⟨⟨u0, u1, u2, u3⟩, v0, v1, v2, v3⟩ := XH'.four
            refine wpAnyH_ready (rs := [15]) (by kernel_rfl) (by simp) ?_
            refine AllReadyH.cons (o := _) (by rw [List.getElem?_toArray]; exact rfl) (fun K hK => ?_) AllReadyH.nil
            rw [if_pos (by kernel_rfl)]
            go_simp
            refine hK.out _ _ (CELw3.out _ ANS.out.bel) (fun hHeld => ?_)
            clear hK K
            (try simp only [Act.put, List.setIfInBounds_toArray, List.set_cons_zero, List.set_cons_succ])
            refine wpAnyH_take (i := 16) (oi := _) (v := .bool ok) (by rw [List.getElem?_toArray]; exact rfl) (by kernel_rfl) (by kernel_rfl) (by kernel_rfl) (by intro _ _ _ h; exact h) (Or.inl ⟨by kernel_rfl, ?_⟩) hHeld ?_
            · intro w hSw; go_simp
            (try simp only [Act.put, List.setIfInBounds_toArray, List.set_cons_zero, List.set_cons_succ])
            refine wpAnyH_done (by kernel_rfl) ?_ _
            exact ⟨x4.heap.size, x5.heap.size, g1, h1, x1.heap.size, g3, pa, pc, pd, pdc, F, ds', hT, hS, ok, rfl, HF.out, SAYS.out, ANS.out⟩
          · rw [if_pos (by kernel_rfl)]
            go_simp
            obtain ⟨x5, hx⟩ : ∃ y, x4.alloc (.cells #[.int .i64 0, .int .i64 0, .int .i64 0, .int .i64 0] 52) = y := ⟨_, rfl⟩
            have hb : Below x4.heap.size x4 x5 := by rw [← hx]; exact (Below.refl _ _).alloc (Nat.le_refl _) _
            have B5 : Below w3.heap.size w3 x5 := B4.trans (hb.mono B4.size)
            have MI5 := MI4.below hb (Nat.le_refl _)
            have E5 := E4.below hb (Nat.le_refl _)
            have R5 := R4.below hb (Nat.le_refl _)
            have MO5 := MO4.below hb (Nat.le_refl _)
            have XH5 : Box x5 x4.heap.size #[.int .i64 0, .int .i64 0, .int .i64 0, .int .i64 0] 52 := by rw [← hx]; exact box_of x4 _ _
            have s5 : x4.heap.size < x5.heap.size := by rw [← hx]; simp
            rw [hx]
            refine hK.out _ _ (CELw3.out _ B5) (fun hHeld => ?_)
            clear hK K
            (try simp only [Act.put, List.setIfInBounds_toArray, List.set_cons_zero, List.set_cons_succ])
            clear hb hx B4 MI4 E4 R4 MO4
            refine wpAnyH_ready (rs := [12]) (by kernel_rfl) (by simp) ?_
            refine AllReadyH.cons (o := _) (by rw [List.getElem?_toArray]; exact rfl) (fun K hK => ?_) AllReadyH.nil
            rw [if_pos (by kernel_rfl)]
            go_simp
            obtain ⟨x6, hx⟩ : ∃ y, x5.alloc (.cells #[.slice none 0 0, .slice none 0 0] 46) = y := ⟨_, rfl⟩
            have hb : Below x5.heap.size x5 x6 := by rw [← hx]; exact (Below.refl _ _).alloc (Nat.le_refl _) _
            have B6 : Below w3.heap.size w3 x6 := B5.trans (hb.mono B5.size)
            have MI6 := MI5.below hb (Nat.le_refl _)
            have E6 := E5.below hb (Nat.le_refl _)
            have R6 := R5.below hb (Nat.le_refl _)
            have MO6 := MO5.below hb (Nat.le_refl _)
            have XH6 := XH5.below hb XH5.lt
            have XM6 : Box x6 x5.heap.size #[.slice none 0 0, .slice none 0 0] 46 := by rw [← hx]; exact box_of x5 _ _
            have s6 : x5.heap.size < x6.heap.size := by rw [← hx]; simp
            rw [hx]
            refine hK.out _ _ (CELw3.out _ B6) (fun hHeld => ?_)
            clear hK K
            (try simp only [Act.put, List.setIfInBounds_toArray, List.set_cons_zero, List.set_cons_succ])
            clear hb hx B5 MI5 E5 R5 MO5 XH5
            have l1 : w3.heap.size ≤ x5.heap.size := by omega
            have l2 : w3.heap.size ≤ x4.heap.size := by omega
            have hne : x5.heap.size ≠ x4.heap.size := by omega
            have n1 : ∀ a, a < 2 + 2 * n → (F a).ownBlock ≠ some x5.heap.size := fun a ha e => by have := FB.out a ha _ e; omega
            have n2 : ∀ a, a < 2 + 2 * n → (F a).ownBlock ≠ some x4.heap.size := fun a ha e => by have := FB.out a ha _ e; omega
            have ANS : Hid (BegAns w3 x5.heap.size x4.heap.size F m fs n ds' hT hS _) := begAns_of (hT := hT) (hS := hS) B6 XM6 XH6 l1 l2 hne (MO6.weaken (by omega)) n1 n2
            rw [HF.out.1, HF.out.2] at ANS
            obtain ⟨y0, y1, z0, z1⟩ := XM6.two
            refine wpAnyH_ready (rs := [14]) (by kernel_rfl) (by simp) ?_
            refine AllReadyH.cons (o := _) (by rw [List.getElem?_toArray]; exact rfl) (fun K hK => ?_) AllReadyH.nil
            rw [if_pos (by kernel_rfl)]
            go_simp
            refine hK.out _ _ (CELw3.out _ ((B6.setCell l1 _).setCell l1 _)) (fun hHeld => ?_)
            clear hK K
            (try simp only [Act.put, List.setIfInBounds_toArray, List.set_cons_zero, List.set_cons_succ])
            have XH' := (XH6.set (q := ⟨x5.heap.size, 0, none⟩) (show x4.heap.size ≠ x5.heap.size from hne.symm) (.slice pa m pc)).set (q := ⟨x5.heap.size, 1, none⟩) (show x4.heap.size ≠ x5.heap.size from hne.symm) (.slice pd n pdc)
            obtain ⟨⟨u0, u1, u2, u3⟩, v0, v1, v2, v3⟩ := XH'.four
            refine wpAnyH_ready (rs := [15]) (by kernel_rfl) (by simp) ?_
            refine AllReadyH.cons (o := _) (by rw [List.getElem?_toArray]; exact rfl) (fun K hK => ?_) AllReadyH.nil
            rw [if_pos (by kernel_rfl)]
            go_simp
            refine hK.out _ _ (CELw3.out _ ANS.out.bel) (fun hHeld => ?_)
            clear hK K
            (try simp only [Act.put, List.setIfInBounds_toArray, List.set_cons_zero, List.set_cons_succ])
            refine wpAnyH_take (i := 16) (oi := _) (v := .bool ok) (by rw [List.getElem?_toArray]; exact rfl) (by kernel_rfl) (by kernel_rfl) (by kernel_rfl) (by intro _ _ _ h; exact h) (Or.inl ⟨by kernel_rfl, ?_⟩) hHeld ?_
            · intro w hSw; go_simp
            (try simp only [Act.put, List.setIfInBounds_toArray, List.set_cons_zero, List.set_cons_succ])
            refine wpAnyH_done (by kernel_rfl) ?_ _
            exact ⟨x5.heap.size, x4.heap.size, g1, h1, x1.heap.size, g3, pa, pc, pd, pdc, F, ds', hT, hS, ok, rfl, HF.out, SAYS.out, ANS.out⟩
        · rw [if_pos (by kernel_rfl)]
          go_simp
          obtain ⟨x4, hx⟩ : ∃ y, x3.alloc (.cells #[.slice none 0 0, .slice none 0 0] 46) = y := ⟨_, rfl⟩
          have hb : Below x3.heap.size x3 x4 := by rw [← hx]; exact (Below.refl _ _).alloc (Nat.le_refl _) _
          have B4 : Below w3.heap.size w3 x4 := B3.trans (hb.mono B3.size)
          have MI4 := MI3.below hb (Nat.le_refl _)
          have E4 := E3.below hb (Nat.le_refl _)
          have R4 := R3.below hb (Nat.le_refl _)
          have XM4 : Box x4 x3.heap.size #[.slice none 0 0, .slice none 0 0] 46 := by rw [← hx]; exact box_of x3 _ _
          have s4 : x3.heap.size < x4.heap.size := by rw [← hx]; simp
          rw [hx]
          refine hK.out _ _ (CELw3.out _ B4) (fun hHeld => ?_)
          clear hK K
          (try simp only [Act.put, List.setIfInBounds_toArray, List.set_cons_zero, List.set_cons_succ])
          clear hb hx B3 MI3 E3 R3
          refine wpAnyH_ready (rs := [7, 13]) (by kernel_rfl) (by simp) ?_
          refine AllReadyH.cons (o := _) (by rw [List.getElem?_toArray]; exact rfl) (fun K hK => ?_) (AllReadyH.cons (o := _) (by rw [List.getElem?_toArray]; exact rfl) (fun K hK => ?_) AllReadyH.nil)
          · rw [if_pos (by kernel_rfl)]
            go_simp
            refine (specBegin_any ⟨g1, 0, none⟩ m m fs (some ⟨h1, 0, none⟩) n n ds t ⟨x1.heap.size, 0, none⟩ en en es cd ⟨g3, 0, none⟩ rn rn rs _ MI4.1 MI4.2.1 MI4.2.2.1 SM.out E4 R4 hrn1).mono ?_
            rintro e x5 ⟨⟨F, ds', hT, hS, ok, rfl, says, mo⟩, hb⟩
            have B5 : Below w3.heap.size w3 x5 := B4.trans (hb.mono B4.size)
            have MI5 := MI4.below hb (Nat.le_refl _)
            have E5 := E4.below hb (Nat.le_refl _)
            have R5 := R4.below hb (Nat.le_refl _)
            have XM5 := XM4.below hb XM4.lt
            have MO5 : MemO x5 x4.heap.size F m fs n ds' := mo
            have FB : Hid (∀ a, a < 2 + 2 * n → ∀ b, (F a).ownBlock = some b → x4.heap.size ≤ b ∧ b < x5.heap.size) := mo.blk
            have SAYS : Hid (BeginSays fs m ds t en es cd rn rs ds' hT hS ok) := says
            obtain ⟨pa, pc, e0, _⟩ := owns_slice mo.words
            obtain ⟨gvs, gd, _⟩ := mo.descO.descs
            obtain ⟨pd, pdc, e1, _⟩ := owns_slice gd
            have HF : Hid (F 0 = .slice pa m pc ∧ F 1 = .slice pd n pdc) := ⟨e0, e1⟩
            rw [show MemF F = MemV pa m pc pd n pdc by rw [MemF, e0, e1]]
            have s5 : x4.heap.size ≤ x5.heap.size := hb.size
            refine hK.out _ _ (CELw3.out _ B5) (fun hHeld => ?_)
            clear hK K
            (try simp only [Act.put, List.setIfInBounds_toArray, List.set_cons_zero, List.set_cons_succ])
            clear hb B4 MI4 E4 R4 XM4 mo gd e0 e1 says
            refine wpAnyH_take (i := 8) (oi := _) (v := .tuple #[MemV pa m pc pd n pdc, HelpV hT hS 0 0, .bool ok]) (by rw [List.getElem?_toArray]; exact rfl) (by kernel_rfl) (by kernel_rfl) (by kernel_rfl) (by intro _ _ _ h; exact h) (Or.inl ⟨by kernel_rfl, ?_⟩) hHeld ?_
            · intro w hSw; go_simp
            (try simp only [Act.put, List.setIfInBounds_toArray, List.set_cons_zero, List.set_cons_succ])
            refine wpAnyH_take (i := 9) (oi := _) (v := MemV pa m pc pd n pdc) (by rw [List.getElem?_toArray]; exact rfl) (by kernel_rfl) (by kernel_rfl) (by kernel_rfl) (by intro _ _ _ h; exact h) (Or.inl ⟨by kernel_rfl, ?_⟩) hHeld ?_
            · intro w hSw; go_simp
            (try simp only [Act.put, List.setIfInBounds_toArray, List.set_cons_zero, List.set_cons_succ])
            refine wpAnyH_take (i := 10) (oi := _) (v := HelpV hT hS 0 0) (by rw [List.getElem?_toArray]; exact rfl) (by kernel_rfl) (by kernel_rfl) (by kernel_rfl) (by intro _ _ _ h; exact h) (Or.inl ⟨by kernel_rfl, ?_⟩) hHeld ?_
            · intro w hSw; go_simp
            (try simp only [Act.put, List.setIfInBounds_toArray, List.set_cons_zero, List.set_cons_succ])
            refine wpAnyH_take (i := 11) (oi := _) (v := .bool ok) (by rw [List.getElem?_toArray]; exact rfl) (by kernel_rfl) (by kernel_rfl) (by kernel_rfl) (by intro _ _ _ h; exact h) (Or.inl ⟨by kernel_rfl, ?_⟩) hHeld ?_
            · intro w hSw; go_simp
            (try simp only [Act.put, List.setIfInBounds_toArray, List.set_cons_zero, List.set_cons_succ])
            refine wpAnyH_ready (rs := [13]) (by kernel_rfl) (by simp) ?_
            refine AllReadyH.cons (o := _) (by rw [List.getElem?_toArray]; exact rfl) (fun K hK => ?_) AllReadyH.nil
            rw [if_pos (by kernel_rfl)]
            go_simp
            obtain ⟨x6, hx⟩ : ∃ y, x5.alloc (.cells #[.int .i64 0, .int .i64 0, .int .i64 0, .int .i64 0] 52) = y := ⟨_, rfl⟩
            have hb : Below x5.heap.size x5 x6 := by rw [← hx]; exact (Below.refl _ _).alloc (Nat.le_refl _) _
            have B6 : Below w3.heap.size w3 x6 := B5.trans (hb.mono B5.size)
            have MI6 := MI5.below hb (Nat.le_refl _)
            have E6 := E5.below hb (Nat.le_refl _)
            have R6 := R5.below hb (Nat.le_refl _)
            have MO6 := MO5.below hb (Nat.le_refl _)
            have XM6 := XM5.below hb XM5.lt
            have XH6 : Box x6 x5.heap.size #[.int .i64 0, .int .i64 0, .int .i64 0, .int .i64 0] 52 := by rw [← hx]; exact box_of x5 _ _
            have s6 : x5.heap.size < x6.heap.size := by rw [← hx]; simp
            rw [hx]
            refine hK.out _ _ (CELw3.out _ B6) (fun hHeld => ?_)
            clear hK K
            (try simp only [Act.put, List.setIfInBounds_toArray, List.set_cons_zero, List.set_cons_succ])
            clear hb hx B5 MI5 E5 R5 MO5 XM5
            have l1 : w3.heap.size ≤ x3.heap.size := by omega
            have l2 : w3.heap.size ≤ x5.heap.size := by omega
            have hne : x3.heap.size ≠ x5.heap.size := by omega
            have n1 : ∀ a, a < 2 + 2 * n → (F a).ownBlock ≠ some x3.heap.size := fun a ha e => by have := FB.out a ha _ e; omega
            have n2 : ∀ a, a < 2 + 2 * n → (F a).ownBlock ≠ some x5.heap.size := fun a ha e => by have := FB.out a ha _ e; omega
            have ANS : Hid (BegAns w3 x3.heap.size x5.heap.size F m fs n ds' hT hS _) := begAns_of (hT := hT) (hS := hS) B6 XM6 XH6 l1 l2 hne (MO6.weaken (by omega)) n1 n2
            rw [HF.out.1, HF.out.2] at ANS
            obtain ⟨y0, y1, z0, z1⟩ := XM6.two
            refine wpAnyH_ready (rs := [14]) (by kernel_rfl) (by simp) ?_
            refine AllReadyH.cons (o := _) (by rw [List.getElem?_toArray]; exact rfl) (fun K hK => ?_) AllReadyH.nil
            rw [if_pos (by kernel_rfl)]
            go_simp
            refine hK.out _ _ (CELw3.out _ ((B6.setCell l1 _).setCell l1 _)) (fun hHeld => ?_)
            clear hK K
            (try simp only [Act.put, List.setIfInBounds_toArray, List.set_cons_zero, List.set_cons_succ])
            have XH' := (XH6.set (q := ⟨x3.heap.size, 0, none⟩) (show x5.heap.size ≠ x3.heap.size from hne.symm) (.slice pa m pc)).set (q := ⟨x3.heap.size, 1, none⟩) (show x5.heap.size ≠ x3.heap.size from hne.symm) (.slice pd n pdc)
            obtain ⟨⟨u0, u1, u2, u3⟩, v0, v1, v2, v3⟩ := XH'.four
            refine wpAnyH_ready (rs := [15]) (by kernel_rfl) (by simp) ?_
            refine AllReadyH.cons (o := _) (by rw [List.getElem?_toArray]; exact rfl) (fun K hK => ?_) AllReadyH.nil
            rw [if_pos (by kernel_rfl)]
            go_simp
            refine hK.out _ _ (CELw3.out _ ANS.out.bel) (fun hHeld => ?_)
            clear hK K
            (try simp only [Act.put, List.setIfInBounds_toArray, List.set_cons_zero, List.set_cons_succ])
            refine wpAnyH_take (i := 16) (oi := _) (v := .bool ok) (by rw [List.getElem?_toArray]; exact rfl) (by kernel_rfl) (by kernel_rfl) (by kernel_rfl) (by intro _ _ _ h; exact h) (Or.inl ⟨by kernel_rfl, ?_⟩) hHeld ?_
            · intro w hSw; go_simp
            (try simp only [Act.put, List.setIfInBounds_toArray, List.set_cons_zero, List.set_cons_succ])
            refine wpAnyH_done (by kernel_rfl) ?_ _
            exact ⟨x3.heap.size, x5.heap.size, g1, h1, x1.heap.size, g3, pa, pc, pd, pdc, F, ds', hT, hS, ok, rfl, HF.out, SAYS.out, ANS.out⟩
          · rw [if_pos (by kernel_rfl)]
            go_simp
            obtain ⟨x5, hx⟩ : ∃ y, x4.alloc (.cells #[.int .i64 0, .int .i64 0, .int .i64 0, .int .i64 0] 52) = y := ⟨_, rfl⟩
            have hb : Below x4.heap.size x4 x5 := by rw [← hx]; exact (Below.refl _ _).alloc (Nat.le_refl _) _
            have B5 : Below w3.heap.size w3 x5 := B4.trans (hb.mono B4.size)
            have MI5 := MI4.below hb (Nat.le_refl _)
            have E5 := E4.below hb (Nat.le_refl _)
            have R5 := R4.below hb (Nat.le_refl _)
            have XM5 := XM4.below hb XM4.lt
            have XH5 : Box x5 x4.heap.size #[.int .i64 0, .int .i64 0, .int .i64 0, .int .i64 0] 52 := by rw [← hx]; exact box_of x4 _ _
            have s5 : x4.heap.size < x5.heap.size := by rw [← hx]; simp
            rw [hx]
            refine hK.out _ _ (CELw3.out _ B5) (fun hHeld => ?_)
            clear hK K
            (try simp only [Act.put, List.setIfInBounds_toArray, List.set_cons_zero, List.set_cons_succ])
            clear hb hx B4 MI4 E4 R4 XM4
            refine wpAnyH_ready (rs := [7]) (by kernel_rfl) (by simp) ?_
            refine AllReadyH.cons (o := _) (by rw [List.getElem?_toArray]; exact rfl) (fun K hK => ?_) AllReadyH.nil
            rw [if_pos (by kernel_rfl)]
            go_simp
            refine (specBegin_any ⟨g1, 0, none⟩ m m fs (some ⟨h1, 0, none⟩) n n ds t ⟨x1.heap.size, 0, none⟩ en en es cd ⟨g3, 0, none⟩ rn rn rs _ MI5.1 MI5.2.1 MI5.2.2.1 SM.out E5 R5 hrn1).mono ?_
            rintro e x6 ⟨⟨F, ds', hT, hS, ok, rfl, says, mo⟩, hb⟩
            have B6 : Below w3.heap.size w3 x6 := B5.trans (hb.mono B5.size)
            have MI6 := MI5.below hb (Nat.le_refl _)
            have E6 := E5.below hb (Nat.le_refl _)
            have R6 := R5.below hb (Nat.le_refl _)
            have XM6 := XM5.below hb XM5.lt
            have XH6 := XH5.below hb XH5.lt
            have MO6 : MemO x6 x5.heap.size F m fs n ds' := mo
            have FB : Hid (∀ a, a < 2 + 2 * n → ∀ b, (F a).ownBlock = some b → x5.heap.size ≤ b ∧ b < x6.heap.size) := mo.blk
            have SAYS : Hid (BeginSays fs m ds t en es cd rn rs ds' hT hS ok) := says
            obtain ⟨pa, pc, e0, _⟩ := owns_slice mo.words
            obtain ⟨gvs, gd, _⟩ := mo.descO.descs
            obtain ⟨pd, pdc, e1, _⟩ := owns_slice gd
            have HF : Hid (F 0 = .slice pa m pc ∧ F 1 = .slice pd n pdc) := ⟨e0, e1⟩
            rw [show MemF F = MemV pa m pc pd n pdc by rw [MemF, e0, e1]]
            have s6 : x5.heap.size ≤ x6.heap.size := hb.size
            refine hK.out _ _ (CELw3.out _ B6) (fun hHeld => ?_)
            clear hK K
            (try simp only [Act.put, List.setIfInBounds_toArray, List.set_cons_zero, List.set_cons_succ])
            clear hb B5 MI5 E5 R5 XM5 XH5 mo gd e0 e1 says
            refine wpAnyH_take (i := 8) (oi := _) (v := .tuple #[MemV pa m pc pd n pdc, HelpV hT hS 0 0, .bool ok]) (by rw [List.getElem?_toArray]; exact rfl) (by kernel_rfl) (by kernel_rfl) (by kernel_rfl) (by intro _ _ _ h; exact h) (Or.inl ⟨by kernel_rfl, ?_⟩) hHeld ?_
            · intro w hSw; go_simp
            (try simp only [Act.put, List.setIfInBounds_toArray, List.set_cons_zero, List.set_cons_succ])
            refine wpAnyH_take (i := 9) (oi := _) (v := MemV pa m pc pd n pdc) (by rw [List.getElem?_toArray]; exact rfl) (by kernel_rfl) (by kernel_rfl) (by kernel_rfl) (by intro _ _ _ h; exact h) (Or.inl ⟨by kernel_rfl, ?_⟩) hHeld ?_
            · intro w hSw; go_simp
            (try simp only [Act.put, List.setIfInBounds_toArray, List.set_cons_zero, List.set_cons_succ])
            refine wpAnyH_take (i := 10) (oi := _) (v := HelpV hT hS 0 0) (by rw [List.getElem?_toArray]; exact rfl) (by kernel_rfl) (by kernel_rfl) (by kernel_rfl) (by intro _ _ _ h; exact h) (Or.inl ⟨by kernel_rfl, ?_⟩) hHeld ?_
            · intro w hSw; go_simp
            (try simp only [Act.put, List.setIfInBounds_toArray, List.set_cons_zero, List.set_cons_succ])
            refine wpAnyH_take (i := 11) (oi := _) (v := .bool ok) (by rw [List.getElem?_toArray]; exact rfl) (by kernel_rfl) (by kernel_rfl) (by kernel_rfl) (by intro _ _ _ h; exact h) (Or.inl ⟨by kernel_rfl, ?_⟩) hHeld ?_
            · intro w hSw; go_simp
            (try simp only [Act.put, List.setIfInBounds_toArray, List.set_cons_zero, List.set_cons_succ])
            have l1 : w3.heap.size ≤ x3.heap.size := by omega
            have l2 : w3.heap.size ≤ x4.heap.size := by omega
            have hne : x3.heap.size ≠ x4.heap.size := by omega
            have n1 : ∀ a, a < 2 + 2 * n → (F a).ownBlock ≠ some x3.heap.size := fun a ha e => by have := FB.out a ha _ e; omega
            have n2 : ∀ a, a < 2 + 2 * n → (F a).ownBlock ≠ some x4.heap.size := fun a ha e => by have := FB.out a ha _ e; omega
            have ANS : Hid (BegAns w3 x3.heap.size x4.heap.size F m fs n ds' hT hS _) := begAns_of (hT := hT) (hS := hS) B6 XM6 XH6 l1 l2 hne (MO6.weaken (by omega)) n1 n2
            rw [HF.out.1, HF.out.2] at ANS
            obtain ⟨y0, y1, z0, z1⟩ := XM6.two
            refine wpAnyH_ready (rs := [14]) (by kernel_rfl) (by simp) ?_
            refine AllReadyH.cons (o := _) (by rw [List.getElem?_toArray]; exact rfl) (fun K hK => ?_) AllReadyH.nil
            rw [if_pos (by kernel_rfl)]
            go_simp
            refine hK.out _ _ (CELw3.out _ ((B6.setCell l1 _).setCell l1 _)) (fun hHeld => ?_)
            clear hK K
            (try simp only [Act.put, List.setIfInBounds_toArray, List.set_cons_zero, List.set_cons_succ])
            have XH' := (XH6.set (q := ⟨x3.heap.size, 0, none⟩) (show x4.heap.size ≠ x3.heap.size from hne.symm) (.slice pa m pc)).set (q := ⟨x3.heap.size, 1, none⟩) (show x4.heap.size ≠ x3.heap.size from hne.symm) (.slice pd n pdc)
            obtain ⟨⟨u0, u1, u2, u3⟩, v0, v1, v2, v3⟩ := XH'.four
            refine wpAnyH_ready (rs := [15]) (by kernel_rfl) (by simp) ?_
            refine AllReadyH.cons (o := _) (by rw [List.getElem?_toArray]; exact rfl) (fun K hK => ?_) AllReadyH.nil
            rw [if_pos (by kernel_rfl)]
            go_simp
            refine hK.out _ _ (CELw3.out _ ANS.out.bel) (fun hHeld => ?_)
            clear hK K
            (try simp only [Act.put, List.setIfInBounds_toArray, List.set_cons_zero, List.set_cons_succ])
            refine wpAnyH_take (i := 16) (oi := _) (v := .bool ok) (by rw [List.getElem?_toArray]; exact rfl) (by kernel_rfl) (by kernel_rfl) (by kernel_rfl) (by intro _ _ _ h; exact h) (Or.inl ⟨by kernel_rfl, ?_⟩) hHeld ?_
            · intro w hSw; go_simp
            (try simp only [Act.put, List.setIfInBounds_toArray, List.set_cons_zero, List.set_cons_succ])
            refine wpAnyH_done (by kernel_rfl) ?_ _
            exact ⟨x3.heap.size, x4.heap.size, g1, h1, x1.heap.size, g3, pa, pc, pd, pdc, F, ds', hT, hS, ok, rfl, HF.out, SAYS.out, ANS.out⟩
        · rw [if_pos (by kernel_rfl)]
          go_simp
          obtain ⟨x4, hx⟩ : ∃ y, x3.alloc (.cells #[.int .i64 0, .int .i64 0, .int .i64 0, .int .i64 0] 52) = y := ⟨_, rfl⟩
          have hb : Below x3.heap.size x3 x4 := by rw [← hx]; exact (Below.refl _ _).alloc (Nat.le_refl _) _
          have B4 : Below w3.heap.size w3 x4 := B3.trans (hb.mono B3.size)
          have MI4 := MI3.below hb (Nat.le_refl _)
          have E4 := E3.below hb (Nat.le_refl _)
          have R4 := R3.below hb (Nat.le_refl _)
          have XH4 : Box x4 x3.heap.size #[.int .i64 0, .int .i64 0, .int .i64 0, .int .i64 0] 52 := by rw [← hx]; exact box_of x3 _ _
          have s4 : x3.heap.size < x4.heap.size := by rw [← hx]; simp
          rw [hx]
          refine hK.out _ _ (CELw3.out _ B4) (fun hHeld => ?_)
          clear hK K
          (try simp only [Act.put, List.setIfInBounds_toArray, List.set_cons_zero, List.set_cons_succ])
          clear hb hx B3 MI3 E3 R3
          refine wpAnyH_ready (rs := [7, 12]) (by kernel_rfl) (by simp) ?_
          refine AllReadyH.cons (o := _) (by rw [List.getElem?_toArray]; exact rfl) (fun K hK => ?_) (AllReadyH.cons (o := _) (by rw [List.getElem?_toArray]; exact rfl) (fun K hK => ?_) AllReadyH.nil)
          · rw [if_pos (by kernel_rfl)]
            go_simp
            refine (specBegin_any ⟨g1, 0, none⟩ m m fs (some ⟨h1, 0, none⟩) n n ds t ⟨x1.heap.size, 0, none⟩ en en es cd ⟨g3, 0, none⟩ rn rn rs _ MI4.1 MI4.2.1 MI4.2.2.1 SM.out E4 R4 hrn1).mono ?_
            rintro e x5 ⟨⟨F, ds', hT, hS, ok, rfl, says, mo⟩, hb⟩
            have B5 : Below w3.heap.size w3 x5 := B4.trans (hb.mono B4.size)
            have MI5 := MI4.below hb (Nat.le_refl _)
            have E5 := E4.below hb (Nat.le_refl _)
            have R5 := R4.below hb (Nat.le_refl _)
            have XH5 := XH4.below hb XH4.lt
            have MO5 : MemO x5 x4.heap.size F m fs n ds' := mo
            have FB : Hid (∀ a, a < 2 + 2 * n → ∀ b, (F a).ownBlock = some b → x4.heap.size ≤ b ∧ b < x5.heap.size) := mo.blk
            have SAYS : Hid (BeginSays fs m ds t en es cd rn rs ds' hT hS ok) := says
            obtain ⟨pa, pc, e0, _⟩ := owns_slice mo.words
            obtain ⟨gvs, gd, _⟩ := mo.descO.descs
            obtain ⟨pd, pdc, e1, _⟩ := owns_slice gd
            have HF : Hid (F 0 = .slice pa m pc ∧ F 1 = .slice pd n pdc) := ⟨e0, e1⟩
            rw [show MemF F = MemV pa m pc pd n pdc by rw [MemF, e0, e1]]
            have s5 : x4.heap.size ≤ x5.heap.size := hb.size
            refine hK.out _ _ (CELw3.out _ B5) (fun hHeld => ?_)
            clear hK K
            (try simp only [Act.put, List.setIfInBounds_toArray, List.set_cons_zero, List.set_cons_succ])
            clear hb B4 MI4 E4 R4 XH4 mo gd e0 e1 says
            refine wpAnyH_take (i := 8) (oi := _) (v := .tuple #[MemV pa m pc pd n pdc, HelpV hT hS 0 0, .bool ok]) (by rw [List.getElem?_toArray]; exact rfl) (by kernel_rfl) (by kernel_rfl) (by kernel_rfl) (by intro _ _ _ h; exact h) (Or.inl ⟨by kernel_rfl, ?_⟩) hHeld ?_
            · intro w hSw; go_simp
            (try simp only [Act.put, List.setIfInBounds_toArray, List.set_cons_zero, List.set_cons_succ])
            refine wpAnyH_take (i := 9) (oi := _) (v := MemV pa m pc pd n pdc) (by rw [List.getElem?_toArray]; exact rfl) (by kernel_rfl) (by kernel_rfl) (by kernel_rfl) (by intro _ _ _ h; exact h) (Or.inl ⟨by kernel_rfl, ?_⟩) hHeld ?_
            · intro w hSw; go_simp
            (try simp only [Act.put, List.setIfInBounds_toArray, List.set_cons_zero, List.set_cons_succ])
            refine wpAnyH_take (i := 10) (oi := _) (v := HelpV hT hS 0 0) (by rw [List.getElem?_toArray]; exact rfl) (by kernel_rfl) (by kernel_rfl) (by kernel_rfl) (by intro _ _ _ h; exact h) (Or.inl ⟨by kernel_rfl, ?_⟩) hHeld ?_
            · intro w hSw; go_simp
            (try simp only [Act.put, List.setIfInBounds_toArray, List.set_cons_zero, List.set_cons_succ])
            refine wpAnyH_take (i := 11) (oi := _) (v := .bool ok) (by rw [List.getElem?_toArray]; exact rfl) (by kernel_rfl) (by kernel_rfl) (by kernel_rfl) (by intro _ _ _ h; exact h) (Or.inl ⟨by kernel_rfl, ?_⟩) hHeld ?_
            · intro w hSw; go_simp
            (try simp only [Act.put, List.setIfInBounds_toArray, List.set_cons_zero, List.set_cons_succ])
            refine wpAnyH_ready (rs := [12]) (by kernel_rfl) (by simp) ?_
            refine AllReadyH.cons (o := _) (by rw [List.getElem?_toArray]; exact rfl) (fun K hK => ?_) AllReadyH.nil
            rw [if_pos (by kernel_rfl)]
            go_simp
            obtain ⟨x6, hx⟩ : ∃ y, x5.alloc (.cells #[.slice none 0 0, .slice none 0 0] 46) = y := ⟨_, rfl⟩
            have hb : Below x5.heap.size x5 x6 := by rw [← hx]; exact (Below.refl _ _).alloc (Nat.le_refl _) _
            have B6 : Below w3.heap.size w3 x6 := B5.trans (hb.mono B5.size)
            have MI6 := MI5.below hb (Nat.le_refl _)
            have E6 := E5.below hb (Nat.le_refl _)
            have R6 := R5.below hb (Nat.le_refl _)
            have MO6 := MO5.below hb (Nat.le_refl _)
            have XH6 := XH5.below hb XH5.lt
            have XM6 : Box x6 x5.heap.size #[.slice none 0 0, .slice none 0 0] 46 := by rw [← hx]; exact box_of x5 _ _
            have s6 : x5.heap.size < x6.heap.size := by rw [← hx]; simp
            rw [hx]
            refine hK.out _ _ (CELw3.out _ B6) (fun hHeld => ?_)
            clear hK K
            (try simp only [Act.put, List.setIfInBounds_toArray, List.set_cons_zero, List.set_cons_succ])
            clear hb hx B5 MI5 E5 R5 MO5 XH5
            have l1 : w3.heap.size ≤ x5.heap.size := by omega
            have l2 : w3.heap.size ≤ x3.heap.size := by omega
            have hne : x5.heap.size ≠ x3.heap.size := by omega
            have n1 : ∀ a, a < 2 + 2 * n → (F a).ownBlock ≠ some x5.heap.size := fun a ha e => by have := FB.out a ha _ e; omega
            have n2 : ∀ a, a < 2 + 2 * n → (F a).ownBlock ≠ some x3.heap.size := fun a ha e => by have := FB.out a ha _ e; omega
            have ANS : Hid (BegAns w3 x5.heap.size x3.heap.size F m fs n ds' hT hS _) := begAns_of (hT := hT) (hS := hS) B6 XM6 XH6 l1 l2 hne (MO6.weaken (by omega)) n1 n2
            rw [HF.out.1, HF.out.2] at ANS
            obtain ⟨y0, y1, z0, z1⟩ := XM6.two
            refine wpAnyH_ready (rs := [14]) (by kernel_rfl) (by simp) ?_
            refine AllReadyH.cons (o := _) (by rw [List.getElem?_toArray]; exact rfl) (fun K hK => ?_) AllReadyH.nil
            rw [if_pos (by kernel_rfl)]
            go_simp
            refine hK.out _ _ (CELw3.out _ ((B6.setCell l1 _).setCell l1 _)) (fun hHeld => ?_)
            clear hK K
            (try simp only [Act.put, List.setIfInBounds_toArray, List.set_cons_zero, List.set_cons_succ])
            have XH' := (XH6.set (q := ⟨x5.heap.size, 0, none⟩) (show x3.heap.size ≠ x5.heap.size from hne.symm) (.slice pa m pc)).set (q := ⟨x5.heap.size, 1, none⟩) (show x3.heap.size ≠ x5.heap.size from hne.symm) (.slice pd n pdc)
            obtain ⟨⟨u0, u1, u2, u3⟩, v0, v1, v2, v3⟩ := XH'.four
            refine wpAnyH_ready (rs := [15]) (by kernel_rfl) (by simp) ?_
            refine AllReadyH.cons (o := _) (by rw [List.getElem?_toArray]; exact rfl) (fun K hK => ?_) AllReadyH.nil
            rw [if_pos (by kernel_rfl)]
            go_simp
            refine hK.out _ _ (CELw3.out _ ANS.out.bel) (fun hHeld => ?_)
            clear hK K
            (try simp only [Act.put, List.setIfInBounds_toArray, List.set_cons_zero, List.set_cons_succ])
            refine wpAnyH_take (i := 16) (oi := _) (v := .bool ok) (by rw [List.getElem?_toArray]; exact rfl) (by kernel_rfl) (by kernel_rfl) (by kernel_rfl) (by intro _ _ _ h; exact h) (Or.inl ⟨by kernel_rfl, ?_⟩) hHeld ?_
            · intro w hSw; go_simp
            (try simp only [Act.put, List.setIfInBounds_toArray, List.set_cons_zero, List.set_cons_succ])
            refine wpAnyH_done (by kernel_rfl) ?_ _
            exact ⟨x5.heap.size, x3.heap.size, g1, h1, x1.heap.size, g3, pa, pc, pd, pdc, F, ds', hT, hS, ok, rfl, HF.out, SAYS.out, ANS.out⟩
          · rw [if_pos (by kernel_rfl)]
            go_simp
            obtain ⟨x5, hx⟩ : ∃ y, x4.alloc (.cells #[.slice none 0 0, .slice none 0 0] 46) = y := ⟨_, rfl⟩
            have hb : Below x4.heap.size x4 x5 := by rw [← hx]; exact (Below.refl _ _).alloc (Nat.le_refl _) _
            have B5 : Below w3.heap.size w3 x5 := B4.trans (hb.mono B4.size)
            have MI5 := MI4.below hb (Nat.le_refl _)
            have E5 := E4.below hb (Nat.le_refl _)
            have R5 := R4.below hb (Nat.le_refl _)
            have XH5 := XH4.below hb XH4.lt
            have XM5 : Box x5 x4.heap.size #[.slice none 0 0, .slice none 0 0] 46 := by rw [← hx]; exact box_of x4 _ _
            have s5 : x4.heap.size < x5.heap.size := by rw [← hx]; simp
            rw [hx]
            refine hK.out _ _ (CELw3.out _ B5) (fun hHeld => ?_)
            clear hK K
            (try simp only [Act.put, List.setIfInBounds_toArray, List.set_cons_zero, List.set_cons_succ])
            clear hb hx B4 MI4 E4 R4 XH4
            refine wpAnyH_ready (rs := [7]) (by kernel_rfl) (by simp) ?_
            refine AllReadyH.cons (o := _) (by rw [List.getElem?_toArray]; exact rfl) (fun K hK => ?_) AllReadyH.nil
            rw [if_pos (by kernel_rfl)]
            go_simp
            refine (specBegin_any ⟨g1, 0, none⟩ m m fs (some ⟨h1, 0, none⟩) n n ds t ⟨x1.heap.size, 0, none⟩ en en es cd ⟨g3, 0, none⟩ rn rn rs _ MI5.1 MI5.2.1 MI5.2.2.1 SM.out E5 R5 hrn1).mono ?_
            rintro e x6 ⟨⟨F, ds', hT, hS, ok, rfl, says, mo⟩, hb⟩
            have B6 : Below w3.heap.size w3 x6 := B5.trans (hb.mono B5.size)
            have MI6 := MI5.below hb (Nat.le_refl _)
            have E6 := E5.below hb (Nat.le_refl _)
            have R6 := R5.below hb (Nat.le_refl _)
            have XM6 := XM5.below hb XM5.lt
            have XH6 := XH5.below hb XH5.lt
            have MO6 : MemO x6 x5.heap.size F m fs n ds' := mo
            have FB : Hid (∀ a, a < 2 + 2 * n → ∀ b, (F a).ownBlock = some b → x5.heap.size ≤ b ∧ b < x6.heap.size) := mo.blk
            have SAYS : Hid (BeginSays fs m ds t en es cd rn rs ds' hT hS ok) := says
            obtain ⟨pa, pc, e0, _⟩ := owns_slice mo.words
            obtain ⟨gvs, gd, _⟩ := mo.descO.descs
            obtain ⟨pd, pdc, e1, _⟩ := owns_slice gd
            have HF : Hid (F 0 = .slice pa m pc ∧ F 1 = .slice pd n pdc) := ⟨e0, e1⟩
            rw [show MemF F = MemV pa m pc pd n pdc by rw [MemF, e0, e1]]
            have s6 : x5.heap.size ≤ x6.heap.size := hb.size
            refine hK.out _ _ (CELw3.out _ B6) (fun hHeld => ?_)
            clear hK K
            (try simp only [Act.put, List.setIfInBounds_toArray, List.set_cons_zero, List.set_cons_succ])
            clear hb B5 MI5 E5 R5 XM5 XH5 mo gd e0 e1 says
            refine wpAnyH_take (i := 8) (oi := _) (v := .tuple #[MemV pa m pc pd n pdc, HelpV hT hS 0 0, .bool ok]) (by rw [List.getElem?_toArray]; exact rfl) (by kernel_rfl) (by kernel_rfl) (by kernel_rfl) (by intro _ _ _ h; exact h) (Or.inl ⟨by kernel_rfl, ?_⟩) hHeld ?_
            · intro w hSw; go_simp
            (try simp only [Act.put, List.setIfInBounds_toArray, List.set_cons_zero, List.set_cons_succ])
            refine wpAnyH_take (i := 9) (oi := _) (v := MemV pa m pc pd n pdc) (by rw [List.getElem?_toArray]; exact rfl) (by kernel_rfl) (by kernel_rfl) (by kernel_rfl) (by intro _ _ _ h; exact h) (Or.inl ⟨by kernel_rfl, ?_⟩) hHeld ?_
            · intro w hSw; go_simp
            (try simp only [Act.put, List.setIfInBounds_toArray, List.set_cons_zero, List.set_cons_succ])
            refine wpAnyH_take (i := 10) (oi := _) (v := HelpV hT hS 0 0) (by rw [List.getElem?_toArray]; exact rfl) (by kernel_rfl) (by kernel_rfl) (by kernel_rfl) (by intro _ _ _ h; exact h) (Or.inl ⟨by kernel_rfl, ?_⟩) hHeld ?_
            · intro w hSw; go_simp
            (try simp only [Act.put, List.setIfInBounds_toArray, List.set_cons_zero, List.set_cons_succ])
            refine wpAnyH_take (i := 11) (oi := _) (v := .bool ok) (by rw [List.getElem?_toArray]; exact rfl) (by kernel_rfl) (by kernel_rfl) (by kernel_rfl) (by intro _ _ _ h; exact h) (Or.inl ⟨by kernel_rfl, ?_⟩) hHeld ?_
            · intro w hSw; go_simp
            (try simp only [Act.put, List.setIfInBounds_toArray, List.set_cons_zero, List.set_cons_succ])
            have l1 : w3.heap.size ≤ x4.heap.size := by omega
            have l2 : w3.heap.size ≤ x3.heap.size := by omega
            have hne : x4.heap.size ≠ x3.heap.size := by omega
            have n1 : ∀ a, a < 2 + 2 * n → (F a).ownBlock ≠ some x4.heap.size := fun a ha e => by have := FB.out a ha _ e; omega
            have n2 : ∀ a, a < 2 + 2 * n → (F a).ownBlock ≠ some x3.heap.size := fun a ha e => by have := FB.out a ha _ e; omega
            have ANS : Hid (BegAns w3 x4.heap.size x3.heap.size F m fs n ds' hT hS _) := begAns_of (hT := hT) (hS := hS) B6 XM6 XH6 l1 l2 hne (MO6.weaken (by omega)) n1 n2
            rw [HF.out.1, HF.out.2] at ANS
            obtain ⟨y0, y1, z0, z1⟩ := XM6.two
            refine wpAnyH_ready (rs := [14]) (by kernel_rfl) (by simp) ?_
            refine AllReadyH.cons (o := _) (by rw [List.getElem?_toArray]; exact rfl) (fun K hK => ?_) AllReadyH.nil
            rw [if_pos (by kernel_rfl)]
            go_simp
            refine hK.out _ _ (CELw3.out _ ((B6.setCell l1 _).setCell l1 _)) (fun hHeld => ?_)
            clear hK K
            (try simp only [Act.put, List.setIfInBounds_toArray, List.set_cons_zero, List.set_cons_succ])
            have XH' := (XH6.set (q := ⟨x4.heap.size, 0, none⟩) (show x3.heap.size ≠ x4.heap.size from hne.symm) (.slice pa m pc)).set (q := ⟨x4.heap.size, 1, none⟩) (show x3.heap.size ≠ x4.heap.size from hne.symm) (.slice pd n pdc)
            obtain ⟨⟨u0, u1, u2, u3⟩, v0, v1, v2, v3⟩ := XH'.four
            refine wpAnyH_ready (rs := [15]) (by kernel_rfl) (by simp) ?_
            refine AllReadyH.cons (o := _) (by rw [List.getElem?_toArray]; exact rfl) (fun K hK => ?_) AllReadyH.nil
            rw [if_pos (by kernel_rfl)]
            go_simp
            refine hK.out _ _ (CELw3.out _ ANS.out.bel) (fun hHeld => ?_)
            clear hK K
            (try simp only [Act.put, List.setIfInBounds_toArray, List.set_cons_zero, List.set_cons_succ])
            refine wpAnyH_take (i := 16) (oi := _) (v := .bool ok) (by rw [List.getElem?_toArray]; exact rfl) (by kernel_rfl) (by kernel_rfl) (by kernel_rfl) (by intro _ _ _ h; exact h) (Or.inl ⟨by kernel_rfl, ?_⟩) hHeld ?_
            · intro w hSw; go_simp
            (try simp only [Act.put, List.setIfInBounds_toArray, List.set_cons_zero, List.set_cons_succ])
            refine wpAnyH_done (by kernel_rfl) ?_ _
            exact ⟨x4.heap.size, x3.heap.size, g1, h1, x1.heap.size, g3, pa, pc, pd, pdc, F, ds', hT, hS, ok, rfl, HF.out, SAYS.out, ANS.out⟩
      · rw [if_pos (by kernel_rfl)]
        go_simp
        obtain ⟨x3, hx⟩ : ∃ y, x2.alloc (.cells #[.slice none 0 0, .slice none 0 0] 46) = y := ⟨_, rfl⟩
        have hb : Below x2.heap.size x2 x3 := by rw [← hx]; exact (Below.refl _ _).alloc (Nat.le_refl _) _
        have B3 : Below w3.heap.size w3 x3 := B2.trans (hb.mono B2.size)
        have MI3 := MI2.below hb (Nat.le_refl _)
        have E3 := E2.below hb (Nat.le_refl _)
        have XM3 : Box x3 x2.heap.size #[.slice none 0 0, .slice none 0 0] 46 := by rw [← hx]; exact box_of x2 _ _
        have s3 : x2.heap.size < x3.heap.size := by rw [← hx]; simp
        rw [hx]
        refine hK.out _ _ (CELw3.out _ B3) (fun hHeld => ?_)
        clear hK K
        (try simp only [Act.put, List.setIfInBounds_toArray, List.set_cons_zero, List.set_cons_succ])
        clear hb hx B2 MI2 E2
        refine wpAnyH_ready (rs := [6, 13]) (by kernel_rfl) (by simp) ?_
        refine AllReadyH.cons (o := _) (by rw [List.getElem?_toArray]; exact rfl) (fun K hK => ?_) (AllReadyH.cons (o := _) (by rw [List.getElem?_toArray]; exact rfl) (fun K hK => ?_) AllReadyH.nil)
        · rw [if_pos (by kernel_rfl)]
          go_simp
          refine (toRes_g ra rn rc cd rs _ (INSw3.out.2.2.2.below B3 (Nat.le_refl _))).mono ?_
          rintro e x4 ⟨g3, rfl, hg3, o3, hb⟩
          have B4 : Below w3.heap.size w3 x4 := B3.trans (hb.mono B3.size)
          have MI4 := MI3.below hb (Nat.le_refl _)
          have E4 := E3.below hb (Nat.le_refl _)
          have XM4 := XM3.below hb XM3.lt
          have R4 : IntAt x4 (some ⟨g3, 0, none⟩) rn rs := own_intAt o3 (by omega)
          have s4 : x3.heap.size ≤ x4.heap.size := hb.size
          refine hK.out _ _ (CELw3.out _ B4) (fun hHeld => ?_)
          clear hK K
          (try simp only [Act.put, List.setIfInBounds_toArray, List.set_cons_zero, List.set_cons_succ])
          clear hb B3 MI3 E3 XM3 o3 hg3
          refine wpAnyH_ready (rs := [7, 13]) (by kernel_rfl) (by simp) ?_
          refine AllReadyH.cons (o := _) (by rw [List.getElem?_toArray]; exact rfl) (fun K hK => ?_) (AllReadyH.cons (o := _) (by rw [List.getElem?_toArray]; exact rfl) (fun K hK => ?_) AllReadyH.nil)
          · rw [if_pos (by kernel_rfl)]
            go_simp
            refine (specBegin_any ⟨g1, 0, none⟩ m m fs (some ⟨h1, 0, none⟩) n n ds t ⟨x1.heap.size, 0, none⟩ en en es cd ⟨g3, 0, none⟩ rn rn rs _ MI4.1 MI4.2.1 MI4.2.2.1 SM.out E4 R4 hrn1).mono ?_
            rintro e x5 ⟨⟨F, ds', hT, hS, ok, rfl, says, mo⟩, hb⟩
            have B5 : Below w3.heap.size w3 x5 := B4.trans (hb.mono B4.size)
            have MI5 := MI4.below hb (Nat.le_refl _)
            have E5 := E4.below hb (Nat.le_refl _)
            have R5 := R4.below hb (Nat.le_refl _)
            have XM5 := XM4.below hb XM4.lt
            have MO5 : MemO x5 x4.heap.size F m fs n ds' := mo
            have FB : Hid (∀ a, a < 2 + 2 * n → ∀ b, (F a).ownBlock = some b → x4.heap.size ≤ b ∧ b < x5.heap.size) := mo.blk
            have SAYS : Hid (BeginSays fs m ds t en es cd rn rs ds' hT hS ok) := says
            obtain ⟨pa, pc, e0, _⟩ := owns_slice mo.words
            obtain ⟨gvs, gd, _⟩ := mo.descO.descs
            obtain ⟨pd, pdc, e1, _⟩ := owns_slice gd
            have HF : Hid (F 0 = .slice pa m pc ∧ F 1 = .slice pd n pdc) := ⟨e0, e1⟩
            rw [show MemF F = MemV pa m pc pd n pdc by rw [MemF, e0, e1]]
            have s5 : x4.heap.size ≤ x5.heap.size := hb.size
            refine hK.out _ _ (CELw3.out _ B5) (fun hHeld => ?_)
            clear hK K
            (try simp only [Act.put, List.setIfInBounds_toArray, List.set_cons_zero, List.set_cons_succ])
            clear hb B4 MI4 E4 R4 XM4 mo gd e0 e1 says
            refine wpAnyH_take (i := 8) (oi := _) (v := .tuple #[MemV pa m pc pd n pdc, HelpV hT hS 0 0, .bool ok]) (by rw [List.getElem?_toArray]; exact rfl) (by kernel_rfl) (by kernel_rfl) (by kernel_rfl) (by intro _ _ _ h; exact h) (Or.inl ⟨by kernel_rfl, ?_⟩) hHeld ?_
            · intro w hSw; go_simp
            (try simp only [Act.put, List.setIfInBounds_toArray, List.set_cons_zero, List.set_cons_succ])
            refine wpAnyH_take (i := 9) (oi := _) (v := MemV pa m pc pd n pdc) (by rw [List.getElem?_toArray]; exact rfl) (by kernel_rfl) (by kernel_rfl) (by kernel_rfl) (by intro _ _ _ h; exact h) (Or.inl ⟨by kernel_rfl, ?_⟩) hHeld ?_
            · intro w hSw; go_simp
            (try simp only [Act.put, List.setIfInBounds_toArray, List.set_cons_zero, List.set_cons_succ])
            refine wpAnyH_take (i := 10) (oi := _) (v := HelpV hT hS 0 0) (by rw [List.getElem?_toArray]; exact rfl) (by kernel_rfl) (by kernel_rfl) (by kernel_rfl) (by intro _ _ _ h; exact h) (Or.inl ⟨by kernel_rfl, ?_⟩) hHeld ?_
            · intro w hSw; go_simp
            (try simp only [Act.put, List.setIfInBounds_toArray, List.set_cons_zero, List.set_cons_succ])
            refine wpAnyH_take (i := 11) (oi := _) (v := .bool ok) (by rw [List.getElem?_toArray]; exact rfl) (by kernel_rfl) (by kernel_rfl) (by kernel_rfl) (by intro _ _ _ h; exact h) (Or.inl ⟨by kernel_rfl, ?_⟩) hHeld ?_
            · intro w hSw; go_simp
            (try simp only [Act.put, List.setIfInBounds_toArray, List.set_cons_zero, List.set_cons_succ])
            refine wpAnyH_ready (rs := [13]) (by kernel_rfl) (by simp) ?_
            refine AllReadyH.cons (o := _) (by rw [List.getElem?_toArray]; exact rfl) (fun K hK => ?_) AllReadyH.nil
            rw [if_pos (by kernel_rfl)]
            go_simp
            obtain ⟨x6, hx⟩ : ∃ y, x5.alloc (.cells #[.int .i64 0, .int .i64 0, .int .i64 0, .int .i64 0] 52) = y := ⟨_, rfl⟩
            have hb : Below x5.heap.size x5 x6 := by rw [← hx]; exact (Below.refl _ _).alloc (Nat.le_refl _) _
            have B6 : Below w3.heap.size w3 x6 := B5.trans (hb.mono B5.size)
            have MI6 := MI5.below hb (Nat.le_refl _)
            have E6 := E5.below hb (Nat.le_refl _)
            have R6 := R5.below hb (Nat.le_refl _)
            have MO6 := MO5.below hb (Nat.le_refl _)
            have XM6 := XM5.below hb XM5.lt
            have XH6 : Box x6 x5.heap.size #[.int .i64 0, .int .i64 0, .int .i64 0, .int .i64 0] 52 := by rw [← hx]; exact box_of x5 _ _
            have s6 : x5.heap.size < x6.heap.size := by rw [← hx]; simp
            rw [hx]
            refine hK.out _ _ (CELw3.out _ B6) (fun hHeld => ?_)
            clear hK K
            (try simp only [Act.put, List.setIfInBounds_toArray, List.set_cons_zero, List.set_cons_succ])
            clear hb hx B5 MI5 E5 R5 MO5 XM5
            have l1 : w3.heap.size ≤ x2.heap.size := by omega
            have l2 : w3.heap.size ≤ x5.heap.size := by omega
            have hne : x2.heap.size ≠ x5.heap.size := by omega
            have n1 : ∀ a, a < 2 + 2 * n → (F a).ownBlock ≠ some x2.heap.size := fun a ha e => by have := FB.out a ha _ e; omega
            have n2 : ∀ a, a < 2 + 2 * n → (F a).ownBlock ≠ some x5.heap.size := fun a ha e => by have := FB.out a ha _ e; omega
            have ANS : Hid (BegAns w3 x2.heap.size x5.heap.size F m fs n ds' hT hS _) := begAns_of (hT := hT) (hS := hS) B6 XM6 XH6 l1 l2 hne (MO6.weaken (by omega)) n1 n2
            rw [HF.out.1, HF.out.2] at ANS
            obtain ⟨y0, y1, z0, z1⟩ := XM6.two
            refine wpAnyH_ready (rs := [14]) (by kernel_rfl) (by simp) ?_
            refine AllReadyH.cons (o := _) (by rw [List.getElem?_toArray]; exact rfl) (fun K hK => ?_) AllReadyH.nil
            rw [if_pos (by kernel_rfl)]
            go_simp
            refine hK.out _ _ (CELw3.out _ ((B6.setCell l1 _).setCell l1 _)) (fun hHeld => ?_)
            clear hK K
            (try simp only [Act.put, List.setIfInBounds_toArray, List.set_cons_zero, List.set_cons_succ])
            have XH' := (XH6.set (q := ⟨x2.heap.size, 0, none⟩) (show x5.heap.size ≠ x2.heap.size from hne.symm) (.slice pa m pc)).set (q := ⟨x2.heap.size, 1, none⟩) (show x5.heap.size ≠ x2.heap.size from hne.symm) (.slice pd n pdc)
            obtain ⟨⟨u0, u1, u2, u3⟩, v0, v1, v2, v3⟩ := XH'.four
            refine wpAnyH_ready (rs := [15]) (by kernel_rfl) (by simp) ?_
            refine AllReadyH.cons (o := _) (by rw [List.getElem?_toArray]; exact rfl) (fun K hK => ?_) AllReadyH.nil
            rw [if_pos (by kernel_rfl)]
            go_simp
            refine hK.out _ _ (CELw3.out _ ANS.out.bel) (fun hHeld => ?_)
            clear hK K
            (try simp only [Act.put, List.setIfInBounds_toArray, List.set_cons_zero, List.set_cons_succ])
            refine wpAnyH_take (i := 16) (oi := _) (v := .bool ok) (by rw [List.getElem?_toArray]; exact rfl) (by kernel_rfl) (by kernel_rfl) (by kernel_rfl) (by intro _ _ _ h; exact h) (Or.inl ⟨by kernel_rfl, ?_⟩) hHeld ?_
            · intro w hSw; go_simp
            (try simp only [Act.put, List.setIfInBounds_toArray, List.set_cons_zero, List.set_cons_succ])
            refine wpAnyH_done (by kernel_rfl) ?_ _
            exact ⟨x2.heap.size, x5.heap.size, g1, h1, x1.heap.size, g3, pa, pc, pd, pdc, F, ds', hT, hS, ok, rfl, HF.out, SAYS.out, ANS.out⟩
          · rw [if_pos (by kernel_rfl)]
            go_simp
            obtain ⟨x5, hx⟩ : ∃ y, x4.alloc (.cells #[.int .i64 0, .int .i64 0, .int .i64 0, .int .i64 0] 52) = y := ⟨_, rfl⟩
            have hb : Below x4.heap.size x4 x5 := by rw [← hx]; exact (Below.refl _ _).alloc (Nat.le_refl _) _
            have B5 : Below w3.heap.size w3 x5 := B4.trans (hb.mono B4.size)
            have MI5 := MI4.below hb (Nat.le_refl _)
            have E5 := E4.below hb (Nat.le_refl _)
            have R5 := R4.below hb (Nat.le_refl _)
            have XM5 := XM4.below hb XM4.lt
            have XH5 : Box x5 x4.heap.size #[.int .i64 0, .int .i64 0, .int .i64 0, .int .i64 0] 52 := by rw [← hx]; exact box_of x4 _ _
            have s5 : x4.heap.size < x5.heap.size := by rw [← hx]; simp
            rw [hx]
            refine hK.out _ _ (CELw3.out _ B5) (fun hHeld => ?_)
            clear hK K
            (try simp only [Act.put, List.setIfInBounds_toArray, List.set_cons_zero, List.set_cons_succ])
            clear hb hx B4 MI4 E4 R4 XM4
            refine wpAnyH_ready (rs := [7]) (by kernel_rfl) (by simp) ?_
            refine AllReadyH.cons (o := _) (by rw [List.getElem?_toArray]; exact rfl) (fun K hK => ?_) AllReadyH.nil
            rw [if_pos (by kernel_rfl)]
            go_simp
            refine (specBegin_any ⟨g1, 0, none⟩ m m fs (some ⟨h1, 0, none⟩) n n ds t ⟨x1.heap.size, 0, none⟩ en en es cd ⟨g3, 0, none⟩ rn rn rs _ MI5.1 MI5.2.1 MI5.2.2.1 SM.out E5 R5 hrn1).mono ?_
            rintro e x6 ⟨⟨F, ds', hT, hS, ok, rfl, says, mo⟩, hb⟩
            have B6 : Below w3.heap.size w3 x6 := B5.trans (hb.mono B5.size)
            have MI6 := MI5.below hb (Nat.le_refl _)
            have E6 := E5.below hb (Nat.le_refl _)
            have R6 := R5.below hb (Nat.le_refl _)
            have XM6 := XM5.below hb XM5.lt
            have XH6 := XH5.below hb XH5.lt
            have MO6 : MemO x6 x5.heap.size F m fs n ds' := mo
            have FB : Hid (∀ a, a < 2 + 2 * n → ∀ b, (F a).ownBlock = some b → x5.heap.size ≤ b ∧ b < x6.heap.size) := mo.blk
            have SAYS : Hid (BeginSays fs m ds t en es cd rn rs ds' hT hS ok) := says
            obtain ⟨pa, pc, e0, _⟩ := owns_slice mo.words
            obtain ⟨gvs, gd, _⟩ := mo.descO.descs
            obtain ⟨pd, pdc, e1, _⟩ := owns_slice gd
            have HF : Hid (F 0 = .slice pa m pc ∧ F 1 = .slice pd n pdc) := ⟨e0, e1⟩
            rw [show MemF F = MemV pa m pc pd n pdc by rw [MemF, e0, e1]]
            have s6 : x5.heap.size ≤ x6.heap.size := hb.size
            refine hK.out _ _ (CELw3.out _ B6) (fun hHeld => ?_)
            clear hK K
            (try simp only [Act.put, List.setIfInBounds_toArray, List.set_cons_zero, List.set_cons_succ])
            clear hb B5 MI5 E5 R5 XM5 XH5 mo gd e0 e1 says
            refine wpAnyH_take (i := 8) (oi := _) (v := .tuple #[MemV pa m pc pd n pdc, HelpV hT hS 0 0, .bool ok]) (by rw [List.getElem?_toArray]; exact rfl) (by kernel_rfl) (by kernel_rfl) (by kernel_rfl) (by intro _ _ _ h; exact h) (Or.inl ⟨by kernel_rfl, ?_⟩) hHeld ?_
            · intro w hSw; go_simp
            (try simp only [Act.put, List.setIfInBounds_toArray, List.set_cons_zero, List.set_cons_succ])
            refine wpAnyH_take (i := 9) (oi := _) (v := MemV pa m pc pd n pdc) (by rw [List.getElem?_toArray]; exact rfl) (by kernel_rfl) (by kernel_rfl) (by kernel_rfl) (by intro _ _ _ h; exact h) (Or.inl ⟨by kernel_rfl, ?_⟩) hHeld ?_
            · intro w hSw; go_simp
            (try simp only [Act.put, List.setIfInBounds_toArray, List.set_cons_zero, List.set_cons_succ])
            refine wpAnyH_take (i := 10) (oi := _) (v := HelpV hT hS 0 0) (by rw [List.getElem?_toArray]; exact rfl) (by kernel_rfl) (by kernel_rfl) (by kernel_rfl) (by intro _ _ _ h; exact h) (Or.inl ⟨by kernel_rfl, ?_⟩) hHeld ?_
            · intro w hSw; go_simp
            (try simp only [Act.put, List.setIfInBounds_toArray, List.set_cons_zero, List.set_cons_succ])
            refine wpAnyH_take (i := 11) (oi := _) (v := .bool ok) (by rw [List.getElem?_toArray]; exact rfl) (by kernel_rfl) (by kernel_rfl) (by kernel_rfl) (by intro _ _ _ h; exact h) (Or.inl ⟨by kernel_rfl, ?_⟩) hHeld ?_
            · intro w hSw; go_simp
            (try simp only [Act.put, List.setIfInBounds_toArray, List.set_cons_zero, List.set_cons_succ])
            have l1 : w3.heap.size ≤ x2.heap.size := by omega
            have l2 : w3.heap.size ≤ x4.heap.size := by omega
            have hne : x2.heap.size ≠ x4.heap.size := by omega
            have n1 : ∀ a, a < 2 + 2 * n → (F a).ownBlock ≠ some x2.heap.size := fun a ha e => by have := FB.out a ha _ e; omega
            have n2 : ∀ a, a < 2 + 2 * n → (F a).ownBlock ≠ some x4.heap.size := fun a ha e => by have := FB.out a ha _ e; omega
            have ANS : Hid (BegAns w3 x2.heap.size x4.heap.size F m fs n ds' hT hS _) := begAns_of (hT := hT) (hS := hS) B6 XM6 XH6 l1 l2 hne (MO6.weaken (by omega)) n1 n2
            rw [HF.out.1, HF.out.2] at ANS
            obtain ⟨y0, y1, z0, z1⟩ := XM6.two
            refine wpAnyH_ready (rs := [14]) (by kernel_rfl) (by simp) ?_
            refine AllReadyH.cons (o := _) (by rw [List.getElem?_toArray]; exact rfl) (fun K hK => ?_) AllReadyH.nil
            rw [if_pos (by kernel_rfl)]
            go_simp
            refine hK.out _ _ (CELw3.out _ ((B6.setCell l1 _).setCell l1 _)) (fun hHeld => ?_)
            clear hK K
            (try simp only [Act.put, List.setIfInBounds_toArray, List.set_cons_zero, List.set_cons_succ])
            have XH' := (XH6.set (q := ⟨x2.heap.size, 0, none⟩) (show x4.heap.size ≠ x2.heap.size from hne.symm) (.slice pa m pc)).set (q := ⟨x2.heap.size, 1, none⟩) (show x4.heap.size ≠ x2.heap.size from hne.symm) (.slice pd n pdc)
            obtain ⟨⟨u0, u1, u2, u3⟩, v0, v1, v2, v3⟩ := XH'.four
            refine wpAnyH_ready (rs := [15]) (by kernel_rfl) (by simp) ?_
            refine AllReadyH.cons (o := _) (by rw [List.getElem?_toArray]; exact rfl) (fun K hK => ?_) AllReadyH.nil
            rw [if_pos (by kernel_rfl)]
            go_simp
            refine hK.out _ _ (CELw3.out _ ANS.out.bel) (fun hHeld => ?_)
            clear hK K
            (try simp only [Act.put, List.setIfInBounds_toArray, List.set_cons_zero, List.set_cons_succ])
            refine wpAnyH_take (i := 16) (oi := _) (v := .bool ok) (by rw [List.getElem?_toArray]; exact rfl) (by kernel_rfl) (by kernel_rfl) (by kernel_rfl) (by intro _ _ _ h; exact h) (Or.inl ⟨by kernel_rfl, ?_⟩) hHeld ?_
            · intro w hSw; go_simp
            (try simp only [Act.put, List.setIfInBounds_toArray, List.set_cons_zero, List.set_cons_succ])
            refine wpAnyH_done (by kernel_rfl) ?_ _
            exact ⟨x2.heap.size, x4.heap.size, g1, h1, x1.heap.size, g3, pa, pc, pd, pdc, F, ds', hT, hS, ok, rfl, HF.out, SAYS.out, ANS.out⟩
        · rw [if_pos (by kernel_rfl)]
          go_simp
          obtain ⟨x4, hx⟩ : ∃ y, x3.alloc (.cells #[.int .i64 0, .int .i64 0, .int .i64 0, .int .i64 0] 52) = y := ⟨_, rfl⟩
          have hb : Below x3.heap.size x3 x4 := by rw [← hx]; exact (Below.refl _ _).alloc (Nat.le_refl _) _
          have B4 : Below w3.heap.size w3 x4 := B3.trans (hb.mono B3.size)
          have MI4 := MI3.below hb (Nat.le_refl _)
          have E4 := E3.below hb (Nat.le_refl _)
          have XM4 := XM3.below hb XM3.lt
          have XH4 : Box x4 x3.heap.size #[.int .i64 0, .int .i64 0, .int .i64 0, .int .i64 0] 52 := by rw [← hx]; exact box_of x3 _ _
          have s4 : x3.heap.size < x4.heap.size := by rw [← hx]; simp
          rw [hx]
          refine hK.out _ _ (CELw3.out _ B4) (fun hHeld => ?_)
          clear hK K
          (try simp only [Act.put, List.setIfInBounds_toArray, List.set_cons_zero, List.set_cons_succ])
          clear hb hx B3 MI3 E3 XM3
          refine wpAnyH_ready (rs := [6]) (by kernel_rfl) (by simp) ?_
          refine AllReadyH.cons (o := _) (by rw [List.getElem?_toArray]; exact rfl) (fun K hK => ?_) AllReadyH.nil
          rw [if_pos (by kernel_rfl)]
          go_simp
          refine (toRes_g ra rn rc cd rs _ (INSw3.out.2.2.2.below B4 (Nat.le_refl _))).mono ?_
          rintro e x5 ⟨g3, rfl, hg3, o3, hb⟩
          have B5 : Below w3.heap.size w3 x5 := B4.trans (hb.mono B4.size)
          have MI5 := MI4.below hb (Nat.le_refl _)
          have E5 := E4.below hb (Nat.le_refl _)
          have XM5 := XM4.below hb XM4.lt
          have XH5 := XH4.below hb XH4.lt
          have R5 : IntAt x5 (some ⟨g3, 0, none⟩) rn rs := own_intAt o3 (by omega)
          have s5 : x4.heap.size ≤ x5.heap.size := hb.size
          refine hK.out _ _ (CELw3.out _ B5) (fun hHeld => ?_)
          clear hK K
          (try simp only [Act.put, List.setIfInBounds_toArray, List.set_cons_zero, List.set_cons_succ])
          clear hb B4 MI4 E4 XM4 XH4 o3 hg3
          refine wpAnyH_ready (rs := [7]) (by kernel_rfl) (by simp) ?_
          refine AllReadyH.cons (o := _) (by rw [List.getElem?_toArray]; exact rfl) (fun K hK => ?_) AllReadyH.nil
          rw [if_pos (by kernel_rfl)]
          go_simp
          refine (specBegin_any ⟨g1, 0, none⟩ m m fs (some ⟨h1, 0, none⟩) n n ds t ⟨x1.heap.size, 0, none⟩ en en es cd ⟨g3, 0, none⟩ rn rn rs _ MI5.1 MI5.2.1 MI5.2.2.1 SM.out E5 R5 hrn1).mono ?_
          rintro e x6 ⟨⟨F, ds', hT, hS, ok, rfl, says, mo⟩, hb⟩
          have B6 : Below w3.heap.size w3 x6 := B5.trans (hb.mono B5.size)
          have MI6 := MI5.below hb (Nat.le_refl _)
          have E6 := E5.below hb (Nat.le_refl _)
          have R6 := R5.below hb (Nat.le_refl _)
          have XM6 := XM5.below hb XM5.lt
          have XH6 := XH5.below hb XH5.lt
          have MO6 : MemO x6 x5.heap.size F m fs n ds' := mo
          have FB : Hid (∀ a, a < 2 + 2 * n → ∀ b, (F a).ownBlock = some b → x5.heap.size ≤ b ∧ b < x6.heap.size) := mo.blk
          have SAYS : Hid (BeginSays fs m ds t en es cd rn rs ds' hT hS ok) := says
          obtain ⟨pa, pc, e0, _⟩ := owns_slice mo.words
          obtain ⟨gvs, gd, _⟩ := mo.descO.descs
          obtain ⟨pd, pdc, e1, _⟩ := owns_slice gd
          have HF : Hid (F 0 = .slice pa m pc ∧ F 1 = .slice pd n pdc) := ⟨e0, e1⟩
          rw [show MemF F = MemV pa m pc pd n pdc by rw [MemF, e0, e1]]
          have s6 : x5.heap.size ≤ x6.heap.size := hb.size
          refine hK.out _ _ (CELw3.out _ B6) (fun hHeld => ?_)
          clear hK K
          (try simp only [Act.put, List.setIfInBounds_toArray, List.set_cons_zero, List.set_cons_succ])
          clear hb B5 MI5 E5 R5 XM5 XH5 mo gd e0 e1 says
          refine wpAnyH_take (i := 8) (oi := _) (v := .tuple #[MemV pa m pc pd n pdc, HelpV hT hS 0 0, .bool ok]) (by rw [List.getElem?_toArray]; exact rfl) (by kernel_rfl) (by kernel_rfl) (by kernel_rfl) (by intro _ _ _ h; exact h) (Or.inl ⟨by kernel_rfl, ?_⟩) hHeld ?_
          · intro w hSw; go_simp
          (try simp only [Act.put, List.setIfInBounds_toArray, List.set_cons_zero, List.set_cons_succ])
          refine wpAnyH_take (i := 9) (oi := _) (v := MemV pa m pc pd n pdc) (by rw [List.getElem?_toArray]; exact rfl) (by kernel_rfl) (by kernel_rfl) (by kernel_rfl) (by intro _ _ _ h; exact h) (Or.inl ⟨by kernel_rfl, ?_⟩) hHeld ?_
          · intro w hSw; go_simp
          (try simp only [Act.put, List.setIfInBounds_toArray, List.set_cons_zero, List.set_cons_succ])
          refine wpAnyH_take (i := 10) (oi := _) (v := HelpV hT hS 0 0) (by rw [List.getElem?_toArray]; exact rfl) (by kernel_rfl) (by kernel_rfl) (by kernel_rfl) (by intro _ _ _ h; exact h) (Or.inl ⟨by kernel_rfl, ?_⟩) hHeld ?_
          · intro w hSw; go_simp
          (try simp only [Act.put, List.setIfInBounds_toArray, List.set_cons_zero, List.set_cons_succ])
          refine wpAnyH_take (i := 11) (oi := _) (v := .bool ok) (by rw [List.getElem?_toArray]; exact rfl) (by kernel_rfl) (by kernel_rfl) (by kernel_rfl) (by intro _ _ _ h; exact h) (Or.inl ⟨by kernel_rfl, ?_⟩) hHeld ?_
          · intro w hSw; go_simp
          (try simp only [Act.put, List.setIfInBounds_toArray, List.set_cons_zero, List.set_cons_succ])
          have l1 : w3.heap.size ≤ x2.heap.size := by omega
          have l2 : w3.heap.size ≤ x3.heap.size := by omega
          have hne : x2.heap.size ≠ x3.heap.size := by omega
          have n1 : ∀ a, a < 2 + 2 * n → (F a).ownBlock ≠ some x2.heap.size := fun a ha e => by have := FB.out a ha _ e; omega
          have n2 : ∀ a, a < 2 + 2 * n → (F a).ownBlock ≠ some x3.heap.size := fun a ha e => by have := FB.out a ha _ e; omega
          have ANS : Hid (BegAns w3 x2.heap.size x3.heap.size F m fs n ds' hT hS _) := begAns_of (hT := hT) (hS := hS) B6 XM6 XH6 l1 l2 hne (MO6.weaken (by omega)) n1 n2
          rw [HF.out.1, HF.out.2] at ANS
          obtain ⟨y0, y1, z0, z1⟩ := XM6.two
          refine wpAnyH_ready (rs := [14]) (by kernel_rfl) (by simp) ?_
          refine AllReadyH.cons (o := _) (by rw [List.getElem?_toArray]; exact rfl) (fun K hK => ?_) AllReadyH.nil
          rw [if_pos (by kernel_rfl)]
          go_simp
          refine hK.out _ _ (CELw3.out _ ((B6.setCell l1 _).setCell l1 _)) (fun hHeld => ?_)
          clear hK K
          (try simp only [Act.put, List.setIfInBounds_toArray, List.set_cons_zero, List.set_cons_succ])
          have XH' := (XH6.set (q := ⟨x2.heap.size, 0, none⟩) (show x3.heap.size ≠ x2.heap.size from hne.symm) (.slice pa m pc)).set (q := ⟨x2.heap.size, 1, none⟩) (show x3.heap.size ≠ x2.heap.size from hne.symm) (.slice pd n pdc)
          obtain ⟨⟨u0, u1, u2, u3⟩, v0, v1, v2, v3⟩ := XH'.four
          refine wpAnyH_ready (rs := [15]) (by kernel_rfl) (by simp) ?_
          refine AllReadyH.cons (o := _) (by rw [List.getElem?_toArray]; exact rfl) (fun K hK => ?_) AllReadyH.nil
          rw [if_pos (by kernel_rfl)]
          go_simp
          refine hK.out _ _ (CELw3.out _ ANS.out.bel) (fun hHeld => ?_)
          clear hK K
          (try simp only [Act.put, List.setIfInBounds_toArray, List.set_cons_zero, List.set_cons_succ])
          refine wpAnyH_take (i := 16) (oi := _) (v := .bool ok) (by rw [List.getElem?_toArray]; exact rfl) (by kernel_rfl) (by kernel_rfl) (by kernel_rfl) (by intro _ _ _ h; exact h) (Or.inl ⟨by kernel_rfl, ?_⟩) hHeld ?_
          · intro w hSw; go_simp
          (try simp only [Act.put, List.setIfInBounds_toArray, List.set_cons_zero, List.set_cons_succ])
          refine wpAnyH_done (by kernel_rfl) ?_ _
          exact ⟨x2.heap.size, x3.heap.size, g1, h1, x1.heap.size, g3, pa, pc, pd, pdc, F, ds', hT, hS, ok, rfl, HF.out, SAYS.out, ANS.out⟩
      · rw [if_pos (by kernel_rfl)]
        go_simp
        obtain ⟨x3, hx⟩ : ∃ y, x2.alloc (.cells #[.int .i64 0, .int .i64 0, .int .i64 0, .int .i64 0] 52) = y := ⟨_, rfl⟩
        have hb : Below x2.heap.size x2 x3 := by rw [← hx]; exact (Below.refl _ _).alloc (Nat.le_refl _) _
        have B3 : Below w3.heap.size w3 x3 := B2.trans (hb.mono B2.size)
        have MI3 := MI2.below hb (Nat.le_refl _)
        have E3 := E2.below hb (Nat.le_refl _)
        have XH3 : Box x3 x2.heap.size #[.int .i64 0, .int .i64 0, .int .i64 0, .int .i64 0] 52 := by rw [← hx]; exact box_of x2 _ _
        have s3 : x2.heap.size < x3.heap.size := by rw [← hx]; simp
        rw [hx]
        refine hK.out _ _ (CELw3.out _ B3) (fun hHeld => ?_)
        clear hK K
        (try simp only [Act.put, List.setIfInBounds_toArray, List.set_cons_zero, List.set_cons_succ])
        clear hb hx B2 MI2 E2
        refine wpAnyH_ready (rs := [6, 12]) (by kernel_rfl) (by simp) ?_
        refine AllReadyH.cons (o := _) (by rw [List.getElem?_toArray]; exact rfl) (fun K hK => ?_) (AllReadyH.cons (o := _) (by rw [List.getElem?_toArray]; exact rfl) (fun K hK => ?_) AllReadyH.nil)
        · rw [if_pos (by kernel_rfl)]
          go_simp
          refine (toRes_g ra rn rc cd rs _ (INSw3.out.2.2.2.below B3 (Nat.le_refl _))).mono ?_
          rintro e x4 ⟨g3, rfl, hg3, o3, hb⟩
          have B4 : Below w3.heap.size w3 x4 := B3.trans (hb.mono B3.size)
          have MI4 := MI3.below hb (Nat.le_refl _)
          have E4 := E3.below hb (Nat.le_refl _)
          have XH4 := XH3.below hb XH3.lt
          have R4 : IntAt x4 (some ⟨g3, 0, none⟩) rn rs := own_intAt o3 (by omega)
          have s4 : x3.heap.size ≤ x4.heap.size := hb.size
          refine hK.out _ _ (CELw3.out _ B4) (fun hHeld => ?_)
          clear hK K
          (try simp only [Act.put, List.setIfInBounds_toArray, List.set_cons_zero, List.set_cons_succ])
          clear hb B3 MI3 E3 XH3 o3 hg3
          refine wpAnyH_ready (rs := [7, 12]) (by kernel_rfl) (by simp) ?_
          refine AllReadyH.cons (o := _) (by rw [List.getElem?_toArray]; exact rfl) (fun K hK => ?_) (AllReadyH.cons (o := _) (by rw [List.getElem?_toArray]; exact rfl) (fun K hK => ?_) AllReadyH.nil)
          · rw [if_pos (by kernel_rfl)]
            go_simp
            refine (specBegin_any ⟨g1, 0, none⟩ m m fs (some ⟨h1, 0, none⟩) n n ds t ⟨x1.heap.size, 0, none⟩ en en es cd ⟨g3, 0, none⟩ rn rn rs _ MI4.1 MI4.2.1 MI4.2.2.1 SM.out E4 R4 hrn1).mono ?_
            rintro e x5 ⟨⟨F, ds', hT, hS, ok, rfl, says, mo⟩, hb⟩
            have B5 : Below w3.heap.size w3 x5 := B4.trans (hb.mono B4.size)
            have MI5 := MI4.below hb (Nat.le_refl _)
            have E5 := E4.below hb (Nat.le_refl _)
            have R5 := R4.below hb (Nat.le_refl _)
            have XH5 := XH4.below hb XH4.lt
            have MO5 : MemO x5 x4.heap.size F m fs n ds' := mo
            have FB : Hid (∀ a, a < 2 + 2 * n → ∀ b, (F a).ownBlock = some b → x4.heap.size ≤ b ∧ b < x5.heap.size) := mo.blk
            have SAYS : Hid (BeginSays fs m ds t en es cd rn rs ds' hT hS ok) := says
            obtain ⟨pa, pc, e0, _⟩ := owns_slice mo.words
            obtain ⟨gvs, gd, _⟩ := mo.descO.descs
            obtain ⟨pd, pdc, e1, _⟩ := owns_slice gd
            have HF : Hid (F 0 = .slice pa m pc ∧ F 1 = .slice pd n pdc) := ⟨e0, e1⟩
            rw [show MemF F = MemV pa m pc pd n pdc by rw [MemF, e0, e1]]
            have s5 : x4.heap.size ≤ x5.heap.size := hb.size
            refine hK.out _ _ (CELw3.out _ B5) (fun hHeld => ?_)
            clear hK K
            (try simp only [Act.put, List.setIfInBounds_toArray, List.set_cons_zero, List.set_cons_succ])
            clear hb B4 MI4 E4 R4 XH4 mo gd e0 e1 says
            refine wpAnyH_take (i := 8) (oi := _) (v := .tuple #[MemV pa m pc pd n pdc, HelpV hT hS 0 0, .bool ok]) (by rw [List.getElem?_toArray]; exact rfl) (by kernel_rfl) (by kernel_rfl) (by kernel_rfl) (by intro _ _ _ h; exact h) (Or.inl ⟨by kernel_rfl, ?_⟩) hHeld ?_
            · intro w hSw; go_simp
            (try simp only [Act.put, List.setIfInBounds_toArray, List.set_cons_zero, List.set_cons_succ])
            refine wpAnyH_take (i := 9) (oi := _) (v := MemV pa m pc pd n pdc) (by rw [List.getElem?_toArray]; exact rfl) (by kernel_rfl) (by kernel_rfl) (by kernel_rfl) (by intro _ _ _ h; exact h) (Or.inl ⟨by kernel_rfl, ?_⟩) hHeld ?_
            · intro w hSw; go_simp
            (try simp only [Act.put, List.setIfInBounds_toArray, List.set_cons_zero, List.set_cons_succ])
            refine wpAnyH_take (i := 10) (oi := _) (v := HelpV hT hS 0 0) (by rw [List.getElem?_toArray]; exact rfl) (by kernel_rfl) (by kernel_rfl) (by kernel_rfl) (by intro _ _ _ h; exact h) (Or.inl ⟨by kernel_rfl, ?_⟩) hHeld ?_
            · intro w hSw; go_simp
            (try simp only [Act.put, List.setIfInBounds_toArray, List.set_cons_zero, List.set_cons_succ])
            refine wpAnyH_take (i := 11) (oi := _) (v := .bool ok) (by rw [List.getElem?_toArray]; exact rfl) (by kernel_rfl) (by kernel_rfl) (by kernel_rfl) (by intro _ _ _ h; exact h) (Or.inl ⟨by kernel_rfl, ?_⟩) hHeld ?_
            · intro w hSw; go_simp
            (try simp only [Act.put, List.setIfInBounds_toArray, List.set_cons_zero, List.set_cons_succ])
            refine wpAnyH_ready (rs := [12]) (by kernel_rfl) (by simp) ?_
            refine AllReadyH.cons (o := _) (by rw [List.getElem?_toArray]; exact rfl) (fun K hK => ?_) AllReadyH.nil
            rw [if_pos (by kernel_rfl)]
            go_simp
            obtain ⟨x6, hx⟩ : ∃ y, x5.alloc (.cells #[.slice none 0 0, .slice none 0 0] 46) = y := ⟨_, rfl⟩
            have hb : Below x5.heap.size x5 x6 := by rw [← hx]; exact (Below.refl _ _).alloc (Nat.le_refl _) _
            have B6 : Below w3.heap.size w3 x6 := B5.trans (hb.mono B5.size)
            have MI6 := MI5.below hb (Nat.le_refl _)
            have E6 := E5.below hb (Nat.le_refl _)
            have R6 := R5.below hb (Nat.le_refl _)
            have MO6 := MO5.below hb (Nat.le_refl _)
            have XH6 := XH5.below hb XH5.lt
            have XM6 : Box x6 x5.heap.size #[.slice none 0 0, .slice none 0 0] 46 := by rw [← hx]; exact box_of x5 _ _
            have s6 : x5.heap.size < x6.heap.size := by rw [← hx]; simp
            rw [hx]
            refine hK.out _ _ (CELw3.out _ B6) (fun hHeld => ?_)
            clear hK K
            (try simp only [Act.put, List.setIfInBounds_toArray, List.set_cons_zero, List.set_cons_succ])
            clear hb hx B5 MI5 E5 R5 MO5 XH5
            have l1 : w3.heap.size ≤ x5.heap.size := by omega
            have l2 : w3.heap.size ≤ x2.heap.size := by omega
            have hne : x5.heap.size ≠ x2.heap.size := by omega
            have n1 : ∀ a, a < 2 + 2 * n → (F a).ownBlock ≠ some x5.heap.size := fun a ha e => by have := FB.out a ha _ e; omega
            have n2 : ∀ a, a < 2 + 2 * n → (F a).ownBlock ≠ some x2.heap.size := fun a ha e => by have := FB.out a ha _ e; omega
            have ANS : Hid (BegAns w3 x5.heap.size x2.heap.size F m fs n ds' hT hS _) := begAns_of (hT := hT) (hS := hS) B6 XM6 XH6 l1 l2 hne (MO6.weaken (by omega)) n1 n2
            rw [HF.out.1, HF.out.2] at ANS
            obtain ⟨y0, y1, z0, z1⟩ := XM6.two
            refine wpAnyH_ready (rs := [14]) (by kernel_rfl) (by simp) ?_
            refine AllReadyH.cons (o := _) (by rw [List.getElem?_toArray]; exact rfl) (fun K hK => ?_) AllReadyH.nil
            rw [if_pos (by kernel_rfl)]
            go_simp
            refine hK.out _ _ (CELw3.out _ ((B6.setCell l1 _).setCell l1 _)) (fun hHeld => ?_)
            clear hK K
            (try simp only [Act.put, List.setIfInBounds_toArray, List.set_cons_zero, List.set_cons_succ])
            have XH' := (XH6.set (q := ⟨x5.heap.size, 0, none⟩) (show x2.heap.size ≠ x5.heap.size from hne.symm) (.slice pa m pc)).set (q := ⟨x5.heap.size, 1, none⟩) (show x2.heap.size ≠ x5.heap.size from hne.symm) (.slice pd n pdc)
            obtain ⟨⟨u0, u1, u2, u3⟩, v0, v1, v2, v3⟩ := XH'.four
            refine wpAnyH_ready (rs := [15]) (by kernel_rfl) (by simp) ?_
            refine AllReadyH.cons (o := _) (by rw [List.getElem?_toArray]; exact rfl) (fun K hK => ?_) AllReadyH.nil
            rw [if_pos (by kernel_rfl)]
            go_simp
            refine hK.out _ _ (CELw3.out _ ANS.out.bel) (fun hHeld => ?_)
            clear hK K
            (try simp only [Act.put, List.setIfInBounds_toArray, List.set_cons_zero, List.set_cons_succ])
            refine wpAnyH_take (i := 16) (oi := _) (v := .bool ok) (by rw [List.getElem?_toArray]; exact rfl) (by kernel_rfl) (by kernel_rfl) (by kernel_rfl) (by intro _ _ _ h; exact h) (Or.inl ⟨by kernel_rfl, ?_⟩) hHeld ?_
            · intro w hSw; go_simp
            (try simp only [Act.put, List.setIfInBounds_toArray, List.set_cons_zero, List.set_cons_succ])
            refine wpAnyH_done (by kernel_rfl) ?_ _
            exact ⟨x5.heap.size, x2.heap.size, g1, h1, x1.heap.size, g3, pa, pc, pd, pdc, F, ds', hT, hS, ok, rfl, HF.out, SAYS.out, ANS.out⟩
          · rw [if_pos (by kernel_rfl)]
            go_simp
            obtain ⟨x5, hx⟩ : ∃ y, x4.alloc (.cells #[.slice none 0 0, .slice none 0 0] 46) = y := ⟨_, rfl⟩
            have hb : Below x4.heap.size x4 x5 := by rw [← hx]; exact (Below.refl _ _).alloc (Nat.le_refl _) _
            have B5 : Below w3.heap.size w3 x5 := B4.trans (hb.mono B4.size)
            have MI5 := MI4.below hb (Nat.le_refl _)
            have E5 := E4.below hb (Nat.le_refl _)
            have R5 := R4.below hb (Nat.le_refl _)
            have XH5 := XH4.below hb XH4.lt
            have XM5 : Box x5 x4.heap.size #[.slice none 0 0, .slice none 0 0] 46 := by rw [← hx]; exact box_of x4 _ _
            have s5 : x4.heap.size < x5.heap.size := by rw [← hx]; simp
            rw [hx]
            refine hK.out _ _ (CELw3.out _ B5) (fun hHeld => ?_)
            clear hK K
            (try simp only [Act.put, List.setIfInBounds_toArray, List.set_cons_zero, List.set_cons_succ])
            clear hb hx B4 MI4 E4 R4 XH4
            refine wpAnyH_ready (rs := [7]) (by kernel_rfl) (by simp) ?_
            refine AllReadyH.cons (o := _) (by rw [List.getElem?_toArray]; exact rfl) (fun K hK => ?_) AllReadyH.nil
            rw [if_pos (by kernel_rfl)]
            go_simp
            refine (specBegin_any ⟨g1, 0, none⟩ m m fs (some ⟨h1, 0, none⟩) n n ds t ⟨x1.heap.size, 0, none⟩ en en es cd ⟨g3, 0, none⟩ rn rn rs _ MI5.1 MI5.2.1 MI5.2.2.1 SM.out E5 R5 hrn1).mono ?_
            rintro e x6 ⟨⟨F, ds', hT, hS, ok, rfl, says, mo⟩, hb⟩
            have B6 : Below w3.heap.size w3 x6 := B5.trans (hb.mono B5.size)
            have MI6 := MI5.below hb (Nat.le_refl _)
            have E6 := E5.below hb (Nat.le_refl _)
            have R6 := R5.below hb (Nat.le_refl _)
            have XM6 := XM5.below hb XM5.lt
            have XH6 := XH5.below hb XH5.lt
            have MO6 : MemO x6 x5.heap.size F m fs n ds' := mo
            have FB : Hid (∀ a, a < 2 + 2 * n → ∀ b, (F a).ownBlock = some b → x5.heap.size ≤ b ∧ b < x6.heap.size) := mo.blk
            have SAYS : Hid (BeginSays fs m ds t en es cd rn rs ds' hT hS ok) := says
            obtain ⟨pa, pc, e0, _⟩ := owns_slice mo.words
            obtain ⟨gvs, gd, _⟩ := mo.descO.descs
            obtain ⟨pd, pdc, e1, _⟩ := owns_slice gd
            have HF : Hid (F 0 = .slice pa m pc ∧ F 1 = .slice pd n pdc) := ⟨e0, e1⟩
            rw [show MemF F = MemV pa m pc pd n pdc by rw [MemF, e0, e1]]
            have s6 : x5.heap.size ≤ x6.heap.size := hb.size
            refine hK.out _ _ (CELw3.out _ B6) (fun hHeld => ?_)
            clear hK K
            (try simp only [Act.put, List.setIfInBounds_toArray, List.set_cons_zero, List.set_cons_succ])
            clear hb B5 MI5 E5 R5 XM5 XH5 mo gd e0 e1 says
            refine wpAnyH_take (i := 8) (oi := _) (v := .tuple #[MemV pa m pc pd n pdc, HelpV hT hS 0 0, .bool ok]) (by rw [List.getElem?_toArray]; exact rfl) (by kernel_rfl) (by kernel_rfl) (by kernel_rfl) (by intro _ _ _ h; exact h) (Or.inl ⟨by kernel_rfl, ?_⟩) hHeld ?_
            · intro w hSw; go_simp
            (try simp only [Act.put, List.setIfInBounds_toArray, List.set_cons_zero, List.set_cons_succ])
            refine wpAnyH_take (i := 9) (oi := _) (v := MemV pa m pc pd n pdc) (by rw [List.getElem?_toArray]; exact rfl) (by kernel_rfl) (by kernel_rfl) (by kernel_rfl) (by intro _ _ _ h; exact h) (Or.inl ⟨by kernel_rfl, ?_⟩) hHeld ?_
            · intro w hSw; go_simp
            (try simp only [Act.put, List.setIfInBounds_toArray, List.set_cons_zero, List.set_cons_succ])
            refine wpAnyH_take (i := 10) (oi := _) (v := HelpV hT hS 0 0) (by rw [List.getElem?_toArray]; exact rfl) (by kernel_rfl) (by kernel_rfl) (by kernel_rfl) (by intro _ _ _ h; exact h) (Or.inl ⟨by kernel_rfl, ?_⟩) hHeld ?_
            · intro w hSw; go_simp
            (try simp only [Act.put, List.setIfInBounds_toArray, List.set_cons_zero, List.set_cons_succ])
            refine wpAnyH_take (i := 11) (oi := _) (v := .bool ok) (by rw [List.getElem?_toArray]; exact rfl) (by kernel_rfl) (by kernel_rfl) (by kernel_rfl) (by intro _ _ _ h; exact h) (Or.inl ⟨by kernel_rfl, ?_⟩) hHeld ?_
            · intro w hSw; go_simp
            (try simp only [Act.put, List.setIfInBounds_toArray, List.set_cons_zero, List.set_cons_succ])
            have l1 : w3.heap.size ≤ x4.heap.size := by omega
            have l2 : w3.heap.size ≤ x2.heap.size := by omega
            have hne : x4.heap.size ≠ x2.heap.size := by omega
            have n1 : ∀ a, a < 2 + 2 * n → (F a).ownBlock ≠ some x4.heap.size := fun a ha e => by have := FB.out a ha _ e; omega
            have n2 : ∀ a, a < 2 + 2 * n → (F a).ownBlock ≠ some x2.heap.size := fun a ha e => by have := FB.out a ha _ e; omega
            have ANS : Hid (BegAns w3 x4.heap.size x2.heap.size F m fs n ds' hT hS _) := begAns_of (hT := hT) (hS := hS) B6 XM6 XH6 l1 l2 hne (MO6.weaken (by omega)) n1 n2
            rw [HF.out.1, HF.out.2] at ANS
            obtain ⟨y0, y1, z0, z1⟩ := XM6.two
            refine wpAnyH_ready (rs := [14]) (by kernel_rfl) (by simp) ?_
            refine AllReadyH.cons (o := _) (by rw [List.getElem?_toArray]; exact rfl) (fun K hK => ?_) AllReadyH.nil
            rw [if_pos (by kernel_rfl)]
            go_simp
            refine hK.out _ _ (CELw3.out _ ((B6.setCell l1 _).setCell l1 _)) (fun hHeld => ?_)
            clear hK K
            (try simp only [Act.put, List.setIfInBounds_toArray, List.set_cons_zero, List.set_cons_succ])
            have XH' := (XH6.set (q := ⟨x4.heap.size, 0, none⟩) (show x2.heap.size ≠ x4.heap.size from hne.symm) (.slice pa m pc)).set (q := ⟨x4.heap.size, 1, none⟩) (show x2.heap.size ≠ x4.heap.size from hne.symm) (.slice pd n pdc)
            obtain ⟨⟨u0, u1, u2, u3⟩, v0, v1, v2, v3⟩ := XH'.four
            refine wpAnyH_ready (rs := [15]) (by kernel_rfl) (by simp) ?_
            refine AllReadyH.cons (o := _) (by rw [List.getElem?_toArray]; exact rfl) (fun K hK => ?_) AllReadyH.nil
            rw [if_pos (by kernel_rfl)]
            go_simp
            refine hK.out _ _ (CELw3.out _ ANS.out.bel) (fun hHeld => ?_)
            clear hK K
            (try simp only [Act.put, List.setIfInBounds_toArray, List.set_cons_zero, List.set_cons_succ])
            refine wpAnyH_take (i := 16) (oi := _) (v := .bool ok) (by rw [List.getElem?_toArray]; exact rfl) (by kernel_rfl) (by kernel_rfl) (by kernel_rfl) (by intro _ _ _ h; exact h) (Or.inl ⟨by kernel_rfl, ?_⟩) hHeld ?_
            · intro w hSw; go_simp
            (try simp only [Act.put, List.setIfInBounds_toArray, List.set_cons_zero, List.set_cons_succ])
            refine wpAnyH_done (by kernel_rfl) ?_ _
            exact ⟨x4.heap.size, x2.heap.size, g1, h1, x1.heap.size, g3, pa, pc, pd, pdc, F, ds', hT, hS, ok, rfl, HF.out, SAYS.out, ANS.out⟩
        · rw [if_pos (by kernel_rfl)]
          go_simp
          obtain ⟨x4, hx⟩ : ∃ y, x3.alloc (.cells #[.slice none 0 0, .slice none 0 0] 46) = y := ⟨_, rfl⟩
          have hb : Below x3.heap.size x3 x4 := by rw [← hx]; exact (Below.refl _ _).alloc (Nat.le_refl _) _
          have B4 : Below w3.heap.size w3 x4 := B3.trans (hb.mono B3.size)
          have MI4 := MI3.below hb (Nat.le_refl _)
          have E4 := E3.below hb (Nat.le_refl _)
          have XH4 := XH3.below hb XH3.lt
          have XM4 : Box x4 x3.heap.size #[.slice none 0 0, .slice none 0 0] 46 := by rw [← hx]; exact box_of x3 _ _
          have s4 : x3.heap.size < x4.heap.size := by rw [← hx]; simp
          rw [hx]
          refine hK.out _ _ (CELw3.out _ B4) (fun hHeld => ?_)
          clear hK K
          (try simp only [Act.put, List.setIfInBounds_toArray, List.set_cons_zero, List.set_cons_succ])
          clear hb hx B3 MI3 E3 XH3
          refine wpAnyH_ready (rs := [6]) (by kernel_rfl) (by simp) ?_
          refine AllReadyH.cons (o := _) (by rw [List.getElem?_toArray]; exact rfl) (fun K hK => ?_) AllReadyH.nil
          rw [if_pos (by kernel_rfl)]
          go_simp
          refine (toRes_g ra rn rc cd rs _ (INSw3.out.2.2.2.below B4 (Nat.le_refl _))).mono ?_
          rintro e x5 ⟨g3, rfl, hg3, o3, hb⟩
          have B5 : Below w3.heap.size w3 x5 := B4.trans (hb.mono B4.size)
          have MI5 := MI4.below hb (Nat.le_refl _)
          have E5 := E4.below hb (Nat.le_refl _)
          have XM5 := XM4.below hb XM4.lt
          have XH5 := XH4.below hb XH4.lt
          have R5 : IntAt x5 (some ⟨g3, 0, none⟩) rn rs := own_intAt o3 (by omega)
          have s5 : x4.heap.size ≤ x5.heap.size := hb.size
          refine hK.out _ _ (CELw3.out _ B5) (fun hHeld => ?_)
          clear hK K
          (try simp only [Act.put, List.setIfInBounds_toArray, List.set_cons_zero, List.set_cons_succ])
          clear hb B4 MI4 E4 XM4 XH4 o3 hg3
          refine wpAnyH_ready (rs := [7]) (by kernel_rfl) (by simp) ?_
          refine AllReadyH.cons (o := _) (by rw [List.getElem?_toArray]; exact rfl) (fun K hK => ?_) AllReadyH.nil
          rw [if_pos (by kernel_rfl)]
          go_simp
          refine (specBegin_any ⟨g1, 0, none⟩ m m fs (some ⟨h1, 0, none⟩) n n ds t ⟨x1.heap.size, 0, none⟩ en en es cd ⟨g3, 0, none⟩ rn rn rs _ MI5.1 MI5.2.1 MI5.2.2.1 SM.out E5 R5 hrn1).mono ?_
          rintro e x6 ⟨⟨F, ds', hT, hS, ok, rfl, says, mo⟩, hb⟩
          have B6 : Below w3.heap.size w3 x6 := B5.trans (hb.mono B5.size)
          have MI6 := MI5.below hb (Nat.le_refl _)
          have E6 := E5.below hb (Nat.le_refl _)
          have R6 := R5.below hb (Nat.le_refl _)
          have XM6 := XM5.below hb XM5.lt
          have XH6 := XH5.below hb XH5.lt
          have MO6 : MemO x6 x5.heap.size F m fs n ds' := mo
          have FB : Hid (∀ a, a < 2 + 2 * n → ∀ b, (F a).ownBlock = some b → x5.heap.size ≤ b ∧ b < x6.heap.size) := mo.blk
          have SAYS : Hid (BeginSays fs m ds t en es cd rn rs ds' hT hS ok) := says
          obtain ⟨pa, pc, e0, _⟩ := owns_slice mo.words
          obtain ⟨gvs, gd, _⟩ := mo.descO.descs
          obtain ⟨pd, pdc, e1, _⟩ := owns_slice gd
          have HF : Hid (F 0 = .slice pa m pc ∧ F 1 = .slice pd n pdc) := ⟨e0, e1⟩
          rw [show MemF F = MemV pa m pc pd n pdc by rw [MemF, e0, e1]]
          have s6 : x5.heap.size ≤ x6.heap.size := hb.size
          refine hK.out _ _ (CELw3.out _ B6) (fun hHeld => ?_)
          clear hK K
          (try simp only [Act.put, List.setIfInBounds_toArray, List.set_cons_zero, List.set_cons_succ])
          clear hb B5 MI5 E5 R5 XM5 XH5 mo gd e0 e1 says
          refine wpAnyH_take (i := 8) (oi := _) (v := .tuple #[MemV pa m pc pd n pdc, HelpV hT hS 0 0, .bool ok]) (by rw [List.getElem?_toArray]; exact rfl) (by kernel_rfl) (by kernel_rfl) (by kernel_rfl) (by intro _ _ _ h; exact h) (Or.inl ⟨by kernel_rfl, ?_⟩) hHeld ?_
          · intro w hSw; go_simp
          (try simp only [Act.put, List.setIfInBounds_toArray, List.set_cons_zero, List.set_cons_succ])
          refine wpAnyH_take (i := 9) (oi := _) (v := MemV pa m pc pd n pdc) (by rw [List.getElem?_toArray]; exact rfl) (by kernel_rfl) (by kernel_rfl) (by kernel_rfl) (by intro _ _ _ h; exact h) (Or.inl ⟨by kernel_rfl, ?_⟩) hHeld ?_
          · intro w hSw; go_simp
          (try simp only [Act.put, List.setIfInBounds_toArray, List.set_cons_zero, List.set_cons_succ])
          refine wpAnyH_take (i := 10) (oi := _) (v := HelpV hT hS 0 0) (by rw [List.getElem?_toArray]; exact rfl) (by kernel_rfl) (by kernel_rfl) (by kernel_rfl) (by intro _ _ _ h; exact h) (Or.inl ⟨by kernel_rfl, ?_⟩) hHeld ?_
          · intro w hSw; go_simp
          (try simp only [Act.put, List.setIfInBounds_toArray, List.set_cons_zero, List.set_cons_succ])
          refine wpAnyH_take (i := 11) (oi := _) (v := .bool ok) (by rw [List.getElem?_toArray]; exact rfl) (by kernel_rfl) (by kernel_rfl) (by kernel_rfl) (by intro _ _ _ h; exact h) (Or.inl ⟨by kernel_rfl, ?_⟩) hHeld ?_
          · intro w hSw; go_simp
          (try simp only [Act.put, List.setIfInBounds_toArray, List.set_cons_zero, List.set_cons_succ])
          have l1 : w3.heap.size ≤ x3.heap.size := by omega
          have l2 : w3.heap.size ≤ x2.heap.size := by omega
          have hne : x3.heap.size ≠ x2.heap.size := by omega
          have n1 : ∀ a, a < 2 + 2 * n → (F a).ownBlock ≠ some x3.heap.size := fun a ha e => by have := FB.out a ha _ e; omega
          have n2 : ∀ a, a < 2 + 2 * n → (F a).ownBlock ≠ some x2.heap.size := fun a ha e => by have := FB.out a ha _ e; omega
          have ANS : Hid (BegAns w3 x3.heap.size x2.heap.size F m fs n ds' hT hS _) := begAns_of (hT := hT) (hS := hS) B6 XM6 XH6 l1 l2 hne (MO6.weaken (by omega)) n1 n2
          rw [HF.out.1, HF.out.2] at ANS
          obtain ⟨y0, y1, z0, z1⟩ := XM6.two
          refine wpAnyH_ready (rs := [14]) (by kernel_rfl) (by simp) ?_
          refine AllReadyH.cons (o := _) (by rw [List.getElem?_toArray]; exact rfl) (fun K hK => ?_) AllReadyH.nil
          rw [if_pos (by kernel_rfl)]
          go_simp
          refine hK.out _ _ (CELw3.out _ ((B6.setCell l1 _).setCell l1 _)) (fun hHeld => ?_)
          clear hK K
          (try simp only [Act.put, List.setIfInBounds_toArray, List.set_cons_zero, List.set_cons_succ])
          have XH' := (XH6.set (q := ⟨x3.heap.size, 0, none⟩) (show x2.heap.size ≠ x3.heap.size from hne.symm) (.slice pa m pc)).set (q := ⟨x3.heap.size, 1, none⟩) (show x2.heap.size ≠ x3.heap.size from hne.symm) (.slice pd n pdc)
          obtain ⟨⟨u0, u1, u2, u3⟩, v0, v1, v2, v3⟩ := XH'.four
          refine wpAnyH_ready (rs := [15]) (by kernel_rfl) (by simp) ?_
          refine AllReadyH.cons (o := _) (by rw [List.getElem?_toArray]; exact rfl) (fun K hK => ?_) AllReadyH.nil
          rw [if_pos (by kernel_rfl)]
          go_simp
          refine hK.out _ _ (CELw3.out _ ANS.out.bel) (fun hHeld => ?_)
          clear hK K
          (try simp only [Act.put, List.setIfInBounds_toArray, List.set_cons_zero, List.set_cons_succ])
          refine wpAnyH_take (i := 16) (oi := _) (v := .bool ok) (by rw [List.getElem?_toArray]; exact rfl) (by kernel_rfl) (by kernel_rfl) (by kernel_rfl) (by intro _ _ _ h; exact h) (Or.inl ⟨by kernel_rfl, ?_⟩) hHeld ?_
          · intro w hSw; go_simp
          (try simp only [Act.put, List.setIfInBounds_toArray, List.set_cons_zero, List.set_cons_succ])
          refine wpAnyH_done (by kernel_rfl) ?_ _
          exact ⟨x3.heap.size, x2.heap.size, g1, h1, x1.heap.size, g3, pa, pc, pd, pdc, F, ds', hT, hS, ok, rfl, HF.out, SAYS.out, ANS.out⟩
    · rw [if_pos (by kernel_rfl)]
      go_simp
      obtain ⟨x2, hx⟩ : ∃ y, x1.alloc (.cells #[.slice none 0 0, .slice none 0 0] 46) = y := ⟨_, rfl⟩
      have hb : Below x1.heap.size x1 x2 := by rw [← hx]; exact (Below.refl _ _).alloc (Nat.le_refl _) _
      have B2 : Below w3.heap.size w3 x2 := B1.trans (hb.mono B1.size)
      have MI2 := MI1.below hb (Nat.le_refl _)
      have XM2 : Box x2 x1.heap.size #[.slice none 0 0, .slice none 0 0] 46 := by rw [← hx]; exact box_of x1 _ _
      have s2 : x1.heap.size < x2.heap.size := by rw [← hx]; simp
      rw [hx]
      refine hK.out _ _ (CELw3.out _ B2) (fun hHeld => ?_)
      clear hK K
      (try simp only [Act.put, List.setIfInBounds_toArray, List.set_cons_zero, List.set_cons_succ])
      clear hb hx B1 MI1
      refine wpAnyH_ready (rs := [4, 13]) (by kernel_rfl) (by simp) ?_
      refine AllReadyH.cons (o := _) (by rw [List.getElem?_toArray]; exact rfl) (fun K hK => ?_) (AllReadyH.cons (o := _) (by rw [List.getElem?_toArray]; exact rfl) (fun K hK => ?_) AllReadyH.nil)
      · rw [if_pos (by kernel_rfl)]
        go_simp
        refine (toEntryS_any la en lc es _ (INSw3.out.2.2.1.below B2 (Nat.le_refl _))).mono ?_
        rintro e x3 ⟨rfl, o2, hb⟩
        have B3 : Below w3.heap.size w3 x3 := B2.trans (hb.mono B2.size)
        have MI3 := MI2.below hb (Nat.le_refl _)
        have XM3 := XM2.below hb XM2.lt
        have E3 : TripAt x3 (some ⟨x2.heap.size, 0, none⟩) en es := own_tripAt o2 hen1
        have s3 : x2.heap.size ≤ x3.heap.size := hb.size
        refine hK.out _ _ (CELw3.out _ B3) (fun hHeld => ?_)
        clear hK K
        (try simp only [Act.put, List.setIfInBounds_toArray, List.set_cons_zero, List.set_cons_succ])
        clear hb B2 MI2 XM2 o2
        refine wpAnyH_ready (rs := [6, 13]) (by kernel_rfl) (by simp) ?_
        refine AllReadyH.cons (o := _) (by rw [List.getElem?_toArray]; exact rfl) (fun K hK => ?_) (AllReadyH.cons (o := _) (by rw [List.getElem?_toArray]; exact rfl) (fun K hK => ?_) AllReadyH.nil)
        · rw [if_pos (by kernel_rfl)]
          go_simp
          refine (toRes_g ra rn rc cd rs _ (INSw3.out.2.2.2.below B3 (Nat.le_refl _))).mono ?_
          rintro e x4 ⟨g3, rfl, hg3, o3, hb⟩
          have B4 : Below w3.heap.size w3 x4 := B3.trans (hb.mono B3.size)
          have MI4 := MI3.below hb (Nat.le_refl _)
          have E4 := E3.below hb (Nat.le_refl _)
          have XM4 := XM3.below hb XM3.lt
          have R4 : IntAt x4 (some ⟨g3, 0, none⟩) rn rs := own_intAt o3 (by omega)
          have s4 : x3.heap.size ≤ x4.heap.size := hb.size
          refine hK.out _ _ (CELw3.out _ B4) (fun hHeld => ?_)
          clear hK K
          (try simp only [Act.put, List.setIfInBounds_toArray, List.set_cons_zero, List.set_cons_succ])
          clear hb B3 MI3 E3 XM3 o3 hg3
          refine wpAnyH_ready (rs := [7, 13]) (by kernel_rfl) (by simp) ?_
          refine AllReadyH.cons (o := _) (by rw [List.getElem?_toArray]; exact rfl) (fun K hK => ?_) (AllReadyH.cons (o := _) (by rw [List.getElem?_toArray]; exact rfl) (fun K hK => ?_) AllReadyH.nil)
          · rw [if_pos (by kernel_rfl)]
            go_simp
            refine (specBegin_any ⟨g1, 0, none⟩ m m fs (some ⟨h1, 0, none⟩) n n ds t ⟨x2.heap.size, 0, none⟩ en en es cd ⟨g3, 0, none⟩ rn rn rs _ MI4.1 MI4.2.1 MI4.2.2.1 SM.out E4 R4 hrn1).mono ?_
            rintro e x5 ⟨⟨F, ds', hT, hS, ok, rfl, says, mo⟩, hb⟩
            have B5 : Below w3.heap.size w3 x5 := B4.trans (hb.mono B4.size)
            have MI5 := MI4.below hb (Nat.le_refl _)
            have E5 := E4.below hb (Nat.le_refl _)
            have R5 := R4.below hb (Nat.le_refl _)
            have XM5 := XM4.below hb XM4.lt
            have MO5 : MemO x5 x4.heap.size F m fs n ds' := mo
            have FB : Hid (∀ a, a < 2 + 2 * n → ∀ b, (F a).ownBlock = some b → x4.heap.size ≤ b ∧ b < x5.heap.size) := mo.blk
            have SAYS : Hid (BeginSays fs m ds t en es cd rn rs ds' hT hS ok) := says
            obtain ⟨pa, pc, e0, _⟩ := owns_slice mo.words
            obtain ⟨gvs, gd, _⟩ := mo.descO.descs
            obtain ⟨pd, pdc, e1, _⟩ := owns_slice gd
            have HF : Hid (F 0 = .slice pa m pc ∧ F 1 = .slice pd n pdc) := ⟨e0, e1⟩
            rw [show MemF F = MemV pa m pc pd n pdc by rw [MemF, e0, e1]]
            have s5 : x4.heap.size ≤ x5.heap.size := hb.size
            refine hK.out _ _ (CELw3.out _ B5) (fun hHeld => ?_)
            clear hK K
            (try simp only [Act.put, List.setIfInBounds_toArray, List.set_cons_zero, List.set_cons_succ])
            clear hb B4 MI4 E4 R4 XM4 mo gd e0 e1 says
            refine wpAnyH_take (i := 8) (oi := _) (v := .tuple #[MemV pa m pc pd n pdc, HelpV hT hS 0 0, .bool ok]) (by rw [List.getElem?_toArray]; exact rfl) (by kernel_rfl) (by kernel_rfl) (by kernel_rfl) (by intro _ _ _ h; exact h) (Or.inl ⟨by kernel_rfl, ?_⟩) hHeld ?_
            · intro w hSw; go_simp
            (try simp only [Act.put, List.setIfInBounds_toArray, List.set_cons_zero, List.set_cons_succ])
            refine wpAnyH_take (i := 9) (oi := _) (v := MemV pa m pc pd n pdc) (by rw [List.getElem?_toArray]; exact rfl) (by kernel_rfl) (by kernel_rfl) (by kernel_rfl) (by intro _ _ _ h; exact h) (Or.inl ⟨by kernel_rfl, ?_⟩) hHeld ?_
            · intro w hSw; go_simp
            (try simp only [Act.put, List.setIfInBounds_toArray, List.set_cons_zero, List.set_cons_succ])
            refine wpAnyH_take (i := 10) (oi := _) (v := HelpV hT hS 0 0) (by rw [List.getElem?_toArray]; exact rfl) (by kernel_rfl) (by kernel_rfl) (by kernel_rfl) (by intro _ _ _ h; exact h) (Or.inl ⟨by kernel_rfl, ?_⟩) hHeld ?_
            · intro w hSw; go_simp
            (try simp only [Act.put, List.setIfInBounds_toArray, List.set_cons_zero, List.set_cons_succ])
            refine wpAnyH_take (i := 11) (oi := _) (v := .bool ok) (by rw [List.getElem?_toArray]; exact rfl) (by kernel_rfl) (by kernel_rfl) (by kernel_rfl) (by intro _ _ _ h; exact h) (Or.inl ⟨by kernel_rfl, ?_⟩) hHeld ?_
            · intro w hSw; go_simp
            (try simp only [Act.put, List.setIfInBounds_toArray, List.set_cons_zero, List.set_cons_succ])
            refine wpAnyH_ready (rs := [13]) (by kernel_rfl) (by simp) ?_
            refine AllReadyH.cons (o := _) (by rw [List.getElem?_toArray]; exact rfl) (fun K hK => ?_) AllReadyH.nil
            rw [if_pos (by kernel_rfl)]
            go_simp
            obtain ⟨x6, hx⟩ : ∃ y, x5.alloc (.cells #[.int .i64 0, .int .i64 0, .int .i64 0, .int .i64 0] 52) = y := ⟨_, rfl⟩
            have hb : Below x5.heap.size x5 x6 := by rw [← hx]; exact (Below.refl _ _).alloc (Nat.le_refl _) _
            have B6 : Below w3.heap.size w3 x6 := B5.trans (hb.mono B5.size)
            have MI6 := MI5.below hb (Nat.le_refl _)
            have E6 := E5.below hb (Nat.le_refl _)
            have R6 := R5.below hb (Nat.le_refl _)
            have MO6 := MO5.below hb (Nat.le_refl _)
            have XM6 := XM5.below hb XM5.lt
            have XH6 : Box x6 x5.heap.size #[.int .i64 0, .int .i64 0, .int .i64 0, .int .i64 0] 52 := by rw [← hx]; exact box_of x5 _ _
            have s6 : x5.heap.size < x6.heap.size := by rw [← hx]; simp
            rw [hx]
            refine hK.out _ _ (CELw3.out _ B6) (fun hHeld => ?_)
            clear hK K
            (try simp only [Act.put, List.setIfInBounds_toArray, List.set_cons_zero, List.set_cons_succ])
            clear hb hx B5 MI5 E5 R5 MO5 XM5
            have l1 : w3.heap.size ≤ x1.heap.size := by omega
            have l2 : w3.heap.size ≤ x5.heap.size := by omega
            have hne : x1.heap.size ≠ x5.heap.size := by omega
            have n1 : ∀ a, a < 2 + 2 * n → (F a).ownBlock ≠ some x1.heap.size := fun a ha e => by have := FB.out a ha _ e; omega
            have n2 : ∀ a, a < 2 + 2 * n → (F a).ownBlock ≠ some x5.heap.size := fun a ha e => by have := FB.out a ha _ e; omega
            have ANS : Hid (BegAns w3 x1.heap.size x5.heap.size F m fs n ds' hT hS _) := begAns_of (hT := hT) (hS := hS) B6 XM6 XH6 l1 l2 hne (MO6.weaken (by omega)) n1 n2
            rw [HF.out.1, HF.out.2] at ANS
            obtain ⟨y0, y1, z0, z1⟩ := XM6.two
            refine wpAnyH_ready (rs := [14]) (by kernel_rfl) (by simp) ?_
            refine AllReadyH.cons (o := _) (by rw [List.getElem?_toArray]; exact rfl) (fun K hK => ?_) AllReadyH.nil
            rw [if_pos (by kernel_rfl)]
            go_simp
            refine hK.out _ _ (CELw3.out _ ((B6.setCell l1 _).setCell l1 _)) (fun hHeld => ?_)
            clear hK K
            (try simp only [Act.put, List.setIfInBounds_toArray, List.set_cons_zero, List.set_cons_succ])
            have XH' := (XH6.set (q := ⟨x1.heap.size, 0, none⟩) (show x5.heap.size ≠ x1.heap.size from hne.symm) (.slice pa m pc)).set (q := ⟨x1.heap.size, 1, none⟩) (show x5.heap.size ≠ x1.heap.size from hne.symm) (.slice pd n pdc)
            obtain ⟨⟨u0, u1, u2, u3⟩, v0, v1, v2, v3⟩ := XH'.four
            refine wpAnyH_ready (rs := [15]) (by kernel_rfl) (by simp) ?_
            refine AllReadyH.cons (o := _) (by rw [List.getElem?_toArray]; exact rfl) (fun K hK => ?_) AllReadyH.nil
            rw [if_pos (by kernel_rfl)]
            go_simp
            refine hK.out _ _ (CELw3.out _ ANS.out.bel) (fun hHeld => ?_)
            clear hK K
            (try simp only [Act.put, List.setIfInBounds_toArray, List.set_cons_zero, List.set_cons_succ])
            refine wpAnyH_take (i := 16) (oi := _) (v := .bool ok) (by rw [List.getElem?_toArray]; exact rfl) (by kernel_rfl) (by kernel_rfl) (by kernel_rfl) (by intro _ _ _ h; exact h) (Or.inl ⟨by kernel_rfl, ?_⟩) hHeld ?_
            · intro w hSw; go_simp
            (try simp only [Act.put, List.setIfInBounds_toArray, List.set_cons_zero, List.set_cons_succ])
            refine wpAnyH_done (by kernel_rfl) ?_ _
            exact ⟨x1.heap.size, x5.heap.size, g1, h1, x2.heap.size, g3, pa, pc, pd, pdc, F, ds', hT, hS, ok, rfl, HF.out, SAYS.out, ANS.out⟩
          · rw [if_pos (by kernel_rfl)]
            go_simp
            obtain ⟨x5, hx⟩ : ∃ y, x4.alloc (.cells #[.int .i64 0, .int .i64 0, .int .i64 0, .int .i64 0] 52) = y := ⟨_, rfl⟩
            have hb : Below x4.heap.size x4 x5 := by rw [← hx]; exact (Below.refl _ _).alloc (Nat.le_refl _) _
            have B5 : Below w3.heap.size w3 x5 := B4.trans (hb.mono B4.size)
            have MI5 := MI4.below hb (Nat.le_refl _)
            have E5 := E4.below hb (Nat.le_refl _)
            have R5 := R4.below hb (Nat.le_refl _)
            have XM5 := XM4.below hb XM4.lt
            have XH5 : Box x5 x4.heap.size #[.int .i64 0, .int .i64 0, .int .i64 0, .int .i64 0] 52 := by rw [← hx]; exact box_of x4 _ _
            have s5 : x4.heap.size < x5.heap.size := by rw [← hx]; simp
            rw [hx]
            refine hK.out _ _ (CELw3.out _ B5) (fun hHeld => ?_)
            clear hK K
            (try simp only [Act.put, List.setIfInBounds_toArray, List.set_cons_zero, List.set_cons_succ])
            clear hb hx B4 MI4 E4 R4 XM4
            refine wpAnyH_ready (rs := [7]) (by kernel_rfl) (by simp) ?_
            refine AllReadyH.cons (o := _) (by rw [List.getElem?_toArray]; exact rfl) (fun K hK => ?_) AllReadyH.nil
            rw [if_pos (by kernel_rfl)]
            go_simp
            refine (specBegin_any ⟨g1, 0, none⟩ m m fs (some ⟨h1, 0, none⟩) n n ds t ⟨x2.heap.size, 0, none⟩ en en es cd ⟨g3, 0, none⟩ rn rn rs _ MI5.1 MI5.2.1 MI5.2.2.1 SM.out E5 R5 hrn1).mono ?_
            rintro e x6 ⟨⟨F, ds', hT, hS, ok, rfl, says, mo⟩, hb⟩
            have B6 : Below w3.heap.size w3 x6 := B5.trans (hb.mono B5.size)
            have MI6 := MI5.below hb (Nat.le_refl _)
            have E6 := E5.below hb (Nat.le_refl _)
            have R6 := R5.below hb (Nat.le_refl _)
            have XM6 := XM5.below hb XM5.lt
            have XH6 := XH5.below hb XH5.lt
            have MO6 : MemO x6 x5.heap.size F m fs n ds' := mo
            have FB : Hid (∀ a, a < 2 + 2 * n → ∀ b, (F a).ownBlock = some b → x5.heap.size ≤ b ∧ b < x6.heap.size) := mo.blk
            have SAYS : Hid (BeginSays fs m ds t en es cd rn rs ds' hT hS ok) := says
            obtain ⟨pa, pc, e0, _⟩ := owns_slice mo.words
            obtain ⟨gvs, gd, _⟩ := mo.descO.descs
            obtain ⟨pd, pdc, e1, _⟩ := owns_slice gd
            have HF : Hid (F 0 = .slice pa m pc ∧ F 1 = .slice pd n pdc) := ⟨e0, e1⟩
            rw [show MemF F = MemV pa m pc pd n pdc by rw [MemF, e0, e1]]
            have s6 : x5.heap.size ≤ x6.heap.size := hb.size
            refine hK.out _ _ (CELw3.out _ B6) (fun hHeld => ?_)
            clear hK K
            (try simp only [Act.put, List.setIfInBounds_toArray, List.set_cons_zero, List.set_cons_succ])
            clear hb B5 MI5 E5 R5 XM5 XH5 mo gd e0 e1 says
            refine wpAnyH_take (i := 8) (oi := _) (v := .tuple #[MemV pa m pc pd n pdc, HelpV hT hS 0 0, .bool ok]) (by rw [List.getElem?_toArray]; exact rfl) (by kernel_rfl) (by kernel_rfl) (by kernel_rfl) (by intro _ _ _ h; exact h) (Or.inl ⟨by kernel_rfl, ?_⟩) hHeld ?_
            · intro w hSw; go_simp
            (try simp only [Act.put, List.setIfInBounds_toArray, List.set_cons_zero, List.set_cons_succ])
            refine wpAnyH_take (i := 9) (oi := _) (v := MemV pa m pc pd n pdc) (by rw [List.getElem?_toArray]; exact rfl) (by kernel_rfl) (by kernel_rfl) (by kernel_rfl) (by intro _ _ _ h; exact h) (Or.inl ⟨by kernel_rfl, ?_⟩) hHeld ?_
            · intro w hSw; go_simp
            (try simp only [Act.put, List.setIfInBounds_toArray, List.set_cons_zero, List.set_cons_succ])
            refine wpAnyH_take (i := 10) (oi := _) (v := HelpV hT hS 0 0) (by rw [List.getElem?_toArray]; exact rfl) (by kernel_rfl) (by kernel_rfl) (by kernel_rfl) (by intro _ _ _ h; exact h) (Or.inl ⟨by kernel_rfl, ?_⟩) hHeld ?_
            · intro w hSw; go_simp
            (try simp only [Act.put, List.setIfInBounds_toArray, List.set_cons_zero, List.set_cons_succ])
            refine wpAnyH_take (i := 11) (oi := _) (v := .bool ok) (by rw [List.getElem?_toArray]; exact rfl) (by kernel_rfl) (by kernel_rfl) (by kernel_rfl) (by intro _ _ _ h; exact h) (Or.inl ⟨by kernel_rfl, ?_⟩) hHeld ?_
            · intro w hSw; go_simp
            (try simp only [Act.put, List.setIfInBounds_toArray, List.set_cons_zero, List.set_cons_succ])
            have l1 : w3.heap.size ≤ x1.heap.size := by omega
            have l2 : w3.heap.size ≤ x4.heap.size := by omega
            have hne : x1.heap.size ≠ x4.heap.size := by omega
            have n1 : ∀ a, a < 2 + 2 * n → (F a).ownBlock ≠ some x1.heap.size := fun a ha e => by have := FB.out a ha _ e; omega
            have n2 : ∀ a, a < 2 + 2 * n → (F a).ownBlock ≠ some x4.heap.size := fun a ha e => by have := FB.out a ha _ e; omega
            have ANS : Hid (BegAns w3 x1.heap.size x4.heap.size F m fs n ds' hT hS _) := begAns_of (hT := hT) (hS := hS) B6 XM6 XH6 l1 l2 hne (MO6.weaken (by omega)) n1 n2
            rw [HF.out.1, HF.out.2] at ANS
            obtain ⟨y0, y1, z0, z1⟩ := XM6.two
            refine wpAnyH_ready (rs := [14]) (by kernel_rfl) (by simp) ?_
            refine AllReadyH.cons (o := _) (by rw [List.getElem?_toArray]; exact rfl) (fun K hK => ?_) AllReadyH.nil
            rw [if_pos (by kernel_rfl)]
            go_simp
            refine hK.out _ _ (CELw3.out _ ((B6.setCell l1 _).setCell l1 _)) (fun hHeld => ?_)
            clear hK K
            (try simp only [Act.put, List.setIfInBounds_toArray, List.set_cons_zero, List.set_cons_succ])
            have XH' := (XH6.set (q := ⟨x1.heap.size, 0, none⟩) (show x4.heap.size ≠ x1.heap.size from hne.symm) (.slice pa m pc)).set (q := ⟨x1.heap.size, 1, none⟩) (show x4.heap.size ≠ x1.heap.size from hne.symm) (.slice pd n pdc)
            obtain ⟨⟨u0, u1, u2, u3⟩, v0, v1, v2, v3⟩ := XH'.four
            refine wpAnyH_ready (rs := [15]) (by kernel_rfl) (by simp) ?_
            refine AllReadyH.cons (o := _) (by rw [List.getElem?_toArray]; exact rfl) (fun K hK => ?_) AllReadyH.nil
            rw [if_pos (by kernel_rfl)]
            go_simp
            refine hK.out _ _ (CELw3.out _ ANS.out.bel) (fun hHeld => ?_)
            clear hK K
            (try simp only [Act.put, List.setIfInBounds_toArray, List.set_cons_zero, List.set_cons_succ])
            refine wpAnyH_take (i := 16) (oi := _) (v := .bool ok) (by rw [List.getElem?_toArray]; exact rfl) (by kernel_rfl) (by kernel_rfl) (by kernel_rfl) (by intro _ _ _ h; exact h) (Or.inl ⟨by kernel_rfl, ?_⟩) hHeld ?_
            · intro w hSw; go_simp
            (try simp only [Act.put, List.setIfInBounds_toArray, List.set_cons_zero, List.set_cons_succ])
            refine wpAnyH_done (by kernel_rfl) ?_ _
            exact ⟨x1.heap.size, x4.heap.size, g1, h1, x2.heap.size, g3, pa, pc, pd, pdc, F, ds', hT, hS, ok, rfl, HF.out, SAYS.out, ANS.out⟩
        · rw [if_pos (by kernel_rfl)]
          go_simp
          obtain ⟨x4, hx⟩ : ∃ y, x3.alloc (.cells #[.int .i64 0, .int .i64 0, .int .i64 0, .int .i64 0] 52) = y := ⟨_, rfl⟩
          have hb : Below x3.heap.size x3 x4 := by rw [← hx]; exact (Below.refl _ _).alloc (Nat.le_refl _) _
          have B4 : Below w3.heap.size w3 x4 := B3.trans (hb.mono B3.size)
          have MI4 := MI3.below hb (Nat.le_refl _)
          have E4 := E3.below hb (Nat.le_refl _)
          have XM4 := XM3.below hb XM3.lt
          have XH4 : Box x4 x3.heap.size #[.int .i64 0, .int .i64 0, .int .i64 0, .int .i64 0] 52 := by rw [← hx]; exact box_of x3 _ _
          have s4 : x3.heap.size < x4.heap.size := by rw [← hx]; simp
          rw [hx]
          refine hK.out _ _ (CELw3.out _ B4) (fun hHeld => ?_)
          clear hK K
          (try simp only [Act.put, List.setIfInBounds_toArray, List.set_cons_zero, List.set_cons_succ])
          clear hb hx B3 MI3 E3 XM3
          refine wpAnyH_ready (rs := [6]) (by kernel_rfl) (by simp) ?_
          refine AllReadyH.cons (o := _) (by rw [List.getElem?_toArray]; exact rfl) (fun K hK => ?_) AllReadyH.nil
          rw [if_pos (by kernel_rfl)]
          go_simp
          refine (toRes_g ra rn rc cd rs _ (INSw3.out.2.2.2.below B4 (Nat.le_refl _))).mono ?_
          rintro e x5 ⟨g3, rfl, hg3, o3, hb⟩
          have B5 : Below w3.heap.size w3 x5 := B4.trans (hb.mono B4.size)
          have MI5 := MI4.below hb (Nat.le_refl _)
          have E5 := E4.below hb (Nat.le_refl _)
          have XM5 := XM4.below hb XM4.lt
          have XH5 := XH4.below hb XH4.lt
          have R5 : IntAt x5 (some ⟨g3, 0, none⟩) rn rs := own_intAt o3 (by omega)
          have s5 : x4.heap.size ≤ x5.heap.size := hb.size
          refine hK.out _ _ (CELw3.out _ B5) (fun hHeld => ?_)
          clear hK K
          (try simp only [Act.put, List.setIfInBounds_toArray, List.set_cons_zero, List.set_cons_succ])
          clear hb B4 MI4 E4 XM4 XH4 o3 hg3
          refine wpAnyH_ready (rs := [7]) (by kernel_rfl) (by simp) ?_
          refine AllReadyH.cons (o := _) (by rw [List.getElem?_toArray]; exact rfl) (fun K hK => ?_) AllReadyH.nil
          rw [if_pos (by kernel_rfl)]
          go_simp
          refine (specBegin_any ⟨g1, 0, none⟩ m m fs (some ⟨h1, 0, none⟩) n n ds t ⟨x2.heap.size, 0, none⟩ en en es cd ⟨g3, 0, none⟩ rn rn rs _ MI5.1 MI5.2.1 MI5.2.2.1 SM.out E5 R5 hrn1).mono ?_
          rintro e x6 ⟨⟨F, ds', hT, hS, ok, rfl, says, mo⟩, hb⟩
          have B6 : Below w3.heap.size w3 x6 := B5.trans (hb.mono B5.size)
          have MI6 := MI5.below hb (Nat.le_refl _)
          have E6 := E5.below hb (Nat.le_refl _)
          have R6 := R5.below hb (Nat.le_refl _)
          have XM6 := XM5.below hb XM5.lt
          have XH6 := XH5.below hb XH5.lt
          have MO6 : MemO x6 x5.heap.size F m fs n ds' := mo
          have FB : Hid (∀ a, a < 2 + 2 * n → ∀ b, (F a).ownBlock = some b → x5.heap.size ≤ b ∧ b < x6.heap.size) := mo.blk
          have SAYS : Hid (BeginSays fs m ds t en es cd rn rs ds' hT hS ok) := says
          obtain ⟨pa, pc, e0, _⟩ := owns_slice mo.words
          obtain ⟨gvs, gd, _⟩ := mo.descO.descs
          obtain ⟨pd, pdc, e1, _⟩ := owns_slice gd
          have HF : Hid (F 0 = .slice pa m pc ∧ F 1 = .slice pd n pdc) := ⟨e0, e1⟩
          rw [show MemF F = MemV pa m pc pd n pdc by rw [MemF, e0, e1]]
          have s6 : x5.heap.size ≤ x6.heap.size := hb.size
          refine hK.out _ _ (CELw3.out _ B6) (fun hHeld => ?_)
          clear hK K
          (try simp only [Act.put, List.setIfInBounds_toArray, List.set_cons_zero, List.set_cons_succ])
          clear hb B5 MI5 E5 R5 XM5 XH5 mo gd e0 e1 says
          refine wpAnyH_take (i := 8) (oi := _) (v := .tuple #[MemV pa m pc pd n pdc, HelpV hT hS 0 0, .bool ok]) (by rw [List.getElem?_toArray]; exact rfl) (by kernel_rfl) (by kernel_rfl) (by kernel_rfl) (by intro _ _ _ h; exact h) (Or.inl ⟨by kernel_rfl, ?_⟩) hHeld ?_
          · intro w hSw; go_simp
          (try simp only [Act.put, List.setIfInBounds_toArray, List.set_cons_zero, List.set_cons_succ])
          refine wpAnyH_take (i := 9) (oi := _) (v := MemV pa m pc pd n pdc) (by rw [List.getElem?_toArray]; exact rfl) (by kernel_rfl) (by kernel_rfl) (by kernel_rfl) (by intro _ _ _ h; exact h) (Or.inl ⟨by kernel_rfl, ?_⟩) hHeld ?_
          · intro w hSw; go_simp
          (try simp only [Act.put, List.setIfInBounds_toArray, List.set_cons_zero, List.set_cons_succ])
          refine wpAnyH_take (i := 10) (oi := _) (v := HelpV hT hS 0 0) (by rw [List.getElem?_toArray]; exact rfl) (by kernel_rfl) (by kernel_rfl) (by kernel_rfl) (by intro _ _ _ h; exact h) (Or.inl ⟨by kernel_rfl, ?_⟩) hHeld ?_
          · intro w hSw; go_simp
          (try simp only [Act.put, List.setIfInBounds_toArray, List.set_cons_zero, List.set_cons_succ])
          refine wpAnyH_take (i := 11) (oi := _) (v := .bool ok) (by rw [List.getElem?_toArray]; exact rfl) (by kernel_rfl) (by kernel_rfl) (by kernel_rfl) (by intro _ _ _ h; exact h) (Or.inl ⟨by kernel_rfl, ?_⟩) hHeld ?_
          · intro w hSw; go_simp
          (try simp only [Act.put, List.setIfInBounds_toArray, List.set_cons_zero, List.set_cons_succ])
          have l1 : w3.heap.size ≤ x1.heap.size := by omega
          have l2 : w3.heap.size ≤ x3.heap.size := by omega
          have hne : x1.heap.size ≠ x3.heap.size := by omega
          have n1 : ∀ a, a < 2 + 2 * n → (F a).ownBlock ≠ some x1.heap.size := fun a ha e => by have := FB.out a ha _ e; omega
          have n2 : ∀ a, a < 2 + 2 * n → (F a).ownBlock ≠ some x3.heap.size := fun a ha e => by have := FB.out a ha _ e; omega
          have ANS : Hid (BegAns w3 x1.heap.size x3.heap.size F m fs n ds' hT hS _) := begAns_of (hT := hT) (hS := hS) B6 XM6 XH6 l1 l2 hne (MO6.weaken (by omega)) n1 n2
          rw [HF.out.1, HF.out.2] at ANS
          obtain ⟨y0, y1, z0, z1⟩ := XM6.two
          refine wpAnyH_ready (rs := [14]) (by kernel_rfl) (by simp) ?_
          refine AllReadyH.cons (o := _) (by rw [List.getElem?_toArray]; exact rfl) (fun K hK => ?_) AllReadyH.nil
          rw [if_pos (by kernel_rfl)]
          go_simp
          refine hK.out _ _ (CELw3.out _ ((B6.setCell l1 _).setCell l1 _)) (fun hHeld => ?_)
          clear hK K
          (try simp only [Act.put, List.setIfInBounds_toArray, List.set_cons_zero, List.set_cons_succ])
          have XH' := (XH6.set (q := ⟨x1.heap.size, 0, none⟩) (show x3.heap.size ≠ x1.heap.size from hne.symm) (.slice pa m pc)).set (q := ⟨x1.heap.size, 1, none⟩) (show x3.heap.size ≠ x1.heap.size from hne.symm) (.slice pd n pdc)
          obtain ⟨⟨u0, u1, u2, u3⟩, v0, v1, v2, v3⟩ := XH'.four
          refine wpAnyH_ready (rs := [15]) (by kernel_rfl) (by simp) ?_
          refine AllReadyH.cons (o := _) (by rw [List.getElem?_toArray]; exact rfl) (fun K hK => ?_) AllReadyH.nil
          rw [if_pos (by kernel_rfl)]
          go_simp
          refine hK.out _ _ (CELw3.out _ ANS.out.bel) (fun hHeld => ?_)
          clear hK K
          (try simp only [Act.put, List.setIfInBounds_toArray, List.set_cons_zero, List.set_cons_succ])
          refine wpAnyH_take (i := 16) (oi := _) (v := .bool ok) (by rw [List.getElem?_toArray]; exact rfl) (by kernel_rfl) (by kernel_rfl) (by kernel_rfl) (by intro _ _ _ h; exact h) (Or.inl ⟨by kernel_rfl, ?_⟩) hHeld ?_
          · intro w hSw; go_simp
          (try simp only [Act.put, List.setIfInBounds_toArray, List.set_cons_zero, List.set_cons_succ])
          refine wpAnyH_done (by kernel_rfl) ?_ _
          exact ⟨x1.heap.size, x3.heap.size, g1, h1, x2.heap.size, g3, pa, pc, pd, pdc, F, ds', hT, hS, ok, rfl, HF.out, SAYS.out, ANS.out⟩
      · rw [if_pos (by kernel_rfl)]
        go_simp
        obtain ⟨x3, hx⟩ : ∃ y, x2.alloc (.cells #[.int .i64 0, .int .i64 0, .int .i64 0, .int .i64 0] 52) = y := ⟨_, rfl⟩
        have hb : Below x2.heap.size x2 x3 := by rw [← hx]; exact (Below.refl _ _).alloc (Nat.le_refl _) _
        have B3 : Below w3.heap.size w3 x3 := B2.trans (hb.mono B2.size)
        have MI3 := MI2.below hb (Nat.le_refl _)
        have XM3 := XM2.below hb XM2.lt
        have XH3 : Box x3 x2.heap.size #[.int .i64 0, .int .i64 0, .int .i64 0, .int .i64 0] 52 := by rw [← hx]; exact box_of x2 _ _
        have s3 : x2.heap.size < x3.heap.size := by rw [← hx]; simp
        rw [hx]
        refine hK.out _ _ (CELw3.out _ B3) (fun hHeld => ?_)
        clear hK K
        (try simp only [Act.put, List.setIfInBounds_toArray, List.set_cons_zero, List.set_cons_succ])
        clear hb hx B2 MI2 XM2
        refine wpAnyH_ready (rs := [4]) (by kernel_rfl) (by simp) ?_
        refine AllReadyH.cons (o := _) (by rw [List.getElem?_toArray]; exact rfl) (fun K hK => ?_) AllReadyH.nil
        rw [if_pos (by kernel_rfl)]
        go_simp
        refine (toEntryS_any la en lc es _ (INSw3.out.2.2.1.below B3 (Nat.le_refl _))).mono ?_
        rintro e x4 ⟨rfl, o2, hb⟩
        have B4 : Below w3.heap.size w3 x4 := B3.trans (hb.mono B3.size)
        have MI4 := MI3.below hb (Nat.le_refl _)
        have XM4 := XM3.below hb XM3.lt
        have XH4 := XH3.below hb XH3.lt
        have E4 : TripAt x4 (some ⟨x3.heap.size, 0, none⟩) en es := own_tripAt o2 hen1
        have s4 : x3.heap.size ≤ x4.heap.size := hb.size
        refine hK.out _ _ (CELw3.out _ B4) (fun hHeld => ?_)
        clear hK K
        (try simp only [Act.put, List.setIfInBounds_toArray, List.set_cons_zero, List.set_cons_succ])
        clear hb B3 MI3 XM3 XH3 o2
        refine wpAnyH_ready (rs := [6]) (by kernel_rfl) (by simp) ?_
        refine AllReadyH.cons (o := _) (by rw [List.getElem?_toArray]; exact rfl) (fun K hK => ?_) AllReadyH.nil
        rw [if_pos (by kernel_rfl)]
        go_simp
        refine (toRes_g ra rn rc cd rs _ (INSw3.out.2.2.2.below B4 (Nat.le_refl _))).mono ?_
        rintro e x5 ⟨g3, rfl, hg3, o3, hb⟩
        have B5 : Below w3.heap.size w3 x5 := B4.trans (hb.mono B4.size)
        have MI5 := MI4.below hb (Nat.le_refl _)
        have E5 := E4.below hb (Nat.le_refl _)
        have XM5 := XM4.below hb XM4.lt
        have XH5 := XH4.below hb XH4.lt
        have R5 : IntAt x5 (some ⟨g3, 0, none⟩) rn rs := own_intAt o3 (by omega)
        have s5 : x4.heap.size ≤ x5.heap.size := hb.size
        refine hK.out _ _ (CELw3.out _ B5) (fun hHeld => ?_)
        clear hK K
        (try simp only [Act.put, List.setIfInBounds_toArray, List.set_cons_zero, List.set_cons_succ])
        clear hb B4 MI4 E4 XM4 XH4 o3 hg3
        refine wpAnyH_ready (rs := [7]) (by kernel_rfl) (by simp) ?_
        refine AllReadyH.cons (o := _) (by rw [List.getElem?_toArray]; exact rfl) (fun K hK => ?_) AllReadyH.nil
        rw [if_pos (by kernel_rfl)]
        go_simp
        refine (specBegin_any ⟨g1, 0, none⟩ m m fs (some ⟨h1, 0, none⟩) n n ds t ⟨x3.heap.size, 0, none⟩ en en es cd ⟨g3, 0, none⟩ rn rn rs _ MI5.1 MI5.2.1 MI5.2.2.1 SM.out E5 R5 hrn1).mono ?_
        rintro e x6 ⟨⟨F, ds', hT, hS, ok, rfl, says, mo⟩, hb⟩
        have B6 : Below w3.heap.size w3 x6 := B5.trans (hb.mono B5.size)
        have MI6 := MI5.below hb (Nat.le_refl _)
        have E6 := E5.below hb (Nat.le_refl _)
        have R6 := R5.below hb (Nat.le_refl _)
        have XM6 := XM5.below hb XM5.lt
        have XH6 := XH5.below hb XH5.lt
        have MO6 : MemO x6 x5.heap.size F m fs n ds' := mo
        have FB : Hid (∀ a, a < 2 + 2 * n → ∀ b, (F a).ownBlock = some b → x5.heap.size ≤ b ∧ b < x6.heap.size) := mo.blk
        have SAYS : Hid (BeginSays fs m ds t en es cd rn rs ds' hT hS ok) := says
        obtain ⟨pa, pc, e0, _⟩ := owns_slice mo.words
        obtain ⟨gvs, gd, _⟩ := mo.descO.descs
        obtain ⟨pd, pdc, e1, _⟩ := owns_slice gd
        have HF : Hid (F 0 = .slice pa m pc ∧ F 1 = .slice pd n pdc) := ⟨e0, e1⟩
        rw [show MemF F = MemV pa m pc pd n pdc by rw [MemF, e0, e1]]
        have s6 : x5.heap.size ≤ x6.heap.size := hb.size
        refine hK.out _ _ (CELw3.out _ B6) (fun hHeld => ?_)
        clear hK K
        (try simp only [Act.put, List.setIfInBounds_toArray, List.set_cons_zero, List.set_cons_succ])
        clear hb B5 MI5 E5 R5 XM5 XH5 mo gd e0 e1 says
        refine wpAnyH_take (i := 8) (oi := _) (v := .tuple #[MemV pa m pc pd n pdc, HelpV hT hS 0 0, .bool ok]) (by rw [List.getElem?_toArray]; exact rfl) (by kernel_rfl) (by kernel_rfl) (by kernel_rfl) (by intro _ _ _ h; exact h) (Or.inl ⟨by kernel_rfl, ?_⟩) hHeld ?_
        · intro w hSw; go_simp
        (try simp only [Act.put, List.setIfInBounds_toArray, List.set_cons_zero, List.set_cons_succ])
        refine wpAnyH_take (i := 9) (oi := _) (v := MemV pa m pc pd n pdc) (by rw [List.getElem?_toArray]; exact rfl) (by kernel_rfl) (by kernel_rfl) (by kernel_rfl) (by intro _ _ _ h; exact h) (Or.inl ⟨by kernel_rfl, ?_⟩) hHeld ?_
        · intro w hSw; go_simp
        (try simp only [Act.put, List.setIfInBounds_toArray, List.set_cons_zero, List.set_cons_succ])
        refine wpAnyH_take (i := 10) (oi := _) (v := HelpV hT hS 0 0) (by rw [List.getElem?_toArray]; exact rfl) (by kernel_rfl) (by kernel_rfl) (by kernel_rfl) (by intro _ _ _ h; exact h) (Or.inl ⟨by kernel_rfl, ?_⟩) hHeld ?_
        · intro w hSw; go_simp
        (try simp only [Act.put, List.setIfInBounds_toArray, List.set_cons_zero, List.set_cons_succ])
        refine wpAnyH_take (i := 11) (oi := _) (v := .bool ok) (by rw [List.getElem?_toArray]; exact rfl) (by kernel_rfl) (by kernel_rfl) (by kernel_rfl) (by intro _ _ _ h; exact h) (Or.inl ⟨by kernel_rfl, ?_⟩) hHeld ?_
        · intro w hSw; go_simp
        (try simp only [Act.put, List.setIfInBounds_toArray, List.set_cons_zero, List.set_cons_succ])
        have l1 : w3.heap.size ≤ x1.heap.size := by omega
        have l2 : w3.heap.size ≤ x2.heap.size := by omega
        have hne : x1.heap.size ≠ x2.heap.size := by omega
        have n1 : ∀ a, a < 2 + 2 * n → (F a).ownBlock ≠ some x1.heap.size := fun a ha e => by have := FB.out a ha _ e; omega
        have n2 : ∀ a, a < 2 + 2 * n → (F a).ownBlock ≠ some x2.heap.size := fun a ha e => by have := FB.out a ha _ e; omega
        have ANS : Hid (BegAns w3 x1.heap.size x2.heap.size F m fs n ds' hT hS _) := begAns_of (hT := hT) (hS := hS) B6 XM6 XH6 l1 l2 hne (MO6.weaken (by omega)) n1 n2
        rw [HF.out.1, HF.out.2] at ANS
        obtain ⟨y0, y1, z0, z1⟩ := XM6.two
        refine wpAnyH_ready (rs := [14]) (by kernel_rfl) (by simp) ?_
        refine AllReadyH.cons (o := _) (by rw [List.getElem?_toArray]; exact rfl) (fun K hK => ?_) AllReadyH.nil
        rw [if_pos (by kernel_rfl)]
        go_simp
        refine hK.out _ _ (CELw3.out _ ((B6.setCell l1 _).setCell l1 _)) (fun hHeld => ?_)
        clear hK K
        (try simp only [Act.put, List.setIfInBounds_toArray, List.set_cons_zero, List.set_cons_succ])
        have XH' := (XH6.set (q := ⟨x1.heap.size, 0, none⟩) (show x2.heap.size ≠ x1.heap.size from hne.symm) (.slice pa m pc)).set (q := ⟨x1.heap.size, 1, none⟩) (show x2.heap.size ≠ x1.heap.size from hne.symm) (.slice pd n pdc)
        obtain ⟨⟨u0, u1, u2, u3⟩, v0, v1, v2, v3⟩ := XH'.four
        refine wpAnyH_ready (rs := [15]) (by kernel_rfl) (by simp) ?_
        refine AllReadyH.cons (o := _) (by rw [List.getElem?_toArray]; exact rfl) (fun K hK => ?_) AllReadyH.nil
        rw [if_pos (by kernel_rfl)]
        go_simp
        refine hK.out _ _ (CELw3.out _ ANS.out.bel) (fun hHeld => ?_)
        clear hK K
        (try simp only [Act.put, List.setIfInBounds_toArray, List.set_cons_zero, List.set_cons_succ])
        refine wpAnyH_take (i := 16) (oi := _) (v := .bool ok) (by rw [List.getElem?_toArray]; exact rfl) (by kernel_rfl) (by kernel_rfl) (by kernel_rfl) (by intro _ _ _ h; exact h) (Or.inl ⟨by kernel_rfl, ?_⟩) hHeld ?_
        · intro w hSw; go_simp
        (try simp only [Act.put, List.setIfInBounds_toArray, List.set_cons_zero, List.set_cons_succ])
        refine wpAnyH_done (by kernel_rfl) ?_ _
        exact ⟨x1.heap.size, x2.heap.size, g1, h1, x3.heap.size, g3, pa, pc, pd, pdc, F, ds', hT, hS, ok, rfl, HF.out, SAYS.out, ANS.out⟩
    · rw [if_pos (by kernel_rfl)]
      go_simp
      obtain ⟨x2, hx⟩ : ∃ y, x1.alloc (.cells #[.int .i64 0, .int .i64 0, .int .i64 0, .int .i64 0] 52) = y := ⟨_, rfl⟩
      have hb : Below x1.heap.size x1 x2 := by rw [← hx]; exact (Below.refl _ _).alloc (Nat.le_refl _) _
      have B2 : Below w3.heap.size w3 x2 := B1.trans (hb.mono B1.size)
      have MI2 := MI1.below hb (Nat.le_refl _)
      have XH2 : Box x2 x1.heap.size #[.int .i64 0, .int .i64 0, .int .i64 0, .int .i64 0] 52 := by rw [← hx]; exact box_of x1 _ _
      have s2 : x1.heap.size < x2.heap.size := by rw [← hx]; simp
      rw [hx]
      refine hK.out _ _ (CELw3.out _ B2) (fun hHeld => ?_)
      clear hK K
      (try simp only [Act.put, List.setIfInBounds_toArray, List.set_cons_zero, List.set_cons_succ])
      clear hb hx B1 MI1
      refine wpAnyH_ready (rs := [4, 12]) (by kernel_rfl) (by simp) ?_
      refine AllReadyH.cons (o := _) (by rw [List.getElem?_toArray]; exact rfl) (fun K hK => ?_) (AllReadyH.cons (o := _) (by rw [List.getElem?_toArray]; exact rfl) (fun K hK => ?_) AllReadyH.nil)
      · rw [if_pos (by kernel_rfl)]
        go_simp
        refine (toEntryS_any la en lc es _ (INSw3.out.2.2.1.below B2 (Nat.le_refl _))).mono ?_
        rintro e x3 ⟨rfl, o2, hb⟩
        have B3 : Below w3.heap.size w3 x3 := B2.trans (hb.mono B2.size)
        have MI3 := MI2.below hb (Nat.le_refl _)
        have XH3 := XH2.below hb XH2.lt
        have E3 : TripAt x3 (some ⟨x2.heap.size, 0, none⟩) en es := own_tripAt o2 hen1
        have s3 : x2.heap.size ≤ x3.heap.size := hb.size
        refine hK.out _ _ (CELw3.out _ B3) (fun hHeld => ?_)
        clear hK K
        (try simp only [Act.put, List.setIfInBounds_toArray, List.set_cons_zero, List.set_cons_succ])
        clear hb B2 MI2 XH2 o2
        refine wpAnyH_ready (rs := [6, 12]) (by kernel_rfl) (by simp) ?_
        refine AllReadyH.cons (o := _) (by rw [List.getElem?_toArray]; exact rfl) (fun K hK => ?_) (AllReadyH.cons (o := _) (by rw [List.getElem?_toArray]; exact rfl) (fun K hK => ?_) AllReadyH.nil)
        · rw [if_pos (by kernel_rfl)]
          go_simp
          refine (toRes_g ra rn rc cd rs _ (INSw3.out.2.2.2.below B3 (Nat.le_refl _))).mono ?_
          rintro e x4 ⟨g3, rfl, hg3, o3, hb⟩
          have B4 : Below w3.heap.size w3 x4 := B3.trans (hb.mono B3.size)
          have MI4 := MI3.below hb (Nat.le_refl _)
          have E4 := E3.below hb (Nat.le_refl _)
          have XH4 := XH3.below hb XH3.lt
          have R4 : IntAt x4 (some ⟨g3, 0, none⟩) rn rs := own_intAt o3 (by omega)
          have s4 : x3.heap.size ≤ x4.heap.size := hb.size
          refine hK.out _ _ (CELw3.out _ B4) (fun hHeld => ?_)
          clear hK K
          (try simp only [Act.put, List.setIfInBounds_toArray, List.set_cons_zero, List.set_cons_succ])
          clear hb B3 MI3 E3 XH3 o3 hg3
          refine wpAnyH_ready (rs := [7, 12]) (by kernel_rfl) (by simp) ?_
          refine AllReadyH.cons (o := _) (by rw [List.getElem?_toArray]; exact rfl) (fun K hK => ?_) (AllReadyH.cons (o := _) (by rw [List.getElem?_toArray]; exact rfl) (fun K hK => ?_) AllReadyH.nil)
          · rw [if_pos (by kernel_rfl)]
            go_simp
            refine (specBegin_any ⟨g1, 0, none⟩ m m fs (some ⟨h1, 0, none⟩) n n ds t ⟨x2.heap.size, 0, none⟩ en en es cd ⟨g3, 0, none⟩ rn rn rs _ MI4.1 MI4.2.1 MI4.2.2.1 SM.out E4 R4 hrn1).mono ?_
            rintro e x5 ⟨⟨F, ds', hT, hS, ok, rfl, says, mo⟩, hb⟩
            have B5 : Below w3.heap.size w3 x5 := B4.trans (hb.mono B4.size)
            have MI5 := MI4.below hb (Nat.le_refl _)
            have E5 := E4.below hb (Nat.le_refl _)
            have R5 := R4.below hb (Nat.le_refl _)
            have XH5 := XH4.below hb XH4.lt
            have MO5 : MemO x5 x4.heap.size F m fs n ds' := mo
            have FB : Hid (∀ a, a < 2 + 2 * n → ∀ b, (F a).ownBlock = some b → x4.heap.size ≤ b ∧ b < x5.heap.size) := mo.blk
            have SAYS : Hid (BeginSays fs m ds t en es cd rn rs ds' hT hS ok) := says
            obtain ⟨pa, pc, e0, _⟩ := owns_slice mo.words
            obtain ⟨gvs, gd, _⟩ := mo.descO.descs
            obtain ⟨pd, pdc, e1, _⟩ := owns_slice gd
            have HF : Hid (F 0 = .slice pa m pc ∧ F 1 = .slice pd n pdc) := ⟨e0, e1⟩
            rw [show MemF F = MemV pa m pc pd n pdc by rw [MemF, e0, e1]]
            have s5 : x4.heap.size ≤ x5.heap.size := hb.size
            refine hK.out _ _ (CELw3.out _ B5) (fun hHeld => ?_)
            clear hK K
            (try simp only [Act.put, List.setIfInBounds_toArray, List.set_cons_zero, List.set_cons_succ])
            clear hb B4 MI4 E4 R4 XH4 mo gd e0 e1 says
            refine wpAnyH_take (i := 8) (oi := _) (v := .tuple #[MemV pa m pc pd n pdc, HelpV hT hS 0 0, .bool ok]) (by rw [List.getElem?_toArray]; exact rfl) (by kernel_rfl) (by kernel_rfl) (by kernel_rfl) (by intro _ _ _ h; exact h) (Or.inl ⟨by kernel_rfl, ?_⟩) hHeld ?_
            · intro w hSw; go_simp
            (try simp only [Act.put, List.setIfInBounds_toArray, List.set_cons_zero, List.set_cons_succ])
            refine wpAnyH_take (i := 9) (oi := _) (v := MemV pa m pc pd n pdc) (by rw [List.getElem?_toArray]; exact rfl) (by kernel_rfl) (by kernel_rfl) (by kernel_rfl) (by intro _ _ _ h; exact h) (Or.inl ⟨by kernel_rfl, ?_⟩) hHeld ?_
            · intro w hSw; go_simp
            (try simp only [Act.put, List.setIfInBounds_toArray, List.set_cons_zero, List.set_cons_succ])
            refine wpAnyH_take (i := 10) (oi := _) (v := HelpV hT hS 0 0) (by rw [List.getElem?_toArray]; exact rfl) (by kernel_rfl) (by kernel_rfl) (by kernel_rfl) (by intro _ _ _ h; exact h) (Or.inl ⟨by kernel_rfl, ?_⟩) hHeld ?_
            · intro w hSw; go_simp
            (try simp only [Act.put, List.setIfInBounds_toArray, List.set_cons_zero, List.set_cons_succ])
            refine wpAnyH_take (i := 11) (oi := _) (v := .bool ok) (by rw [List.getElem?_toArray]; exact rfl) (by kernel_rfl) (by kernel_rfl) (by kernel_rfl) (by intro _ _ _ h; exact h) (Or.inl ⟨by kernel_rfl, ?_⟩) hHeld ?_
            · intro w hSw; go_simp
            (try simp only [Act.put, List.setIfInBounds_toArray, List.set_cons_zero, List.set_cons_succ])
            refine wpAnyH_ready (rs := [12]) (by kernel_rfl) (by simp) ?_
            refine AllReadyH.cons (o := _) (by rw [List.getElem?_toArray]; exact rfl) (fun K hK => ?_) AllReadyH.nil
            rw [if_pos (by kernel_rfl)]
            go_simp
            obtain ⟨x6, hx⟩ : ∃ y, x5.alloc (.cells #[.slice none 0 0, .slice none 0 0] 46) = y := ⟨_, rfl⟩
            have hb : Below x5.heap.size x5 x6 := by rw [← hx]; exact (Below.refl _ _).alloc (Nat.le_refl _) _
            have B6 : Below w3.heap.size w3 x6 := B5.trans (hb.mono B5.size)
            have MI6 := MI5.below hb (Nat.le_refl _)
            have E6 := E5.below hb (Nat.le_refl _)
            have R6 := R5.below hb (Nat.le_refl _)
            have MO6 := MO5.below hb (Nat.le_refl _)
            have XH6 := XH5.below hb XH5.lt
            have XM6 : Box x6 x5.heap.size #[.slice none 0 0, .slice none 0 0] 46 := by rw [← hx]; exact box_of x5 _ _
            have s6 : x5.heap.size < x6.heap.size := by rw [← hx]; simp
            rw [hx]
            refine hK.out _ _ (CELw3.out _ B6) (fun hHeld => ?_)
            clear hK K
            (try simp only [Act.put, List.setIfInBounds_toArray, List.set_cons_zero, List.set_cons_succ])
            clear hb hx B5 MI5 E5 R5 MO5 XH5
            have l1 : w3.heap.size ≤ x5.heap.size := by omega
            have l2 : w3.heap.size ≤ x1.heap.size := by omega
            have hne : x5.heap.size ≠ x1.heap.size := by omega
            have n1 : ∀ a, a < 2 + 2 * n → (F a).ownBlock ≠ some x5.heap.size := fun a ha e => by have := FB.out a ha _ e; omega
            have n2 : ∀ a, a < 2 + 2 * n → (F a).ownBlock ≠ some x1.heap.size := fun a ha e => by have := FB.out a ha _ e; omega
            have ANS : Hid (BegAns w3 x5.heap.size x1.heap.size F m fs n ds' hT hS _) := begAns_of (hT := hT) (hS := hS) B6 XM6 XH6 l1 l2 hne (MO6.weaken (by omega)) n1 n2
            rw [HF.out.1, HF.out.2] at ANS
            obtain ⟨y0, y1, z0, z1⟩ := XM6.two
            refine wpAnyH_ready (rs := [14]) (by kernel_rfl) (by simp) ?_
            refine AllReadyH.cons (o := _) (by rw [List.getElem?_toArray]; exact rfl) (fun K hK => ?_) AllReadyH.nil
            rw [if_pos (by kernel_rfl)]
            go_simp
            refine hK.out _ _ (CELw3.out _ ((B6.setCell l1 _).setCell l1 _)) (fun hHeld => ?_)
            clear hK K
            (try simp only [Act.put, List.setIfInBounds_toArray, List.set_cons_zero, List.set_cons_succ])
            have XH' := (XH6.set (q := ⟨x5.heap.size, 0, none⟩) (show x1.heap.size ≠ x5.heap.size from hne.symm) (.slice pa m pc)).set (q := ⟨x5.heap.size, 1, none⟩) (show x1.heap.size ≠ x5.heap.size from hne.symm) (.slice pd n pdc)
            obtain ⟨⟨u0, u1, u2, u3⟩, v0, v1, v2, v3⟩ := XH'.four
            refine wpAnyH_ready (rs := [15]) (by kernel_rfl) (by simp) ?_
            refine AllReadyH.cons (o := _) (by rw [List.getElem?_toArray]; exact rfl) (fun K hK => ?_) AllReadyH.nil
            rw [if_pos (by kernel_rfl)]
            go_simp
            refine hK.out _ _ (CELw3.out _ ANS.out.bel) (fun hHeld => ?_)
            clear hK K
            (try simp only [Act.put, List.setIfInBounds_toArray, List.set_cons_zero, List.set_cons_succ])
            refine wpAnyH_take (i := 16) (oi := _) (v := .bool ok) (by rw [List.getElem?_toArray]; exact rfl) (by kernel_rfl) (by kernel_rfl) (by kernel_rfl) (by intro _ _ _ h; exact h) (Or.inl ⟨by kernel_rfl, ?_⟩) hHeld ?_
            · intro w hSw; go_simp
            (try simp only [Act.put, List.setIfInBounds_toArray, List.set_cons_zero, List.set_cons_succ])
            refine wpAnyH_done (by kernel_rfl) ?_ _
            exact ⟨x5.heap.size, x1.heap.size, g1, h1, x2.heap.size, g3, pa, pc, pd, pdc, F, ds', hT, hS, ok, rfl, HF.out, SAYS.out, ANS.out⟩
          · rw [if_pos (by kernel_rfl)]
            go_simp
            obtain ⟨x5, hx⟩ : ∃ y, x4.alloc (.cells #[.slice none 0 0, .slice none 0 0] 46) = y := ⟨_, rfl⟩
            have hb : Below x4.heap.size x4 x5 := by rw [← hx]; exact (Below.refl _ _).alloc (Nat.le_refl _) _
            have B5 : Below w3.heap.size w3 x5 := B4.trans (hb.mono B4.size)
            have MI5 := MI4.below hb (Nat.le_refl _)
            have E5 := E4.below hb (Nat.le_refl _)
            have R5 := R4.below hb (Nat.le_refl _)
            have XH5 := XH4.below hb XH4.lt
            have XM5 : Box x5 x4.heap.size #[.slice none 0 0, .slice none 0 0] 46 := by rw [← hx]; exact box_of x4 _ _
            have s5 : x4.heap.size < x5.heap.size := by rw [← hx]; simp
            rw [hx]
            refine hK.out _ _ (CELw3.out _ B5) (fun hHeld => ?_)
            clear hK K
            (try simp only [Act.put, List.setIfInBounds_toArray, List.set_cons_zero, List.set_cons_succ])
            clear hb hx B4 MI4 E4 R4 XH4
            refine wpAnyH_ready (rs := [7]) (by kernel_rfl) (by simp) ?_
            refine AllReadyH.cons (o := _) (by rw [List.getElem?_toArray]; exact rfl) (fun K hK => ?_) AllReadyH.nil
            rw [if_pos (by kernel_rfl)]
            go_simp
            refine (specBegin_any ⟨g1, 0, none⟩ m m fs (some ⟨h1, 0, none⟩) n n ds t ⟨x2.heap.size, 0, none⟩ en en es cd ⟨g3, 0, none⟩ rn rn rs _ MI5.1 MI5.2.1 MI5.2.2.1 SM.out E5 R5 hrn1).mono ?_
            rintro e x6 ⟨⟨F, ds', hT, hS, ok, rfl, says, mo⟩, hb⟩
            have B6 : Below w3.heap.size w3 x6 := B5.trans (hb.mono B5.size)
            have MI6 := MI5.below hb (Nat.le_refl _)
            have E6 := E5.below hb (Nat.le_refl _)
            have R6 := R5.below hb (Nat.le_refl _)
            have XM6 := XM5.below hb XM5.lt
            have XH6 := XH5.below hb XH5.lt
            have MO6 : MemO x6 x5.heap.size F m fs n ds' := mo
            have FB : Hid (∀ a, a < 2 + 2 * n → ∀ b, (F a).ownBlock = some b → x5.heap.size ≤ b ∧ b < x6.heap.size) := mo.blk
            have SAYS : Hid (BeginSays fs m ds t en es cd rn rs ds' hT hS ok) := says
            obtain ⟨pa, pc, e0, _⟩ := owns_slice mo.words
            obtain ⟨gvs, gd, _⟩ := mo.descO.descs
            obtain ⟨pd, pdc, e1, _⟩ := owns_slice gd
            have HF : Hid (F 0 = .slice pa m pc ∧ F 1 = .slice pd n pdc) := ⟨e0, e1⟩
            rw [show MemF F = MemV pa m pc pd n pdc by rw [MemF, e0, e1]]
            have s6 : x5.heap.size ≤ x6.heap.size := hb.size
            refine hK.out _ _ (CELw3.out _ B6) (fun hHeld => ?_)
            clear hK K
            (try simp only [Act.put, List.setIfInBounds_toArray, List.set_cons_zero, List.set_cons_succ])
            clear hb B5 MI5 E5 R5 XM5 XH5 mo gd e0 e1 says
            refine wpAnyH_take (i := 8) (oi := _) (v := .tuple #[MemV pa m pc pd n pdc, HelpV hT hS 0 0, .bool ok]) (by rw [List.getElem?_toArray]; exact rfl) (by kernel_rfl) (by kernel_rfl) (by kernel_rfl) (by intro _ _ _ h; exact h) (Or.inl ⟨by kernel_rfl, ?_⟩) hHeld ?_
            · intro w hSw; go_simp
            (try simp only [Act.put, List.setIfInBounds_toArray, List.set_cons_zero, List.set_cons_succ])
            refine wpAnyH_take (i := 9) (oi := _) (v := MemV pa m pc pd n pdc) (by rw [List.getElem?_toArray]; exact rfl) (by kernel_rfl) (by kernel_rfl) (by kernel_rfl) (by intro _ _ _ h; exact h) (Or.inl ⟨by kernel_rfl, ?_⟩) hHeld ?_
            · intro w hSw; go_simp
            (try simp only [Act.put, List.setIfInBounds_toArray, List.set_cons_zero, List.set_cons_succ])
            refine wpAnyH_take (i := 10) (oi := _) (v := HelpV hT hS 0 0) (by rw [List.getElem?_toArray]; exact rfl) (by kernel_rfl) (by kernel_rfl) (by kernel_rfl) (by intro _ _ _ h; exact h) (Or.inl ⟨by kernel_rfl, ?_⟩) hHeld ?_
            · intro w hSw; go_simp
            (try simp only [Act.put, List.setIfInBounds_toArray, List.set_cons_zero, List.set_cons_succ])
            refine wpAnyH_take (i := 11) (oi := _) (v := .bool ok) (by rw [List.getElem?_toArray]; exact rfl) (by kernel_rfl) (by kernel_rfl) (by kernel_rfl) (by intro _ _ _ h; exact h) (Or.inl ⟨by kernel_rfl, ?_⟩) hHeld ?_
            · intro w hSw; go_simp
            (try simp only [Act.put, List.setIfInBounds_toArray, List.set_cons_zero, List.set_cons_succ])
            have l1 : w3.heap.size ≤ x4.heap.size := by omega
            have l2 : w3.heap.size ≤ x1.heap.size := by omega
            have hne : x4.heap.size ≠ x1.heap.size := by omega
            have n1 : ∀ a, a < 2 + 2 * n → (F a).ownBlock ≠ some x4.heap.size := fun a ha e => by have := FB.out a ha _ e; omega
            have n2 : ∀ a, a < 2 + 2 * n → (F a).ownBlock ≠ some x1.heap.size := fun a ha e => by have := FB.out a ha _ e; omega
            have ANS : Hid (BegAns w3 x4.heap.size x1.heap.size F m fs n ds' hT hS _) := begAns_of (hT := hT) (hS := hS) B6 XM6 XH6 l1 l2 hne (MO6.weaken (by omega)) n1 n2
            rw [HF.out.1, HF.out.2] at ANS
            obtain ⟨y0, y1, z0, z1⟩ := XM6.two
            refine wpAnyH_ready (rs := [14]) (by kernel_rfl) (by simp) ?_
            refine AllReadyH.cons (o := _) (by rw [List.getElem?_toArray]; exact rfl) (fun K hK => ?_) AllReadyH.nil
            rw [if_pos (by kernel_rfl)]
            go_simp
            refine hK.out _ _ (CELw3.out _ ((B6.setCell l1 _).setCell l1 _)) (fun hHeld => ?_)
            clear hK K
            (try simp only [Act.put, List.setIfInBounds_toArray, List.set_cons_zero, List.set_cons_succ])
            have XH' := (XH6.set (q := ⟨x4.heap.size, 0, none⟩) (show x1.heap.size ≠ x4.heap.size from hne.symm) (.slice pa m pc)).set (q := ⟨x4.heap.size, 1, none⟩) (show x1.heap.size ≠ x4.heap.size from hne.symm) (.slice pd n pdc)
            obtain ⟨⟨u0, u1, u2, u3⟩, v0, v1, v2, v3⟩ := XH'.four
            refine wpAnyH_ready (rs := [15]) (by kernel_rfl) (by simp) ?_
            refine AllReadyH.cons (o := _) (by rw [List.getElem?_toArray]; exact rfl) (fun K hK => ?_) AllReadyH.nil
            rw [if_pos (by kernel_rfl)]
            go_simp
            refine hK.out _ _ (CELw3.out _ ANS.out.bel) (fun hHeld => ?_)
            clear hK K
            (try simp only [Act.put, List.setIfInBounds_toArray, List.set_cons_zero, List.set_cons_succ])
            refine wpAnyH_take (i := 16) (oi := _) (v := .bool ok) (by rw [List.getElem?_toArray]; exact rfl) (by kernel_rfl) (by kernel_rfl) (by kernel_rfl) (by intro _ _ _ h; exact h) (Or.inl ⟨by kernel_rfl, ?_⟩) hHeld ?_
            · intro w hSw; go_simp
            (try simp only [Act.put, List.setIfInBounds_toArray, List.set_cons_zero, List.set_cons_succ])
            refine wpAnyH_done (by kernel_rfl) ?_ _
            exact ⟨x4.heap.size, x1.heap.size, g1, h1, x2.heap.size, g3, pa, pc, pd, pdc, F, ds', hT, hS, ok, rfl, HF.out, SAYS.out, ANS.out⟩
        · rw [if_pos (by kernel_rfl)]
          go_simp
          obtain ⟨x4, hx⟩ : ∃ y, x3.alloc (.cells #[.slice none 0 0, .slice none 0 0] 46) = y := ⟨_, rfl⟩
          have hb : Below x3.heap.size x3 x4 := by rw [← hx]; exact (Below.refl _ _).alloc (Nat.le_refl _) _
          have B4 : Below w3.heap.size w3 x4 := B3.trans (hb.mono B3.size)
          have MI4 := MI3.below hb (Nat.le_refl _)
          have E4 := E3.below hb (Nat.le_refl _)
          have XH4 := XH3.below hb XH3.lt
          have XM4 : Box x4 x3.heap.size #[.slice none 0 0, .slice none 0 0] 46 := by rw [← hx]; exact box_of x3 _ _
          have s4 : x3.heap.size < x4.heap.size := by rw [← hx]; simp
          rw [hx]
          refine hK.out _ _ (CELw3.out _ B4) (fun hHeld => ?_)
          clear hK K
          (try simp only [Act.put, List.setIfInBounds_toArray, List.set_cons_zero, List.set_cons_succ])
          clear hb hx B3 MI3 E3 XH3
          refine wpAnyH_ready (rs := [6]) (by kernel_rfl) (by simp) ?_
          refine AllReadyH.cons (o := _) (by rw [List.getElem?_toArray]; exact rfl) (fun K hK => ?_) AllReadyH.nil
          rw [if_pos (by kernel_rfl)]
          go_simp
          refine (toRes_g ra rn rc cd rs _ (INSw3.out.2.2.2.below B4 (Nat.le_refl _))).mono ?_
          rintro e x5 ⟨g3, rfl, hg3, o3, hb⟩
          have B5 : Below w3.heap.size w3 x5 := B4.trans (hb.mono B4.size)
          have MI5 := MI4.below hb (Nat.le_refl _)
          have E5 := E4.below hb (Nat.le_refl _)
          have XM5 := XM4.below hb XM4.lt
          have XH5 := XH4.below hb XH4.lt
          have R5 : IntAt x5 (some ⟨g3, 0, none⟩) rn rs := own_intAt o3 (by omega)
          have s5 : x4.heap.size ≤ x5.heap.size := hb.size
          refine hK.out _ _ (CELw3.out _ B5) (fun hHeld => ?_)
          clear hK K
          (try simp only [Act.put, List.setIfInBounds_toArray, List.set_cons_zero, List.set_cons_succ])
          clear hb B4 MI4 E4 XM4 XH4 o3 hg3
          refine wpAnyH_ready (rs := [7]) (by kernel_rfl) (by simp) ?_
          refine AllReadyH.cons (o := _) (by rw [List.getElem?_toArray]; exact rfl) (fun K hK => ?_) AllReadyH.nil
          rw [if_pos (by kernel_rfl)]
          go_simp
          refine (specBegin_any ⟨g1, 0, none⟩ m m fs (some ⟨h1, 0, none⟩) n n ds t ⟨x2.heap.size, 0, none⟩ en en es cd ⟨g3, 0, none⟩ rn rn rs _ MI5.1 MI5.2.1 MI5.2.2.1 SM.out E5 R5 hrn1).mono ?_
          rintro e x6 ⟨⟨F, ds', hT, hS, ok, rfl, says, mo⟩, hb⟩
          have B6 : Below w3.heap.size w3 x6 := B5.trans (hb.mono B5.size)
          have MI6 := MI5.below hb (Nat.le_refl _)
          have E6 := E5.below hb (Nat.le_refl _)
          have R6 := R5.below hb (Nat.le_refl _)
          have XM6 := XM5.below hb XM5.lt
          have XH6 := XH5.below hb XH5.lt
          have MO6 : MemO x6 x5.heap.size F m fs n ds' := mo
          have FB : Hid (∀ a, a < 2 + 2 * n → ∀ b, (F a).ownBlock = some b → x5.heap.size ≤ b ∧ b < x6.heap.size) := mo.blk
          have SAYS : Hid (BeginSays fs m ds t en es cd rn rs ds' hT hS ok) := says
          obtain ⟨pa, pc, e0, _⟩ := owns_slice mo.words
          obtain ⟨gvs, gd, _⟩ := mo.descO.descs
          obtain ⟨pd, pdc, e1, _⟩ := owns_slice gd
          have HF : Hid (F 0 = .slice pa m pc ∧ F 1 = .slice pd n pdc) := ⟨e0, e1⟩
          rw [show MemF F = MemV pa m pc pd n pdc by rw [MemF, e0, e1]]
          have s6 : x5.heap.size ≤ x6.heap.size := hb.size
          refine hK.out _ _ (CELw3.out _ B6) (fun hHeld => ?_)
          clear hK K
          (try simp only [Act.put, List.setIfInBounds_toArray, List.set_cons_zero, List.set_cons_succ])
          clear hb B5 MI5 E5 R5 XM5 XH5 mo gd e0 e1 says
          refine wpAnyH_take (i := 8) (oi := _) (v := .tuple #[MemV pa m pc pd n pdc, HelpV hT hS 0 0, .bool ok]) (by rw [List.getElem?_toArray]; exact rfl) (by kernel_rfl) (by kernel_rfl) (by kernel_rfl) (by intro _ _ _ h; exact h) (Or.inl ⟨by kernel_rfl, ?_⟩) hHeld ?_
          · intro w hSw; go_simp
          (try simp only [Act.put, List.setIfInBounds_toArray, List.set_cons_zero, List.set_cons_succ])
          refine wpAnyH_take (i := 9) (oi := _) (v := MemV pa m pc pd n pdc) (by rw [List.getElem?_toArray]; exact rfl) (by kernel_rfl) (by kernel_rfl) (by kernel_rfl) (by intro _ _ _ h; exact h) (Or.inl ⟨by kernel_rfl, ?_⟩) hHeld ?_
          · intro w hSw; go_simp
          (try simp only [Act.put, List.setIfInBounds_toArray, List.set_cons_zero, List.set_cons_succ])
          refine wpAnyH_take (i := 10) (oi := _) (v := HelpV hT hS 0 0) (by rw [List.getElem?_toArray]; exact rfl) (by kernel_rfl) (by kernel_rfl) (by kernel_rfl) (by intro _ _ _ h; exact h) (Or.inl ⟨by kernel_rfl, ?_⟩) hHeld ?_
          · intro w hSw; go_simp
          (try simp only [Act.put, List.setIfInBounds_toArray, List.set_cons_zero, List.set_cons_succ])
          refine wpAnyH_take (i := 11) (oi := _) (v := .bool ok) (by rw [List.getElem?_toArray]; exact rfl) (by kernel_rfl) (by kernel_rfl) (by kernel_rfl) (by intro _ _ _ h; exact h) (Or.inl ⟨by kernel_rfl, ?_⟩) hHeld ?_
          · intro w hSw; go_simp
          (try simp only [Act.put, List.setIfInBounds_toArray, List.set_cons_zero, List.set_cons_succ])
          have l1 : w3.heap.size ≤ x3.heap.size := by omega
          have l2 : w3.heap.size ≤ x1.heap.size := by omega
          have hne : x3.heap.size ≠ x1.heap.size := by omega
          have n1 : ∀ a, a < 2 + 2 * n → (F a).ownBlock ≠ some x3.heap.size := fun a ha e => by have := FB.out a ha _ e; omega
          have n2 : ∀ a, a < 2 + 2 * n → (F a).ownBlock ≠ some x1.heap.size := fun a ha e => by have := FB.out a ha _ e; omega
          have ANS : Hid (BegAns w3 x3.heap.size x1.heap.size F m fs n ds' hT hS _) := begAns_of (hT := hT) (hS := hS) B6 XM6 XH6 l1 l2 hne (MO6.weaken (by omega)) n1 n2
          rw [HF.out.1, HF.out.2] at ANS
          obtain ⟨y0, y1, z0, z1⟩ := XM6.two
          refine wpAnyH_ready (rs := [14]) (by kernel_rfl) (by simp) ?_
          refine AllReadyH.cons (o := _) (by rw [List.getElem?_toArray]; exact rfl) (fun K hK => ?_) AllReadyH.nil
          rw [if_pos (by kernel_rfl)]
          go_simp
          refine hK.out _ _ (CELw3.out _ ((B6.setCell l1 _).setCell l1 _)) (fun hHeld => ?_)
          clear hK K
          (try simp only [Act.put, List.setIfInBounds_toArray, List.set_cons_zero, List.set_cons_succ])
          have XH' := (XH6.set (q := ⟨x3.heap.size, 0, none⟩) (show x1.heap.size ≠ x3.heap.size from hne.symm) (.slice pa m pc)).set (q := ⟨x3.heap.size, 1, none⟩) (show x1.heap.size ≠ x3.heap.size from hne.symm) (.slice pd n pdc)
          obtain ⟨⟨u0, u1, u2, u3⟩, v0, v1, v2, v3⟩ := XH'.four
          refine wpAnyH_ready (rs := [15]) (by kernel_rfl) (by simp) ?_
          refine AllReadyH.cons (o := _) (by rw [List.getElem?_toArray]; exact rfl) (fun K hK => ?_) AllReadyH.nil
          rw [if_pos (by kernel_rfl)]
          go_simp
          refine hK.out _ _ (CELw3.out _ ANS.out.bel) (fun hHeld => ?_)
          clear hK K
          (try simp only [Act.put, List.setIfInBounds_toArray, List.set_cons_zero, List.set_cons_succ])
          refine wpAnyH_take (i := 16) (oi := _) (v := .bool ok) (by rw [List.getElem?_toArray]; exact rfl) (by kernel_rfl) (by kernel_rfl) (by kernel_rfl) (by intro _ _ _ h; exact h) (Or.inl ⟨by kernel_rfl, ?_⟩) hHeld ?_
          · intro w hSw; go_simp
          (try simp only [Act.put, List.setIfInBounds_toArray, List.set_cons_zero, List.set_cons_succ])
          refine wpAnyH_done (by kernel_rfl) ?_ _
          exact ⟨x3.heap.size, x1.heap.size, g1, h1, x2.heap.size, g3, pa, pc, pd, pdc, F, ds', hT, hS, ok, rfl, HF.out, SAYS.out, ANS.out⟩
      · rw [if_pos (by kernel_rfl)]
        go_simp
        obtain ⟨x3, hx⟩ : ∃ y, x2.alloc (.cells #[.slice none 0 0, .slice none 0 0] 46) = y := ⟨_, rfl⟩
        have hb : Below x2.heap.size x2 x3 := by rw [← hx]; exact (Below.refl _ _).alloc (Nat.le_refl _) _
        have B3 : Below w3.heap.size w3 x3 := B2.trans (hb.mono B2.size)
        have MI3 := MI2.below hb (Nat.le_refl _)
        have XH3 := XH2.below hb XH2.lt
        have XM3 : Box x3 x2.heap.size #[.slice none 0 0, .slice none 0 0] 46 := by rw [← hx]; exact box_of x2 _ _
        have s3 : x2.heap.size < x3.heap.size := by rw [← hx]; simp
        rw [hx]
        refine hK.out _ _ (CELw3.out _ B3) (fun hHeld => ?_)
        clear hK K
        (try simp only [Act.put, List.setIfInBounds_toArray, List.set_cons_zero, List.set_cons_succ])
        clear hb hx B2 MI2 XH2
        refine wpAnyH_ready (rs := [4]) (by kernel_rfl) (by simp) ?_
        refine AllReadyH.cons (o := _) (by rw [List.getElem?_toArray]; exact rfl) (fun K hK => ?_) AllReadyH.nil
        rw [if_pos (by kernel_rfl)]
        go_simp
        refine (toEntryS_any la en lc es _ (INSw3.out.2.2.1.below B3 (Nat.le_refl _))).mono ?_
        rintro e x4 ⟨rfl, o2, hb⟩
        have B4 : Below w3.heap.size w3 x4 := B3.trans (hb.mono B3.size)
        have MI4 := MI3.below hb (Nat.le_refl _)
        have XM4 := XM3.below hb XM3.lt
        have XH4 := XH3.below hb XH3.lt
        have E4 : TripAt x4 (some ⟨x3.heap.size, 0, none⟩) en es := own_tripAt o2 hen1
        have s4 : x3.heap.size ≤ x4.heap.size := hb.size
        refine hK.out _ _ (CELw3.out _ B4) (fun hHeld => ?_)
        clear hK K
        (try simp only [Act.put, List.setIfInBounds_toArray, List.set_cons_zero, List.set_cons_succ])
        clear hb B3 MI3 XM3 XH3 o2
        refine wpAnyH_ready (rs := [6]) (by kernel_rfl) (by simp) ?_
        refine AllReadyH.cons (o := _) (by rw [List.getElem?_toArray]; exact rfl) (fun K hK => ?_) AllReadyH.nil
        rw [if_pos (by kernel_rfl)]
        go_simp
        refine (toRes_g ra rn rc cd rs _ (INSw3.out.2.2.2.below B4 (Nat.le_refl _))).mono ?_
        rintro e x5 ⟨g3, rfl, hg3, o3, hb⟩
        have B5 : Below w3.heap.size w3 x5 := B4.trans (hb.mono B4.size)
        have MI5 := MI4.below hb (Nat.le_refl _)
        have E5 := E4.below hb (Nat.le_refl _)
        have XM5 := XM4.below hb XM4.lt
        have XH5 := XH4.below hb XH4.lt
        have R5 : IntAt x5 (some ⟨g3, 0, none⟩) rn rs := own_intAt o3 (by omega)
        have s5 : x4.heap.size ≤ x5.heap.size := hb.size
        refine hK.out _ _ (CELw3.out _ B5) (fun hHeld => ?_)
        clear hK K
        (try simp only [Act.put, List.setIfInBounds_toArray, List.set_cons_zero, List.set_cons_succ])
        clear hb B4 MI4 E4 XM4 XH4 o3 hg3
        refine wpAnyH_ready (rs := [7]) (by kernel_rfl) (by simp) ?_
        refine AllReadyH.cons (o := _) (by rw [List.getElem?_toArray]; exact rfl) (fun K hK => ?_) AllReadyH.nil
        rw [if_pos (by kernel_rfl)]
        go_simp
        refine (specBegin_any ⟨g1, 0, none⟩ m m fs (some ⟨h1, 0, none⟩) n n ds t ⟨x3.heap.size, 0, none⟩ en en es cd ⟨g3, 0, none⟩ rn rn rs _ MI5.1 MI5.2.1 MI5.2.2.1 SM.out E5 R5 hrn1).mono ?_
        rintro e x6 ⟨⟨F, ds', hT, hS, ok, rfl, says, mo⟩, hb⟩
        have B6 : Below w3.heap.size w3 x6 := B5.trans (hb.mono B5.size)
        have MI6 := MI5.below hb (Nat.le_refl _)
        have E6 := E5.below hb (Nat.le_refl _)
        have R6 := R5.below hb (Nat.le_refl _)
        have XM6 := XM5.below hb XM5.lt
        have XH6 := XH5.below hb XH5.lt
        have MO6 : MemO x6 x5.heap.size F m fs n ds' := mo
        have FB : Hid (∀ a, a < 2 + 2 * n → ∀ b, (F a).ownBlock = some b → x5.heap.size ≤ b ∧ b < x6.heap.size) := mo.blk
        have SAYS : Hid (BeginSays fs m ds t en es cd rn rs ds' hT hS ok) := says
        obtain ⟨pa, pc, e0, _⟩ := owns_slice mo.words
        obtain ⟨gvs, gd, _⟩ := mo.descO.descs
        obtain ⟨pd, pdc, e1, _⟩ := owns_slice gd
        have HF : Hid (F 0 = .slice pa m pc ∧ F 1 = .slice pd n pdc) := ⟨e0, e1⟩
        rw [show MemF F = MemV pa m pc pd n pdc by rw [MemF, e0, e1]]
        have s6 : x5.heap.size ≤ x6.heap.size := hb.size
        refine hK.out _ _ (CELw3.out _ B6) (fun hHeld => ?_)
        clear hK K
        (try simp only [Act.put, List.setIfInBounds_toArray, List.set_cons_zero, List.set_cons_succ])
        clear hb B5 MI5 E5 R5 XM5 XH5 mo gd e0 e1 says
        refine wpAnyH_take (i := 8) (oi := _) (v := .tuple #[MemV pa m pc pd n pdc, HelpV hT hS 0 0, .bool ok]) (by rw [List.getElem?_toArray]; exact rfl) (by kernel_rfl) (by kernel_rfl) (by kernel_rfl) (by intro _ _ _ h; exact h) (Or.inl ⟨by kernel_rfl, ?_⟩) hHeld ?_
        · intro w hSw; go_simp
        (try simp only [Act.put, List.setIfInBounds_toArray, List.set_cons_zero, List.set_cons_succ])
        refine wpAnyH_take (i := 9) (oi := _) (v := MemV pa m pc pd n pdc) (by rw [List.getElem?_toArray]; exact rfl) (by kernel_rfl) (by kernel_rfl) (by kernel_rfl) (by intro _ _ _ h; exact h) (Or.inl ⟨by kernel_rfl, ?_⟩) hHeld ?_
        · intro w hSw; go_simp
        (try simp only [Act.put, List.setIfInBounds_toArray, List.set_cons_zero, List.set_cons_succ])
        refine wpAnyH_take (i := 10) (oi := _) (v := HelpV hT hS 0 0) (by rw [List.getElem?_toArray]; exact rfl) (by kernel_rfl) (by kernel_rfl) (by kernel_rfl) (by intro _ _ _ h; exact h) (Or.inl ⟨by kernel_rfl, ?_⟩) hHeld ?_
        · intro w hSw; go_simp
        (try simp only [Act.put, List.setIfInBounds_toArray, List.set_cons_zero, List.set_cons_succ])
        refine wpAnyH_take (i := 11) (oi := _) (v := .bool ok) (by rw [List.getElem?_toArray]; exact rfl) (by kernel_rfl) (by kernel_rfl) (by kernel_rfl) (by intro _ _ _ h; exact h) (Or.inl ⟨by kernel_rfl, ?_⟩) hHeld ?_
        · intro w hSw; go_simp
        (try simp only [Act.put, List.setIfInBounds_toArray, List.set_cons_zero, List.set_cons_succ])
        have l1 : w3.heap.size ≤ x2.heap.size := by omega
        have l2 : w3.heap.size ≤ x1.heap.size := by omega
        have hne : x2.heap.size ≠ x1.heap.size := by omega
        have n1 : ∀ a, a < 2 + 2 * n → (F a).ownBlock ≠ some x2.heap.size := fun a ha e => by have := FB.out a ha _ e; omega
        have n2 : ∀ a, a < 2 + 2 * n → (F a).ownBlock ≠ some x1.heap.size := fun a ha e => by have := FB.out a ha _ e; omega
        have ANS : Hid (BegAns w3 x2.heap.size x1.heap.size F m fs n ds' hT hS _) := begAns_of (hT := hT) (hS := hS) B6 XM6 XH6 l1 l2 hne (MO6.weaken (by omega)) n1 n2
        rw [HF.out.1, HF.out.2] at ANS
        obtain ⟨y0, y1, z0, z1⟩ := XM6.two
        refine wpAnyH_ready (rs := [14]) (by kernel_rfl) (by simp) ?_
        refine AllReadyH.cons (o := _) (by rw [List.getElem?_toArray]; exact rfl) (fun K hK => ?_) AllReadyH.nil
        rw [if_pos (by kernel_rfl)]
        go_simp
        refine hK.out _ _ (CELw3.out _ ((B6.setCell l1 _).setCell l1 _)) (fun hHeld => ?_)
        clear hK K
        (try simp only [Act.put, List.setIfInBounds_toArray, List.set_cons_zero, List.set_cons_succ])
        have XH' := (XH6.set (q := ⟨x2.heap.size, 0, none⟩) (show x1.heap.size ≠ x2.heap.size from hne.symm) (.slice pa m pc)).set (q := ⟨x2.heap.size, 1, none⟩) (show x1.heap.size ≠ x2.heap.size from hne.symm) (.slice pd n pdc)
        obtain ⟨⟨u0, u1, u2, u3⟩, v0, v1, v2, v3⟩ := XH'.four
        refine wpAnyH_ready (rs := [15]) (by kernel_rfl) (by simp) ?_
        refine AllReadyH.cons (o := _) (by rw [List.getElem?_toArray]; exact rfl) (fun K hK => ?_) AllReadyH.nil
        rw [if_pos (by kernel_rfl)]
        go_simp
        refine hK.out _ _ (CELw3.out _ ANS.out.bel) (fun hHeld => ?_)
        clear hK K
        (try simp only [Act.put, List.setIfInBounds_toArray, List.set_cons_zero, List.set_cons_succ])
        refine wpAnyH_take (i := 16) (oi := _) (v := .bool ok) (by rw [List.getElem?_toArray]; exact rfl) (by kernel_rfl) (by kernel_rfl) (by kernel_rfl) (by intro _ _ _ h; exact h) (Or.inl ⟨by kernel_rfl, ?_⟩) hHeld ?_
        · intro w hSw; go_simp
        (try simp only [Act.put, List.setIfInBounds_toArray, List.set_cons_zero, List.set_cons_succ])
        refine wpAnyH_done (by kernel_rfl) ?_ _
        exact ⟨x2.heap.size, x1.heap.size, g1, h1, x3.heap.size, g3, pa, pc, pd, pdc, F, ds', hT, hS, ok, rfl, HF.out, SAYS.out, ANS.out⟩
  · rw [if_pos (by kernel_rfl)]
    go_simp
    obtain ⟨x1, hx⟩ : ∃ y, x0.alloc (.cells #[.slice none 0 0, .slice none 0 0] 46) = y := ⟨_, rfl⟩
    have hb : Below x0.heap.size x0 x1 := by rw [← hx]; exact (Below.refl _ _).alloc (Nat.le_refl _) _
    have B1 : Below w3.heap.size w3 x1 := B0.trans (hb.mono B0.size)
    have XM1 : Box x1 x0.heap.size #[.slice none 0 0, .slice none 0 0] 46 := by rw [← hx]; exact box_of x0 _ _
    have s1 : x0.heap.size < x1.heap.size := by rw [← hx]; simp
    rw [hx]
    refine hK.out _ _ (CELw3.out _ B1) (fun hHeld => ?_)
    clear hK K
    (try simp only [Act.put, List.setIfInBounds_toArray, List.set_cons_zero, List.set_cons_succ])
    clear hb hx B0
    refine wpAnyH_ready (rs := [1, 13]) (by kernel_rfl) (by simp) ?_
    refine AllReadyH.cons (o := _) (by rw [List.getElem?_toArray]; exact rfl) (fun K hK => ?_) (AllReadyH.cons (o := _) (by rw [List.getElem?_toArray]; exact rfl) (fun K hK => ?_) AllReadyH.nil)
    · rw [if_pos (by kernel_rfl)]
      go_simp
      refine (toMem_any wa m wc fs da n dc ds _ (INSw3.out.1.below B1 (Nat.le_refl _)) (INSw3.out.2.1.below B1 (Nat.le_refl _))).mono ?_
      rintro e x2 ⟨g1, h1, rfl, hg1, hh1, o1, p1, hb⟩
      have B2 : Below w3.heap.size w3 x2 := B1.trans (hb.mono B1.size)
      have XM2 := XM1.below hb XM1.lt
      have MI2 : MemIn x2 g1 h1 m n fs ds := memIn_of o1 p1 HL.out hm1 hn1 SM.out
      have s2 : x1.heap.size ≤ x2.heap.size := hb.size
      refine hK.out _ _ (CELw3.out _ B2) (fun hHeld => ?_)
      clear hK K
      (try simp only [Act.put, List.setIfInBounds_toArray, List.set_cons_zero, List.set_cons_succ])
      clear hb B1 XM1 o1 p1 hg1 hh1
      refine wpAnyH_ready (rs := [4, 13]) (by kernel_rfl) (by simp) ?_
      refine AllReadyH.cons (o := _) (by rw [List.getElem?_toArray]; exact rfl) (fun K hK => ?_) (AllReadyH.cons (o := _) (by rw [List.getElem?_toArray]; exact rfl) (fun K hK => ?_) AllReadyH.nil)
      · rw [if_pos (by kernel_rfl)]
        go_simp
        refine (toEntryS_any la en lc es _ (INSw3.out.2.2.1.below B2 (Nat.le_refl _))).mono ?_
        rintro e x3 ⟨rfl, o2, hb⟩
        have B3 : Below w3.heap.size w3 x3 := B2.trans (hb.mono B2.size)
        have MI3 := MI2.below hb (Nat.le_refl _)
        have XM3 := XM2.below hb XM2.lt
        have E3 : TripAt x3 (some ⟨x2.heap.size, 0, none⟩) en es := own_tripAt o2 hen1
        have s3 : x2.heap.size ≤ x3.heap.size := hb.size
        refine hK.out _ _ (CELw3.out _ B3) (fun hHeld => ?_)
        clear hK K
        (try simp only [Act.put, List.setIfInBounds_toArray, List.set_cons_zero, List.set_cons_succ])
        clear hb B2 MI2 XM2 o2
        refine wpAnyH_ready (rs := [6, 13]) (by kernel_rfl) (by simp) ?_
        refine AllReadyH.cons (o := _) (by rw [List.getElem?_toArray]; exact rfl) (fun K hK => ?_) (AllReadyH.cons (o := _) (by rw [List.getElem?_toArray]; exact rfl) (fun K hK => ?_) AllReadyH.nil)
        · rw [if_pos (by kernel_rfl)]
          go_simp
          refine (toRes_g ra rn rc cd rs _ (INSw3.out.2.2.2.below B3 (Nat.le_refl _))).mono ?_
          rintro e x4 ⟨g3, rfl, hg3, o3, hb⟩
          have B4 : Below w3.heap.size w3 x4 := B3.trans (hb.mono B3.size)
          have MI4 := MI3.below hb (Nat.le_refl _)
          have E4 := E3.below hb (Nat.le_refl _)
          have XM4 := XM3.below hb XM3.lt
          have R4 : IntAt x4 (some ⟨g3, 0, none⟩) rn rs := own_intAt o3 (by omega)
          have s4 : x3.heap.size ≤ x4.heap.size := hb.size
          refine hK.out _ _ (CELw3.out _ B4) (fun hHeld => ?_)
          clear hK K
          (try simp only [Act.put, List.setIfInBounds_toArray, List.set_cons_zero, List.set_cons_succ])
          clear hb B3 MI3 E3 XM3 o3 hg3
          refine wpAnyH_ready (rs := [7, 13]) (by kernel_rfl) (by simp) ?_
          refine AllReadyH.cons (o := _) (by rw [List.getElem?_toArray]; exact rfl) (fun K hK => ?_) (AllReadyH.cons (o := _) (by rw [List.getElem?_toArray]; exact rfl) (fun K hK => ?_) AllReadyH.nil)
          · rw [if_pos (by kernel_rfl)]
            go_simp
            refine (specBegin_any ⟨g1, 0, none⟩ m m fs (some ⟨h1, 0, none⟩) n n ds t ⟨x2.heap.size, 0, none⟩ en en es cd ⟨g3, 0, none⟩ rn rn rs _ MI4.1 MI4.2.1 MI4.2.2.1 SM.out E4 R4 hrn1).mono ?_
            rintro e x5 ⟨⟨F, ds', hT, hS, ok, rfl, says, mo⟩, hb⟩
            have B5 : Below w3.heap.size w3 x5 := B4.trans (hb.mono B4.size)
            have MI5 := MI4.below hb (Nat.le_refl _)
            have E5 := E4.below hb (Nat.le_refl _)
            have R5 := R4.below hb (Nat.le_refl _)
            have XM5 := XM4.below hb XM4.lt
            have MO5 : MemO x5 x4.heap.size F m fs n ds' := mo
            have FB : Hid (∀ a, a < 2 + 2 * n → ∀ b, (F a).ownBlock = some b → x4.heap.size ≤ b ∧ b < x5.heap.size) := mo.blk
            have SAYS : Hid (BeginSays fs m ds t en es cd rn rs ds' hT hS ok) := says
            obtain ⟨pa, pc, e0, _⟩ := owns_slice mo.words
            obtain ⟨gvs, gd, _⟩ := mo.descO.descs
            obtain ⟨pd, pdc, e1, _⟩ := owns_slice gd
            have HF : Hid (F 0 = .slice pa m pc ∧ F 1 = .slice pd n pdc) := ⟨e0, e1⟩
            rw [show MemF F = MemV pa m pc pd n pdc by rw [MemF, e0, e1]]
            have s5 : x4.heap.size ≤ x5.heap.size := hb.size
            refine hK.out _ _ (CELw3.out _ B5) (fun hHeld => ?_)
            clear hK K
            (try simp only [Act.put, List.setIfInBounds_toArray, List.set_cons_zero, List.set_cons_succ])
            clear hb B4 MI4 E4 R4 XM4 mo gd e0 e1 says
            refine wpAnyH_take (i := 8) (oi := _) (v := .tuple #[MemV pa m pc pd n pdc, HelpV hT hS 0 0, .bool ok]) (by rw [List.getElem?_toArray]; exact rfl) (by kernel_rfl) (by kernel_rfl) (by kernel_rfl) (by intro _ _ _ h; exact h) (Or.inl ⟨by kernel_rfl, ?_⟩) hHeld ?_
            · intro w hSw; go_simp
            (try simp only [Act.put, List.setIfInBounds_toArray, List.set_cons_zero, List.set_cons_succ])
            refine wpAnyH_take (i := 9) (oi := _) (v := MemV pa m pc pd n pdc) (by rw [List.getElem?_toArray]; exact rfl) (by kernel_rfl) (by kernel_rfl) (by kernel_rfl) (by intro _ _ _ h; exact h) (Or.inl ⟨by kernel_rfl, ?_⟩) hHeld ?_
            · intro w hSw; go_simp
            (try simp only [Act.put, List.setIfInBounds_toArray, List.set_cons_zero, List.set_cons_succ])
            refine wpAnyH_take (i := 10) (oi := _) (v := HelpV hT hS 0 0) (by rw [List.getElem?_toArray]; exact rfl) (by kernel_rfl) (by kernel_rfl) (by kernel_rfl) (by intro _ _ _ h; exact h) (Or.inl ⟨by kernel_rfl, ?_⟩) hHeld ?_
            · intro w hSw; go_simp
            (try simp only [Act.put, List.setIfInBounds_toArray, List.set_cons_zero, List.set_cons_succ])
            refine wpAnyH_take (i := 11) (oi := _) (v := .bool ok) (by rw [List.getElem?_toArray]; exact rfl) (by kernel_rfl) (by kernel_rfl) (by kernel_rfl) (by intro _ _ _ h; exact h) (Or.inl ⟨by kernel_rfl, ?_⟩) hHeld ?_
            · intro w hSw; go_simp
            (try simp only [Act.put, List.setIfInBounds_toArray, List.set_cons_zero, List.set_cons_succ])
            refine wpAnyH_ready (rs := [13]) (by kernel_rfl) (by simp) ?_
            refine AllReadyH.cons (o := _) (by rw [List.getElem?_toArray]; exact rfl) (fun K hK => ?_) AllReadyH.nil
            rw [if_pos (by kernel_rfl)]
            go_simp
            obtain ⟨x6, hx⟩ : ∃ y, x5.alloc (.cells #[.int .i64 0, .int .i64 0, .int .i64 0, .int .i64 0] 52) = y := ⟨_, rfl⟩
            have hb : Below x5.heap.size x5 x6 := by rw [← hx]; exact (Below.refl _ _).alloc (Nat.le_refl _) _
            have B6 : Below w3.heap.size w3 x6 := B5.trans (hb.mono B5.size)
            have MI6 := MI5.below hb (Nat.le_refl _)
            have E6 := E5.below hb (Nat.le_refl _)
            have R6 := R5.below hb (Nat.le_refl _)
            have MO6 := MO5.below hb (Nat.le_refl _)
            have XM6 := XM5.below hb XM5.lt
            have XH6 : Box x6 x5.heap.size #[.int .i64 0, .int .i64 0, .int .i64 0, .int .i64 0] 52 := by rw [← hx]; exact box_of x5 _ _
            have s6 : x5.heap.size < x6.heap.size := by rw [← hx]; simp
            rw [hx]
            refine hK.out _ _ (CELw3.out _ B6) (fun hHeld => ?_)
            clear hK K
            (try simp only [Act.put, List.setIfInBounds_toArray, List.set_cons_zero, List.set_cons_succ])
            clear hb hx B5 MI5 E5 R5 MO5 XM5
            have l1 : w3.heap.size ≤ x0.heap.size := by omega
            have l2 : w3.heap.size ≤ x5.heap.size := by omega
            have hne : x0.heap.size ≠ x5.heap.size := by omega
            have n1 : ∀ a, a < 2 + 2 * n → (F a).ownBlock ≠ some x0.heap.size := fun a ha e => by have := FB.out a ha _ e; omega
            have n2 : ∀ a, a < 2 + 2 * n → (F a).ownBlock ≠ some x5.heap.size := fun a ha e => by have := FB.out a ha _ e; omega
            have ANS : Hid (BegAns w3 x0.heap.size x5.heap.size F m fs n ds' hT hS _) := begAns_of (hT := hT) (hS := hS) B6 XM6 XH6 l1 l2 hne (MO6.weaken (by omega)) n1 n2
            rw [HF.out.1, HF.out.2] at ANS
            obtain ⟨y0, y1, z0, z1⟩ := XM6.two
            refine wpAnyH_ready (rs := [14]) (by kernel_rfl) (by simp) ?_
            refine AllReadyH.cons (o := _) (by rw [List.getElem?_toArray]; exact rfl) (fun K hK => ?_) AllReadyH.nil
            rw [if_pos (by kernel_rfl)]
            go_simp
            refine hK.out _ _ (CELw3.out _ ((B6.setCell l1 _).setCell l1 _)) (fun hHeld => ?_)
            clear hK K
            (try simp only [Act.put, List.setIfInBounds_toArray, List.set_cons_zero, List.set_cons_succ])
            have XH' := (XH6.set (q := ⟨x0.heap.size, 0, none⟩) (show x5.heap.size ≠ x0.heap.size from hne.symm) (.slice pa m pc)).set (q := ⟨x0.heap.size, 1, none⟩) (show x5.heap.size ≠ x0.heap.size from hne.symm) (.slice pd n pdc)
            obtain ⟨⟨u0, u1, u2, u3⟩, v0, v1, v2, v3⟩ := XH'.four
            refine wpAnyH_ready (rs := [15]) (by kernel_rfl) (by simp) ?_
            refine AllReadyH.cons (o := _) (by rw [List.getElem?_toArray]; exact rfl) (fun K hK => ?_) AllReadyH.nil
            rw [if_pos (by kernel_rfl)]
            go_simp
            refine hK.out _ _ (CELw3.out _ ANS.out.bel) (fun hHeld => ?_)
            clear hK K
            (try simp only [Act.put, List.setIfInBounds_toArray, List.set_cons_zero, List.set_cons_succ])
            refine wpAnyH_take (i := 16) (oi := _) (v := .bool ok) (by rw [List.getElem?_toArray]; exact rfl) (by kernel_rfl) (by kernel_rfl) (by kernel_rfl) (by intro _ _ _ h; exact h) (Or.inl ⟨by kernel_rfl, ?_⟩) hHeld ?_
            · intro w hSw; go_simp
            (try simp only [Act.put, List.setIfInBounds_toArray, List.set_cons_zero, List.set_cons_succ])
            refine wpAnyH_done (by kernel_rfl) ?_ _
            exact ⟨x0.heap.size, x5.heap.size, g1, h1, x2.heap.size, g3, pa, pc, pd, pdc, F, ds', hT, hS, ok, rfl, HF.out, SAYS.out, ANS.out⟩
          · rw [if_pos (by kernel_rfl)]
            go_simp
            obtain ⟨x5, hx⟩ : ∃ y, x4.alloc (.cells #[.int .i64 0, .int .i64 0, .int .i64 0, .int .i64 0] 52) = y := ⟨_, rfl⟩
            have hb : Below x4.heap.size x4 x5 := by rw [← hx]; exact (Below.refl _ _).alloc (Nat.le_refl _) _
            have B5 : Below w3.heap.size w3 x5 := B4.trans (hb.mono B4.size)
            have MI5 := MI4.below hb (Nat.le_refl _)
            have E5 := E4.below hb (Nat.le_refl _)
            have R5 := R4.below hb (Nat.le_refl _)
            have XM5 := XM4.below hb XM4.lt
            have XH5 : Box x5 x4.heap.size #[.int .i64 0, .int .i64 0, .int .i64 0, .int .i64 0] 52 := by rw [← hx]; exact box_of x4 _ _
            have s5 : x4.heap.size < x5.heap.size := by rw [← hx]; simp
            rw [hx]
            refine hK.out _ _ (CELw3.out _ B5) (fun hHeld => ?_)
            clear hK K
            (try simp only [Act.put, List.setIfInBounds_toArray, List.set_cons_zero, List.set_cons_succ])
            clear hb hx B4 MI4 E4 R4 XM4
            refine wpAnyH_ready (rs := [7]) (by kernel_rfl) (by simp) ?_
            refine AllReadyH.cons (o := _) (by rw [List.getElem?_toArray]; exact rfl) (fun K hK => ?_) AllReadyH.nil
            rw [if_pos (by kernel_rfl)]
            go_simp
            refine (specBegin_any ⟨g1, 0, none⟩ m m fs (some ⟨h1, 0, none⟩) n n ds t ⟨x2.heap.size, 0, none⟩ en en es cd ⟨g3, 0, none⟩ rn rn rs _ MI5.1 MI5.2.1 MI5.2.2.1 SM.out E5 R5 hrn1).mono ?_
            rintro e x6 ⟨⟨F, ds', hT, hS, ok, rfl, says, mo⟩, hb⟩
            have B6 : Below w3.heap.size w3 x6 := B5.trans (hb.mono B5.size)
            have MI6 := MI5.below hb (Nat.le_refl _)
            have E6 := E5.below hb (Nat.le_refl _)
            have R6 := R5.below hb (Nat.le_refl _)
            have XM6 := XM5.below hb XM5.lt
            have XH6 := XH5.below hb XH5.lt
            have MO6 : MemO x6 x5.heap.size F m fs n ds' := mo
            have FB : Hid (∀ a, a < 2 + 2 * n → ∀ b, (F a).ownBlock = some b → x5.heap.size ≤ b ∧ b < x6.heap.size) := mo.blk
            have SAYS : Hid (BeginSays fs m ds t en es cd rn rs ds' hT hS ok) := says
            obtain ⟨pa, pc, e0, _⟩ := owns_slice mo.words
            obtain ⟨gvs, gd, _⟩ := mo.descO.descs
            obtain ⟨pd, pdc, e1, _⟩ := owns_slice gd
            have HF : Hid (F 0 = .slice pa m pc ∧ F 1 = .slice pd n pdc) := ⟨e0, e1⟩
            rw [show MemF F = MemV pa m pc pd n pdc by rw [MemF, e0, e1]]
            have s6 : x5.heap.size ≤ x6.heap.size := hb.size
            refine hK.out _ _ (CELw3.out _ B6) (fun hHeld => ?_)
            clear hK K
            (try simp only [Act.put, List.setIfInBounds_toArray, List.set_cons_zero, List.set_cons_succ])
            clear hb B5 MI5 E5 R5 XM5 XH5 mo gd e0 e1 says
            refine wpAnyH_take (i := 8) (oi := _) (v := .tuple #[MemV pa m pc pd n pdc, HelpV hT hS 0 0, .bool ok]) (by rw [List.getElem?_toArray]; exact rfl) (by kernel_rfl) (by kernel_rfl) (by kernel_rfl) (by intro _ _ _ h; exact h) (Or.inl ⟨by kernel_rfl, ?_⟩) hHeld ?_
            · intro w hSw; go_simp
            (try simp only [Act.put, List.setIfInBounds_toArray, List.set_cons_zero, List.set_cons_succ])
            refine wpAnyH_take (i := 9) (oi := _) (v := MemV pa m pc pd n pdc) (by rw [List.getElem?_toArray]; exact rfl) (by kernel_rfl) (by kernel_rfl) (by kernel_rfl) (by intro _ _ _ h; exact h) (Or.inl ⟨by kernel_rfl, ?_⟩) hHeld ?_
            · intro w hSw; go_simp
            (try simp only [Act.put, List.setIfInBounds_toArray, List.set_cons_zero, List.set_cons_succ])
            refine wpAnyH_take (i := 10) (oi := _) (v := HelpV hT hS 0 0) (by rw [List.getElem?_toArray]; exact rfl) (by kernel_rfl) (by kernel_rfl) (by kernel_rfl) (by intro _ _ _ h; exact h) (Or.inl ⟨by kernel_rfl, ?_⟩) hHeld ?_
            · intro w hSw; go_simp
            (try simp only [Act.put, List.setIfInBounds_toArray, List.set_cons_zero, List.set_cons_succ])
            refine wpAnyH_take (i := 11) (oi := _) (v := .bool ok) (by rw [List.getElem?_toArray]; exact rfl) (by kernel_rfl) (by kernel_rfl) (by kernel_rfl) (by intro _ _ _ h; exact h) (Or.inl ⟨by kernel_rfl, ?_⟩) hHeld ?_
            · intro w hSw; go_simp
            (try simp only [Act.put, List.setIfInBounds_toArray, List.set_cons_zero, List.set_cons_succ])
            have l1 : w3.heap.size ≤ x0.heap.size := by omega
            have l2 : w3.heap.size ≤ x4.heap.size := by omega
            have hne : x0.heap.size ≠ x4.heap.size := by omega
            have n1 : ∀ a, a < 2 + 2 * n → (F a).ownBlock ≠ some x0.heap.size := fun a ha e => by have := FB.out a ha _ e; omega
            have n2 : ∀ a, a < 2 + 2 * n → (F a).ownBlock ≠ some x4.heap.size := fun a ha e => by have := FB.out a ha _ e; omega
            have ANS : Hid (BegAns w3 x0.heap.size x4.heap.size F m fs n ds' hT hS _) := begAns_of (hT := hT) (hS := hS) B6 XM6 XH6 l1 l2 hne (MO6.weaken (by omega)) n1 n2
            rw [HF.out.1, HF.out.2] at ANS
            obtain ⟨y0, y1, z0, z1⟩ := XM6.two
            refine wpAnyH_ready (rs := [14]) (by kernel_rfl) (by simp) ?_
            refine AllReadyH.cons (o := _) (by rw [List.getElem?_toArray]; exact rfl) (fun K hK => ?_) AllReadyH.nil
            rw [if_pos (by kernel_rfl)]
            go_simp
            refine hK.out _ _ (CELw3.out _ ((B6.setCell l1 _).setCell l1 _)) (fun hHeld => ?_)
            clear hK K
            (try simp only [Act.put, List.setIfInBounds_toArray, List.set_cons_zero, List.set_cons_succ])
            have XH' := (XH6.set (q := ⟨x0.heap.size, 0, none⟩) (show x4.heap.size ≠ x0.heap.size from hne.symm) (.slice pa m pc)).set (q := ⟨x0.heap.size, 1, none⟩) (show x4.heap.size ≠ x0.heap.size from hne.symm) (.slice pd n pdc)
            obtain ⟨⟨u0, u1, u2, u3⟩, v0, v1, v2, v3⟩ := XH'.four
            refine wpAnyH_ready (rs := [15]) (by kernel_rfl) (by simp) ?_
            refine AllReadyH.cons (o := _) (by rw [List.getElem?_toArray]; exact rfl) (fun K hK => ?_) AllReadyH.nil
            rw [if_pos (by kernel_rfl)]
            go_simp
            refine hK.out _ _ (CELw3.out _ ANS.out.bel) (fun hHeld => ?_)
            clear hK K
            (try simp only [Act.put, List.setIfInBounds_toArray, List.set_cons_zero, List.set_cons_succ])
            refine wpAnyH_take (i := 16) (oi := _) (v := .bool ok) (by rw [List.getElem?_toArray]; exact rfl) (by kernel_rfl) (by kernel_rfl) (by kernel_rfl) (by intro _ _ _ h; exact h) (Or.inl ⟨by kernel_rfl, ?_⟩) hHeld ?_
            · intro w hSw; go_simp
            (try simp only [Act.put, List.setIfInBounds_toArray, List.set_cons_zero, List.set_cons_succ])
            refine wpAnyH_done (by kernel_rfl) ?_ _
            exact ⟨x0.heap.size, x4.heap.size, g1, h1, x2.heap.size, g3, pa, pc, pd, pdc, F, ds', hT, hS, ok, rfl, HF.out, SAYS.out, ANS.out⟩
        · rw [if_pos (by kernel_rfl)]
          go_simp
          obtain ⟨x4, hx⟩ : ∃ y, x3.alloc (.cells #[.int .i64 0, .int .i64 0, .int .i64 0, .int .i64 0] 52) = y := ⟨_, rfl⟩
          have hb : Below x3.heap.size x3 x4 := by rw [← hx]; exact (Below.refl _ _).alloc (Nat.le_refl _) _
          have B4 : Below w3.heap.size w3 x4 := B3.trans (hb.mono B3.size)
          have MI4 := MI3.below hb (Nat.le_refl _)
          have E4 := E3.below hb (Nat.le_refl _)
          have XM4 := XM3.below hb XM3.lt
          have XH4 : Box x4 x3.heap.size #[.int .i64 0, .int .i64 0, .int .i64 0, .int .i64 0] 52 := by rw [← hx]; exact box_of x3 _ _
          have s4 : x3.heap.size < x4.heap.size := by rw [← hx]; simp
          rw [hx]
          refine hK.out _ _ (CELw3.out _ B4) (fun hHeld => ?_)
          clear hK K
          (try simp only [Act.put, List.setIfInBounds_toArray, List.set_cons_zero, List.set_cons_succ])
          clear hb hx B3 MI3 E3 XM3
          refine wpAnyH_ready (rs := [6]) (by kernel_rfl) (by simp) ?_
          refine AllReadyH.cons (o := _) (by rw [List.getElem?_toArray]; exact rfl) (fun K hK => ?_) AllReadyH.nil
          rw [if_pos (by kernel_rfl)]
          go_simp
          refine (toRes_g ra rn rc cd rs _ (INSw3.out.2.2.2.below B4 (Nat.le_refl _))).mono ?_
          rintro e x5 ⟨g3, rfl, hg3, o3, hb⟩
          have B5 : Below w3.heap.size w3 x5 := B4.trans (hb.mono B4.size)
          have MI5 := MI4.below hb (Nat.le_refl _)
          have E5 := E4.below hb (Nat.le_refl _)
          have XM5 := XM4.below hb XM4.lt
          have XH5 := XH4.below hb XH4.lt
          have R5 : IntAt x5 (some ⟨g3, 0, none⟩) rn rs := own_intAt o3 (by omega)
          have s5 : x4.heap.size ≤ x5.heap.size := hb.size
          refine hK.out _ _ (CELw3.out _ B5) (fun hHeld => ?_)
          clear hK K
          (try simp only [Act.put, List.setIfInBounds_toArray, List.set_cons_zero, List.set_cons_succ])
          clear hb B4 MI4 E4 XM4 XH4 o3 hg3
          refine wpAnyH_ready (rs := [7]) (by kernel_rfl) (by simp) ?_
          refine AllReadyH.cons (o := _) (by rw [List.getElem?_toArray]; exact rfl) (fun K hK => ?_) AllReadyH.nil
          rw [if_pos (by kernel_rfl)]
          go_simp
          refine (specBegin_any ⟨g1, 0, none⟩ m m fs (some ⟨h1, 0, none⟩) n n ds t ⟨x2.heap.size, 0, none⟩ en en es cd ⟨g3, 0, none⟩ rn rn rs _ MI5.1 MI5.2.1 MI5.2.2.1 SM.out E5 R5 hrn1).mono ?_
          rintro e x6 ⟨⟨F, ds', hT, hS, ok, rfl, says, mo⟩, hb⟩
          have B6 : Below w3.heap.size w3 x6 := B5.trans (hb.mono B5.size)
          have MI6 := MI5.below hb (Nat.le_refl _)
          have E6 := E5.below hb (Nat.le_refl _)
          have R6 := R5.below hb (Nat.le_refl _)
          have XM6 := XM5.below hb XM5.lt
          have XH6 := XH5.below hb XH5.lt
          have MO6 : MemO x6 x5.heap.size F m fs n ds' := mo
          have FB : Hid (∀ a, a < 2 + 2 * n → ∀ b, (F a).ownBlock = some b → x5.heap.size ≤ b ∧ b < x6.heap.size) := mo.blk
          have SAYS : Hid (BeginSays fs m ds t en es cd rn rs ds' hT hS ok) := says
          obtain ⟨pa, pc, e0, _⟩ := owns_slice mo.words
          obtain ⟨gvs, gd, _⟩ := mo.descO.descs
          obtain ⟨pd, pdc, e1, _⟩ := owns_slice gd
          have HF : Hid (F 0 = .slice pa m pc ∧ F 1 = .slice pd n pdc) := ⟨e0, e1⟩
          rw [show MemF F = MemV pa m pc pd n pdc by rw [MemF, e0, e1]]
          have s6 : x5.heap.size ≤ x6.heap.size := hb.size
          refine hK.out _ _ (CELw3.out _ B6) (fun hHeld => ?_)
          clear hK K
          (try simp only [Act.put, List.setIfInBounds_toArray, List.set_cons_zero, List.set_cons_succ])
          clear hb B5 MI5 E5 R5 XM5 XH5 mo gd e0 e1 says
          refine wpAnyH_take (i := 8) (oi := _) (v := .tuple #[MemV pa m pc pd n pdc, HelpV hT hS 0 0, .bool ok]) (by rw [List.getElem?_toArray]; exact rfl) (by kernel_rfl) (by kernel_rfl) (by kernel_rfl) (by intro _ _ _ h; exact h) (Or.inl ⟨by kernel_rfl, ?_⟩) hHeld ?_
          · intro w hSw; go_simp
          (try simp only [Act.put, List.setIfInBounds_toArray, List.set_cons_zero, List.set_cons_succ])
          refine wpAnyH_take (i := 9) (oi := _) (v := MemV pa m pc pd n pdc) (by rw [List.getElem?_toArray]; exact rfl) (by kernel_rfl) (by kernel_rfl) (by kernel_rfl) (by intro _ _ _ h; exact h) (Or.inl ⟨by kernel_rfl, ?_⟩) hHeld ?_
          · intro w hSw; go_simp
          (try simp only [Act.put, List.setIfInBounds_toArray, List.set_cons_zero, List.set_cons_succ])
          refine wpAnyH_take (i := 10) (oi := _) (v := HelpV hT hS 0 0) (by rw [List.getElem?_toArray]; exact rfl) (by kernel_rfl) (by kernel_rfl) (by kernel_rfl) (by intro _ _ _ h; exact h) (Or.inl ⟨by kernel_rfl, ?_⟩) hHeld ?_
          · intro w hSw; go_simp
          (try simp only [Act.put, List.setIfInBounds_toArray, List.set_cons_zero, List.set_cons_succ])
          refine wpAnyH_take (i := 11) (oi := _) (v := .bool ok) (by rw [List.getElem?_toArray]; exact rfl) (by kernel_rfl) (by kernel_rfl) (by kernel_rfl) (by intro _ _ _ h; exact h) (Or.inl ⟨by kernel_rfl, ?_⟩) hHeld ?_
          · intro w hSw; go_simp
          (try simp only [Act.put, List.setIfInBounds_toArray, List.set_cons_zero, List.set_cons_succ])
          have l1 : w3.heap.size ≤ x0.heap.size := by omega
          have l2 : w3.heap.size ≤ x3.heap.size := by omega
          have hne : x0.heap.size ≠ x3.heap.size := by omega
          have n1 : ∀ a, a < 2 + 2 * n → (F a).ownBlock ≠ some x0.heap.size := fun a ha e => by have := FB.out a ha _ e; omega
          have n2 : ∀ a, a < 2 + 2 * n → (F a).ownBlock ≠ some x3.heap.size := fun a ha e => by have := FB.out a ha _ e; omega
          have ANS : Hid (BegAns w3 x0.heap.size x3.heap.size F m fs n ds' hT hS _) := begAns_of (hT := hT) (hS := hS) B6 XM6 XH6 l1 l2 hne (MO6.weaken (by omega)) n1 n2
          rw [HF.out.1, HF.out.2] at ANS
          obtain ⟨y0, y1, z0, z1⟩ := XM6.two
          refine wpAnyH_ready (rs := [14]) (by kernel_rfl) (by simp) ?_
          refine AllReadyH.cons (o := _) (by rw [List.getElem?_toArray]; exact rfl) (fun K hK => ?_) AllReadyH.nil
          rw [if_pos (by kernel_rfl)]
          go_simp
          refine hK.out _ _ (CELw3.out _ ((B6.setCell l1 _).setCell l1 _)) (fun hHeld => ?_)
          clear hK K
          (try simp only [Act.put, List.setIfInBounds_toArray, List.set_cons_zero, List.set_cons_succ])
          have XH' := (XH6.set (q := ⟨x0.heap.size, 0, none⟩) (show x3.heap.size ≠ x0.heap.size from hne.symm) (.slice pa m pc)).set (q := ⟨x0.heap.size, 1, none⟩) (show x3.heap.size ≠ x0.heap.size from hne.symm) (.slice pd n pdc)
          obtain ⟨⟨u0, u1, u2, u3⟩, v0, v1, v2, v3⟩ := XH'.four
          refine wpAnyH_ready (rs := [15]) (by kernel_rfl) (by simp) ?_
          refine AllReadyH.cons (o := _) (by rw [List.getElem?_toArray]; exact rfl) (fun K hK => ?_) AllReadyH.nil
          rw [if_pos (by kernel_rfl)]
          go_simp
          refine hK.out _ _ (CELw3.out _ ANS.out.bel) (fun hHeld => ?_)
          clear hK K
          (try simp only [Act.put, List.setIfInBounds_toArray, List.set_cons_zero, List.set_cons_succ])
          refine wpAnyH_take (i := 16) (oi := _) (v := .bool ok) (by rw [List.getElem?_toArray]; exact rfl) (by kernel_rfl) (by kernel_rfl) (by kernel_rfl) (by intro _ _ _ h; exact h) (Or.inl ⟨by kernel_rfl, ?_⟩) hHeld ?_
          · intro w hSw; go_simp
          (try simp only [Act.put, List.setIfInBounds_toArray, List.set_cons_zero, List.set_cons_succ])
          refine wpAnyH_done (by kernel_rfl) ?_ _
          exact ⟨x0.heap.size, x3.heap.size, g1, h1, x2.heap.size, g3, pa, pc, pd, pdc, F, ds', hT, hS, ok, rfl, HF.out, SAYS.out, ANS.out⟩
      · rw [if_pos (by kernel_rfl)]
        go_simp
        obtain ⟨x3, hx⟩ : ∃ y, x2.alloc (.cells #[.int .i64 0, .int .i64 0, .int .i64 0, .int .i64 0] 52) = y := ⟨_, rfl⟩
        have hb : Below x2.heap.size x2 x3 := by rw [← hx]; exact (Below.refl _ _).alloc (Nat.le_refl _) _
        have B3 : Below w3.heap.size w3 x3 := B2.trans (hb.mono B2.size)
        have MI3 := MI2.below hb (Nat.le_refl _)
        have XM3 := XM2.below hb XM2.lt
        have XH3 : Box x3 x2.heap.size #[.int .i64 0, .int .i64 0, .int .i64 0, .int .i64 0] 52 := by rw [← hx]; exact box_of x2 _ _
        have s3 : x2.heap.size < x3.heap.size := by rw [← hx]; simp
        rw [hx]
        refine hK.out _ _ (CELw3.out _ B3) (fun hHeld => ?_)
        clear hK K
        (try simp only [Act.put, List.setIfInBounds_toArray, List.set_cons_zero, List.set_cons_succ])
        clear hb hx B2 MI2 XM2
        refine wpAnyH_ready (rs := [4]) (by kernel_rfl) (by simp) ?_
        refine AllReadyH.cons (o := _) (by rw [List.getElem?_toArray]; exact rfl) (fun K hK => ?_) AllReadyH.nil
        rw [if_pos (by kernel_rfl)]
        go_simp
        refine (toEntryS_any la en lc es _ (INSw3.out.2.2.1.below B3 (Nat.le_refl _))).mono ?_
        rintro e x4 ⟨rfl, o2, hb⟩
        have B4 : Below w3.heap.size w3 x4 := B3.trans (hb.mono B3.size)
        have MI4 := MI3.below hb (Nat.le_refl _)
        have XM4 := XM3.below hb XM3.lt
        have XH4 := XH3.below hb XH3.lt
        have E4 : TripAt x4 (some ⟨x3.heap.size, 0, none⟩) en es := own_tripAt o2 hen1
        have s4 : x3.heap.size ≤ x4.heap.size := hb.size
        refine hK.out _ _ (CELw3.out _ B4) (fun hHeld => ?_)
        clear hK K
        (try simp only [Act.put, List.setIfInBounds_toArray, List.set_cons_zero, List.set_cons_succ])
        clear hb B3 MI3 XM3 XH3 o2
        refine wpAnyH_ready (rs := [6]) (by kernel_rfl) (by simp) ?_
        refine AllReadyH.cons (o := _) (by rw [List.getElem?_toArray]; exact rfl) (fun K hK => ?_) AllReadyH.nil
        rw [if_pos (by kernel_rfl)]
        go_simp
        refine (toRes_g ra rn rc cd rs _ (INSw3.out.2.2.2.below B4 (Nat.le_refl _))).mono ?_
        rintro e x5 ⟨g3, rfl, hg3, o3, hb⟩
        have B5 : Below w3.heap.size w3 x5 := B4.trans (hb.mono B4.size)
        have MI5 := MI4.below hb (Nat.le_refl _)
        have E5 := E4.below hb (Nat.le_refl _)
        have XM5 := XM4.below hb XM4.lt
        have XH5 := XH4.below hb XH4.lt
        have R5 : IntAt x5 (some ⟨g3, 0, none⟩) rn rs := own_intAt o3 (by omega)
        have s5 : x4.heap.size ≤ x5.heap.size := hb.size
        refine hK.out _ _ (CELw3.out _ B5) (fun hHeld => ?_)
        clear hK K
        (try simp only [Act.put, List.setIfInBounds_toArray, List.set_cons_zero, List.set_cons_succ])
        clear hb B4 MI4 E4 XM4 XH4 o3 hg3
        refine wpAnyH_ready (rs := [7]) (by kernel_rfl) (by simp) ?_
        refine AllReadyH.cons (o := _) (by rw [List.getElem?_toArray]; exact rfl) (fun K hK => ?_) AllReadyH.nil
        rw [if_pos (by kernel_rfl)]
        go_simp
        refine (specBegin_any ⟨g1, 0, none⟩ m m fs (some ⟨h1, 0, none⟩) n n ds t ⟨x3.heap.size, 0, none⟩ en en es cd ⟨g3, 0, none⟩ rn rn rs _ MI5.1 MI5.2.1 MI5.2.2.1 SM.out E5 R5 hrn1).mono ?_
        rintro e x6 ⟨⟨F, ds', hT, hS, ok, rfl, says, mo⟩, hb⟩
        have B6 : Below w3.heap.size w3 x6 := B5.trans (hb.mono B5.size)
        have MI6 := MI5.below hb (Nat.le_refl _)
        have E6 := E5.below hb (Nat.le_refl _)
        have R6 := R5.below hb (Nat.le_refl _)
        have XM6 := XM5.below hb XM5.lt
        have XH6 := XH5.below hb XH5.lt
        have MO6 : MemO x6 x5.heap.size F m fs n ds' := mo
        have FB : Hid (∀ a, a < 2 + 2 * n → ∀ b, (F a).ownBlock = some b → x5.heap.size ≤ b ∧ b < x6.heap.size) := mo.blk
        have SAYS : Hid (BeginSays fs m ds t en es cd rn rs ds' hT hS ok) := says
        obtain ⟨pa, pc, e0, _⟩ := owns_slice mo.words
        obtain ⟨gvs, gd, _⟩ := mo.descO.descs
        obtain ⟨pd, pdc, e1, _⟩ := owns_slice gd
        have HF : Hid (F 0 = .slice pa m pc ∧ F 1 = .slice pd n pdc) := ⟨e0, e1⟩
        rw [show MemF F = MemV pa m pc pd n pdc by rw [MemF, e0, e1]]
        have s6 : x5.heap.size ≤ x6.heap.size := hb.size
        refine hK.out _ _ (CELw3.out _ B6) (fun hHeld => ?_)
        clear hK K
        (try simp only [Act.put, List.setIfInBounds_toArray, List.set_cons_zero, List.set_cons_succ])
        clear hb B5 MI5 E5 R5 XM5 XH5 mo gd e0 e1 says
        refine wpAnyH_take (i := 8) (oi := _) (v := .tuple #[MemV pa m pc pd n pdc, HelpV hT hS 0 0, .bool ok]) (by rw [List.getElem?_toArray]; exact rfl) (by kernel_rfl) (by kernel_rfl) (by kernel_rfl) (by intro _ _ _ h; exact h) (Or.inl ⟨by kernel_rfl, ?_⟩) hHeld ?_
        · intro w hSw; go_simp
        (try simp only [Act.put, List.setIfInBounds_toArray, List.set_cons_zero, List.set_cons_succ])
        refine wpAnyH_take (i := 9) (oi := _) (v := MemV pa m pc pd n pdc) (by rw [List.getElem?_toArray]; exact rfl) (by kernel_rfl) (by kernel_rfl) (by kernel_rfl) (by intro _ _ _ h; exact h) (Or.inl ⟨by kernel_rfl, ?_⟩) hHeld ?_
        · intro w hSw; go_simp
        (try simp only [Act.put, List.setIfInBounds_toArray, List.set_cons_zero, List.set_cons_succ])
        refine wpAnyH_take (i := 10) (oi := _) (v := HelpV hT hS 0 0) (by rw [List.getElem?_toArray]; exact rfl) (by kernel_rfl) (by kernel_rfl) (by kernel_rfl) (by intro _ _ _ h; exact h) (Or.inl ⟨by kernel_rfl, ?_⟩) hHeld ?_
        · intro w hSw; go_simp
        (try simp only [Act.put, List.setIfInBounds_toArray, List.set_cons_zero, List.set_cons_succ])
        refine wpAnyH_take (i := 11) (oi := _) (v := .bool ok) (by rw [List.getElem?_toArray]; exact rfl) (by kernel_rfl) (by kernel_rfl) (by kernel_rfl) (by intro _ _ _ h; exact h) (Or.inl ⟨by kernel_rfl, ?_⟩) hHeld ?_
        · intro w hSw; go_simp
        (try simp only [Act.put, List.setIfInBounds_toArray, List.set_cons_zero, List.set_cons_succ])
        have l1 : w3.heap.size ≤ x0.heap.size := by omega
        have l2 : w3.heap.size ≤ x2.heap.size := by omega
        have hne : x0.heap.size ≠ x2.heap.size := by omega
        have n1 : ∀ a, a < 2 + 2 * n → (F a).ownBlock ≠ some x0.heap.size := fun a ha e => by have := FB.out a ha _ e; omega
        have n2 : ∀ a, a < 2 + 2 * n → (F a).ownBlock ≠ some x2.heap.size := fun a ha e => by have := FB.out a ha _ e; omega
        have ANS : Hid (BegAns w3 x0.heap.size x2.heap.size F m fs n ds' hT hS _) := begAns_of (hT := hT) (hS := hS) B6 XM6 XH6 l1 l2 hne (MO6.weaken (by omega)) n1 n2
        rw [HF.out.1, HF.out.2] at ANS
        obtain ⟨y0, y1, z0, z1⟩ := XM6.two
        refine wpAnyH_ready (rs := [14]) (by kernel_rfl) (by simp) ?_
        refine AllReadyH.cons (o := _) (by rw [List.getElem?_toArray]; exact rfl) (fun K hK => ?_) AllReadyH.nil
        rw [if_pos (by kernel_rfl)]
        go_simp
        refine hK.out _ _ (CELw3.out _ ((B6.setCell l1 _).setCell l1 _)) (fun hHeld => ?_)
        clear hK K
        (try simp only [Act.put, List.setIfInBounds_toArray, List.set_cons_zero, List.set_cons_succ])
        have XH' := (XH6.set (q := ⟨x0.heap.size, 0, none⟩) (show x2.heap.size ≠ x0.heap.size from hne.symm) (.slice pa m pc)).set (q := ⟨x0.heap.size, 1, none⟩) (show x2.heap.size ≠ x0.heap.size from hne.symm) (.slice pd n pdc)
        obtain ⟨⟨u0, u1, u2, u3⟩, v0, v1, v2, v3⟩ := XH'.four
        refine wpAnyH_ready (rs := [15]) (by kernel_rfl) (by simp) ?_
        refine AllReadyH.cons (o := _) (by rw [List.getElem?_toArray]; exact rfl) (fun K hK => ?_) AllReadyH.nil
        rw [if_pos (by kernel_rfl)]
        go_simp
        refine hK.out _ _ (CELw3.out _ ANS.out.bel) (fun hHeld => ?_)
        clear hK K
        (try simp only [Act.put, List.setIfInBounds_toArray, List.set_cons_zero, List.set_cons_succ])
        refine wpAnyH_take (i := 16) (oi := _) (v := .bool ok) (by rw [List.getElem?_toArray]; exact rfl) (by kernel_rfl) (by kernel_rfl) (by kernel_rfl) (by intro _ _ _ h; exact h) (Or.inl ⟨by kernel_rfl, ?_⟩) hHeld ?_
        · intro w hSw; go_simp
        (try simp only [Act.put, List.setIfInBounds_toArray, List.set_cons_zero, List.set_cons_succ])
        refine wpAnyH_done (by kernel_rfl) ?_ _
        exact ⟨x0.heap.size, x2.heap.size, g1, h1, x3.heap.size, g3, pa, pc, pd, pdc, F, ds', hT, hS, ok, rfl, HF.out, SAYS.out, ANS.out⟩
    · rw [if_pos (by kernel_rfl)]
      go_simp
      obtain ⟨x2, hx⟩ : ∃ y, x1.alloc (.cells #[.int .i64 0, .int .i64 0, .int .i64 0, .int .i64 0] 52) = y := ⟨_, rfl⟩
      have hb : Below x1.heap.size x1 x2 := by rw [← hx]; exact (Below.refl _ _).alloc (Nat.le_refl _) _
      have B2 : Below w3.heap.size w3 x2 := B1.trans (hb.mono B1.size)
      have XM2 := XM1.below hb XM1.lt
      have XH2 : Box x2 x1.heap.size #[.int .i64 0, .int .i64 0, .int .i64 0, .int .i64 0] 52 := by rw [← hx]; exact box_of x1 _ _
      have s2 : x1.heap.size < x2.heap.size := by rw [← hx]; simp
      rw [hx]
      refine hK.out _ _ (CELw3.out _ B2) (fun hHeld => ?_)
      clear hK K
      (try simp only [Act.put, List.setIfInBounds_toArray, List.set_cons_zero, List.set_cons_succ])
      clear hb hx B1 XM1
      refine wpAnyH_ready (rs := [1]) (by kernel_rfl) (by simp) ?_
      refine AllReadyH.cons (o := _) (by rw [List.getElem?_toArray]; exact rfl) (fun K hK => ?_) AllReadyH.nil
      rw [if_pos (by kernel_rfl)]
      go_simp
      refine (toMem_any wa m wc fs da n dc ds _ (INSw3.out.1.below B2 (Nat.le_refl _)) (INSw3.out.2.1.below B2 (Nat.le_refl _))).mono ?_
      rintro e x3 ⟨g1, h1, rfl, hg1, hh1, o1, p1, hb⟩
      have B3 : Below w3.heap.size w3 x3 := B2.trans (hb.mono B2.size)
      have XM3 := XM2.below hb XM2.lt
      have XH3 := XH2.below hb XH2.lt
      have MI3 : MemIn x3 g1 h1 m n fs ds := memIn_of o1 p1 HL.out hm1 hn1 SM.out
      have s3 : x2.heap.size ≤ x3.heap.size := hb.size
      refine hK.out _ _ (CELw3.out _ B3) (fun hHeld => ?_)
      clear hK K
      (try simp only [Act.put, List.setIfInBounds_toArray, List.set_cons_zero, List.set_cons_succ])
      clear hb B2 XM2 XH2 o1 p1 hg1 hh1
      refine wpAnyH_ready (rs := [4]) (by kernel_rfl) (by simp) ?_
      refine AllReadyH.cons (o := _) (by rw [List.getElem?_toArray]; exact rfl) (fun K hK => ?_) AllReadyH.nil
      rw [if_pos (by kernel_rfl)]
      go_simp
      refine (toEntryS_any la en lc es _ (INSw3.out.2.2.1.below B3 (Nat.le_refl _))).mono ?_
      rintro e x4 ⟨rfl, o2, hb⟩
      have B4 : Below w3.heap.size w3 x4 := B3.trans (hb.mono B3.size)
      have MI4 := MI3.below hb (Nat.le_refl _)
      have XM4 := XM3.below hb XM3.lt
      have XH4 := XH3.below hb XH3.lt
      have E4 : TripAt x4 (some ⟨x3.heap.size, 0, none⟩) en es := own_tripAt o2 hen1
      have s4 : x3.heap.size ≤ x4.heap.size := hb.size
      refine hK.out _ _ (CELw3.out _ B4) (fun hHeld => ?_)
      clear hK K
      (try simp only [Act.put, List.setIfInBounds_toArray, List.set_cons_zero, List.set_cons_succ])
      clear hb B3 MI3 XM3 XH3 o2
      refine wpAnyH_ready (rs := [6]) (by kernel_rfl) (by simp) ?_
      refine AllReadyH.cons (o := _) (by rw [List.getElem?_toArray]; exact rfl) (fun K hK => ?_) AllReadyH.nil
      rw [if_pos (by kernel_rfl)]
      go_simp
      refine (toRes_g ra rn rc cd rs _ (INSw3.out.2.2.2.below B4 (Nat.le_refl _))).mono ?_
      rintro e x5 ⟨g3, rfl, hg3, o3, hb⟩
      have B5 : Below w3.heap.size w3 x5 := B4.trans (hb.mono B4.size)
      have MI5 := MI4.below hb (Nat.le_refl _)
      have E5 := E4.below hb (Nat.le_refl _)
      have XM5 := XM4.below hb XM4.lt
      have XH5 := XH4.below hb XH4.lt
      have R5 : IntAt x5 (some ⟨g3, 0, none⟩) rn rs := own_intAt o3 (by omega)
      have s5 : x4.heap.size ≤ x5.heap.size := hb.size
      refine hK.out _ _ (CELw3.out _ B5) (fun hHeld => ?_)
      clear hK K
      (try simp only [Act.put, List.setIfInBounds_toArray, List.set_cons_zero, List.set_cons_succ])
      clear hb B4 MI4 E4 XM4 XH4 o3 hg3
      refine wpAnyH_ready (rs := [7]) (by kernel_rfl) (by simp) ?_
      refine AllReadyH.cons (o := _) (by rw [List.getElem?_toArray]; exact rfl) (fun K hK => ?_) AllReadyH.nil
      rw [if_pos (by kernel_rfl)]
      go_simp
      refine (specBegin_any ⟨g1, 0, none⟩ m m fs (some ⟨h1, 0, none⟩) n n ds t ⟨x3.heap.size, 0, none⟩ en en es cd ⟨g3, 0, none⟩ rn rn rs _ MI5.1 MI5.2.1 MI5.2.2.1 SM.out E5 R5 hrn1).mono ?_
      rintro e x6 ⟨⟨F, ds', hT, hS, ok, rfl, says, mo⟩, hb⟩
      have B6 : Below w3.heap.size w3 x6 := B5.trans (hb.mono B5.size)
      have MI6 := MI5.below hb (Nat.le_refl _)
      have E6 := E5.below hb (Nat.le_refl _)
      have R6 := R5.below hb (Nat.le_refl _)
      have XM6 := XM5.below hb XM5.lt
      have XH6 := XH5.below hb XH5.lt
      have MO6 : MemO x6 x5.heap.size F m fs n ds' := mo
      have FB : Hid (∀ a, a < 2 + 2 * n → ∀ b, (F a).ownBlock = some b → x5.heap.size ≤ b ∧ b < x6.heap.size) := mo.blk
      have SAYS : Hid (BeginSays fs m ds t en es cd rn rs ds' hT hS ok) := says
      obtain ⟨pa, pc, e0, _⟩ := owns_slice mo.words
      obtain ⟨gvs, gd, _⟩ := mo.descO.descs
      obtain ⟨pd, pdc, e1, _⟩ := owns_slice gd
      have HF : Hid (F 0 = .slice pa m pc ∧ F 1 = .slice pd n pdc) := ⟨e0, e1⟩
      rw [show MemF F = MemV pa m pc pd n pdc by rw [MemF, e0, e1]]
      have s6 : x5.heap.size ≤ x6.heap.size := hb.size
      refine hK.out _ _ (CELw3.out _ B6) (fun hHeld => ?_)
      clear hK K
      (try simp only [Act.put, List.setIfInBounds_toArray, List.set_cons_zero, List.set_cons_succ])
      clear hb B5 MI5 E5 R5 XM5 XH5 mo gd e0 e1 says
      refine wpAnyH_take (i := 8) (oi := _) (v := .tuple #[MemV pa m pc pd n pdc, HelpV hT hS 0 0, .bool ok]) (by rw [List.getElem?_toArray]; exact rfl) (by kernel_rfl) (by kernel_rfl) (by kernel_rfl) (by intro _ _ _ h; exact h) (Or.inl ⟨by kernel_rfl, ?_⟩) hHeld ?_
      · intro w hSw; go_simp
      (try simp only [Act.put, List.setIfInBounds_toArray, List.set_cons_zero, List.set_cons_succ])
      refine wpAnyH_take (i := 9) (oi := _) (v := MemV pa m pc pd n pdc) (by rw [List.getElem?_toArray]; exact rfl) (by kernel_rfl) (by kernel_rfl) (by kernel_rfl) (by intro _ _ _ h; exact h) (Or.inl ⟨by kernel_rfl, ?_⟩) hHeld ?_
      · intro w hSw; go_simp
      (try simp only [Act.put, List.setIfInBounds_toArray, List.set_cons_zero, List.set_cons_succ])
      refine wpAnyH_take (i := 10) (oi := _) (v := HelpV hT hS 0 0) (by rw [List.getElem?_toArray]; exact rfl) (by kernel_rfl) (by kernel_rfl) (by kernel_rfl) (by intro _ _ _ h; exact h) (Or.inl ⟨by kernel_rfl, ?_⟩) hHeld ?_
      · intro w hSw; go_simp
      (try simp only [Act.put, List.setIfInBounds_toArray, List.set_cons_zero, List.set_cons_succ])
      refine wpAnyH_take (i := 11) (oi := _) (v := .bool ok) (by rw [List.getElem?_toArray]; exact rfl) (by kernel_rfl) (by kernel_rfl) (by kernel_rfl) (by intro _ _ _ h; exact h) (Or.inl ⟨by kernel_rfl, ?_⟩) hHeld ?_
      · intro w hSw; go_simp
      (try simp only [Act.put, List.setIfInBounds_toArray, List.set_cons_zero, List.set_cons_succ])
      have l1 : w3.heap.size ≤ x0.heap.size := by omega
      have l2 : w3.heap.size ≤ x1.heap.size := by omega
      have hne : x0.heap.size ≠ x1.heap.size := by omega
      have n1 : ∀ a, a < 2 + 2 * n → (F a).ownBlock ≠ some x0.heap.size := fun a ha e => by have := FB.out a ha _ e; omega
      have n2 : ∀ a, a < 2 + 2 * n → (F a).ownBlock ≠ some x1.heap.size := fun a ha e => by have := FB.out a ha _ e; omega
      have ANS : Hid (BegAns w3 x0.heap.size x1.heap.size F m fs n ds' hT hS _) := begAns_of (hT := hT) (hS := hS) B6 XM6 XH6 l1 l2 hne (MO6.weaken (by omega)) n1 n2
      rw [HF.out.1, HF.out.2] at ANS
      obtain ⟨y0, y1, z0, z1⟩ := XM6.two
      refine wpAnyH_ready (rs := [14]) (by kernel_rfl) (by simp) ?_
      refine AllReadyH.cons (o := _) (by rw [List.getElem?_toArray]; exact rfl) (fun K hK => ?_) AllReadyH.nil
      rw [if_pos (by kernel_rfl)]
      go_simp
      refine hK.out _ _ (CELw3.out _ ((B6.setCell l1 _).setCell l1 _)) (fun hHeld => ?_)
      clear hK K
      (try simp only [Act.put, List.setIfInBounds_toArray, List.set_cons_zero, List.set_cons_succ])
      have XH' := (XH6.set (q := ⟨x0.heap.size, 0, none⟩) (show x1.heap.size ≠ x0.heap.size from hne.symm) (.slice pa m pc)).set (q := ⟨x0.heap.size, 1, none⟩) (show x1.heap.size ≠ x0.heap.size from hne.symm) (.slice pd n pdc)
      obtain ⟨⟨u0, u1, u2, u3⟩, v0, v1, v2, v3⟩ := XH'.four
      refine wpAnyH_ready (rs := [15]) (by kernel_rfl) (by simp) ?_
      refine AllReadyH.cons (o := _) (by rw [List.getElem?_toArray]; exact rfl) (fun K hK => ?_) AllReadyH.nil
      rw [if_pos (by kernel_rfl)]
      go_simp
      refine hK.out _ _ (CELw3.out _ ANS.out.bel) (fun hHeld => ?_)
      clear hK K
      (try simp only [Act.put, List.setIfInBounds_toArray, List.set_cons_zero, List.set_cons_succ])
      refine wpAnyH_take (i := 16) (oi := _) (v := .bool ok) (by rw [List.getElem?_toArray]; exact rfl) (by kernel_rfl) (by kernel_rfl) (by kernel_rfl) (by intro _ _ _ h; exact h) (Or.inl ⟨by kernel_rfl, ?_⟩) hHeld ?_
      · intro w hSw; go_simp
      (try simp only [Act.put, List.setIfInBounds_toArray, List.set_cons_zero, List.set_cons_succ])
      refine wpAnyH_done (by kernel_rfl) ?_ _
      exact ⟨x0.heap.size, x1.heap.size, g1, h1, x3.heap.size, g3, pa, pc, pd, pdc, F, ds', hT, hS, ok, rfl, HF.out, SAYS.out, ANS.out⟩
  · rw [if_pos (by kernel_rfl)]
    go_simp
    obtain ⟨x1, hx⟩ : ∃ y, x0.alloc (.cells #[.int .i64 0, .int .i64 0, .int .i64 0, .int .i64 0] 52) = y := ⟨_, rfl⟩
    have hb : Below x0.heap.size x0 x1 := by rw [← hx]; exact (Below.refl _ _).alloc (Nat.le_refl _) _
    have B1 : Below w3.heap.size w3 x1 := B0.trans (hb.mono B0.size)
    have XH1 : Box x1 x0.heap.size #[.int .i64 0, .int .i64 0, .int .i64 0, .int .i64 0] 52 := by rw [← hx]; exact box_of x0 _ _
    have s1 : x0.heap.size < x1.heap.size := by rw [← hx]; simp
    rw [hx]
    refine hK.out _ _ (CELw3.out _ B1) (fun hHeld => ?_)
    clear hK K
    (try simp only [Act.put, List.setIfInBounds_toArray, List.set_cons_zero, List.set_cons_succ])
    clear hb hx B0
    refine wpAnyH_ready (rs := [1, 12]) (by kernel_rfl) (by simp) ?_
    refine AllReadyH.cons (o := _) (by rw [List.getElem?_toArray]; exact rfl) (fun K hK => ?_) (AllReadyH.cons (o := _) (by rw [List.getElem?_toArray]; exact rfl) (fun K hK => ?_) AllReadyH.nil)
    · rw [if_pos (by kernel_rfl)]
      go_simp
      refine (toMem_any wa m wc fs da n dc ds _ (INSw3.out.1.below B1 (Nat.le_refl _)) (INSw3.out.2.1.below B1 (Nat.le_refl _))).mono ?_
      rintro e x2 ⟨g1, h1, rfl, hg1, hh1, o1, p1, hb⟩
      have B2 : Below w3.heap.size w3 x2 := B1.trans (hb.mono B1.size)
      have XH2 := XH1.below hb XH1.lt
      have MI2 : MemIn x2 g1 h1 m n fs ds := memIn_of o1 p1 HL.out hm1 hn1 SM.out
      have s2 : x1.heap.size ≤ x2.heap.size := hb.size
      refine hK.out _ _ (CELw3.out _ B2) (fun hHeld => ?_)
      clear hK K
      (try simp only [Act.put, List.setIfInBounds_toArray, List.set_cons_zero, List.set_cons_succ])
      clear hb B1 XH1 o1 p1 hg1 hh1
      refine wpAnyH_ready (rs := [4, 12]) (by kernel_rfl) (by simp) ?_
      refine AllReadyH.cons (o := _) (by rw [List.getElem?_toArray]; exact rfl) (fun K hK => ?_) (AllReadyH.cons (o := _) (by rw [List.getElem?_toArray]; exact rfl) (fun K hK => ?_) AllReadyH.nil)
      · rw [if_pos (by kernel_rfl)]
        go_simp
        refine (toEntryS_any la en lc es _ (INSw3.out.2.2.1.below B2 (Nat.le_refl _))).mono ?_
        rintro e x3 ⟨rfl, o2, hb⟩
        have B3 : Below w3.heap.size w3 x3 := B2.trans (hb.mono B2.size)
        have MI3 := MI2.below hb (Nat.le_refl _)
        have XH3 := XH2.below hb XH2.lt
        have E3 : TripAt x3 (some ⟨x2.heap.size, 0, none⟩) en es := own_tripAt o2 hen1
        have s3 : x2.heap.size ≤ x3.heap.size := hb.size
        refine hK.out _ _ (CELw3.out _ B3) (fun hHeld => ?_)
        clear hK K
        (try simp only [Act.put, List.setIfInBounds_toArray, List.set_cons_zero, List.set_cons_succ])
        clear hb B2 MI2 XH2 o2
        refine wpAnyH_ready (rs := [6, 12]) (by kernel_rfl) (by simp) ?_
        refine AllReadyH.cons (o := _) (by rw [List.getElem?_toArray]; exact rfl) (fun K hK => ?_) (AllReadyH.cons (o := _) (by rw [List.getElem?_toArray]; exact rfl) (fun K hK => ?_) AllReadyH.nil)
        · rw [if_pos (by kernel_rfl)]
          go_simp
          refine (toRes_g ra rn rc cd rs _ (INSw3.out.2.2.2.below B3 (Nat.le_refl _))).mono ?_
          rintro e x4 ⟨g3, rfl, hg3, o3, hb⟩
          have B4 : Below w3.heap.size w3 x4 := B3.trans (hb.mono B3.size)
          have MI4 := MI3.below hb (Nat.le_refl _)
          have E4 := E3.below hb (Nat.le_refl _)
          have XH4 := XH3.below hb XH3.lt
          have R4 : IntAt x4 (some ⟨g3, 0, none⟩) rn rs := own_intAt o3 (by omega)
          have s4 : x3.heap.size ≤ x4.heap.size := hb.size
          refine hK.out _ _ (CELw3.out _ B4) (fun hHeld => ?_)
          clear hK K
          (try simp only [Act.put, List.setIfInBounds_toArray, List.set_cons_zero, List.set_cons_succ])
          clear hb B3 MI3 E3 XH3 o3 hg3
          refine wpAnyH_ready (rs := [7, 12]) (by kernel_rfl) (by simp) ?_
          refine AllReadyH.cons (o := _) (by rw [List.getElem?_toArray]; exact rfl) (fun K hK => ?_) (AllReadyH.cons (o := _) (by rw [List.getElem?_toArray]; exact rfl) (fun K hK => ?_) AllReadyH.nil)
          · rw [if_pos (by kernel_rfl)]
            go_simp
            refine (specBegin_any ⟨g1, 0, none⟩ m m fs (some ⟨h1, 0, none⟩) n n ds t ⟨x2.heap.size, 0, none⟩ en en es cd ⟨g3, 0, none⟩ rn rn rs _ MI4.1 MI4.2.1 MI4.2.2.1 SM.out E4 R4 hrn1).mono ?_
            rintro e x5 ⟨⟨F, ds', hT, hS, ok, rfl, says, mo⟩, hb⟩
            have B5 : Below w3.heap.size w3 x5 := B4.trans (hb.mono B4.size)
            have MI5 := MI4.below hb (Nat.le_refl _)
            have E5 := E4.below hb (Nat.le_refl _)
            have R5 := R4.below hb (Nat.le_refl _)
            have XH5 := XH4.below hb XH4.lt
            have MO5 : MemO x5 x4.heap.size F m fs n ds' := mo
            have FB : Hid (∀ a, a < 2 + 2 * n → ∀ b, (F a).ownBlock = some b → x4.heap.size ≤ b ∧ b < x5.heap.size) := mo.blk
            have SAYS : Hid (BeginSays fs m ds t en es cd rn rs ds' hT hS ok) := says
            obtain ⟨pa, pc, e0, _⟩ := owns_slice mo.words
            obtain ⟨gvs, gd, _⟩ := mo.descO.descs
            obtain ⟨pd, pdc, e1, _⟩ := owns_slice gd
            have HF : Hid (F 0 = .slice pa m pc ∧ F 1 = .slice pd n pdc) := ⟨e0, e1⟩
            rw [show MemF F = MemV pa m pc pd n pdc by rw [MemF, e0, e1]]
            have s5 : x4.heap.size ≤ x5.heap.size := hb.size
            refine hK.out _ _ (CELw3.out _ B5) (fun hHeld => ?_)
            clear hK K
            (try simp only [Act.put, List.setIfInBounds_toArray, List.set_cons_zero, List.set_cons_succ])
            clear hb B4 MI4 E4 R4 XH4 mo gd e0 e1 says
            refine wpAnyH_take (i := 8) (oi := _) (v := .tuple #[MemV pa m pc pd n pdc, HelpV hT hS 0 0, .bool ok]) (by rw [List.getElem?_toArray]; exact rfl) (by kernel_rfl) (by kernel_rfl) (by kernel_rfl) (by intro _ _ _ h; exact h) (Or.inl ⟨by kernel_rfl, ?_⟩) hHeld ?_
            · intro w hSw; go_simp
            (try simp only [Act.put, List.setIfInBounds_toArray, List.set_cons_zero, List.set_cons_succ])
            refine wpAnyH_take (i := 9) (oi := _) (v := MemV pa m pc pd n pdc) (by rw [List.getElem?_toArray]; exact rfl) (by kernel_rfl) (by kernel_rfl) (by kernel_rfl) (by intro _ _ _ h; exact h) (Or.inl ⟨by kernel_rfl, ?_⟩) hHeld ?_
            · intro w hSw; go_simp
            (try simp only [Act.put, List.setIfInBounds_toArray, List.set_cons_zero, List.set_cons_succ])
            refine wpAnyH_take (i := 10) (oi := _) (v := HelpV hT hS 0 0) (by rw [List.getElem?_toArray]; exact rfl) (by kernel_rfl) (by kernel_rfl) (by kernel_rfl) (by intro _ _ _ h; exact h) (Or.inl ⟨by kernel_rfl, ?_⟩) hHeld ?_
            · intro w hSw; go_simp
            (try simp only [Act.put, List.setIfInBounds_toArray, List.set_cons_zero, List.set_cons_succ])
            refine wpAnyH_take (i := 11) (oi := _) (v := .bool ok) (by rw [List.getElem?_toArray]; exact rfl) (by kernel_rfl) (by kernel_rfl) (by kernel_rfl) (by intro _ _ _ h; exact h) (Or.inl ⟨by kernel_rfl, ?_⟩) hHeld ?_
            · intro w hSw; go_simp
            (try simp only [Act.put, List.setIfInBounds_toArray, List.set_cons_zero, List.set_cons_succ])
            refine wpAnyH_ready (rs := [12]) (by kernel_rfl) (by simp) ?_
            refine AllReadyH.cons (o := _) (by rw [List.getElem?_toArray]; exact rfl) (fun K hK => ?_) AllReadyH.nil
            rw [if_pos (by kernel_rfl)]
            go_simp
            obtain ⟨x6, hx⟩ : ∃ y, x5.alloc (.cells #[.slice none 0 0, .slice none 0 0] 46) = y := ⟨_, rfl⟩
            have hb : Below x5.heap.size x5 x6 := by rw [← hx]; exact (Below.refl _ _).alloc (Nat.le_refl _) _
            have B6 : Below w3.heap.size w3 x6 := B5.trans (hb.mono B5.size)
            have MI6 := MI5.below hb (Nat.le_refl _)
            have E6 := E5.below hb (Nat.le_refl _)
            have R6 := R5.below hb (Nat.le_refl _)
            have MO6 := MO5.below hb (Nat.le_refl _)
            have XH6 := XH5.below hb XH5.lt
            have XM6 : Box x6 x5.heap.size #[.slice none 0 0, .slice none 0 0] 46 := by rw [← hx]; exact box_of x5 _ _
            have s6 : x5.heap.size < x6.heap.size := by rw [← hx]; simp
            rw [hx]
            refine hK.out _ _ (CELw3.out _ B6) (fun hHeld => ?_)
            clear hK K
            (try simp only [Act.put, List.setIfInBounds_toArray, List.set_cons_zero, List.set_cons_succ])
            clear hb hx B5 MI5 E5 R5 MO5 XH5
            have l1 : w3.heap.size ≤ x5.heap.size := by omega
            have l2 : w3.heap.size ≤ x0.heap.size := by omega
            have hne : x5.heap.size ≠ x0.heap.size := by omega
            have n1 : ∀ a, a < 2 + 2 * n → (F a).ownBlock ≠ some x5.heap.size := fun a ha e => by have := FB.out a ha _ e; omega
            have n2 : ∀ a, a < 2 + 2 * n → (F a).ownBlock ≠ some x0.heap.size := fun a ha e => by have := FB.out a ha _ e; omega
            have ANS : Hid (BegAns w3 x5.heap.size x0.heap.size F m fs n ds' hT hS _) := begAns_of (hT := hT) (hS := hS) B6 XM6 XH6 l1 l2 hne (MO6.weaken (by omega)) n1 n2
            rw [HF.out.1, HF.out.2] at ANS
            obtain ⟨y0, y1, z0, z1⟩ := XM6.two
            refine wpAnyH_ready (rs := [14]) (by kernel_rfl) (by simp) ?_
            refine AllReadyH.cons (o := _) (by rw [List.getElem?_toArray]; exact rfl) (fun K hK => ?_) AllReadyH.nil
            rw [if_pos (by kernel_rfl)]
            go_simp
            refine hK.out _ _ (CELw3.out _ ((B6.setCell l1 _).setCell l1 _)) (fun hHeld => ?_)
            clear hK K
            (try simp only [Act.put, List.setIfInBounds_toArray, List.set_cons_zero, List.set_cons_succ])
            have XH' := (XH6.set (q := ⟨x5.heap.size, 0, none⟩) (show x0.heap.size ≠ x5.heap.size from hne.symm) (.slice pa m pc)).set (q := ⟨x5.heap.size, 1, none⟩) (show x0.heap.size ≠ x5.heap.size from hne.symm) (.slice pd n pdc)
            obtain ⟨⟨u0, u1, u2, u3⟩, v0, v1, v2, v3⟩ := XH'.four
            refine wpAnyH_ready (rs := [15]) (by kernel_rfl) (by simp) ?_
            refine AllReadyH.cons (o := _) (by rw [List.getElem?_toArray]; exact rfl) (fun K hK => ?_) AllReadyH.nil
            rw [if_pos (by kernel_rfl)]
            go_simp
            refine hK.out _ _ (CELw3.out _ ANS.out.bel) (fun hHeld => ?_)
            clear hK K
            (try simp only [Act.put, List.setIfInBounds_toArray, List.set_cons_zero, List.set_cons_succ])
            refine wpAnyH_take (i := 16) (oi := _) (v := .bool ok) (by rw [List.getElem?_toArray]; exact rfl) (by kernel_rfl) (by kernel_rfl) (by kernel_rfl) (by intro _ _ _ h; exact h) (Or.inl ⟨by kernel_rfl, ?_⟩) hHeld ?_
            · intro w hSw; go_simp
            (try simp only [Act.put, List.setIfInBounds_toArray, List.set_cons_zero, List.set_cons_succ])
            refine wpAnyH_done (by kernel_rfl) ?_ _
            exact ⟨x5.heap.size, x0.heap.size, g1, h1, x2.heap.size, g3, pa, pc, pd, pdc, F, ds', hT, hS, ok, rfl, HF.out, SAYS.out, ANS.out⟩
          · rw [if_pos (by kernel_rfl)]
            go_simp
            obtain ⟨x5, hx⟩ : ∃ y, x4.alloc (.cells #[.slice none 0 0, .slice none 0 0] 46) = y := ⟨_, rfl⟩
            have hb : Below x4.heap.size x4 x5 := by rw [← hx]; exact (Below.refl _ _).alloc (Nat.le_refl _) _
            have B5 : Below w3.heap.size w3 x5 := B4.trans (hb.mono B4.size)
            have MI5 := MI4.below hb (Nat.le_refl _)
            have E5 := E4.below hb (Nat.le_refl _)
            have R5 := R4.below hb (Nat.le_refl _)
            have XH5 := XH4.below hb XH4.lt
            have XM5 : Box x5 x4.heap.size #[.slice none 0 0, .slice none 0 0] 46 := by rw [← hx]; exact box_of x4 _ _
            have s5 : x4.heap.size < x5.heap.size := by rw [← hx]; simp
            rw [hx]
            refine hK.out _ _ (CELw3.out _ B5) (fun hHeld => ?_)
            clear hK K
            (try simp only [Act.put, List.setIfInBounds_toArray, List.set_cons_zero, List.set_cons_succ])
            clear hb hx B4 MI4 E4 R4 XH4
            refine wpAnyH_ready (rs := [7]) (by kernel_rfl) (by simp) ?_
            refine AllReadyH.cons (o := _) (by rw [List.getElem?_toArray]; exact rfl) (fun K hK => ?_) AllReadyH.nil
            rw [if_pos (by kernel_rfl)]
            go_simp
            refine (specBegin_any ⟨g1, 0, none⟩ m m fs (some ⟨h1, 0, none⟩) n n ds t ⟨x2.heap.size, 0, none⟩ en en es cd ⟨g3, 0, none⟩ rn rn rs _ MI5.1 MI5.2.1 MI5.2.2.1 SM.out E5 R5 hrn1).mono ?_
            rintro e x6 ⟨⟨F, ds', hT, hS, ok, rfl, says, mo⟩, hb⟩
            have B6 : Below w3.heap.size w3 x6 := B5.trans (hb.mono B5.size)
            have MI6 := MI5.below hb (Nat.le_refl _)
            have E6 := E5.below hb (Nat.le_refl _)
            have R6 := R5.below hb (Nat.le_refl _)
            have XM6 := XM5.below hb XM5.lt
            have XH6 := XH5.below hb XH5.lt
            have MO6 : MemO x6 x5.heap.size F m fs n ds' := mo
            have FB : Hid (∀ a, a < 2 + 2 * n → ∀ b, (F a).ownBlock = some b → x5.heap.size ≤ b ∧ b < x6.heap.size) := mo.blk
            have SAYS : Hid (BeginSays fs m ds t en es cd rn rs ds' hT hS ok) := says
            obtain ⟨pa, pc, e0, _⟩ := owns_slice mo.words
            obtain ⟨gvs, gd, _⟩ := mo.descO.descs
            obtain ⟨pd, pdc, e1, _⟩ := owns_slice gd
            have HF : Hid (F 0 = .slice pa m pc ∧ F 1 = .slice pd n pdc) := ⟨e0, e1⟩
            rw [show MemF F = MemV pa m pc pd n pdc by rw [MemF, e0, e1]]
            have s6 : x5.heap.size ≤ x6.heap.size := hb.size
            refine hK.out _ _ (CELw3.out _ B6) (fun hHeld => ?_)
            clear hK K
            (try simp only [Act.put, List.setIfInBounds_toArray, List.set_cons_zero, List.set_cons_succ])
            clear hb B5 MI5 E5 R5 XM5 XH5 mo gd e0 e1 says
            refine wpAnyH_take (i := 8) (oi := _) (v := .tuple #[MemV pa m pc pd n pdc, HelpV hT hS 0 0, .bool ok]) (by rw [List.getElem?_toArray]; exact rfl) (by kernel_rfl) (by kernel_rfl) (by kernel_rfl) (by intro _ _ _ h; exact h) (Or.inl ⟨by kernel_rfl, ?_⟩) hHeld ?_
            · intro w hSw; go_simp
            (try simp only [Act.put, List.setIfInBounds_toArray, List.set_cons_zero, List.set_cons_succ])
            refine wpAnyH_take (i := 9) (oi := _) (v := MemV pa m pc pd n pdc) (by rw [List.getElem?_toArray]; exact rfl) (by kernel_rfl) (by kernel_rfl) (by kernel_rfl) (by intro _ _ _ h; exact h) (Or.inl ⟨by kernel_rfl, ?_⟩) hHeld ?_
            · intro w hSw; go_simp
            (try simp only [Act.put, List.setIfInBounds_toArray, List.set_cons_zero, List.set_cons_succ])
            refine wpAnyH_take (i := 10) (oi := _) (v := HelpV hT hS 0 0) (by rw [List.getElem?_toArray]; exact rfl) (by kernel_rfl) (by kernel_rfl) (by kernel_rfl) (by intro _ _ _ h; exact h) (Or.inl ⟨by kernel_rfl, ?_⟩) hHeld ?_
            · intro w hSw; go_simp
            (try simp only [Act.put, List.setIfInBounds_toArray, List.set_cons_zero, List.set_cons_succ])
            refine wpAnyH_take (i := 11) (oi := _) (v := .bool ok) (by rw [List.getElem?_toArray]; exact rfl) (by kernel_rfl) (by kernel_rfl) (by kernel_rfl) (by intro _ _ _ h; exact h) (Or.inl ⟨by kernel_rfl, ?_⟩) hHeld ?_
            · intro w hSw; go_simp
            (try simp only [Act.put, List.setIfInBounds_toArray, List.set_cons_zero, List.set_cons_succ])
            have l1 : w3.heap.size ≤ x4.heap.size := by omega
            have l2 : w3.heap.size ≤ x0.heap.size := by omega
            have hne : x4.heap.size ≠ x0.heap.size := by omega
            have n1 : ∀ a, a < 2 + 2 * n → (F a).ownBlock ≠ some x4.heap.size := fun a ha e => by have := FB.out a ha _ e; omega
            have n2 : ∀ a, a < 2 + 2 * n → (F a).ownBlock ≠ some x0.heap.size := fun a ha e => by have := FB.out a ha _ e; omega
            have ANS : Hid (BegAns w3 x4.heap.size x0.heap.size F m fs n ds' hT hS _) := begAns_of (hT := hT) (hS := hS) B6 XM6 XH6 l1 l2 hne (MO6.weaken (by omega)) n1 n2
            rw [HF.out.1, HF.out.2] at ANS
            obtain ⟨y0, y1, z0, z1⟩ := XM6.two
            refine wpAnyH_ready (rs := [14]) (by kernel_rfl) (by simp) ?_
            refine AllReadyH.cons (o := _) (by rw [List.getElem?_toArray]; exact rfl) (fun K hK => ?_) AllReadyH.nil
            rw [if_pos (by kernel_rfl)]
            go_simp
            refine hK.out _ _ (CELw3.out _ ((B6.setCell l1 _).setCell l1 _)) (fun hHeld => ?_)
            clear hK K
            (try simp only [Act.put, List.setIfInBounds_toArray, List.set_cons_zero, List.set_cons_succ])
            have XH' := (XH6.set (q := ⟨x4.heap.size, 0, none⟩) (show x0.heap.size ≠ x4.heap.size from hne.symm) (.slice pa m pc)).set (q := ⟨x4.heap.size, 1, none⟩) (show x0.heap.size ≠ x4.heap.size from hne.symm) (.slice pd n pdc)
            obtain ⟨⟨u0, u1, u2, u3⟩, v0, v1, v2, v3⟩ := XH'.four
            refine wpAnyH_ready (rs := [15]) (by kernel_rfl) (by simp) ?_
            refine AllReadyH.cons (o := _) (by rw [List.getElem?_toArray]; exact rfl) (fun K hK => ?_) AllReadyH.nil
            rw [if_pos (by kernel_rfl)]
            go_simp
            refine hK.out _ _ (CELw3.out _ ANS.out.bel) (fun hHeld => ?_)
            clear hK K
            (try simp only [Act.put, List.setIfInBounds_toArray, List.set_cons_zero, List.set_cons_succ])
            refine wpAnyH_take (i := 16) (oi := _) (v := .bool ok) (by rw [List.getElem?_toArray]; exact rfl) (by kernel_rfl) (by kernel_rfl) (by kernel_rfl) (by intro _ _ _ h; exact h) (Or.inl ⟨by kernel_rfl, ?_⟩) hHeld ?_
            · intro w hSw; go_simp
            (try simp only [Act.put, List.setIfInBounds_toArray, List.set_cons_zero, List.set_cons_succ])
            refine wpAnyH_done (by kernel_rfl) ?_ _
            exact ⟨x4.heap.size, x0.heap.size, g1, h1, x2.heap.size, g3, pa, pc, pd, pdc, F, ds', hT, hS, ok, rfl, HF.out, SAYS.out, ANS.out⟩
        · rw [if_pos (by kernel_rfl)]
          go_simp
          obtain ⟨x4, hx⟩ : ∃ y, x3.alloc (.cells #[.slice none 0 0, .slice none 0 0] 46) = y := ⟨_, rfl⟩
          have hb : Below x3.heap.size x3 x4 := by rw [← hx]; exact (Below.refl _ _).alloc (Nat.le_refl _) _
          have B4 : Below w3.heap.size w3 x4 := B3.trans (hb.mono B3.size)
          have MI4 := MI3.below hb (Nat.le_refl _)
          have E4 := E3.below hb (Nat.le_refl _)
          have XH4 := XH3.below hb XH3.lt
          have XM4 : Box x4 x3.heap.size #[.slice none 0 0, .slice none 0 0] 46 := by rw [← hx]; exact box_of x3 _ _
          have s4 : x3.heap.size < x4.heap.size := by rw [← hx]; simp
          rw [hx]
          refine hK.out _ _ (CELw3.out _ B4) (fun hHeld => ?_)
          clear hK K
          (try simp only [Act.put, List.setIfInBounds_toArray, List.set_cons_zero, List.set_cons_succ])
          clear hb hx B3 MI3 E3 XH3
          refine wpAnyH_ready (rs := [6]) (by kernel_rfl) (by simp) ?_
          refine AllReadyH.cons (o := _) (by rw [List.getElem?_toArray]; exact rfl) (fun K hK => ?_) AllReadyH.nil
          rw [if_pos (by kernel_rfl)]
          go_simp
          refine (toRes_g ra rn rc cd rs _ (INSw3.out.2.2.2.below B4 (Nat.le_refl _))).mono ?_
          rintro e x5 ⟨g3, rfl, hg3, o3, hb⟩
          have B5 : Below w3.heap.size w3 x5 := B4.trans (hb.mono B4.size)
          have MI5 := MI4.below hb (Nat.le_refl _)
          have E5 := E4.below hb (Nat.le_refl _)
          have XM5 := XM4.below hb XM4.lt
          have XH5 := XH4.below hb XH4.lt
          have R5 : IntAt x5 (some ⟨g3, 0, none⟩) rn rs := own_intAt o3 (by omega)
          have s5 : x4.heap.size ≤ x5.heap.size := hb.size
          refine hK.out _ _ (CELw3.out _ B5) (fun hHeld => ?_)
          clear hK K
          (try simp only [Act.put, List.setIfInBounds_toArray, List.set_cons_zero, List.set_cons_succ])
          clear hb B4 MI4 E4 XM4 XH4 o3 hg3
          refine wpAnyH_ready (rs := [7]) (by kernel_rfl) (by simp) ?_
          refine AllReadyH.cons (o := _) (by rw [List.getElem?_toArray]; exact rfl) (fun K hK => ?_) AllReadyH.nil
          rw [if_pos (by kernel_rfl)]
          go_simp
          refine (specBegin_any ⟨g1, 0, none⟩ m m fs (some ⟨h1, 0, none⟩) n n ds t ⟨x2.heap.size, 0, none⟩ en en es cd ⟨g3, 0, none⟩ rn rn rs _ MI5.1 MI5.2.1 MI5.2.2.1 SM.out E5 R5 hrn1).mono ?_
          rintro e x6 ⟨⟨F, ds', hT, hS, ok, rfl, says, mo⟩, hb⟩
          have B6 : Below w3.heap.size w3 x6 := B5.trans (hb.mono B5.size)
          have MI6 := MI5.below hb (Nat.le_refl _)
          have E6 := E5.below hb (Nat.le_refl _)
          have R6 := R5.below hb (Nat.le_refl _)
          have XM6 := XM5.below hb XM5.lt
          have XH6 := XH5.below hb XH5.lt
          have MO6 : MemO x6 x5.heap.size F m fs n ds' := mo
          have FB : Hid (∀ a, a < 2 + 2 * n → ∀ b, (F a).ownBlock = some b → x5.heap.size ≤ b ∧ b < x6.heap.size) := mo.blk
          have SAYS : Hid (BeginSays fs m ds t en es cd rn rs ds' hT hS ok) := says
          obtain ⟨pa, pc, e0, _⟩ := owns_slice mo.words
          obtain ⟨gvs, gd, _⟩ := mo.descO.descs
          obtain ⟨pd, pdc, e1, _⟩ := owns_slice gd
          have HF : Hid (F 0 = .slice pa m pc ∧ F 1 = .slice pd n pdc) := ⟨e0, e1⟩
          rw [show MemF F = MemV pa m pc pd n pdc by rw [MemF, e0, e1]]
          have s6 : x5.heap.size ≤ x6.heap.size := hb.size
          refine hK.out _ _ (CELw3.out _ B6) (fun hHeld => ?_)
          clear hK K
          (try simp only [Act.put, List.setIfInBounds_toArray, List.set_cons_zero, List.set_cons_succ])
          clear hb B5 MI5 E5 R5 XM5 XH5 mo gd e0 e1 says
          refine wpAnyH_take (i := 8) (oi := _) (v := .tuple #[MemV pa m pc pd n pdc, HelpV hT hS 0 0, .bool ok]) (by rw [List.getElem?_toArray]; exact rfl) (by kernel_rfl) (by kernel_rfl) (by kernel_rfl) (by intro _ _ _ h; exact h) (Or.inl ⟨by kernel_rfl, ?_⟩) hHeld ?_
          · intro w hSw; go_simp
          (try simp only [Act.put, List.setIfInBounds_toArray, List.set_cons_zero, List.set_cons_succ])
          refine wpAnyH_take (i := 9) (oi := _) (v := MemV pa m pc pd n pdc) (by rw [List.getElem?_toArray]; exact rfl) (by kernel_rfl) (by kernel_rfl) (by kernel_rfl) (by intro _ _ _ h; exact h) (Or.inl ⟨by kernel_rfl, ?_⟩) hHeld ?_
          · intro w hSw; go_simp
          (try simp only [Act.put, List.setIfInBounds_toArray, List.set_cons_zero, List.set_cons_succ])
          refine wpAnyH_take (i := 10) (oi := _) (v := HelpV hT hS 0 0) (by rw [List.getElem?_toArray]; exact rfl) (by kernel_rfl) (by kernel_rfl) (by kernel_rfl) (by intro _ _ _ h; exact h) (Or.inl ⟨by kernel_rfl, ?_⟩) hHeld ?_
          · intro w hSw; go_simp
          (try simp only [Act.put, List.setIfInBounds_toArray, List.set_cons_zero, List.set_cons_succ])
          refine wpAnyH_take (i := 11) (oi := _) (v := .bool ok) (by rw [List.getElem?_toArray]; exact rfl) (by kernel_rfl) (by kernel_rfl) (by kernel_rfl) (by intro _ _ _ h; exact h) (Or.inl ⟨by kernel_rfl, ?_⟩) hHeld ?_
          · intro w hSw; go_simp
          (try simp only [Act.put, List.setIfInBounds_toArray, List.set_cons_zero, List.set_cons_succ])
          have l1 : w3.heap.size ≤ x3.heap.size := by omega
          have l2 : w3.heap.size ≤ x0.heap.size := by omega
          have hne : x3.heap.size ≠ x0.heap.size := by omega
          have n1 : ∀ a, a < 2 + 2 * n → (F a).ownBlock ≠ some x3.heap.size := fun a ha e => by have := FB.out a ha _ e; omega
          have n2 : ∀ a, a < 2 + 2 * n → (F a).ownBlock ≠ some x0.heap.size := fun a ha e => by have := FB.out a ha _ e; omega
          have ANS : Hid (BegAns w3 x3.heap.size x0.heap.size F m fs n ds' hT hS _) := begAns_of (hT := hT) (hS := hS) B6 XM6 XH6 l1 l2 hne (MO6.weaken (by omega)) n1 n2
          rw [HF.out.1, HF.out.2] at ANS
          obtain ⟨y0, y1, z0, z1⟩ := XM6.two
          refine wpAnyH_ready (rs := [14]) (by kernel_rfl) (by simp) ?_
          refine AllReadyH.cons (o := _) (by rw [List.getElem?_toArray]; exact rfl) (fun K hK => ?_) AllReadyH.nil
          rw [if_pos (by kernel_rfl)]
          go_simp
          refine hK.out _ _ (CELw3.out _ ((B6.setCell l1 _).setCell l1 _)) (fun hHeld => ?_)
          clear hK K
          (try simp only [Act.put, List.setIfInBounds_toArray, List.set_cons_zero, List.set_cons_succ])
          have XH' := (XH6.set (q := ⟨x3.heap.size, 0, none⟩) (show x0.heap.size ≠ x3.heap.size from hne.symm) (.slice pa m pc)).set (q := ⟨x3.heap.size, 1, none⟩) (show x0.heap.size ≠ x3.heap.size from hne.symm) (.slice pd n pdc)
          obtain ⟨⟨u0, u1, u2, u3⟩, v0, v1, v2, v3⟩ := XH'.four
          refine wpAnyH_ready (rs := [15]) (by kernel_rfl) (by simp) ?_
          refine AllReadyH.cons (o := _) (by rw [List.getElem?_toArray]; exact rfl) (fun K hK => ?_) AllReadyH.nil
          rw [if_pos (by kernel_rfl)]
          go_simp
          refine hK.out _ _ (CELw3.out _ ANS.out.bel) (fun hHeld => ?_)
          clear hK K
          (try simp only [Act.put, List.setIfInBounds_toArray, List.set_cons_zero, List.set_cons_succ])
          refine wpAnyH_take (i := 16) (oi := _) (v := .bool ok) (by rw [List.getElem?_toArray]; exact rfl) (by kernel_rfl) (by kernel_rfl) (by kernel_rfl) (by intro _ _ _ h; exact h) (Or.inl ⟨by kernel_rfl, ?_⟩) hHeld ?_
          · intro w hSw; go_simp
          (try simp only [Act.put, List.setIfInBounds_toArray, List.set_cons_zero, List.set_cons_succ])
          refine wpAnyH_done (by kernel_rfl) ?_ _
          exact ⟨x3.heap.size, x0.heap.size, g1, h1, x2.heap.size, g3, pa, pc, pd, pdc, F, ds', hT, hS, ok, rfl, HF.out, SAYS.out, ANS.out⟩
      · rw [if_pos (by kernel_rfl)]
        go_simp
        obtain ⟨x3, hx⟩ : ∃ y, x2.alloc (.cells #[.slice none 0 0, .slice none 0 0] 46) = y := ⟨_, rfl⟩
        have hb : Below x2.heap.size x2 x3 := by rw [← hx]; exact (Below.refl _ _).alloc (Nat.le_refl _) _
        have B3 : Below w3.heap.size w3 x3 := B2.trans (hb.mono B2.size)
        have MI3 := MI2.below hb (Nat.le_refl _)
        have XH3 := XH2.below hb XH2.lt
        have XM3 : Box x3 x2.heap.size #[.slice none 0 0, .slice none 0 0] 46 := by rw [← hx]; exact box_of x2 _ _
        have s3 : x2.heap.size < x3.heap.size := by rw [← hx]; simp
        rw [hx]
        refine hK.out _ _ (CELw3.out _ B3) (fun hHeld => ?_)
        clear hK K
        (try simp only [Act.put, List.setIfInBounds_toArray, List.set_cons_zero, List.set_cons_succ])
        clear hb hx B2 MI2 XH2
        refine wpAnyH_ready (rs := [4]) (by kernel_rfl) (by simp) ?_
        refine AllReadyH.cons (o := _) (by rw [List.getElem?_toArray]; exact rfl) (fun K hK => ?_) AllReadyH.nil
        rw [if_pos (by kernel_rfl)]
        go_simp
        refine (toEntryS_any la en lc es _ (INSw3.out.2.2.1.below B3 (Nat.le_refl _))).mono ?_
        rintro e x4 ⟨rfl, o2, hb⟩
        have B4 : Below w3.heap.size w3 x4 := B3.trans (hb.mono B3.size)
        have MI4 := MI3.below hb (Nat.le_refl _)
        have XM4 := XM3.below hb XM3.lt
        have XH4 := XH3.below hb XH3.lt
        have E4 : TripAt x4 (some ⟨x3.heap.size, 0, none⟩) en es := own_tripAt o2 hen1
        have s4 : x3.heap.size ≤ x4.heap.size := hb.size
        refine hK.out _ _ (CELw3.out _ B4) (fun hHeld => ?_)
        clear hK K
        (try simp only [Act.put, List.setIfInBounds_toArray, List.set_cons_zero, List.set_cons_succ])
        clear hb B3 MI3 XM3 XH3 o2
        refine wpAnyH_ready (rs := [6]) (by kernel_rfl) (by simp) ?_
        refine AllReadyH.cons (o := _) (by rw [List.getElem?_toArray]; exact rfl) (fun K hK => ?_) AllReadyH.nil
        rw [if_pos (by kernel_rfl)]
        go_simp
        refine (toRes_g ra rn rc cd rs _ (INSw3.out.2.2.2.below B4 (Nat.le_refl _))).mono ?_
        rintro e x5 ⟨g3, rfl, hg3, o3, hb⟩
        have B5 : Below w3.heap.size w3 x5 := B4.trans (hb.mono B4.size)
        have MI5 := MI4.below hb (Nat.le_refl _)
        have E5 := E4.below hb (Nat.le_refl _)
        have XM5 := XM4.below hb XM4.lt
        have XH5 := XH4.below hb XH4.lt
        have R5 : IntAt x5 (some ⟨g3, 0, none⟩) rn rs := own_intAt o3 (by omega)
        have s5 : x4.heap.size ≤ x5.heap.size := hb.size
        refine hK.out _ _ (CELw3.out _ B5) (fun hHeld => ?_)
        clear hK K
        (try simp only [Act.put, List.setIfInBounds_toArray, List.set_cons_zero, List.set_cons_succ])
        clear hb B4 MI4 E4 XM4 XH4 o3 hg3
        refine wpAnyH_ready (rs := [7]) (by kernel_rfl) (by simp) ?_
        refine AllReadyH.cons (o := _) (by rw [List.getElem?_toArray]; exact rfl) (fun K hK => ?_) AllReadyH.nil
        rw [if_pos (by kernel_rfl)]
        go_simp
        refine (specBegin_any ⟨g1, 0, none⟩ m m fs (some ⟨h1, 0, none⟩) n n ds t ⟨x3.heap.size, 0, none⟩ en en es cd ⟨g3, 0, none⟩ rn rn rs _ MI5.1 MI5.2.1 MI5.2.2.1 SM.out E5 R5 hrn1).mono ?_
        rintro e x6 ⟨⟨F, ds', hT, hS, ok, rfl, says, mo⟩, hb⟩
        have B6 : Below w3.heap.size w3 x6 := B5.trans (hb.mono B5.size)
        have MI6 := MI5.below hb (Nat.le_refl _)
        have E6 := E5.below hb (Nat.le_refl _)
        have R6 := R5.below hb (Nat.le_refl _)
        have XM6 := XM5.below hb XM5.lt
        have XH6 := XH5.below hb XH5.lt
        have MO6 : MemO x6 x5.heap.size F m fs n ds' := mo
        have FB : Hid (∀ a, a < 2 + 2 * n → ∀ b, (F a).ownBlock = some b → x5.heap.size ≤ b ∧ b < x6.heap.size) := mo.blk
        have SAYS : Hid (BeginSays fs m ds t en es cd rn rs ds' hT hS ok) := says
        obtain ⟨pa, pc, e0, _⟩ := owns_slice mo.words
        obtain ⟨gvs, gd, _⟩ := mo.descO.descs
        obtain ⟨pd, pdc, e1, _⟩ := owns_slice gd
        have HF : Hid (F 0 = .slice pa m pc ∧ F 1 = .slice pd n pdc) := ⟨e0, e1⟩
        rw [show MemF F = MemV pa m pc pd n pdc by rw [MemF, e0, e1]]
        have s6 : x5.heap.size ≤ x6.heap.size := hb.size
        refine hK.out _ _ (CELw3.out _ B6) (fun hHeld => ?_)
        clear hK K
        (try simp only [Act.put, List.setIfInBounds_toArray, List.set_cons_zero, List.set_cons_succ])
        clear hb B5 MI5 E5 R5 XM5 XH5 mo gd e0 e1 says
        refine wpAnyH_take (i := 8) (oi := _) (v := .tuple #[MemV pa m pc pd n pdc, HelpV hT hS 0 0, .bool ok]) (by rw [List.getElem?_toArray]; exact rfl) (by kernel_rfl) (by kernel_rfl) (by kernel_rfl) (by intro _ _ _ h; exact h) (Or.inl ⟨by kernel_rfl, ?_⟩) hHeld ?_
        · intro w hSw; go_simp
        (try simp only [Act.put, List.setIfInBounds_toArray, List.set_cons_zero, List.set_cons_succ])
        refine wpAnyH_take (i := 9) (oi := _) (v := MemV pa m pc pd n pdc) (by rw [List.getElem?_toArray]; exact rfl) (by kernel_rfl) (by kernel_rfl) (by kernel_rfl) (by intro _ _ _ h; exact h) (Or.inl ⟨by kernel_rfl, ?_⟩) hHeld ?_
        · intro w hSw; go_simp
        (try simp only [Act.put, List.setIfInBounds_toArray, List.set_cons_zero, List.set_cons_succ])
        refine wpAnyH_take (i := 10) (oi := _) (v := HelpV hT hS 0 0) (by rw [List.getElem?_toArray]; exact rfl) (by kernel_rfl) (by kernel_rfl) (by kernel_rfl) (by intro _ _ _ h; exact h) (Or.inl ⟨by kernel_rfl, ?_⟩) hHeld ?_
        · intro w hSw; go_simp
        (try simp only [Act.put, List.setIfInBounds_toArray, List.set_cons_zero, List.set_cons_succ])
        refine wpAnyH_take (i := 11) (oi := _) (v := .bool ok) (by rw [List.getElem?_toArray]; exact rfl) (by kernel_rfl) (by kernel_rfl) (by kernel_rfl) (by intro _ _ _ h; exact h) (Or.inl ⟨by kernel_rfl, ?_⟩) hHeld ?_
        · intro w hSw; go_simp
        (try simp only [Act.put, List.setIfInBounds_toArray, List.set_cons_zero, List.set_cons_succ])
        have l1 : w3.heap.size ≤ x2.heap.size := by omega
        have l2 : w3.heap.size ≤ x0.heap.size := by omega
        have hne : x2.heap.size ≠ x0.heap.size := by omega
        have n1 : ∀ a, a < 2 + 2 * n → (F a).ownBlock ≠ some x2.heap.size := fun a ha e => by have := FB.out a ha _ e; omega
        have n2 : ∀ a, a < 2 + 2 * n → (F a).ownBlock ≠ some x0.heap.size := fun a ha e => by have := FB.out a ha _ e; omega
        have ANS : Hid (BegAns w3 x2.heap.size x0.heap.size F m fs n ds' hT hS _) := begAns_of (hT := hT) (hS := hS) B6 XM6 XH6 l1 l2 hne (MO6.weaken (by omega)) n1 n2
        rw [HF.out.1, HF.out.2] at ANS
        obtain ⟨y0, y1, z0, z1⟩ := XM6.two
        refine wpAnyH_ready (rs := [14]) (by kernel_rfl) (by simp) ?_
        refine AllReadyH.cons (o := _) (by rw [List.getElem?_toArray]; exact rfl) (fun K hK => ?_) AllReadyH.nil
        rw [if_pos (by kernel_rfl)]
        go_simp
        refine hK.out _ _ (CELw3.out _ ((B6.setCell l1 _).setCell l1 _)) (fun hHeld => ?_)
        clear hK K
        (try simp only [Act.put, List.setIfInBounds_toArray, List.set_cons_zero, List.set_cons_succ])
        have XH' := (XH6.set (q := ⟨x2.heap.size, 0, none⟩) (show x0.heap.size ≠ x2.heap.size from hne.symm) (.slice pa m pc)).set (q := ⟨x2.heap.size, 1, none⟩) (show x0.heap.size ≠ x2.heap.size from hne.symm) (.slice pd n pdc)
        obtain ⟨⟨u0, u1, u2, u3⟩, v0, v1, v2, v3⟩ := XH'.four
        refine wpAnyH_ready (rs := [15]) (by kernel_rfl) (by simp) ?_
        refine AllReadyH.cons (o := _) (by rw [List.getElem?_toArray]; exact rfl) (fun K hK => ?_) AllReadyH.nil
        rw [if_pos (by kernel_rfl)]
        go_simp
        refine hK.out _ _ (CELw3.out _ ANS.out.bel) (fun hHeld => ?_)
        clear hK K
        (try simp only [Act.put, List.setIfInBounds_toArray, List.set_cons_zero, List.set_cons_succ])
        refine wpAnyH_take (i := 16) (oi := _) (v := .bool ok) (by rw [List.getElem?_toArray]; exact rfl) (by kernel_rfl) (by kernel_rfl) (by kernel_rfl) (by intro _ _ _ h; exact h) (Or.inl ⟨by kernel_rfl, ?_⟩) hHeld ?_
        · intro w hSw; go_simp
        (try simp only [Act.put, List.setIfInBounds_toArray, List.set_cons_zero, List.set_cons_succ])
        refine wpAnyH_done (by kernel_rfl) ?_ _
        exact ⟨x2.heap.size, x0.heap.size, g1, h1, x3.heap.size, g3, pa, pc, pd, pdc, F, ds', hT, hS, ok, rfl, HF.out, SAYS.out, ANS.out⟩
    · rw [if_pos (by kernel_rfl)]
      go_simp
      obtain ⟨x2, hx⟩ : ∃ y, x1.alloc (.cells #[.slice none 0 0, .slice none 0 0] 46) = y := ⟨_, rfl⟩
      have hb : Below x1.heap.size x1 x2 := by rw [← hx]; exact (Below.refl _ _).alloc (Nat.le_refl _) _
      have B2 : Below w3.heap.size w3 x2 := B1.trans (hb.mono B1.size)
      have XH2 := XH1.below hb XH1.lt
      have XM2 : Box x2 x1.heap.size #[.slice none 0 0, .slice none 0 0] 46 := by rw [← hx]; exact box_of x1 _ _
      have s2 : x1.heap.size < x2.heap.size := by rw [← hx]; simp
      rw [hx]
      refine hK.out _ _ (CELw3.out _ B2) (fun hHeld => ?_)
      clear hK K
      (try simp only [Act.put, List.setIfInBounds_toArray, List.set_cons_zero, List.set_cons_succ])
      clear hb hx B1 XH1
      refine wpAnyH_ready (rs := [1]) (by kernel_rfl) (by simp) ?_
      refine AllReadyH.cons (o := _) (by rw [List.getElem?_toArray]; exact rfl) (fun K hK => ?_) AllReadyH.nil
      rw [if_pos (by kernel_rfl)]
      go_simp
      refine (toMem_any wa m wc fs da n dc ds _ (INSw3.out.1.below B2 (Nat.le_refl _)) (INSw3.out.2.1.below B2 (Nat.le_refl _))).mono ?_
      rintro e x3 ⟨g1, h1, rfl, hg1, hh1, o1, p1, hb⟩
      have B3 : Below w3.heap.size w3 x3 := B2.trans (hb.mono B2.size)
      have XM3 := XM2.below hb XM2.lt
      have XH3 := XH2.below hb XH2.lt
      have MI3 : MemIn x3 g1 h1 m n fs ds := memIn_of o1 p1 HL.out hm1 hn1 SM.out
      have s3 : x2.heap.size ≤ x3.heap.size := hb.size
      refine hK.out _ _ (CELw3.out _ B3) (fun hHeld => ?_)
      clear hK K
      (try simp only [Act.put, List.setIfInBounds_toArray, List.set_cons_zero, List.set_cons_succ])
      clear hb B2 XM2 XH2 o1 p1 hg1 hh1
      refine wpAnyH_ready (rs := [4]) (by kernel_rfl) (by simp) ?_
      refine AllReadyH.cons (o := _) (by rw [List.getElem?_toArray]; exact rfl) (fun K hK => ?_) AllReadyH.nil
      rw [if_pos (by kernel_rfl)]
      go_simp
      refine (toEntryS_any la en lc es _ (INSw3.out.2.2.1.below B3 (Nat.le_refl _))).mono ?_
      rintro e x4 ⟨rfl, o2, hb⟩
      have B4 : Below w3.heap.size w3 x4 := B3.trans (hb.mono B3.size)
      have MI4 := MI3.below hb (Nat.le_refl _)
      have XM4 := XM3.below hb XM3.lt
      have XH4 := XH3.below hb XH3.lt
      have E4 : TripAt x4 (some ⟨x3.heap.size, 0, none⟩) en es := own_tripAt o2 hen1
      have s4 : x3.heap.size ≤ x4.heap.size := hb.size
      refine hK.out _ _ (CELw3.out _ B4) (fun hHeld => ?_)
      clear hK K
      (try simp only [Act.put, List.setIfInBounds_toArray, List.set_cons_zero, List.set_cons_succ])
      clear hb B3 MI3 XM3 XH3 o2
      refine wpAnyH_ready (rs := [6]) (by kernel_rfl) (by simp) ?_
      refine AllReadyH.cons (o := _) (by rw [List.getElem?_toArray]; exact rfl) (fun K hK => ?_) AllReadyH.nil
      rw [if_pos (by kernel_rfl)]
      go_simp
      refine (toRes_g ra rn rc cd rs _ (INSw3.out.2.2.2.below B4 (Nat.le_refl _))).mono ?_
      rintro e x5 ⟨g3, rfl, hg3, o3, hb⟩
      have B5 : Below w3.heap.size w3 x5 := B4.trans (hb.mono B4.size)
      have MI5 := MI4.below hb (Nat.le_refl _)
      have E5 := E4.below hb (Nat.le_refl _)
      have XM5 := XM4.below hb XM4.lt
      have XH5 := XH4.below hb XH4.lt
      have R5 : IntAt x5 (some ⟨g3, 0, none⟩) rn rs := own_intAt o3 (by omega)
      have s5 : x4.heap.size ≤ x5.heap.size := hb.size
      refine hK.out _ _ (CELw3.out _ B5) (fun hHeld => ?_)
      clear hK K
      (try simp only [Act.put, List.setIfInBounds_toArray, List.set_cons_zero, List.set_cons_succ])
      clear hb B4 MI4 E4 XM4 XH4 o3 hg3
      refine wpAnyH_ready (rs := [7]) (by kernel_rfl) (by simp) ?_
      refine AllReadyH.cons (o := _) (by rw [List.getElem?_toArray]; exact rfl) (fun K hK => ?_) AllReadyH.nil
      rw [if_pos (by kernel_rfl)]
      go_simp
      refine (specBegin_any ⟨g1, 0, none⟩ m m fs (some ⟨h1, 0, none⟩) n n ds t ⟨x3.heap.size, 0, none⟩ en en es cd ⟨g3, 0, none⟩ rn rn rs _ MI5.1 MI5.2.1 MI5.2.2.1 SM.out E5 R5 hrn1).mono ?_
      rintro e x6 ⟨⟨F, ds', hT, hS, ok, rfl, says, mo⟩, hb⟩
      have B6 : Below w3.heap.size w3 x6 := B5.trans (hb.mono B5.size)
      have MI6 := MI5.below hb (Nat.le_refl _)
      have E6 := E5.below hb (Nat.le_refl _)
      have R6 := R5.below hb (Nat.le_refl _)
      have XM6 := XM5.below hb XM5.lt
      have XH6 := XH5.below hb XH5.lt
      have MO6 : MemO x6 x5.heap.size F m fs n ds' := mo
      have FB : Hid (∀ a, a < 2 + 2 * n → ∀ b, (F a).ownBlock = some b → x5.heap.size ≤ b ∧ b < x6.heap.size) := mo.blk
      have SAYS : Hid (BeginSays fs m ds t en es cd rn rs ds' hT hS ok) := says
      obtain ⟨pa, pc, e0, _⟩ := owns_slice mo.words
      obtain ⟨gvs, gd, _⟩ := mo.descO.descs
      obtain ⟨pd, pdc, e1, _⟩ := owns_slice gd
      have HF : Hid (F 0 = .slice pa m pc ∧ F 1 = .slice pd n pdc) := ⟨e0, e1⟩
      rw [show MemF F = MemV pa m pc pd n pdc by rw [MemF, e0, e1]]
      have s6 : x5.heap.size ≤ x6.heap.size := hb.size
      refine hK.out _ _ (CELw3.out _ B6) (fun hHeld => ?_)
      clear hK K
      (try simp only [Act.put, List.setIfInBounds_toArray, List.set_cons_zero, List.set_cons_succ])
      clear hb B5 MI5 E5 R5 XM5 XH5 mo gd e0 e1 says
      refine wpAnyH_take (i := 8) (oi := _) (v := .tuple #[MemV pa m pc pd n pdc, HelpV hT hS 0 0, .bool ok]) (by rw [List.getElem?_toArray]; exact rfl) (by kernel_rfl) (by kernel_rfl) (by kernel_rfl) (by intro _ _ _ h; exact h) (Or.inl ⟨by kernel_rfl, ?_⟩) hHeld ?_
      · intro w hSw; go_simp
      (try simp only [Act.put, List.setIfInBounds_toArray, List.set_cons_zero, List.set_cons_succ])
      refine wpAnyH_take (i := 9) (oi := _) (v := MemV pa m pc pd n pdc) (by rw [List.getElem?_toArray]; exact rfl) (by kernel_rfl) (by kernel_rfl) (by kernel_rfl) (by intro _ _ _ h; exact h) (Or.inl ⟨by kernel_rfl, ?_⟩) hHeld ?_
      · intro w hSw; go_simp
      (try simp only [Act.put, List.setIfInBounds_toArray, List.set_cons_zero, List.set_cons_succ])
      refine wpAnyH_take (i := 10) (oi := _) (v := HelpV hT hS 0 0) (by rw [List.getElem?_toArray]; exact rfl) (by kernel_rfl) (by kernel_rfl) (by kernel_rfl) (by intro _ _ _ h; exact h) (Or.inl ⟨by kernel_rfl, ?_⟩) hHeld ?_
      · intro w hSw; go_simp
      (try simp only [Act.put, List.setIfInBounds_toArray, List.set_cons_zero, List.set_cons_succ])
      refine wpAnyH_take (i := 11) (oi := _) (v := .bool ok) (by rw [List.getElem?_toArray]; exact rfl) (by kernel_rfl) (by kernel_rfl) (by kernel_rfl) (by intro _ _ _ h; exact h) (Or.inl ⟨by kernel_rfl, ?_⟩) hHeld ?_
      · intro w hSw; go_simp
      (try simp only [Act.put, List.setIfInBounds_toArray, List.set_cons_zero, List.set_cons_succ])
      have l1 : w3.heap.size ≤ x1.heap.size := by omega
      have l2 : w3.heap.size ≤ x0.heap.size := by omega
      have hne : x1.heap.size ≠ x0.heap.size := by omega
      have n1 : ∀ a, a < 2 + 2 * n → (F a).ownBlock ≠ some x1.heap.size := fun a ha e => by have := FB.out a ha _ e; omega
      have n2 : ∀ a, a < 2 + 2 * n → (F a).ownBlock ≠ some x0.heap.size := fun a ha e => by have := FB.out a ha _ e; omega
      have ANS : Hid (BegAns w3 x1.heap.size x0.heap.size F m fs n ds' hT hS _) := begAns_of (hT := hT) (hS := hS) B6 XM6 XH6 l1 l2 hne (MO6.weaken (by omega)) n1 n2
      rw [HF.out.1, HF.out.2] at ANS
      obtain ⟨y0, y1, z0, z1⟩ := XM6.two
      refine wpAnyH_ready (rs := [14]) (by kernel_rfl) (by simp) ?_
      refine AllReadyH.cons (o := _) (by rw [List.getElem?_toArray]; exact rfl) (fun K hK => ?_) AllReadyH.nil
      rw [if_pos (by kernel_rfl)]
      go_simp
      refine hK.out _ _ (CELw3.out _ ((B6.setCell l1 _).setCell l1 _)) (fun hHeld => ?_)
      clear hK K
      (try simp only [Act.put, List.setIfInBounds_toArray, List.set_cons_zero, List.set_cons_succ])
      have XH' := (XH6.set (q := ⟨x1.heap.size, 0, none⟩) (show x0.heap.size ≠ x1.heap.size from hne.symm) (.slice pa m pc)).set (q := ⟨x1.heap.size, 1, none⟩) (show x0.heap.size ≠ x1.heap.size from hne.symm) (.slice pd n pdc)
      obtain ⟨⟨u0, u1, u2, u3⟩, v0, v1, v2, v3⟩ := XH'.four
      refine wpAnyH_ready (rs := [15]) (by kernel_rfl) (by simp) ?_
      refine AllReadyH.cons (o := _) (by rw [List.getElem?_toArray]; exact rfl) (fun K hK => ?_) AllReadyH.nil
      rw [if_pos (by kernel_rfl)]
      go_simp
      refine hK.out _ _ (CELw3.out _ ANS.out.bel) (fun hHeld => ?_)
      clear hK K
      (try simp only [Act.put, List.setIfInBounds_toArray, List.set_cons_zero, List.set_cons_succ])
      refine wpAnyH_take (i := 16) (oi := _) (v := .bool ok) (by rw [List.getElem?_toArray]; exact rfl) (by kernel_rfl) (by kernel_rfl) (by kernel_rfl) (by intro _ _ _ h; exact h) (Or.inl ⟨by kernel_rfl, ?_⟩) hHeld ?_
      · intro w hSw; go_simp
      (try simp only [Act.put, List.setIfInBounds_toArray, List.set_cons_zero, List.set_cons_succ])
      refine wpAnyH_done (by kernel_rfl) ?_ _
      exact ⟨x1.heap.size, x0.heap.size, g1, h1, x3.heap.size, g3, pa, pc, pd, pdc, F, ds', hT, hS, ok, rfl, HF.out, SAYS.out, ANS.out⟩
end Go.Proofs.Ytbdfopokimpeiaq
