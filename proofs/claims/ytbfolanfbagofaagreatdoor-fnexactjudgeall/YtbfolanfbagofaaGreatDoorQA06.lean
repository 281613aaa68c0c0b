/- Texts joined: ImplTh, SpecCa. -/
import Derived.Test.YtbfolanfbagofaaGreatDoorQA02
import Derived.Test.YtbfolanfbagofaaGreatDoorQA04
import Derived.Test.YtbfolanfbagofaaGreatDoorQA05
set_option maxHeartbeats 8000000
set_option maxRecDepth 100000
namespace Go.Proofs.YtbfolanfbagofaaGreatDoor
section
open Go.ChangeShapes Go.WideShapes Go.ChangeAt Go.RowKit
theorem enters_opOk : Enters 131 := by
 intro args w
 have hf := Tryz.func131
 go_simp
theorem enters_got : Enters 185 := by
 intro args w
 have hf := Tryz.func185
 go_simp
theorem enters_stk : Enters 187 := by
 intro args w
 have hf := Tryz.func187
 go_simp
theorem KAt.lieOp {w : World} {a : Option Addr} {n : Nat} {fs : List Int} (h : KAt 3 w a n fs) : LieOp w a n (fun j => I (fs.getD (j * 3) 0)) (fun j => I (fs.getD (j * 3 + 1) 0)) (fun j => I (fs.getD (j * 3 + 2) 0)) := by
 rcases h.2.2 with h0 | ⟨b, o, h1, h2⟩
 · exact .inl h0
 · exact .inr ⟨b, o, h1, fun j hj => ⟨h2 _ (by omega), by have := h2 (j * 3 + 1) (by omega); rwa [← Nat.add_assoc] at this, by have := h2 (j * 3 + 2) (by omega); rwa [← Nat.add_assoc] at this⟩⟩
theorem KAt.liePair {w : World} {a : Option Addr} {n : Nat} {fs : List Int} (h : KAt 2 w a n fs) : LiePair w a n (fun j => I (fs.getD (j * 2) 0)) (fun j => I (fs.getD (j * 2 + 1) 0)) := by
 rcases h.2.2 with h0 | ⟨b, o, h1, h2⟩
 · exact .inl h0
 · exact .inr ⟨b, o, h1, fun j hj => ⟨h2 _ (by omega), by have := h2 (j * 2 + 1) (by omega); rwa [← Nat.add_assoc] at this⟩⟩
theorem KAt.lieHelp {w : World} {a : Option Addr} {n : Nat} {fs : List Int} (h : KAt 4 w a n fs) : LieHelp w a n (fun j => I (fs.getD (j * 4) 0)) (fun j => I (fs.getD (j * 4 + 1) 0)) (fun j => I (fs.getD (j * 4 + 2) 0)) (fun j => I (fs.getD (j * 4 + 3) 0)) := by
 rcases h.2.2 with h0 | ⟨b, o, h1, h2⟩
 · exact .inl h0
 · exact .inr ⟨b, o, h1, fun j hj => ⟨h2 _ (by omega), by have := h2 (j * 4 + 1) (by omega); rwa [← Nat.add_assoc] at this, by have := h2 (j * 4 + 2) (by omega); rwa [← Nat.add_assoc] at this, by have := h2 (j * 4 + 3) (by omega); rwa [← Nat.add_assoc] at this⟩⟩
theorem implGot1 (x y : Int) (w : World) : Calls Tryz.prog 185 #[.agg #[.int .i64 x, .int .i64 y]] w fun e w' => e = .returned (.bool (inB x 0 19 && inB y 0 1000)) ∧ Below w.heap.size w w' := by
 have HB : Hid (Below w.heap.size w (w.alloc (.cells #[.int .i64 x, .int .i64 y] 168))) := (Below.refl _ w).alloc (Nat.le_refl _) _
 obtain ⟨R, hR⟩ : ∃ R, (inB x 0 19 && inB y 0 1000) = R := ⟨_, rfl⟩
 have HR : Hid ((inB x 0 19 && inB y 0 1000) = R) := hR
 rw [hR]
 clear hR
 go_enter Tryz.func185, Tryz.ntmps185
 go_wp2_with fail
 refine (within_g _ _ _ _).mono ?_
 rintro e w1 ⟨rfl, rfl⟩
 rcases hI : inB x 0 19 with _ | _
 · have HF : Hid (false = R) := by show _ = _; rw [← HR.out, hI]; rfl
   clear HR
   go_wp2
   go_ret
   exact ⟨by rw [← HF.out]; rfl, HB.out⟩
 · go_wp2_with fail
   refine (within_g _ _ _ _).mono ?_
   rintro e w2 ⟨rfl, rfl⟩
   have HF : Hid (inB y 0 1000 = R) := by show _ = _; rw [← HR.out, hI]; rfl
   rw [HF.out]
   go_wp2
   go_ret
   exact ⟨rfl, HB.out⟩
theorem implStk1 (g n : Nat) (_ : n ≤ 2097152) (x0 x1 x2 x3 : Int) (w : World) (hg : g < w.heap.size) (hc : w.cell? ⟨g, 0, none⟩ = some (.int .i64 (n : Int))) :
   Calls Tryz.prog 187 #[.agg #[.int .i64 x0, .int .i64 x1, .int .i64 x2, .int .i64 x3], .pointer (some ⟨g, 0, none⟩)] w fun e w' => e = .returned (.bool (inB x0 0 ((n : Int) - 1) && (inB x1 1 1000000 && (inB x2 0 20 && inB x3 0 20)))) ∧ Below w.heap.size w w' := by
 have HB : Hid (Below w.heap.size w (w.alloc (.cells #[.int .i64 x0, .int .i64 x1, .int .i64 x2, .int .i64 x3] 170))) := (Below.refl _ w).alloc (Nat.le_refl _) _
 by_cases h0 : 0 ≤ x0
 case neg =>
   have h0' : decide (0 ≤ x0) = false := decide_eq_false h0
   rw [show inB x0 0 ((n : Int) - 1) = false from inB_no (by omega)]
   clear h0
   go_enter Tryz.func187, Tryz.ntmps187
   go_wp2
   go_ret
   exact ⟨rfl, HB.out⟩
 by_cases h1 : x0 < (n : Int)
 case neg =>
   have h1' : decide (x0 < (n : Int)) = false := decide_eq_false h1
   rw [show inB x0 0 ((n : Int) - 1) = false from inB_no (by omega)]
   have h0' : decide (0 ≤ x0) = true := decide_eq_true h0
   clear h1
   go_enter Tryz.func187, Tryz.ntmps187
   go_wp2
   go_ret
   exact ⟨rfl, HB.out⟩
 rw [show inB x0 0 ((n : Int) - 1) = true from inB_yes (by omega)]
 have h0' : decide (0 ≤ x0) = true := decide_eq_true h0
 have h1' : decide (x0 < (n : Int)) = true := decide_eq_true h1
 obtain ⟨R, hR⟩ : ∃ R, (true && (inB x1 1 1000000 && (inB x2 0 20 && inB x3 0 20))) = R := ⟨_, rfl⟩
 have HR : Hid ((true && (inB x1 1 1000000 && (inB x2 0 20 && inB x3 0 20))) = R) := hR
 rw [hR]
 clear hR
 go_enter Tryz.func187, Tryz.ntmps187
 go_wp2_with fail
 refine (within_g _ _ _ _).mono ?_
 rintro e w1 ⟨rfl, rfl⟩
 rcases hI : inB x1 1 1000000 with _ | _
 · have HF : Hid (false = R) := by show _ = _; rw [← HR.out, hI]; rfl
   clear HR
   go_wp2
   go_ret
   exact ⟨by rw [← HF.out]; rfl, HB.out⟩
 go_wp2_with fail
 refine (within_g _ _ _ _).mono ?_
 rintro e w1 ⟨rfl, rfl⟩
 rcases hJ : inB x2 0 20 with _ | _
 · have HF : Hid (false = R) := by show _ = _; rw [← HR.out, hI, hJ]; rfl
   clear HR
   go_wp2
   go_ret
   exact ⟨by rw [← HF.out]; rfl, HB.out⟩
 go_wp2_with fail
 refine (within_g _ _ _ _).mono ?_
 rintro e w1 ⟨rfl, rfl⟩
 have HF : Hid (inB x3 0 20 = R) := by show _ = _; rw [← HR.out, hI, hJ]; rfl
 rw [HF.out]
 go_wp2
 go_ret
 exact ⟨rfl, HB.out⟩
theorem implProg (a : Option Addr) (n c : Nat) (fs : List Int) (w : World) (h : KAt 3 w a n fs) : Calls Tryz.prog 174 #[.slice a n c] w fun e w' => ∃ ok, (e = .returned (.bool ok) ∧ (ok = true ↔ (n ≤ 8 ∧ ∀ i, i < n → OpAt fs i))) ∧ Below w.heap.size w w' := by
 have H : Hid (KAt 3 w a n fs) := h
 have hn := h.2.1
 clear h
 by_cases h8 : (n : Int) ≤ 8
 case neg =>
   have h8' : decide ((n : Int) ≤ 8) = false := decide_eq_false h8
   have HNO : Hid (¬ (n ≤ 8 ∧ ∀ i, i < n → OpAt fs i)) := fun h => h8 (by omega)
   clear h8
   obtain ⟨G, hG⟩ : ∃ G : Prop, (n ≤ 8 ∧ ∀ i, i < n → OpAt fs i) = G := ⟨_, rfl⟩
   rw [hG] at HNO ⊢
   clear hG
   go_enter Tryz.func174, Tryz.ntmps174
   go_wp2
   go_ret
   first | exact ⟨false, ⟨rfl, by simp [HNO.out]⟩, Below.refl _ _⟩ | exact ⟨.inl ⟨rfl, HNO.out⟩, Below.refl _ _⟩
 have h8' : decide ((n : Int) ≤ 8) = true := decide_eq_true h8
 obtain ⟨G, hG⟩ : ∃ G : Prop, (n ≤ 8 ∧ ∀ i, i < n → OpAt fs i) = G := ⟨_, rfl⟩
 have HG : Hid (G ↔ (∀ i, i < n → OpAt fs i)) := by show _ ↔ _; rw [← hG]; exact ⟨fun h => h.2, fun h => ⟨by omega, h⟩⟩
 rw [hG]
 clear hG
 go_enter Tryz.func174, Tryz.ntmps174
 go_wp2_with fail
 refine (allOp 131 #[] a n c _ _ _ (fun j => decide (OpAt fs j)) _ hn H.out.lieOp (fun j hj W hW => implOpOk_any (fs.getD (j * 3) 0) (fs.getD (j * 3 + 1) 0) (fs.getD (j * 3 + 2) 0) W) enters_opOk).mono ?_
 rintro e w1 ⟨r, ⟨rfl, hr⟩, hb1⟩
 have HR : Hid (r = true ↔ G) := by show _ ↔ _; rw [HG.out, hr]; simp
 have HB : Hid (Below w.heap.size w w1) := hb1
 clear hr hb1
 rcases r with _ | _
 · go_wp2
   go_ret
   exact ⟨false, ⟨rfl, HR.out⟩, HB.out⟩
 · go_wp2
   go_ret
   exact ⟨true, ⟨rfl, ⟨fun _ => HR.out.1 (by first | rfl | trivial), fun _ => rfl⟩⟩, HB.out⟩
theorem implGot (a : Option Addr) (n c : Nat) (gs : List Int) (w : World) (h : KAt 2 w a n gs) : Calls Tryz.prog 176 #[.slice a n c] w fun e w' => ∃ ok, (e = .returned (.bool ok) ∧ (ok = true ↔ (n ≤ 12 ∧ ∀ i, i < n → GotAt gs i = true))) ∧ Below w.heap.size w w' := by
 have H : Hid (KAt 2 w a n gs) := h
 have hn := h.2.1
 clear h
 obtain ⟨G, hG⟩ : ∃ G : Prop, (n ≤ 12 ∧ ∀ i, i < n → GotAt gs i = true) = G := ⟨_, rfl⟩
 have HG : Hid (G ↔ (n ≤ 12 ∧ ∀ i, i < n → GotAt gs i = true)) := by show _ ↔ _; rw [hG]
 rw [hG]
 clear hG
 by_cases h8 : (n : Int) ≤ 12
 case neg =>
   have h8' : decide ((n : Int) ≤ 12) = false := decide_eq_false h8
   have HNO : Hid (¬ G) := fun h => h8 (by have := (HG.out.1 h).1; omega)
   clear h8
   go_enter Tryz.func176, Tryz.ntmps176
   go_wp2
   go_ret
   first | exact ⟨false, ⟨rfl, by simp [HNO.out]⟩, Below.refl _ _⟩ | exact ⟨.inl ⟨rfl, HNO.out⟩, Below.refl _ _⟩
 have h8' : decide ((n : Int) ≤ 12) = true := decide_eq_true h8
 go_enter Tryz.func176, Tryz.ntmps176
 go_wp2_with fail
 refine (allPair 185 #[] a n c _ _ (fun j => GotAt gs j) _ hn H.out.liePair (fun j hj W hW => implGot1 (gs.getD (j * 2) 0) (gs.getD (j * 2 + 1) 0) W) enters_got).mono ?_
 rintro e w1 ⟨r, ⟨rfl, hr⟩, hb1⟩
 have HR : Hid (r = true ↔ G) := by show _ ↔ _; rw [HG.out, hr]; exact ⟨fun h => ⟨by omega, h⟩, fun h => h.2⟩
 have HB : Hid (Below w.heap.size w w1) := hb1
 clear hr hb1
 rcases r with _ | _
 · go_wp2
   go_ret
   exact ⟨false, ⟨rfl, HR.out⟩, HB.out⟩
 · go_wp2
   go_ret
   exact ⟨true, ⟨rfl, ⟨fun _ => HR.out.1 (by first | rfl | trivial), fun _ => rfl⟩⟩, HB.out⟩
theorem implStk (a : Option Addr) (n c : Nat) (hs : List Int) (m : Nat) (hm : m ≤ 2097152) (w : World) (h : KAt 4 w a n hs) : Calls Tryz.prog 177 #[.slice a n c, .int .i64 (m : Int)] w fun e w' => ∃ ok, (e = .returned (.bool ok) ∧ (ok = true ↔ (n ≤ 2 ∧ ∀ i, i < n → HelpAt hs m i = true))) ∧ Below w.heap.size w w' := by
 have H : Hid (KAt 4 w a n hs) := h
 have hn := h.2.1
 clear h
 obtain ⟨G, hG⟩ : ∃ G : Prop, (n ≤ 2 ∧ ∀ i, i < n → HelpAt hs m i = true) = G := ⟨_, rfl⟩
 have HG : Hid (G ↔ (n ≤ 2 ∧ ∀ i, i < n → HelpAt hs m i = true)) := by show _ ↔ _; rw [hG]
 rw [hG]
 clear hG
 have hb0 : Below w.heap.size w (w.alloc (.cells #[.int .i64 (m : Int)] 3)) := (Below.refl _ w).alloc (Nat.le_refl _) _
 have HB0 : Hid (Below w.heap.size w (w.alloc (.cells #[.int .i64 (m : Int)] 3))) := hb0
 have HX : Hid ((w.alloc (.cells #[.int .i64 (m : Int)] 3)).cell? ⟨w.heap.size, 0, none⟩ = some (.int .i64 (m : Int))) := (box_of w _ _).cell 0
 clear hb0
 by_cases h8 : (n : Int) ≤ 2
 case neg =>
   have h8' : decide ((n : Int) ≤ 2) = false := decide_eq_false h8
   have HNO : Hid (¬ G) := fun h => h8 (by have := (HG.out.1 h).1; omega)
   clear h8
   go_enter Tryz.func177, Tryz.ntmps177
   go_wp2
   go_ret
   first | exact ⟨false, ⟨rfl, by simp [HNO.out]⟩, HB0.out⟩ | exact ⟨.inl ⟨rfl, HNO.out⟩, HB0.out⟩
 have h8' : decide ((n : Int) ≤ 2) = true := decide_eq_true h8
 go_enter Tryz.func177, Tryz.ntmps177
 go_wp2_with fail
 refine (allHelp 187 #[.pointer (some ⟨w.heap.size, 0, none⟩)] a n c _ _ _ _ (fun j => HelpAt hs m j) _ hn (H.out.below HB0.out (Nat.le_refl _)).lieHelp (fun j hj W hW => implStk1 w.heap.size m hm (hs.getD (j * 4) 0) (hs.getD (j * 4 + 1) 0) (hs.getD (j * 4 + 2) 0) (hs.getD (j * 4 + 3) 0) W (Nat.lt_of_lt_of_le (by simp) hW.size) ((hW.cell (by simp)).trans HX.out)) enters_stk).mono ?_
 rintro e w1 ⟨r, ⟨rfl, hr⟩, hb1⟩
 have HR : Hid (r = true ↔ G) := by show _ ↔ _; rw [HG.out, hr]; exact ⟨fun h => ⟨by omega, h⟩, fun h => h.2⟩
 have HB : Hid (Below w.heap.size w w1) := HB0.out.trans (hb1.mono HB0.out.size)
 clear hr hb1
 rcases r with _ | _
 · go_wp2
   go_ret
   exact ⟨false, ⟨rfl, HR.out⟩, HB.out⟩
 · go_wp2
   go_ret
   exact ⟨true, ⟨rfl, ⟨fun _ => HR.out.1 (by first | rfl | trivial), fun _ => rfl⟩⟩, HB.out⟩
theorem implOn (a0 : Option Addr) (c0 : Nat) (a1 : Option Addr) (c1 : Nat) (a2 : Option Addr) (c2 : Nat) (n0 : Nat) (pc : Int) (on : Bool) (n1 n2 : Nat) (w : World) :
   Calls Tryz.prog 175 #[.agg #[.slice a0 n0 c0, .int .i64 pc, .bool on, .slice a1 n1 c1, .slice a2 n2 c2]] w fun e w' => ∃ ok, (e = .returned (.bool ok) ∧ (ok = true ↔ ((on = true → pc < (n0 : Int)) ∧ (on = false → n1 = 0 ∧ n2 = 0)))) ∧ Below w.heap.size w w' := by
 obtain ⟨G, hG⟩ : ∃ G : Prop, ((on = true → pc < (n0 : Int)) ∧ (on = false → n1 = 0 ∧ n2 = 0)) = G := ⟨_, rfl⟩
 have HG : Hid (G ↔ ((on = true → pc < (n0 : Int)) ∧ (on = false → n1 = 0 ∧ n2 = 0))) := by show _ ↔ _; rw [hG]
 rw [hG]
 have HB : Hid (Below w.heap.size w (w.alloc (.cells #[.slice a0 n0 c0, .int .i64 pc, .bool on, .slice a1 n1 c1, .slice a2 n2 c2] 92))) := (Below.refl _ w).alloc (Nat.le_refl _) _
 clear hG
 rcases on with _ | _
 · by_cases h1 : n1 = 0
   · have h1' : ((n1 : Int) == 0) = true := by simp [h1]
     by_cases h2 : n2 = 0
     · have h2' : ((n2 : Int) == 0) = true := by simp [h2]
       have HY : Hid G := HG.out.2 ⟨(fun h => by cases h), fun _ => ⟨h1, h2⟩⟩
       clear h1 h2 HG
       go_enter Tryz.func175, Tryz.ntmps175
       go_wp2
       go_ret
       first | exact ⟨true, ⟨rfl, by simp [HY.out]⟩, HB.out⟩ | exact ⟨.inr ⟨rfl, HY.out⟩, HB.out⟩
     · have h2' : ((n2 : Int) == 0) = false := by simp; omega
       have HNO : Hid (¬ G) := fun h => h2 ((HG.out.1 h).2 rfl).2
       clear h1 h2 HG
       go_enter Tryz.func175, Tryz.ntmps175
       go_wp2
       go_ret
       first | exact ⟨false, ⟨rfl, by simp [HNO.out]⟩, HB.out⟩ | exact ⟨.inl ⟨rfl, HNO.out⟩, HB.out⟩
   · have h1' : ((n1 : Int) == 0) = false := by simp; omega
     have HNO : Hid (¬ G) := fun h => h1 ((HG.out.1 h).2 rfl).1
     clear h1 HG
     go_enter Tryz.func175, Tryz.ntmps175
     go_wp2
     go_ret
     first | exact ⟨false, ⟨rfl, by simp [HNO.out]⟩, HB.out⟩ | exact ⟨.inl ⟨rfl, HNO.out⟩, HB.out⟩
 · by_cases h1 : pc < (n0 : Int)
   · have h1' : decide (pc < (n0 : Int)) = true := decide_eq_true h1
     have HY : Hid G := HG.out.2 ⟨fun _ => h1, fun h => by cases h⟩
     clear HG
     go_enter Tryz.func175, Tryz.ntmps175
     go_wp2
     go_ret
     first | exact ⟨true, ⟨rfl, by simp [HY.out]⟩, HB.out⟩ | exact ⟨.inr ⟨rfl, HY.out⟩, HB.out⟩
   · have h1' : decide (pc < (n0 : Int)) = false := decide_eq_false h1
     have HNO : Hid (¬ G) := fun h => h1 ((HG.out.1 h).1 rfl)
     clear HG
     go_enter Tryz.func175, Tryz.ntmps175
     go_wp2
     go_ret
     first | exact ⟨false, ⟨rfl, by simp [HNO.out]⟩, HB.out⟩ | exact ⟨.inl ⟨rfl, HNO.out⟩, HB.out⟩
theorem implThreadOk_any (a0 : Option Addr) (c0 : Nat) (a1 : Option Addr) (c1 : Nat) (a2 : Option Addr) (c2 : Nat) (t : ThD) (n : Nat) (hn : n ≤ 2097152) (w : World) (h : ThL w a0 a1 a2 t) :
   Calls Tryz.prog 155 #[ThV5 a0 c0 a1 c1 a2 c2 t, .int .i64 (n : Int)] w fun e w' => ∃ ok, (e = .returned (.bool ok) ∧ (ok = true ↔ ThGood t n)) ∧ Below w.heap.size w w' := by
 obtain ⟨G, hG⟩ : ∃ G : Prop, ThGood t n = G := ⟨_, rfl⟩
 obtain ⟨n0, fs, pc, on, n1, gs, n2, hs⟩ := t
 have hm0 := h.ops.2.1
 have H1 : Hid (KAt 3 w a0 n0 fs) := h.ops
 have H2 : Hid (KAt 2 w a1 n1 gs) := h.got
 have H3 : Hid (KAt 4 w a2 n2 hs) := h.stk
 rw [hG]
 dsimp only at hm0
 have HG : Hid (G ↔ ThGood ⟨n0, fs, pc, on, n1, gs, n2, hs⟩ n) := by show _ ↔ _; rw [hG]
 show Calls Tryz.prog 155 #[.agg #[.slice a0 n0 c0, .int .i64 pc, .bool on, .slice a1 n1 c1, .slice a2 n2 c2], .int .i64 (n : Int)] w fun e w' => ∃ ok, (e = .returned (.bool ok) ∧ (ok = true ↔ G)) ∧ Below w.heap.size w w'
 obtain ⟨W, hW⟩ : ∃ W, w.alloc (.cells #[.slice a0 n0 c0, .int .i64 pc, .bool on, .slice a1 n1 c1, .slice a2 n2 c2] 92) = W := ⟨_, rfl⟩
 have hb0 : Below w.heap.size w W := by rw [← hW]; exact (Below.refl _ w).alloc (Nat.le_refl _) _
 have BX : Hid (Box W w.heap.size #[.slice a0 n0 c0, .int .i64 pc, .bool on, .slice a1 n1 c1, .slice a2 n2 c2] 92) := by rw [← hW]; exact box_of w _ _
 have HB0 : Hid (Below w.heap.size w W) := hb0
 have HW : Hid (w.alloc (.cells #[.slice a0 n0 c0, .int .i64 pc, .bool on, .slice a1 n1 c1, .slice a2 n2 c2] 92) = W) := hW
 clear h hb0 hW hG
 go_enter Tryz.func155, Tryz.ntmps155
 go_wp2_with fail
 rw [HW.out]
 refine (implProg a0 n0 c0 fs W (H1.out.below HB0.out (Nat.le_refl _))).mono ?_
 rintro e w1 ⟨r1, ⟨rfl, hr1⟩, hb1⟩
 have HR1 : Hid (r1 = true ↔ (n0 ≤ 8 ∧ ∀ i, i < n0 → OpAt fs i)) := hr1
 have HB1 : Hid (Below w.heap.size w w1) := HB0.out.trans (hb1.mono HB0.out.size)
 have BX1 : Hid (Box w1 w.heap.size #[.slice a0 n0 c0, .int .i64 pc, .bool on, .slice a1 n1 c1, .slice a2 n2 c2] 92) := BX.out.below hb1 BX.out.lt
 have L1 : w.heap.size < w1.heap.size := BX1.out.lt
 obtain ⟨z0, z1, z2, z3, z4⟩ := five_of BX1.out
 clear hr1 hb1
 rcases r1 with _ | _
 · have HNO : Hid (¬ G) := fun hg => by have := HR1.out.2 ⟨(HG.out.1 hg).few, (HG.out.1 hg).ops⟩; cases this
   go_wp2
   go_ret
   exact ⟨false, ⟨rfl, by simp [HNO.out]⟩, HB1.out⟩
 go_wp2_with fail
 refine (within_g _ _ _ _).mono ?_
 rintro e w1' ⟨rfl, rfl⟩
 rcases hI : inB pc 0 (n0 : Int) with _ | _
 · have HNO : Hid (¬ G) := fun hg => by have h2 := (HG.out.1 hg).pc; dsimp only at h2; rw [inB_yes h2] at hI; cases hI
   go_wp2
   go_ret
   exact ⟨false, ⟨rfl, by simp [HNO.out]⟩, HB1.out⟩
 have HI : Hid (0 ≤ pc ∧ pc ≤ (n0 : Int)) := inB_val hI
 clear hI
 go_wp2_with fail
 refine (implOn a0 c0 a1 c1 a2 c2 n0 pc on n1 n2 _).mono ?_
 rintro e w2 ⟨r2, ⟨rfl, hr2⟩, hb2⟩
 have HR2 : Hid (r2 = true ↔ ((on = true → pc < (n0 : Int)) ∧ (on = false → n1 = 0 ∧ n2 = 0))) := hr2
 have HB2 : Hid (Below w.heap.size w w2) := HB1.out.trans (hb2.mono HB1.out.size)
 have BX2 : Hid (Box w2 w.heap.size #[.slice a0 n0 c0, .int .i64 pc, .bool on, .slice a1 n1 c1, .slice a2 n2 c2] 92) := BX1.out.below hb2 BX1.out.lt
 clear L1 z0 z1 z2 z3 z4 hr2 hb2
 have L1 : w.heap.size < w2.heap.size := BX2.out.lt
 obtain ⟨z0, z1, z2, z3, z4⟩ := five_of BX2.out
 rcases r2 with _ | _
 · have HNO : Hid (¬ G) := fun hg => by have := HR2.out.2 ⟨(HG.out.1 hg).on, (HG.out.1 hg).off⟩; cases this
   go_wp2
   go_ret
   exact ⟨false, ⟨rfl, by simp [HNO.out]⟩, HB2.out⟩
 go_wp2_with fail
 refine (implGot a1 n1 c1 gs _ (H2.out.below HB2.out (Nat.le_refl _))).mono ?_
 rintro e w3 ⟨r3, ⟨rfl, hr3⟩, hb3⟩
 have HR3 : Hid (r3 = true ↔ (n1 ≤ 12 ∧ ∀ i, i < n1 → GotAt gs i = true)) := hr3
 have HB3 : Hid (Below w.heap.size w w3) := HB2.out.trans (hb3.mono HB2.out.size)
 have BX3 : Hid (Box w3 w.heap.size #[.slice a0 n0 c0, .int .i64 pc, .bool on, .slice a1 n1 c1, .slice a2 n2 c2] 92) := BX2.out.below hb3 BX2.out.lt
 clear L1 z0 z1 z2 z3 z4 hr3 hb3
 have L1 : w.heap.size < w3.heap.size := BX3.out.lt
 obtain ⟨z0, z1, z2, z3, z4⟩ := five_of BX3.out
 rcases r3 with _ | _
 · have HNO : Hid (¬ G) := fun hg => by have := HR3.out.2 ⟨(HG.out.1 hg).got, (HG.out.1 hg).gots⟩; cases this
   go_wp2
   go_ret
   exact ⟨false, ⟨rfl, by simp [HNO.out]⟩, HB3.out⟩
 go_wp2_with fail
 refine (implStk a2 n2 c2 hs n hn _ (H3.out.below HB3.out (Nat.le_refl _))).mono ?_
 rintro e w4 ⟨r4, ⟨rfl, hr4⟩, hb4⟩
 have HB4 : Hid (Below w.heap.size w w4) := HB3.out.trans (hb4.mono HB3.out.size)
 have HR4 : Hid (r4 = true ↔ (n2 ≤ 2 ∧ ∀ i, i < n2 → HelpAt hs n i = true)) := hr4
 clear hr4 hb4
 rcases r4 with _ | _
 · have HNO : Hid (¬ G) := fun hg => by have := HR4.out.2 ⟨(HG.out.1 hg).stk, (HG.out.1 hg).stks⟩; cases this
   go_wp2
   go_ret
   exact ⟨false, ⟨rfl, by simp [HNO.out]⟩, HB4.out⟩
 · have t1 := HR1.out.1 (by first | rfl | trivial)
   have t2 := HR2.out.1 (by first | rfl | trivial)
   have t3 := HR3.out.1 (by first | rfl | trivial)
   have t4 := HR4.out.1 (by first | rfl | trivial)
   have HY : Hid G := HG.out.2 ⟨t1.1, HI.out, t2.1, t2.2, t3.1, t4.1, t1.2, t3.2, t4.2⟩
   clear t1 t2 t3 t4
   go_wp2
   go_ret
   exact ⟨true, ⟨rfl, by simp [HY.out]⟩, HB4.out⟩
theorem eight_of {w : World} {b : Nat} {x0 x1 x2 x3 x4 x5 x6 x7 : Value} {T : TypeId} (h : Box w b #[x0, x1, x2, x3, x4, x5, x6, x7] T) :
   w.cell? ⟨b, 0, none⟩ = some x0 ∧ w.cell? ⟨b, 1, none⟩ = some x1 ∧ w.cell? ⟨b, 2, none⟩ = some x2 ∧ w.cell? ⟨b, 3, none⟩ = some x3 ∧ w.cell? ⟨b, 4, none⟩ = some x4 ∧ w.cell? ⟨b, 5, none⟩ = some x5 ∧ w.cell? ⟨b, 6, none⟩ = some x6 ∧ w.cell? ⟨b, 7, none⟩ = some x7 :=
 ⟨h.cell 0, h.cell 1, h.cell 2, h.cell 3, h.cell 4, h.cell 5, h.cell 6, h.cell 7⟩
theorem nine_of {w : World} {b : Nat} {x0 x1 x2 x3 x4 x5 x6 x7 x8 : Value} {T : TypeId} (h : Box w b #[x0, x1, x2, x3, x4, x5, x6, x7, x8] T) :
   w.cell? ⟨b, 0, none⟩ = some x0 ∧ w.cell? ⟨b, 1, none⟩ = some x1 ∧ w.cell? ⟨b, 2, none⟩ = some x2 ∧ w.cell? ⟨b, 3, none⟩ = some x3 ∧ w.cell? ⟨b, 4, none⟩ = some x4 ∧ w.cell? ⟨b, 5, none⟩ = some x5 ∧ w.cell? ⟨b, 6, none⟩ = some x6 ∧ w.cell? ⟨b, 7, none⟩ = some x7 ∧ w.cell? ⟨b, 8, none⟩ = some x8 :=
 ⟨h.cell 0, h.cell 1, h.cell 2, h.cell 3, h.cell 4, h.cell 5, h.cell 6, h.cell 7, h.cell 8⟩
theorem l1Bit9 (x : Bool) (w : World) : Calls Tryz.prog 118 #[.bool x] w fun e w' => e = .returned (.int .i64 (if x = true then 1 else 0)) ∧ w' = w := by
 rcases x with _ | _
 · go_enter Tryz.func118, Tryz.ntmps118
   go_wp2
   go_ret
   exact ⟨rfl, rfl⟩
 · go_enter Tryz.func118, Tryz.ntmps118
   go_wp2
   go_ret
   exact ⟨rfl, rfl⟩
theorem specCall_any (v0 v1 v4 v5 v6 v7 : Value) (ta : Option Addr) (nt tc : Nat) (hn : nt ≤ 2097152) (tm : Int) (c : CaD) (v : Value) (w : World) :
   Calls Tryz.prog 117 #[.agg #[v0, v1, .slice ta nt tc, .int .i64 tm, v4, v5, v6, v7], CaV c v] w fun e w' => e = .returned (.bool (CaGood nt tm c)) ∧ Below w.heap.size w w' := by
 obtain ⟨R, hR⟩ : ∃ R, CaGood nt tm c = R := ⟨_, rfl⟩
 obtain ⟨t, kd, k, vv, st, ln, en, cd⟩ := c
 rw [hR]
 have HR : Hid ((inB t 0 ((nt : Int) - 1) && (decide (OpGood kd k vv) && (inB st 0 tm && (MomGood ln st tm && MomGood en st tm)))) = R) := hR
 show Calls Tryz.prog 117 #[.agg #[v0, v1, .slice ta nt tc, .int .i64 tm, v4, v5, v6, v7], .agg #[.int .i64 t, .int .i64 kd, .int .i64 k, .int .i64 vv, .int .i64 st, .int .i64 ln, .int .i64 en, .int .i64 cd, v]] w fun e w' => e = .returned (.bool R) ∧ Below w.heap.size w w'
 obtain ⟨W, hW⟩ : ∃ W, (w.alloc (.cells #[v0, v1, .slice ta nt tc, .int .i64 tm, v4, v5, v6, v7] 43)).alloc (.cells #[.int .i64 t, .int .i64 kd, .int .i64 k, .int .i64 vv, .int .i64 st, .int .i64 ln, .int .i64 en, .int .i64 cd, v] 84) = W := ⟨_, rfl⟩
 have hb1 : Below w.heap.size w (w.alloc (.cells #[v0, v1, .slice ta nt tc, .int .i64 tm, v4, v5, v6, v7] 43)) := (Below.refl _ w).alloc (Nat.le_refl _) _
 have hb0 : Below w.heap.size w W := by rw [← hW]; exact hb1.alloc (by simp) _
 have BM : Hid (Box W w.heap.size #[v0, v1, .slice ta nt tc, .int .i64 tm, v4, v5, v6, v7] 43) := by rw [← hW]; exact (box_of w _ _).alloc _
 have BC : Hid (Box W (w.heap.size + 1) #[.int .i64 t, .int .i64 kd, .int .i64 k, .int .i64 vv, .int .i64 st, .int .i64 ln, .int .i64 en, .int .i64 cd, v] 84) := by
   rw [← hW]
   have := box_of (w.alloc (.cells #[v0, v1, .slice ta nt tc, .int .i64 tm, v4, v5, v6, v7] 43)) #[.int .i64 t, .int .i64 kd, .int .i64 k, .int .i64 vv, .int .i64 st, .int .i64 ln, .int .i64 en, .int .i64 cd, v] 84
   rwa [World.size_alloc] at this
 have HB0 : Hid (Below w.heap.size w W) := hb0
 have HW : Hid ((w.alloc (.cells #[v0, v1, .slice ta nt tc, .int .i64 tm, v4, v5, v6, v7] 43)).alloc (.cells #[.int .i64 t, .int .i64 kd, .int .i64 k, .int .i64 vv, .int .i64 st, .int .i64 ln, .int .i64 en, .int .i64 cd, v] 84) = W) := hW
 clear hb0 hb1 hW hR
 obtain ⟨z0, z1, z2, z3, z4, z5, z6, z7⟩ := eight_of BM.out
 obtain ⟨y0, y1, y2, y3, y4, y5, y6, y7, y8⟩ := nine_of BC.out
 have L0 : w.heap.size < W.heap.size := BM.out.lt
 have L1 : w.heap.size + 1 < W.heap.size := BC.out.lt
 go_enter Tryz.func117, Tryz.ntmps117
 go_wp2_with fail
 refine (l1In_g _ _ _ _).mono ?_
 rintro e w1 ⟨rfl, hw1⟩
 obtain rfl : W = w1 := by rw [hw1]; exact HW.out.symm
 clear hw1
 rcases hI0 : inB t 0 ((nt : Int) - 1) with _ | _
 · have HF : Hid (false = R) := by show _ = _; rw [← HR.out, hI0]; rfl
   clear HR
   go_wp2
   go_ret
   exact ⟨by rw [← HF.out]; rfl, HB0.out⟩
 have HI0 : Hid (inB t 0 ((nt : Int) - 1) = true) := hI0
 clear hI0
 go_wp2_with fail
 refine (specOpOk_any kd k vv _).mono ?_
 rintro e w2 ⟨rfl, hb2⟩
 have HB2 : Hid (Below w.heap.size w w2) := HB0.out.trans (hb2.mono HB0.out.size)
 have BM2 : Hid (Box w2 w.heap.size #[v0, v1, .slice ta nt tc, .int .i64 tm, v4, v5, v6, v7] 43) := BM.out.below hb2 BM.out.lt
 have BC2 : Hid (Box w2 (w.heap.size + 1) #[.int .i64 t, .int .i64 kd, .int .i64 k, .int .i64 vv, .int .i64 st, .int .i64 ln, .int .i64 en, .int .i64 cd, v] 84) := BC.out.below hb2 BC.out.lt
 clear z0 z1 z2 z3 z4 z5 z6 z7 y0 y1 y2 y3 y4 y5 y6 y7 y8 L0 L1 hb2
 obtain ⟨z0, z1, z2, z3, z4, z5, z6, z7⟩ := eight_of BM2.out
 obtain ⟨y0, y1, y2, y3, y4, y5, y6, y7, y8⟩ := nine_of BC2.out
 have L0 : w.heap.size < w2.heap.size := BM2.out.lt
 have L1 : w.heap.size + 1 < w2.heap.size := BC2.out.lt
 by_cases hop : OpGood kd k vv
 case neg =>
   rw [show decide (OpGood kd k vv) = false from decide_eq_false hop]
   have HF : Hid (false = R) := by show _ = _; rw [← HR.out, HI0.out, decide_eq_false hop]; rfl
   clear HR hop
   go_wp2
   go_ret
   exact ⟨by rw [← HF.out]; rfl, HB2.out⟩
 rw [show decide (OpGood kd k vv) = true from decide_eq_true hop]
 have HR : Hid ((inB st 0 tm && (MomGood ln st tm && MomGood en st tm)) = R) := by show _ = _; rw [← HR.out, HI0.out, decide_eq_true hop]; rfl
 clear hop
 go_wp2_with fail
 refine (l1In_g _ _ _ _).mono ?_
 rintro e w1 ⟨rfl, rfl⟩
 rcases hI1 : inB st 0 tm with _ | _
 · have HF : Hid (false = R) := by show _ = _; rw [← HR.out, hI1]; rfl
   clear HR
   go_wp2
   go_ret
   exact ⟨by rw [← HF.out]; rfl, HB2.out⟩
 have HR : Hid ((MomGood ln st tm && MomGood en st tm) = R) := by show _ = _; rw [← HR.out, hI1]; rfl
 clear hI1
 by_cases hl : ln = -1
 · have hl1 : (ln == -1) = true := by simp [hl]
   have HR : Hid (MomGood en st tm = R) := by show _ = _; rw [← HR.out]; unfold MomGood; rw [hl1]; rfl
   clear hl
   by_cases he : en = -1
   · have he1 : (en == -1) = true := by simp [he]
     have HF : Hid (true = R) := by show _ = _; rw [← HR.out]; unfold MomGood; rw [he1]; rfl
     clear HR he
     go_wp2
     go_ret
     exact ⟨by rw [← HF.out]; rfl, HB2.out⟩
   · have he1 : (en == -1) = false := by simp [he]
     have HF : Hid (inB en st tm = R) := by show _ = _; rw [← HR.out]; unfold MomGood; rw [he1]; rfl
     clear HR he
     go_wp2_with fail
     refine (l1In_g _ _ _ _).mono ?_
     rintro e w1 ⟨rfl, rfl⟩
     rw [HF.out]
     go_wp2
     go_ret
     exact ⟨rfl, HB2.out⟩
 · have hl1 : (ln == -1) = false := by simp [hl]
   have HR : Hid ((inB ln st tm && MomGood en st tm) = R) := by show _ = _; rw [← HR.out]; unfold MomGood; rw [hl1]; rfl
   clear hl
   go_wp2_with fail
   refine (l1In_g _ _ _ _).mono ?_
   rintro e w1 ⟨rfl, rfl⟩
   rcases hI2 : inB ln st tm with _ | _
   · have HF : Hid (false = R) := by show _ = _; rw [← HR.out, hI2]; rfl
     clear HR
     go_wp2
     go_ret
     exact ⟨by rw [← HF.out]; rfl, HB2.out⟩
   have HR : Hid (MomGood en st tm = R) := by show _ = _; rw [← HR.out, hI2]; rfl
   clear hI2
   by_cases he : en = -1
   · have he1 : (en == -1) = true := by simp [he]
     have HF : Hid (true = R) := by show _ = _; rw [← HR.out]; unfold MomGood; rw [he1]; rfl
     clear HR he
     go_wp2
     go_ret
     exact ⟨by rw [← HF.out]; rfl, HB2.out⟩
   · have he1 : (en == -1) = false := by simp [he]
     have HF : Hid (inB en st tm = R) := by show _ = _; rw [← HR.out]; unfold MomGood; rw [he1]; rfl
     clear HR he
     go_wp2_with fail
     refine (l1In_g _ _ _ _).mono ?_
     rintro e w1 ⟨rfl, rfl⟩
     rw [HF.out]
     go_wp2
     go_ret
     exact ⟨rfl, HB2.out⟩
theorem specLast_any (v0 v1 v2 v3 v5 v6 v7 : Value) (ca : Option Addr) (nc cc : Nat) (f : Nat → CaD) (t : Int) (w : World) (h : CasAt w ca nc f) :
   Calls Tryz.prog 119 #[.agg #[v0, v1, v2, v3, .slice ca nc cc, v5, v6, v7], .int .i64 t] w fun e w' => e = .returned (.int .i64 (lastN f t nc)) ∧ Below w.heap.size w w' := by
 have hn := h.1
 have H : Hid (CasAt w ca nc f) := h
 obtain ⟨R, hR⟩ : ∃ R, lastN f t nc = R := ⟨_, rfl⟩
 have HR : Hid (lastN f t nc = R) := hR
 rw [hR]
 obtain ⟨W, hW⟩ : ∃ W, w.alloc (.cells #[v0, v1, v2, v3, .slice ca nc cc, v5, v6, v7] 43) = W := ⟨_, rfl⟩
 have hb0 : Below w.heap.size w W := by rw [← hW]; exact (Below.refl _ w).alloc (Nat.le_refl _) _
 have BM : Hid (Box W w.heap.size #[v0, v1, v2, v3, .slice ca nc cc, v5, v6, v7] 43) := by rw [← hW]; exact box_of w _ _
 have HB0 : Hid (Below w.heap.size w W) := hb0
 have HW : Hid (w.alloc (.cells #[v0, v1, v2, v3, .slice ca nc cc, v5, v6, v7] 43) = W) := hW
 clear hb0 hR h hW
 obtain ⟨z0, z1, z2, z3, z4, z5, z6, z7⟩ := eight_of BM.out
 have L0 : w.heap.size < W.heap.size := BM.out.lt
 go_enter Tryz.func119, Tryz.ntmps119
 go_wp2
 rw [HW.out]
 go_loopw [5] (fun i wr => ∃ k : Nat, k ≤ nc ∧ i = .int .i64 ((k : Int) - 1) ∧ lastN f t k = R ∧ wr = W) (fun i _ => (intOf i + 1).toNat)
 case atStart => exact ⟨nc, Nat.le_refl _, rfl, HR.out, rfl⟩
 case round =>
   obtain ⟨k, hk, rfl, hr, rfl⟩ := hrel
   rcases Nat.eq_zero_or_pos k with rfl | hpos
   · have HF : Hid (-1 = R) := hr
     clear hr
     go_wp2
     go_ret
     exact ⟨by rw [← HF.out]; rfl, HB0.out⟩
   · obtain ⟨k, rfl⟩ : ∃ j, k = j + 1 := ⟨k - 1, by omega⟩
     have hke : ((k + 1 : Nat) : Int) - 1 = (k : Int) := by omega
     rw [hke]
     have hk0 : (0 : Int) ≤ (k : Int) := by omega
     have hk1 : (k : Int) < (nc : Int) := by omega
     rcases (H.out.below HB0.out (Nat.le_refl _)).2 with h0 | ⟨p1, o1, rfl, g1⟩
     · omega
     obtain ⟨ra, rn, rc, e0, e1, e2, e3, e4, e5, e6, e7, e8⟩ := g1 k (by omega)
     obtain ⟨x, hx⟩ : ∃ x, (f k).t = x := ⟨_, rfl⟩
     rw [hx] at e0
     have HX : Hid ((f k).t = x) := hx
     have HRR : Hid (lastN f t (k + 1) = R) := hr
     clear g1 hr hx hke
     by_cases hxt : x = t
     · have hxt1 : (x == t) = true := by simp [hxt]
       have HF : Hid ((k : Int) = R) := by show _ = _; rw [← HRR.out, lastN, if_pos (by rw [HX.out]; exact hxt)]
       clear HRR hxt
       go_wp2
       go_ret
       exact ⟨by rw [← HF.out]; rfl, HB0.out⟩
     · have hxt1 : (x == t) = false := by simp [hxt]
       have HF : Hid (lastN f t k = R) := by show _ = _; rw [← HRR.out]; conv => rhs; rw [lastN]; rw [if_neg (by rw [HX.out]; exact hxt)]
       clear HRR hxt
       go_wp2
       exact ⟨⟨k, by omega, rfl, HF.out, trivial⟩, by first | (simp [intOf]; done) | (simp [intOf]; omega)⟩
end
end Go.Proofs.YtbfolanfbagofaaGreatDoor
