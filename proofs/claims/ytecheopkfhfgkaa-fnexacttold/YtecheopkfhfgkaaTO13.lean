/- Texts joined: DatK. -/
import Derived.Test.YtecheopkfhfgkaaTO02
import Derived.Deep.RegionHeld3
import Derived.Deep.Cut
import Derived.Handy
set_option maxHeartbeats 2000000
set_option maxRecDepth 100000
namespace Go.Proofs.Ytecheopkfhfgkaa
section
open Go.ChangeShapes Go.WideShapes Go.ChangeAt Go.RowKit Go.Joins
set_option linter.unusedSimpArgs false
theorem dMarkIntS (tx : Int → ByteArray) (base : Nat) (v : Value) (n : Nat) (cs : List Cel) (S : Nat → Prop) (k0 : Int) (w : World) (h : Own w base v (.l 3 1 n cs) S) (hs : Has (.l 3 1 n cs) (.l 3 1 [.i])) (hk0 : 0 ≤ k0) (hk1 : k0 + (cntL cs : Int) ≤ 4611686018427387904) :
   Calls Try.prog 43 #[v, .int .i64 k0] w (Marked tx w base v (.l 3 1 n cs) S k0) := by
 obtain ⟨hl, hn⟩ := h.len
 rcases h.forms with ⟨rfl, rfl, rfl, hS⟩ | ⟨g, cap, rfl, -, hg⟩
 · clear hs
   go_enter Try.func43, Try.ntmps43
   go_wp2
   go_loopw [1, 5] (fun q i wr => q = .int .i64 k0 ∧ i = .int .i64 0 ∧ wr = w) (fun _ i _ => 0)
   case atStart => exact ⟨rfl, rfl, rfl⟩
   case round =>
     obtain ⟨rfl, rfl, rfl⟩ := hrel
     go_wp2
     go_ret
     exact ⟨by simp [Cel.cnt, cntL], .nil _ _ _ hS, Kept.refl _ _⟩
 have HL : Hid (cs.length = n * 1) := hl
 have HG : Hid (S g) := hg
 have HR : Hid (∀ j, j < n → HasL (row cs 1 j) [.i]) := fun j hj => hs.rowL hj
 have HK : Hid (∀ p, k0 + (cntL (cs.take p) : Int) ≤ 4611686018427387904) := fun p => by have := cnt_le (cs := cs) (p := p); show _ ≤ _; omega
 have O0 : Hid (Own w base (.slice (some ⟨g, 0, none⟩) n cap) (.l 3 1 n cs) S) := h
 clear h hl hg hs hk1
 go_enter Try.func43, Try.ntmps43
 go_wp2
 go_loopw [1, 5] (fun q i wr => ∃ j : Nat, j ≤ n ∧ q = .int .i64 (k0 + (cntL (cs.take (j * 1)) : Int)) ∧ i = .int .i64 (j : Int) ∧ Own wr base (.slice (some ⟨g, 0, none⟩) n cap) (.l 3 1 n (markL tx (cs.take (j * 1)) k0 ++ cs.drop (j * 1))) S ∧ Kept S w wr) (fun _ i _ => n - (intOf i).toNat)
 case atStart => exact ⟨0, Nat.zero_le _, by simp [cntL], rfl, by simpa [markL] using O0.out, Kept.refl _ _⟩
 case round =>
   obtain ⟨j, hj, rfl, rfl, ho, hkp⟩ := hrel
   have KP0 : Hid (Kept S w wr) := hkp
   clear hkp
   by_cases hlt : j < n
   · have hj0 : (0 : Int) ≤ (j : Int) := by omega
     have hj1 : (j : Int) < (n : Int) := by omega
     have hle : j * 1 + 1 ≤ n * 1 := by omega
     have hH := HR.out j hlt
     have MR : Hid _ := mark_row tx HL.out hlt k0
     have CS : Hid (cntL (cs.take ((j + 1) * 1)) = cntL (cs.take (j * 1)) + cntL (row cs 1 j)) := cnt_split
     have hkN := HK.out ((j + 1) * 1)
     have hkM := HK.out (j * 1)
     rw [CS.out] at hkN
     have at0 : ∀ i, i < 1 → (markL tx (cs.take (j * 1)) k0 ++ cs.drop (j * 1))[j * 1 + i]? = (row cs 1 j)[i]? := fun i hi => by rw [mark_at tx (by have := HL.out; omega), row_at hi]
     obtain ⟨rs, hrs⟩ : ∃ rs, row cs 1 j = rs := ⟨_, rfl⟩
     have HRS : Hid (row cs 1 j = rs) := hrs
     obtain ⟨P, hP⟩ : ∃ P, markL tx (cs.take (j * 1)) k0 ++ cs.drop (j * 1) = P := ⟨_, rfl⟩
     obtain ⟨q, hq⟩ : ∃ q : Int, k0 + (cntL (cs.take (j * 1)) : Int) = q := ⟨_, rfl⟩
     have HP : Hid (markL tx (cs.take (j * 1)) k0 ++ cs.drop (j * 1) = P) := hP
     have HQ : Hid (k0 + (cntL (cs.take (j * 1)) : Int) = q) := hq
     rw [hrs] at hH at0 hkN
     rw [hP] at ho at0
     rw [hq]
     have hq0 : 0 ≤ q := by omega
     have hq1 : q ≤ 4611686018427387904 := by omega
     have hqN : q + (cntL rs : Int) ≤ 4611686018427387904 := by push_cast at hkN; omega
     clear hP hq hkN hkM hrs
     obtain ⟨c0, rfl, T0⟩ := hH.c1
     obtain ⟨x0, rfl⟩ := T0.int
     have a0 : Hid (P[j * 1]? = some (.i x0)) := at0 0 (by omega)
     simp only [cntL, Cel.cnt, Nat.add_zero] at hqN
     push_cast at hqN
     have HO0 : Hid (Own wr base (.slice (some ⟨g, 0, none⟩) n cap) (.l 3 1 n P) S) := ho
     clear ho at0 hH T0
     obtain ⟨pv0, -, hu0, hf0, -⟩ := HO0.out.cell (j := j * 1) a0.out
     have HOE : Hid _ := (HO0.out.putI (j := j * 1) a0.out (q))
     have HKE : Hid _ := (KP0.out.set (i := j * 1) HG.out (.int .i64 (q)))
     simp only [Nat.mul_one] at hu0 hf0
     go_wp2
     go_roundw
     case rel =>
       have hml : markL tx [.i x0] q = [.i (q)] := by
         simp only [markL, Cel.mark, Cel.cnt]
         (try push_cast)
         (try rfl)
       refine ⟨j + 1, by omega, ?_, by go_num, ?_, by simpa only [Nat.mul_one] using HKE.out⟩
       · have h5 := HQ.out
         rw [CS.out, HRS.out]
         simp only [cntL, Cel.cnt]
         congr 1; push_cast; omega
       · have h6 := MR.out
         rw [HP.out, HQ.out, HRS.out, hml] at h6
         rw [← h6]
         simpa only [Nat.mul_one, over] using HOE.out
     case measure => simp [intOf]; omega
   · obtain rfl : j = n := by omega
     have HE : Hid (cs.take (j * 1) = cs ∧ cs.drop (j * 1) = []) := ⟨List.take_of_length_le (by have := HL.out; omega), List.drop_eq_nil_of_le (by have := HL.out; omega)⟩
     have HOE : Hid _ := ho
     clear ho
     go_wp2
     go_ret
     have h6 := HOE.out
     rw [HE.out.1, HE.out.2, List.append_nil] at h6
     exact ⟨by rw [HE.out.1]; rfl, h6, KP0.out⟩
theorem dMarkOpS (tx : Int → ByteArray) (base : Nat) (v : Value) (n : Nat) (cs : List Cel) (S : Nat → Prop) (k0 : Int) (w : World) (h : Own w base v (.l 31 3 n cs) S) (hs : Has (.l 31 3 n cs) (.l 31 3 tyOp)) (hk0 : 0 ≤ k0) (hk1 : k0 + (cntL cs : Int) ≤ 4611686018427387904) :
   Calls Try.prog 60 #[v, .int .i64 k0] w (Marked tx w base v (.l 31 3 n cs) S k0) := by
 obtain ⟨hl, hn⟩ := h.len
 rcases h.forms with ⟨rfl, rfl, rfl, hS⟩ | ⟨g, cap, rfl, -, hg⟩
 · clear hs
   go_enter Try.func60, Try.ntmps60
   go_wp2
   go_loopw [1, 5] (fun q i wr => q = .int .i64 k0 ∧ i = .int .i64 0 ∧ wr = w) (fun _ i _ => 0)
   case atStart => exact ⟨rfl, rfl, rfl⟩
   case round =>
     obtain ⟨rfl, rfl, rfl⟩ := hrel
     go_wp2
     go_ret
     exact ⟨by simp [Cel.cnt, cntL], .nil _ _ _ hS, Kept.refl _ _⟩
 have HL : Hid (cs.length = n * 3) := hl
 have HG : Hid (S g) := hg
 have HR : Hid (∀ j, j < n → HasL (row cs 3 j) tyOp) := fun j hj => hs.rowL hj
 have HK : Hid (∀ p, k0 + (cntL (cs.take p) : Int) ≤ 4611686018427387904) := fun p => by have := cnt_le (cs := cs) (p := p); show _ ≤ _; omega
 have O0 : Hid (Own w base (.slice (some ⟨g, 0, none⟩) n cap) (.l 31 3 n cs) S) := h
 clear h hl hg hs hk1
 go_enter Try.func60, Try.ntmps60
 go_wp2
 go_loopw [1, 5] (fun q i wr => ∃ j : Nat, j ≤ n ∧ q = .int .i64 (k0 + (cntL (cs.take (j * 3)) : Int)) ∧ i = .int .i64 (j : Int) ∧ Own wr base (.slice (some ⟨g, 0, none⟩) n cap) (.l 31 3 n (markL tx (cs.take (j * 3)) k0 ++ cs.drop (j * 3))) S ∧ Kept S w wr) (fun _ i _ => n - (intOf i).toNat)
 case atStart => exact ⟨0, Nat.zero_le _, by simp [cntL], rfl, by simpa [markL] using O0.out, Kept.refl _ _⟩
 case round =>
   obtain ⟨j, hj, rfl, rfl, ho, hkp⟩ := hrel
   have KP0 : Hid (Kept S w wr) := hkp
   clear hkp
   by_cases hlt : j < n
   · have hj0 : (0 : Int) ≤ (j : Int) := by omega
     have hj1 : (j : Int) < (n : Int) := by omega
     have hle : j * 3 + 3 ≤ n * 3 := by omega
     have hH := HR.out j hlt
     have MR : Hid _ := mark_row tx HL.out hlt k0
     have CS : Hid (cntL (cs.take ((j + 1) * 3)) = cntL (cs.take (j * 3)) + cntL (row cs 3 j)) := cnt_split
     have hkN := HK.out ((j + 1) * 3)
     have hkM := HK.out (j * 3)
     rw [CS.out] at hkN
     have at0 : ∀ i, i < 3 → (markL tx (cs.take (j * 3)) k0 ++ cs.drop (j * 3))[j * 3 + i]? = (row cs 3 j)[i]? := fun i hi => by rw [mark_at tx (by have := HL.out; omega), row_at hi]
     obtain ⟨rs, hrs⟩ : ∃ rs, row cs 3 j = rs := ⟨_, rfl⟩
     have HRS : Hid (row cs 3 j = rs) := hrs
     obtain ⟨P, hP⟩ : ∃ P, markL tx (cs.take (j * 3)) k0 ++ cs.drop (j * 3) = P := ⟨_, rfl⟩
     obtain ⟨q, hq⟩ : ∃ q : Int, k0 + (cntL (cs.take (j * 3)) : Int) = q := ⟨_, rfl⟩
     have HP : Hid (markL tx (cs.take (j * 3)) k0 ++ cs.drop (j * 3) = P) := hP
     have HQ : Hid (k0 + (cntL (cs.take (j * 3)) : Int) = q) := hq
     rw [hrs] at hH at0 hkN
     rw [hP] at ho at0
     rw [hq]
     have hq0 : 0 ≤ q := by omega
     have hq1 : q ≤ 4611686018427387904 := by omega
     have hqN : q + (cntL rs : Int) ≤ 4611686018427387904 := by push_cast at hkN; omega
     clear hP hq hkN hkM hrs
     obtain ⟨c0, c1, c2, rfl, T0, T1, T2⟩ := hH.c3
     obtain ⟨x0, rfl⟩ := T0.int
     obtain ⟨x1, rfl⟩ := T1.int
     obtain ⟨x2, rfl⟩ := T2.int
     have a0 : Hid (P[j * 3]? = some (.i x0)) := at0 0 (by omega)
     have a1 : Hid (P[j * 3 + 1]? = some (.i x1)) := at0 1 (by omega)
     have a2 : Hid (P[j * 3 + 2]? = some (.i x2)) := at0 2 (by omega)
     simp only [cntL, Cel.cnt, Nat.add_zero] at hqN
     push_cast at hqN
     have HO0 : Hid (Own wr base (.slice (some ⟨g, 0, none⟩) n cap) (.l 31 3 n P) S) := ho
     clear ho at0 hH T0 T1 T2
     obtain ⟨pv0, -, hu0, hf0, -⟩ := HO0.out.cell (j := j * 3) a0.out
     obtain ⟨pv1, -, hu1, hf1, -⟩ := HO0.out.cell (j := j * 3 + 1) a1.out
     obtain ⟨pv2, -, hu2, hf2, -⟩ := HO0.out.cell (j := j * 3 + 2) a2.out
     have HOE : Hid _ := (((HO0.out.putI (j := j * 3) a0.out (q)).putI (j := j * 3 + 1) (by rw [List.getElem?_set_ne (by omega)]; exact a1.out) (q + 1)).putI (j := j * 3 + 2) (by rw [List.getElem?_set_ne (by omega), List.getElem?_set_ne (by omega)]; exact a2.out) (q + 1 + 1))
     have HKE : Hid _ := (((KP0.out.set (i := j * 3) HG.out (.int .i64 (q))).set (i := j * 3 + 1) HG.out (.int .i64 (q + 1))).set (i := j * 3 + 2) HG.out (.int .i64 (q + 1 + 1)))
     go_wp2
     go_roundw
     case rel =>
       have hml : markL tx [.i x0, .i x1, .i x2] q = [.i (q), .i (q + 1), .i (q + 1 + 1)] := by
         simp only [markL, Cel.mark, Cel.cnt]
         (try push_cast)
         (try rfl)
       refine ⟨j + 1, by omega, ?_, by go_num, ?_, HKE.out⟩
       · have h5 := HQ.out
         rw [CS.out, HRS.out]
         simp only [cntL, Cel.cnt]
         congr 1; push_cast; omega
       · have h6 := MR.out
         rw [HP.out, HQ.out, HRS.out, hml] at h6
         rw [← h6]
         exact HOE.out
     case measure => simp [intOf]; omega
   · obtain rfl : j = n := by omega
     have HE : Hid (cs.take (j * 3) = cs ∧ cs.drop (j * 3) = []) := ⟨List.take_of_length_le (by have := HL.out; omega), List.drop_eq_nil_of_le (by have := HL.out; omega)⟩
     have HOE : Hid _ := ho
     clear ho
     go_wp2
     go_ret
     have h6 := HOE.out
     rw [HE.out.1, HE.out.2, List.append_nil] at h6
     exact ⟨by rw [HE.out.1]; rfl, h6, KP0.out⟩
theorem dMarkPairS (tx : Int → ByteArray) (base : Nat) (v : Value) (n : Nat) (cs : List Cel) (S : Nat → Prop) (k0 : Int) (w : World) (h : Own w base v (.l 138 2 n cs) S) (hs : Has (.l 138 2 n cs) (.l 138 2 tyPair)) (hk0 : 0 ≤ k0) (hk1 : k0 + (cntL cs : Int) ≤ 4611686018427387904) :
   Calls Try.prog 61 #[v, .int .i64 k0] w (Marked tx w base v (.l 138 2 n cs) S k0) := by
 obtain ⟨hl, hn⟩ := h.len
 rcases h.forms with ⟨rfl, rfl, rfl, hS⟩ | ⟨g, cap, rfl, -, hg⟩
 · clear hs
   go_enter Try.func61, Try.ntmps61
   go_wp2
   go_loopw [1, 5] (fun q i wr => q = .int .i64 k0 ∧ i = .int .i64 0 ∧ wr = w) (fun _ i _ => 0)
   case atStart => exact ⟨rfl, rfl, rfl⟩
   case round =>
     obtain ⟨rfl, rfl, rfl⟩ := hrel
     go_wp2
     go_ret
     exact ⟨by simp [Cel.cnt, cntL], .nil _ _ _ hS, Kept.refl _ _⟩
 have HL : Hid (cs.length = n * 2) := hl
 have HG : Hid (S g) := hg
 have HR : Hid (∀ j, j < n → HasL (row cs 2 j) tyPair) := fun j hj => hs.rowL hj
 have HK : Hid (∀ p, k0 + (cntL (cs.take p) : Int) ≤ 4611686018427387904) := fun p => by have := cnt_le (cs := cs) (p := p); show _ ≤ _; omega
 have O0 : Hid (Own w base (.slice (some ⟨g, 0, none⟩) n cap) (.l 138 2 n cs) S) := h
 clear h hl hg hs hk1
 go_enter Try.func61, Try.ntmps61
 go_wp2
 go_loopw [1, 5] (fun q i wr => ∃ j : Nat, j ≤ n ∧ q = .int .i64 (k0 + (cntL (cs.take (j * 2)) : Int)) ∧ i = .int .i64 (j : Int) ∧ Own wr base (.slice (some ⟨g, 0, none⟩) n cap) (.l 138 2 n (markL tx (cs.take (j * 2)) k0 ++ cs.drop (j * 2))) S ∧ Kept S w wr) (fun _ i _ => n - (intOf i).toNat)
 case atStart => exact ⟨0, Nat.zero_le _, by simp [cntL], rfl, by simpa [markL] using O0.out, Kept.refl _ _⟩
 case round =>
   obtain ⟨j, hj, rfl, rfl, ho, hkp⟩ := hrel
   have KP0 : Hid (Kept S w wr) := hkp
   clear hkp
   by_cases hlt : j < n
   · have hj0 : (0 : Int) ≤ (j : Int) := by omega
     have hj1 : (j : Int) < (n : Int) := by omega
     have hle : j * 2 + 2 ≤ n * 2 := by omega
     have hH := HR.out j hlt
     have MR : Hid _ := mark_row tx HL.out hlt k0
     have CS : Hid (cntL (cs.take ((j + 1) * 2)) = cntL (cs.take (j * 2)) + cntL (row cs 2 j)) := cnt_split
     have hkN := HK.out ((j + 1) * 2)
     have hkM := HK.out (j * 2)
     rw [CS.out] at hkN
     have at0 : ∀ i, i < 2 → (markL tx (cs.take (j * 2)) k0 ++ cs.drop (j * 2))[j * 2 + i]? = (row cs 2 j)[i]? := fun i hi => by rw [mark_at tx (by have := HL.out; omega), row_at hi]
     obtain ⟨rs, hrs⟩ : ∃ rs, row cs 2 j = rs := ⟨_, rfl⟩
     have HRS : Hid (row cs 2 j = rs) := hrs
     obtain ⟨P, hP⟩ : ∃ P, markL tx (cs.take (j * 2)) k0 ++ cs.drop (j * 2) = P := ⟨_, rfl⟩
     obtain ⟨q, hq⟩ : ∃ q : Int, k0 + (cntL (cs.take (j * 2)) : Int) = q := ⟨_, rfl⟩
     have HP : Hid (markL tx (cs.take (j * 2)) k0 ++ cs.drop (j * 2) = P) := hP
     have HQ : Hid (k0 + (cntL (cs.take (j * 2)) : Int) = q) := hq
     rw [hrs] at hH at0 hkN
     rw [hP] at ho at0
     rw [hq]
     have hq0 : 0 ≤ q := by omega
     have hq1 : q ≤ 4611686018427387904 := by omega
     have hqN : q + (cntL rs : Int) ≤ 4611686018427387904 := by push_cast at hkN; omega
     clear hP hq hkN hkM hrs
     obtain ⟨c0, c1, rfl, T0, T1⟩ := hH.c2
     obtain ⟨x0, rfl⟩ := T0.int
     obtain ⟨x1, rfl⟩ := T1.int
     have a0 : Hid (P[j * 2]? = some (.i x0)) := at0 0 (by omega)
     have a1 : Hid (P[j * 2 + 1]? = some (.i x1)) := at0 1 (by omega)
     simp only [cntL, Cel.cnt, Nat.add_zero] at hqN
     push_cast at hqN
     have HO0 : Hid (Own wr base (.slice (some ⟨g, 0, none⟩) n cap) (.l 138 2 n P) S) := ho
     clear ho at0 hH T0 T1
     obtain ⟨pv0, -, hu0, hf0, -⟩ := HO0.out.cell (j := j * 2) a0.out
     obtain ⟨pv1, -, hu1, hf1, -⟩ := HO0.out.cell (j := j * 2 + 1) a1.out
     have HOE : Hid _ := ((HO0.out.putI (j := j * 2) a0.out (q)).putI (j := j * 2 + 1) (by rw [List.getElem?_set_ne (by omega)]; exact a1.out) (q + 1))
     have HKE : Hid _ := ((KP0.out.set (i := j * 2) HG.out (.int .i64 (q))).set (i := j * 2 + 1) HG.out (.int .i64 (q + 1)))
     go_wp2
     go_roundw
     case rel =>
       have hml : markL tx [.i x0, .i x1] q = [.i (q), .i (q + 1)] := by
         simp only [markL, Cel.mark, Cel.cnt]
         (try push_cast)
         (try rfl)
       refine ⟨j + 1, by omega, ?_, by go_num, ?_, HKE.out⟩
       · have h5 := HQ.out
         rw [CS.out, HRS.out]
         simp only [cntL, Cel.cnt]
         congr 1; push_cast; omega
       · have h6 := MR.out
         rw [HP.out, HQ.out, HRS.out, hml] at h6
         rw [← h6]
         exact HOE.out
     case measure => simp [intOf]; omega
   · obtain rfl : j = n := by omega
     have HE : Hid (cs.take (j * 2) = cs ∧ cs.drop (j * 2) = []) := ⟨List.take_of_length_le (by have := HL.out; omega), List.drop_eq_nil_of_le (by have := HL.out; omega)⟩
     have HOE : Hid _ := ho
     clear ho
     go_wp2
     go_ret
     have h6 := HOE.out
     rw [HE.out.1, HE.out.2, List.append_nil] at h6
     exact ⟨by rw [HE.out.1]; rfl, h6, KP0.out⟩
theorem dMarkHelpS (tx : Int → ByteArray) (base : Nat) (v : Value) (n : Nat) (cs : List Cel) (S : Nat → Prop) (k0 : Int) (w : World) (h : Own w base v (.l 140 4 n cs) S) (hs : Has (.l 140 4 n cs) (.l 140 4 tyHelp)) (hk0 : 0 ≤ k0) (hk1 : k0 + (cntL cs : Int) ≤ 4611686018427387904) :
   Calls Try.prog 62 #[v, .int .i64 k0] w (Marked tx w base v (.l 140 4 n cs) S k0) := by
 obtain ⟨hl, hn⟩ := h.len
 rcases h.forms with ⟨rfl, rfl, rfl, hS⟩ | ⟨g, cap, rfl, -, hg⟩
 · clear hs
   go_enter Try.func62, Try.ntmps62
   go_wp2
   go_loopw [1, 5] (fun q i wr => q = .int .i64 k0 ∧ i = .int .i64 0 ∧ wr = w) (fun _ i _ => 0)
   case atStart => exact ⟨rfl, rfl, rfl⟩
   case round =>
     obtain ⟨rfl, rfl, rfl⟩ := hrel
     go_wp2
     go_ret
     exact ⟨by simp [Cel.cnt, cntL], .nil _ _ _ hS, Kept.refl _ _⟩
 have HL : Hid (cs.length = n * 4) := hl
 have HG : Hid (S g) := hg
 have HR : Hid (∀ j, j < n → HasL (row cs 4 j) tyHelp) := fun j hj => hs.rowL hj
 have HK : Hid (∀ p, k0 + (cntL (cs.take p) : Int) ≤ 4611686018427387904) := fun p => by have := cnt_le (cs := cs) (p := p); show _ ≤ _; omega
 have O0 : Hid (Own w base (.slice (some ⟨g, 0, none⟩) n cap) (.l 140 4 n cs) S) := h
 clear h hl hg hs hk1
 go_enter Try.func62, Try.ntmps62
 go_wp2
 go_loopw [1, 5] (fun q i wr => ∃ j : Nat, j ≤ n ∧ q = .int .i64 (k0 + (cntL (cs.take (j * 4)) : Int)) ∧ i = .int .i64 (j : Int) ∧ Own wr base (.slice (some ⟨g, 0, none⟩) n cap) (.l 140 4 n (markL tx (cs.take (j * 4)) k0 ++ cs.drop (j * 4))) S ∧ Kept S w wr) (fun _ i _ => n - (intOf i).toNat)
 case atStart => exact ⟨0, Nat.zero_le _, by simp [cntL], rfl, by simpa [markL] using O0.out, Kept.refl _ _⟩
 case round =>
   obtain ⟨j, hj, rfl, rfl, ho, hkp⟩ := hrel
   have KP0 : Hid (Kept S w wr) := hkp
   clear hkp
   by_cases hlt : j < n
   · have hj0 : (0 : Int) ≤ (j : Int) := by omega
     have hj1 : (j : Int) < (n : Int) := by omega
     have hle : j * 4 + 4 ≤ n * 4 := by omega
     have hH := HR.out j hlt
     have MR : Hid _ := mark_row tx HL.out hlt k0
     have CS : Hid (cntL (cs.take ((j + 1) * 4)) = cntL (cs.take (j * 4)) + cntL (row cs 4 j)) := cnt_split
     have hkN := HK.out ((j + 1) * 4)
     have hkM := HK.out (j * 4)
     rw [CS.out] at hkN
     have at0 : ∀ i, i < 4 → (markL tx (cs.take (j * 4)) k0 ++ cs.drop (j * 4))[j * 4 + i]? = (row cs 4 j)[i]? := fun i hi => by rw [mark_at tx (by have := HL.out; omega), row_at hi]
     obtain ⟨rs, hrs⟩ : ∃ rs, row cs 4 j = rs := ⟨_, rfl⟩
     have HRS : Hid (row cs 4 j = rs) := hrs
     obtain ⟨P, hP⟩ : ∃ P, markL tx (cs.take (j * 4)) k0 ++ cs.drop (j * 4) = P := ⟨_, rfl⟩
     obtain ⟨q, hq⟩ : ∃ q : Int, k0 + (cntL (cs.take (j * 4)) : Int) = q := ⟨_, rfl⟩
     have HP : Hid (markL tx (cs.take (j * 4)) k0 ++ cs.drop (j * 4) = P) := hP
     have HQ : Hid (k0 + (cntL (cs.take (j * 4)) : Int) = q) := hq
     rw [hrs] at hH at0 hkN
     rw [hP] at ho at0
     rw [hq]
     have hq0 : 0 ≤ q := by omega
     have hq1 : q ≤ 4611686018427387904 := by omega
     have hqN : q + (cntL rs : Int) ≤ 4611686018427387904 := by push_cast at hkN; omega
     clear hP hq hkN hkM hrs
     obtain ⟨c0, c1, c2, c3, rfl, T0, T1, T2, T3⟩ := hH.c4
     obtain ⟨x0, rfl⟩ := T0.int
     obtain ⟨x1, rfl⟩ := T1.int
     obtain ⟨x2, rfl⟩ := T2.int
     obtain ⟨x3, rfl⟩ := T3.int
     have a0 : Hid (P[j * 4]? = some (.i x0)) := at0 0 (by omega)
     have a1 : Hid (P[j * 4 + 1]? = some (.i x1)) := at0 1 (by omega)
     have a2 : Hid (P[j * 4 + 2]? = some (.i x2)) := at0 2 (by omega)
     have a3 : Hid (P[j * 4 + 3]? = some (.i x3)) := at0 3 (by omega)
     simp only [cntL, Cel.cnt, Nat.add_zero] at hqN
     push_cast at hqN
     have HO0 : Hid (Own wr base (.slice (some ⟨g, 0, none⟩) n cap) (.l 140 4 n P) S) := ho
     clear ho at0 hH T0 T1 T2 T3
     obtain ⟨pv0, -, hu0, hf0, -⟩ := HO0.out.cell (j := j * 4) a0.out
     obtain ⟨pv1, -, hu1, hf1, -⟩ := HO0.out.cell (j := j * 4 + 1) a1.out
     obtain ⟨pv2, -, hu2, hf2, -⟩ := HO0.out.cell (j := j * 4 + 2) a2.out
     obtain ⟨pv3, -, hu3, hf3, -⟩ := HO0.out.cell (j := j * 4 + 3) a3.out
     have HOE : Hid _ := ((((HO0.out.putI (j := j * 4) a0.out (q)).putI (j := j * 4 + 1) (by rw [List.getElem?_set_ne (by omega)]; exact a1.out) (q + 1)).putI (j := j * 4 + 2) (by rw [List.getElem?_set_ne (by omega), List.getElem?_set_ne (by omega)]; exact a2.out) (q + 1 + 1)).putI (j := j * 4 + 3) (by rw [List.getElem?_set_ne (by omega), List.getElem?_set_ne (by omega), List.getElem?_set_ne (by omega)]; exact a3.out) (q + 1 + 1 + 1))
     have HKE : Hid _ := ((((KP0.out.set (i := j * 4) HG.out (.int .i64 (q))).set (i := j * 4 + 1) HG.out (.int .i64 (q + 1))).set (i := j * 4 + 2) HG.out (.int .i64 (q + 1 + 1))).set (i := j * 4 + 3) HG.out (.int .i64 (q + 1 + 1 + 1)))
     go_wp2
     go_roundw
     case rel =>
       have hml : markL tx [.i x0, .i x1, .i x2, .i x3] q = [.i (q), .i (q + 1), .i (q + 1 + 1), .i (q + 1 + 1 + 1)] := by
         simp only [markL, Cel.mark, Cel.cnt]
         (try push_cast)
         (try rfl)
       refine ⟨j + 1, by omega, ?_, by go_num, ?_, HKE.out⟩
       · have h5 := HQ.out
         rw [CS.out, HRS.out]
         simp only [cntL, Cel.cnt]
         congr 1; push_cast; omega
       · have h6 := MR.out
         rw [HP.out, HQ.out, HRS.out, hml] at h6
         rw [← h6]
         exact HOE.out
     case measure => simp [intOf]; omega
   · obtain rfl : j = n := by omega
     have HE : Hid (cs.take (j * 4) = cs ∧ cs.drop (j * 4) = []) := ⟨List.take_of_length_le (by have := HL.out; omega), List.drop_eq_nil_of_le (by have := HL.out; omega)⟩
     have HOE : Hid _ := ho
     clear ho
     go_wp2
     go_ret
     have h6 := HOE.out
     rw [HE.out.1, HE.out.2, List.append_nil] at h6
     exact ⟨by rw [HE.out.1]; rfl, h6, KP0.out⟩
theorem dMarkEntryS (tx : Int → ByteArray) (base : Nat) (v : Value) (n : Nat) (cs : List Cel) (S : Nat → Prop) (k0 : Int) (w : World) (h : Own w base v (.l 151 3 n cs) S) (hs : Has (.l 151 3 n cs) (.l 151 3 tyEntry)) (hk0 : 0 ≤ k0) (hk1 : k0 + (cntL cs : Int) ≤ 4611686018427387904) :
   Calls Try.prog 78 #[v, .int .i64 k0] w (Marked tx w base v (.l 151 3 n cs) S k0) := by
 obtain ⟨hl, hn⟩ := h.len
 rcases h.forms with ⟨rfl, rfl, rfl, hS⟩ | ⟨g, cap, rfl, -, hg⟩
 · clear hs
   go_enter Try.func78, Try.ntmps78
   go_wp2
   go_loopw [1, 5] (fun q i wr => q = .int .i64 k0 ∧ i = .int .i64 0 ∧ wr = w) (fun _ i _ => 0)
   case atStart => exact ⟨rfl, rfl, rfl⟩
   case round =>
     obtain ⟨rfl, rfl, rfl⟩ := hrel
     go_wp2
     go_ret
     exact ⟨by simp [Cel.cnt, cntL], .nil _ _ _ hS, Kept.refl _ _⟩
 have HL : Hid (cs.length = n * 3) := hl
 have HG : Hid (S g) := hg
 have HR : Hid (∀ j, j < n → HasL (row cs 3 j) tyEntry) := fun j hj => hs.rowL hj
 have HK : Hid (∀ p, k0 + (cntL (cs.take p) : Int) ≤ 4611686018427387904) := fun p => by have := cnt_le (cs := cs) (p := p); show _ ≤ _; omega
 have O0 : Hid (Own w base (.slice (some ⟨g, 0, none⟩) n cap) (.l 151 3 n cs) S) := h
 clear h hl hg hs hk1
 go_enter Try.func78, Try.ntmps78
 go_wp2
 go_loopw [1, 5] (fun q i wr => ∃ j : Nat, j ≤ n ∧ q = .int .i64 (k0 + (cntL (cs.take (j * 3)) : Int)) ∧ i = .int .i64 (j : Int) ∧ Own wr base (.slice (some ⟨g, 0, none⟩) n cap) (.l 151 3 n (markL tx (cs.take (j * 3)) k0 ++ cs.drop (j * 3))) S ∧ Kept S w wr) (fun _ i _ => n - (intOf i).toNat)
 case atStart => exact ⟨0, Nat.zero_le _, by simp [cntL], rfl, by simpa [markL] using O0.out, Kept.refl _ _⟩
 case round =>
   obtain ⟨j, hj, rfl, rfl, ho, hkp⟩ := hrel
   have KP0 : Hid (Kept S w wr) := hkp
   clear hkp
   by_cases hlt : j < n
   · have hj0 : (0 : Int) ≤ (j : Int) := by omega
     have hj1 : (j : Int) < (n : Int) := by omega
     have hle : j * 3 + 3 ≤ n * 3 := by omega
     have hH := HR.out j hlt
     have MR : Hid _ := mark_row tx HL.out hlt k0
     have CS : Hid (cntL (cs.take ((j + 1) * 3)) = cntL (cs.take (j * 3)) + cntL (row cs 3 j)) := cnt_split
     have hkN := HK.out ((j + 1) * 3)
     have hkM := HK.out (j * 3)
     rw [CS.out] at hkN
     have at0 : ∀ i, i < 3 → (markL tx (cs.take (j * 3)) k0 ++ cs.drop (j * 3))[j * 3 + i]? = (row cs 3 j)[i]? := fun i hi => by rw [mark_at tx (by have := HL.out; omega), row_at hi]
     obtain ⟨rs, hrs⟩ : ∃ rs, row cs 3 j = rs := ⟨_, rfl⟩
     have HRS : Hid (row cs 3 j = rs) := hrs
     obtain ⟨P, hP⟩ : ∃ P, markL tx (cs.take (j * 3)) k0 ++ cs.drop (j * 3) = P := ⟨_, rfl⟩
     obtain ⟨q, hq⟩ : ∃ q : Int, k0 + (cntL (cs.take (j * 3)) : Int) = q := ⟨_, rfl⟩
     have HP : Hid (markL tx (cs.take (j * 3)) k0 ++ cs.drop (j * 3) = P) := hP
     have HQ : Hid (k0 + (cntL (cs.take (j * 3)) : Int) = q) := hq
     rw [hrs] at hH at0 hkN
     rw [hP] at ho at0
     rw [hq]
     have hq0 : 0 ≤ q := by omega
     have hq1 : q ≤ 4611686018427387904 := by omega
     have hqN : q + (cntL rs : Int) ≤ 4611686018427387904 := by push_cast at hkN; omega
     clear hP hq hkN hkM hrs
     obtain ⟨c0, c1, c2, rfl, T0, T1, T2⟩ := hH.c3
     obtain ⟨x0, rfl⟩ := T0.int
     obtain ⟨x1, rfl⟩ := T1.int
     obtain ⟨x2, rfl⟩ := T2.int
     have a0 : Hid (P[j * 3]? = some (.i x0)) := at0 0 (by omega)
     have a1 : Hid (P[j * 3 + 1]? = some (.i x1)) := at0 1 (by omega)
     have a2 : Hid (P[j * 3 + 2]? = some (.i x2)) := at0 2 (by omega)
     simp only [cntL, Cel.cnt, Nat.add_zero] at hqN
     push_cast at hqN
     have HO0 : Hid (Own wr base (.slice (some ⟨g, 0, none⟩) n cap) (.l 151 3 n P) S) := ho
     clear ho at0 hH T0 T1 T2
     obtain ⟨pv0, -, hu0, hf0, -⟩ := HO0.out.cell (j := j * 3) a0.out
     obtain ⟨pv1, -, hu1, hf1, -⟩ := HO0.out.cell (j := j * 3 + 1) a1.out
     obtain ⟨pv2, -, hu2, hf2, -⟩ := HO0.out.cell (j := j * 3 + 2) a2.out
     have HOE : Hid _ := (((HO0.out.putI (j := j * 3) a0.out (q)).putI (j := j * 3 + 1) (by rw [List.getElem?_set_ne (by omega)]; exact a1.out) (q + 1)).putI (j := j * 3 + 2) (by rw [List.getElem?_set_ne (by omega), List.getElem?_set_ne (by omega)]; exact a2.out) (q + 1 + 1))
     have HKE : Hid _ := (((KP0.out.set (i := j * 3) HG.out (.int .i64 (q))).set (i := j * 3 + 1) HG.out (.int .i64 (q + 1))).set (i := j * 3 + 2) HG.out (.int .i64 (q + 1 + 1)))
     go_wp2
     go_roundw
     case rel =>
       have hml : markL tx [.i x0, .i x1, .i x2] q = [.i (q), .i (q + 1), .i (q + 1 + 1)] := by
         simp only [markL, Cel.mark, Cel.cnt]
         (try push_cast)
         (try rfl)
       refine ⟨j + 1, by omega, ?_, by go_num, ?_, HKE.out⟩
       · have h5 := HQ.out
         rw [CS.out, HRS.out]
         simp only [cntL, Cel.cnt]
         congr 1; push_cast; omega
       · have h6 := MR.out
         rw [HP.out, HQ.out, HRS.out, hml] at h6
         rw [← h6]
         exact HOE.out
     case measure => simp [intOf]; omega
   · obtain rfl : j = n := by omega
     have HE : Hid (cs.take (j * 3) = cs ∧ cs.drop (j * 3) = []) := ⟨List.take_of_length_le (by have := HL.out; omega), List.drop_eq_nil_of_le (by have := HL.out; omega)⟩
     have HOE : Hid _ := ho
     clear ho
     go_wp2
     go_ret
     have h6 := HOE.out
     rw [HE.out.1, HE.out.2, List.append_nil] at h6
     exact ⟨by rw [HE.out.1]; rfl, h6, KP0.out⟩
theorem dMarkWordS (tx : Int → ByteArray) (base : Nat) (v : Value) (n : Nat) (cs : List Cel) (S : Nat → Prop) (k0 : Int) (w : World) (h : Own w base v (.l 121 3 n cs) S) (hs : Has (.l 121 3 n cs) (.l 121 3 tyWord)) (hk0 : 0 ≤ k0) (hk1 : k0 + (cntL cs : Int) ≤ 4611686018427387904) :
   Calls Try.prog 58 #[v, .int .i64 k0] w (Marked tx w base v (.l 121 3 n cs) S k0) := by
 obtain ⟨hl, hn⟩ := h.len
 rcases h.forms with ⟨rfl, rfl, rfl, hS⟩ | ⟨g, cap, rfl, -, hg⟩
 · clear hs
   go_enter Try.func58, Try.ntmps58
   go_wp2
   go_loopw [1, 5] (fun q i wr => q = .int .i64 k0 ∧ i = .int .i64 0 ∧ wr = w) (fun _ i _ => 0)
   case atStart => exact ⟨rfl, rfl, rfl⟩
   case round =>
     obtain ⟨rfl, rfl, rfl⟩ := hrel
     go_wp2
     go_ret
     exact ⟨by simp [Cel.cnt, cntL], .nil _ _ _ hS, Kept.refl _ _⟩
 have HL : Hid (cs.length = n * 3) := hl
 have HG : Hid (S g) := hg
 have HR : Hid (∀ j, j < n → HasL (row cs 3 j) tyWord) := fun j hj => hs.rowL hj
 have HK : Hid (∀ p, k0 + (cntL (cs.take p) : Int) ≤ 4611686018427387904) := fun p => by have := cnt_le (cs := cs) (p := p); show _ ≤ _; omega
 have O0 : Hid (Own w base (.slice (some ⟨g, 0, none⟩) n cap) (.l 121 3 n cs) S) := h
 clear h hl hg hs hk1
 go_enter Try.func58, Try.ntmps58
 go_wp2
 go_loopw [1, 5] (fun q i wr => ∃ j : Nat, j ≤ n ∧ q = .int .i64 (k0 + (cntL (cs.take (j * 3)) : Int)) ∧ i = .int .i64 (j : Int) ∧ Own wr base (.slice (some ⟨g, 0, none⟩) n cap) (.l 121 3 n (markL tx (cs.take (j * 3)) k0 ++ cs.drop (j * 3))) S ∧ Kept S w wr) (fun _ i _ => n - (intOf i).toNat)
 case atStart => exact ⟨0, Nat.zero_le _, by simp [cntL], rfl, by simpa [markL] using O0.out, Kept.refl _ _⟩
 case round =>
   obtain ⟨j, hj, rfl, rfl, ho, hkp⟩ := hrel
   have KP0 : Hid (Kept S w wr) := hkp
   clear hkp
   by_cases hlt : j < n
   · have hj0 : (0 : Int) ≤ (j : Int) := by omega
     have hj1 : (j : Int) < (n : Int) := by omega
     have hle : j * 3 + 3 ≤ n * 3 := by omega
     have hH := HR.out j hlt
     have MR : Hid _ := mark_row tx HL.out hlt k0
     have CS : Hid (cntL (cs.take ((j + 1) * 3)) = cntL (cs.take (j * 3)) + cntL (row cs 3 j)) := cnt_split
     have hkN := HK.out ((j + 1) * 3)
     have hkM := HK.out (j * 3)
     rw [CS.out] at hkN
     have at0 : ∀ i, i < 3 → (markL tx (cs.take (j * 3)) k0 ++ cs.drop (j * 3))[j * 3 + i]? = (row cs 3 j)[i]? := fun i hi => by rw [mark_at tx (by have := HL.out; omega), row_at hi]
     obtain ⟨rs, hrs⟩ : ∃ rs, row cs 3 j = rs := ⟨_, rfl⟩
     have HRS : Hid (row cs 3 j = rs) := hrs
     obtain ⟨P, hP⟩ : ∃ P, markL tx (cs.take (j * 3)) k0 ++ cs.drop (j * 3) = P := ⟨_, rfl⟩
     obtain ⟨q, hq⟩ : ∃ q : Int, k0 + (cntL (cs.take (j * 3)) : Int) = q := ⟨_, rfl⟩
     have HP : Hid (markL tx (cs.take (j * 3)) k0 ++ cs.drop (j * 3) = P) := hP
     have HQ : Hid (k0 + (cntL (cs.take (j * 3)) : Int) = q) := hq
     rw [hrs] at hH at0 hkN
     rw [hP] at ho at0
     rw [hq]
     have hq0 : 0 ≤ q := by omega
     have hq1 : q ≤ 4611686018427387904 := by omega
     have hqN : q + (cntL rs : Int) ≤ 4611686018427387904 := by push_cast at hkN; omega
     clear hP hq hkN hkM hrs
     obtain ⟨c0, c1, c2, rfl, T0, T1, T2⟩ := hH.c3
     obtain ⟨x0, rfl⟩ := T0.int
     obtain ⟨x1, rfl⟩ := T1.int
     obtain ⟨x2, rfl⟩ := T2.int
     have a0 : Hid (P[j * 3]? = some (.i x0)) := at0 0 (by omega)
     have a1 : Hid (P[j * 3 + 1]? = some (.i x1)) := at0 1 (by omega)
     have a2 : Hid (P[j * 3 + 2]? = some (.i x2)) := at0 2 (by omega)
     simp only [cntL, Cel.cnt, Nat.add_zero] at hqN
     push_cast at hqN
     have HO0 : Hid (Own wr base (.slice (some ⟨g, 0, none⟩) n cap) (.l 121 3 n P) S) := ho
     clear ho at0 hH T0 T1 T2
     obtain ⟨pv0, -, hu0, hf0, -⟩ := HO0.out.cell (j := j * 3) a0.out
     obtain ⟨pv1, -, hu1, hf1, -⟩ := HO0.out.cell (j := j * 3 + 1) a1.out
     obtain ⟨pv2, -, hu2, hf2, -⟩ := HO0.out.cell (j := j * 3 + 2) a2.out
     have HOE : Hid _ := (((HO0.out.putI (j := j * 3) a0.out (q)).putI (j := j * 3 + 1) (by rw [List.getElem?_set_ne (by omega)]; exact a1.out) (q + 1)).putI (j := j * 3 + 2) (by rw [List.getElem?_set_ne (by omega), List.getElem?_set_ne (by omega)]; exact a2.out) (q + 1 + 1))
     have HKE : Hid _ := (((KP0.out.set (i := j * 3) HG.out (.int .i64 (q))).set (i := j * 3 + 1) HG.out (.int .i64 (q + 1))).set (i := j * 3 + 2) HG.out (.int .i64 (q + 1 + 1)))
     go_wp2
     go_roundw
     case rel =>
       have hml : markL tx [.i x0, .i x1, .i x2] q = [.i (q), .i (q + 1), .i (q + 1 + 1)] := by
         simp only [markL, Cel.mark, Cel.cnt]
         (try push_cast)
         (try rfl)
       refine ⟨j + 1, by omega, ?_, by go_num, ?_, HKE.out⟩
       · have h5 := HQ.out
         rw [CS.out, HRS.out]
         simp only [cntL, Cel.cnt]
         congr 1; push_cast; omega
       · have h6 := MR.out
         rw [HP.out, HQ.out, HRS.out, hml] at h6
         rw [← h6]
         exact HOE.out
     case measure => simp [intOf]; omega
   · obtain rfl : j = n := by omega
     have HE : Hid (cs.take (j * 3) = cs ∧ cs.drop (j * 3) = []) := ⟨List.take_of_length_le (by have := HL.out; omega), List.drop_eq_nil_of_le (by have := HL.out; omega)⟩
     have HOE : Hid _ := ho
     clear ho
     go_wp2
     go_ret
     have h6 := HOE.out
     rw [HE.out.1, HE.out.2, List.append_nil] at h6
     exact ⟨by rw [HE.out.1]; rfl, h6, KP0.out⟩
theorem dMarkThreadS (tx : Int → ByteArray) (base : Nat) (v : Value) (n : Nat) (cs : List Cel) (S : Nat → Prop) (k0 : Int) (w : World) (h : Own w base v (.l 103 5 n cs) S) (hs : Has (.l 103 5 n cs) (.l 103 5 tyThread)) (hk0 : 0 ≤ k0) (hk1 : k0 + (cntL cs : Int) ≤ 4611686018427387904) :
   Calls Try.prog 42 #[v, .int .i64 k0] w (Marked tx w base v (.l 103 5 n cs) S k0) := by
 obtain ⟨hl, hn⟩ := h.len
 rcases h.forms with ⟨rfl, rfl, rfl, hS⟩ | ⟨g, cap, rfl, -, hg⟩
 · clear hs
   go_enter Try.func42, Try.ntmps42
   go_wp2
   go_loopw [1, 5] (fun q i wr => q = .int .i64 k0 ∧ i = .int .i64 0 ∧ wr = w) (fun _ i _ => 0)
   case atStart => exact ⟨rfl, rfl, rfl⟩
   case round =>
     obtain ⟨rfl, rfl, rfl⟩ := hrel
     go_wp2
     go_ret
     exact ⟨by simp [Cel.cnt, cntL], .nil _ _ _ hS, Kept.refl _ _⟩
 have HL : Hid (cs.length = n * 5) := hl
 have HG : Hid (S g) := hg
 have HR : Hid (∀ j, j < n → HasL (row cs 5 j) tyThread) := fun j hj => hs.rowL hj
 have HK : Hid (∀ p, k0 + (cntL (cs.take p) : Int) ≤ 4611686018427387904) := fun p => by have := cnt_le (cs := cs) (p := p); show _ ≤ _; omega
 have O0 : Hid (Own w base (.slice (some ⟨g, 0, none⟩) n cap) (.l 103 5 n cs) S) := h
 clear h hl hg hs hk1
 go_enter Try.func42, Try.ntmps42
 go_wp2
 go_loopw [1, 5] (fun q i wr => ∃ j : Nat, j ≤ n ∧ q = .int .i64 (k0 + (cntL (cs.take (j * 5)) : Int)) ∧ i = .int .i64 (j : Int) ∧ Own wr base (.slice (some ⟨g, 0, none⟩) n cap) (.l 103 5 n (markL tx (cs.take (j * 5)) k0 ++ cs.drop (j * 5))) S ∧ Kept S w wr) (fun _ i _ => n - (intOf i).toNat)
 case atStart => exact ⟨0, Nat.zero_le _, by simp [cntL], rfl, by simpa [markL] using O0.out, Kept.refl _ _⟩
 case round =>
   obtain ⟨j, hj, rfl, rfl, ho, hkp⟩ := hrel
   have KP0 : Hid (Kept S w wr) := hkp
   clear hkp
   by_cases hlt : j < n
   · have hj0 : (0 : Int) ≤ (j : Int) := by omega
     have hj1 : (j : Int) < (n : Int) := by omega
     have hle : j * 5 + 5 ≤ n * 5 := by omega
     have hH := HR.out j hlt
     have MR : Hid _ := mark_row tx HL.out hlt k0
     have CS : Hid (cntL (cs.take ((j + 1) * 5)) = cntL (cs.take (j * 5)) + cntL (row cs 5 j)) := cnt_split
     have hkN := HK.out ((j + 1) * 5)
     have hkM := HK.out (j * 5)
     rw [CS.out] at hkN
     have at0 : ∀ i, i < 5 → (markL tx (cs.take (j * 5)) k0 ++ cs.drop (j * 5))[j * 5 + i]? = (row cs 5 j)[i]? := fun i hi => by rw [mark_at tx (by have := HL.out; omega), row_at hi]
     obtain ⟨rs, hrs⟩ : ∃ rs, row cs 5 j = rs := ⟨_, rfl⟩
     have HRS : Hid (row cs 5 j = rs) := hrs
     obtain ⟨P, hP⟩ : ∃ P, markL tx (cs.take (j * 5)) k0 ++ cs.drop (j * 5) = P := ⟨_, rfl⟩
     obtain ⟨q, hq⟩ : ∃ q : Int, k0 + (cntL (cs.take (j * 5)) : Int) = q := ⟨_, rfl⟩
     have HP : Hid (markL tx (cs.take (j * 5)) k0 ++ cs.drop (j * 5) = P) := hP
     have HQ : Hid (k0 + (cntL (cs.take (j * 5)) : Int) = q) := hq
     rw [hrs] at hH at0 hkN
     rw [hP] at ho at0
     rw [hq]
     have hq0 : 0 ≤ q := by omega
     have hq1 : q ≤ 4611686018427387904 := by omega
     have hqN : q + (cntL rs : Int) ≤ 4611686018427387904 := by push_cast at hkN; omega
     clear hP hq hkN hkM hrs
     obtain ⟨c0, c1, c2, c3, c4, rfl, T0, T1, T2, T3, T4⟩ := hH.c5
     obtain ⟨n0, cs0, rfl, -⟩ := T0.list
     have HT0 : Hid (Has (.l 31 3 n0 cs0) (.l 31 3 tyOp)) := T0
     obtain ⟨x1, rfl⟩ := T1.int
     obtain ⟨x2, rfl⟩ := T2.bool
     obtain ⟨n3, cs3, rfl, -⟩ := T3.list
     have HT3 : Hid (Has (.l 138 2 n3 cs3) (.l 138 2 tyPair)) := T3
     obtain ⟨n4, cs4, rfl, -⟩ := T4.list
     have HT4 : Hid (Has (.l 140 4 n4 cs4) (.l 140 4 tyHelp)) := T4
     have a0 : Hid (P[j * 5]? = some (.l 31 3 n0 cs0)) := at0 0 (by omega)
     have a1 : Hid (P[j * 5 + 1]? = some (.i x1)) := at0 1 (by omega)
     have a2 : Hid (P[j * 5 + 2]? = some (.b x2)) := at0 2 (by omega)
     have a3 : Hid (P[j * 5 + 3]? = some (.l 138 2 n3 cs3)) := at0 3 (by omega)
     have a4 : Hid (P[j * 5 + 4]? = some (.l 140 4 n4 cs4)) := at0 4 (by omega)
     simp only [cntL, Cel.cnt, Nat.add_zero] at hqN
     push_cast at hqN
     have HO0 : Hid (Own wr base (.slice (some ⟨g, 0, none⟩) n cap) (.l 103 5 n P) S) := ho
     clear ho at0 hH T0 T1 T2 T3 T4
     obtain ⟨pv0, -, hu0, hf0, -⟩ := HO0.out.cell (j := j * 5) a0.out
     obtain ⟨pv1, -, hu1, hf1, -⟩ := HO0.out.cell (j := j * 5 + 1) a1.out
     obtain ⟨pv2, -, hu2, hf2, -⟩ := HO0.out.cell (j := j * 5 + 2) a2.out
     obtain ⟨pv3, -, hu3, hf3, -⟩ := HO0.out.cell (j := j * 5 + 3) a3.out
     obtain ⟨pv4, -, hu4, hf4, -⟩ := HO0.out.cell (j := j * 5 + 4) a4.out
     obtain ⟨pa0, pd0, rfl⟩ : ∃ a d, pv0 = .slice a n0 d := by
       obtain ⟨pv, _, h1, _, h2, _⟩ := HO0.out.cell (j := j * 5) a0.out
       rw [hu0] at h1; cases h1
       exact h2.at.slice
     obtain ⟨pa3, pd3, rfl⟩ : ∃ a d, pv3 = .slice a n3 d := by
       obtain ⟨pv, _, h1, _, h2, _⟩ := HO0.out.cell (j := j * 5 + 3) a3.out
       rw [hu3] at h1; cases h1
       exact h2.at.slice
     obtain ⟨pa4, pd4, rfl⟩ : ∃ a d, pv4 = .slice a n4 d := by
       obtain ⟨pv, _, h1, _, h2, _⟩ := HO0.out.cell (j := j * 5 + 4) a4.out
       rw [hu4] at h1; cases h1
       exact h2.at.slice
     have OC1 := HO0.out
     have KC1 := KP0.out
     obtain ⟨lv, Sj1, lc, lo, lsub, lens⟩ := OC1.lensL (j := j * 5) a0.out
     have hlv : Value.slice pa0 n0 pd0 = lv := by
       have h1 := lc
       rw [hu0] at h1
       exact Option.some.inj h1
     subst hlv
     have HLO1 : Hid (Own wr base (.slice pa0 n0 pd0) (.l 31 3 n0 cs0) Sj1) := lo
     have LENS1 : Hid _ := lens
     have SUB1 : Hid (∀ x, Sj1 x → S x) := lsub
     have KPC1 : Hid _ := KC1
     have LTS1 : Hid (∀ x, S x → x < (wr).heap.size) := fun x hx => (OC1.lt x hx).2
     clear lo lens lsub lc OC1 KC1
     go_wp2_with fail
     refine (dMarkOpS tx base _ n0 cs0 Sj1 _ _ HLO1.out HT0.out (by omega) (by omega)).mono ?_
     rintro e w1 ⟨rfl, mo, mk⟩
     have HO1 : Hid _ := LENS1.out _ _ mo (fun x hx hn => mk.oth x (LTS1.out x hx) hn)
     have KP1 : Hid (Kept S w w1) := KPC1.out.trans (mk.mono SUB1.out)
     clear mo mk LENS1 SUB1 KPC1 LTS1 HLO1 hu0 hf0 hu1 hf1 hu2 hf2 hu3 hf3 hu4 hf4
     obtain ⟨q1, hq1⟩ : ∃ q' : Int, q + ((Cel.l 31 3 n0 cs0).cnt : Int) = q' := ⟨_, rfl⟩
     rw [hq1]
     have HQ1 : Hid (q + (cntL cs0 : Int) = q1) := hq1
     have hb1 : 0 ≤ q1 ∧ q1 ≤ 4611686018427387904 := by have := HQ1.out; omega
     have hn1 := HQ1.out
     clear hq1
     obtain ⟨pw1, _, hu1, hf1, h51, _⟩ := HO1.out.cell (j := j * 5 + 1) (by rw [List.getElem?_set_ne (by omega)]; exact a1.out)
     obtain ⟨pw2, _, hu2, hf2, h52, _⟩ := HO1.out.cell (j := j * 5 + 2) (by rw [List.getElem?_set_ne (by omega)]; exact a2.out)
     obtain ⟨pw3, _, hu3, hf3, h53, _⟩ := HO1.out.cell (j := j * 5 + 3) (by rw [List.getElem?_set_ne (by omega)]; exact a3.out)
     obtain ⟨pw4, _, hu4, hf4, h54, _⟩ := HO1.out.cell (j := j * 5 + 4) (by rw [List.getElem?_set_ne (by omega)]; exact a4.out)
     clear h51
     clear h52
     obtain ⟨pa3, pd3, rfl⟩ := h53.at.slice
     clear h53
     obtain ⟨pa4, pd4, rfl⟩ := h54.at.slice
     clear h54
     have OC2 := ((HO1.out.putI (j := j * 5 + 1) (by rw [List.getElem?_set_ne (by omega)]; exact a1.out) (q1)).putB (j := j * 5 + 2) (by rw [List.getElem?_set_ne (by omega), List.getElem?_set_ne (by omega)]; exact a2.out) ((q1 + 1) % 3 == 0))
     have KC2 := ((KP1.out.set (i := j * 5 + 1) HG.out (.int .i64 (q1))).set (i := j * 5 + 2) HG.out (.bool ((q1 + 1) % 3 == 0)))
     obtain ⟨lv, Sj2, lc, lo, lsub, lens⟩ := OC2.lensL (j := j * 5 + 3) (by rw [List.getElem?_set_ne (by omega), List.getElem?_set_ne (by omega), List.getElem?_set_ne (by omega)]; exact a3.out)
     have hlv : Value.slice pa3 n3 pd3 = lv := by
       have h1 := lc
       rw [cell_ne _ (by omega), cell_ne _ (by omega), hu3] at h1
       exact Option.some.inj h1
     subst hlv
     have HLO2 : Hid (Own ((w1.setCell ⟨g, j * 5 + 1, none⟩ (.int .i64 (q1))).setCell ⟨g, j * 5 + 2, none⟩ (.bool ((q1 + 1) % 3 == 0))) base (.slice pa3 n3 pd3) (.l 138 2 n3 cs3) Sj2) := lo
     have LENS2 : Hid _ := lens
     have SUB2 : Hid (∀ x, Sj2 x → S x) := lsub
     have KPC2 : Hid _ := KC2
     have LTS2 : Hid (∀ x, S x → x < (((w1.setCell ⟨g, j * 5 + 1, none⟩ (.int .i64 (q1))).setCell ⟨g, j * 5 + 2, none⟩ (.bool ((q1 + 1) % 3 == 0)))).heap.size) := fun x hx => (OC2.lt x hx).2
     clear lo lens lsub lc OC2 KC2
     go_wp2_with fail
     refine (dMarkPairS tx base _ n3 cs3 Sj2 _ _ HLO2.out HT3.out (by omega) (by omega)).mono ?_
     rintro e w2 ⟨rfl, mo, mk⟩
     have HO2 : Hid _ := LENS2.out _ _ mo (fun x hx hn => mk.oth x (LTS2.out x hx) hn)
     have KP2 : Hid (Kept S w w2) := KPC2.out.trans (mk.mono SUB2.out)
     clear mo mk LENS2 SUB2 KPC2 LTS2 HLO2 hu1 hf1 hu2 hf2 hu3 hf3 hu4 hf4
     obtain ⟨q2, hq2⟩ : ∃ q' : Int, q1 + 1 + 1 + ((Cel.l 138 2 n3 cs3).cnt : Int) = q' := ⟨_, rfl⟩
     rw [hq2]
     have HQ2 : Hid (q1 + 1 + 1 + (cntL cs3 : Int) = q2) := hq2
     have hb2 : 0 ≤ q2 ∧ q2 ≤ 4611686018427387904 := by have := HQ2.out; omega
     have hn2 := HQ2.out
     clear hq2
     obtain ⟨pw4, _, hu4, hf4, h54, _⟩ := HO2.out.cell (j := j * 5 + 4) (by rw [List.getElem?_set_ne (by omega), List.getElem?_set_ne (by omega), List.getElem?_set_ne (by omega), List.getElem?_set_ne (by omega)]; exact a4.out)
     obtain ⟨pa4, pd4, rfl⟩ := h54.at.slice
     clear h54
     have OC3 := HO2.out
     have KC3 := KP2.out
     obtain ⟨lv, Sj3, lc, lo, lsub, lens⟩ := OC3.lensL (j := j * 5 + 4) (by rw [List.getElem?_set_ne (by omega), List.getElem?_set_ne (by omega), List.getElem?_set_ne (by omega), List.getElem?_set_ne (by omega)]; exact a4.out)
     have hlv : Value.slice pa4 n4 pd4 = lv := by
       have h1 := lc
       rw [hu4] at h1
       exact Option.some.inj h1
     subst hlv
     have HLO3 : Hid (Own w2 base (.slice pa4 n4 pd4) (.l 140 4 n4 cs4) Sj3) := lo
     have LENS3 : Hid _ := lens
     have SUB3 : Hid (∀ x, Sj3 x → S x) := lsub
     have KPC3 : Hid _ := KC3
     have LTS3 : Hid (∀ x, S x → x < (w2).heap.size) := fun x hx => (OC3.lt x hx).2
     clear lo lens lsub lc OC3 KC3
     go_wp2_with fail
     refine (dMarkHelpS tx base _ n4 cs4 Sj3 _ _ HLO3.out HT4.out (by omega) (by omega)).mono ?_
     rintro e w3 ⟨rfl, mo, mk⟩
     have HO3 : Hid _ := LENS3.out _ _ mo (fun x hx hn => mk.oth x (LTS3.out x hx) hn)
     have KP3 : Hid (Kept S w w3) := KPC3.out.trans (mk.mono SUB3.out)
     clear mo mk LENS3 SUB3 KPC3 LTS3 HLO3 hu4 hf4
     obtain ⟨q3, hq3⟩ : ∃ q' : Int, q2 + ((Cel.l 140 4 n4 cs4).cnt : Int) = q' := ⟨_, rfl⟩
     rw [hq3]
     have HQ3 : Hid (q2 + (cntL cs4 : Int) = q3) := hq3
     have hb3 : 0 ≤ q3 ∧ q3 ≤ 4611686018427387904 := by have := HQ3.out; omega
     have hn3 := HQ3.out
     clear hq3
     have HOE : Hid _ := HO3.out
     have HKE : Hid _ := KP3.out
     go_wp2
     go_roundw
     case rel =>
       have hml : markL tx [.l 31 3 n0 cs0, .i x1, .b x2, .l 138 2 n3 cs3, .l 140 4 n4 cs4] q = [.l 31 3 n0 (markL tx cs0 (q)), .i (q1), .b ((q1 + 1) % 3 == 0), .l 138 2 n3 (markL tx cs3 (q1 + 1 + 1)), .l 140 4 n4 (markL tx cs4 (q2))] := by
         have e1 := HQ1.out
         have e2 := HQ2.out
         have e3 := HQ3.out
         simp only [markL, Cel.mark, Cel.cnt]
         (try rw [← e3])
         (try rw [← e2])
         (try rw [← e1])
         (try push_cast)
         (try rfl)
       refine ⟨j + 1, by omega, ?_, by go_num, ?_, HKE.out⟩
       · have h5 := HQ.out
         rw [CS.out, HRS.out]
         simp only [cntL, Cel.cnt]
         congr 1; push_cast; omega
       · have h6 := MR.out
         rw [HP.out, HQ.out, HRS.out, hml] at h6
         rw [← h6]
         exact HOE.out
     case measure => simp [intOf]; omega
   · obtain rfl : j = n := by omega
     have HE : Hid (cs.take (j * 5) = cs ∧ cs.drop (j * 5) = []) := ⟨List.take_of_length_le (by have := HL.out; omega), List.drop_eq_nil_of_le (by have := HL.out; omega)⟩
     have HOE : Hid _ := ho
     clear ho
     go_wp2
     go_ret
     have h6 := HOE.out
     rw [HE.out.1, HE.out.2, List.append_nil] at h6
     exact ⟨by rw [HE.out.1]; rfl, h6, KP0.out⟩
end
end Go.Proofs.Ytecheopkfhfgkaa
