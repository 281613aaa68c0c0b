/- Texts joined: DatCm, DatVm. -/
import Derived.Test.YtmgofehafjogfabKR02
import Derived.Test.YtmgofehafjogfabKR03
import Derived.Test.YtmgofehafjogfabKR06
import Derived.Deep.RegionHeld3
import Derived.Deep.Cut
import Derived.Handy
import Derived.Test.YtmgofehafjogfabKR01
set_option maxHeartbeats 2000000
set_option maxRecDepth 100000
namespace Go.Proofs.Ytmgofehafjogfab
section
open Go.ChangeShapes Go.WideShapes Go.ChangeAt Go.RowKit Go.Joins
set_option linter.unusedSimpArgs false

theorem dMarkIntS (tx : Int → ByteArray) (base : Nat) (v : Value) (n : Nat) (cs : List Cel) (S : Nat → Prop) (k0 : Int) (w : World) (h : Own w base v (.l 3 1 n cs) S) (hs : Has (.l 3 1 n cs) (.l 3 1 [.i])) (hk0 : 0 ≤ k0) (hk1 : k0 + (cntL cs : Int) ≤ 4611686018427387904) :
    Calls Try.prog 33 #[v, .int .i64 k0] w (Marked tx w base v (.l 3 1 n cs) S k0) := by
  obtain ⟨hl, hn⟩ := h.len
  rcases h.forms with ⟨rfl, rfl, rfl, hS⟩ | ⟨g, cap, rfl, -, hg⟩
  · clear hs
    go_enter Try.func33, Try.ntmps33
    go_wp2
    go_loopw [1, 5] (fun q i wr => q = .int .i64 k0 ∧ i = .int .i64 0 ∧ wr = w) (fun _ i _ => 0)
    case atStart => exact ⟨rfl, rfl, rfl⟩
    case round =>
      obtain ⟨rfl, rfl, rfl⟩ := hrel
      go_wp2
      go_ret
      exact ⟨by simp [Cel.cnt, cntL], .nil _ _ _ hS, Kept.refl _ _⟩
  have HL : Hid (cs.length = n * 1) := hl
  have HG : Hid (S g) := hg
  have HR : Hid (∀ j, j < n → HasL (row cs 1 j) [.i]) := fun j hj => hs.rowL hj
  have HK : Hid (∀ p, k0 + (cntL (cs.take p) : Int) ≤ 4611686018427387904) := fun p => by have := cnt_le (cs := cs) (p := p); show _ ≤ _; omega
  have O0 : Hid (Own w base (.slice (some ⟨g, 0, none⟩) n cap) (.l 3 1 n cs) S) := h
  clear h hl hg hs hk1
  go_enter Try.func33, Try.ntmps33
  go_wp2
  go_loopw [1, 5] (fun q i wr => ∃ j : Nat, j ≤ n ∧ q = .int .i64 (k0 + (cntL (cs.take (j * 1)) : Int)) ∧ i = .int .i64 (j : Int) ∧ Own wr base (.slice (some ⟨g, 0, none⟩) n cap) (.l 3 1 n (markL tx (cs.take (j * 1)) k0 ++ cs.drop (j * 1))) S ∧ Kept S w wr) (fun _ i _ => n - (intOf i).toNat)
  case atStart => exact ⟨0, Nat.zero_le _, by simp [cntL], rfl, by simpa [markL] using O0.out, Kept.refl _ _⟩
  case round =>
    obtain ⟨j, hj, rfl, rfl, ho, hkp⟩ := hrel
    have KP0 : Hid (Kept S w wr) := hkp
    clear hkp
    by_cases hlt : j < n
    · have hj0 : (0 : Int) ≤ (j : Int) := by omega
      have hj1 : (j : Int) < (n : Int) := by omega
      have hle : j * 1 + 1 ≤ n * 1 := by omega
      have hH := HR.out j hlt
      have MR : Hid _ := mark_row tx HL.out hlt k0
      have CS : Hid (cntL (cs.take ((j + 1) * 1)) = cntL (cs.take (j * 1)) + cntL (row cs 1 j)) := cnt_split
      have hkN := HK.out ((j + 1) * 1)
      have hkM := HK.out (j * 1)
      rw [CS.out] at hkN
      have at0 : ∀ i, i < 1 → (markL tx (cs.take (j * 1)) k0 ++ cs.drop (j * 1))[j * 1 + i]? = (row cs 1 j)[i]? := fun i hi => by rw [mark_at tx (by have := HL.out; omega), row_at hi]
      obtain ⟨rs, hrs⟩ : ∃ rs, row cs 1 j = rs := ⟨_, rfl⟩
      have HRS : Hid (row cs 1 j = rs) := hrs
      obtain ⟨P, hP⟩ : ∃ P, markL tx (cs.take (j * 1)) k0 ++ cs.drop (j * 1) = P := ⟨_, rfl⟩
      obtain ⟨q, hq⟩ : ∃ q : Int, k0 + (cntL (cs.take (j * 1)) : Int) = q := ⟨_, rfl⟩
      have HP : Hid (markL tx (cs.take (j * 1)) k0 ++ cs.drop (j * 1) = P) := hP
      have HQ : Hid (k0 + (cntL (cs.take (j * 1)) : Int) = q) := hq
      rw [hrs] at hH at0 hkN
      rw [hP] at ho at0
      rw [hq]
      have hq0 : 0 ≤ q := by omega
      have hq1 : q ≤ 4611686018427387904 := by omega
      have hqN : q + (cntL rs : Int) ≤ 4611686018427387904 := by push_cast at hkN; omega
      clear hP hq hkN hkM hrs
      obtain ⟨c0, r0, rfl, T0, hH0⟩ := hH.cons
      obtain rfl := hH0.nil
      obtain ⟨x0, rfl⟩ := T0.int
      have a0 : Hid (P[j * 1]? = some (.i x0)) := at0 0 (by omega)
      simp only [cntL, Cel.cnt, Nat.add_zero] at hqN
      push_cast at hqN
      have HO0 : Hid (Own wr base (.slice (some ⟨g, 0, none⟩) n cap) (.l 3 1 n P) S) := ho
      clear ho at0 hH hH0 T0
      obtain ⟨pv0, -, hu0, hf0, -⟩ := HO0.out.cell (j := j * 1) a0.out
      have HOE : Hid _ := (HO0.out.putI (j := j * 1) a0.out (q))
      have HKE : Hid _ := (KP0.out.set (i := j * 1) HG.out (.int .i64 (q)))
      simp only [Nat.mul_one] at hu0 hf0
      go_wp2
      go_roundw
      case rel =>
        have hml : markL tx [.i x0] q = [.i (q)] := by
          simp only [markL, Cel.mark, Cel.cnt] 
          (try push_cast)
          (try rfl)
        refine ⟨j + 1, by omega, ?_, by go_num, ?_, by simpa only [Nat.mul_one] using HKE.out⟩
        · have h5 := HQ.out
          rw [CS.out, HRS.out]
          simp only [cntL, Cel.cnt]
          congr 1; push_cast; omega
        · have h6 := MR.out
          rw [HP.out, HQ.out, HRS.out, hml] at h6
          rw [← h6]
          simpa only [Nat.mul_one, over] using HOE.out
      case measure => simp [intOf]; omega
    · obtain rfl : j = n := by omega
      have HE : Hid (cs.take (j * 1) = cs ∧ cs.drop (j * 1) = []) := ⟨List.take_of_length_le (by have := HL.out; omega), List.drop_eq_nil_of_le (by have := HL.out; omega)⟩
      have HOE : Hid _ := ho
      clear ho
      go_wp2
      go_ret
      have h6 := HOE.out
      rw [HE.out.1, HE.out.2, List.append_nil] at h6
      exact ⟨by rw [HE.out.1]; rfl, h6, KP0.out⟩
theorem dMarkColS (tx : Int → ByteArray) (htx : tx = txM) (base : Nat) (v : Value) (n : Nat) (cs : List Cel) (S : Nat → Prop) (k0 : Int) (w : World) (h : Own w base v (.l 65 3 n cs) S) (hs : Has (.l 65 3 n cs) (.l 65 3 tyCol)) (hk0 : 1 ≤ k0) (hk1 : k0 + (cntL cs : Int) ≤ 4611686018427387904) :
    Calls Try.prog 32 #[v, .int .i64 k0] w (Marked tx w base v (.l 65 3 n cs) S k0) := by
  obtain ⟨hl, hn⟩ := h.len
  rcases h.forms with ⟨rfl, rfl, rfl, hS⟩ | ⟨g, cap, rfl, -, hg⟩
  · clear hs htx
    go_enter Try.func32, Try.ntmps32
    go_wp2
    go_loopw [1, 5] (fun q i wr => q = .int .i64 k0 ∧ i = .int .i64 0 ∧ wr = w) (fun _ i _ => 0)
    case atStart => exact ⟨rfl, rfl, rfl⟩
    case round =>
      obtain ⟨rfl, rfl, rfl⟩ := hrel
      go_wp2
      go_ret
      exact ⟨by simp [Cel.cnt, cntL], .nil _ _ _ hS, Kept.refl _ _⟩
  have HTX : Hid (tx = txM) := htx
  have HL : Hid (cs.length = n * 3) := hl
  have HG : Hid (S g) := hg
  have HR : Hid (∀ j, j < n → HasL (row cs 3 j) tyCol) := fun j hj => hs.rowL hj
  have HK : Hid (∀ p, k0 + (cntL (cs.take p) : Int) ≤ 4611686018427387904) := fun p => by have := cnt_le (cs := cs) (p := p); show _ ≤ _; omega
  have O0 : Hid (Own w base (.slice (some ⟨g, 0, none⟩) n cap) (.l 65 3 n cs) S) := h
  clear h hl hg hs hk1 htx
  go_enter Try.func32, Try.ntmps32
  go_wp2
  go_loopw [1, 5] (fun q i wr => ∃ j : Nat, j ≤ n ∧ q = .int .i64 (k0 + (cntL (cs.take (j * 3)) : Int)) ∧ i = .int .i64 (j : Int) ∧ Own wr base (.slice (some ⟨g, 0, none⟩) n cap) (.l 65 3 n (markL tx (cs.take (j * 3)) k0 ++ cs.drop (j * 3))) S ∧ Kept S w wr) (fun _ i _ => n - (intOf i).toNat)
  case atStart => exact ⟨0, Nat.zero_le _, by simp [cntL], rfl, by simpa [markL] using O0.out, Kept.refl _ _⟩
  case round =>
    obtain ⟨j, hj, rfl, rfl, ho, hkp⟩ := hrel
    have KP0 : Hid (Kept S w wr) := hkp
    clear hkp
    by_cases hlt : j < n
    · have hj0 : (0 : Int) ≤ (j : Int) := by omega
      have hj1 : (j : Int) < (n : Int) := by omega
      have hle : j * 3 + 3 ≤ n * 3 := by omega
      have hH := HR.out j hlt
      have MR : Hid _ := mark_row tx HL.out hlt k0
      have CS : Hid (cntL (cs.take ((j + 1) * 3)) = cntL (cs.take (j * 3)) + cntL (row cs 3 j)) := cnt_split
      have hkN := HK.out ((j + 1) * 3)
      have hkM := HK.out (j * 3)
      rw [CS.out] at hkN
      have at0 : ∀ i, i < 3 → (markL tx (cs.take (j * 3)) k0 ++ cs.drop (j * 3))[j * 3 + i]? = (row cs 3 j)[i]? := fun i hi => by rw [mark_at tx (by have := HL.out; omega), row_at hi]
      obtain ⟨rs, hrs⟩ : ∃ rs, row cs 3 j = rs := ⟨_, rfl⟩
      have HRS : Hid (row cs 3 j = rs) := hrs
      obtain ⟨P, hP⟩ : ∃ P, markL tx (cs.take (j * 3)) k0 ++ cs.drop (j * 3) = P := ⟨_, rfl⟩
      obtain ⟨q, hq⟩ : ∃ q : Int, k0 + (cntL (cs.take (j * 3)) : Int) = q := ⟨_, rfl⟩
      have HP : Hid (markL tx (cs.take (j * 3)) k0 ++ cs.drop (j * 3) = P) := hP
      have HQ : Hid (k0 + (cntL (cs.take (j * 3)) : Int) = q) := hq
      rw [hrs] at hH at0 hkN
      rw [hP] at ho at0
      rw [hq]
      have hq0 : 1 ≤ q := by omega
      have hq1 : q ≤ 4611686018427387904 := by omega
      have hqN : q + (cntL rs : Int) ≤ 4611686018427387904 := by push_cast at hkN; omega
      clear hP hq hkN hkM hrs
      obtain ⟨c0, r0, rfl, T0, hH0⟩ := hH.cons
      obtain ⟨c1, r1, rfl, T1, hH1⟩ := hH0.cons
      obtain ⟨c2, r2, rfl, T2, hH2⟩ := hH1.cons
      obtain rfl := hH2.nil
      obtain ⟨x0, rfl⟩ := T0.str
      obtain ⟨x1, rfl⟩ := T1.int
      obtain ⟨x2, rfl⟩ := T2.bool
      have a0 : Hid (P[j * 3]? = some (.s x0)) := at0 0 (by omega)
      have a1 : Hid (P[j * 3 + 1]? = some (.i x1)) := at0 1 (by omega)
      have a2 : Hid (P[j * 3 + 2]? = some (.b x2)) := at0 2 (by omega)
      simp only [cntL, Cel.cnt, Nat.add_zero] at hqN
      push_cast at hqN
      have HO0 : Hid (Own wr base (.slice (some ⟨g, 0, none⟩) n cap) (.l 65 3 n P) S) := ho
      clear ho at0 hH hH0 T0 hH1 T1 hH2 T2
      obtain ⟨pv0, -, hu0, hf0, -⟩ := HO0.out.cell (j := j * 3) a0.out
      obtain ⟨pv1, -, hu1, hf1, -⟩ := HO0.out.cell (j := j * 3 + 1) a1.out
      obtain ⟨pv2, -, hu2, hf2, -⟩ := HO0.out.cell (j := j * 3 + 2) a2.out
      have OC1 := HO0.out
      have KC1 := KP0.out
      obtain ⟨N1, hN1⟩ : ∃ N : Nat, q = (N : Int) := ⟨(q).toNat, by omega⟩
      have HTN1 : Hid ((⟨(markS N1).toArray⟩ : ByteArray) = tx (q)) := by show _ = _; rw [HTX.out, hN1]; rfl
      have HN1 : Hid (q = (N1 : Int)) := hN1
      have hp1 : 0 < N1 := by omega
      have hs1 : N1 ≤ 9223372036854775807 := by omega
      have HLO1 : Hid (Own wr base (.slice (some ⟨g, 0, none⟩) n cap) _ S) := OC1
      have KPC1 : Hid (Kept S w wr) := KC1
      clear OC1 KC1 hN1
      go_wp2_with
        (go_at_call 35
         rw [HN1.out]
         refine (markText_any N1 hp1 hs1 _).mono ?_
         rintro e w1 ⟨rfl, hb⟩
         rw [HTN1.out, ← HN1.out]
         have HO1 : Hid (Own w1 base (.slice (some ⟨g, 0, none⟩) n cap) _ S) := HLO1.out.on hb (Nat.le_refl _)
         have KP1 : Hid (Kept S w w1) := KPC1.out.grow hb
         clear hb HLO1 KPC1 hp1 hs1 hu0 hf0 hu1 hf1 hu2 hf2
         obtain ⟨pw0, _, hu0, hf0, -, _⟩ := HO1.out.cell (j := j * 3) a0.out
         obtain ⟨pw1, _, hu1, hf1, -, _⟩ := HO1.out.cell (j := j * 3 + 1) a1.out
         obtain ⟨pw2, _, hu2, hf2, -, _⟩ := HO1.out.cell (j := j * 3 + 2) a2.out)
      have HOE : Hid _ := (((HO1.out.putS (j := j * 3) a0.out (tx (q))).putI (j := j * 3 + 1) (by rw [List.getElem?_set_ne (by omega)]; exact a1.out) (q + 1)).putB (j := j * 3 + 2) (by rw [List.getElem?_set_ne (by omega), List.getElem?_set_ne (by omega)]; exact a2.out) ((q + 1 + 1) % 3 == 0))
      have HKE : Hid _ := (((KP1.out.set (i := j * 3) HG.out (.string (tx (q)))).set (i := j * 3 + 1) HG.out (.int .i64 (q + 1))).set (i := j * 3 + 2) HG.out (.bool ((q + 1 + 1) % 3 == 0)))
      go_wp2
      go_roundw
      case rel =>
        have hml : markL tx [.s x0, .i x1, .b x2] q = [.s (tx (q)), .i (q + 1), .b ((q + 1 + 1) % 3 == 0)] := by
          simp only [markL, Cel.mark, Cel.cnt] 
          (try push_cast)
          (try rfl)
        refine ⟨j + 1, by omega, ?_, by go_num, ?_, HKE.out⟩
        · have h5 := HQ.out
          rw [CS.out, HRS.out]
          simp only [cntL, Cel.cnt]
          congr 1; push_cast; omega
        · have h6 := MR.out
          rw [HP.out, HQ.out, HRS.out, hml] at h6
          rw [← h6]
          exact HOE.out
      case measure => simp [intOf]; omega
    · obtain rfl : j = n := by omega
      have HE : Hid (cs.take (j * 3) = cs ∧ cs.drop (j * 3) = []) := ⟨List.take_of_length_le (by have := HL.out; omega), List.drop_eq_nil_of_le (by have := HL.out; omega)⟩
      have HOE : Hid _ := ho
      clear ho
      go_wp2
      go_ret
      have h6 := HOE.out
      rw [HE.out.1, HE.out.2, List.append_nil] at h6
      exact ⟨by rw [HE.out.1]; rfl, h6, KP0.out⟩
theorem dMarkIndexS (tx : Int → ByteArray) (htx : tx = txM) (base : Nat) (v : Value) (n : Nat) (cs : List Cel) (S : Nat → Prop) (k0 : Int) (w : World) (h : Own w base v (.l 75 3 n cs) S) (hs : Has (.l 75 3 n cs) (.l 75 3 tyIndex)) (hk0 : 1 ≤ k0) (hk1 : k0 + (cntL cs : Int) ≤ 4611686018427387904) :
    Calls Try.prog 34 #[v, .int .i64 k0] w (Marked tx w base v (.l 75 3 n cs) S k0) := by
  obtain ⟨hl, hn⟩ := h.len
  rcases h.forms with ⟨rfl, rfl, rfl, hS⟩ | ⟨g, cap, rfl, -, hg⟩
  · clear hs htx
    go_enter Try.func34, Try.ntmps34
    go_wp2
    go_loopw [1, 5] (fun q i wr => q = .int .i64 k0 ∧ i = .int .i64 0 ∧ wr = w) (fun _ i _ => 0)
    case atStart => exact ⟨rfl, rfl, rfl⟩
    case round =>
      obtain ⟨rfl, rfl, rfl⟩ := hrel
      go_wp2
      go_ret
      exact ⟨by simp [Cel.cnt, cntL], .nil _ _ _ hS, Kept.refl _ _⟩
  have HTX : Hid (tx = txM) := htx
  have HL : Hid (cs.length = n * 3) := hl
  have HG : Hid (S g) := hg
  have HR : Hid (∀ j, j < n → HasL (row cs 3 j) tyIndex) := fun j hj => hs.rowL hj
  have HK : Hid (∀ p, k0 + (cntL (cs.take p) : Int) ≤ 4611686018427387904) := fun p => by have := cnt_le (cs := cs) (p := p); show _ ≤ _; omega
  have O0 : Hid (Own w base (.slice (some ⟨g, 0, none⟩) n cap) (.l 75 3 n cs) S) := h
  clear h hl hg hs hk1 htx
  go_enter Try.func34, Try.ntmps34
  go_wp2
  go_loopw [1, 5] (fun q i wr => ∃ j : Nat, j ≤ n ∧ q = .int .i64 (k0 + (cntL (cs.take (j * 3)) : Int)) ∧ i = .int .i64 (j : Int) ∧ Own wr base (.slice (some ⟨g, 0, none⟩) n cap) (.l 75 3 n (markL tx (cs.take (j * 3)) k0 ++ cs.drop (j * 3))) S ∧ Kept S w wr) (fun _ i _ => n - (intOf i).toNat)
  case atStart => exact ⟨0, Nat.zero_le _, by simp [cntL], rfl, by simpa [markL] using O0.out, Kept.refl _ _⟩
  case round =>
    obtain ⟨j, hj, rfl, rfl, ho, hkp⟩ := hrel
    have KP0 : Hid (Kept S w wr) := hkp
    clear hkp
    by_cases hlt : j < n
    · have hj0 : (0 : Int) ≤ (j : Int) := by omega
      have hj1 : (j : Int) < (n : Int) := by omega
      have hle : j * 3 + 3 ≤ n * 3 := by omega
      have hH := HR.out j hlt
      have MR : Hid _ := mark_row tx HL.out hlt k0
      have CS : Hid (cntL (cs.take ((j + 1) * 3)) = cntL (cs.take (j * 3)) + cntL (row cs 3 j)) := cnt_split
      have hkN := HK.out ((j + 1) * 3)
      have hkM := HK.out (j * 3)
      rw [CS.out] at hkN
      have at0 : ∀ i, i < 3 → (markL tx (cs.take (j * 3)) k0 ++ cs.drop (j * 3))[j * 3 + i]? = (row cs 3 j)[i]? := fun i hi => by rw [mark_at tx (by have := HL.out; omega), row_at hi]
      obtain ⟨rs, hrs⟩ : ∃ rs, row cs 3 j = rs := ⟨_, rfl⟩
      have HRS : Hid (row cs 3 j = rs) := hrs
      obtain ⟨P, hP⟩ : ∃ P, markL tx (cs.take (j * 3)) k0 ++ cs.drop (j * 3) = P := ⟨_, rfl⟩
      obtain ⟨q, hq⟩ : ∃ q : Int, k0 + (cntL (cs.take (j * 3)) : Int) = q := ⟨_, rfl⟩
      have HP : Hid (markL tx (cs.take (j * 3)) k0 ++ cs.drop (j * 3) = P) := hP
      have HQ : Hid (k0 + (cntL (cs.take (j * 3)) : Int) = q) := hq
      rw [hrs] at hH at0 hkN
      rw [hP] at ho at0
      rw [hq]
      have hq0 : 1 ≤ q := by omega
      have hq1 : q ≤ 4611686018427387904 := by omega
      have hqN : q + (cntL rs : Int) ≤ 4611686018427387904 := by push_cast at hkN; omega
      clear hP hq hkN hkM hrs
      obtain ⟨c0, r0, rfl, T0, hH0⟩ := hH.cons
      obtain ⟨c1, r1, rfl, T1, hH1⟩ := hH0.cons
      obtain ⟨c2, r2, rfl, T2, hH2⟩ := hH1.cons
      obtain rfl := hH2.nil
      obtain ⟨x0, rfl⟩ := T0.str
      obtain ⟨n1, cs1, rfl, -⟩ := T1.list
      have HT1 : Hid (Has (.l 3 1 n1 cs1) (.l 3 1 [.i])) := T1
      obtain ⟨x2, rfl⟩ := T2.bool
      have a0 : Hid (P[j * 3]? = some (.s x0)) := at0 0 (by omega)
      have a1 : Hid (P[j * 3 + 1]? = some (.l 3 1 n1 cs1)) := at0 1 (by omega)
      have a2 : Hid (P[j * 3 + 2]? = some (.b x2)) := at0 2 (by omega)
      simp only [cntL, Cel.cnt, Nat.add_zero] at hqN
      push_cast at hqN
      have HO0 : Hid (Own wr base (.slice (some ⟨g, 0, none⟩) n cap) (.l 75 3 n P) S) := ho
      clear ho at0 hH hH0 T0 hH1 T1 hH2 T2
      obtain ⟨pv0, -, hu0, hf0, -⟩ := HO0.out.cell (j := j * 3) a0.out
      obtain ⟨pv1, -, hu1, hf1, -⟩ := HO0.out.cell (j := j * 3 + 1) a1.out
      obtain ⟨pv2, -, hu2, hf2, -⟩ := HO0.out.cell (j := j * 3 + 2) a2.out
      obtain ⟨pa1, pd1, rfl⟩ : ∃ a d, pv1 = .slice a n1 d := by
        obtain ⟨pv, _, h1, _, h2, _⟩ := HO0.out.cell (j := j * 3 + 1) a1.out
        rw [hu1] at h1; cases h1
        exact h2.at.slice
      have OC1 := HO0.out
      have KC1 := KP0.out
      obtain ⟨N1, hN1⟩ : ∃ N : Nat, q = (N : Int) := ⟨(q).toNat, by omega⟩
      have HTN1 : Hid ((⟨(markS N1).toArray⟩ : ByteArray) = tx (q)) := by show _ = _; rw [HTX.out, hN1]; rfl
      have HN1 : Hid (q = (N1 : Int)) := hN1
      have hp1 : 0 < N1 := by omega
      have hs1 : N1 ≤ 9223372036854775807 := by omega
      have HLO1 : Hid (Own wr base (.slice (some ⟨g, 0, none⟩) n cap) _ S) := OC1
      have KPC1 : Hid (Kept S w wr) := KC1
      clear OC1 KC1 hN1
      go_wp2_with
        (go_at_call 35
         rw [HN1.out]
         refine (markText_any N1 hp1 hs1 _).mono ?_
         rintro e w1 ⟨rfl, hb⟩
         rw [HTN1.out, ← HN1.out]
         have HO1 : Hid (Own w1 base (.slice (some ⟨g, 0, none⟩) n cap) _ S) := HLO1.out.on hb (Nat.le_refl _)
         have KP1 : Hid (Kept S w w1) := KPC1.out.grow hb
         clear hb HLO1 KPC1 hp1 hs1 hu0 hf0 hu1 hf1 hu2 hf2
         obtain ⟨pw0, _, hu0, hf0, -, _⟩ := HO1.out.cell (j := j * 3) a0.out
         obtain ⟨pw1, _, hu1, hf1, -, _⟩ := HO1.out.cell (j := j * 3 + 1) a1.out
         obtain ⟨pw2, _, hu2, hf2, -, _⟩ := HO1.out.cell (j := j * 3 + 2) a2.out)
      obtain ⟨pa1, pd1, rfl⟩ : ∃ a d, pw1 = .slice a n1 d := by
        obtain ⟨pv, _, h1, _, h2, _⟩ := HO1.out.cell (j := j * 3 + 1) a1.out
        rw [hu1] at h1; cases h1
        exact h2.at.slice
      have OC2 := (HO1.out.putS (j := j * 3) a0.out (tx (q)))
      have KC2 := (KP1.out.set (i := j * 3) HG.out (.string (tx (q))))
      obtain ⟨lv, Sj2, lc, lo, lsub, lens⟩ := OC2.lensL (j := j * 3 + 1) (by rw [List.getElem?_set_ne (by omega)]; exact a1.out)
      have hlv : Value.slice pa1 n1 pd1 = lv := by
        have h1 := lc
        rw [cell_ne _ (by omega), hu1] at h1
        exact Option.some.inj h1
      subst hlv
      have HLO2 : Hid (Own (w1.setCell ⟨g, j * 3, none⟩ (.string (tx (q)))) base (.slice pa1 n1 pd1) (.l 3 1 n1 cs1) Sj2) := lo
      have LENS2 : Hid _ := lens
      have SUB2 : Hid (∀ x, Sj2 x → S x) := lsub
      have KPC2 : Hid _ := KC2
      have LTS2 : Hid (∀ x, S x → x < ((w1.setCell ⟨g, j * 3, none⟩ (.string (tx (q))))).heap.size) := fun x hx => (OC2.lt x hx).2
      clear lo lens lsub lc OC2 KC2
      go_wp2_with fail
      refine (dMarkIntS tx base _ n1 cs1 Sj2 _ _ HLO2.out HT1.out (by omega) (by omega)).mono ?_
      rintro e w2 ⟨rfl, mo, mk⟩
      have HO2 : Hid _ := LENS2.out _ _ mo (fun x hx hn => mk.oth x (LTS2.out x hx) hn)
      have KP2 : Hid (Kept S w w2) := KPC2.out.trans (mk.mono SUB2.out)
      clear mo mk LENS2 SUB2 KPC2 LTS2 HLO2 hu0 hf0 hu1 hf1 hu2 hf2
      obtain ⟨q2, hq2⟩ : ∃ q' : Int, q + 1 + ((Cel.l 3 1 n1 cs1).cnt : Int) = q' := ⟨_, rfl⟩
      rw [hq2]
      have HQ2 : Hid (q + 1 + (cntL cs1 : Int) = q2) := hq2
      have hb2 : 0 ≤ q2 ∧ q2 ≤ 4611686018427387904 := by have := HQ2.out; omega
      have hn2 := HQ2.out
      clear hq2
      obtain ⟨pw2, _, hu2, hf2, h52, _⟩ := HO2.out.cell (j := j * 3 + 2) (by rw [List.getElem?_set_ne (by omega), List.getElem?_set_ne (by omega)]; exact a2.out)
      clear h52
      have HOE : Hid _ := (HO2.out.putB (j := j * 3 + 2) (by rw [List.getElem?_set_ne (by omega), List.getElem?_set_ne (by omega)]; exact a2.out) ((q2) % 3 == 0))
      have HKE : Hid _ := (KP2.out.set (i := j * 3 + 2) HG.out (.bool ((q2) % 3 == 0)))
      go_wp2
      go_roundw
      case rel =>
        have hml : markL tx [.s x0, .l 3 1 n1 cs1, .b x2] q = [.s (tx (q)), .l 3 1 n1 (markL tx cs1 (q + 1)), .b ((q2) % 3 == 0)] := by
          have e2 := HQ2.out
          simp only [markL, Cel.mark, Cel.cnt] 
          (try rw [← e2])
          (try push_cast)
          (try rfl)
        refine ⟨j + 1, by omega, ?_, by go_num, ?_, HKE.out⟩
        · have h5 := HQ.out
          rw [CS.out, HRS.out]
          simp only [cntL, Cel.cnt]
          congr 1; push_cast; omega
        · have h6 := MR.out
          rw [HP.out, HQ.out, HRS.out, hml] at h6
          rw [← h6]
          exact HOE.out
      case measure => simp [intOf]; omega
    · obtain rfl : j = n := by omega
      have HE : Hid (cs.take (j * 3) = cs ∧ cs.drop (j * 3) = []) := ⟨List.take_of_length_le (by have := HL.out; omega), List.drop_eq_nil_of_le (by have := HL.out; omega)⟩
      have HOE : Hid _ := ho
      clear ho
      go_wp2
      go_ret
      have h6 := HOE.out
      rw [HE.out.1, HE.out.2, List.append_nil] at h6
      exact ⟨by rw [HE.out.1]; rfl, h6, KP0.out⟩
theorem dMarkSchema (tx : Int → ByteArray) (htx : tx = txM) (base : Nat) (vs : List Value) (cs : List Cel) (S : Nat → Prop) (k0 : Int) (w : World) (h : OwnL w base vs cs S) (hs : HasL cs tySchema) (hk0 : 1 ≤ k0) (hk1 : k0 + (tcnt cs : Int) ≤ 4611686018427387904) :
    Calls Try.prog 13 #[.agg vs.toArray, .int .i64 k0] w (MarkedL tx w base vs cs S k0) := by
  have HTX : Hid (tx = txM) := htx
  clear htx
  obtain ⟨c0, r0, rfl, T0, hH0⟩ := hs.cons
  obtain ⟨c1, r1, rfl, T1, hH1⟩ := hH0.cons
  obtain ⟨c2, r2, rfl, T2, hH2⟩ := hH1.cons
  obtain rfl := hH2.nil
  have hA := h.at
  obtain ⟨v0, vr0, rfl, A0, hA0⟩ := hA.consE
  obtain ⟨v1, vr1, rfl, A1, hA1⟩ := hA0.consE
  obtain ⟨v2, vr2, rfl, A2, hA2⟩ := hA1.consE
  obtain rfl := hA2.nilE
  obtain ⟨n0, cs0, rfl, -⟩ := T0.list
  have HT0 : Hid (Has (.l 65 3 n0 cs0) (.l 65 3 tyCol)) := T0
  obtain ⟨n1, cs1, rfl, -⟩ := T1.list
  have HT1 : Hid (Has (.l 3 1 n1 cs1) (.l 3 1 [.i])) := T1
  obtain ⟨n2, cs2, rfl, -⟩ := T2.list
  have HT2 : Hid (Has (.l 75 3 n2 cs2) (.l 75 3 tyIndex)) := T2
  simp only [tcnt] at hk1
  push_cast at hk1
  obtain ⟨R, eR, oR, dR, uR⟩ := owns_cut (G := [([v0], [.l 65 3 n0 cs0]), ([v1], [.l 3 1 n1 cs1]), ([v2], [.l 75 3 n2 cs2])]) (S := S) (by simp) h
  obtain ⟨⟨a0, b0, S0⟩, R0, rfl, e0, eR0⟩ := List.map_eq_cons_iff.1 eR
  cases e0
  obtain ⟨⟨a1, b1, S1⟩, R1, rfl, e1, eR1⟩ := List.map_eq_cons_iff.1 eR0
  cases e1
  obtain ⟨⟨a2, b2, S2⟩, R2, rfl, e2, eR2⟩ := List.map_eq_cons_iff.1 eR1
  cases e2
  obtain rfl := List.map_eq_nil_iff.1 eR2
  obtain ⟨W, hW⟩ : ∃ W, w.alloc (.cells #[v0, v1, v2] 35) = W := ⟨_, rfl⟩
  have t0 : Hid (Mg w W base S #[v0, v1, v2] 35 [([v0], [.l 65 3 n0 cs0], S0), ([v1], [.l 3 1 n1 cs1], S1), ([v2], [.l 75 3 n2 cs2], S2)]) := by rw [← hW]; exact mg_new _ _ oR dR uR
  have HW : Hid _ := hW
  clear hW oR dR uR h hs hA hA0 hH0 T0 A0 hA1 hH1 T1 A1 hA2 hH2 T2 A2
  go_enter Try.func13, Try.ntmps13
  go_upto_region 1 with (fail)
  rw [HW.out]
  have ax0 : W.cell? ⟨w.heap.size, 0, none⟩ = some (v0) := t0.out.a.cell 0
  have ax1 : W.cell? ⟨w.heap.size, 1, none⟩ = some (v1) := t0.out.a.cell 1
  have ax2 : W.cell? ⟨w.heap.size, 2, none⟩ = some (v2) := t0.out.a.cell 2
  go_wp2_with fail
  refine (dMarkColS tx HTX.out base v0 n0 cs0 S0 _ _ (Mg.at (pre := []) (post := [([v1], [.l 3 1 n1 cs1], S1), ([v2], [.l 75 3 n2 cs2], S2)]) t0.out).one HT0.out (by omega) (by omega)).mono ?_
  rintro e w1 ⟨rfl, mo, mk⟩
  have t1 : Hid (Mg w w1 base S #[v0, v1, v2] 35 [([v0], [.l 65 3 n0 (markL tx cs0 (k0))], S0), ([v1], [.l 3 1 n1 cs1], S1), ([v2], [.l 75 3 n2 cs2], S2)]) := Mg.step (pre := []) (post := [([v1], [.l 3 1 n1 cs1], S1), ([v2], [.l 75 3 n2 cs2], S2)]) t0.out mo.oneL mk
  obtain ⟨q1, hq1⟩ : ∃ q' : Int, k0 + ((Cel.l 65 3 n0 cs0).cnt : Int) = q' := ⟨_, rfl⟩
  rw [hq1]
  have HQ1 : Hid (k0 + ((Cel.l 65 3 n0 cs0).cnt : Int) = q1) := hq1
  simp only [Cel.cnt, tcnt] at hq1
  (try push_cast at hq1)
  clear mo mk ax0 ax1 ax2
  have ax0 : w1.cell? ⟨w.heap.size, 0, none⟩ = some (v0) := t1.out.a.cell 0
  have ax1 : w1.cell? ⟨w.heap.size, 1, none⟩ = some (v1) := t1.out.a.cell 1
  have ax2 : w1.cell? ⟨w.heap.size, 2, none⟩ = some (v2) := t1.out.a.cell 2
  go_wp2_with fail
  refine (dMarkIntS tx base v1 n1 cs1 S1 _ _ (Mg.at (pre := [([v0], [.l 65 3 n0 (markL tx cs0 (k0))], S0)]) (post := [([v2], [.l 75 3 n2 cs2], S2)]) t1.out).one HT1.out (by omega) (by omega)).mono ?_
  rintro e w2 ⟨rfl, mo, mk⟩
  have t2 : Hid (Mg w w2 base S #[v0, v1, v2] 35 [([v0], [.l 65 3 n0 (markL tx cs0 (k0))], S0), ([v1], [.l 3 1 n1 (markL tx cs1 (q1))], S1), ([v2], [.l 75 3 n2 cs2], S2)]) := Mg.step (pre := [([v0], [.l 65 3 n0 (markL tx cs0 (k0))], S0)]) (post := [([v2], [.l 75 3 n2 cs2], S2)]) t1.out mo.oneL mk
  obtain ⟨q2, hq2⟩ : ∃ q' : Int, q1 + ((Cel.l 3 1 n1 cs1).cnt : Int) = q' := ⟨_, rfl⟩
  rw [hq2]
  have HQ2 : Hid (q1 + ((Cel.l 3 1 n1 cs1).cnt : Int) = q2) := hq2
  simp only [Cel.cnt, tcnt] at hq2
  (try push_cast at hq2)
  clear mo mk ax0 ax1 ax2
  have ax0 : w2.cell? ⟨w.heap.size, 0, none⟩ = some (v0) := t2.out.a.cell 0
  have ax1 : w2.cell? ⟨w.heap.size, 1, none⟩ = some (v1) := t2.out.a.cell 1
  have ax2 : w2.cell? ⟨w.heap.size, 2, none⟩ = some (v2) := t2.out.a.cell 2
  go_wp2_with fail
  refine (dMarkIndexS tx HTX.out base v2 n2 cs2 S2 _ _ (Mg.at (pre := [([v0], [.l 65 3 n0 (markL tx cs0 (k0))], S0), ([v1], [.l 3 1 n1 (markL tx cs1 (q1))], S1)]) (post := []) t2.out).one HT2.out (by omega) (by omega)).mono ?_
  rintro e w3 ⟨rfl, mo, mk⟩
  have t3 : Hid (Mg w w3 base S #[v0, v1, v2] 35 [([v0], [.l 65 3 n0 (markL tx cs0 (k0))], S0), ([v1], [.l 3 1 n1 (markL tx cs1 (q1))], S1), ([v2], [.l 75 3 n2 (markL tx cs2 (q2))], S2)]) := Mg.step (pre := [([v0], [.l 65 3 n0 (markL tx cs0 (k0))], S0), ([v1], [.l 3 1 n1 (markL tx cs1 (q1))], S1)]) (post := []) t2.out mo.oneL mk
  obtain ⟨q3, hq3⟩ : ∃ q' : Int, q2 + ((Cel.l 75 3 n2 cs2).cnt : Int) = q' := ⟨_, rfl⟩
  rw [hq3]
  have HQ3 : Hid (q2 + ((Cel.l 75 3 n2 cs2).cnt : Int) = q3) := hq3
  simp only [Cel.cnt, tcnt] at hq3
  (try push_cast at hq3)
  clear mo mk ax0 ax1 ax2
  have ax0 : w3.cell? ⟨w.heap.size, 0, none⟩ = some (v0) := t3.out.a.cell 0
  have ax1 : w3.cell? ⟨w.heap.size, 1, none⟩ = some (v1) := t3.out.a.cell 1
  have ax2 : w3.cell? ⟨w.heap.size, 2, none⟩ = some (v2) := t3.out.a.cell 2
  go_wp2
  go_ret
  have ta := t3.out.all
  have et : k0 + (tcnt [.l 65 3 n0 cs0, .l 3 1 n1 cs1, .l 75 3 n2 cs2] : Int) = q3 := by simp only [tcnt]; push_cast; omega
  refine ⟨?_, ?_, ta.2⟩
  · rw [et]; try rfl
  · have e : topL tx [.l 65 3 n0 cs0, .l 3 1 n1 cs1, .l 75 3 n2 cs2] k0 = [([v0], [.l 65 3 n0 (markL tx cs0 (k0))], S0), ([v1], [.l 3 1 n1 (markL tx cs1 (q1))], S1), ([v2], [.l 75 3 n2 (markL tx cs2 (q2))], S2)].flatMap (fun (r : Part) => r.2.1) := by
      have g1 := HQ1.out
      have g2 := HQ2.out
      have g3 := HQ3.out
      simp only [Cel.cnt, tcnt] at g1 g2 g3
      (try rw [← g3])
      (try rw [← g2])
      (try rw [← g1])
      simp only [topL, List.flatMap_cons, List.flatMap_nil, List.append_nil, List.cons_append, List.nil_append]
      (try push_cast)
      (try simp only [Int.add_zero, Int.add_assoc])
    rw [e]
    exact ta.1
set_option linter.unusedSimpArgs false

theorem dMarkValueS (tx : Int → ByteArray) (htx : tx = txM) (base : Nat) (v : Value) (n : Nat) (cs : List Cel) (S : Nat → Prop) (k0 : Int) (w : World) (h : Own w base v (.l 55 3 n cs) S) (hs : Has (.l 55 3 n cs) (.l 55 3 tyValue)) (hk0 : 1 ≤ k0) (hk1 : k0 + (cntL cs : Int) ≤ 4611686018427387904) :
    Calls Try.prog 14 #[v, .int .i64 k0] w (Marked tx w base v (.l 55 3 n cs) S k0) := by
  obtain ⟨hl, hn⟩ := h.len
  rcases h.forms with ⟨rfl, rfl, rfl, hS⟩ | ⟨g, cap, rfl, -, hg⟩
  · clear hs htx
    go_enter Try.func14, Try.ntmps14
    go_wp2
    go_loopw [1, 5] (fun q i wr => q = .int .i64 k0 ∧ i = .int .i64 0 ∧ wr = w) (fun _ i _ => 0)
    case atStart => exact ⟨rfl, rfl, rfl⟩
    case round =>
      obtain ⟨rfl, rfl, rfl⟩ := hrel
      go_wp2
      go_ret
      exact ⟨by simp [Cel.cnt, cntL], .nil _ _ _ hS, Kept.refl _ _⟩
  have HTX : Hid (tx = txM) := htx
  have HL : Hid (cs.length = n * 3) := hl
  have HG : Hid (S g) := hg
  have HR : Hid (∀ j, j < n → HasL (row cs 3 j) tyValue) := fun j hj => hs.rowL hj
  have HK : Hid (∀ p, k0 + (cntL (cs.take p) : Int) ≤ 4611686018427387904) := fun p => by have := cnt_le (cs := cs) (p := p); show _ ≤ _; omega
  have O0 : Hid (Own w base (.slice (some ⟨g, 0, none⟩) n cap) (.l 55 3 n cs) S) := h
  clear h hl hg hs hk1 htx
  go_enter Try.func14, Try.ntmps14
  go_wp2
  go_loopw [1, 5] (fun q i wr => ∃ j : Nat, j ≤ n ∧ q = .int .i64 (k0 + (cntL (cs.take (j * 3)) : Int)) ∧ i = .int .i64 (j : Int) ∧ Own wr base (.slice (some ⟨g, 0, none⟩) n cap) (.l 55 3 n (markL tx (cs.take (j * 3)) k0 ++ cs.drop (j * 3))) S ∧ Kept S w wr) (fun _ i _ => n - (intOf i).toNat)
  case atStart => exact ⟨0, Nat.zero_le _, by simp [cntL], rfl, by simpa [markL] using O0.out, Kept.refl _ _⟩
  case round =>
    obtain ⟨j, hj, rfl, rfl, ho, hkp⟩ := hrel
    have KP0 : Hid (Kept S w wr) := hkp
    clear hkp
    by_cases hlt : j < n
    · have hj0 : (0 : Int) ≤ (j : Int) := by omega
      have hj1 : (j : Int) < (n : Int) := by omega
      have hle : j * 3 + 3 ≤ n * 3 := by omega
      have hH := HR.out j hlt
      have MR : Hid _ := mark_row tx HL.out hlt k0
      have CS : Hid (cntL (cs.take ((j + 1) * 3)) = cntL (cs.take (j * 3)) + cntL (row cs 3 j)) := cnt_split
      have hkN := HK.out ((j + 1) * 3)
      have hkM := HK.out (j * 3)
      rw [CS.out] at hkN
      have at0 : ∀ i, i < 3 → (markL tx (cs.take (j * 3)) k0 ++ cs.drop (j * 3))[j * 3 + i]? = (row cs 3 j)[i]? := fun i hi => by rw [mark_at tx (by have := HL.out; omega), row_at hi]
      obtain ⟨rs, hrs⟩ : ∃ rs, row cs 3 j = rs := ⟨_, rfl⟩
      have HRS : Hid (row cs 3 j = rs) := hrs
      obtain ⟨P, hP⟩ : ∃ P, markL tx (cs.take (j * 3)) k0 ++ cs.drop (j * 3) = P := ⟨_, rfl⟩
      obtain ⟨q, hq⟩ : ∃ q : Int, k0 + (cntL (cs.take (j * 3)) : Int) = q := ⟨_, rfl⟩
      have HP : Hid (markL tx (cs.take (j * 3)) k0 ++ cs.drop (j * 3) = P) := hP
      have HQ : Hid (k0 + (cntL (cs.take (j * 3)) : Int) = q) := hq
      rw [hrs] at hH at0 hkN
      rw [hP] at ho at0
      rw [hq]
      have hq0 : 1 ≤ q := by omega
      have hq1 : q ≤ 4611686018427387904 := by omega
      have hqN : q + (cntL rs : Int) ≤ 4611686018427387904 := by push_cast at hkN; omega
      clear hP hq hkN hkM hrs
      obtain ⟨c0, r0, rfl, T0, hH0⟩ := hH.cons
      obtain ⟨c1, r1, rfl, T1, hH1⟩ := hH0.cons
      obtain ⟨c2, r2, rfl, T2, hH2⟩ := hH1.cons
      obtain rfl := hH2.nil
      obtain ⟨x0, rfl⟩ := T0.int
      obtain ⟨x1, rfl⟩ := T1.int
      obtain ⟨x2, rfl⟩ := T2.str
      have a0 : Hid (P[j * 3]? = some (.i x0)) := at0 0 (by omega)
      have a1 : Hid (P[j * 3 + 1]? = some (.i x1)) := at0 1 (by omega)
      have a2 : Hid (P[j * 3 + 2]? = some (.s x2)) := at0 2 (by omega)
      simp only [cntL, Cel.cnt, Nat.add_zero] at hqN
      push_cast at hqN
      have HO0 : Hid (Own wr base (.slice (some ⟨g, 0, none⟩) n cap) (.l 55 3 n P) S) := ho
      clear ho at0 hH hH0 T0 hH1 T1 hH2 T2
      obtain ⟨pv0, -, hu0, hf0, -⟩ := HO0.out.cell (j := j * 3) a0.out
      obtain ⟨pv1, -, hu1, hf1, -⟩ := HO0.out.cell (j := j * 3 + 1) a1.out
      obtain ⟨pv2, -, hu2, hf2, -⟩ := HO0.out.cell (j := j * 3 + 2) a2.out
      have OC1 := ((HO0.out.putI (j := j * 3) a0.out (q)).putI (j := j * 3 + 1) (by rw [List.getElem?_set_ne (by omega)]; exact a1.out) (q + 1))
      have KC1 := ((KP0.out.set (i := j * 3) HG.out (.int .i64 (q))).set (i := j * 3 + 1) HG.out (.int .i64 (q + 1)))
      obtain ⟨N1, hN1⟩ : ∃ N : Nat, q + 1 + 1 = (N : Int) := ⟨(q + 1 + 1).toNat, by omega⟩
      have HTN1 : Hid ((⟨(markS N1).toArray⟩ : ByteArray) = tx (q + 1 + 1)) := by show _ = _; rw [HTX.out, hN1]; rfl
      have HN1 : Hid (q + 1 + 1 = (N1 : Int)) := hN1
      have hp1 : 0 < N1 := by omega
      have hs1 : N1 ≤ 9223372036854775807 := by omega
      have HLO1 : Hid (Own ((wr.setCell ⟨g, j * 3, none⟩ (.int .i64 (q))).setCell ⟨g, j * 3 + 1, none⟩ (.int .i64 (q + 1))) base (.slice (some ⟨g, 0, none⟩) n cap) _ S) := OC1
      have KPC1 : Hid (Kept S w ((wr.setCell ⟨g, j * 3, none⟩ (.int .i64 (q))).setCell ⟨g, j * 3 + 1, none⟩ (.int .i64 (q + 1)))) := KC1
      clear OC1 KC1 hN1
      go_wp2_with
        (go_at_call 35
         rw [HN1.out]
         refine (markText_any N1 hp1 hs1 _).mono ?_
         rintro e w1 ⟨rfl, hb⟩
         rw [HTN1.out, ← HN1.out]
         have HO1 : Hid (Own w1 base (.slice (some ⟨g, 0, none⟩) n cap) _ S) := HLO1.out.on hb (Nat.le_refl _)
         have KP1 : Hid (Kept S w w1) := KPC1.out.grow hb
         clear hb HLO1 KPC1 hp1 hs1 hu0 hf0 hu1 hf1 hu2 hf2
         obtain ⟨pw2, _, hu2, hf2, -, _⟩ := HO1.out.cell (j := j * 3 + 2) (by rw [List.getElem?_set_ne (by omega), List.getElem?_set_ne (by omega)]; exact a2.out))
      have HOE : Hid _ := (HO1.out.putS (j := j * 3 + 2) (by rw [List.getElem?_set_ne (by omega), List.getElem?_set_ne (by omega)]; exact a2.out) (tx (q + 1 + 1)))
      have HKE : Hid _ := (KP1.out.set (i := j * 3 + 2) HG.out (.string (tx (q + 1 + 1))))
      go_wp2
      go_roundw
      case rel =>
        have hml : markL tx [.i x0, .i x1, .s x2] q = [.i (q), .i (q + 1), .s (tx (q + 1 + 1))] := by
          simp only [markL, Cel.mark, Cel.cnt] 
          (try push_cast)
          (try rfl)
        refine ⟨j + 1, by omega, ?_, by go_num, ?_, HKE.out⟩
        · have h5 := HQ.out
          rw [CS.out, HRS.out]
          simp only [cntL, Cel.cnt]
          congr 1; push_cast; omega
        · have h6 := MR.out
          rw [HP.out, HQ.out, HRS.out, hml] at h6
          rw [← h6]
          exact HOE.out
      case measure => simp [intOf]; omega
    · obtain rfl : j = n := by omega
      have HE : Hid (cs.take (j * 3) = cs ∧ cs.drop (j * 3) = []) := ⟨List.take_of_length_le (by have := HL.out; omega), List.drop_eq_nil_of_le (by have := HL.out; omega)⟩
      have HOE : Hid _ := ho
      clear ho
      go_wp2
      go_ret
      have h6 := HOE.out
      rw [HE.out.1, HE.out.2, List.append_nil] at h6
      exact ⟨by rw [HE.out.1]; rfl, h6, KP0.out⟩
end
end Go.Proofs.Ytmgofehafjogfab
