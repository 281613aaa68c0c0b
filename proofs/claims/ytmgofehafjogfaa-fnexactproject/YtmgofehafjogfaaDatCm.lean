/- The laws' own functions on data. -/
import Derived.Test.YtmgofehafjogfaaDatCd
import Derived.Test.YtmgofehafjogfaaDatN
import Derived.Test.YtmgofehafjogfaaTxM
import Derived.Deep.RegionHeld3
import Derived.Deep.Cut
import Derived.Handy
namespace Go.Proofs.Ytmgofehafjogfaa
open Go.ChangeShapes Go.WideShapes Go.ChangeAt Go.RowKit Go.Joins
set_option linter.unusedSimpArgs false

set_option maxRecDepth 20000 in
set_option maxHeartbeats 2000000 in
theorem dMarkIntS (tx : Int → ByteArray) (base : Nat) (v : Value) (n : Nat) (cs : List Cel) (S : Nat → Prop) (k0 : Int) (w : World) (h : Own w base v (.l 3 1 n cs) S) (hs : Has (.l 3 1 n cs) (.l 3 1 [.i])) (hk0 : 0 ≤ k0) (hk1 : k0 + (cntL cs : Int) ≤ 4611686018427387904) :
    Calls Try.prog 40 #[v, .int .i64 k0] w (Marked tx w base v (.l 3 1 n cs) S k0) := by
  obtain ⟨hl, hn⟩ := h.len
  rcases h.forms with ⟨rfl, rfl, rfl, hS⟩ | ⟨g, cap, rfl, -, hg⟩
  · clear hs
    go_enter Try.func40, Try.ntmps40
    go_wp2
    go_loopw [1, 5] (fun q i wr => q = .int .i64 k0 ∧ i = .int .i64 0 ∧ wr = w) (fun _ i _ => 0)
    case atStart => exact ⟨rfl, rfl, rfl⟩
    case round =>
      obtain ⟨rfl, rfl, rfl⟩ := hrel
      go_wp2
      go_ret
      exact ⟨by simp [Cel.cnt, cntL], .nil _ _ _ hS, Kept.refl _ _⟩
  have HL : Hid (cs.length = n * 1) := hl
  have HG : Hid (S g) := hg
  have HR : Hid (∀ j, j < n → HasL (row cs 1 j) [.i]) := fun j hj => hs.rowL hj
  have HK : Hid (∀ p, k0 + (cntL (cs.take p) : Int) ≤ 4611686018427387904) := fun p => by have := cnt_le (cs := cs) (p := p); show _ ≤ _; omega
  have O0 : Hid (Own w base (.slice (some ⟨g, 0, none⟩) n cap) (.l 3 1 n cs) S) := h
  clear h hl hg hs hk1
  go_enter Try.func40, Try.ntmps40
  go_wp2
  go_loopw [1, 5] (fun q i wr => ∃ j : Nat, j ≤ n ∧ q = .int .i64 (k0 + (cntL (cs.take (j * 1)) : Int)) ∧ i = .int .i64 (j : Int) ∧ Own wr base (.slice (some ⟨g, 0, none⟩) n cap) (.l 3 1 n (markL tx (cs.take (j * 1)) k0 ++ cs.drop (j * 1))) S ∧ Kept S w wr) (fun _ i _ => n - (intOf i).toNat)
  case atStart => exact ⟨0, Nat.zero_le _, by simp [cntL], rfl, by simpa [markL] using O0.out, Kept.refl _ _⟩
  case round =>
    obtain ⟨j, hj, rfl, rfl, ho, hkp⟩ := hrel
    have KP0 : Hid (Kept S w wr) := hkp
    clear hkp
    by_cases hlt : j < n
    · have hj0 : (0 : Int) ≤ (j : Int) := by omega
      have hj1 : (j : Int) < (n : Int) := by omega
      have hle : j * 1 + 1 ≤ n * 1 := by omega
      have hH := HR.out j hlt
      have MR : Hid _ := mark_row tx HL.out hlt k0
      have CS : Hid (cntL (cs.take ((j + 1) * 1)) = cntL (cs.take (j * 1)) + cntL (row cs 1 j)) := cnt_split
      have hkN := HK.out ((j + 1) * 1)
      have hkM := HK.out (j * 1)
      rw [CS.out] at hkN
      have at0 : ∀ i, i < 1 → (markL tx (cs.take (j * 1)) k0 ++ cs.drop (j * 1))[j * 1 + i]? = (row cs 1 j)[i]? := fun i hi => by rw [mark_at tx (by have := HL.out; omega), row_at hi]
      obtain ⟨rs, hrs⟩ : ∃ rs, row cs 1 j = rs := ⟨_, rfl⟩
      have HRS : Hid (row cs 1 j = rs) := hrs
      obtain ⟨P, hP⟩ : ∃ P, markL tx (cs.take (j * 1)) k0 ++ cs.drop (j * 1) = P := ⟨_, rfl⟩
      obtain ⟨q, hq⟩ : ∃ q : Int, k0 + (cntL (cs.take (j * 1)) : Int) = q := ⟨_, rfl⟩
      have HP : Hid (markL tx (cs.take (j * 1)) k0 ++ cs.drop (j * 1) = P) := hP
      have HQ : Hid (k0 + (cntL (cs.take (j * 1)) : Int) = q) := hq
      rw [hrs] at hH at0 hkN
      rw [hP] at ho at0
      rw [hq]
      have hq0 : 0 ≤ q := by omega
      have hq1 : q ≤ 4611686018427387904 := by omega
      have hqN : q + (cntL rs : Int) ≤ 4611686018427387904 := by push_cast at hkN; omega
      clear hP hq hkN hkM hrs
      obtain ⟨c0, r0, rfl, T0, hH0⟩ := hH.cons
      obtain rfl := hH0.nil
      obtain ⟨x0, rfl⟩ := T0.int
      have a0 : Hid (P[j * 1]? = some (.i x0)) := at0 0 (by omega)
      simp only [cntL, Cel.cnt, Nat.add_zero] at hqN
      push_cast at hqN
      have HO0 : Hid (Own wr base (.slice (some ⟨g, 0, none⟩) n cap) (.l 3 1 n P) S) := ho
      clear ho at0 hH hH0 T0
      obtain ⟨pv0, -, hu0, hf0, -⟩ := HO0.out.cell (j := j * 1) a0.out
      have HOE : Hid _ := (HO0.out.putI (j := j * 1) a0.out (q))
      have HKE : Hid _ := (KP0.out.set (i := j * 1) HG.out (.int .i64 (q)))
      simp only [Nat.mul_one] at hu0 hf0
      go_wp2
      go_roundw
      case rel =>
        have hml : markL tx [.i x0] q = [.i (q)] := by
          simp only [markL, Cel.mark, Cel.cnt] 
          (try push_cast)
          (try rfl)
        refine ⟨j + 1, by omega, ?_, by go_num, ?_, by simpa only [Nat.mul_one] using HKE.out⟩
        · have h5 := HQ.out
          rw [CS.out, HRS.out]
          simp only [cntL, Cel.cnt]
          congr 1; push_cast; omega
        · have h6 := MR.out
          rw [HP.out, HQ.out, HRS.out, hml] at h6
          rw [← h6]
          simpa only [Nat.mul_one, over] using HOE.out
      case measure => simp [intOf]; omega
    · obtain rfl : j = n := by omega
      have HE : Hid (cs.take (j * 1) = cs ∧ cs.drop (j * 1) = []) := ⟨List.take_of_length_le (by have := HL.out; omega), List.drop_eq_nil_of_le (by have := HL.out; omega)⟩
      have HOE : Hid _ := ho
      clear ho
      go_wp2
      go_ret
      have h6 := HOE.out
      rw [HE.out.1, HE.out.2, List.append_nil] at h6
      exact ⟨by rw [HE.out.1]; rfl, h6, KP0.out⟩
end Go.Proofs.Ytmgofehafjogfaa
