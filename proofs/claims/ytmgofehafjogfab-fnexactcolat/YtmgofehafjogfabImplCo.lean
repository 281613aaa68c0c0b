/- ColAt: the first place under that name. -/
import Derived.Test.YtmgofehafjogfabImplBn
import Derived.Test.YtmgofehafjogfabSchC
import Derived.Deep.RegionHeld3
import Derived.Deep.Cut
namespace Go.Proofs.Ytmgofehafjogfab
open Go.ChangeShapes Go.WideShapes Go.ChangeAt Go.RowKit Go.Maps

theorem posN_asc (nm : List ByteArray) (k : Nat) (t : List UInt8) : (posN nm k t).Pairwise (· < ·) := by
  unfold posN
  exact List.Pairwise.map _ (fun a b h => by omega) (List.Pairwise.filter _ List.pairwise_lt_range)
theorem nm_at {L : List Col3} {i : Nat} {x : Col3} (h : L[i]? = some x) : (L.map (·.1)).getD i ⟨#[]⟩ = x.1 := by
  rw [List.getD, List.getElem?_map, h]
  rfl
theorem posN_none {L : List Col3} {s : ByteArray} (h : posN (L.map (·.1)) L.length s.data.toList = []) : colAt L s = -1 := by
  refine col_none L s fun x hx e => ?_
  obtain ⟨i, hi, rfl⟩ := List.getElem_of_mem hx
  have h1 : (i : Int) ∈ posN (L.map (·.1)) L.length s.data.toList := posN_mem.2 ⟨i, hi, by rw [nm_at (List.getElem?_eq_getElem hi), e], rfl⟩
  rw [h] at h1
  cases h1
theorem posN_first {L : List Col3} {s : ByteArray} {z : Int} {r : List Int} (h : posN (L.map (·.1)) L.length s.data.toList = z :: r) : colAt L s = z := by
  have ha := posN_asc (L.map (·.1)) L.length s.data.toList
  have hm : z ∈ posN (L.map (·.1)) L.length s.data.toList := by rw [h]; exact List.mem_cons_self
  obtain ⟨i, hi, e, rfl⟩ := posN_mem.1 hm
  rw [nm_at (List.getElem?_eq_getElem hi)] at e
  refine col_at L s i _ (List.getElem?_eq_getElem hi) (str_eq e) fun y hy e2 => ?_
  obtain ⟨k, hk, rfl⟩ := List.getElem_of_mem hy
  rw [List.length_take] at hk
  rw [List.getElem_take] at e2
  have h1 : (k : Int) ∈ posN (L.map (·.1)) L.length s.data.toList := posN_mem.2 ⟨k, by omega, by rw [nm_at (List.getElem?_eq_getElem (by omega)), e2], rfl⟩
  rw [h] at h1 ha
  rcases List.mem_cons.1 h1 with h2 | h2
  · omega
  · have := (List.pairwise_cons.1 ha).1 _ h2
    omega
set_option maxHeartbeats 8000000 in
set_option maxRecDepth 100000 in
theorem implColAt_any (a1 : Option Addr) (n1 c1 : Nat) (a2 : Option Addr) (n2 c2 : Nat) (a3 : Option Addr) (n3 c3 : Nat) (S : SchD) (t : ByteArray) (w : World) (h : SchAt w a1 n1 c1 a2 n2 c2 a3 n3 c3 S) (hz : SchSz S) (ht : t.size ≤ 1048576) :
    Calls Try.prog 17 #[ScV a1 n1 c1 a2 n2 c2 a3 n3 c3, .string t] w fun e w' => e = .returned (.int .i64 (colAt S.cols t)) ∧ Below w.heap.size w w' := by
  obtain ⟨R, hR⟩ : ∃ R, colAt S.cols t = R := ⟨_, rfl⟩
  rw [hR]
  have HR : Hid (colAt S.cols t = R) := hR
  have HSZ : Hid (∀ x ∈ S.cols, x.1.size ≤ 1048576) := hz.cols
  have HT : Hid (t.size ≤ 1048576) := ht
  clear hR hz ht
  obtain ⟨W, hW⟩ : ∃ W, w.alloc (.cells #[.slice a1 n1 c1, .slice a2 n2 c2, .slice a3 n3 c3] 35) = W := ⟨_, rfl⟩
  obtain ⟨g, hg⟩ : ∃ g, w.heap.size = g := ⟨_, rfl⟩
  have HG : Hid (w.heap.size = g) := hg
  have HB0 : Hid (Below g w W) := by rw [← hW, ← hg]; exact (Below.refl _ w).alloc (Nat.le_refl _) _
  have X0 : Hid (Box W g #[.slice a1 n1 c1, .slice a2 n2 c2, .slice a3 n3 c3] 35) := by rw [← hW, ← hg]; exact box_of w _ _
  have HW : Hid (w.alloc (.cells #[.slice a1 n1 c1, .slice a2 n2 c2, .slice a3 n3 c3] 35) = W) := hW
  have HSA : Hid (SchAt W a1 n1 c1 a2 n2 c2 a3 n3 c3 S) := h.below HB0.out (Nat.le_of_eq hg)
  have BX : Hid (∀ y, Below W.heap.size W y → y.cell? ⟨g, 0, none⟩ = some (.slice a1 n1 c1) ∧ y.cell? ⟨g, 1, none⟩ = some (.slice a2 n2 c2) ∧ y.cell? ⟨g, 2, none⟩ = some (.slice a3 n3 c3)) := fun y hb => (X0.out.below hb X0.out.lt).triV
  have HGS : Hid (g ≤ W.heap.size) := Nat.le_of_lt X0.out.lt
  rw [hg]
  clear hW hg h
  have HLN : Hid (S.cols.length = n1) := HSA.out.cols.1
  have HN1 : Hid (n1 ≤ 2097152) := HSA.out.cols.2.1
  obtain ⟨c0, c1', c2'⟩ := BX.out _ (Below.refl _ _)
  go_enter Try.func17, Try.ntmps17
  go_upto_region 1 with (fail)
  rw [HW.out, HG.out]
  go_wp2_with fail
  refine (byNameCol_any a1 n1 c1 S.cols _ HSA.out.cols HSZ.out).mono ?_
  rintro e w2 ⟨⟨rfl, D, hown, hd⟩, hb2⟩
  have HB2 : Hid (Below W.heap.size W w2) := hb2
  obtain ⟨v, zs, hrun, hat, hoi, hzl, -⟩ := hown.at mapLawN Try.underlying66 (zeroIntsN w2) (by have := HN1.out; unfold maxLen; omega) (keyN (s := t) (by have := HT.out; unfold maxLen; omega))
  have HZE : Hid (zs = posN (S.cols.map (·.1)) n1 t.data.toList) := ND_zs hd hat hoi
  obtain ⟨⟨p, l, c⟩, rfl⟩ := rowN_slice hoi
  have hlz : l = zs.length := rowN_len hoi
  dsimp only at hrun hoi hlz
  clear hown hd hat hb2 c0 c1' c2'
  subst hlz
  cases zs with
  | nil =>
    have HRV : Hid ((-1 : Int) = R) := by
      show _ = _
      rw [← HR.out]
      exact (posN_none (by rw [HLN.out]; exact HZE.out.symm)).symm
    clear hoi hzl
    go_wp2
    go_ret
    exact ⟨by rw [← HRV.out]; rfl, HB0.out.trans (HB2.out.mono HGS.out)⟩
  | cons z r =>
    have HRV : Hid (z = R) := by
      show _ = _
      rw [← HR.out]
      exact (posN_first (by rw [HLN.out]; exact HZE.out.symm)).symm
    obtain ⟨g3, rfl, hia, -, -⟩ := rowN_at hoi (by simp) (by have := HN1.out; omega)
    have hia2 := hia.2.2
    rcases hia2 with h0 | ⟨p2, o2, hpe, g4⟩
    · cases h0
    cases hpe
    have e0 := g4 0 (by simp)
    have hlr : (0 : Int) < ((r.length + 1 : Nat) : Int) := by omega
    clear hoi hzl hia g4
    go_wp2
    go_ret
    exact ⟨by rw [← HRV.out]; rfl, HB0.out.trans (HB2.out.mono HGS.out)⟩
end Go.Proofs.Ytmgofehafjogfab
