/- The program's ProgText, walked by the library's contract of strings.Join. -/
import Derived.Test.YtkelhndijgakdaaDoorImplTx
import Derived.Test.YtkelhndijgakdaaDoorImplNums
import Derived.Test.YtkelhndijgakdaaDoorKRow
namespace Go.Proofs.YtkelhndijgakdaaDoor
open Go.ChangeShapes Go.WideShapes Go.ChangeAt Go.RowKit 
open Go.Lib hiding intOf

/-- What has been written of the texts so far. -/
def uptoP (fs : List Int) (k n : Nat) : List (List UInt8) := opsT fs k ++ List.replicate (n - k) []
theorem uptoP_step {fs : List Int} {k n : Nat} (h : k < n) : (((uptoP fs k n).map S).set k (S (opB (fs.getD (k * 3) 0) (fs.getD (k * 3 + 1) 0) (fs.getD (k * 3 + 2) 0)))) = (uptoP fs (k + 1) n).map S := by
  rw [← List.map_set]
  congr 1
  unfold uptoP
  have hl := opsT_len fs k
  rw [List.set_append_right _ _ (by omega), hl, Nat.sub_self, show n - k = (n - (k + 1)) + 1 by omega, List.replicate_succ, List.set_cons_zero, opsT_succ, List.append_assoc]
  rfl
theorem uptoP_end (fs : List Int) (n : Nat) : uptoP fs n n = opsT fs n := by simp [uptoP]
/-- The texts as the library's contract speaks of them. -/
def textsP (fs : List Int) (n : Nat) : List ByteArray := (opsT fs n).map fun x => ⟨x.toArray⟩
theorem textsP_list (fs : List Int) (n : Nat) : (textsP fs n).map (·.data.toList) = opsT fs n := by simp [textsP, Function.comp_def]
theorem textsP_len (fs : List Int) (n : Nat) : (textsP fs n).length = n := by simp [textsP, opsT_len]
theorem joinP_cells {w : World} {base g n : Nat} {fs : List Int} (h : w.ownsRow base 9 1 (.slice (some ⟨g, 0, none⟩) n n) n ((opsT fs n).map S)) :
    ∀ (j : Nat) x, (textsP fs n)[j]? = some x → w.cell? ⟨g, 0 + j, none⟩ = some (.string x) := by
  intro j x hj
  have hjl : j < (opsT fs n).length := by have := (List.getElem?_eq_some_iff.1 hj).1; simpa [textsP] using this
  have hl := opsT_len fs n
  rw [Nat.zero_add, h.cellAt j (by omega)]
  simp [textsP, hjl] at hj
  subst hj
  simp [hjl]
set_option maxHeartbeats 2000000 in
set_option maxRecDepth 100000 in
theorem implProgText_any (a : Option Addr) (n c : Nat) (fs : List Int) (w : World) (h : KAt 3 w a n fs) (hn : n ≤ 1048576) (hN : OpNamesIs w) (htab : Lib.TabIs Tryd.prog w "internal/strconv.uint64pow10" .u64 Lib.pow10Tab) :
    Calls Tryd.prog 12 #[.slice a n c] w fun e w' => TextSays e (progT fs n) ∧ Below w.heap.size w w' := by
  have HH : Hid (KAt 3 w a n fs) := h
  have HN : Hid (OpNamesIs w) := hN
  have HTAB : Hid (Lib.TabIs Tryd.prog w "internal/strconv.uint64pow10" .u64 Lib.pow10Tab) := htab
  have HLEN : Hid ((join ((textsP fs n).map (·.data.toList)) [59]).length ≤ 140737488355328) := by
    have h1 := progT_len fs n
    rw [textsP_list]
    show (progT fs n).length ≤ _
    omega
  clear h hN htab
  obtain ⟨i0, hi, hz0, hz1, hz2⟩ := info_parts infoStr
  go_enter Tryd.func12, Tryd.ntmps12
  go_wp2_with (at_make; refine wpList_make_full _ rfl _ _ 45 rfl w.heap.size 9 i0 (.string ⟨#[]⟩) 1 Tryd.underlying45 hi hz0 hz1 .i64 .i64 _ _ n rfl rfl rfl rfl (by rw [hz2]; omega) (by unfold maxLen; omega) (Nat.le_refl _) ?_; intro w1 own1 grow1)
  have own0 : w1.ownsRow w.heap.size 9 1 (.slice (some ⟨w.heap.size, 0, none⟩) n n) n ((uptoP fs 0 n).map S) := by
    have e : (madeCells (Value.string ⟨#[]⟩).cells (n * 1)).toList = (uptoP fs 0 n).map S := by
      rw [Nat.mul_one]
      exact (toList_madeCells_one _ _).trans (by simp [uptoP, opsT])
    rwa [e] at own1
  have hb1 : Below w.heap.size w w1 := (Below.refl _ _).grown grow1 (Nat.le_refl _) (fun k e => by cases e)
  clear own1 grow1
  go_loopw [11] (fun i wr => ∃ k : Nat, k ≤ n ∧ i = .int .i64 (k : Int) ∧ wr.ownsRow w.heap.size 9 1 (.slice (some ⟨w.heap.size, 0, none⟩) n n) n ((uptoP fs k n).map S) ∧ Below w.heap.size w wr) (fun i _ => n - (intOf i).toNat)
  case atStart => exact ⟨0, Nat.zero_le _, rfl, own0, hb1⟩
  case round =>
    obtain ⟨k, hk, rfl, ho, hb⟩ := hrel
    clear own0 hb1
    by_cases hlt : k < n
    · rcases (HH.out.below hb (Nat.le_refl _)).2.2 with h0 | ⟨p1, o1, rfl, g1⟩
      · omega
      have e0 := g1 (k * 3) (by omega)
      have e1 := g1 (k * 3 + 1) (by omega)
      have e2 := g1 (k * 3 + 2) (by omega)
      obtain ⟨x0, hx0⟩ : ∃ x, fs.getD (k * 3) 0 = x := ⟨_, rfl⟩
      obtain ⟨x1, hx1⟩ : ∃ x, fs.getD (k * 3 + 1) 0 = x := ⟨_, rfl⟩
      obtain ⟨x2, hx2⟩ : ∃ x, fs.getD (k * 3 + 2) 0 = x := ⟨_, rfl⟩
      have HU : Hid (((uptoP fs k n).map S).set k (S (opB x0 x1 x2)) = (uptoP fs (k + 1) n).map S) := by rw [← hx0, ← hx1, ← hx2]; exact uptoP_step hlt
      rw [hx0] at e0
      rw [hx1, ← Nat.add_assoc] at e1
      rw [hx2, ← Nat.add_assoc] at e2
      clear g1 hx0 hx1 hx2
      obtain ⟨W, hW⟩ : ∃ W, wr.alloc (.cells #[.int .i64 x0, .int .i64 x1, .int .i64 x2] 25) = W := ⟨_, rfl⟩
      have hbW : Below wr.heap.size wr W := by rw [← hW]; exact (Below.refl _ wr).alloc (Nat.le_refl _) _
      have X0 : Hid (Box W wr.heap.size #[.int .i64 x0, .int .i64 x1, .int .i64 x2] 25) := by rw [← hW]; exact box_of wr _ _
      have HW : Hid (wr.alloc (.cells #[.int .i64 x0, .int .i64 x1, .int .i64 x2] 25) = W) := hW
      have HBW : Hid (Below wr.heap.size wr W) := hbW
      have HO : Hid (wr.ownsRow w.heap.size 9 1 (.slice (some ⟨w.heap.size, 0, none⟩) n n) n ((uptoP fs k n).map S)) := ho
      have HB : Hid (Below w.heap.size w wr) := hb
      have hbx : Below w.heap.size w W := hb.trans (hbW.mono hb.size)
      have HNW : Hid (OpNamesIs W) := HN.out.below hbx (Nat.le_refl _)
      have HTW : Hid (Lib.TabIs Tryd.prog W "internal/strconv.uint64pow10" .u64 Lib.pow10Tab) := Joins.tab_stays gTab HTAB.out hbx (Nat.le_refl _)
      clear hbW hW ho hb hbx
      go_upto_region 5 with (fail)
      rw [HW.out]
      obtain ⟨c0, c1, c2⟩ := X0.out.three
      go_wp2_with fail
      refine (implOpText_any x0 x1 x2 _ HNW.out HTW.out).mono ?_
      rintro e w2 ⟨⟨s2, rfl, hs2⟩, hb2⟩
      obtain rfl : s2 = ⟨(opB x0 x1 x2).toArray⟩ := str_eq (by rw [hs2])
      have hbr : Below wr.heap.size wr w2 := HBW.out.trans (hb2.mono HBW.out.size)
      have ho2 := owns_below HO.out hbr (Nat.le_refl _)
      have hf2 := ho2.frozenAt k
      obtain ⟨u, hc2⟩ := own_cell ho2 hlt
      have hst := (ho2.stored k (S (opB x0 x1 x2))).1
      rw [HU.out] at hst
      go_wp2
      exact ⟨⟨k + 1, by omega, by go_num, hst, (HB.out.trans (hbr.mono HB.out.size)).setCell (Nat.le_refl _) _⟩, by simp [intOf]; omega⟩
    · obtain rfl : k = n := by omega
      rw [uptoP_end] at ho
      have hcells := joinP_cells ho
      have HC : Hid (∀ (j : Nat) x, (textsP fs k)[j]? = some x → wr.cell? ⟨w.heap.size, 0 + j, none⟩ = some (.string x)) := hcells
      have hlt2 := (own_base ho).2
      clear hcells ho
      have htl : Hid ((textsP fs k).length = k) := textsP_len fs k
      go_wp2_with fail
      have J := Tryd.strings_Join w.heap.size 0 k (textsP fs k) ⟨#[59]⟩ wr HC.out hlt2 (by have := htl.out; omega) (by have := htl.out; omega) HLEN.out
      rw [htl.out] at J
      refine J.mono ?_
      rintro e w3 ⟨rfl, hb3⟩
      go_wp2
      go_ret
      exact ⟨⟨_, rfl, by rw [textsP_list]; rfl⟩, hb.trans (hb3.mono hb.size)⟩
end Go.Proofs.YtkelhndijgakdaaDoor
