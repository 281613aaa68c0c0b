/- The program's TupleText, walked by the library's contract of strings.Join. -/
import Derived.Test.YtgibeakclknhnabDoorImplVx
import Derived.Test.YtgibeakclknhnabDoorStrAt
import Derived.Test.YtgibeakclknhnabDoorTxt18
import Derived.Test.YtgibeakclknhnabDoorShelf
namespace Go.Proofs.YtgibeakclknhnabDoor
open Go.ChangeShapes Go.WideShapes Go.ChangeAt Go.RowKit
open Go.Lib hiding intOf

def vaT (x : Va3) : List UInt8 := valB x.1 x.2.1 x.2.2
/-- What has been written of the texts so far. -/
def uptoV (L : List Va3) (k n : Nat) : List (List UInt8) := (L.take k).map vaT ++ List.replicate (n - k) []
theorem uptoV_step {L : List Va3} {k n : Nat} {x : Va3} (hx : L[k]? = some x) (hn : L.length = n) : (((uptoV L k n).map S).set k (S (vaT x))) = (uptoV L (k + 1) n).map S := by
  rw [← List.map_set]
  congr 1
  unfold uptoV
  have h : k < L.length := (List.getElem?_eq_some_iff.1 hx).1
  have hl : ((L.take k).map vaT).length = k := by rw [List.length_map, List.length_take]; omega
  rw [List.set_append_right _ _ (by omega), hl, Nat.sub_self, show n - k = (n - (k + 1)) + 1 by omega, List.replicate_succ, List.set_cons_zero, take_snocV hx, List.map_append, List.append_assoc]
  rfl
theorem uptoV_end {L : List Va3} {n : Nat} (hn : L.length = n) : uptoV L n n = L.map vaT := by
  unfold uptoV
  rw [List.take_of_length_le (by omega)]; simp
/-- The texts as the library's contract speaks of them. -/
def textsV (L : List Va3) : List ByteArray := L.map fun x => ⟨(vaT x).toArray⟩
theorem textsV_list (L : List Va3) : (textsV L).map (·.data.toList) = L.map vaT := by simp [textsV, Function.comp_def]
theorem textsV_len (L : List Va3) : (textsV L).length = L.length := by simp [textsV]
theorem joinV_cells {w : World} {base g n : Nat} {L : List Va3} (hn : L.length = n) (h : w.ownsRow base 9 1 (.slice (some ⟨g, 0, none⟩) n n) n ((L.map vaT).map S)) :
    ∀ (j : Nat) x, (textsV L)[j]? = some x → w.cell? ⟨g, 0 + j, none⟩ = some (.string x) := by
  intro j x hj
  have hjl : j < L.length := by have := (List.getElem?_eq_some_iff.1 hj).1; simpa [textsV] using this
  rw [Nat.zero_add, h.cellAt j (by omega)]
  simp [textsV, hjl] at hj
  subst hj
  simp [hjl]
set_option maxHeartbeats 2000000 in
set_option maxRecDepth 100000 in
theorem implTupleText_any (a : Option Addr) (n c : Nat) (L : List Va3) (w : World) (hT : PowT w) (h : VasAt w a n L) :
    Calls Tryd.prog 16 #[.slice a n c] w fun e w' => TextSays e (txtsB L) ∧ Below w.heap.size w w' := by
  have HH : Hid (VasAt w a n L) := h
  have HT : Hid (PowT w) := hT
  have hn : n ≤ 2097152 := h.2.1
  have HL : Hid (L.length = n) := h.1
  have HLEN : Hid ((join ((textsV L).map (·.data.toList)) [44]).length ≤ 140737488355328) := by
    have h1 := txtsB_len n L h.1
    rw [textsV_list]
    show (txtsB L).length ≤ _
    omega
  clear h hT
  obtain ⟨i0, hi, hz0, hz1, hz2⟩ := info_parts infoStr
  go_enter Tryd.func16, Tryd.ntmps16
  go_wp2_with (at_make; refine wpList_make_full _ rfl _ _ 57 rfl w.heap.size 9 i0 (.string ⟨#[]⟩) 1 Tryd.underlying57 hi hz0 hz1 .i64 .i64 _ _ n rfl rfl rfl rfl (by rw [hz2]; omega) (by unfold maxLen; omega) (Nat.le_refl _) ?_; intro w1 own1 grow1)
  have own0 : w1.ownsRow w.heap.size 9 1 (.slice (some ⟨w.heap.size, 0, none⟩) n n) n ((uptoV L 0 n).map S) := by
    have e : (madeCells (Value.string ⟨#[]⟩).cells (n * 1)).toList = (uptoV L 0 n).map S := by
      rw [Nat.mul_one]
      exact (toList_madeCells_one _ _).trans (by simp [uptoV])
    rwa [e] at own1
  have hb1 : Below w.heap.size w w1 := (Below.refl _ _).grown grow1 (Nat.le_refl _) (fun k e => by cases e)
  clear own1 grow1
  go_loopw [11] (fun i wr => ∃ k : Nat, k ≤ n ∧ i = .int .i64 (k : Int) ∧ wr.ownsRow w.heap.size 9 1 (.slice (some ⟨w.heap.size, 0, none⟩) n n) n ((uptoV L k n).map S) ∧ Below w.heap.size w wr) (fun i _ => n - (intOf i).toNat)
  case atStart => exact ⟨0, Nat.zero_le _, rfl, own0, hb1⟩
  case round =>
    obtain ⟨k, hk, rfl, ho, hb⟩ := hrel
    clear own0 hb1
    by_cases hlt : k < n
    · rcases (HH.out.below hb (Nat.le_refl _)).2.2 with h0 | ⟨p1, o1, rfl, g1⟩
      · omega
      obtain ⟨x, hx⟩ : ∃ x, L[k]? = some x := ⟨_, List.getElem?_eq_getElem (by have := HL.out; omega)⟩
      obtain ⟨e0, e1, e2⟩ := g1 k x hx
      have HU : Hid (((uptoV L k n).map S).set k (S (vaT x)) = (uptoV L (k + 1) n).map S) := uptoV_step hx HL.out
      obtain ⟨xk, xn, xs⟩ := x
      dsimp only at e0 e1 e2
      have hk0 : (0 : Int) ≤ (k : Int) := by omega
      have hk1 : (k : Int) < (n : Int) := by omega
      clear g1 hx
      obtain ⟨W, hW⟩ : ∃ W, wr.alloc (.cells #[.int .i64 xk, .int .i64 xn, .string xs] 38) = W := ⟨_, rfl⟩
      have hbW : Below wr.heap.size wr W := by rw [← hW]; exact (Below.refl _ wr).alloc (Nat.le_refl _) _
      have X0 : Hid (Box W wr.heap.size #[.int .i64 xk, .int .i64 xn, .string xs] 38) := by rw [← hW]; exact box_of wr _ _
      have HW : Hid (wr.alloc (.cells #[.int .i64 xk, .int .i64 xn, .string xs] 38) = W) := hW
      have HBW : Hid (Below wr.heap.size wr W) := hbW
      have HO : Hid (wr.ownsRow w.heap.size 9 1 (.slice (some ⟨w.heap.size, 0, none⟩) n n) n ((uptoV L k n).map S)) := ho
      have HB : Hid (Below w.heap.size w wr) := hb
      have HTW : Hid (PowT W) := HT.out.below (hb.trans (hbW.mono hb.size)) (Nat.le_refl _)
      clear hbW hW ho hb
      go_upto_region 5 with (fail)
      rw [HW.out]
      obtain ⟨c0, c1, c2⟩ := X0.out.triV
      go_wp2_with fail
      refine (implValueText_any xk xn xs _ HTW.out).mono ?_
      rintro e w2 ⟨⟨s2, rfl, hs2⟩, hb2⟩
      obtain rfl : s2 = ⟨(vaT (xk, xn, xs)).toArray⟩ := str_eq (by rw [hs2]; rfl)
      have hbr : Below wr.heap.size wr w2 := HBW.out.trans (hb2.mono HBW.out.size)
      have ho2 := owns_below HO.out hbr (Nat.le_refl _)
      have hf2 := ho2.frozenAt k
      obtain ⟨u, hc2⟩ := own_cell ho2 hlt
      have hst := (ho2.stored k (S (vaT (xk, xn, xs)))).1
      rw [HU.out] at hst
      go_wp2
      exact ⟨⟨k + 1, by omega, by go_num, hst, (HB.out.trans (hbr.mono HB.out.size)).setCell (Nat.le_refl _) _⟩, by simp [intOf]; omega⟩
    · obtain rfl : k = n := by omega
      rw [uptoV_end HL.out] at ho
      have hcells := joinV_cells HL.out ho
      have HC : Hid (∀ (j : Nat) x, (textsV L)[j]? = some x → wr.cell? ⟨w.heap.size, 0 + j, none⟩ = some (.string x)) := hcells
      have hlt2 := (own_base ho).2
      clear hcells ho
      have htl : Hid ((textsV L).length = k) := (textsV_len L).trans HL.out
      go_wp2_with fail
      have J := Tryd.strings_Join w.heap.size 0 k (textsV L) ⟨#[44]⟩ wr HC.out hlt2 (by have := htl.out; omega) (by have := htl.out; omega) HLEN.out
      rw [htl.out] at J
      refine J.mono ?_
      rintro e w3 ⟨rfl, hb3⟩
      go_wp2
      go_ret
      exact ⟨⟨_, rfl, by rw [textsV_list]; rfl⟩, hb.trans (hb3.mono hb.size)⟩
end Go.Proofs.YtgibeakclknhnabDoor
