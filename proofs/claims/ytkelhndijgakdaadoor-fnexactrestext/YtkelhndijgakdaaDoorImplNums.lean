/- The program's NumsText, walked by the library's contracts of strconv.Itoa and strings.Join: the numerals with commas between. -/
import Derived.Test.YtkelhndijgakdaaDoorSpecNums
import Derived.Test.YtkelhndijgakdaaDoorImplDig
import Derived.Test.YtkelhndijgakdaaDoorStrAt
namespace Go.Proofs.YtkelhndijgakdaaDoor
open Go.ChangeShapes Go.WideShapes Go.ChangeAt Go.RowKit
open Go.Lib hiding intOf

/-- What has been written of the texts so far: the numerals of the first k, empty texts behind them. -/
def uptoS (xs : List Int) (k n : Nat) : List (List UInt8) := (xs.take k).map itoa ++ List.replicate (n - k) []
theorem uptoS_step {xs : List Int} {k n : Nat} (hx : xs.length = n) (h : k < n) : (((uptoS xs k n).map S).set k (S (itoa (xs.getD k 0)))) = (uptoS xs (k + 1) n).map S := by
  rw [← List.map_set]
  congr 1
  unfold uptoS
  have hl : ((xs.take k).map itoa).length = k := by rw [List.length_map, List.length_take]; omega
  rw [List.set_append_right _ _ (by omega), hl, Nat.sub_self, show n - k = (n - (k + 1)) + 1 by omega, List.replicate_succ, List.set_cons_zero,
    take_snocI (show k < xs.length by omega), List.map_append, List.append_assoc]
  rfl
theorem uptoS_end {xs : List Int} {n : Nat} (hx : xs.length = n) : uptoS xs n n = xs.map itoa := by
  unfold uptoS
  rw [List.take_of_length_le (by omega)]; simp

/-- The texts as the library's contract speaks of them. -/
def texts (xs : List Int) : List ByteArray := xs.map fun x => ⟨(itoa x).toArray⟩
theorem texts_list (xs : List Int) : (texts xs).map (·.data.toList) = xs.map itoa := by simp [texts, Function.comp_def]

theorem join_cells {w : World} {base g n : Nat} {xs : List Int} (h : w.ownsRow base 9 1 (.slice (some ⟨g, 0, none⟩) n n) n ((xs.map itoa).map S)) (hx : xs.length = n) :
    ∀ (j : Nat) x, (texts xs)[j]? = some x → w.cell? ⟨g, 0 + j, none⟩ = some (.string x) := by
  intro j x hj
  have hjl : j < xs.length := by have := (List.getElem?_eq_some_iff.1 hj).1; simpa [texts] using this
  rw [Nat.zero_add, h.cellAt j (by omega)]
  simp [texts, hjl] at hj
  subst hj
  simp [hjl]

set_option maxHeartbeats 1000000 in
theorem implNums_any (a : Option Addr) (n c : Nat) (xs : List Int) (w : World) (h : IntAt w a n xs) (hn : n ≤ 1048576) (hi : In64s xs) (htab : Lib.TabIs Tryd.prog w "internal/strconv.uint64pow10" .u64 Lib.pow10Tab) :
    Calls Tryd.prog 34 #[.slice a n c] w fun e w' => e = .returned (.string ⟨(numsB xs).toArray⟩) ∧ Below w.heap.size w w' := by
  have HH : Hid (IntAt w a n xs) := h
  have L1 : Hid (xs.length = n) := h.1
  have HI : Hid (In64s xs) := hi
  have HTAB : Hid (Lib.TabIs Tryd.prog w "internal/strconv.uint64pow10" .u64 Lib.pow10Tab) := htab
  have HLEN : Hid ((join ((texts xs).map (·.data.toList)) [44]).length ≤ 140737488355328) := by
    have h1 := numsB_len n xs h.1 hi
    rw [texts_list]
    show (numsB xs).length ≤ _
    omega
  clear h hi htab
  obtain ⟨i0, hi, hz0, hz1, hz2⟩ := info_parts infoStr
  go_enter Tryd.func34, Tryd.ntmps34
  go_wp2_with (at_make; refine wpList_make_full _ rfl _ _ 45 rfl w.heap.size 9 i0 (.string ⟨#[]⟩) 1 Tryd.underlying45 hi hz0 hz1 .i64 .i64 _ _ n rfl rfl rfl rfl (by rw [hz2]; omega) (by unfold maxLen; omega) (Nat.le_refl _) ?_; intro w1 own1 grow1)
  have own0 : w1.ownsRow w.heap.size 9 1 (.slice (some ⟨w.heap.size, 0, none⟩) n n) n ((uptoS xs 0 n).map S) := by
    have e : (madeCells (Value.string ⟨#[]⟩).cells (n * 1)).toList = (uptoS xs 0 n).map S := by
      rw [Nat.mul_one]
      exact (toList_madeCells_one _ _).trans (by simp [uptoS])
    rwa [e] at own1
  have hb1 : Below w.heap.size w w1 := (Below.refl _ _).grown grow1 (Nat.le_refl _) (fun k e => by cases e)
  clear own1 grow1
  go_loopw [11] (fun i wr => ∃ k : Nat, k ≤ n ∧ i = .int .i64 (k : Int) ∧ wr.ownsRow w.heap.size 9 1 (.slice (some ⟨w.heap.size, 0, none⟩) n n) n ((uptoS xs k n).map S) ∧ Below w.heap.size w wr) (fun i _ => n - (intOf i).toNat)
  case atStart => exact ⟨0, Nat.zero_le _, rfl, own0, hb1⟩
  case round =>
    obtain ⟨k, hk, rfl, ho, hb⟩ := hrel
    clear own0 hb1
    by_cases hlt : k < n
    · rcases (HH.out.below hb (Nat.le_refl _)).2.2 with h0 | ⟨p1, o1, rfl, g1⟩
      · omega
      have e1 := g1 k hlt
      obtain ⟨h0, h1⟩ := in64_at HI.out k (by have := L1.out; omega)
      obtain ⟨x, hx⟩ : ∃ x, xs.getD k 0 = x := ⟨_, rfl⟩
      have HU : Hid (((uptoS xs k n).map S).set k (S (itoa x)) = (uptoS xs (k + 1) n).map S) := by rw [← hx]; exact uptoS_step L1.out hlt
      rw [hx] at e1 h0 h1
      have ht1 := Joins.tab_stays gTab HTAB.out hb (Nat.le_refl _)
      have HT1 : Hid (Lib.TabIs Tryd.prog wr "internal/strconv.uint64pow10" .u64 Lib.pow10Tab) := ht1
      clear g1 hx ht1
      go_wp2_with (go_at_call 26; refine (implDigits_any x h0 h1 _ HT1.out).mono ?_; rintro e w2 ⟨rfl, hb2⟩; have ho2 := owns_below ho hb2 (Nat.le_refl _); have hf2 := ho2.frozenAt k; obtain ⟨u, hc2⟩ := own_cell ho2 hlt)
      have hst := (ho2.stored k (S (itoa x))).1
      rw [HU.out] at hst
      go_roundw
      case rel => exact ⟨k + 1, by omega, by go_num, hst, (hb.trans (hb2.mono hb.size)).setCell (Nat.le_refl _) _⟩
      case measure => simp [intOf]; omega
    · obtain rfl : k = n := by omega
      rw [uptoS_end L1.out] at ho
      have hcells := join_cells ho L1.out
      have HC : Hid (∀ (j : Nat) x, (texts xs)[j]? = some x → wr.cell? ⟨w.heap.size, 0 + j, none⟩ = some (.string x)) := hcells
      have hlt2 := (own_base ho).2
      clear hcells ho
      have htl : Hid ((texts xs).length = k) := by have := L1.out; show (texts xs).length = k; simp [texts, this]
      go_wp2_with fail
      have J := Tryd.strings_Join w.heap.size 0 k (texts xs) ⟨#[44]⟩ wr HC.out hlt2 (by have := htl.out; omega) (by have := htl.out; omega) HLEN.out
      rw [htl.out] at J
      refine J.mono ?_
      rintro e w3 ⟨rfl, hb3⟩
      go_wp2
      go_ret
      exact ⟨ret_str (by rw [texts_list]; rfl), hb.trans (hb3.mono hb.size)⟩
end Go.Proofs.YtkelhndijgakdaaDoor
