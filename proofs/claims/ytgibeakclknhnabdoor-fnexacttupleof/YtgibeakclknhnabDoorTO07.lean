/- Texts joined: RdB, ImplTr, SpecVs, Within, ImplVo, ImplVr. -/
import Derived.Test.YtgibeakclknhnabDoorTO06
import Derived.Test.YtgibeakclknhnabDoorTO01
import Derived.Test.YtgibeakclknhnabDoorRows
import Derived.Laws.StructEq
import Derived.Deep.Cut
import Derived.Test.YtgibeakclknhnabDoorTO04
set_option maxHeartbeats 4000000
set_option maxRecDepth 100000
namespace Go.Proofs.YtgibeakclknhnabDoor
section
open Go.ChangeShapes Go.WideShapes Go.ChangeAt Go.RowKit
open Go.Lib (IsBuilder BuilderAt byteCells byteCells_length byteCells_append fresh_isBuilder)

theorem builder_kept {T e : TypeId} {B b R : Nat} {bs : List Value} {w w' : World} (h : IsBuilder T e B b bs w) (hg : w.grownBy w' (some R)) (hR : R < B) : IsBuilder T e B b bs w' := by
  rcases h with ⟨h1, v, h2, h3, h4⟩ | ⟨h1, v, h2, h3, h4⟩
  · exact .inl ⟨h1, v, (hg.block b (Array.getElem?_eq_some_iff.1 h2).1 (fun e => by cases e; omega)).trans h2, h3.kept hg (.inr (fun e => by have := own_block h3 R e; omega)), h4⟩
  · exact .inr ⟨h1, v, (hg.block b (Array.getElem?_eq_some_iff.1 h2).1 (fun e => by cases e; omega)).trans h2, h3.kept hg (.inr (fun e => by have := own_block h3 R e; omega)), h4⟩
theorem far_since {w wr w' : World} {row : Option Nat} (h : w.grownBy wr row) (hb : Below w.heap.size wr w') : w.grownBy w' row :=
  ⟨hb.os.trans h.os, hb.tape.trans h.tape, hb.output.trans h.output, Nat.le_trans h.size hb.size, fun k hk hr => (hb.block k hk).trans (h.block k hk hr)⟩
theorem BysAt.lt {w : World} {a : Option Addr} {n : Nat} {l : List UInt8} (h : BysAt w a n l) : ∀ ad, a = some ad → 0 < n → ad.block < w.heap.size := by
  obtain ⟨h1, _, h3 | ⟨b, o, rfl, h4⟩⟩ := h
  · intro ad _ h0; omega
  · intro ad he h0
    cases he
    exact World.block_lt_of_cell? w _ (h4 0 _ (List.getElem?_eq_getElem (by omega)))
theorem RdAt.since {w w' : World} {R B : Nat} {a : Option Addr} {n c : Nat} {l : List UInt8} {j : Nat} (h : RdAt w R a n c l j) (hb : Below B w w') (hR : R < B) (ha : ∀ ad, a = some ad → 0 < n → ad.block < B) : RdAt w' R a n c l j := by
  refine ⟨h.box.below hb hR, ?_, h.far, h.le, h.cap⟩
  obtain ⟨h1, h2, h3 | ⟨b, o, rfl, h4⟩⟩ := h.bys
  · exact ⟨h1, h2, .inl h3⟩
  · rcases Nat.eq_zero_or_pos n with h0 | h0
    · exact ⟨h1, h2, .inl h0⟩
    · exact ⟨h1, h2, .inr ⟨b, o, rfl, fun i x hi => (hb.cell (show b < B from ha _ rfl h0)).trans (h4 i x hi)⟩⟩
def posOf (w : World) (R : Nat) : Nat := match w.cell? ⟨R, 1, none⟩ with | some (.int _ v) => v.toNat | _ => 0
theorem RdAt.pos {w : World} {R : Nat} {a : Option Addr} {n c : Nat} {l : List UInt8} {j : Nat} (h : RdAt w R a n c l j) : posOf w R = j := by
  obtain ⟨_, c1, _, _⟩ := h.box.two
  unfold posOf
  rw [c1]
  exact Int.toNat_natCast j
theorem fresh_beside {w : World} {T e : TypeId} : IsBuilder T e w.heap.size w.heap.size (byteCells []) (w.alloc (.cells #[.pointer none, .slice none 0 0] T)) := fresh_isBuilder _ _ _
open Go.Lib (IsBuilder BuilderAt byteCells byteCells_length byteCells_append fresh_isBuilder)

def TxtSays (w : World) (R : Nat) (a : Option Addr) (n c : Nat) (l : List UInt8) (j : Nat) (e : Ending) (w' : World) : Prop :=
  ((∃ (s : ByteArray) (k : Nat), e = .returned (.tuple #[.string s, .nilIface]) ∧ l.drop j = (escB s.data.toList ++ [0, 1]) ++ l.drop k ∧ j < k ∧ RdAt w' R a n c l k) ∨ (∃ (p : Int) (k : Nat), e = .returned (.tuple #[.string ⟨#[]⟩, ErrV p]) ∧ (∀ s r, ¬ l.drop j = (escB s ++ [0, 1]) ++ r) ∧ RdAt w' R a n c l k)) ∧ w.grownBy w' (some R)
theorem text_any (w : World) (R : Nat) (a : Option Addr) (n c : Nat) (l : List UInt8) (j : Nat) (h : RdAt w R a n c l j) (hR : R < w.heap.size) :
    Calls Tryd.prog 47 #[.pointer (some ⟨R, 0, none⟩)] w fun e w' => TxtSays w R a n c l j e w' := by
  obtain ⟨W, hW⟩ : ∃ W, w.alloc (.cells #[.pointer none, .slice none 0 0] 84) = W := ⟨_, rfl⟩
  obtain ⟨B, hB⟩ : ∃ B, w.heap.size = B := ⟨_, rfl⟩
  have HBQ : Hid (w.heap.size = B) := hB
  have HI0 : Hid (IsBuilder 84 5 B B (byteCells []) W) := by rw [← hW, ← hB]; exact fresh_beside
  have H0 : Hid (RdAt W R a n c l j) := by rw [← hW]; exact h.below ((Below.refl _ w).alloc (Nat.le_refl _) _)
  have HG0 : Hid (w.grownBy W (some R)) := by rw [← hW]; exact World.grownBy_alloc w _ _
  have HLT : Hid (∀ ad, a = some ad → 0 < n → ad.block < B) := by have := h.bys.lt; rw [hB] at this; exact this
  have HR : Hid (R < B) := by rw [← hB]; exact hR
  have HN : Hid (n ≤ 2097152 ∧ l.length = n) := ⟨h.bys.2.1, h.bys.1⟩
  have HW : Hid (w.alloc (.cells #[.pointer none, .slice none 0 0] 84) = W) := hW
  clear hW hB h hR
  go_enter Tryd.func47, Tryd.ntmps47
  go_upto_region 2 with (fail)
  rw [HW.out]
  (try rw [HBQ.out])
  go_loopw [] (fun wr => ∃ (k : Nat) (o : List UInt8), RdAt wr R a n c l k ∧ j ≤ k ∧ EscT l j k o ∧ o.length ≤ k ∧ IsBuilder 84 5 B B (byteCells o) wr ∧ w.grownBy wr (some R)) (fun wr => n - posOf wr R)
  case atStart => exact ⟨j, [], H0.out, Nat.le_refl _, EscT.start l j, Nat.zero_le _, HI0.out, HG0.out⟩
  case round =>
    obtain ⟨k, o, hrd, hjk, hesc, hok, hib, hgr⟩ := hrel
    have HRD : Hid (RdAt wr R a n c l k) := hrd
    have HESC : Hid (EscT l j k o) := hesc
    have HOK : Hid (o.length ≤ k) := hok
    have HIB : Hid (IsBuilder 84 5 B B (byteCells o) wr) := hib
    have HGR : Hid (w.grownBy wr (some R)) := hgr
    have HPOS : Hid (posOf wr R = k) := hrd.pos
    have HKN : Hid (k ≤ n) := hrd.le
    clear hrd hesc hok hib hgr
    by_cases hkn : k < n
    · obtain ⟨x, hx⟩ := HRD.out.byte hkn
      have HX : Hid (l[k]? = some x) := hx
      have HV1 : Hid (numV ((l.drop k).take 1) = (x.toNat : Int)) := by
        show _ = _
        rw [dropB hx, List.take_succ_cons, List.take_zero]
        exact numV_one x
      clear hx
      go_wp2_with fail
      refine (number_ok wr R a n c l k HRD.out 1 (by omega) (by decide) (by decide)).mono ?_
      rintro e w1 ⟨rfl, h1, h2⟩
      rw [HV1.out]
      have HRD1 : Hid (RdAt w1 R a n c l (k + 1)) := h1
      have HG1 : Hid (w.grownBy w1 (some R)) := HGR.out.trans h2
      have HIB1 : Hid (IsBuilder 84 5 B B (byteCells o) w1) := builder_kept HIB.out h2 HR.out
      have HSZ1 : Hid (B ≤ w1.heap.size) := by have := HG1.out.size; rw [HBQ.out] at this; exact this
      have HOL : Hid (o.length ≤ 2097152) := Nat.le_trans HOK.out (by have := HN.out.1; omega)
      clear h1 h2
      have hx0 : (0 : Int) ≤ (x.toNat : Int) := by omega
      have hx1 : (x.toNat : Int) < 256 := by have := x.toNat_lt; omega
      have hxm : (x.toNat : Int) % 256 = (x.toNat : Int) := by omega
      by_cases hx00 : x = 0
      · subst hx00
        have HX0 : Hid (l[k]? = some 0) := HX.out
        clear HX hx0 hx1 hxm
        by_cases hk2 : k + 1 < n
        · obtain ⟨y, hy⟩ := HRD1.out.byte hk2
          have HY : Hid (l[k + 1]? = some y) := hy
          have HV2 : Hid (numV ((l.drop (k + 1)).take 1) = (y.toNat : Int)) := by
            show _ = _
            rw [dropB hy, List.take_succ_cons, List.take_zero]
            exact numV_one y
          clear hy
          go_wp2_with fail
          refine (number_ok w1 R a n c l (k + 1) HRD1.out 1 (by omega) (by decide) (by decide)).mono ?_
          rintro e w2 ⟨rfl, h1, h2⟩
          rw [HV2.out]
          have HRD2 : Hid (RdAt w2 R a n c l (k + 2)) := h1
          have HG2 : Hid (w.grownBy w2 (some R)) := HG1.out.trans h2
          have HIB2 : Hid (IsBuilder 84 5 B B (byteCells o) w2) := builder_kept HIB1.out h2 HR.out
          have HSZ2 : Hid (B ≤ w2.heap.size) := Nat.le_trans HSZ1.out h2.size
          clear h1 h2
          by_cases hy1 : y = 1
          · subst hy1
            have HDN : Hid (l.drop j = (escB o ++ [0, 1]) ++ l.drop (k + 2)) := HESC.out.done HX0.out HY.out
            go_wp2_with fail
            refine (Tryd.Builder_String_any B B _ w2 HIB2.out HSZ2.out).mono ?_
            rintro e w3 ⟨rfl, hb3⟩
            have HRD3 : Hid (RdAt w3 R a n c l (k + 2)) := HRD2.out.since hb3 HR.out HLT.out
            have HG3 : Hid (w.grownBy w3 (some R)) := far_since HG2.out (by rw [HBQ.out]; exact hb3)
            clear hb3
            go_wp2
            go_ret2
            exact ⟨.inl ⟨_, k + 2, rfl, HDN.out, by omega, HRD3.out⟩, HG3.out⟩
          · have hy1b : ((y.toNat : Int) == 1) = false := by
              rw [beq_eq_false_iff_ne]
              intro e
              exact hy1 (by have h3 : y.toNat = 1 := by omega
                            exact UInt8.toNat_inj.1 h3)
            by_cases hy2 : y = 255
            · subst hy2
              have HES2 : Hid (EscT l j (k + 2) (o ++ [0])) := HESC.out.two HX0.out HY.out
              go_wp2_with fail
              refine (Tryd.Builder_WriteByte B B _ _ w2 HIB2.out (by rw [byteCells_length]; have := HOL.out; omega) HSZ2.out).mono ?_
              rintro e w3 ⟨rfl, hi3, hb3⟩
              have HIB3 : Hid (IsBuilder 84 5 B B (byteCells (o ++ [0])) w3) := by rw [byteCells_append]; exact .inr hi3
              have HRD3 : Hid (RdAt w3 R a n c l (k + 2)) := HRD2.out.since hb3 HR.out HLT.out
              have HG3 : Hid (w.grownBy w3 (some R)) := far_since HG2.out (by rw [HBQ.out]; exact hb3)
              clear hi3 hb3
              go_wp2
              go_roundw
              case rel => exact ⟨k + 2, o ++ [0], HRD3.out, by omega, HES2.out, by rw [List.length_append]; have := HOK.out; show _ + 1 ≤ _; omega, HIB3.out, HG3.out⟩
              case measure => rw [HPOS.out, HRD3.out.pos]; omega
            · have hy2b : ((y.toNat : Int) == 255) = false := by
                rw [beq_eq_false_iff_ne]
                intro e
                exact hy2 (by have h3 : y.toNat = 255 := by omega
                              exact UInt8.toNat_inj.1 h3)
              have hy2c : ((y.toNat : Int) != 255) = true := by rw [bne, hy2b]; rfl
              have HNO : Hid (∀ s r, ¬ l.drop j = (escB s ++ [0, 1]) ++ r) := HESC.out.no fun x hx => by
                rw [HX0.out] at hx
                cases hx
                refine ⟨rfl, fun z hz => ?_⟩
                rw [HY.out] at hz
                cases hz
                exact ⟨hy1, hy2⟩
              obtain ⟨c0, c1, _, _⟩ := HRD2.out.box.two
              have hkb : (k : Int) + 2 ≤ 2097152 := by have := HRD2.out.le; have := HN.out.1; omega
              have hk00 : (0 : Int) ≤ (k : Int) := by omega
              clear hy1 hy2
              go_upto_region 12 with (fail)
              go_region_held3 (fun w' => w'.cell? ⟨R, 0, none⟩ = some (.slice a n c) ∧ w'.cell? ⟨R, 1, none⟩ = some (.int .i64 ((k + 2 : Nat) : Int)))
                (first | (with_reducible exact ⟨c0, c1⟩) | go_keep)
                (fail)
              go_wp2
              go_ret2
              exact ⟨.inr ⟨_, k + 2, rfl, HNO.out, HRD2.out.turn (far_drew (grown_same w2 _)) HRD2.out.box.drew HRD2.out.le⟩, far_drew HG2.out⟩
        · have HNO : Hid (∀ s r, ¬ l.drop j = (escB s ++ [0, 1]) ++ r) := HESC.out.no fun x hx => by
            rw [HX0.out] at hx
            cases hx
            exact ⟨rfl, fun z hz => absurd (one_len hz) (by have := HN.out.2; omega)⟩
          go_wp2_with fail
          refine (number_short w1 R a n c l (k + 1) HRD1.out 1 (by omega)).mono ?_
          rintro e w2 ⟨rfl, h1, h2⟩
          have HRD2 : Hid (RdAt w2 R a n c l (k + 1)) := h1
          have HG2 : Hid (w.grownBy w2 (some R)) := HG1.out.trans h2
          clear h1 h2
          go_wp2
          go_ret2
          exact ⟨.inr ⟨_, k + 1, rfl, HNO.out, HRD2.out⟩, HG2.out⟩
      · have hxb : ((x.toNat : Int) == 0) = false := by
          rw [beq_eq_false_iff_ne]
          have := u8_pos hx00
          omega
        have HES1 : Hid (EscT l j (k + 1) (o ++ [x])) := HESC.out.one HX.out hx00
        clear hx00
        go_wp2_with fail
        refine (Tryd.Builder_WriteByte B B _ _ w1 HIB1.out (by rw [byteCells_length]; have := HOL.out; omega) HSZ1.out).mono ?_
        rintro e w3 ⟨rfl, hi3, hb3⟩
        have HIB3 : Hid (IsBuilder 84 5 B B (byteCells (o ++ [x])) w3) := by rw [byteCells_append]; exact .inr hi3
        have HRD3 : Hid (RdAt w3 R a n c l (k + 1)) := HRD1.out.since hb3 HR.out HLT.out
        have HG3 : Hid (w.grownBy w3 (some R)) := far_since HG1.out (by rw [HBQ.out]; exact hb3)
        clear hi3 hb3
        go_wp2
        go_roundw
        case rel => exact ⟨k + 1, o ++ [x], HRD3.out, by omega, HES1.out, by rw [List.length_append]; have := HOK.out; show _ + 1 ≤ _; omega, HIB3.out, HG3.out⟩
        case measure => rw [HPOS.out, HRD3.out.pos]; omega
    · have HNO : Hid (∀ s r, ¬ l.drop j = (escB s ++ [0, 1]) ++ r) := HESC.out.no fun x hx => absurd (one_len hx) (by have := HN.out.2; omega)
      go_wp2_with fail
      refine (number_short wr R a n c l k HRD.out 1 (by omega)).mono ?_
      rintro e w1 ⟨rfl, h1, h2⟩
      have HRD1 : Hid (RdAt w1 R a n c l k) := h1
      have HG1 : Hid (w.grownBy w1 (some R)) := HGR.out.trans h2
      clear h1 h2
      go_wp2
      go_ret2
      exact ⟨.inr ⟨_, k, rfl, HNO.out, HRD1.out⟩, HG1.out⟩
theorem str_ne {s s' : ByteArray} (h : ¬ s = s') : (s.toList == s'.toList) = false := by
  simp only [ByteArray.toList_eq]
  rw [beq_eq_false_iff_ne]
  exact fun e => h (str_eq e)
theorem equalIn_va (k n : Int) (s : ByteArray) (k' n' : Int) (s' : ByteArray) (w : World) : (Op.equalIn 10000 38 (.agg #[.int .i64 k, .int .i64 n, .string s]) (.agg #[.int .i64 k', .int .i64 n', .string s'])).run Tryd.prog w = .ok (sameV k n s k' n' s') w := by
  have hS : Tryd.prog.underlying 38 = some (.struct (Tryd.prog.fieldsOf 38)) := by kernel_rfl
  have hp : Tryd.prog.stoodInHeld 38 = false := by kernel_rfl
  have u3 := Tryd.underlying3
  have u9 := Tryd.underlying9
  rw [show (10000 : Nat) = 9999 + 1 from rfl, run_equalIn_agg w 9999 38 _ _ hS hp]
  simp only [Program.fieldsOf, Tryd.underlying38]
  unfold sameV
  by_cases hk : k = k'
  · subst hk
    by_cases hn : n = n'
    · subst hn
      by_cases hs : s = s'
      · subst hs
        rw [decide_eq_true ⟨rfl, rfl, rfl⟩]
        go_simp
      · have h1 := str_ne hs
        rw [decide_eq_false (fun h => hs h.2.2)]
        go_simp
    · have h1 : (n == n') = false := by simpa using hn
      rw [decide_eq_false (fun h => hn h.2.1)]
      go_simp
  · have h1 : (k == k') = false := by simpa using hk
    rw [decide_eq_false (fun h => hk h.1)]
    go_simp
theorem eql_va (k n : Int) (s : ByteArray) (k' n' : Int) (s' : ByteArray) (w : World) : (binOp .eql 38 (.agg #[.int .i64 k, .int .i64 n, .string s]) (.agg #[.int .i64 k', .int .i64 n', .string s'])).run Tryd.prog w = .ok (.bool (sameV k n s k' n' s')) w := by
  rw [run_eql_struct, equalIn_va]
  rfl
theorem within_g (x lo hi : Int) (w : World) : Calls Tryd.prog 51 #[.int .i64 x, .int .i64 lo, .int .i64 hi] w fun e w' => e = .returned (.bool (inB x lo hi)) ∧ w' = w := by
  by_cases h0 : lo ≤ x
  · by_cases h1 : x ≤ hi
    · rw [inB_yes ⟨h0, h1⟩]
      go_enter Tryd.func51, Tryd.ntmps51
      go_wp2
      go_ret
      exact ⟨rfl, rfl⟩
    · rw [inB_no (fun h => h1 h.2)]
      go_enter Tryd.func51, Tryd.ntmps51
      go_wp2
      go_ret
      exact ⟨rfl, rfl⟩
  · rw [inB_no (fun h => h0 h.1)]
    go_enter Tryd.func51, Tryd.ntmps51
    go_wp2
    go_ret
    exact ⟨rfl, rfl⟩
theorem same_yes {k n : Int} {s : ByteArray} {k' n' : Int} {s' : ByteArray} (h : k = k' ∧ n = n' ∧ s = s') : sameV k n s k' n' s' = true := decide_eq_true h
theorem same_no {k n : Int} {s : ByteArray} {k' n' : Int} {s' : ByteArray} (h : ¬ (k = k' ∧ n = n' ∧ s = s')) : sameV k n s k' n' s' = false := decide_eq_false h
theorem str_sz {s : ByteArray} (h : s = ⟨#[]⟩) : s.size = 0 := by subst h; rfl
theorem implValueOk_any (k n : Int) (s : ByteArray) (w : World) :
    Calls Tryd.prog 38 #[VaV k n s] w fun e w' => e = .returned (.bool (decide (VaGood k n s))) ∧ Below w.heap.size w w' := by
  obtain ⟨B, hB⟩ : ∃ B, decide (VaGood k n s) = B := ⟨_, rfl⟩
  rw [hB]
  have HB : Hid (decide (VaGood k n s) = B) := hB
  clear hB
  obtain ⟨W, hW⟩ : ∃ W, w.alloc (.cells #[.int .i64 k, .int .i64 n, .string s] 38) = W := ⟨_, rfl⟩
  have HB0 : Hid (Below w.heap.size w W) := by rw [← hW]; exact (Below.refl _ w).alloc (Nat.le_refl _) _
  have X0 : Hid (Box W w.heap.size #[.int .i64 k, .int .i64 n, .string s] 38) := by rw [← hW]; exact box_of w _ _
  have HW : Hid (w.alloc (.cells #[.int .i64 k, .int .i64 n, .string s] 38) = W) := hW
  obtain ⟨c0, c1, c2⟩ := X0.out.triV
  clear hW
  have e1 : ∀ w : World, (binOp .eql 38 (.agg #[.int .i64 k, .int .i64 n, .string s]) (.agg #[.int .i64 0, .int .i64 0, .string ⟨#[]⟩])).run Tryd.prog w = .ok (.bool (sameV k n s 0 0 ⟨#[]⟩)) w := eql_va k n s 0 0 ⟨#[]⟩
  have e2 : ∀ w : World, (binOp .eql 38 (.agg #[.int .i64 k, .int .i64 n, .string s]) (.agg #[.int .i64 1, .int .i64 n, .string ⟨#[]⟩])).run Tryd.prog w = .ok (.bool (sameV k n s 1 n ⟨#[]⟩)) w := eql_va k n s 1 n ⟨#[]⟩
  have e3 : ∀ w : World, (binOp .eql 38 (.agg #[.int .i64 k, .int .i64 n, .string s]) (.agg #[.int .i64 2, .int .i64 n, .string ⟨#[]⟩])).run Tryd.prog w = .ok (.bool (sameV k n s 2 n ⟨#[]⟩)) w := eql_va k n s 2 n ⟨#[]⟩
  have e4 : ∀ w : World, (binOp .eql 38 (.agg #[.int .i64 k, .int .i64 n, .string s]) (.agg #[.int .i64 3, .int .i64 0, .string s])).run Tryd.prog w = .ok (.bool (sameV k n s 3 0 s)) w := eql_va k n s 3 0 s
  by_cases h1 : k = 0 ∧ n = 0 ∧ s = ⟨#[]⟩
  · have HBV : Hid (B = true) := by
      show _ = _
      rw [← HB.out]
      exact decide_eq_true (by have := str_sz h1.2.2; unfold VaGood; omega)
    rw [HBV.out]
    have q1 := same_yes h1
    rw [q1] at e1
    clear e2 e3 e4 h1 q1
    go_enter Tryd.func38, Tryd.ntmps38
    go_upto_region 1 with (fail)
    rw [HW.out]
    go_wp2
    go_ret
    exact ⟨rfl, HB0.out⟩
  rw [same_no h1] at e1
  by_cases h2 : k = 1 ∧ n = n ∧ s = ⟨#[]⟩
  · have HBV : Hid (B = inB n 0 1) := by
      show _ = _
      rw [← HB.out]
      have h5 := str_sz h2.2.2
      have h6 := h2.1
      by_cases hn : 0 ≤ n ∧ n ≤ 1
      · rw [inB_yes hn]
        exact decide_eq_true (by unfold VaGood; omega)
      · rw [inB_no hn]
        exact decide_eq_false (by unfold VaGood; omega)
    rw [HBV.out]
    rw [same_yes h2] at e2
    clear e3 e4 h1 h2
    go_enter Tryd.func38, Tryd.ntmps38
    go_upto_region 1 with (fail)
    rw [HW.out]
    go_wp2_with fail
    refine (within_g n 0 1 _).mono ?_
    rintro e w1 ⟨rfl, rfl⟩
    go_wp2
    go_ret
    exact ⟨rfl, HB0.out⟩
  rw [same_no h2] at e2
  by_cases h3 : k = 2 ∧ n = n ∧ s = ⟨#[]⟩
  · have HBV : Hid (B = inB n (-1000000000000) 1000000000000) := by
      show _ = _
      rw [← HB.out]
      have h5 := str_sz h3.2.2
      have h6 := h3.1
      by_cases hn : -1000000000000 ≤ n ∧ n ≤ 1000000000000
      · rw [inB_yes hn]
        exact decide_eq_true (by unfold VaGood; omega)
      · rw [inB_no hn]
        exact decide_eq_false (by unfold VaGood; omega)
    rw [HBV.out]
    rw [same_yes h3] at e3
    clear e4 h1 h2 h3
    go_enter Tryd.func38, Tryd.ntmps38
    go_upto_region 1 with (fail)
    rw [HW.out]
    go_wp2_with fail
    refine (within_g n (-1000000000000) 1000000000000 _).mono ?_
    rintro e w1 ⟨rfl, rfl⟩
    go_wp2
    go_ret
    exact ⟨rfl, HB0.out⟩
  rw [same_no h3] at e3
  by_cases h4 : k = 3 ∧ n = 0 ∧ s = s
  · rw [same_yes h4] at e4
    by_cases hs : s.size ≤ 20
    · have HBV : Hid (B = true) := by
        show _ = _
        rw [← HB.out]
        exact decide_eq_true (by unfold VaGood; omega)
      rw [HBV.out]
      have hsz : ((s.size : Int) ≤ 20) := by omega
      clear h1 h2 h3 h4
      go_enter Tryd.func38, Tryd.ntmps38
      go_upto_region 1 with (fail)
      rw [HW.out]
      go_wp2
      go_ret
      exact ⟨rfl, HB0.out⟩
    · have HBV : Hid (B = false) := by
        show _ = _
        rw [← HB.out]
        exact decide_eq_false (by unfold VaGood; omega)
      rw [HBV.out]
      have hsz : ¬ ((s.size : Int) ≤ 20) := by omega
      clear h1 h2 h3 h4
      go_enter Tryd.func38, Tryd.ntmps38
      go_upto_region 1 with (fail)
      rw [HW.out]
      go_wp2
      go_ret
      exact ⟨rfl, HB0.out⟩
  rw [same_no h4] at e4
  have HBV : Hid (B = false) := by
    show _ = _
    rw [← HB.out]
    refine decide_eq_false ?_
    unfold VaGood
    rintro (⟨r1, r2, r3⟩ | ⟨r1, r2, r3⟩ | ⟨r1, r2, r3⟩ | ⟨r1, r2, r3⟩)
    · exact h1 ⟨r1, r2, str_nil r3⟩
    · exact h2 ⟨r1, rfl, str_nil r3⟩
    · exact h3 ⟨r1, rfl, str_nil r3⟩
    · exact h4 ⟨r1, r2, rfl⟩
  rw [HBV.out]
  clear h1 h2 h3 h4
  go_enter Tryd.func38, Tryd.ntmps38
  go_upto_region 1 with (fail)
  rw [HW.out]
  go_wp2
  go_ret
  exact ⟨rfl, HB0.out⟩
theorem Box.grown {w w' : World} {b R : Nat} {cs : Array Value} {T : TypeId} (h : Box w b cs T) (hg : w.grownBy w' (some R)) (hne : b ≠ R) : Box w' b cs T := (hg.block b h.lt (fun e => hne (by cases e; rfl))).trans h
theorem below_put3 (B : Nat) (a : World) (x y z : Value) : Below B a (((a.setCell ⟨B, 0, none⟩ x).setCell ⟨B, 1, none⟩ y).setCell ⟨B, 2, none⟩ z) := (((Below.refl B a).setCell (Nat.le_refl _) _).setCell (Nat.le_refl _) _).setCell (Nat.le_refl _) _
def ValSays (w : World) (R : Nat) (a : Option Addr) (n c : Nat) (l : List UInt8) (j : Nat) (e : Ending) (w' : World) : Prop :=
  ((∃ (x : Va3) (k : Nat), e = .returned (.tuple #[VaV x.1 x.2.1 x.2.2, .nilIface]) ∧ VaIs l j x k ∧ RdAt w' R a n c l k) ∨ (∃ (p : Int) (k : Nat), e = .returned (.tuple #[VaV 0 0 ⟨#[]⟩, ErrV p]) ∧ VaNo l j ∧ RdAt w' R a n c l k)) ∧ w.grownBy w' (some R)
theorem value_null (w : World) (R : Nat) (a : Option Addr) (n c : Nat) (l : List UInt8) (j : Nat) (h : RdAt w R a n c l j) (hR : R < w.heap.size) (hx : l[j]? = some 1) :
    Calls Tryd.prog 32 #[.pointer (some ⟨R, 0, none⟩)] w fun e w' => ValSays w R a n c l j e w' := by
  obtain ⟨B, hB⟩ : ∃ B, w.heap.size = B := ⟨_, rfl⟩
  have HBQ : Hid (w.heap.size = B) := hB
  obtain ⟨W, hW⟩ : ∃ W, w.alloc (.cells #[.int .i64 0, .int .i64 0, .string ⟨#[]⟩] 38) = W := ⟨_, rfl⟩
  have HW : Hid (w.alloc (.cells #[.int .i64 0, .int .i64 0, .string ⟨#[]⟩] 38) = W) := hW
  have H0 : Hid (RdAt W R a n c l j) := by rw [← hW]; exact h.below ((Below.refl _ w).alloc (Nat.le_refl _) _)
  have HG0 : Hid (w.grownBy W (some R)) := by rw [← hW]; exact World.grownBy_alloc w _ _
  have RB0 : Hid (Box W B #[.int .i64 0, .int .i64 0, .string ⟨#[]⟩] 38) := by rw [← hW, ← hB]; exact box_of w _ _
  have HLT : Hid (∀ ad, a = some ad → 0 < n → ad.block < B) := by have := h.bys.lt; rw [hB] at this; exact this
  have HR : Hid (R < B) := by rw [← hB]; exact hR
  have HN : Hid (n ≤ 2097152 ∧ l.length = n) := ⟨h.bys.2.1, h.bys.1⟩
  have HX : Hid (l[j]? = some 1) := hx
  have HJN : Hid (j < n) := by have := one_len hx; show j < n; rw [← h.bys.1]; exact this
  have HV1 : Hid (numV ((l.drop j).take 1) = 1) := by
    show _ = _
    rw [dropB hx, List.take_succ_cons, List.take_zero, numV_one]
    rfl
  obtain ⟨c0, c1, _, _⟩ := H0.out.box.two
  clear hW hB h hR hx
  go_enter Tryd.func32, Tryd.ntmps32
  go_upto_region 1 with (fail)
  rw [HW.out]
  (try rw [HBQ.out])
  go_wp2_with fail
  refine (number_ok W R a n c l j H0.out 1 (by have := HJN.out; omega) (by decide) (by decide)).mono ?_
  rintro e w1 ⟨rfl, h1, h2⟩
  rw [HV1.out]
  have HRD1 : Hid (RdAt w1 R a n c l (j + 1)) := h1
  have HG1 : Hid (w.grownBy w1 (some R)) := HG0.out.trans h2
  have RB1 : Hid (Box w1 B #[.int .i64 0, .int .i64 0, .string ⟨#[]⟩] 38) := RB0.out.grown h2 (by have := HR.out; omega)
  clear h1 h2 c0 c1
  obtain ⟨g, hg⟩ : ∃ g, w1.heap.size = g := ⟨_, rfl⟩
  have HGQ : Hid (w1.heap.size = g) := hg
  have HBG : Hid (B < g) := by rw [← hg]; exact RB1.out.lt
  obtain ⟨W2, hW2⟩ : ∃ W2, w1.alloc (.cells #[.int .i64 0, .int .i64 0, .string ⟨#[]⟩] 38) = W2 := ⟨_, rfl⟩
  have HW2 : Hid (w1.alloc (.cells #[.int .i64 0, .int .i64 0, .string ⟨#[]⟩] 38) = W2) := hW2
  have hb2 : Below w.heap.size w1 W2 := by rw [← hW2]; exact (Below.refl _ w1).alloc (by rw [HBQ.out, hg]; exact Nat.le_of_lt HBG.out) _
  have X2 : Hid (Box W2 g #[.int .i64 0, .int .i64 0, .string ⟨#[]⟩] 38) := by rw [← hW2, ← hg]; exact box_of w1 _ _
  have RB2 : Hid (Box W2 B #[.int .i64 0, .int .i64 0, .string ⟨#[]⟩] 38) := by rw [← hW2]; exact RB1.out.alloc _
  have HG2 : Hid (w.grownBy W2 (some R)) := far_since HG1.out hb2
  have HRD2 : Hid (RdAt W2 R a n c l (j + 1)) := HRD1.out.since (by rw [← HBQ.out]; exact hb2) HR.out HLT.out
  clear hW2 hb2 hg
  go_upto_region 4 with (fail)
  rw [HW2.out, HGQ.out]
  obtain ⟨c0, c1, c2⟩ := X2.out.triV
  have HXB : True := trivial
  have XB2 : Hid (Box W2 g #[.int .i64 0, .int .i64 0, .string ⟨#[]⟩] 38) := X2.out
  clear HXB c0 c1 c2
  have HVG : Hid (decide (VaGood 0 0 ⟨#[]⟩) = true) := decide_eq_true (.inl ⟨rfl, rfl, rfl⟩)
  obtain ⟨c0, c1, c2⟩ := XB2.out.triV
  go_wp2_with fail
  refine (implValueOk_any 0 0 ⟨#[]⟩ _).mono ?_
  rintro e w3 ⟨rfl, hb⟩
  rw [HVG.out]
  have HRD3 : Hid (RdAt w3 R a n c l _) := HRD2.out.below hb
  have HG3 : Hid (w.grownBy w3 (some R)) := far_below_of HG2.out hb
  have RB3 : Hid (Box w3 B #[.int .i64 0, .int .i64 0, .string ⟨#[]⟩] 38) := RB2.out.below hb RB2.out.lt
  have XB3 : Hid (Box w3 g #[.int .i64 0, .int .i64 0, .string ⟨#[]⟩] 38) := XB2.out.below hb XB2.out.lt
  clear hb c0 c1 c2
  obtain ⟨c0, c1, c2⟩ := XB3.out.triV
  obtain ⟨r0, r1, r2⟩ := RB3.out.triV
  have z0 := RB3.out.frozen 0
  have z1 := RB3.out.frozen 1
  have z2 := RB3.out.frozen 2
  go_wp2
  have E := ((RB3.out.put 0 (.int .i64 0)).put 1 (.int .i64 0)).put 2 (.string ⟨#[]⟩)
  have q0 := E.cell 0
  have q1 := E.cell 1
  have q2 := E.cell 2
  refine bodyPost_ret (by simp [results, Tryd.results32, go_sem, q0, q1, q2]; try rfl) rfl ?_
  exact ⟨.inl ⟨(0, 0, ⟨#[]⟩), _, rfl, va_null HX.out, HRD3.out.since (below_put3 _ _ _ _ _) HR.out HLT.out⟩, far_since HG3.out (by rw [HBQ.out]; exact below_put3 _ _ _ _ _)⟩
theorem value_flag0 (w : World) (R : Nat) (a : Option Addr) (n c : Nat) (l : List UInt8) (j : Nat) (h : RdAt w R a n c l j) (hR : R < w.heap.size) (hs : ¬ j + 1 < n) (hx : l[j]? = some 2) :
    Calls Tryd.prog 32 #[.pointer (some ⟨R, 0, none⟩)] w fun e w' => ValSays w R a n c l j e w' := by
  have HS : Hid (¬ j + 1 < n) := hs
  clear hs
  obtain ⟨B, hB⟩ : ∃ B, w.heap.size = B := ⟨_, rfl⟩
  have HBQ : Hid (w.heap.size = B) := hB
  obtain ⟨W, hW⟩ : ∃ W, w.alloc (.cells #[.int .i64 0, .int .i64 0, .string ⟨#[]⟩] 38) = W := ⟨_, rfl⟩
  have HW : Hid (w.alloc (.cells #[.int .i64 0, .int .i64 0, .string ⟨#[]⟩] 38) = W) := hW
  have H0 : Hid (RdAt W R a n c l j) := by rw [← hW]; exact h.below ((Below.refl _ w).alloc (Nat.le_refl _) _)
  have HG0 : Hid (w.grownBy W (some R)) := by rw [← hW]; exact World.grownBy_alloc w _ _
  have RB0 : Hid (Box W B #[.int .i64 0, .int .i64 0, .string ⟨#[]⟩] 38) := by rw [← hW, ← hB]; exact box_of w _ _
  have HLT : Hid (∀ ad, a = some ad → 0 < n → ad.block < B) := by have := h.bys.lt; rw [hB] at this; exact this
  have HR : Hid (R < B) := by rw [← hB]; exact hR
  have HN : Hid (n ≤ 2097152 ∧ l.length = n) := ⟨h.bys.2.1, h.bys.1⟩
  have HX : Hid (l[j]? = some 2) := hx
  have HJN : Hid (j < n) := by have := one_len hx; show j < n; rw [← h.bys.1]; exact this
  have HV1 : Hid (numV ((l.drop j).take 1) = 2) := by
    show _ = _
    rw [dropB hx, List.take_succ_cons, List.take_zero, numV_one]
    rfl
  obtain ⟨c0, c1, _, _⟩ := H0.out.box.two
  clear hW hB h hR hx
  go_enter Tryd.func32, Tryd.ntmps32
  go_upto_region 1 with (fail)
  rw [HW.out]
  (try rw [HBQ.out])
  go_wp2_with fail
  refine (number_ok W R a n c l j H0.out 1 (by have := HJN.out; omega) (by decide) (by decide)).mono ?_
  rintro e w1 ⟨rfl, h1, h2⟩
  rw [HV1.out]
  have HRD1 : Hid (RdAt w1 R a n c l (j + 1)) := h1
  have HG1 : Hid (w.grownBy w1 (some R)) := HG0.out.trans h2
  have RB1 : Hid (Box w1 B #[.int .i64 0, .int .i64 0, .string ⟨#[]⟩] 38) := RB0.out.grown h2 (by have := HR.out; omega)
  clear h1 h2 c0 c1
  obtain ⟨g, hg⟩ : ∃ g, w1.heap.size = g := ⟨_, rfl⟩
  have HGQ : Hid (w1.heap.size = g) := hg
  have HBG : Hid (B < g) := by rw [← hg]; exact RB1.out.lt
  obtain ⟨W2, hW2⟩ : ∃ W2, w1.alloc (.cells #[.int .i64 1, .int .i64 0, .string ⟨#[]⟩] 38) = W2 := ⟨_, rfl⟩
  have HW2 : Hid (w1.alloc (.cells #[.int .i64 1, .int .i64 0, .string ⟨#[]⟩] 38) = W2) := hW2
  have hb2 : Below w.heap.size w1 W2 := by rw [← hW2]; exact (Below.refl _ w1).alloc (by rw [HBQ.out, hg]; exact Nat.le_of_lt HBG.out) _
  have X2 : Hid (Box W2 g #[.int .i64 1, .int .i64 0, .string ⟨#[]⟩] 38) := by rw [← hW2, ← hg]; exact box_of w1 _ _
  have RB2 : Hid (Box W2 B #[.int .i64 0, .int .i64 0, .string ⟨#[]⟩] 38) := by rw [← hW2]; exact RB1.out.alloc _
  have HG2 : Hid (w.grownBy W2 (some R)) := far_since HG1.out hb2
  have HRD2 : Hid (RdAt W2 R a n c l (j + 1)) := HRD1.out.since (by rw [← HBQ.out]; exact hb2) HR.out HLT.out
  clear hW2 hb2 hg
  go_upto_region 4 with (fail)
  rw [HW2.out, HGQ.out]
  obtain ⟨c0, c1, c2⟩ := X2.out.triV
  have HXB : True := trivial
  have XB2 : Hid (Box W2 g #[.int .i64 1, .int .i64 0, .string ⟨#[]⟩] 38) := X2.out
  clear HXB c0 c1 c2
  have HNO : Hid (VaNo l j) := no_flag HX.out (by have := HS.out; have := HN.out.2; omega)
  obtain ⟨c0, c1, c2⟩ := XB2.out.triV
  go_wp2_with fail
  refine (number_short W2 R a n c l (j + 1) HRD2.out 1 (by have := HS.out; omega)).mono ?_
  rintro e w3 ⟨rfl, h1, h2⟩
  have XB3 : Hid (Box w3 g _ 38) := XB2.out.grown h2 (by have := HR.out; have := HBG.out; omega)
  have RB3 : Hid (Box w3 B #[.int .i64 0, .int .i64 0, .string ⟨#[]⟩] 38) := RB2.out.grown h2 (by have := HR.out; omega)
  have HG3 : Hid (w.grownBy w3 (some R)) := HG2.out.trans h2
  have HRD3 : Hid (RdAt w3 R a n c l _) := h1
  clear h1 h2 c0 c1 c2
  obtain ⟨W4, hW⟩ : ∃ W4, w3.setCell ⟨g, 1, none⟩ (.int .i64 0) = W4 := ⟨_, rfl⟩
  have HW4 : Hid (w3.setCell ⟨g, 1, none⟩ (.int .i64 0) = W4) := hW
  have hb : Below B w3 W4 := by rw [← hW]; exact (Below.refl B _).setCell (Nat.le_of_lt HBG.out) _
  have XB4 : Hid (Box W4 g #[.int .i64 1, .int .i64 0, .string ⟨#[]⟩] 38) := by rw [← hW]; exact XB3.out.put 1 (.int .i64 0)
  have RB4 : Hid (Box W4 B #[.int .i64 0, .int .i64 0, .string ⟨#[]⟩] 38) := by rw [← hW]; exact RB3.out.set (Nat.ne_of_lt HBG.out) _
  have HG4 : Hid (w.grownBy W4 (some R)) := far_since HG3.out (by rw [HBQ.out]; exact hb)
  have HRD4 : Hid (RdAt W4 R a n c l _) := HRD3.out.since hb HR.out HLT.out
  obtain ⟨c0, c1, c2⟩ := XB3.out.triV
  have f1 := XB3.out.frozen 1
  clear hW hb
  go_upto_region 12 with (fail)
  rw [HW4.out]
  clear c0 c1 c2 f1
  obtain ⟨r0, r1, r2⟩ := RB4.out.triV
  have z0 := RB4.out.frozen 0
  have z1 := RB4.out.frozen 1
  have z2 := RB4.out.frozen 2
  go_wp2
  have E := ((RB4.out.put 0 (.int .i64 0)).put 1 (.int .i64 0)).put 2 (.string ⟨#[]⟩)
  have q0 := E.cell 0
  have q1 := E.cell 1
  have q2 := E.cell 2
  refine bodyPost_ret (by simp [results, Tryd.results32, go_sem, q0, q1, q2]; try rfl) rfl ?_
  exact ⟨.inr ⟨_, _, rfl, HNO.out, HRD4.out.since (below_put3 _ _ _ _ _) HR.out HLT.out⟩, far_since HG4.out (by rw [HBQ.out]; exact below_put3 _ _ _ _ _)⟩
theorem value_flag (w : World) (R : Nat) (a : Option Addr) (n c : Nat) (l : List UInt8) (j : Nat) (h : RdAt w R a n c l j) (hR : R < w.heap.size) (y : UInt8) (hy : l[j + 1]? = some y) (hx : l[j]? = some 2) :
    Calls Tryd.prog 32 #[.pointer (some ⟨R, 0, none⟩)] w fun e w' => ValSays w R a n c l j e w' := by
  have HY : Hid (l[j + 1]? = some y) := hy
  clear hy
  obtain ⟨B, hB⟩ : ∃ B, w.heap.size = B := ⟨_, rfl⟩
  have HBQ : Hid (w.heap.size = B) := hB
  obtain ⟨W, hW⟩ : ∃ W, w.alloc (.cells #[.int .i64 0, .int .i64 0, .string ⟨#[]⟩] 38) = W := ⟨_, rfl⟩
  have HW : Hid (w.alloc (.cells #[.int .i64 0, .int .i64 0, .string ⟨#[]⟩] 38) = W) := hW
  have H0 : Hid (RdAt W R a n c l j) := by rw [← hW]; exact h.below ((Below.refl _ w).alloc (Nat.le_refl _) _)
  have HG0 : Hid (w.grownBy W (some R)) := by rw [← hW]; exact World.grownBy_alloc w _ _
  have RB0 : Hid (Box W B #[.int .i64 0, .int .i64 0, .string ⟨#[]⟩] 38) := by rw [← hW, ← hB]; exact box_of w _ _
  have HLT : Hid (∀ ad, a = some ad → 0 < n → ad.block < B) := by have := h.bys.lt; rw [hB] at this; exact this
  have HR : Hid (R < B) := by rw [← hB]; exact hR
  have HN : Hid (n ≤ 2097152 ∧ l.length = n) := ⟨h.bys.2.1, h.bys.1⟩
  have HX : Hid (l[j]? = some 2) := hx
  have HJN : Hid (j < n) := by have := one_len hx; show j < n; rw [← h.bys.1]; exact this
  have HV1 : Hid (numV ((l.drop j).take 1) = 2) := by
    show _ = _
    rw [dropB hx, List.take_succ_cons, List.take_zero, numV_one]
    rfl
  obtain ⟨c0, c1, _, _⟩ := H0.out.box.two
  clear hW hB h hR hx
  go_enter Tryd.func32, Tryd.ntmps32
  go_upto_region 1 with (fail)
  rw [HW.out]
  (try rw [HBQ.out])
  go_wp2_with fail
  refine (number_ok W R a n c l j H0.out 1 (by have := HJN.out; omega) (by decide) (by decide)).mono ?_
  rintro e w1 ⟨rfl, h1, h2⟩
  rw [HV1.out]
  have HRD1 : Hid (RdAt w1 R a n c l (j + 1)) := h1
  have HG1 : Hid (w.grownBy w1 (some R)) := HG0.out.trans h2
  have RB1 : Hid (Box w1 B #[.int .i64 0, .int .i64 0, .string ⟨#[]⟩] 38) := RB0.out.grown h2 (by have := HR.out; omega)
  clear h1 h2 c0 c1
  obtain ⟨g, hg⟩ : ∃ g, w1.heap.size = g := ⟨_, rfl⟩
  have HGQ : Hid (w1.heap.size = g) := hg
  have HBG : Hid (B < g) := by rw [← hg]; exact RB1.out.lt
  obtain ⟨W2, hW2⟩ : ∃ W2, w1.alloc (.cells #[.int .i64 1, .int .i64 0, .string ⟨#[]⟩] 38) = W2 := ⟨_, rfl⟩
  have HW2 : Hid (w1.alloc (.cells #[.int .i64 1, .int .i64 0, .string ⟨#[]⟩] 38) = W2) := hW2
  have hb2 : Below w.heap.size w1 W2 := by rw [← hW2]; exact (Below.refl _ w1).alloc (by rw [HBQ.out, hg]; exact Nat.le_of_lt HBG.out) _
  have X2 : Hid (Box W2 g #[.int .i64 1, .int .i64 0, .string ⟨#[]⟩] 38) := by rw [← hW2, ← hg]; exact box_of w1 _ _
  have RB2 : Hid (Box W2 B #[.int .i64 0, .int .i64 0, .string ⟨#[]⟩] 38) := by rw [← hW2]; exact RB1.out.alloc _
  have HG2 : Hid (w.grownBy W2 (some R)) := far_since HG1.out hb2
  have HRD2 : Hid (RdAt W2 R a n c l (j + 1)) := HRD1.out.since (by rw [← HBQ.out]; exact hb2) HR.out HLT.out
  clear hW2 hb2 hg
  go_upto_region 4 with (fail)
  rw [HW2.out, HGQ.out]
  obtain ⟨c0, c1, c2⟩ := X2.out.triV
  have HXB : True := trivial
  have XB2 : Hid (Box W2 g #[.int .i64 1, .int .i64 0, .string ⟨#[]⟩] 38) := X2.out
  clear HXB c0 c1 c2
  have HV2 : Hid (numV ((l.drop (j + 1)).take 1) = (y.toNat : Int)) := by
    show _ = _
    rw [dropB HY.out, List.take_succ_cons, List.take_zero]
    exact numV_one y
  obtain ⟨c0, c1, c2⟩ := XB2.out.triV
  go_wp2_with fail
  refine (number_ok W2 R a n c l (j + 1) HRD2.out 1 (by have := one_len HY.out; have := HN.out.2; omega) (by decide) (by decide)).mono ?_
  rintro e w3 ⟨rfl, h1, h2⟩
  rw [HV2.out]
  have XB3 : Hid (Box w3 g _ 38) := XB2.out.grown h2 (by have := HR.out; have := HBG.out; omega)
  have RB3 : Hid (Box w3 B #[.int .i64 0, .int .i64 0, .string ⟨#[]⟩] 38) := RB2.out.grown h2 (by have := HR.out; omega)
  have HG3 : Hid (w.grownBy w3 (some R)) := HG2.out.trans h2
  have HRD3 : Hid (RdAt w3 R a n c l _) := h1
  clear h1 h2 c0 c1 c2
  obtain ⟨W4, hW⟩ : ∃ W4, w3.setCell ⟨g, 1, none⟩ (.int .i64 (y.toNat : Int)) = W4 := ⟨_, rfl⟩
  have HW4 : Hid (w3.setCell ⟨g, 1, none⟩ (.int .i64 (y.toNat : Int)) = W4) := hW
  have hb : Below B w3 W4 := by rw [← hW]; exact (Below.refl B _).setCell (Nat.le_of_lt HBG.out) _
  have XB4 : Hid (Box W4 g #[.int .i64 1, .int .i64 (y.toNat : Int), .string ⟨#[]⟩] 38) := by rw [← hW]; exact XB3.out.put 1 (.int .i64 (y.toNat : Int))
  have RB4 : Hid (Box W4 B #[.int .i64 0, .int .i64 0, .string ⟨#[]⟩] 38) := by rw [← hW]; exact RB3.out.set (Nat.ne_of_lt HBG.out) _
  have HG4 : Hid (w.grownBy W4 (some R)) := far_since HG3.out (by rw [HBQ.out]; exact hb)
  have HRD4 : Hid (RdAt W4 R a n c l _) := HRD3.out.since hb HR.out HLT.out
  obtain ⟨c0, c1, c2⟩ := XB3.out.triV
  have f1 := XB3.out.frozen 1
  clear hW hb
  go_upto_region 12 with (fail)
  rw [HW4.out]
  clear c0 c1 c2 f1
  by_cases hg : VaGood 1 (y.toNat : Int) ⟨#[]⟩
  · have HGD : Hid (VaGood 1 (y.toNat : Int) ⟨#[]⟩) := hg
    have HVG : Hid (decide (VaGood 1 (y.toNat : Int) ⟨#[]⟩) = true) := decide_eq_true hg
    clear hg
    obtain ⟨c0, c1, c2⟩ := XB4.out.triV
    go_wp2_with fail
    refine (implValueOk_any 1 (y.toNat : Int) ⟨#[]⟩ _).mono ?_
    rintro e w9 ⟨rfl, hb⟩
    rw [HVG.out]
    have HRD9 : Hid (RdAt w9 R a n c l _) := HRD4.out.below hb
    have HG9 : Hid (w.grownBy w9 (some R)) := far_below_of HG4.out hb
    have RB9 : Hid (Box w9 B #[.int .i64 0, .int .i64 0, .string ⟨#[]⟩] 38) := RB4.out.below hb RB4.out.lt
    have XB9 : Hid (Box w9 g #[.int .i64 1, .int .i64 (y.toNat : Int), .string ⟨#[]⟩] 38) := XB4.out.below hb XB4.out.lt
    clear hb c0 c1 c2
    obtain ⟨c0, c1, c2⟩ := XB9.out.triV
    obtain ⟨r0, r1, r2⟩ := RB9.out.triV
    have z0 := RB9.out.frozen 0
    have z1 := RB9.out.frozen 1
    have z2 := RB9.out.frozen 2
    go_wp2
    have E := ((RB9.out.put 0 (.int .i64 1)).put 1 (.int .i64 (y.toNat : Int))).put 2 (.string ⟨#[]⟩)
    have q0 := E.cell 0
    have q1 := E.cell 1
    have q2 := E.cell 2
    refine bodyPost_ret (by simp [results, Tryd.results32, go_sem, q0, q1, q2]; try rfl) rfl ?_
    exact ⟨.inl ⟨(1, (y.toNat : Int), ⟨#[]⟩), _, rfl, va_flag HX.out HY.out HGD.out, HRD9.out.since (below_put3 _ _ _ _ _) HR.out HLT.out⟩, far_since HG9.out (by rw [HBQ.out]; exact below_put3 _ _ _ _ _)⟩
  · have HGD : Hid (¬ VaGood 1 (y.toNat : Int) ⟨#[]⟩) := hg
    have HVG : Hid (decide (VaGood 1 (y.toNat : Int) ⟨#[]⟩) = false) := decide_eq_false hg
    clear hg
    obtain ⟨c0, c1, c2⟩ := XB4.out.triV
    go_wp2_with fail
    refine (implValueOk_any 1 (y.toNat : Int) ⟨#[]⟩ _).mono ?_
    rintro e w9 ⟨rfl, hb⟩
    rw [HVG.out]
    have HRD9 : Hid (RdAt w9 R a n c l _) := HRD4.out.below hb
    have HG9 : Hid (w.grownBy w9 (some R)) := far_below_of HG4.out hb
    have RB9 : Hid (Box w9 B #[.int .i64 0, .int .i64 0, .string ⟨#[]⟩] 38) := RB4.out.below hb RB4.out.lt
    have XB9 : Hid (Box w9 g #[.int .i64 1, .int .i64 (y.toNat : Int), .string ⟨#[]⟩] 38) := XB4.out.below hb XB4.out.lt
    clear hb c0 c1 c2
    obtain ⟨r0, r1, r2⟩ := RB9.out.triV
    have z0 := RB9.out.frozen 0
    have z1 := RB9.out.frozen 1
    have z2 := RB9.out.frozen 2
    go_wp2
    have E := ((RB9.out.put 0 (.int .i64 0)).put 1 (.int .i64 0)).put 2 (.string ⟨#[]⟩)
    have q0 := E.cell 0
    have q1 := E.cell 1
    have q2 := E.cell 2
    refine bodyPost_ret (by simp [results, Tryd.results32, go_sem, q0, q1, q2]; try rfl) rfl ?_
    exact ⟨.inr ⟨_, _, rfl, VaNo.of (rd_flag HX.out HY.out) HGD.out, HRD9.out.since (below_put3 _ _ _ _ _) HR.out HLT.out⟩, far_since HG9.out (by rw [HBQ.out]; exact below_put3 _ _ _ _ _)⟩
theorem value_int0 (w : World) (R : Nat) (a : Option Addr) (n c : Nat) (l : List UInt8) (j : Nat) (h : RdAt w R a n c l j) (hR : R < w.heap.size) (hs : l.length < j + 9) (hx : l[j]? = some 3) :
    Calls Tryd.prog 32 #[.pointer (some ⟨R, 0, none⟩)] w fun e w' => ValSays w R a n c l j e w' := by
  have HS : Hid (l.length < j + 9) := hs
  clear hs
  obtain ⟨B, hB⟩ : ∃ B, w.heap.size = B := ⟨_, rfl⟩
  have HBQ : Hid (w.heap.size = B) := hB
  obtain ⟨W, hW⟩ : ∃ W, w.alloc (.cells #[.int .i64 0, .int .i64 0, .string ⟨#[]⟩] 38) = W := ⟨_, rfl⟩
  have HW : Hid (w.alloc (.cells #[.int .i64 0, .int .i64 0, .string ⟨#[]⟩] 38) = W) := hW
  have H0 : Hid (RdAt W R a n c l j) := by rw [← hW]; exact h.below ((Below.refl _ w).alloc (Nat.le_refl _) _)
  have HG0 : Hid (w.grownBy W (some R)) := by rw [← hW]; exact World.grownBy_alloc w _ _
  have RB0 : Hid (Box W B #[.int .i64 0, .int .i64 0, .string ⟨#[]⟩] 38) := by rw [← hW, ← hB]; exact box_of w _ _
  have HLT : Hid (∀ ad, a = some ad → 0 < n → ad.block < B) := by have := h.bys.lt; rw [hB] at this; exact this
  have HR : Hid (R < B) := by rw [← hB]; exact hR
  have HN : Hid (n ≤ 2097152 ∧ l.length = n) := ⟨h.bys.2.1, h.bys.1⟩
  have HX : Hid (l[j]? = some 3) := hx
  have HJN : Hid (j < n) := by have := one_len hx; show j < n; rw [← h.bys.1]; exact this
  have HV1 : Hid (numV ((l.drop j).take 1) = 3) := by
    show _ = _
    rw [dropB hx, List.take_succ_cons, List.take_zero, numV_one]
    rfl
  obtain ⟨c0, c1, _, _⟩ := H0.out.box.two
  clear hW hB h hR hx
  go_enter Tryd.func32, Tryd.ntmps32
  go_upto_region 1 with (fail)
  rw [HW.out]
  (try rw [HBQ.out])
  go_wp2_with fail
  refine (number_ok W R a n c l j H0.out 1 (by have := HJN.out; omega) (by decide) (by decide)).mono ?_
  rintro e w1 ⟨rfl, h1, h2⟩
  rw [HV1.out]
  have HRD1 : Hid (RdAt w1 R a n c l (j + 1)) := h1
  have HG1 : Hid (w.grownBy w1 (some R)) := HG0.out.trans h2
  have RB1 : Hid (Box w1 B #[.int .i64 0, .int .i64 0, .string ⟨#[]⟩] 38) := RB0.out.grown h2 (by have := HR.out; omega)
  clear h1 h2 c0 c1
  obtain ⟨g, hg⟩ : ∃ g, w1.heap.size = g := ⟨_, rfl⟩
  have HGQ : Hid (w1.heap.size = g) := hg
  have HBG : Hid (B < g) := by rw [← hg]; exact RB1.out.lt
  obtain ⟨W2, hW2⟩ : ∃ W2, w1.alloc (.cells #[.int .i64 2, .int .i64 0, .string ⟨#[]⟩] 38) = W2 := ⟨_, rfl⟩
  have HW2 : Hid (w1.alloc (.cells #[.int .i64 2, .int .i64 0, .string ⟨#[]⟩] 38) = W2) := hW2
  have hb2 : Below w.heap.size w1 W2 := by rw [← hW2]; exact (Below.refl _ w1).alloc (by rw [HBQ.out, hg]; exact Nat.le_of_lt HBG.out) _
  have X2 : Hid (Box W2 g #[.int .i64 2, .int .i64 0, .string ⟨#[]⟩] 38) := by rw [← hW2, ← hg]; exact box_of w1 _ _
  have RB2 : Hid (Box W2 B #[.int .i64 0, .int .i64 0, .string ⟨#[]⟩] 38) := by rw [← hW2]; exact RB1.out.alloc _
  have HG2 : Hid (w.grownBy W2 (some R)) := far_since HG1.out hb2
  have HRD2 : Hid (RdAt W2 R a n c l (j + 1)) := HRD1.out.since (by rw [← HBQ.out]; exact hb2) HR.out HLT.out
  clear hW2 hb2 hg
  go_upto_region 4 with (fail)
  rw [HW2.out, HGQ.out]
  obtain ⟨c0, c1, c2⟩ := X2.out.triV
  have HXB : True := trivial
  have XB2 : Hid (Box W2 g #[.int .i64 2, .int .i64 0, .string ⟨#[]⟩] 38) := X2.out
  clear HXB c0 c1 c2
  have HNO : Hid (VaNo l j) := no_int HX.out HS.out
  obtain ⟨c0, c1, c2⟩ := XB2.out.triV
  go_wp2_with fail
  refine (number_short W2 R a n c l (j + 1) HRD2.out 8 (by have := HS.out; have := HN.out.2; omega)).mono ?_
  rintro e w3 ⟨rfl, h1, h2⟩
  have XB3 : Hid (Box w3 g _ 38) := XB2.out.grown h2 (by have := HR.out; have := HBG.out; omega)
  have RB3 : Hid (Box w3 B #[.int .i64 0, .int .i64 0, .string ⟨#[]⟩] 38) := RB2.out.grown h2 (by have := HR.out; omega)
  have HG3 : Hid (w.grownBy w3 (some R)) := HG2.out.trans h2
  have HRD3 : Hid (RdAt w3 R a n c l _) := h1
  clear h1 h2 c0 c1 c2
  obtain ⟨W4, hW⟩ : ∃ W4, (w3.setCell ⟨g, 1, none⟩ (.int .i64 0)).setCell ⟨g, 1, none⟩ (.int .i64 (-4611686018427387904)) = W4 := ⟨_, rfl⟩
  have HW4 : Hid ((w3.setCell ⟨g, 1, none⟩ (.int .i64 0)).setCell ⟨g, 1, none⟩ (.int .i64 (-4611686018427387904)) = W4) := hW
  have hb : Below B w3 W4 := by rw [← hW]; exact ((Below.refl B _).setCell (Nat.le_of_lt HBG.out) _).setCell (Nat.le_of_lt HBG.out) _
  have XB4 : Hid (Box W4 g #[.int .i64 2, .int .i64 (-4611686018427387904), .string ⟨#[]⟩] 38) := by rw [← hW]; exact (XB3.out.put 1 (.int .i64 0)).put 1 (.int .i64 (-4611686018427387904))
  have RB4 : Hid (Box W4 B #[.int .i64 0, .int .i64 0, .string ⟨#[]⟩] 38) := by rw [← hW]; exact (RB3.out.set (Nat.ne_of_lt HBG.out) _).set (Nat.ne_of_lt HBG.out) _
  have HG4 : Hid (w.grownBy W4 (some R)) := far_since HG3.out (by rw [HBQ.out]; exact hb)
  have HRD4 : Hid (RdAt W4 R a n c l _) := HRD3.out.since hb HR.out HLT.out
  obtain ⟨c0, c1, c2⟩ := XB3.out.triV
  have f1 := XB3.out.frozen 1
  clear hW hb
  go_upto_region 12 with (fail)
  rw [HW4.out]
  clear c0 c1 c2 f1
  obtain ⟨r0, r1, r2⟩ := RB4.out.triV
  have z0 := RB4.out.frozen 0
  have z1 := RB4.out.frozen 1
  have z2 := RB4.out.frozen 2
  go_wp2
  have E := ((RB4.out.put 0 (.int .i64 0)).put 1 (.int .i64 0)).put 2 (.string ⟨#[]⟩)
  have q0 := E.cell 0
  have q1 := E.cell 1
  have q2 := E.cell 2
  refine bodyPost_ret (by simp [results, Tryd.results32, go_sem, q0, q1, q2]; try rfl) rfl ?_
  exact ⟨.inr ⟨_, _, rfl, HNO.out, HRD4.out.since (below_put3 _ _ _ _ _) HR.out HLT.out⟩, far_since HG4.out (by rw [HBQ.out]; exact below_put3 _ _ _ _ _)⟩
theorem value_int (w : World) (R : Nat) (a : Option Addr) (n c : Nat) (l : List UInt8) (j : Nat) (h : RdAt w R a n c l j) (hR : R < w.heap.size) (hs : j + 9 ≤ l.length) (hx : l[j]? = some 3) :
    Calls Tryd.prog 32 #[.pointer (some ⟨R, 0, none⟩)] w fun e w' => ValSays w R a n c l j e w' := by
  have HS : Hid (j + 9 ≤ l.length) := hs
  clear hs
  obtain ⟨B, hB⟩ : ∃ B, w.heap.size = B := ⟨_, rfl⟩
  have HBQ : Hid (w.heap.size = B) := hB
  obtain ⟨W, hW⟩ : ∃ W, w.alloc (.cells #[.int .i64 0, .int .i64 0, .string ⟨#[]⟩] 38) = W := ⟨_, rfl⟩
  have HW : Hid (w.alloc (.cells #[.int .i64 0, .int .i64 0, .string ⟨#[]⟩] 38) = W) := hW
  have H0 : Hid (RdAt W R a n c l j) := by rw [← hW]; exact h.below ((Below.refl _ w).alloc (Nat.le_refl _) _)
  have HG0 : Hid (w.grownBy W (some R)) := by rw [← hW]; exact World.grownBy_alloc w _ _
  have RB0 : Hid (Box W B #[.int .i64 0, .int .i64 0, .string ⟨#[]⟩] 38) := by rw [← hW, ← hB]; exact box_of w _ _
  have HLT : Hid (∀ ad, a = some ad → 0 < n → ad.block < B) := by have := h.bys.lt; rw [hB] at this; exact this
  have HR : Hid (R < B) := by rw [← hB]; exact hR
  have HN : Hid (n ≤ 2097152 ∧ l.length = n) := ⟨h.bys.2.1, h.bys.1⟩
  have HX : Hid (l[j]? = some 3) := hx
  have HJN : Hid (j < n) := by have := one_len hx; show j < n; rw [← h.bys.1]; exact this
  have HV1 : Hid (numV ((l.drop j).take 1) = 3) := by
    show _ = _
    rw [dropB hx, List.take_succ_cons, List.take_zero, numV_one]
    rfl
  obtain ⟨c0, c1, _, _⟩ := H0.out.box.two
  clear hW hB h hR hx
  go_enter Tryd.func32, Tryd.ntmps32
  go_upto_region 1 with (fail)
  rw [HW.out]
  (try rw [HBQ.out])
  go_wp2_with fail
  refine (number_ok W R a n c l j H0.out 1 (by have := HJN.out; omega) (by decide) (by decide)).mono ?_
  rintro e w1 ⟨rfl, h1, h2⟩
  rw [HV1.out]
  have HRD1 : Hid (RdAt w1 R a n c l (j + 1)) := h1
  have HG1 : Hid (w.grownBy w1 (some R)) := HG0.out.trans h2
  have RB1 : Hid (Box w1 B #[.int .i64 0, .int .i64 0, .string ⟨#[]⟩] 38) := RB0.out.grown h2 (by have := HR.out; omega)
  clear h1 h2 c0 c1
  obtain ⟨g, hg⟩ : ∃ g, w1.heap.size = g := ⟨_, rfl⟩
  have HGQ : Hid (w1.heap.size = g) := hg
  have HBG : Hid (B < g) := by rw [← hg]; exact RB1.out.lt
  obtain ⟨W2, hW2⟩ : ∃ W2, w1.alloc (.cells #[.int .i64 2, .int .i64 0, .string ⟨#[]⟩] 38) = W2 := ⟨_, rfl⟩
  have HW2 : Hid (w1.alloc (.cells #[.int .i64 2, .int .i64 0, .string ⟨#[]⟩] 38) = W2) := hW2
  have hb2 : Below w.heap.size w1 W2 := by rw [← hW2]; exact (Below.refl _ w1).alloc (by rw [HBQ.out, hg]; exact Nat.le_of_lt HBG.out) _
  have X2 : Hid (Box W2 g #[.int .i64 2, .int .i64 0, .string ⟨#[]⟩] 38) := by rw [← hW2, ← hg]; exact box_of w1 _ _
  have RB2 : Hid (Box W2 B #[.int .i64 0, .int .i64 0, .string ⟨#[]⟩] 38) := by rw [← hW2]; exact RB1.out.alloc _
  have HG2 : Hid (w.grownBy W2 (some R)) := far_since HG1.out hb2
  have HRD2 : Hid (RdAt W2 R a n c l (j + 1)) := HRD1.out.since (by rw [← HBQ.out]; exact hb2) HR.out HLT.out
  clear hW2 hb2 hg
  go_upto_region 4 with (fail)
  rw [HW2.out, HGQ.out]
  obtain ⟨c0, c1, c2⟩ := X2.out.triV
  have HXB : True := trivial
  have XB2 : Hid (Box W2 g #[.int .i64 2, .int .i64 0, .string ⟨#[]⟩] 38) := X2.out
  clear HXB c0 c1 c2
  obtain ⟨N, hN⟩ : ∃ N, numV ((l.drop (j + 1)).take 8) = N := ⟨_, rfl⟩
  have HNQ : Hid (numV ((l.drop (j + 1)).take 8) = N) := hN
  clear hN
  obtain ⟨c0, c1, c2⟩ := XB2.out.triV
  go_wp2_with fail
  refine (number_ok W2 R a n c l (j + 1) HRD2.out 8 (by have := HS.out; have := HN.out.2; omega) (by decide) (by decide)).mono ?_
  rintro e w3 ⟨rfl, h1, h2⟩
  rw [HNQ.out]
  have XB3 : Hid (Box w3 g _ 38) := XB2.out.grown h2 (by have := HR.out; have := HBG.out; omega)
  have RB3 : Hid (Box w3 B #[.int .i64 0, .int .i64 0, .string ⟨#[]⟩] 38) := RB2.out.grown h2 (by have := HR.out; omega)
  have HG3 : Hid (w.grownBy w3 (some R)) := HG2.out.trans h2
  have HRD3 : Hid (RdAt w3 R a n c l _) := h1
  clear h1 h2 c0 c1 c2
  obtain ⟨W4, hW⟩ : ∃ W4, (w3.setCell ⟨g, 1, none⟩ (.int .i64 N)).setCell ⟨g, 1, none⟩ (.int .i64 (wrap64 (N - 4611686018427387904))) = W4 := ⟨_, rfl⟩
  have HW4 : Hid ((w3.setCell ⟨g, 1, none⟩ (.int .i64 N)).setCell ⟨g, 1, none⟩ (.int .i64 (wrap64 (N - 4611686018427387904))) = W4) := hW
  have hb : Below B w3 W4 := by rw [← hW]; exact ((Below.refl B _).setCell (Nat.le_of_lt HBG.out) _).setCell (Nat.le_of_lt HBG.out) _
  have XB4 : Hid (Box W4 g #[.int .i64 2, .int .i64 (wrap64 (N - 4611686018427387904)), .string ⟨#[]⟩] 38) := by rw [← hW]; exact (XB3.out.put 1 (.int .i64 N)).put 1 (.int .i64 (wrap64 (N - 4611686018427387904)))
  have RB4 : Hid (Box W4 B #[.int .i64 0, .int .i64 0, .string ⟨#[]⟩] 38) := by rw [← hW]; exact (RB3.out.set (Nat.ne_of_lt HBG.out) _).set (Nat.ne_of_lt HBG.out) _
  have HG4 : Hid (w.grownBy W4 (some R)) := far_since HG3.out (by rw [HBQ.out]; exact hb)
  have HRD4 : Hid (RdAt W4 R a n c l _) := HRD3.out.since hb HR.out HLT.out
  obtain ⟨c0, c1, c2⟩ := XB3.out.triV
  have f1 := XB3.out.frozen 1
  clear hW hb
  go_upto_region 12 with (fail)
  rw [HW4.out]
  clear c0 c1 c2 f1
  by_cases hg : VaGood 2 (wrap64 (N - 4611686018427387904)) ⟨#[]⟩
  · have HGD : Hid (VaGood 2 (wrap64 (N - 4611686018427387904)) ⟨#[]⟩) := hg
    have HVG : Hid (decide (VaGood 2 (wrap64 (N - 4611686018427387904)) ⟨#[]⟩) = true) := decide_eq_true hg
    clear hg
    obtain ⟨c0, c1, c2⟩ := XB4.out.triV
    go_wp2_with fail
    refine (implValueOk_any 2 (wrap64 (N - 4611686018427387904)) ⟨#[]⟩ _).mono ?_
    rintro e w9 ⟨rfl, hb⟩
    rw [HVG.out]
    have HRD9 : Hid (RdAt w9 R a n c l _) := HRD4.out.below hb
    have HG9 : Hid (w.grownBy w9 (some R)) := far_below_of HG4.out hb
    have RB9 : Hid (Box w9 B #[.int .i64 0, .int .i64 0, .string ⟨#[]⟩] 38) := RB4.out.below hb RB4.out.lt
    have XB9 : Hid (Box w9 g #[.int .i64 2, .int .i64 (wrap64 (N - 4611686018427387904)), .string ⟨#[]⟩] 38) := XB4.out.below hb XB4.out.lt
    clear hb c0 c1 c2
    obtain ⟨c0, c1, c2⟩ := XB9.out.triV
    obtain ⟨r0, r1, r2⟩ := RB9.out.triV
    have z0 := RB9.out.frozen 0
    have z1 := RB9.out.frozen 1
    have z2 := RB9.out.frozen 2
    go_wp2
    have E := ((RB9.out.put 0 (.int .i64 2)).put 1 (.int .i64 (wrap64 (N - 4611686018427387904)))).put 2 (.string ⟨#[]⟩)
    have q0 := E.cell 0
    have q1 := E.cell 1
    have q2 := E.cell 2
    refine bodyPost_ret (by simp [results, Tryd.results32, go_sem, q0, q1, q2]; try rfl) rfl ?_
    exact ⟨.inl ⟨(2, (wrap64 (N - 4611686018427387904)), ⟨#[]⟩), _, rfl, by have h := HGD.out; rw [← HNQ.out] at h ⊢; exact va_int HX.out HS.out h, HRD9.out.since (below_put3 _ _ _ _ _) HR.out HLT.out⟩, far_since HG9.out (by rw [HBQ.out]; exact below_put3 _ _ _ _ _)⟩
  · have HGD : Hid (¬ VaGood 2 (wrap64 (N - 4611686018427387904)) ⟨#[]⟩) := hg
    have HVG : Hid (decide (VaGood 2 (wrap64 (N - 4611686018427387904)) ⟨#[]⟩) = false) := decide_eq_false hg
    clear hg
    obtain ⟨c0, c1, c2⟩ := XB4.out.triV
    go_wp2_with fail
    refine (implValueOk_any 2 (wrap64 (N - 4611686018427387904)) ⟨#[]⟩ _).mono ?_
    rintro e w9 ⟨rfl, hb⟩
    rw [HVG.out]
    have HRD9 : Hid (RdAt w9 R a n c l _) := HRD4.out.below hb
    have HG9 : Hid (w.grownBy w9 (some R)) := far_below_of HG4.out hb
    have RB9 : Hid (Box w9 B #[.int .i64 0, .int .i64 0, .string ⟨#[]⟩] 38) := RB4.out.below hb RB4.out.lt
    have XB9 : Hid (Box w9 g #[.int .i64 2, .int .i64 (wrap64 (N - 4611686018427387904)), .string ⟨#[]⟩] 38) := XB4.out.below hb XB4.out.lt
    clear hb c0 c1 c2
    obtain ⟨r0, r1, r2⟩ := RB9.out.triV
    have z0 := RB9.out.frozen 0
    have z1 := RB9.out.frozen 1
    have z2 := RB9.out.frozen 2
    go_wp2
    have E := ((RB9.out.put 0 (.int .i64 0)).put 1 (.int .i64 0)).put 2 (.string ⟨#[]⟩)
    have q0 := E.cell 0
    have q1 := E.cell 1
    have q2 := E.cell 2
    refine bodyPost_ret (by simp [results, Tryd.results32, go_sem, q0, q1, q2]; try rfl) rfl ?_
    exact ⟨.inr ⟨_, _, rfl, by have h := HGD.out; rw [← HNQ.out] at h; exact VaNo.of (rd_int8 HX.out) h, HRD9.out.since (below_put3 _ _ _ _ _) HR.out HLT.out⟩, far_since HG9.out (by rw [HBQ.out]; exact below_put3 _ _ _ _ _)⟩
end
end Go.Proofs.YtgibeakclknhnabDoor
