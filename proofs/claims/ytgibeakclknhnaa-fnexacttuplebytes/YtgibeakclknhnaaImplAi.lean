/- The program's appendInt and appendText: bytes put behind bytes of the caller's own. -/
import Derived.Test.YtgibeakclknhnaaBe18
import Derived.Test.YtgibeakclknhnaaAppB
import Derived.Test.YtgibeakclknhnaaTextS
import Derived.Test.YtgibeakclknhnaaCur
import Derived.Maps.AppendAt
import Derived.Maps.Range
import Derived.Deep.Cut
namespace Go.Proofs.Ytgibeakclknhnaa
open Go.ChangeShapes Go.WideShapes Go.ChangeAt Go.RowKit
open Go.Lib (byteCells byteCells_length byteCells_append)

/-- What a call leaves as it was: all but the list's own block, which is what it was, or is new. -/
def Grw (w : World) (v : Value) (w' : World) (v' : Value) : Prop := w.grownBy w' v.ownBlock ∧ ∀ j, v'.ownBlock = some j → w.heap.size ≤ j ∨ v.ownBlock = some j
theorem Grw.refl (w : World) (v : Value) : Grw w v w v := ⟨⟨rfl, rfl, rfl, Nat.le_refl _, fun _ _ _ => rfl⟩, fun _ h => .inr h⟩
theorem Grw.trans {w w1 w2 : World} {v v1 v2 : Value} (h : Grw w v w1 v1) (k : Grw w1 v1 w2 v2) : Grw w v w2 v2 :=
  ⟨h.1.andThen k.1 h.2, fun j e => (k.2 j e).elim (fun x => .inl (Nat.le_trans h.1.size x)) (h.2 j)⟩
theorem Grw.alloc {w w1 : World} {v v1 : Value} (h : Grw w v w1 v1) (o : Obj) : Grw w v (w1.alloc o) v1 := ⟨h.1.trans (World.grownBy_alloc w1 o _), h.2⟩
theorem Grw.below {w w1 w2 : World} {v v1 : Value} (h : Grw w v w1 v1) (hb : Below w1.heap.size w1 w2) : Grw w v w2 v1 := ⟨h.1.trans ⟨hb.os, hb.tape, hb.output, hb.size, fun k hk _ => hb.block k hk⟩, h.2⟩
theorem Grw.bel {a w w' : World} {v v' : Value} {B : Nat} (h : Grw w v w' v') (hb : Below B a w) (hs : B ≤ w.heap.size) (hv : ∀ k, v.ownBlock = some k → B ≤ k) : Below B a w' := below_app hb hs hv h.1
theorem Grw.box {w w' : World} {v v' : Value} {b : Nat} {cs : Array Value} {T : TypeId} (h : Grw w v w' v') (hb : Box w b cs T) (hne : ∀ k, v.ownBlock = some k → k ≠ b) : Box w' b cs T :=
  (h.1.block b hb.lt (fun e => hne b e.symm rfl)).trans hb
/-- append of bytes onto such a list: what it leaves as it was, and where the new list lies. -/
theorem list_appG {ops : Array Oper} {rest : List Oper} {o : Oper} {a : Act} (w : World) {Q : Exit → Act → World → Prop} (hg : o.guard = none) (s x : Operand)
    (ho : o.op = .call { callee := .builtin .append, args := #[s, x], argTypes := #[22, 22] })
    (base : Nat) (v : Value) (l : List UInt8) (hs : a.eval s = v) (hown : BOwn w base v l)
    (ad : Addr) (c : Nat) (news : List UInt8) (hx : a.eval x = .slice (some ad) news.length c) (hnews : ∀ j u, (byteCells news)[j]? = some u → w.cell? (ad.add j) = some u)
    (hle : l.length + news.length ≤ 1099511627776) (hbase : base ≤ w.heap.size)
    (h : ∀ v' w', BOwn w' base v' (l ++ news) → (∀ w0 v0, Grw w0 v0 w v → Grw w0 v0 w' v') → wpList Try.prog ops Q rest (a.put o.dst v') w') : wpList Try.prog ops Q (o :: rest) a w := by
  obtain ⟨i0, hi, hz0, hz1, hz2⟩ := info_parts infoByte
  refine wpList_append_own_at (w := w) hg s x 22 ho base 5 i0 (.int .u8 0) 1 1 Try.underlying22 hi hz0 hz1 hz2 (by rfl) (by decide) v l.length (byteCells l) hs hown ad news.length c (byteCells news) hx (by simp [byteCells_length]) hnews bcell_one (by unfold maxLen; omega) (by omega) hbase ?_
  intro v' w' hown' hgrow _ hat
  refine h v' w' ?_ (fun w0 v0 h0 => h0.trans ⟨hgrow, fun j e => hat.elim (fun x => .inr (x ▸ e)) (fun x => .inl (by rw [x] at e; cases e; exact Nat.le_refl _))⟩)
  unfold BOwn
  rw [byteCells_append, List.length_append]
  exact hown'
/-- The answer is the bytes, of the caller's own as they were. -/
def AppSays (base : Nat) (w : World) (v : Value) (l : List UInt8) (e : Ending) (w' : World) : Prop := ∃ v', e = .returned v' ∧ BOwn w' base v' l ∧ Grw w v w' v'
theorem shift_byte2 {m : Nat} {j : Nat} (h : j < 8) : (m : Int) / 2 ^ (8 * (7 - j)) % 256 = ((m / 256 ^ (8 - 1 - j) % 256 : Nat) : Int) := by
  have h1 := shift_byte (m := m) h
  rw [show (56 - 8 * (j : Int)).toNat = 8 * (7 - j) by omega] at h1
  exact h1
set_option maxHeartbeats 4000000 in
set_option maxRecDepth 100000 in
theorem appendInt_any (base : Nat) (v : Value) (l : List UInt8) (n : Int) (hn : -1000000000000 ≤ n ∧ n ≤ 1000000000000) (m : Nat) (hm : n + 4611686018427387904 = (m : Int)) (w : World) (ho : BOwn w base v l) (hl : l.length ≤ 1000000) (hb : base ≤ w.heap.size) :
    Calls Try.prog 52 #[v, .int .i64 n] w fun e w' => AppSays base w v (l ++ beN 8 m) e w' := by
  have HO0 : Hid (BOwn w base v l) := ho
  have HSB : Hid (base ≤ w.heap.size) := hb
  have HLL : Hid (l.length ≤ 1000000) := hl
  have hm0 : (0 : Int) ≤ (m : Int) := by omega
  have hm1 : (m : Int) ≤ 9223372036854775807 := by omega
  have hadd : wrap64 (n + 4611686018427387904) = (m : Int) := by rw [hm]; unfold wrap64; omega
  clear ho hl hb hm hn
  go_enter Try.func52, Try.ntmps52
  go_wp2
  go_loopw [0, 6] (fun u i wr => ∃ j : Nat, j ≤ 8 ∧ i = .int .i64 (j : Int) ∧ BOwn wr base u (l ++ (beN 8 m).take j) ∧ Grw w v wr u) (fun _ i _ => (8 - RowKit.intOf i).toNat)
  case atStart => exact ⟨0, Nat.zero_le _, rfl, by rw [List.take_zero, List.append_nil]; exact HO0.out, Grw.refl _ _⟩
  case round =>
    obtain ⟨j, hj, rfl, ho, hk⟩ := hrel
    have HO : Hid (BOwn wr base u0 (l ++ (beN 8 m).take j)) := ho
    have HKP : Hid (Grw w v wr u0) := hk
    have HSZ : Hid (base ≤ wr.heap.size) := Nat.le_trans HSB.out hk.1.size
    clear ho hk
    by_cases hlt : j < 8
    · have hk0 : (0 : Int) ≤ (j : Int) := by omega
      have hk1 : (j : Int) < 8 := by omega
      have HSH := shift_byte2 (m := m) hlt
      obtain ⟨q, hq⟩ : ∃ q : Nat, m / 256 ^ (8 - 1 - j) % 256 = q := ⟨_, rfl⟩
      have hq256 : q < 256 := by omega
      have HNEW : Hid ((l ++ (beN 8 m).take j) ++ [UInt8.ofNat q] = l ++ (beN 8 m).take (j + 1)) := by show _ = _; rw [beN_succ hlt, hq, List.append_assoc]
      rw [hq] at HSH
      have HLEN : Hid ((l ++ (beN 8 m).take j).length ≤ 1000008) := by show _ ≤ _; rw [List.length_append, List.length_take]; have := HLL.out; omega
      have HQ : Hid (.int .u8 (q : Int) = (Value.int .u8 ((UInt8.ofNat q).toNat : Int))) := by show _ = _; rw [u8_nat hq256]
      clear hq
      go_upto_region 4 with (fail)
      (try rw [hadd])
      go_wp2_with
        (at_builtin
         refine list_appG _ rfl _ _ rfl base u0 _ rfl (HO.out.alloc _) ⟨wr.heap.size, 0, none⟩ 1 [UInt8.ofNat q] rfl (bnews _ _ rfl _ (by rw [HQ.out]; rfl)) (by have := HLEN.out; simp only [List.length_cons, List.length_nil]; omega) (by have := HSZ.out; simp; omega) ?_
         intro v1 w1 hown hbel
         have HO1 : Hid (BOwn w1 base v1 _) := hown
         have HK1 : Hid (Grw w v w1 v1) := hbel _ _ (HKP.out.alloc _)
         have HS1 : Hid (base ≤ w1.heap.size) := Nat.le_trans HSB.out HK1.out.1.size
         clear hown hbel)
      have HO1' := HO1
      rw [HNEW.out] at HO1'
      go_roundw
      case rel => exact ⟨j + 1, by omega, by go_num, HO1'.out, HK1.out⟩
      case measure => simp [RowKit.intOf]; omega
    · obtain rfl : 8 = j := by omega
      have HT : Hid (BOwn wr base u0 (l ++ beN 8 m)) := by
        have h1 := HO.out
        rw [List.take_of_length_le (by rw [beN_length]; exact Nat.le_refl _)] at h1
        exact h1
      go_wp2
      go_ret
      exact ⟨_, rfl, HT.out, HKP.out⟩
end Go.Proofs.Ytgibeakclknhnaa
